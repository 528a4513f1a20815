/- NameTells: the walk. -/
import Derived.Test.YtaeildajbhiedaaDoorRNameB
set_option linter.unusedVariables false
set_option linter.unusedSimpArgs false
namespace Go.Proofs.YtaeildajbhiedaaDoor
open Go.RowKit
open Go.Lib hiding intOf
attribute [local go_sem ↓] Go.wp_at_zero Go.wp_at_succ

set_option maxHeartbeats 4000000 in
theorem nameTells_walk (s t : ByteArray) (w : World) (hs : s.size ≤ 9223372036854775807) (ht : t.size ≤ 9223372036854775807) (hT : UTabs w) :
    Calls Tryd.prog 3 #[.string s, .string t] w fun e w' => e = .returned (.bool true) ∧ Only [] w w' := by
  have HWK := Lib.hid (fun w' (h : Only [] w w') => works02_any w' (hT.only h))
  have HS1 := Lib.hid (fun w' => short2_any s w' hs)
  have HS2 := Lib.hid (fun w' => short2_any t w' ht)
  have ha := short2_size s
  have hb := short2_size t
  generalize short2 s = a at *
  generalize short2 t = b at *
  have HIA := Lib.hid (is_any a w (by omega) hT)
  have HIB := Lib.hid (fun w' => ris_any a w' (by omega))
  have HRA := Lib.hid (fun w' => reserved_any a w')
  have HRB := Lib.hid (fun w' => rreserved_any a w')
  have HLA := Lib.hid (fun w' (h : Only [] w w') => less_any a b w' (by omega) (by omega) (hT.only h))
  have HLB := Lib.hid (fun w' => rless_any a b w' (by omega) (by omega))
  generalize isName a = i at *
  generalize reservedL (by_ a) = r at *
  generalize lessL (runesL (by_ a)) (runesL (by_ b)) = l at *
  have hi : (i == i) = true := by cases i <;> rfl
  have hr : (r == r) = true := by cases r <;> rfl
  have hl : (l == l) = true := by cases l <;> rfl
  clear hs ht hT ha hb
  go_enter Tryd.func3, Tryd.ntmps3
  go_wp2_with fail
  refine (HS1.out _).mono ?_
  rintro e w1' ⟨rfl, rfl⟩
  go_wp2_with fail
  refine (HS2.out _).mono ?_
  rintro e w1' ⟨rfl, rfl⟩
  go_wp2_with fail
  refine (HIA.out).mono ?_
  rintro e w2 ⟨rfl, hO2⟩
  have HO2 := Lib.hid hO2
  clear hO2
  go_wp2_with fail
  refine (HIB.out _).mono ?_
  rintro e w3 ⟨rfl, hO3⟩
  have HO3 := Lib.hid (HO2.out.trans hO3)
  clear hO3
  go_wp2_with fail
  refine (HRA.out _).mono ?_
  rintro e w3' ⟨rfl, rfl⟩
  go_wp2_with fail
  refine (HRB.out _).mono ?_
  rintro e w3' ⟨rfl, rfl⟩
  go_wp2_with fail
  refine (HLA.out _ HO3.out).mono ?_
  rintro e w4 ⟨rfl, hO4⟩
  have HO4 := Lib.hid (HO3.out.trans hO4)
  clear hO4
  go_wp2_with fail
  refine (HLB.out _).mono ?_
  rintro e w5 ⟨rfl, hO5⟩
  have HO5 := Lib.hid (HO4.out.trans hO5)
  clear hO5
  go_wp2_with fail
  refine (HWK.out _ HO5.out).mono ?_
  rintro e w6 ⟨rfl, hO6⟩
  have HO6 := Lib.hid (HO5.out.trans hO6)
  clear hO6
  go_wp2
  go_ret
  exact ⟨rfl, HO6.out⟩

end Go.Proofs.YtaeildajbhiedaaDoor
