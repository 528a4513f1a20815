/- LineRunes: the walk. -/
import Derived.Test.YtggpbgbnefgebaaDoorLineTrim
import Derived.Test.YtggpbgbnefgebaaDoorLineC
import Derived.Test.YtggpbgbnefgebaaDoorRLineB
set_option linter.unusedVariables false
set_option linter.unusedSimpArgs false
namespace Go.Proofs.YtggpbgbnefgebaaDoor
open Go.RowKit
open Go.Lib hiding intOf
attribute [local go_sem ↓] Go.wp_at_zero Go.wp_at_succ

set_option maxHeartbeats 4000000 in
theorem lineRunes_walk (s : ByteArray) (a : Int) (w : World) (hs : s.size ≤ 9223372036854775807) (hT : UTabs w) :
    Calls Tryd.prog 4 #[.string s, .int .i64 a] w fun e w' => e = .returned (.bool true) ∧ Only [] w w' := by
  have HS := Lib.hid (short_any s w hs)
  have hsz := shortS_size s
  have hT0 := hT
  have HW := Lib.hid (fun (w' : World) (hO : Only [] w w') => works01_any w' (hT0.only hO))
  generalize shortS s = x at *
  have HL := Lib.hid (runes_any x w (by omega) hT)
  have HR := Lib.hid (fun w' => rrunes_any x w' (by omega))
  have HC := Lib.hid (fun w' (hO : Only [] w w') => col_any x a w' (by omega) (hT0.only hO))
  have HRC := Lib.hid (fun w' => rcol_any x a w' (by omega))
  have HTR := Lib.hid (fun w' => trim_any x w' (by omega))
  have HRT := Lib.hid (fun w' => rtrim_any x w' (by omega))
  generalize (if validD (by_ x) = true then (runeCount x : Int) else 0) = n at *
  generalize validD (by_ x) = v at *
  generalize (colOf x a : Int) = c at *
  generalize (⟨(trimS (by_ x) blanks).toArray⟩ : ByteArray) = t at *
  clear hT hT0 hsz hs
  have hvv : (v == v) = true := by cases v <;> rfl
  have htt : (t.toList == t.toList) = true := by simp
  go_enter Tryd.func4, Tryd.ntmps4
  go_wp2_with fail
  refine (HS.out).mono ?_
  rintro e w1 ⟨rfl, rfl⟩
  go_wp2_with fail
  refine (HL.out).mono ?_
  rintro e w1 ⟨rfl, hO1⟩
  have HO1 := Lib.hid hO1
  clear hO1
  go_wp2_with fail
  refine (HR.out _).mono ?_
  rintro e w1' ⟨rfl, rfl⟩
  go_wp2_with fail
  refine (HC.out _ HO1.out).mono ?_
  rintro e w2 ⟨rfl, hO2⟩
  have HO2 := Lib.hid (HO1.out.trans hO2)
  clear hO2
  go_wp2_with fail
  refine (HRC.out _).mono ?_
  rintro e w2' ⟨rfl, rfl⟩
  go_wp2_with fail
  refine (HTR.out _).mono ?_
  rintro e w3 ⟨rfl, hO3⟩
  have HO3 := Lib.hid (HO2.out.trans hO3)
  clear hO3
  go_wp2_with fail
  refine (HRT.out _).mono ?_
  rintro e w3' ⟨rfl, rfl⟩
  go_wp2_with fail
  refine (HW.out _ HO3.out).mono ?_
  rintro e w4 ⟨rfl, hO4⟩
  have HO4 := Lib.hid (HO3.out.trans hO4)
  clear hO4
  go_wp2
  go_ret
  exact ⟨rfl, HO4.out⟩

end Go.Proofs.YtggpbgbnefgebaaDoor
