/- Contracts of the reference of layer 5: Print. -/
import Derived.Test.YtdbhndgoajjanaaDoorValueRM
import Derived.Test.YtdbhndgoajjanaaDoorDigitRPr
set_option linter.unusedVariables false
set_option linter.unusedSimpArgs false
namespace Go.Proofs.YtdbhndgoajjanaaDoor
open Go.RowKit

theorem rvprint_any (k n : Int) (w : World) (h1 : -9223372036854775808 ≤ n) (h2 : n ≤ 9223372036854775807) :
    Calls Tryd.prog 16 #[.agg #[.int .i64 k, .int .i64 n]] w fun e w' => e = .returned (.tuple #[.string ⟨(vText k n).toArray⟩, .int .i64 (vErr k n)]) ∧ Only [] w w' := by
  have hm := fun w => rmay_any k n w
  have hp := fun w => rprint_any n w h1 h2
  have HM := Lib.hid hm
  have HP := Lib.hid hp
  clear hm hp
  rcases mayB_cases k n with ⟨a, b, c⟩ | ⟨a, b, rfl, c⟩ | ⟨a, b, rfl, rfl, c⟩ | ⟨a, b, rfl, rfl, c⟩
  all_goals
    rw [b, c]
    have HM' : ∀ w, Hid (Calls Tryd.prog 20 #[.agg #[.int .i64 _, .int .i64 _]] w fun e w' => e = .returned (.bool _) ∧ Only [] w w') := fun w => by
      have := HM.out w; rw [a] at this; exact this
    have HMH := Lib.hid HM'
    clear HM HM' a b c
    go_enter Tryd.func16, Tryd.ntmps16
    go_wp2_with fail
    refine (HMH.out _).out.mono ?_
    rintro e w1 ⟨rfl, O1⟩
    have b1 := O1.blk (Blk.made w 23 #[.int .i64 _, .int .i64 _]) (by simp)
    have c0 := b1.at_ 0
    have c1 := b1.at_ 1
    simp at c0 c1
    have HO := Lib.hid (((Only.refl [] w).alloc (.cells #[.int .i64 _, .int .i64 _] 23)).trans O1)
    clear b1 O1
    go_wp2_with fail
    first
      | (refine (HP.out _).mono ?_
         rintro e w2 ⟨rfl, O2⟩
         go_wp2
         go_ret2
         exact ⟨rfl, HO.out.trans O2⟩)
      | (go_ret2
         exact ⟨rfl, HO.out⟩)

end Go.Proofs.YtdbhndgoajjanaaDoor
