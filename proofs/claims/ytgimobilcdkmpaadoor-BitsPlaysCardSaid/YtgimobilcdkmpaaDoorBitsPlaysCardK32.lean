/- Parts. -/
import Derived.Test.YtgimobilcdkmpaaDoorBitsPlaysCardK17
import Derived.Test.YtgimobilcdkmpaaDoorBitsPlaysCardK12
set_option maxRecDepth 10000
set_option maxHeartbeats 16000000
set_option linter.unusedVariables false
set_option linter.unusedSimpArgs false
namespace Go.Proofs.YtgimobilcdkmpaaDoor
open Go.RowKit
attribute [local go_sem ↓] Go.wp_at_zero Go.wp_at_succ
theorem copy_some (p : Nat) (ws : List Nat) (w : World) (h : BSet w p ws) :
  Calls Tryd.prog 16 #[.pointer (some ⟨p, 0, none⟩)] w fun e w' => e = .returned (.pointer (some ⟨w.heap.size, 0, none⟩)) ∧ BSet w' w.heap.size ws ∧ Only [] w w' := by
 have HW : Hid (ws.length = 8 ∧ ∀ k, ws.getD k 0 < 18446744073709551616) := Hd h.2;have HB := Hd h.1;obtain ⟨a0, a1, a2, a3, a4, a5, a6, a7, hws⟩ := eight h.2.1;have hwv : wv ws = #[.int .u64 a0, .int .u64 a1, .int .u64 a2, .int .u64 a3, .int .u64 a4, .int .u64 a5, .int .u64 a6, .int .u64 a7] := by rw [hws]; rfl
 have HWV := Hd hwv;rw [hwv] at HB;clear h hws hwv;go_enter Tryd.func16, Tryd.ntmps16;have c0 := HB.out.at_ 0;have c1 := HB.out.at_ 1;have c2 := HB.out.at_ 2;have c3 := HB.out.at_ 3;have c4 := HB.out.at_ 4;have c5 := HB.out.at_ 5;have c6 := HB.out.at_ 6;have c7 := HB.out.at_ 7;have lb := HB.out.lt;simp at c0 c1 c2 c3 c4 c5 c6 c7;go_wp2
 go_ret
 refine ⟨rfl, ⟨?_, HW.out⟩, ?_⟩
 ·rw [HWV.out];exact Blk.made w _ _
 ·exact (Only.refl [] w).alloc _
end Go.Proofs.YtgimobilcdkmpaaDoor
