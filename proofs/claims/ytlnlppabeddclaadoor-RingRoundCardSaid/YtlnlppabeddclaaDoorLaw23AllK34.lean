/- Parts. -/
import Derived.Test.YtlnlppabeddclaaDoorLaw23AllK28
set_option maxRecDepth 10000
set_option maxHeartbeats 16000000
set_option linter.unusedVariables false
set_option linter.unusedSimpArgs false
namespace Go.Proofs.YtlnlppabeddclaaDoor
open Go.RowKit
theorem rmay19_any (n : Int) (A : Option Addr) (m c : Nat) (l : List (Int × Int)) (w : World) (hr : Row w w.heap.size A (edgeC l)) (hl : l.length = m) (hm : m ≤ 1000000) :
  Calls Tryd.prog 9 #[.int .i64 n, .slice A m c] w fun e w' => e = .returned (.bool (mayL n l)) ∧ w = w' := by
 by_cases hn : n < 0 ∨ 500 < n
 ·have : mayL n l = false := by unfold mayL; rw [decide_eq_false (by omega)]; rfl
  rw [this];exact rmay_out n A m c w hn
 ·obtain ⟨q, rfl⟩ : ∃ q : Nat, n = q := ⟨n.toNat, by omega⟩;have : mayL (q : Int) l = l.all (goodE q) := by unfold mayL; rw [decide_eq_true (by omega), Bool.true_and, Int.toNat_natCast]
  rw [this];exact rmay_in q A m c l w (by omega) hr hl hm
end Go.Proofs.YtlnlppabeddclaaDoor
