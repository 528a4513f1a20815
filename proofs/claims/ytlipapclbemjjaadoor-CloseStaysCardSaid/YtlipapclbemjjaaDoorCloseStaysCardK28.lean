/- The document's own graph (ref 19): Put of anything, Undo, Of. -/
import Derived.Test.YtlipapclbemjjaaDoorCloseStaysCardK27
set_option linter.unusedVariables false
set_option linter.unusedSimpArgs false
namespace Go.Proofs.YtlipapclbemjjaaDoor
open Go.RowKit
attribute [local go_sem ↓] Go.wp_at_zero Go.wp_at_succ
theorem rH_len (N : Nat) (h : List (Int × Int)) (e : Int × Int) : (rH N h e).length ≤ h.length + 1 := by
 unfold rH
 split <;> simp
theorem rof_len (N : Nat) : ∀ (l h : List (Int × Int)), (l.foldl (rH N) h).length ≤ h.length + l.length
 | [], h => by simp
 | e :: l, h => by
  have := rof_len N l (rH N h e)
  have h2 := rH_len N h e
  rw [List.foldl_cons, List.length_cons]
  omega
end Go.Proofs.YtlipapclbemjjaaDoor
