/- Rows of marks. Rows of the call's own, apart by their types; below a base. -/
import Derived.Test.YtlipapclbemjjaaDoorCloseStaysCardK3
import Derived.Test.YtlipapclbemjjaaDoorCloseStaysCardK4
set_option linter.unusedVariables false
set_option linter.unusedSimpArgs false
namespace Go.Proofs.YtlipapclbemjjaaDoor
open Go.RowKit
end Go.Proofs.YtlipapclbemjjaaDoor

set_option linter.unusedVariables false
set_option linter.unusedSimpArgs false
namespace Go.Proofs.YtlipapclbemjjaaDoor
open Go.RowKit
theorem own_lower {w : World} {base base' : Nat} {e : TypeId} {size : Nat} {v : Value} {n : Nat} {xs : List Value} (h : w.ownsRow base e size v n xs) (hb : base' ≤ base) : w.ownsRow base' e size v n xs := by
 obtain ⟨hl, hv⟩ := h
 refine ⟨hl, ?_⟩
 rcases hv with hv | ⟨g, cap, cur, rfl, h1, rest⟩
 ·exact .inl hv
 ·exact .inr ⟨g, cap, cur, rfl, Nat.le_trans hb h1, rest⟩
end Go.Proofs.YtlipapclbemjjaaDoor
