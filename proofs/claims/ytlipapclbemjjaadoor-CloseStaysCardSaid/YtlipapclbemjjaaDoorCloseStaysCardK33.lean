/- What is marked, what is left to be marked. Mathematics. -/
import Derived.Test.YtlipapclbemjjaaDoorCloseStaysCardK31
import Derived.Test.YtlipapclbemjjaaDoorCloseStaysCardK32
set_option linter.unusedVariables false
set_option linter.unusedSimpArgs false
namespace Go.Proofs.YtlipapclbemjjaaDoor
open Go.RowKit
theorem row_of_own {w : World} {base : Nat} {e : TypeId} {size n c : Nat} {A : Option Addr} {xs : List Value} (h : w.ownsRow base e size (.slice A n c) n xs) : Row w w.heap.size A xs := by
 obtain ⟨A', c', e1, -, -, -, h3⟩ := own_row h
 injection e1 with ea eb ec
 subst ea ec
 exact h3
end Go.Proofs.YtlipapclbemjjaaDoor
