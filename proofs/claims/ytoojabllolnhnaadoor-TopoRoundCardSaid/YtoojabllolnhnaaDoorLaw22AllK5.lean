/- Parts. -/
import Derived.Test.YtoojabllolnhnaaDoorLaw22AllK4
import Derived.Maps.AppendAt
import Derived.Laws.OwnMore
set_option maxRecDepth 10000
set_option maxHeartbeats 16000000
set_option linter.unusedVariables false
set_option linter.unusedSimpArgs false
namespace Go.Proofs.YtoojabllolnhnaaDoor
open Go.RowKit
section
variable {P : Program} (w : World)
end
theorem owb {w w' : World} {base : Nat} {e : TypeId} {size : Nat} {v : Value} {n : Nat} {xs : List Value} {g : Nat} {t : TypeId} {cs : Array Value} (h : w.ownsRow base e size v n xs) (hb : Blk w g t cs) (ho : Only [g] w w') (hne : e ≠ t := by decide) : w'.ownsRow base e size v n xs := own_only h ho (fun x hx hm => by simp at hm; subst hm; exact own_apart h hb hne (by rw [hx]; simp))
end Go.Proofs.YtoojabllolnhnaaDoor
