/- Parts. -/
import Derived.Test.YtoojabllolnhnaaDoorLaw22AllK5
import Derived.Maps.OwnSet
import Derived.Maps.RangeWalk
set_option maxRecDepth 10000
set_option maxHeartbeats 16000000
set_option linter.unusedVariables false
set_option linter.unusedSimpArgs false
namespace Go.Proofs.YtoojabllolnhnaaDoor
open Go.RowKit
section
variable {H : Type} {P : Program} {w w' : World} {k : TypeId} {R : Value → Option (DataW H × List MemPlace)} {b n r : Nat} {D : DataW H} {S : List Nat}
variable {left : Lit → Bool} {cnt : Nat}
end
end Go.Proofs.YtoojabllolnhnaaDoor
