/- Parts. -/
import Derived.Test.YtoojabllolnhnaaDoorLaw22AllK1
import Derived.Deep.Slices
import Derived.Deep.Strs
set_option maxRecDepth 10000
set_option maxHeartbeats 16000000
set_option linter.unusedVariables false
set_option linter.unusedSimpArgs false
namespace Go.Proofs.YtoojabllolnhnaaDoor
open Go.RowKit Go.ChangeShapes Go.WideShapes
section
variable {w w' : World} {B : Nat} {A : Option Addr} {xs : List Value}
end
section
variable {H : Type} {enc : TypeId × Value → H} {P : Program} {w : World}
end
section
variable {H : Type} {enc : TypeId × Value → H} {P : Program} {w : World}
open Go.Deep
end
end Go.Proofs.YtoojabllolnhnaaDoor
