/- Parts. -/
import Derived.Test.YtoojabllolnhnaaDoorLaw22AllK25
import Derived.Test.YtoojabllolnhnaaDoorLaw22AllK26
import Derived.Test.YtoojabllolnhnaaDoorLaw22AllK27
import Derived.Maps.OwnOps
set_option maxRecDepth 10000
set_option maxHeartbeats 16000000
set_option linter.unusedVariables false
set_option linter.unusedSimpArgs false
namespace Go.Proofs.YtoojabllolnhnaaDoor
open Go.RowKit
section
variable {n : Nat} {D : DataW Unit} {f : Nat → Nat}
end
end Go.Proofs.YtoojabllolnhnaaDoor
