/- Parts. -/
import Derived.Test.YtoojabllolnhnaaDoorLaw22AllK48
import Derived.Test.YtoojabllolnhnaaDoorLaw22AllK40
set_option maxRecDepth 10000
set_option maxHeartbeats 16000000
set_option linter.unusedVariables false
set_option linter.unusedSimpArgs false
namespace Go.Proofs.YtoojabllolnhnaaDoor
open Go.ChangeShapes Go.WideShapes Go.ChangeAt Go.RowKit

end Go.Proofs.YtoojabllolnhnaaDoor
