/- Parts. -/
import Derived.Test.YtoojabllolnhnaaDoorLaw22AllK15
set_option maxRecDepth 10000
set_option maxHeartbeats 16000000
set_option linter.unusedVariables false
set_option linter.unusedSimpArgs false
namespace Go.Proofs.YtoojabllolnhnaaDoor


end Go.Proofs.YtoojabllolnhnaaDoor
