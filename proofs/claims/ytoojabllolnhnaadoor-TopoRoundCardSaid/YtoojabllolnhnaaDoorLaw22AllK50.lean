/- The laws of layer 22, all of them. -/
import Derived.Test.YtoojabllolnhnaaDoorLaw22AllK42
import Derived.Test.YtoojabllolnhnaaDoorLaw22AllK45
import Derived.Test.YtoojabllolnhnaaDoorLaw22AllK49
set_option maxRecDepth 10000
set_option maxHeartbeats 16000000
set_option linter.unusedVariables false
set_option linter.unusedSimpArgs false
namespace Go.Proofs.YtoojabllolnhnaaDoor

end Go.Proofs.YtoojabllolnhnaaDoor
