/- Parts. -/
import Derived.Test.YtoojabllolnhnaaDoorLaw22AllK2
import Derived.Test.YtoojabllolnhnaaDoorLaw22AllK5
import Derived.Lib.TrailingZeros
import Derived.Laws.BitsAllLaws
import Derived.RegionTactic
set_option maxRecDepth 10000
set_option maxHeartbeats 16000000
set_option linter.unusedVariables false
set_option linter.unusedSimpArgs false
namespace Go.Proofs.YtoojabllolnhnaaDoor
open Go.RowKit


end Go.Proofs.YtoojabllolnhnaaDoor
