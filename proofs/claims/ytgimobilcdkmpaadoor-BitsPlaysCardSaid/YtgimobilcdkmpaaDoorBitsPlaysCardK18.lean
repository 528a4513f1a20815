/- Parts. -/
import Derived.Test.YtgimobilcdkmpaaDoorBitsPlaysCardK4
set_option maxRecDepth 10000
set_option maxHeartbeats 16000000
set_option linter.unusedVariables false
set_option linter.unusedSimpArgs false
namespace Go.Proofs.YtgimobilcdkmpaaDoor
open Go.RowKit

end Go.Proofs.YtgimobilcdkmpaaDoor
