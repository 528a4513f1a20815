/- Parts. -/
import Derived.LaidMore
import Derived.Lib.LaidTab
import Derived.Stop.Joined
import Derived.JoinedOf
import Derived.Test.YtoojabllolnhnaaDoorTie
import Derived.Test.YtoojabllolnhnaaDoorCards
import Derived.SevenTiedAt
import Derived.Test.YtoojabllolnhnaaDoorLaw22AllK38
import Derived.Test.YtoojabllolnhnaaDoorLaw22AllK39
set_option maxRecDepth 10000
set_option maxHeartbeats 16000000
set_option linter.unusedVariables false
set_option linter.unusedSimpArgs false
namespace Go.Proofs.YtoojabllolnhnaaDoor
open Go.ChangeShapes Go.WideShapes Go.ChangeAt Go.RowKit


end Go.Proofs.YtoojabllolnhnaaDoor
