/- Rows of the call's own, apart by their types; below a base. -/
import Derived.Test.YtgimobilcdkmpaaDoorBitsMeetsCardK7
set_option linter.unusedVariables false
set_option linter.unusedSimpArgs false
namespace Go.Proofs.YtgimobilcdkmpaaDoor
open Go.RowKit
end Go.Proofs.YtgimobilcdkmpaaDoor
