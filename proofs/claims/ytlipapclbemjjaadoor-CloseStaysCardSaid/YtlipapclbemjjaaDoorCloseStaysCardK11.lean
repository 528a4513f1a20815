/- SameInts: whether two lists of numbers are the same. -/
import Derived.Test.YtlipapclbemjjaaDoorCloseStaysCardK4
set_option linter.unusedVariables false
set_option linter.unusedSimpArgs false
namespace Go.Proofs.YtlipapclbemjjaaDoor
open Go.RowKit
end Go.Proofs.YtlipapclbemjjaaDoor
