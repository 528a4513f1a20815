/- base.HasInt. -/
import Derived.Test.YtlipapclbemjjaaDoorCloseStaysCardK3
import Derived.Test.YtlipapclbemjjaaDoorCloseStaysCardK4
set_option linter.unusedVariables false
set_option linter.unusedSimpArgs false
namespace Go.Proofs.YtlipapclbemjjaaDoor
open Go.RowKit
open Go.Lib
attribute [local go_sem ↓] Go.wp_at_zero Go.wp_at_succ
end Go.Proofs.YtlipapclbemjjaaDoor
