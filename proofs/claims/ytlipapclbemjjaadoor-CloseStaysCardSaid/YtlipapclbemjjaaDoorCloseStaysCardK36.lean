/- The document's From: what is reached from a node. -/
import Derived.Test.YtlipapclbemjjaaDoorCloseStaysCardK33
import Derived.Test.YtlipapclbemjjaaDoorCloseStaysCardK9
import Derived.Test.YtlipapclbemjjaaDoorCloseStaysCardK14
import Derived.Deep.CutBlock
import Derived.Deep.DeepCutAuto
set_option linter.unusedVariables false
set_option linter.unusedSimpArgs false
namespace Go.Proofs.YtlipapclbemjjaaDoor
open Go.RowKit
attribute [local go_sem ↓] Go.wp_at_zero Go.wp_at_succ
end Go.Proofs.YtlipapclbemjjaaDoor
