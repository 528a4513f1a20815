/- Parts. -/
import Derived.Test.YtlemjgjpglmphaaDoorPartOfCardK17
set_option maxRecDepth 10000
set_option maxHeartbeats 16000000
set_option linter.unusedVariables false
set_option linter.unusedSimpArgs false
namespace Go.Proofs.YtlemjgjpglmphaaDoor
open Go.RowKit
attribute [local go_sem ↓] Go.wp_at_zero Go.wp_at_succ

end Go.Proofs.YtlemjgjpglmphaaDoor
