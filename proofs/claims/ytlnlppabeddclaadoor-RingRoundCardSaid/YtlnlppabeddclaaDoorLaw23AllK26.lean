/- Parts. -/
import Derived.Test.YtlnlppabeddclaaDoorLaw23AllK20
set_option maxRecDepth 10000
set_option maxHeartbeats 16000000
set_option linter.unusedVariables false
set_option linter.unusedSimpArgs false
namespace Go.Proofs.YtlnlppabeddclaaDoor
open Go.RowKit
attribute [local go_sem ↓] Go.wp_at_zero Go.wp_at_succ
def rB (N : Nat) (h : List (Int × Int)) (a b : Int) : Bool := ndN N a && ndN N b && !decide ((a, b) ∈ h)
def rH (N : Nat) (h : List (Int × Int)) (e : Int × Int) : List (Int × Int) := if rB N h e.1 e.2 = true then h ++ [e] else h

end Go.Proofs.YtlnlppabeddclaaDoor
