/- Parts. -/
import Derived.Test.YtoojabllolnhnaaDoorRows
set_option maxRecDepth 10000
set_option maxHeartbeats 16000000
set_option linter.unusedVariables false
set_option linter.unusedSimpArgs false
namespace Go.Proofs.YtoojabllolnhnaaDoor
inductive Way (E : Nat → Nat → Prop) : Nat → Nat → Prop
 | one {a b} : E a b → Way E a b
 | more {a c b} : E a c → Way E c b → Way E a b

section
variable {E F : Nat → Nat → Prop}
end
end Go.Proofs.YtoojabllolnhnaaDoor
