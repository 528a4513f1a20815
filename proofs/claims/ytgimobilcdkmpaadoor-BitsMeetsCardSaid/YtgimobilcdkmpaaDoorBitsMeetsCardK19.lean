/- A region that draws its order, walked in the order of its text, under facts on the world that begin and end with operations of the region: each read is taken first under the facts that hold while it is still to come; what changes the world is carried out, and behind it the facts that then hold are shown anew. -/
import Derived.Test.YtgimobilcdkmpaaDoorBitsMeetsCardK1
import Derived.OrdersHeld
set_option linter.unusedVariables false
set_option linter.unusedSimpArgs false
namespace Go.Proofs.YtgimobilcdkmpaaDoor
section
variable {P : Program} {ops : Array Oper} {Q : Exit → Act → World → Prop} {md : Region.Mode} {S : Array Bool → World → Prop}
end
end Go.Proofs.YtgimobilcdkmpaaDoor
