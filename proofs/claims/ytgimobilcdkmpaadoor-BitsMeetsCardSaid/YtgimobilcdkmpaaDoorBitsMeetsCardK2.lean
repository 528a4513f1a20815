/- Closed facts of the loaded program that each row's step asks. -/
import Derived.Test.YtgimobilcdkmpaaDoorBitsMeetsCardK1
set_option linter.unusedVariables false
set_option linter.unusedSimpArgs false
namespace Go.Proofs.YtgimobilcdkmpaaDoor
theorem own : ownKnob Tryd.prog.godebug = none := by kernel_rfl
theorem laidOut : laidOutB Tryd.prog = true := by kernel_rfl
end Go.Proofs.YtgimobilcdkmpaaDoor
