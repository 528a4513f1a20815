/- All cards of law 43. -/
import Derived.Test.YtojpohmijlkagaaDoorLaw43AllK47
import Derived.Test.YtojpohmijlkagaaDoorLaw43AllK49
set_option maxRecDepth 10000
set_option maxHeartbeats 16000000
set_option linter.unusedVariables false
set_option linter.unusedSimpArgs false
namespace Go.Proofs.YtojpohmijlkagaaDoor
theorem law43_all : Rows.ScriptParsesCardSaid ∧ Rows.ScriptPrintsCardSaid ∧ Rows.ScriptBackCardSaid := ⟨scriptParses_card, scriptPrints_card, scriptBack_card⟩
end Go.Proofs.YtojpohmijlkagaaDoor
