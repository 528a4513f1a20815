/- All cards of law 22. -/
import Derived.Test.YtoojabllolnhnaaDoorLaw22AllK43
import Derived.Test.YtoojabllolnhnaaDoorLaw22AllK46
import Derived.Test.YtoojabllolnhnaaDoorLaw22AllK49
set_option maxRecDepth 10000
set_option maxHeartbeats 16000000
set_option linter.unusedVariables false
set_option linter.unusedSimpArgs false
namespace Go.Proofs.YtoojabllolnhnaaDoor
theorem law22_all : (Rows.TopoLeastCardSaid ∧ Rows.TopoIsCardSaid) ∧ (Rows.TopoCountsCardSaid ∧ Rows.TopoRoundCardSaid) := ⟨⟨topoLeast_card, topoIs_card⟩, topoCounts_card, topoRound_card⟩
end Go.Proofs.YtoojabllolnhnaaDoor
