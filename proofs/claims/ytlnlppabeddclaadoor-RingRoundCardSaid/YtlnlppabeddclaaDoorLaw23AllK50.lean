/- All cards of law 23. -/
import Derived.Test.YtlnlppabeddclaaDoorLaw23AllK49
set_option maxRecDepth 10000
set_option maxHeartbeats 16000000
set_option linter.unusedVariables false
set_option linter.unusedSimpArgs false
namespace Go.Proofs.YtlnlppabeddclaaDoor
theorem law23_all : (Rows.RingLeastCardSaid ∧ Rows.RingIsCardSaid) ∧ Rows.RingRoundCardSaid := ⟨⟨ringLeast_card, ringIs_card⟩, ringRound_card⟩
end Go.Proofs.YtlnlppabeddclaaDoor
