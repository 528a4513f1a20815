/- The other cards of law 24. -/
import Derived.Test.YthdofaoamljkfaaGreatDoorLaw24AllK49
set_option maxRecDepth 10000
set_option maxHeartbeats 16000000
set_option linter.unusedVariables false
set_option linter.unusedSimpArgs false
namespace Go.Proofs.YthdofaoamljkfaaGreatDoor
theorem law24_all : Rows.WrNextCardSaid ∧ Rows.WrAllCardSaid := ⟨wrNext_card, wrAll_card⟩
end Go.Proofs.YthdofaoamljkfaaGreatDoor
