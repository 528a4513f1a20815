/- The cards of BoundOf and BoundProducts. -/
import Derived.Test.YtbiclliooidkjaaGreatDoorLaw41AllK49
set_option maxRecDepth 10000
set_option maxHeartbeats 16000000
set_option linter.unusedVariables false
set_option linter.unusedSimpArgs false
namespace Go.Proofs.YtbiclliooidkjaaGreatDoor
theorem law41_two : Rows.BoundOfCardSaid ∧ Rows.BoundProductsCardSaid := ⟨boundOf_card, boundProducts_card⟩
end Go.Proofs.YtbiclliooidkjaaGreatDoor
