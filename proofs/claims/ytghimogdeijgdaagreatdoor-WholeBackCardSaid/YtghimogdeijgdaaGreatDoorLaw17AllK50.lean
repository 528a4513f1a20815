/- Root of the packing of law 17. -/
import Derived.Test.YtghimogdeijgdaaGreatDoorLaw17AllK48
import Derived.Test.YtghimogdeijgdaaGreatDoorLaw17AllK49
set_option maxRecDepth 10000
set_option maxHeartbeats 16000000
set_option linter.unusedVariables false
set_option linter.unusedSimpArgs false
namespace Go.Proofs.YtghimogdeijgdaaGreatDoor
theorem law17_all : Rows.WholeMakesCardSaid ∧ Rows.WholeWorldsCardSaid ∧ Rows.WholeBackCardSaid := ⟨wholeMakes_card, wholeWorlds_card, wholeBack_card⟩
end Go.Proofs.YtghimogdeijgdaaGreatDoor
