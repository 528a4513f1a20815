/- All cards of law 15 that are handed in together. -/
import Derived.Test.YtjfbeeogiejopaaGreatDoorLaw15AllK47
import Derived.Test.YtjfbeeogiejopaaGreatDoorLaw15AllK49
set_option linter.unusedVariables false
namespace Go.Proofs.YtjfbeeogiejopaaGreatDoor
theorem law15_all : Rows.WriterFreshCardSaid ∧ Rows.WriterHasCardSaid := ⟨writerFresh_card, writerHas_card⟩
end Go.Proofs.YtjfbeeogiejopaaGreatDoor
