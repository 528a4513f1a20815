/-
  DERIVED. GIVEN WITH THE SEED: THE CARDS: each row of YtghimogdeijgdaaGreatDoorRows.lean that lists a variable, with what it lists TIED to the program's text (the seventh form; the later family's looks); each row that meets fmt, with fmt's text TOLD by the authors' own Lean function (tested against real Go, not proved from fmt's source: count such statements apart). THE CARD IS WHAT COUNTS. Prove the row's statement (the work); the ties are given (YtghimogdeijgdaaGreatDoorTie.lean); close each card by the builder's one call (the guide's Derived/Test/ToyasCard.lean, 'card_holds'). Laid BY PROGRAM, IN A SANDBOX (cutbox-door.mjs). By AI agents, Wed Nov 11 2026. No macro, syntax, notation, axiom, sorry.
-/
import Derived.Test.YtghimogdeijgdaaGreatDoorRows
import GoSem.ClaimSeven
namespace Go.Proofs.YtghimogdeijgdaaGreatDoor
namespace Rows

/-- THE TIED CARD OF 'deemsterlaw17.WholeMakes'. -/
def wholeMakesCard : Claim7 := { stood := { row := wholeMakesRow, standIns := [], harness := (true, "adc7a82ffa848c2c47f71ff3fe20392339ba96b15de03643583bf3c25cade9ed"), looks := false }, kinds := [], alts := [], laidByText := true, laidKinds := [.data, .data, .pinned], laidTests := true, laidLooks := .later }
def WholeMakesCardSaid : Prop := Claim7.holds Tryz.pinned (.plain (OpenSpec.ofChange wholeMakesSpec)) wholeMakesCard

/-- THE TIED CARD OF 'deemsterlaw17.WholeWorlds'. -/
def wholeWorldsCard : Claim7 := { stood := { row := wholeWorldsRow, standIns := [], harness := (true, "adc7a82ffa848c2c47f71ff3fe20392339ba96b15de03643583bf3c25cade9ed"), looks := false }, kinds := [], alts := [], laidByText := true, laidKinds := [.data, .data, .pinned], laidTests := true, laidLooks := .later }
def WholeWorldsCardSaid : Prop := Claim7.holds Tryz.pinned (.plain (OpenSpec.ofChange wholeWorldsSpec)) wholeWorldsCard

/-- THE TIED CARD OF 'deemsterlaw17.WholeBack'. -/
def wholeBackCard : Claim7 := { stood := { row := wholeBackRow, standIns := [], harness := (true, "adc7a82ffa848c2c47f71ff3fe20392339ba96b15de03643583bf3c25cade9ed"), looks := false }, kinds := [], alts := [], laidByText := true, laidKinds := [.data, .data, .pinned], laidTests := true, laidLooks := .later }
def WholeBackCardSaid : Prop := Claim7.holds Tryz.pinned (.plain (OpenSpec.ofChange wholeBackSpec)) wholeBackCard

/-- THE SECOND FORM's CARD OF 'deemsterlaw17.WholeMakes'. -/
def wholeMakesUptoCard : Claim7 := { stood := { row := wholeMakesUptoRow, standIns := [], harness := (true, "adc7a82ffa848c2c47f71ff3fe20392339ba96b15de03643583bf3c25cade9ed"), looks := false }, kinds := [], alts := [], laidByText := true, laidKinds := [.data, .data, .pinned], laidTests := true, laidLooks := .later }
def WholeMakesUptoCardSaid : Prop := Claim7.holds Tryz.pinned (.plain (OpenSpec.upto wholeMakesSpec)) wholeMakesUptoCard

/-- THE SECOND FORM's CARD OF 'deemsterlaw17.WholeWorlds'. -/
def wholeWorldsUptoCard : Claim7 := { stood := { row := wholeWorldsUptoRow, standIns := [], harness := (true, "adc7a82ffa848c2c47f71ff3fe20392339ba96b15de03643583bf3c25cade9ed"), looks := false }, kinds := [], alts := [], laidByText := true, laidKinds := [.data, .data, .pinned], laidTests := true, laidLooks := .later }
def WholeWorldsUptoCardSaid : Prop := Claim7.holds Tryz.pinned (.plain (OpenSpec.upto wholeWorldsSpec)) wholeWorldsUptoCard

/-- THE SECOND FORM's CARD OF 'deemsterlaw17.WholeBack'. -/
def wholeBackUptoCard : Claim7 := { stood := { row := wholeBackUptoRow, standIns := [], harness := (true, "adc7a82ffa848c2c47f71ff3fe20392339ba96b15de03643583bf3c25cade9ed"), looks := false }, kinds := [], alts := [], laidByText := true, laidKinds := [.data, .data, .pinned], laidTests := true, laidLooks := .later }
def WholeBackUptoCardSaid : Prop := Claim7.holds Tryz.pinned (.plain (OpenSpec.upto wholeBackSpec)) wholeBackUptoCard
end Rows
end Go.Proofs.YtghimogdeijgdaaGreatDoor
