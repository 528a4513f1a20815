/-
  DERIVED. GIVEN WITH THE SEED: THE CARDS: each row of YthaeomdpaadilaaGreatDoorRows.lean that lists a variable, with what it lists TIED to the program's text (the seventh form; the later family's looks); each row that meets fmt, with fmt's text TOLD by the authors' own Lean function (tested against real Go, not proved from fmt's source: count such statements apart). THE CARD IS WHAT COUNTS. Prove the row's statement (the work); the ties are given (YthaeomdpaadilaaGreatDoorTie.lean); close each card by the builder's one call (the guide's Derived/Test/ToyasCard.lean, 'card_holds'). Laid BY PROGRAM, IN A SANDBOX (cutbox-door.mjs). By AI agents, Wed Nov 11 2026. No macro, syntax, notation, axiom, sorry.
-/
import Derived.Test.YthaeomdpaadilaaGreatDoorRows
import GoSem.ClaimSeven
namespace Go.Proofs.YthaeomdpaadilaaGreatDoor
namespace Rows

/-- THE TIED CARD OF 'deemsterlaw12.ShowEvents'. -/
def showEventsCard : Claim7 := { stood := { row := showEventsRow, standIns := [], harness := (true, "bb5de1250f7067a67c4ff4d81000c33dd36bc50fc262d7670af3d8705b84f542"), looks := false }, kinds := [], alts := [], laidByText := true, laidKinds := [.data, .data, .pinned], laidTests := true, laidLooks := .later }
def ShowEventsCardSaid : Prop := Claim7.holds Tryz.pinned (.plain (OpenSpec.ofChange showEventsSpec)) showEventsCard

/-- THE TIED CARD OF 'deemsterlaw12.ShowParses'. -/
def showParsesCard : Claim7 := { stood := { row := showParsesRow, standIns := [], harness := (true, "bb5de1250f7067a67c4ff4d81000c33dd36bc50fc262d7670af3d8705b84f542"), looks := false }, kinds := [], alts := [], laidByText := true, laidKinds := [.data, .data, .pinned], laidTests := true, laidLooks := .later }
def ShowParsesCardSaid : Prop := Claim7.holds Tryz.pinned (.plain (OpenSpec.ofChange showParsesSpec)) showParsesCard

/-- THE TIED CARD OF 'deemsterlaw12.ShowBack'. -/
def showBackCard : Claim7 := { stood := { row := showBackRow, standIns := [], harness := (true, "bb5de1250f7067a67c4ff4d81000c33dd36bc50fc262d7670af3d8705b84f542"), looks := false }, kinds := [], alts := [], laidByText := true, laidKinds := [.data, .data, .pinned], laidTests := true, laidLooks := .later }
def ShowBackCardSaid : Prop := Claim7.holds Tryz.pinned (.plain (OpenSpec.ofChange showBackSpec)) showBackCard

/-- THE SECOND FORM's CARD OF 'deemsterlaw12.ShowEvents'. -/
def showEventsUptoCard : Claim7 := { stood := { row := showEventsUptoRow, standIns := [], harness := (true, "bb5de1250f7067a67c4ff4d81000c33dd36bc50fc262d7670af3d8705b84f542"), looks := false }, kinds := [], alts := [], laidByText := true, laidKinds := [.data, .data, .pinned], laidTests := true, laidLooks := .later }
def ShowEventsUptoCardSaid : Prop := Claim7.holds Tryz.pinned (.plain (OpenSpec.upto showEventsSpec)) showEventsUptoCard

/-- THE SECOND FORM's CARD OF 'deemsterlaw12.ShowParses'. -/
def showParsesUptoCard : Claim7 := { stood := { row := showParsesUptoRow, standIns := [], harness := (true, "bb5de1250f7067a67c4ff4d81000c33dd36bc50fc262d7670af3d8705b84f542"), looks := false }, kinds := [], alts := [], laidByText := true, laidKinds := [.data, .data, .pinned], laidTests := true, laidLooks := .later }
def ShowParsesUptoCardSaid : Prop := Claim7.holds Tryz.pinned (.plain (OpenSpec.upto showParsesSpec)) showParsesUptoCard

/-- THE SECOND FORM's CARD OF 'deemsterlaw12.ShowBack'. -/
def showBackUptoCard : Claim7 := { stood := { row := showBackUptoRow, standIns := [], harness := (true, "bb5de1250f7067a67c4ff4d81000c33dd36bc50fc262d7670af3d8705b84f542"), looks := false }, kinds := [], alts := [], laidByText := true, laidKinds := [.data, .data, .pinned], laidTests := true, laidLooks := .later }
def ShowBackUptoCardSaid : Prop := Claim7.holds Tryz.pinned (.plain (OpenSpec.upto showBackSpec)) showBackUptoCard
end Rows
end Go.Proofs.YthaeomdpaadilaaGreatDoor
