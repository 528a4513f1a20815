/-
  DERIVED. GIVEN WITH THE SEED: THE CARDS: each row of YtlipapclbemjjaaDoorRows.lean that lists a variable, with what it lists TIED to the program's text (the seventh form; the later family's looks); each row that meets fmt, with fmt's text TOLD by the authors' own Lean function (tested against real Go, not proved from fmt's source: count such statements apart). THE CARD IS WHAT COUNTS. Prove the row's statement (the work); the ties are given (YtlipapclbemjjaaDoorTie.lean); close each card by the builder's one call (the guide's Derived/Test/ToyasCard.lean, 'card_holds'). Laid BY PROGRAM, IN A SANDBOX (cutbox-door.mjs). By AI agents, Wed Nov 11 2026. No macro, syntax, notation, axiom, sorry.
-/
import Derived.Test.YtlipapclbemjjaaDoorRows
import GoSem.ClaimSeven
namespace Go.Proofs.YtlipapclbemjjaaDoor
namespace Rows

/-- THE TIED CARD OF 'deemsterlaw21.CloseOf'. -/
def closeOfCard : Claim7 := { stood := { row := closeOfRow, standIns := [], harness := (true, "cfc08bd00964c014497083a42803f8d7467a1abd04ecc7418726612a20acd1a8"), looks := false }, kinds := [], alts := [], laidByText := true, laidKinds := [.data], laidTests := true, laidLooks := .later }
def CloseOfCardSaid : Prop := Claim7.holds Tryd.pinned (.plain (OpenSpec.ofChange closeOfSpec)) closeOfCard

/-- THE TIED CARD OF 'deemsterlaw21.CloseThin'. -/
def closeThinCard : Claim7 := { stood := { row := closeThinRow, standIns := [], harness := (true, "cfc08bd00964c014497083a42803f8d7467a1abd04ecc7418726612a20acd1a8"), looks := false }, kinds := [], alts := [], laidByText := true, laidKinds := [.data], laidTests := true, laidLooks := .later }
def CloseThinCardSaid : Prop := Claim7.holds Tryd.pinned (.plain (OpenSpec.ofChange closeThinSpec)) closeThinCard

/-- THE TIED CARD OF 'deemsterlaw21.CloseStays'. -/
def closeStaysCard : Claim7 := { stood := { row := closeStaysRow, standIns := [], harness := (true, "cfc08bd00964c014497083a42803f8d7467a1abd04ecc7418726612a20acd1a8"), looks := false }, kinds := [], alts := [], laidByText := true, laidKinds := [.data], laidTests := true, laidLooks := .later }
def CloseStaysCardSaid : Prop := Claim7.holds Tryd.pinned (.plain (OpenSpec.ofChange closeStaysSpec)) closeStaysCard

/-- THE SECOND FORM's CARD OF 'deemsterlaw21.CloseOf'. -/
def closeOfUptoCard : Claim7 := { stood := { row := closeOfUptoRow, standIns := [], harness := (true, "cfc08bd00964c014497083a42803f8d7467a1abd04ecc7418726612a20acd1a8"), looks := false }, kinds := [], alts := [], laidByText := true, laidKinds := [.data], laidTests := true, laidLooks := .later }
def CloseOfUptoCardSaid : Prop := Claim7.holds Tryd.pinned (.plain (OpenSpec.upto closeOfSpec)) closeOfUptoCard

/-- THE SECOND FORM's CARD OF 'deemsterlaw21.CloseThin'. -/
def closeThinUptoCard : Claim7 := { stood := { row := closeThinUptoRow, standIns := [], harness := (true, "cfc08bd00964c014497083a42803f8d7467a1abd04ecc7418726612a20acd1a8"), looks := false }, kinds := [], alts := [], laidByText := true, laidKinds := [.data], laidTests := true, laidLooks := .later }
def CloseThinUptoCardSaid : Prop := Claim7.holds Tryd.pinned (.plain (OpenSpec.upto closeThinSpec)) closeThinUptoCard

/-- THE SECOND FORM's CARD OF 'deemsterlaw21.CloseStays'. -/
def closeStaysUptoCard : Claim7 := { stood := { row := closeStaysUptoRow, standIns := [], harness := (true, "cfc08bd00964c014497083a42803f8d7467a1abd04ecc7418726612a20acd1a8"), looks := false }, kinds := [], alts := [], laidByText := true, laidKinds := [.data], laidTests := true, laidLooks := .later }
def CloseStaysUptoCardSaid : Prop := Claim7.holds Tryd.pinned (.plain (OpenSpec.upto closeStaysSpec)) closeStaysUptoCard
end Rows
end Go.Proofs.YtlipapclbemjjaaDoor
