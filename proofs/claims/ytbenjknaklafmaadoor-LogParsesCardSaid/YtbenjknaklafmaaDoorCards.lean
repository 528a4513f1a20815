/-
  DERIVED. GIVEN WITH THE SEED: THE CARDS: each row of YtbenjknaklafmaaDoorRows.lean that lists a variable, with what it lists TIED to the program's text (the seventh form; the later family's looks); each row that meets fmt, with fmt's text TOLD by the authors' own Lean function (tested against real Go, not proved from fmt's source: count such statements apart). THE CARD IS WHAT COUNTS. Prove the row's statement (the work); the ties are given (YtbenjknaklafmaaDoorTie.lean); close each card by the builder's one call (the guide's Derived/Test/ToyasCard.lean, 'card_holds'). Laid BY PROGRAM, IN A SANDBOX (cutbox-door.mjs). By AI agents, Wed Nov 11 2026. No macro, syntax, notation, axiom, sorry.
-/
import Derived.Test.YtbenjknaklafmaaDoorRows
import GoSem.ClaimSeven
namespace Go.Proofs.YtbenjknaklafmaaDoor
namespace Rows

/-- THE TIED CARD OF 'deemsterlaw08.LogParses'. -/
def logParsesCard : Claim7 := { stood := { row := logParsesRow, standIns := [], harness := (true, "570c12895fcb32afff143aebc011a62c767310c35da0b592f8b4b4a5703e5161"), looks := false }, kinds := [], alts := [], laidByText := true, laidKinds := [.data, .data, .pinned], laidTests := true, laidLooks := .later }
def LogParsesCardSaid : Prop := Claim7.holds Tryd.pinned (.plain (OpenSpec.ofChange logParsesSpec)) logParsesCard

/-- THE TIED CARD OF 'deemsterlaw08.LogPrints'. -/
def logPrintsCard : Claim7 := { stood := { row := logPrintsRow, standIns := [], harness := (true, "570c12895fcb32afff143aebc011a62c767310c35da0b592f8b4b4a5703e5161"), looks := false }, kinds := [], alts := [], laidByText := true, laidKinds := [.data, .data, .pinned], laidTests := true, laidLooks := .later }
def LogPrintsCardSaid : Prop := Claim7.holds Tryd.pinned (.plain (OpenSpec.ofChange logPrintsSpec)) logPrintsCard

/-- THE TIED CARD OF 'deemsterlaw08.LogBack'. -/
def logBackCard : Claim7 := { stood := { row := logBackRow, standIns := [], harness := (true, "570c12895fcb32afff143aebc011a62c767310c35da0b592f8b4b4a5703e5161"), looks := false }, kinds := [], alts := [], laidByText := true, laidKinds := [.data, .data, .pinned], laidTests := true, laidLooks := .later }
def LogBackCardSaid : Prop := Claim7.holds Tryd.pinned (.plain (OpenSpec.ofChange logBackSpec)) logBackCard

/-- THE SECOND FORM's CARD OF 'deemsterlaw08.LogParses'. -/
def logParsesUptoCard : Claim7 := { stood := { row := logParsesUptoRow, standIns := [], harness := (true, "570c12895fcb32afff143aebc011a62c767310c35da0b592f8b4b4a5703e5161"), looks := false }, kinds := [], alts := [], laidByText := true, laidKinds := [.data, .data, .pinned], laidTests := true, laidLooks := .later }
def LogParsesUptoCardSaid : Prop := Claim7.holds Tryd.pinned (.plain (OpenSpec.upto logParsesSpec)) logParsesUptoCard

/-- THE SECOND FORM's CARD OF 'deemsterlaw08.LogPrints'. -/
def logPrintsUptoCard : Claim7 := { stood := { row := logPrintsUptoRow, standIns := [], harness := (true, "570c12895fcb32afff143aebc011a62c767310c35da0b592f8b4b4a5703e5161"), looks := false }, kinds := [], alts := [], laidByText := true, laidKinds := [.data, .data, .pinned], laidTests := true, laidLooks := .later }
def LogPrintsUptoCardSaid : Prop := Claim7.holds Tryd.pinned (.plain (OpenSpec.upto logPrintsSpec)) logPrintsUptoCard

/-- THE SECOND FORM's CARD OF 'deemsterlaw08.LogBack'. -/
def logBackUptoCard : Claim7 := { stood := { row := logBackUptoRow, standIns := [], harness := (true, "570c12895fcb32afff143aebc011a62c767310c35da0b592f8b4b4a5703e5161"), looks := false }, kinds := [], alts := [], laidByText := true, laidKinds := [.data, .data, .pinned], laidTests := true, laidLooks := .later }
def LogBackUptoCardSaid : Prop := Claim7.holds Tryd.pinned (.plain (OpenSpec.upto logBackSpec)) logBackUptoCard
end Rows
end Go.Proofs.YtbenjknaklafmaaDoor
