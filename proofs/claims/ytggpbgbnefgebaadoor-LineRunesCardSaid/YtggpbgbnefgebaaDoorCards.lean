/-
  DERIVED. GIVEN WITH THE SEED: THE CARDS: each row of YtggpbgbnefgebaaDoorRows.lean that lists a variable, with what it lists TIED to the program's text (the seventh form; the later family's looks); each row that meets fmt, with fmt's text TOLD by the authors' own Lean function (tested against real Go, not proved from fmt's source: count such statements apart). THE CARD IS WHAT COUNTS. Prove the row's statement (the work); the ties are given (YtggpbgbnefgebaaDoorTie.lean); close each card by the builder's one call (the guide's Derived/Test/ToyasCard.lean, 'card_holds'). Laid BY PROGRAM, IN A SANDBOX (cutbox-door.mjs). By AI agents, Wed Nov 11 2026. No macro, syntax, notation, axiom, sorry.
-/
import Derived.Test.YtggpbgbnefgebaaDoorRows
import GoSem.ClaimSeven
namespace Go.Proofs.YtggpbgbnefgebaaDoor
namespace Rows

/-- THE TIED CARD OF 'deemsterlaw01.LineOf'. -/
def lineOfCard : Claim7 := { stood := { row := lineOfRow, standIns := [], harness := (true, "34a9fb309e6bbd4fe7475947aef2b21dcd059d55f200fa780ecb375d3bf09ff0"), looks := false }, kinds := [], alts := [], laidByText := true, laidKinds := [.data, .pinned], laidTests := true, laidLooks := .later }
def LineOfCardSaid : Prop := Claim7.holds Tryd.pinned (.plain (OpenSpec.ofChange lineOfSpec)) lineOfCard

/-- THE TIED CARD OF 'deemsterlaw01.LineRunes'. -/
def lineRunesCard : Claim7 := { stood := { row := lineRunesRow, standIns := [], harness := (true, "34a9fb309e6bbd4fe7475947aef2b21dcd059d55f200fa780ecb375d3bf09ff0"), looks := false }, kinds := [], alts := [], laidByText := true, laidKinds := [.data, .pinned], laidTests := true, laidLooks := .later }
def LineRunesCardSaid : Prop := Claim7.holds Tryd.pinned (.plain (OpenSpec.ofChange lineRunesSpec)) lineRunesCard

/-- THE TIED CARD OF 'deemsterlaw01.LineJoins'. -/
def lineJoinsCard : Claim7 := { stood := { row := lineJoinsRow, standIns := [], harness := (true, "34a9fb309e6bbd4fe7475947aef2b21dcd059d55f200fa780ecb375d3bf09ff0"), looks := false }, kinds := [], alts := [], laidByText := true, laidKinds := [.data, .pinned], laidTests := true, laidLooks := .later }
def LineJoinsCardSaid : Prop := Claim7.holds Tryd.pinned (.plain (OpenSpec.ofChange lineJoinsSpec)) lineJoinsCard

/-- THE SECOND FORM's CARD OF 'deemsterlaw01.LineOf'. -/
def lineOfUptoCard : Claim7 := { stood := { row := lineOfUptoRow, standIns := [], harness := (true, "34a9fb309e6bbd4fe7475947aef2b21dcd059d55f200fa780ecb375d3bf09ff0"), looks := false }, kinds := [], alts := [], laidByText := true, laidKinds := [.data, .pinned], laidTests := true, laidLooks := .later }
def LineOfUptoCardSaid : Prop := Claim7.holds Tryd.pinned (.plain (OpenSpec.upto lineOfSpec)) lineOfUptoCard

/-- THE SECOND FORM's CARD OF 'deemsterlaw01.LineRunes'. -/
def lineRunesUptoCard : Claim7 := { stood := { row := lineRunesUptoRow, standIns := [], harness := (true, "34a9fb309e6bbd4fe7475947aef2b21dcd059d55f200fa780ecb375d3bf09ff0"), looks := false }, kinds := [], alts := [], laidByText := true, laidKinds := [.data, .pinned], laidTests := true, laidLooks := .later }
def LineRunesUptoCardSaid : Prop := Claim7.holds Tryd.pinned (.plain (OpenSpec.upto lineRunesSpec)) lineRunesUptoCard

/-- THE SECOND FORM's CARD OF 'deemsterlaw01.LineJoins'. -/
def lineJoinsUptoCard : Claim7 := { stood := { row := lineJoinsUptoRow, standIns := [], harness := (true, "34a9fb309e6bbd4fe7475947aef2b21dcd059d55f200fa780ecb375d3bf09ff0"), looks := false }, kinds := [], alts := [], laidByText := true, laidKinds := [.data, .pinned], laidTests := true, laidLooks := .later }
def LineJoinsUptoCardSaid : Prop := Claim7.holds Tryd.pinned (.plain (OpenSpec.upto lineJoinsSpec)) lineJoinsUptoCard
end Rows
end Go.Proofs.YtggpbgbnefgebaaDoor
