/-
  DERIVED. GIVEN WITH THE SEED: THE CARDS: each row of YtfekejhcikkhdaaDoorRows.lean that lists a variable, with what it lists TIED to the program's text (the seventh form; the later family's looks); each row that meets fmt, with fmt's text TOLD by the authors' own Lean function (tested against real Go, not proved from fmt's source: count such statements apart). THE CARD IS WHAT COUNTS. Prove the row's statement (the work); the ties are given (YtfekejhcikkhdaaDoorTie.lean); close each card by the builder's one call (the guide's Derived/Test/ToyasCard.lean, 'card_holds'). Laid BY PROGRAM, IN A SANDBOX (cutbox-door.mjs). By AI agents, Wed Nov 11 2026. No macro, syntax, notation, axiom, sorry.
-/
import Derived.Test.YtfekejhcikkhdaaDoorRows
import GoSem.ClaimSeven
namespace Go.Proofs.YtfekejhcikkhdaaDoor
namespace Rows

/-- THE TIED CARD OF 'deemsterlaw19.GraphPlays'. -/
def graphPlaysCard : Claim7 := { stood := { row := graphPlaysRow, standIns := [], harness := (true, "ebbffe1f4a08ab456b19da64f2dbe82b2bf7ce6b7fbaf824ce5edea8c4df11ce"), looks := false }, kinds := [], alts := [], laidByText := true, laidKinds := [.data], laidTests := true, laidLooks := .later }
def GraphPlaysCardSaid : Prop := Claim7.holds Tryd.pinned (.plain (OpenSpec.ofChange graphPlaysSpec)) graphPlaysCard

/-- THE TIED CARD OF 'deemsterlaw19.GraphNew'. -/
def graphNewCard : Claim7 := { stood := { row := graphNewRow, standIns := [], harness := (true, "ebbffe1f4a08ab456b19da64f2dbe82b2bf7ce6b7fbaf824ce5edea8c4df11ce"), looks := false }, kinds := [], alts := [], laidByText := true, laidKinds := [.data], laidTests := true, laidLooks := .later }
def GraphNewCardSaid : Prop := Claim7.holds Tryd.pinned (.plain (OpenSpec.ofChange graphNewSpec)) graphNewCard

/-- THE TIED CARD OF 'deemsterlaw19.GraphUndoes'. -/
def graphUndoesCard : Claim7 := { stood := { row := graphUndoesRow, standIns := [], harness := (true, "ebbffe1f4a08ab456b19da64f2dbe82b2bf7ce6b7fbaf824ce5edea8c4df11ce"), looks := false }, kinds := [], alts := [], laidByText := true, laidKinds := [.data], laidTests := true, laidLooks := .later }
def GraphUndoesCardSaid : Prop := Claim7.holds Tryd.pinned (.plain (OpenSpec.ofChange graphUndoesSpec)) graphUndoesCard

/-- THE TIED CARD OF 'deemsterlaw19.GraphNone'. -/
def graphNoneCard : Claim7 := { stood := { row := graphNoneRow, standIns := [], harness := (true, "ebbffe1f4a08ab456b19da64f2dbe82b2bf7ce6b7fbaf824ce5edea8c4df11ce"), looks := false }, kinds := [], alts := [], laidByText := true, laidKinds := [.data], laidTests := true, laidLooks := .later }
def GraphNoneCardSaid : Prop := Claim7.holds Tryd.pinned (.plain (OpenSpec.ofChange graphNoneSpec)) graphNoneCard

/-- THE SECOND FORM's CARD OF 'deemsterlaw19.GraphPlays'. -/
def graphPlaysUptoCard : Claim7 := { stood := { row := graphPlaysUptoRow, standIns := [], harness := (true, "ebbffe1f4a08ab456b19da64f2dbe82b2bf7ce6b7fbaf824ce5edea8c4df11ce"), looks := false }, kinds := [], alts := [], laidByText := true, laidKinds := [.data], laidTests := true, laidLooks := .later }
def GraphPlaysUptoCardSaid : Prop := Claim7.holds Tryd.pinned (.plain (OpenSpec.upto graphPlaysSpec)) graphPlaysUptoCard

/-- THE SECOND FORM's CARD OF 'deemsterlaw19.GraphNew'. -/
def graphNewUptoCard : Claim7 := { stood := { row := graphNewUptoRow, standIns := [], harness := (true, "ebbffe1f4a08ab456b19da64f2dbe82b2bf7ce6b7fbaf824ce5edea8c4df11ce"), looks := false }, kinds := [], alts := [], laidByText := true, laidKinds := [.data], laidTests := true, laidLooks := .later }
def GraphNewUptoCardSaid : Prop := Claim7.holds Tryd.pinned (.plain (OpenSpec.upto graphNewSpec)) graphNewUptoCard

/-- THE SECOND FORM's CARD OF 'deemsterlaw19.GraphUndoes'. -/
def graphUndoesUptoCard : Claim7 := { stood := { row := graphUndoesUptoRow, standIns := [], harness := (true, "ebbffe1f4a08ab456b19da64f2dbe82b2bf7ce6b7fbaf824ce5edea8c4df11ce"), looks := false }, kinds := [], alts := [], laidByText := true, laidKinds := [.data], laidTests := true, laidLooks := .later }
def GraphUndoesUptoCardSaid : Prop := Claim7.holds Tryd.pinned (.plain (OpenSpec.upto graphUndoesSpec)) graphUndoesUptoCard

/-- THE SECOND FORM's CARD OF 'deemsterlaw19.GraphNone'. -/
def graphNoneUptoCard : Claim7 := { stood := { row := graphNoneUptoRow, standIns := [], harness := (true, "ebbffe1f4a08ab456b19da64f2dbe82b2bf7ce6b7fbaf824ce5edea8c4df11ce"), looks := false }, kinds := [], alts := [], laidByText := true, laidKinds := [.data], laidTests := true, laidLooks := .later }
def GraphNoneUptoCardSaid : Prop := Claim7.holds Tryd.pinned (.plain (OpenSpec.upto graphNoneSpec)) graphNoneUptoCard
end Rows
end Go.Proofs.YtfekejhcikkhdaaDoor
