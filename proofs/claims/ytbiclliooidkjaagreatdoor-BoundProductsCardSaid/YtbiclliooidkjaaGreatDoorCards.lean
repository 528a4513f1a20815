/-
  DERIVED. GIVEN WITH THE SEED: THE CARDS: each row of YtbiclliooidkjaaGreatDoorRows.lean that lists a variable, with what it lists TIED to the program's text (the seventh form; the later family's looks); each row that meets fmt, with fmt's text TOLD by the authors' own Lean function (tested against real Go, not proved from fmt's source: count such statements apart). THE CARD IS WHAT COUNTS. Prove the row's statement (the work); the ties are given (YtbiclliooidkjaaGreatDoorTie.lean); close each card by the builder's one call (the guide's Derived/Test/ToyasCard.lean, 'card_holds'). Laid BY PROGRAM, IN A SANDBOX (cutbox-door.mjs). By AI agents, Wed Nov 11 2026. No macro, syntax, notation, axiom, sorry.
-/
import Derived.Test.YtbiclliooidkjaaGreatDoorRows
import GoSem.ClaimSeven
namespace Go.Proofs.YtbiclliooidkjaaGreatDoor
namespace Rows

/-- THE TIED CARD OF 'deemsterlaw41.BoundOf'. -/
def boundOfCard : Claim7 := { stood := { row := boundOfRow, standIns := [], harness := (true, "f91b309c8ed9ba54abc3e6c5d1863a155a92b99a8f93a5c8669aaf5403e5e299"), looks := false }, kinds := [], alts := [], laidByText := true, laidKinds := [.data, .data, .pinned], laidTests := true, laidLooks := .later }
def BoundOfCardSaid : Prop := Claim7.holds Tryz.pinned (.plain (OpenSpec.ofChange boundOfSpec)) boundOfCard

/-- THE TIED CARD OF 'deemsterlaw41.BoundProducts'. -/
def boundProductsCard : Claim7 := { stood := { row := boundProductsRow, standIns := [], harness := (true, "f91b309c8ed9ba54abc3e6c5d1863a155a92b99a8f93a5c8669aaf5403e5e299"), looks := false }, kinds := [], alts := [], laidByText := true, laidKinds := [.data, .data, .pinned], laidTests := true, laidLooks := .later }
def BoundProductsCardSaid : Prop := Claim7.holds Tryz.pinned (.plain (OpenSpec.ofChange boundProductsSpec)) boundProductsCard

/-- THE SECOND FORM's CARD OF 'deemsterlaw41.BoundOf'. -/
def boundOfUptoCard : Claim7 := { stood := { row := boundOfUptoRow, standIns := [], harness := (true, "f91b309c8ed9ba54abc3e6c5d1863a155a92b99a8f93a5c8669aaf5403e5e299"), looks := false }, kinds := [], alts := [], laidByText := true, laidKinds := [.data, .data, .pinned], laidTests := true, laidLooks := .later }
def BoundOfUptoCardSaid : Prop := Claim7.holds Tryz.pinned (.plain (OpenSpec.upto boundOfSpec)) boundOfUptoCard

/-- THE SECOND FORM's CARD OF 'deemsterlaw41.BoundProducts'. -/
def boundProductsUptoCard : Claim7 := { stood := { row := boundProductsUptoRow, standIns := [], harness := (true, "f91b309c8ed9ba54abc3e6c5d1863a155a92b99a8f93a5c8669aaf5403e5e299"), looks := false }, kinds := [], alts := [], laidByText := true, laidKinds := [.data, .data, .pinned], laidTests := true, laidLooks := .later }
def BoundProductsUptoCardSaid : Prop := Claim7.holds Tryz.pinned (.plain (OpenSpec.upto boundProductsSpec)) boundProductsUptoCard
end Rows
end Go.Proofs.YtbiclliooidkjaaGreatDoor
