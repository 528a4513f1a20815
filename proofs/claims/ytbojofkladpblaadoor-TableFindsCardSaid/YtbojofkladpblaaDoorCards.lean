/-
  DERIVED. GIVEN WITH THE SEED: THE CARDS: each row of YtbojofkladpblaaDoorRows.lean that lists a variable, with what it lists TIED to the program's text (the seventh form; the later family's looks); each row that meets fmt, with fmt's text TOLD by the authors' own Lean function (tested against real Go, not proved from fmt's source: count such statements apart). THE CARD IS WHAT COUNTS. Prove the row's statement (the work); the ties are given (YtbojofkladpblaaDoorTie.lean); close each card by the builder's one call (the guide's Derived/Test/ToyasCard.lean, 'card_holds'). Laid BY PROGRAM, IN A SANDBOX (cutbox-door.mjs). By AI agents, Wed Nov 11 2026. No macro, syntax, notation, axiom, sorry.
-/
import Derived.Test.YtbojofkladpblaaDoorRows
import GoSem.ClaimSeven
namespace Go.Proofs.YtbojofkladpblaaDoor
namespace Rows

/-- THE TIED CARD OF 'deemsterlaw09.TableMakes'. -/
def tableMakesCard : Claim7 := { stood := { row := tableMakesRow, standIns := [], harness := (true, "eb7883240ffb95ab74a33d0a9ab1a7b5a05d28917d5799cdbc643f46f825a7c1"), looks := false }, kinds := [], alts := [], laidByText := true, laidKinds := [.data, .pinned], laidTests := true, laidLooks := .later }
def TableMakesCardSaid : Prop := Claim7.holds Tryd.pinned (.plain (OpenSpec.ofChange tableMakesSpec)) tableMakesCard

/-- THE TIED CARD OF 'deemsterlaw09.TableFinds'. -/
def tableFindsCard : Claim7 := { stood := { row := tableFindsRow, standIns := [], harness := (true, "eb7883240ffb95ab74a33d0a9ab1a7b5a05d28917d5799cdbc643f46f825a7c1"), looks := false }, kinds := [], alts := [], laidByText := true, laidKinds := [.data, .pinned], laidTests := true, laidLooks := .later }
def TableFindsCardSaid : Prop := Claim7.holds Tryd.pinned (.plain (OpenSpec.ofChange tableFindsSpec)) tableFindsCard

/-- THE TIED CARD OF 'deemsterlaw09.TableHas'. -/
def tableHasCard : Claim7 := { stood := { row := tableHasRow, standIns := [], harness := (true, "eb7883240ffb95ab74a33d0a9ab1a7b5a05d28917d5799cdbc643f46f825a7c1"), looks := false }, kinds := [], alts := [], laidByText := true, laidKinds := [.data, .pinned], laidTests := true, laidLooks := .later }
def TableHasCardSaid : Prop := Claim7.holds Tryd.pinned (.plain (OpenSpec.ofChange tableHasSpec)) tableHasCard

/-- THE SECOND FORM's CARD OF 'deemsterlaw09.TableMakes'. -/
def tableMakesUptoCard : Claim7 := { stood := { row := tableMakesUptoRow, standIns := [], harness := (true, "eb7883240ffb95ab74a33d0a9ab1a7b5a05d28917d5799cdbc643f46f825a7c1"), looks := false }, kinds := [], alts := [], laidByText := true, laidKinds := [.data, .pinned], laidTests := true, laidLooks := .later }
def TableMakesUptoCardSaid : Prop := Claim7.holds Tryd.pinned (.plain (OpenSpec.upto tableMakesSpec)) tableMakesUptoCard

/-- THE SECOND FORM's CARD OF 'deemsterlaw09.TableFinds'. -/
def tableFindsUptoCard : Claim7 := { stood := { row := tableFindsUptoRow, standIns := [], harness := (true, "eb7883240ffb95ab74a33d0a9ab1a7b5a05d28917d5799cdbc643f46f825a7c1"), looks := false }, kinds := [], alts := [], laidByText := true, laidKinds := [.data, .pinned], laidTests := true, laidLooks := .later }
def TableFindsUptoCardSaid : Prop := Claim7.holds Tryd.pinned (.plain (OpenSpec.upto tableFindsSpec)) tableFindsUptoCard

/-- THE SECOND FORM's CARD OF 'deemsterlaw09.TableHas'. -/
def tableHasUptoCard : Claim7 := { stood := { row := tableHasUptoRow, standIns := [], harness := (true, "eb7883240ffb95ab74a33d0a9ab1a7b5a05d28917d5799cdbc643f46f825a7c1"), looks := false }, kinds := [], alts := [], laidByText := true, laidKinds := [.data, .pinned], laidTests := true, laidLooks := .later }
def TableHasUptoCardSaid : Prop := Claim7.holds Tryd.pinned (.plain (OpenSpec.upto tableHasSpec)) tableHasUptoCard
end Rows
end Go.Proofs.YtbojofkladpblaaDoor
