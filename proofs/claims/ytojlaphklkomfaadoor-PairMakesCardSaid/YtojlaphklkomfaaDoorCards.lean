/-
  DERIVED. GIVEN WITH THE SEED: THE CARDS: each row of YtojlaphklkomfaaDoorRows.lean that lists a variable, with what it lists TIED to the program's text (the seventh form; the later family's looks); each row that meets fmt, with fmt's text TOLD by the authors' own Lean function (tested against real Go, not proved from fmt's source: count such statements apart). THE CARD IS WHAT COUNTS. Prove the row's statement (the work); the ties are given (YtojlaphklkomfaaDoorTie.lean); close each card by the builder's one call (the guide's Derived/Test/ToyasCard.lean, 'card_holds'). Laid BY PROGRAM, IN A SANDBOX (cutbox-door.mjs). By AI agents, Wed Nov 11 2026. No macro, syntax, notation, axiom, sorry.
-/
import Derived.Test.YtojlaphklkomfaaDoorRows
import GoSem.ClaimSeven
namespace Go.Proofs.YtojlaphklkomfaaDoor
namespace Rows

/-- THE TIED CARD OF 'deemsterlaw10.PairMakes'. -/
def pairMakesCard : Claim7 := { stood := { row := pairMakesRow, standIns := [], harness := (true, "507e4c31643b763ad962f8d2fde24ad5dd979389160e41a94d939a1b67eb1996"), looks := false }, kinds := [], alts := [], laidByText := true, laidKinds := [.data, .data, .pinned], laidTests := true, laidLooks := .later }
def PairMakesCardSaid : Prop := Claim7.holds Tryd.pinned (.plain (OpenSpec.ofChange pairMakesSpec)) pairMakesCard

/-- THE TIED CARD OF 'deemsterlaw10.PairCounts'. -/
def pairCountsCard : Claim7 := { stood := { row := pairCountsRow, standIns := [], harness := (true, "507e4c31643b763ad962f8d2fde24ad5dd979389160e41a94d939a1b67eb1996"), looks := false }, kinds := [], alts := [], laidByText := true, laidKinds := [.data, .data, .pinned], laidTests := true, laidLooks := .later }
def PairCountsCardSaid : Prop := Claim7.holds Tryd.pinned (.plain (OpenSpec.ofChange pairCountsSpec)) pairCountsCard

/-- THE TIED CARD OF 'deemsterlaw10.PairMany'. -/
def pairManyCard : Claim7 := { stood := { row := pairManyRow, standIns := [], harness := (true, "507e4c31643b763ad962f8d2fde24ad5dd979389160e41a94d939a1b67eb1996"), looks := false }, kinds := [], alts := [], laidByText := true, laidKinds := [.data, .data, .pinned], laidTests := true, laidLooks := .later }
def PairManyCardSaid : Prop := Claim7.holds Tryd.pinned (.plain (OpenSpec.ofChange pairManySpec)) pairManyCard

/-- THE SECOND FORM's CARD OF 'deemsterlaw10.PairMakes'. -/
def pairMakesUptoCard : Claim7 := { stood := { row := pairMakesUptoRow, standIns := [], harness := (true, "507e4c31643b763ad962f8d2fde24ad5dd979389160e41a94d939a1b67eb1996"), looks := false }, kinds := [], alts := [], laidByText := true, laidKinds := [.data, .data, .pinned], laidTests := true, laidLooks := .later }
def PairMakesUptoCardSaid : Prop := Claim7.holds Tryd.pinned (.plain (OpenSpec.upto pairMakesSpec)) pairMakesUptoCard

/-- THE SECOND FORM's CARD OF 'deemsterlaw10.PairCounts'. -/
def pairCountsUptoCard : Claim7 := { stood := { row := pairCountsUptoRow, standIns := [], harness := (true, "507e4c31643b763ad962f8d2fde24ad5dd979389160e41a94d939a1b67eb1996"), looks := false }, kinds := [], alts := [], laidByText := true, laidKinds := [.data, .data, .pinned], laidTests := true, laidLooks := .later }
def PairCountsUptoCardSaid : Prop := Claim7.holds Tryd.pinned (.plain (OpenSpec.upto pairCountsSpec)) pairCountsUptoCard

/-- THE SECOND FORM's CARD OF 'deemsterlaw10.PairMany'. -/
def pairManyUptoCard : Claim7 := { stood := { row := pairManyUptoRow, standIns := [], harness := (true, "507e4c31643b763ad962f8d2fde24ad5dd979389160e41a94d939a1b67eb1996"), looks := false }, kinds := [], alts := [], laidByText := true, laidKinds := [.data, .data, .pinned], laidTests := true, laidLooks := .later }
def PairManyUptoCardSaid : Prop := Claim7.holds Tryd.pinned (.plain (OpenSpec.upto pairManySpec)) pairManyUptoCard
end Rows
end Go.Proofs.YtojlaphklkomfaaDoor
