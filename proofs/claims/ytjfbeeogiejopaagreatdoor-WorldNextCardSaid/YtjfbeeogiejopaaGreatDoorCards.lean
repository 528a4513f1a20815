/-
  DERIVED. GIVEN WITH THE SEED: THE CARDS: each row of YtjfbeeogiejopaaGreatDoorRows.lean that lists a variable, with what it lists TIED to the program's text (the seventh form; the later family's looks); each row that meets fmt, with fmt's text TOLD by the authors' own Lean function (tested against real Go, not proved from fmt's source: count such statements apart). THE CARD IS WHAT COUNTS. Prove the row's statement (the work); the ties are given (YtjfbeeogiejopaaGreatDoorTie.lean); close each card by the builder's one call (the guide's Derived/Test/ToyasCard.lean, 'card_holds'). Laid BY PROGRAM, IN A SANDBOX (cutbox-door.mjs). By AI agents, Wed Nov 11 2026. No macro, syntax, notation, axiom, sorry.
-/
import Derived.Test.YtjfbeeogiejopaaGreatDoorRows
import GoSem.ClaimSeven
namespace Go.Proofs.YtjfbeeogiejopaaGreatDoor
namespace Rows

/-- THE TIED CARD OF 'deemsterlaw15.WriterOf'. -/
def writerOfCard : Claim7 := { stood := { row := writerOfRow, standIns := [], harness := (true, "c8a18cfeb3f95a6c6e7f7a3daefb9ce08cab8bc67ff94f88b9c4205035b1ec3c"), looks := true }, kinds := [], alts := [], laidByText := true, laidKinds := [.data, .data, .pinned], laidTests := true, laidLooks := .later }
def WriterOfCardSaid : Prop := Claim7.holds Tryz.pinned (.plain (OpenSpec.ofChange writerOfSpec)) writerOfCard

/-- THE TIED CARD OF 'deemsterlaw15.WriterFresh'. -/
def writerFreshCard : Claim7 := { stood := { row := writerFreshRow, standIns := [], harness := (true, "c8a18cfeb3f95a6c6e7f7a3daefb9ce08cab8bc67ff94f88b9c4205035b1ec3c"), looks := true }, kinds := [], alts := [], laidByText := true, laidKinds := [.data, .data, .pinned], laidTests := true, laidLooks := .later }
def WriterFreshCardSaid : Prop := Claim7.holds Tryz.pinned (.plain (OpenSpec.ofChange writerFreshSpec)) writerFreshCard

/-- THE TIED CARD OF 'deemsterlaw15.WriterHas'. -/
def writerHasCard : Claim7 := { stood := { row := writerHasRow, standIns := [], harness := (true, "c8a18cfeb3f95a6c6e7f7a3daefb9ce08cab8bc67ff94f88b9c4205035b1ec3c"), looks := true }, kinds := [], alts := [], laidByText := true, laidKinds := [.data, .data, .pinned], laidTests := true, laidLooks := .later }
def WriterHasCardSaid : Prop := Claim7.holds Tryz.pinned (.plain (OpenSpec.ofChange writerHasSpec)) writerHasCard

/-- THE TIED CARD OF 'deemsterlaw16.WorldTells'. -/
def worldTellsCard : Claim7 := { stood := { row := worldTellsRow, standIns := [], harness := (true, "c8a18cfeb3f95a6c6e7f7a3daefb9ce08cab8bc67ff94f88b9c4205035b1ec3c"), looks := true }, kinds := [], alts := [], laidByText := true, laidKinds := [.data, .data, .pinned], laidTests := true, laidLooks := .later }
def WorldTellsCardSaid : Prop := Claim7.holds Tryz.pinned (.plain (OpenSpec.ofChange worldTellsSpec)) worldTellsCard

/-- THE TIED CARD OF 'deemsterlaw16.WorldNext'. -/
def worldNextCard : Claim7 := { stood := { row := worldNextRow, standIns := [], harness := (true, "c8a18cfeb3f95a6c6e7f7a3daefb9ce08cab8bc67ff94f88b9c4205035b1ec3c"), looks := true }, kinds := [], alts := [], laidByText := true, laidKinds := [.data, .data, .pinned], laidTests := true, laidLooks := .later }
def WorldNextCardSaid : Prop := Claim7.holds Tryz.pinned (.plain (OpenSpec.ofChange worldNextSpec)) worldNextCard

/-- THE TIED CARD OF 'deemsterlaw16.WorldAll'. -/
def worldAllCard : Claim7 := { stood := { row := worldAllRow, standIns := [], harness := (true, "c8a18cfeb3f95a6c6e7f7a3daefb9ce08cab8bc67ff94f88b9c4205035b1ec3c"), looks := true }, kinds := [], alts := [], laidByText := true, laidKinds := [.data, .data, .pinned], laidTests := true, laidLooks := .later }
def WorldAllCardSaid : Prop := Claim7.holds Tryz.pinned (.plain (OpenSpec.ofChange worldAllSpec)) worldAllCard

/-- THE SECOND FORM's CARD OF 'deemsterlaw15.WriterOf'. -/
def writerOfUptoCard : Claim7 := { stood := { row := writerOfUptoRow, standIns := [], harness := (true, "c8a18cfeb3f95a6c6e7f7a3daefb9ce08cab8bc67ff94f88b9c4205035b1ec3c"), looks := true }, kinds := [], alts := [], laidByText := true, laidKinds := [.data, .data, .pinned], laidTests := true, laidLooks := .later }
def WriterOfUptoCardSaid : Prop := Claim7.holds Tryz.pinned (.plain (OpenSpec.upto writerOfSpec)) writerOfUptoCard

/-- THE SECOND FORM's CARD OF 'deemsterlaw15.WriterFresh'. -/
def writerFreshUptoCard : Claim7 := { stood := { row := writerFreshUptoRow, standIns := [], harness := (true, "c8a18cfeb3f95a6c6e7f7a3daefb9ce08cab8bc67ff94f88b9c4205035b1ec3c"), looks := true }, kinds := [], alts := [], laidByText := true, laidKinds := [.data, .data, .pinned], laidTests := true, laidLooks := .later }
def WriterFreshUptoCardSaid : Prop := Claim7.holds Tryz.pinned (.plain (OpenSpec.upto writerFreshSpec)) writerFreshUptoCard

/-- THE SECOND FORM's CARD OF 'deemsterlaw15.WriterHas'. -/
def writerHasUptoCard : Claim7 := { stood := { row := writerHasUptoRow, standIns := [], harness := (true, "c8a18cfeb3f95a6c6e7f7a3daefb9ce08cab8bc67ff94f88b9c4205035b1ec3c"), looks := true }, kinds := [], alts := [], laidByText := true, laidKinds := [.data, .data, .pinned], laidTests := true, laidLooks := .later }
def WriterHasUptoCardSaid : Prop := Claim7.holds Tryz.pinned (.plain (OpenSpec.upto writerHasSpec)) writerHasUptoCard

/-- THE SECOND FORM's CARD OF 'deemsterlaw16.WorldTells'. -/
def worldTellsUptoCard : Claim7 := { stood := { row := worldTellsUptoRow, standIns := [], harness := (true, "c8a18cfeb3f95a6c6e7f7a3daefb9ce08cab8bc67ff94f88b9c4205035b1ec3c"), looks := true }, kinds := [], alts := [], laidByText := true, laidKinds := [.data, .data, .pinned], laidTests := true, laidLooks := .later }
def WorldTellsUptoCardSaid : Prop := Claim7.holds Tryz.pinned (.plain (OpenSpec.upto worldTellsSpec)) worldTellsUptoCard

/-- THE SECOND FORM's CARD OF 'deemsterlaw16.WorldNext'. -/
def worldNextUptoCard : Claim7 := { stood := { row := worldNextUptoRow, standIns := [], harness := (true, "c8a18cfeb3f95a6c6e7f7a3daefb9ce08cab8bc67ff94f88b9c4205035b1ec3c"), looks := true }, kinds := [], alts := [], laidByText := true, laidKinds := [.data, .data, .pinned], laidTests := true, laidLooks := .later }
def WorldNextUptoCardSaid : Prop := Claim7.holds Tryz.pinned (.plain (OpenSpec.upto worldNextSpec)) worldNextUptoCard

/-- THE SECOND FORM's CARD OF 'deemsterlaw16.WorldAll'. -/
def worldAllUptoCard : Claim7 := { stood := { row := worldAllUptoRow, standIns := [], harness := (true, "c8a18cfeb3f95a6c6e7f7a3daefb9ce08cab8bc67ff94f88b9c4205035b1ec3c"), looks := true }, kinds := [], alts := [], laidByText := true, laidKinds := [.data, .data, .pinned], laidTests := true, laidLooks := .later }
def WorldAllUptoCardSaid : Prop := Claim7.holds Tryz.pinned (.plain (OpenSpec.upto worldAllSpec)) worldAllUptoCard
end Rows
end Go.Proofs.YtjfbeeogiejopaaGreatDoor
