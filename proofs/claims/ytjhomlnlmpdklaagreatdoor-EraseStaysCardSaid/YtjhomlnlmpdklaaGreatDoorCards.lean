/-
  DERIVED. GIVEN WITH THE SEED: THE CARDS: each row of YtjhomlnlmpdklaaGreatDoorRows.lean that lists a variable, with what it lists TIED to the program's text (the seventh form; the later family's looks); each row that meets fmt, with fmt's text TOLD by the authors' own Lean function (tested against real Go, not proved from fmt's source: count such statements apart). THE CARD IS WHAT COUNTS. Prove the row's statement (the work); the ties are given (YtjhomlnlmpdklaaGreatDoorTie.lean); close each card by the builder's one call (the guide's Derived/Test/ToyasCard.lean, 'card_holds'). Laid BY PROGRAM, IN A SANDBOX (cutbox-door.mjs). By AI agents, Wed Nov 11 2026. No macro, syntax, notation, axiom, sorry.
-/
import Derived.Test.YtjhomlnlmpdklaaGreatDoorRows
import GoSem.ClaimSeven
namespace Go.Proofs.YtjhomlnlmpdklaaGreatDoor
namespace Rows

/-- THE TIED CARD OF 'deemsterlaw13.InnerTells'. -/
def innerTellsCard : Claim7 := { stood := { row := innerTellsRow, standIns := [], harness := (true, "4ee978b291059a32013cea2ad1e4025bf50d094eb440d328091e5608d310185e"), looks := false }, kinds := [], alts := [], laidByText := true, laidKinds := [.data, .data, .pinned], laidTests := true, laidLooks := .later }
def InnerTellsCardSaid : Prop := Claim7.holds Tryz.pinned (.plain (OpenSpec.ofChange innerTellsSpec)) innerTellsCard

/-- THE TIED CARD OF 'deemsterlaw13.InnerLeaves'. -/
def innerLeavesCard : Claim7 := { stood := { row := innerLeavesRow, standIns := [], harness := (true, "4ee978b291059a32013cea2ad1e4025bf50d094eb440d328091e5608d310185e"), looks := false }, kinds := [], alts := [], laidByText := true, laidKinds := [.data, .data, .pinned], laidTests := true, laidLooks := .later }
def InnerLeavesCardSaid : Prop := Claim7.holds Tryz.pinned (.plain (OpenSpec.ofChange innerLeavesSpec)) innerLeavesCard

/-- THE TIED CARD OF 'deemsterlaw13.InnerAgrees'. -/
def innerAgreesCard : Claim7 := { stood := { row := innerAgreesRow, standIns := [], harness := (true, "4ee978b291059a32013cea2ad1e4025bf50d094eb440d328091e5608d310185e"), looks := false }, kinds := [], alts := [], laidByText := true, laidKinds := [.data, .data, .pinned], laidTests := true, laidLooks := .later }
def InnerAgreesCardSaid : Prop := Claim7.holds Tryz.pinned (.plain (OpenSpec.ofChange innerAgreesSpec)) innerAgreesCard

/-- THE TIED CARD OF 'deemsterlaw14.EraseOf'. -/
def eraseOfCard : Claim7 := { stood := { row := eraseOfRow, standIns := [], harness := (true, "4ee978b291059a32013cea2ad1e4025bf50d094eb440d328091e5608d310185e"), looks := false }, kinds := [], alts := [], laidByText := true, laidKinds := [.data, .data, .pinned], laidTests := true, laidLooks := .later }
def EraseOfCardSaid : Prop := Claim7.holds Tryz.pinned (.plain (OpenSpec.ofChange eraseOfSpec)) eraseOfCard

/-- THE TIED CARD OF 'deemsterlaw14.ErasePlace'. -/
def erasePlaceCard : Claim7 := { stood := { row := erasePlaceRow, standIns := [], harness := (true, "4ee978b291059a32013cea2ad1e4025bf50d094eb440d328091e5608d310185e"), looks := false }, kinds := [], alts := [], laidByText := true, laidKinds := [.data, .data, .pinned], laidTests := true, laidLooks := .later }
def ErasePlaceCardSaid : Prop := Claim7.holds Tryz.pinned (.plain (OpenSpec.ofChange erasePlaceSpec)) erasePlaceCard

/-- THE TIED CARD OF 'deemsterlaw14.EraseStays'. -/
def eraseStaysCard : Claim7 := { stood := { row := eraseStaysRow, standIns := [], harness := (true, "4ee978b291059a32013cea2ad1e4025bf50d094eb440d328091e5608d310185e"), looks := false }, kinds := [], alts := [], laidByText := true, laidKinds := [.data, .data, .pinned], laidTests := true, laidLooks := .later }
def EraseStaysCardSaid : Prop := Claim7.holds Tryz.pinned (.plain (OpenSpec.ofChange eraseStaysSpec)) eraseStaysCard

/-- THE SECOND FORM's CARD OF 'deemsterlaw13.InnerTells'. -/
def innerTellsUptoCard : Claim7 := { stood := { row := innerTellsUptoRow, standIns := [], harness := (true, "4ee978b291059a32013cea2ad1e4025bf50d094eb440d328091e5608d310185e"), looks := false }, kinds := [], alts := [], laidByText := true, laidKinds := [.data, .data, .pinned], laidTests := true, laidLooks := .later }
def InnerTellsUptoCardSaid : Prop := Claim7.holds Tryz.pinned (.plain (OpenSpec.upto innerTellsSpec)) innerTellsUptoCard

/-- THE SECOND FORM's CARD OF 'deemsterlaw13.InnerLeaves'. -/
def innerLeavesUptoCard : Claim7 := { stood := { row := innerLeavesUptoRow, standIns := [], harness := (true, "4ee978b291059a32013cea2ad1e4025bf50d094eb440d328091e5608d310185e"), looks := false }, kinds := [], alts := [], laidByText := true, laidKinds := [.data, .data, .pinned], laidTests := true, laidLooks := .later }
def InnerLeavesUptoCardSaid : Prop := Claim7.holds Tryz.pinned (.plain (OpenSpec.upto innerLeavesSpec)) innerLeavesUptoCard

/-- THE SECOND FORM's CARD OF 'deemsterlaw13.InnerAgrees'. -/
def innerAgreesUptoCard : Claim7 := { stood := { row := innerAgreesUptoRow, standIns := [], harness := (true, "4ee978b291059a32013cea2ad1e4025bf50d094eb440d328091e5608d310185e"), looks := false }, kinds := [], alts := [], laidByText := true, laidKinds := [.data, .data, .pinned], laidTests := true, laidLooks := .later }
def InnerAgreesUptoCardSaid : Prop := Claim7.holds Tryz.pinned (.plain (OpenSpec.upto innerAgreesSpec)) innerAgreesUptoCard

/-- THE SECOND FORM's CARD OF 'deemsterlaw14.EraseOf'. -/
def eraseOfUptoCard : Claim7 := { stood := { row := eraseOfUptoRow, standIns := [], harness := (true, "4ee978b291059a32013cea2ad1e4025bf50d094eb440d328091e5608d310185e"), looks := false }, kinds := [], alts := [], laidByText := true, laidKinds := [.data, .data, .pinned], laidTests := true, laidLooks := .later }
def EraseOfUptoCardSaid : Prop := Claim7.holds Tryz.pinned (.plain (OpenSpec.upto eraseOfSpec)) eraseOfUptoCard

/-- THE SECOND FORM's CARD OF 'deemsterlaw14.ErasePlace'. -/
def erasePlaceUptoCard : Claim7 := { stood := { row := erasePlaceUptoRow, standIns := [], harness := (true, "4ee978b291059a32013cea2ad1e4025bf50d094eb440d328091e5608d310185e"), looks := false }, kinds := [], alts := [], laidByText := true, laidKinds := [.data, .data, .pinned], laidTests := true, laidLooks := .later }
def ErasePlaceUptoCardSaid : Prop := Claim7.holds Tryz.pinned (.plain (OpenSpec.upto erasePlaceSpec)) erasePlaceUptoCard

/-- THE SECOND FORM's CARD OF 'deemsterlaw14.EraseStays'. -/
def eraseStaysUptoCard : Claim7 := { stood := { row := eraseStaysUptoRow, standIns := [], harness := (true, "4ee978b291059a32013cea2ad1e4025bf50d094eb440d328091e5608d310185e"), looks := false }, kinds := [], alts := [], laidByText := true, laidKinds := [.data, .data, .pinned], laidTests := true, laidLooks := .later }
def EraseStaysUptoCardSaid : Prop := Claim7.holds Tryz.pinned (.plain (OpenSpec.upto eraseStaysSpec)) eraseStaysUptoCard
end Rows
end Go.Proofs.YtjhomlnlmpdklaaGreatDoor
