/-
  DERIVED. GIVEN WITH THE SEED: THE CARDS: each row of YtoojabllolnhnaaDoorRows.lean that lists a variable, with what it lists TIED to the program's text (the seventh form; the later family's looks); each row that meets fmt, with fmt's text TOLD by the authors' own Lean function (tested against real Go, not proved from fmt's source: count such statements apart). THE CARD IS WHAT COUNTS. Prove the row's statement (the work); the ties are given (YtoojabllolnhnaaDoorTie.lean); close each card by the builder's one call (the guide's Derived/Test/ToyasCard.lean, 'card_holds'). Laid BY PROGRAM, IN A SANDBOX (cutbox-door.mjs). By AI agents, Wed Nov 11 2026. No macro, syntax, notation, axiom, sorry.
-/
import Derived.Test.YtoojabllolnhnaaDoorRows
import GoSem.ClaimSeven
namespace Go.Proofs.YtoojabllolnhnaaDoor
namespace Rows

/-- THE TIED CARD OF 'deemsterlaw22.TopoLeast'. -/
def topoLeastCard : Claim7 := { stood := { row := topoLeastRow, standIns := [], harness := (true, "adcd0362517dd941344fd8f78a8916e0cb75461f63cfbd938aed07277582f197"), looks := false }, kinds := [], alts := [], laidByText := true, laidKinds := [.data], laidTests := true, laidLooks := .later }
def TopoLeastCardSaid : Prop := Claim7.holds Tryd.pinned (.plain (OpenSpec.ofChange topoLeastSpec)) topoLeastCard

/-- THE TIED CARD OF 'deemsterlaw22.TopoIs'. -/
def topoIsCard : Claim7 := { stood := { row := topoIsRow, standIns := [], harness := (true, "adcd0362517dd941344fd8f78a8916e0cb75461f63cfbd938aed07277582f197"), looks := false }, kinds := [], alts := [], laidByText := true, laidKinds := [.data], laidTests := true, laidLooks := .later }
def TopoIsCardSaid : Prop := Claim7.holds Tryd.pinned (.plain (OpenSpec.ofChange topoIsSpec)) topoIsCard

/-- THE TIED CARD OF 'deemsterlaw22.TopoCounts'. -/
def topoCountsCard : Claim7 := { stood := { row := topoCountsRow, standIns := [], harness := (true, "adcd0362517dd941344fd8f78a8916e0cb75461f63cfbd938aed07277582f197"), looks := false }, kinds := [], alts := [], laidByText := true, laidKinds := [.data], laidTests := true, laidLooks := .later }
def TopoCountsCardSaid : Prop := Claim7.holds Tryd.pinned (.plain (OpenSpec.ofChange topoCountsSpec)) topoCountsCard

/-- THE TIED CARD OF 'deemsterlaw22.TopoRound'. -/
def topoRoundCard : Claim7 := { stood := { row := topoRoundRow, standIns := [], harness := (true, "adcd0362517dd941344fd8f78a8916e0cb75461f63cfbd938aed07277582f197"), looks := false }, kinds := [], alts := [], laidByText := true, laidKinds := [.data], laidTests := true, laidLooks := .later }
def TopoRoundCardSaid : Prop := Claim7.holds Tryd.pinned (.plain (OpenSpec.ofChange topoRoundSpec)) topoRoundCard

/-- THE SECOND FORM's CARD OF 'deemsterlaw22.TopoLeast'. -/
def topoLeastUptoCard : Claim7 := { stood := { row := topoLeastUptoRow, standIns := [], harness := (true, "adcd0362517dd941344fd8f78a8916e0cb75461f63cfbd938aed07277582f197"), looks := false }, kinds := [], alts := [], laidByText := true, laidKinds := [.data], laidTests := true, laidLooks := .later }
def TopoLeastUptoCardSaid : Prop := Claim7.holds Tryd.pinned (.plain (OpenSpec.upto topoLeastSpec)) topoLeastUptoCard

/-- THE SECOND FORM's CARD OF 'deemsterlaw22.TopoIs'. -/
def topoIsUptoCard : Claim7 := { stood := { row := topoIsUptoRow, standIns := [], harness := (true, "adcd0362517dd941344fd8f78a8916e0cb75461f63cfbd938aed07277582f197"), looks := false }, kinds := [], alts := [], laidByText := true, laidKinds := [.data], laidTests := true, laidLooks := .later }
def TopoIsUptoCardSaid : Prop := Claim7.holds Tryd.pinned (.plain (OpenSpec.upto topoIsSpec)) topoIsUptoCard

/-- THE SECOND FORM's CARD OF 'deemsterlaw22.TopoCounts'. -/
def topoCountsUptoCard : Claim7 := { stood := { row := topoCountsUptoRow, standIns := [], harness := (true, "adcd0362517dd941344fd8f78a8916e0cb75461f63cfbd938aed07277582f197"), looks := false }, kinds := [], alts := [], laidByText := true, laidKinds := [.data], laidTests := true, laidLooks := .later }
def TopoCountsUptoCardSaid : Prop := Claim7.holds Tryd.pinned (.plain (OpenSpec.upto topoCountsSpec)) topoCountsUptoCard

/-- THE SECOND FORM's CARD OF 'deemsterlaw22.TopoRound'. -/
def topoRoundUptoCard : Claim7 := { stood := { row := topoRoundUptoRow, standIns := [], harness := (true, "adcd0362517dd941344fd8f78a8916e0cb75461f63cfbd938aed07277582f197"), looks := false }, kinds := [], alts := [], laidByText := true, laidKinds := [.data], laidTests := true, laidLooks := .later }
def TopoRoundUptoCardSaid : Prop := Claim7.holds Tryd.pinned (.plain (OpenSpec.upto topoRoundSpec)) topoRoundUptoCard
end Rows
end Go.Proofs.YtoojabllolnhnaaDoor
