/-
  DERIVED. GIVEN WITH THE SEED: THE CARDS: each row of YthdofaoamljkfaaGreatDoorRows.lean that lists a variable, with what it lists TIED to the program's text (the seventh form; the later family's looks); each row that meets fmt, with fmt's text TOLD by the authors' own Lean function (tested against real Go, not proved from fmt's source: count such statements apart). THE CARD IS WHAT COUNTS. Prove the row's statement (the work); the ties are given (YthdofaoamljkfaaGreatDoorTie.lean); close each card by the builder's one call (the guide's Derived/Test/ToyasCard.lean, 'card_holds'). Laid BY PROGRAM, IN A SANDBOX (cutbox-door.mjs). By AI agents, Wed Nov 11 2026. No macro, syntax, notation, axiom, sorry.
-/
import Derived.Test.YthdofaoamljkfaaGreatDoorRows
import GoSem.ClaimSeven
namespace Go.Proofs.YthdofaoamljkfaaGreatDoor
namespace Rows

/-- THE TIED CARD OF 'deemsterlaw24.WrTells'. -/
def wrTellsCard : Claim7 := { stood := { row := wrTellsRow, standIns := [], harness := (true, "aaad560aa7c59205e0ddb94ce84a8c22cee5ac4a9118b7fe876023d9859e9daa"), looks := false }, kinds := [], alts := [], laidByText := true, laidKinds := [.data, .data, .pinned], laidTests := true, laidLooks := .later }
def WrTellsCardSaid : Prop := Claim7.holds Tryz.pinned (.plain (OpenSpec.ofChange wrTellsSpec)) wrTellsCard

/-- THE TIED CARD OF 'deemsterlaw24.WrNext'. -/
def wrNextCard : Claim7 := { stood := { row := wrNextRow, standIns := [], harness := (true, "aaad560aa7c59205e0ddb94ce84a8c22cee5ac4a9118b7fe876023d9859e9daa"), looks := false }, kinds := [], alts := [], laidByText := true, laidKinds := [.data, .data, .pinned], laidTests := true, laidLooks := .later }
def WrNextCardSaid : Prop := Claim7.holds Tryz.pinned (.plain (OpenSpec.ofChange wrNextSpec)) wrNextCard

/-- THE TIED CARD OF 'deemsterlaw24.WrAll'. -/
def wrAllCard : Claim7 := { stood := { row := wrAllRow, standIns := [], harness := (true, "aaad560aa7c59205e0ddb94ce84a8c22cee5ac4a9118b7fe876023d9859e9daa"), looks := false }, kinds := [], alts := [], laidByText := true, laidKinds := [.data, .data, .pinned], laidTests := true, laidLooks := .later }
def WrAllCardSaid : Prop := Claim7.holds Tryz.pinned (.plain (OpenSpec.ofChange wrAllSpec)) wrAllCard

/-- THE SECOND FORM's CARD OF 'deemsterlaw24.WrTells'. -/
def wrTellsUptoCard : Claim7 := { stood := { row := wrTellsUptoRow, standIns := [], harness := (true, "aaad560aa7c59205e0ddb94ce84a8c22cee5ac4a9118b7fe876023d9859e9daa"), looks := false }, kinds := [], alts := [], laidByText := true, laidKinds := [.data, .data, .pinned], laidTests := true, laidLooks := .later }
def WrTellsUptoCardSaid : Prop := Claim7.holds Tryz.pinned (.plain (OpenSpec.upto wrTellsSpec)) wrTellsUptoCard

/-- THE SECOND FORM's CARD OF 'deemsterlaw24.WrNext'. -/
def wrNextUptoCard : Claim7 := { stood := { row := wrNextUptoRow, standIns := [], harness := (true, "aaad560aa7c59205e0ddb94ce84a8c22cee5ac4a9118b7fe876023d9859e9daa"), looks := false }, kinds := [], alts := [], laidByText := true, laidKinds := [.data, .data, .pinned], laidTests := true, laidLooks := .later }
def WrNextUptoCardSaid : Prop := Claim7.holds Tryz.pinned (.plain (OpenSpec.upto wrNextSpec)) wrNextUptoCard

/-- THE SECOND FORM's CARD OF 'deemsterlaw24.WrAll'. -/
def wrAllUptoCard : Claim7 := { stood := { row := wrAllUptoRow, standIns := [], harness := (true, "aaad560aa7c59205e0ddb94ce84a8c22cee5ac4a9118b7fe876023d9859e9daa"), looks := false }, kinds := [], alts := [], laidByText := true, laidKinds := [.data, .data, .pinned], laidTests := true, laidLooks := .later }
def WrAllUptoCardSaid : Prop := Claim7.holds Tryz.pinned (.plain (OpenSpec.upto wrAllSpec)) wrAllUptoCard
end Rows
end Go.Proofs.YthdofaoamljkfaaGreatDoor
