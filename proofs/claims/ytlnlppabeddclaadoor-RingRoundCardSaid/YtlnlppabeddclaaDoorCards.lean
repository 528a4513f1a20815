/-
  DERIVED. GIVEN WITH THE SEED: THE CARDS: each row of YtlnlppabeddclaaDoorRows.lean that lists a variable, with what it lists TIED to the program's text (the seventh form; the later family's looks); each row that meets fmt, with fmt's text TOLD by the authors' own Lean function (tested against real Go, not proved from fmt's source: count such statements apart). THE CARD IS WHAT COUNTS. Prove the row's statement (the work); the ties are given (YtlnlppabeddclaaDoorTie.lean); close each card by the builder's one call (the guide's Derived/Test/ToyasCard.lean, 'card_holds'). Laid BY PROGRAM, IN A SANDBOX (cutbox-door.mjs). By AI agents, Wed Nov 11 2026. No macro, syntax, notation, axiom, sorry.
-/
import Derived.Test.YtlnlppabeddclaaDoorRows
import GoSem.ClaimSeven
namespace Go.Proofs.YtlnlppabeddclaaDoor
namespace Rows

/-- THE TIED CARD OF 'deemsterlaw23.RingLeast'. -/
def ringLeastCard : Claim7 := { stood := { row := ringLeastRow, standIns := [], harness := (true, "113356a71dddcf1f2aff7f1eb28d1fa6fa2a971e89d520516aad70794816357e"), looks := false }, kinds := [], alts := [], laidByText := true, laidKinds := [.data], laidTests := true, laidLooks := .later }
def RingLeastCardSaid : Prop := Claim7.holds Tryd.pinned (.plain (OpenSpec.ofChange ringLeastSpec)) ringLeastCard

/-- THE TIED CARD OF 'deemsterlaw23.RingIs'. -/
def ringIsCard : Claim7 := { stood := { row := ringIsRow, standIns := [], harness := (true, "113356a71dddcf1f2aff7f1eb28d1fa6fa2a971e89d520516aad70794816357e"), looks := false }, kinds := [], alts := [], laidByText := true, laidKinds := [.data], laidTests := true, laidLooks := .later }
def RingIsCardSaid : Prop := Claim7.holds Tryd.pinned (.plain (OpenSpec.ofChange ringIsSpec)) ringIsCard

/-- THE TIED CARD OF 'deemsterlaw23.RingRound'. -/
def ringRoundCard : Claim7 := { stood := { row := ringRoundRow, standIns := [], harness := (true, "113356a71dddcf1f2aff7f1eb28d1fa6fa2a971e89d520516aad70794816357e"), looks := false }, kinds := [], alts := [], laidByText := true, laidKinds := [.data], laidTests := true, laidLooks := .later }
def RingRoundCardSaid : Prop := Claim7.holds Tryd.pinned (.plain (OpenSpec.ofChange ringRoundSpec)) ringRoundCard

/-- THE SECOND FORM's CARD OF 'deemsterlaw23.RingLeast'. -/
def ringLeastUptoCard : Claim7 := { stood := { row := ringLeastUptoRow, standIns := [], harness := (true, "113356a71dddcf1f2aff7f1eb28d1fa6fa2a971e89d520516aad70794816357e"), looks := false }, kinds := [], alts := [], laidByText := true, laidKinds := [.data], laidTests := true, laidLooks := .later }
def RingLeastUptoCardSaid : Prop := Claim7.holds Tryd.pinned (.plain (OpenSpec.upto ringLeastSpec)) ringLeastUptoCard

/-- THE SECOND FORM's CARD OF 'deemsterlaw23.RingIs'. -/
def ringIsUptoCard : Claim7 := { stood := { row := ringIsUptoRow, standIns := [], harness := (true, "113356a71dddcf1f2aff7f1eb28d1fa6fa2a971e89d520516aad70794816357e"), looks := false }, kinds := [], alts := [], laidByText := true, laidKinds := [.data], laidTests := true, laidLooks := .later }
def RingIsUptoCardSaid : Prop := Claim7.holds Tryd.pinned (.plain (OpenSpec.upto ringIsSpec)) ringIsUptoCard

/-- THE SECOND FORM's CARD OF 'deemsterlaw23.RingRound'. -/
def ringRoundUptoCard : Claim7 := { stood := { row := ringRoundUptoRow, standIns := [], harness := (true, "113356a71dddcf1f2aff7f1eb28d1fa6fa2a971e89d520516aad70794816357e"), looks := false }, kinds := [], alts := [], laidByText := true, laidKinds := [.data], laidTests := true, laidLooks := .later }
def RingRoundUptoCardSaid : Prop := Claim7.holds Tryd.pinned (.plain (OpenSpec.upto ringRoundSpec)) ringRoundUptoCard
end Rows
end Go.Proofs.YtlnlppabeddclaaDoor
