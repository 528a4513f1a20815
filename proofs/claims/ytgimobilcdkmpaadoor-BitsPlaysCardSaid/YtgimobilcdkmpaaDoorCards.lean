/-
  DERIVED. GIVEN WITH THE SEED: THE CARDS: each row of YtgimobilcdkmpaaDoorRows.lean that lists a variable, with what it lists TIED to the program's text (the seventh form; the later family's looks); each row that meets fmt, with fmt's text TOLD by the authors' own Lean function (tested against real Go, not proved from fmt's source: count such statements apart). THE CARD IS WHAT COUNTS. Prove the row's statement (the work); the ties are given (YtgimobilcdkmpaaDoorTie.lean); close each card by the builder's one call (the guide's Derived/Test/ToyasCard.lean, 'card_holds'). Laid BY PROGRAM, IN A SANDBOX (cutbox-door.mjs). By AI agents, Wed Nov 11 2026. No macro, syntax, notation, axiom, sorry.
-/
import Derived.Test.YtgimobilcdkmpaaDoorRows
import GoSem.ClaimSeven
namespace Go.Proofs.YtgimobilcdkmpaaDoor
namespace Rows

/-- THE TIED CARD OF 'deemsterlaw18.BitsPlays'. -/
def bitsPlaysCard : Claim7 := { stood := { row := bitsPlaysRow, standIns := [], harness := (true, "a3a7a49d13f25c03578ae8895f0b9c45b724eaed95615ffbe584629763615b68"), looks := false }, kinds := [], alts := [], laidByText := true, laidKinds := [.data], laidTests := true, laidLooks := .later }
def BitsPlaysCardSaid : Prop := Claim7.holds Tryd.pinned (.plain (OpenSpec.ofChange bitsPlaysSpec)) bitsPlaysCard

/-- THE TIED CARD OF 'deemsterlaw18.BitsMeets'. -/
def bitsMeetsCard : Claim7 := { stood := { row := bitsMeetsRow, standIns := [], harness := (true, "a3a7a49d13f25c03578ae8895f0b9c45b724eaed95615ffbe584629763615b68"), looks := false }, kinds := [], alts := [], laidByText := true, laidKinds := [.data], laidTests := true, laidLooks := .later }
def BitsMeetsCardSaid : Prop := Claim7.holds Tryd.pinned (.plain (OpenSpec.ofChange bitsMeetsSpec)) bitsMeetsCard

/-- THE TIED CARD OF 'deemsterlaw18.BitsChange'. -/
def bitsChangeCard : Claim7 := { stood := { row := bitsChangeRow, standIns := [], harness := (true, "a3a7a49d13f25c03578ae8895f0b9c45b724eaed95615ffbe584629763615b68"), looks := false }, kinds := [], alts := [], laidByText := true, laidKinds := [.data], laidTests := true, laidLooks := .later }
def BitsChangeCardSaid : Prop := Claim7.holds Tryd.pinned (.plain (OpenSpec.ofChange bitsChangeSpec)) bitsChangeCard

/-- THE TIED CARD OF 'deemsterlaw18.BitsNone'. -/
def bitsNoneCard : Claim7 := { stood := { row := bitsNoneRow, standIns := [], harness := (true, "a3a7a49d13f25c03578ae8895f0b9c45b724eaed95615ffbe584629763615b68"), looks := false }, kinds := [], alts := [], laidByText := true, laidKinds := [.data], laidTests := true, laidLooks := .later }
def BitsNoneCardSaid : Prop := Claim7.holds Tryd.pinned (.plain (OpenSpec.ofChange bitsNoneSpec)) bitsNoneCard

/-- THE SECOND FORM's CARD OF 'deemsterlaw18.BitsPlays'. -/
def bitsPlaysUptoCard : Claim7 := { stood := { row := bitsPlaysUptoRow, standIns := [], harness := (true, "a3a7a49d13f25c03578ae8895f0b9c45b724eaed95615ffbe584629763615b68"), looks := false }, kinds := [], alts := [], laidByText := true, laidKinds := [.data], laidTests := true, laidLooks := .later }
def BitsPlaysUptoCardSaid : Prop := Claim7.holds Tryd.pinned (.plain (OpenSpec.upto bitsPlaysSpec)) bitsPlaysUptoCard

/-- THE SECOND FORM's CARD OF 'deemsterlaw18.BitsMeets'. -/
def bitsMeetsUptoCard : Claim7 := { stood := { row := bitsMeetsUptoRow, standIns := [], harness := (true, "a3a7a49d13f25c03578ae8895f0b9c45b724eaed95615ffbe584629763615b68"), looks := false }, kinds := [], alts := [], laidByText := true, laidKinds := [.data], laidTests := true, laidLooks := .later }
def BitsMeetsUptoCardSaid : Prop := Claim7.holds Tryd.pinned (.plain (OpenSpec.upto bitsMeetsSpec)) bitsMeetsUptoCard

/-- THE SECOND FORM's CARD OF 'deemsterlaw18.BitsChange'. -/
def bitsChangeUptoCard : Claim7 := { stood := { row := bitsChangeUptoRow, standIns := [], harness := (true, "a3a7a49d13f25c03578ae8895f0b9c45b724eaed95615ffbe584629763615b68"), looks := false }, kinds := [], alts := [], laidByText := true, laidKinds := [.data], laidTests := true, laidLooks := .later }
def BitsChangeUptoCardSaid : Prop := Claim7.holds Tryd.pinned (.plain (OpenSpec.upto bitsChangeSpec)) bitsChangeUptoCard

/-- THE SECOND FORM's CARD OF 'deemsterlaw18.BitsNone'. -/
def bitsNoneUptoCard : Claim7 := { stood := { row := bitsNoneUptoRow, standIns := [], harness := (true, "a3a7a49d13f25c03578ae8895f0b9c45b724eaed95615ffbe584629763615b68"), looks := false }, kinds := [], alts := [], laidByText := true, laidKinds := [.data], laidTests := true, laidLooks := .later }
def BitsNoneUptoCardSaid : Prop := Claim7.holds Tryd.pinned (.plain (OpenSpec.upto bitsNoneSpec)) bitsNoneUptoCard
end Rows
end Go.Proofs.YtgimobilcdkmpaaDoor
