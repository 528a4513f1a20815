/-
  DERIVED. GIVEN WITH THE SEED: THE CARDS: each row of YtlemjgjpglmphaaDoorRows.lean that lists a variable, with what it lists TIED to the program's text (the seventh form; the later family's looks); each row that meets fmt, with fmt's text TOLD by the authors' own Lean function (tested against real Go, not proved from fmt's source: count such statements apart). THE CARD IS WHAT COUNTS. Prove the row's statement (the work); the ties are given (YtlemjgjpglmphaaDoorTie.lean); close each card by the builder's one call (the guide's Derived/Test/ToyasCard.lean, 'card_holds'). Laid BY PROGRAM, IN A SANDBOX (cutbox-door.mjs). By AI agents, Wed Nov 11 2026. No macro, syntax, notation, axiom, sorry.
-/
import Derived.Test.YtlemjgjpglmphaaDoorRows
import GoSem.ClaimSeven
namespace Go.Proofs.YtlemjgjpglmphaaDoor
namespace Rows

/-- THE TIED CARD OF 'deemsterlaw20.PartOf'. -/
def partOfCard : Claim7 := { stood := { row := partOfRow, standIns := [], harness := (true, "bfab06098e8dfc359532e9eb26f63b397d4ada5e0d12c21b460674c7d60c5eca"), looks := false }, kinds := [], alts := [], laidByText := true, laidKinds := [.data], laidTests := true, laidLooks := .later }
def PartOfCardSaid : Prop := Claim7.holds Tryd.pinned (.plain (OpenSpec.ofChange partOfSpec)) partOfCard

/-- THE TIED CARD OF 'deemsterlaw20.PartRound'. -/
def partRoundCard : Claim7 := { stood := { row := partRoundRow, standIns := [], harness := (true, "bfab06098e8dfc359532e9eb26f63b397d4ada5e0d12c21b460674c7d60c5eca"), looks := false }, kinds := [], alts := [], laidByText := true, laidKinds := [.data], laidTests := true, laidLooks := .later }
def PartRoundCardSaid : Prop := Claim7.holds Tryd.pinned (.plain (OpenSpec.ofChange partRoundSpec)) partRoundCard

/-- THE TIED CARD OF 'deemsterlaw20.PartOnce'. -/
def partOnceCard : Claim7 := { stood := { row := partOnceRow, standIns := [], harness := (true, "bfab06098e8dfc359532e9eb26f63b397d4ada5e0d12c21b460674c7d60c5eca"), looks := false }, kinds := [], alts := [], laidByText := true, laidKinds := [.data], laidTests := true, laidLooks := .later }
def PartOnceCardSaid : Prop := Claim7.holds Tryd.pinned (.plain (OpenSpec.ofChange partOnceSpec)) partOnceCard

/-- THE SECOND FORM's CARD OF 'deemsterlaw20.PartOf'. -/
def partOfUptoCard : Claim7 := { stood := { row := partOfUptoRow, standIns := [], harness := (true, "bfab06098e8dfc359532e9eb26f63b397d4ada5e0d12c21b460674c7d60c5eca"), looks := false }, kinds := [], alts := [], laidByText := true, laidKinds := [.data], laidTests := true, laidLooks := .later }
def PartOfUptoCardSaid : Prop := Claim7.holds Tryd.pinned (.plain (OpenSpec.upto partOfSpec)) partOfUptoCard

/-- THE SECOND FORM's CARD OF 'deemsterlaw20.PartRound'. -/
def partRoundUptoCard : Claim7 := { stood := { row := partRoundUptoRow, standIns := [], harness := (true, "bfab06098e8dfc359532e9eb26f63b397d4ada5e0d12c21b460674c7d60c5eca"), looks := false }, kinds := [], alts := [], laidByText := true, laidKinds := [.data], laidTests := true, laidLooks := .later }
def PartRoundUptoCardSaid : Prop := Claim7.holds Tryd.pinned (.plain (OpenSpec.upto partRoundSpec)) partRoundUptoCard

/-- THE SECOND FORM's CARD OF 'deemsterlaw20.PartOnce'. -/
def partOnceUptoCard : Claim7 := { stood := { row := partOnceUptoRow, standIns := [], harness := (true, "bfab06098e8dfc359532e9eb26f63b397d4ada5e0d12c21b460674c7d60c5eca"), looks := false }, kinds := [], alts := [], laidByText := true, laidKinds := [.data], laidTests := true, laidLooks := .later }
def PartOnceUptoCardSaid : Prop := Claim7.holds Tryd.pinned (.plain (OpenSpec.upto partOnceSpec)) partOnceUptoCard
end Rows
end Go.Proofs.YtlemjgjpglmphaaDoor
