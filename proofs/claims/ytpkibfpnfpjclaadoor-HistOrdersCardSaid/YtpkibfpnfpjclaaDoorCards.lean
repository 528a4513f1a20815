/-
  DERIVED. GIVEN WITH THE SEED: THE CARDS: each row of YtpkibfpnfpjclaaDoorRows.lean that lists a variable, with what it lists TIED to the program's text (the seventh form; the later family's looks); each row that meets fmt, with fmt's text TOLD by the authors' own Lean function (tested against real Go, not proved from fmt's source: count such statements apart). THE CARD IS WHAT COUNTS. Prove the row's statement (the work); the ties are given (YtpkibfpnfpjclaaDoorTie.lean); close each card by the builder's one call (the guide's Derived/Test/ToyasCard.lean, 'card_holds'). Laid BY PROGRAM, IN A SANDBOX (cutbox-door.mjs). By AI agents, Wed Nov 11 2026. No macro, syntax, notation, axiom, sorry.
-/
import Derived.Test.YtpkibfpnfpjclaaDoorRows
import GoSem.ClaimSeven
namespace Go.Proofs.YtpkibfpnfpjclaaDoor
namespace Rows

/-- THE TIED CARD OF 'deemsterlaw11.HistMays'. -/
def histMaysCard : Claim7 := { stood := { row := histMaysRow, standIns := [], harness := (true, "d4ab7aa8885f8b76cc4557e10104a682f0398510d7141eab6f2e62b07a7d0530"), looks := false }, kinds := [], alts := [], laidByText := true, laidKinds := [.data, .pinned], laidTests := true, laidLooks := .later }
def HistMaysCardSaid : Prop := Claim7.holds Tryd.pinned (.plain (OpenSpec.ofChange histMaysSpec)) histMaysCard

/-- THE TIED CARD OF 'deemsterlaw11.HistTells'. -/
def histTellsCard : Claim7 := { stood := { row := histTellsRow, standIns := [], harness := (true, "d4ab7aa8885f8b76cc4557e10104a682f0398510d7141eab6f2e62b07a7d0530"), looks := false }, kinds := [], alts := [], laidByText := true, laidKinds := [.data, .pinned], laidTests := true, laidLooks := .later }
def HistTellsCardSaid : Prop := Claim7.holds Tryd.pinned (.plain (OpenSpec.ofChange histTellsSpec)) histTellsCard

/-- THE TIED CARD OF 'deemsterlaw11.HistOrders'. -/
def histOrdersCard : Claim7 := { stood := { row := histOrdersRow, standIns := [], harness := (true, "d4ab7aa8885f8b76cc4557e10104a682f0398510d7141eab6f2e62b07a7d0530"), looks := false }, kinds := [], alts := [], laidByText := true, laidKinds := [.data, .pinned], laidTests := true, laidLooks := .later }
def HistOrdersCardSaid : Prop := Claim7.holds Tryd.pinned (.plain (OpenSpec.ofChange histOrdersSpec)) histOrdersCard

/-- THE TIED CARD OF 'deemsterlaw11.HistGoes'. -/
def histGoesCard : Claim7 := { stood := { row := histGoesRow, standIns := [], harness := (true, "d4ab7aa8885f8b76cc4557e10104a682f0398510d7141eab6f2e62b07a7d0530"), looks := false }, kinds := [], alts := [], laidByText := true, laidKinds := [.data, .pinned], laidTests := true, laidLooks := .later }
def HistGoesCardSaid : Prop := Claim7.holds Tryd.pinned (.plain (OpenSpec.ofChange histGoesSpec)) histGoesCard

/-- THE SECOND FORM's CARD OF 'deemsterlaw11.HistMays'. -/
def histMaysUptoCard : Claim7 := { stood := { row := histMaysUptoRow, standIns := [], harness := (true, "d4ab7aa8885f8b76cc4557e10104a682f0398510d7141eab6f2e62b07a7d0530"), looks := false }, kinds := [], alts := [], laidByText := true, laidKinds := [.data, .pinned], laidTests := true, laidLooks := .later }
def HistMaysUptoCardSaid : Prop := Claim7.holds Tryd.pinned (.plain (OpenSpec.upto histMaysSpec)) histMaysUptoCard

/-- THE SECOND FORM's CARD OF 'deemsterlaw11.HistTells'. -/
def histTellsUptoCard : Claim7 := { stood := { row := histTellsUptoRow, standIns := [], harness := (true, "d4ab7aa8885f8b76cc4557e10104a682f0398510d7141eab6f2e62b07a7d0530"), looks := false }, kinds := [], alts := [], laidByText := true, laidKinds := [.data, .pinned], laidTests := true, laidLooks := .later }
def HistTellsUptoCardSaid : Prop := Claim7.holds Tryd.pinned (.plain (OpenSpec.upto histTellsSpec)) histTellsUptoCard

/-- THE SECOND FORM's CARD OF 'deemsterlaw11.HistOrders'. -/
def histOrdersUptoCard : Claim7 := { stood := { row := histOrdersUptoRow, standIns := [], harness := (true, "d4ab7aa8885f8b76cc4557e10104a682f0398510d7141eab6f2e62b07a7d0530"), looks := false }, kinds := [], alts := [], laidByText := true, laidKinds := [.data, .pinned], laidTests := true, laidLooks := .later }
def HistOrdersUptoCardSaid : Prop := Claim7.holds Tryd.pinned (.plain (OpenSpec.upto histOrdersSpec)) histOrdersUptoCard

/-- THE SECOND FORM's CARD OF 'deemsterlaw11.HistGoes'. -/
def histGoesUptoCard : Claim7 := { stood := { row := histGoesUptoRow, standIns := [], harness := (true, "d4ab7aa8885f8b76cc4557e10104a682f0398510d7141eab6f2e62b07a7d0530"), looks := false }, kinds := [], alts := [], laidByText := true, laidKinds := [.data, .pinned], laidTests := true, laidLooks := .later }
def HistGoesUptoCardSaid : Prop := Claim7.holds Tryd.pinned (.plain (OpenSpec.upto histGoesSpec)) histGoesUptoCard
end Rows
end Go.Proofs.YtpkibfpnfpjclaaDoor
