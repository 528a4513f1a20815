/-
  NARROWER THAN 'FOR EVERY INPUT', by the rows' own cells (each row's printed sentence says how): WrTells: laid · WrNext: laid · WrAll: laid.
  DERIVED. THE GIVEN ROWS OF THIS SEAT. 3 by the template 'for every input the law returns true; each argument reads behind the call as it read before'; 0 by the template 'total and deterministic' (their statements: YthdofaoamljkfaaGreatDoorTotals.lean).
  GIVEN WITH THE SEED: the statements are not yours to turn. If you find one false, say at which input.
  Laid BY PROGRAM, IN A SANDBOX (cutbox-rows.mjs): the forced cells as the released guide's own fill.sh prints them over the translation 488b38aaf24c2aa4… (all of the seat's roots in one cut). By AI agents, Wed Nov 11 2026. No macro, syntax, notation, axiom, sorry.
-/
import Derived.Test.YthdofaoamljkfaaGreatDoorChecked
import GoSem.PinnedTables
import GoSem.Claim
import GoSem.ClaimJoined
import GoSem.ClaimMapViews
import Derived.JoinedTies
import Derived.KernelRfl
namespace Go.Proofs.YthdofaoamljkfaaGreatDoor
/- THE CELL 'sum', in the pinned program and in every row, IS THE sha256 OF THE DUMP (.gsa) THAT YthdofaoamljkfaaGreatDoorProg.lean LOADS. Nothing in Lean hashes anything: it is a label: what it is worth is what the hold of that sum in a sandbox is worth. -/
noncomputable def Tryz.pinned : Pinned := { name := "ythdofaoamljkfaagreatdoor", sum := "488b38aaf24c2aa4caaa22cf61ec0669125c844757030392d75ed9be583640c6", checked := Tryz.checked }
namespace Rows
def none {H : Type} : Left H := { results := [], args := [] }

/- WHAT THE LISTED PACKAGE-LEVEL VARIABLES READ AS WHEN THE CALL BEGINS. Each datum BY PROGRAM (the guide's laid-datum.mjs) off the statement by which the dump's own 'gosem.cut.vars' lays the variable. In a bare row this is a premise. The card (YthdofaoamljkfaaGreatDoorCards.lean) ties it to the program's text. -/
def laid_unicode_utf8_acceptRanges {H : Type} : DataW H := .agg [.agg [.lit (.int .u8 128), .lit (.int .u8 191)], .agg [.lit (.int .u8 160), .lit (.int .u8 191)], .agg [.lit (.int .u8 128), .lit (.int .u8 159)], .agg [.lit (.int .u8 144), .lit (.int .u8 191)], .agg [.lit (.int .u8 128), .lit (.int .u8 143)], .agg [.lit (.int .u8 0), .lit (.int .u8 0)], .agg [.lit (.int .u8 0), .lit (.int .u8 0)], .agg [.lit (.int .u8 0), .lit (.int .u8 0)], .agg [.lit (.int .u8 0), .lit (.int .u8 0)], .agg [.lit (.int .u8 0), .lit (.int .u8 0)], .agg [.lit (.int .u8 0), .lit (.int .u8 0)], .agg [.lit (.int .u8 0), .lit (.int .u8 0)], .agg [.lit (.int .u8 0), .lit (.int .u8 0)], .agg [.lit (.int .u8 0), .lit (.int .u8 0)], .agg [.lit (.int .u8 0), .lit (.int .u8 0)], .agg [.lit (.int .u8 0), .lit (.int .u8 0)]]
def laid_deemster_event_verbs {H : Type} : DataW H := .agg [.agg [.lit (.int .i64 1), .lit (.string [98, 101, 103, 105, 110]), .lit (.bool false)], .agg [.lit (.int .i64 2), .lit (.string [114, 101, 97, 100]), .lit (.bool true)], .agg [.lit (.int .i64 3), .lit (.string [119, 114, 105, 116, 101]), .lit (.bool true)], .agg [.lit (.int .i64 4), .lit (.string [111, 107]), .lit (.bool false)], .agg [.lit (.int .i64 5), .lit (.string [102, 97, 105, 108]), .lit (.bool false)], .agg [.lit (.int .i64 6), .lit (.string [105, 110, 102, 111]), .lit (.bool false)]]
/-- One of Go's own tables, pinned by name: the form's constant. -/
def laid_unicode_utf8_first : DataW Unit := Go.Pinned.utf8First

/-- 'deemsterlaw24.WrTells': WHATEVER THE INPUT: true; the input reads as it did. -/
def wrTellsSpec : ChangeSpec := { name := "wrTells", fn := fun _ => fun
  | [d1, d2] => { results := [.lit (.bool true)], args := [d1, d2] }
  | _ => none }
def wrTellsRow : OpenClaim := { program := "ythdofaoamljkfaagreatdoor", sum := "488b38aaf24c2aa4caaa22cf61ec0669125c844757030392d75ed9be583640c6", func := "deemster/deemsterlaw24.WrTells", spec := "wrTells", inPlace := ["internal/bytealg.IndexByteString", "internal/bytealg.IndexString"], unfollowed := true, recurses := true, named := ["unicode/utf8.first", "unicode/utf8.acceptRanges", "internal/bytealg.MaxLen", "deemster/event.verbs"], plainKeys := false, apart := false, laid := [("unicode/utf8.acceptRanges", laid_unicode_utf8_acceptRanges), ("deemster/event.verbs", laid_deemster_event_verbs), ("unicode/utf8.first", laid_unicode_utf8_first)] }
def WrTellsSaid : Prop := wrTellsRow.holds Tryz.pinned (OpenSpec.ofChange wrTellsSpec)

/-- ITS FALSE NEIGHBOUR: 'it returns false'. Refute it at one input. -/
def wrTellsWrong : ChangeSpec := { name := "wrTells", fn := fun _ => fun
  | [d1, d2] => { results := [.lit (.bool false)], args := [d1, d2] }
  | _ => none }
def WrTellsWrongFalsely : Prop := wrTellsRow.holds Tryz.pinned (OpenSpec.ofChange wrTellsWrong)

/-- 'deemsterlaw24.WrNext': WHATEVER THE INPUT: true; the input reads as it did. -/
def wrNextSpec : ChangeSpec := { name := "wrNext", fn := fun _ => fun
  | [d1, d2] => { results := [.lit (.bool true)], args := [d1, d2] }
  | _ => none }
def wrNextRow : OpenClaim := { program := "ythdofaoamljkfaagreatdoor", sum := "488b38aaf24c2aa4caaa22cf61ec0669125c844757030392d75ed9be583640c6", func := "deemster/deemsterlaw24.WrNext", spec := "wrNext", inPlace := ["internal/bytealg.IndexByteString", "internal/bytealg.IndexString"], unfollowed := true, recurses := true, named := ["unicode/utf8.first", "unicode/utf8.acceptRanges", "internal/bytealg.MaxLen", "deemster/event.verbs"], plainKeys := false, apart := false, laid := [("unicode/utf8.acceptRanges", laid_unicode_utf8_acceptRanges), ("deemster/event.verbs", laid_deemster_event_verbs), ("unicode/utf8.first", laid_unicode_utf8_first)] }
def WrNextSaid : Prop := wrNextRow.holds Tryz.pinned (OpenSpec.ofChange wrNextSpec)

/-- ITS FALSE NEIGHBOUR: 'it returns false'. Refute it at one input. -/
def wrNextWrong : ChangeSpec := { name := "wrNext", fn := fun _ => fun
  | [d1, d2] => { results := [.lit (.bool false)], args := [d1, d2] }
  | _ => none }
def WrNextWrongFalsely : Prop := wrNextRow.holds Tryz.pinned (OpenSpec.ofChange wrNextWrong)

/-- 'deemsterlaw24.WrAll': WHATEVER THE INPUT: true; the input reads as it did. -/
def wrAllSpec : ChangeSpec := { name := "wrAll", fn := fun _ => fun
  | [d] => { results := [.lit (.bool true)], args := [d] }
  | _ => none }
def wrAllRow : OpenClaim := { program := "ythdofaoamljkfaagreatdoor", sum := "488b38aaf24c2aa4caaa22cf61ec0669125c844757030392d75ed9be583640c6", func := "deemster/deemsterlaw24.WrAll", spec := "wrAll", inPlace := ["internal/bytealg.IndexByteString", "internal/bytealg.IndexString"], unfollowed := true, recurses := true, named := ["unicode/utf8.first", "unicode/utf8.acceptRanges", "internal/bytealg.MaxLen", "deemster/event.verbs"], plainKeys := false, apart := false, laid := [("unicode/utf8.acceptRanges", laid_unicode_utf8_acceptRanges), ("deemster/event.verbs", laid_deemster_event_verbs), ("unicode/utf8.first", laid_unicode_utf8_first)] }
def WrAllSaid : Prop := wrAllRow.holds Tryz.pinned (OpenSpec.ofChange wrAllSpec)

/-- ITS FALSE NEIGHBOUR: 'it returns false'. Refute it at one input. -/
def wrAllWrong : ChangeSpec := { name := "wrAll", fn := fun _ => fun
  | [d] => { results := [.lit (.bool false)], args := [d] }
  | _ => none }
def WrAllWrongFalsely : Prop := wrAllRow.holds Tryz.pinned (OpenSpec.ofChange wrAllWrong)

/- THE SECOND FORM. 'bulk': how many values and letters a reading holds, each counted each time it is reached (what is shared counts as often as it is met; a slice's spare places count too). A statement '..UptoSaid' is the law's where the arguments, and the package variables that the reading takes, are together of bulk at most 1048576: NARROWER than '..Said'. Prove '..Said' where nothing that the law and all that it calls make is longer than what came in: it says more and counts as full. Else prove '..UptoSaid'. A law counts once. -/
mutual
def uptoBulk {H : Type} : DataW H → Nat
  | .lit (.string bytes) => bytes.length + 1
  | .lit _ => 1
  | .nil => 1
  | .ptr d => uptoBulk d + 1
  | .slice elems spare => uptoBulkAll elems + uptoBulkAll spare + 1
  | .agg parts => uptoBulkAll parts + 1
  | .iface _ d => uptoBulk d + 1
  | .map entries => uptoBulkEntries entries + 1
  | .held _ => 1
def uptoBulkAll {H : Type} : List (DataW H) → Nat
  | [] => 0
  | d :: r => uptoBulk d + uptoBulkAll r
def uptoBulkEntries {H : Type} : List (Lit × DataW H) → Nat
  | [] => 0
  | x :: r => uptoBulkEntry x + uptoBulkEntries r
def uptoBulkEntry {H : Type} : Lit × DataW H → Nat
  | (.string bytes, d) => bytes.length + uptoBulk d + 1
  | (_, d) => uptoBulk d + 1
 end
def uptoSmall : (H : Type) → List (DataW H) → Bool := fun _ ds => decide (uptoBulkAll ds ≤ 1048576)
def OpenSpec.upto (s : _root_.Go.ChangeSpec) : _root_.Go.OpenSpec := { _root_.Go.OpenSpec.ofChange s with cond := some uptoSmall }

/-- 'deemsterlaw24.WrTells', WHERE WHAT IT READS IS OF BULK AT MOST 1048576: true; the input reads as it did. -/
def wrTellsUptoRow : OpenClaim := { program := "ythdofaoamljkfaagreatdoor", sum := "488b38aaf24c2aa4caaa22cf61ec0669125c844757030392d75ed9be583640c6", func := "deemster/deemsterlaw24.WrTells", spec := "wrTells", inPlace := ["internal/bytealg.IndexByteString", "internal/bytealg.IndexString"], unfollowed := true, recurses := true, named := ["unicode/utf8.first", "unicode/utf8.acceptRanges", "internal/bytealg.MaxLen", "deemster/event.verbs"], plainKeys := false, apart := false, laid := [("unicode/utf8.acceptRanges", laid_unicode_utf8_acceptRanges), ("deemster/event.verbs", laid_deemster_event_verbs), ("unicode/utf8.first", laid_unicode_utf8_first)], narrowed := true }
def WrTellsUptoSaid : Prop := wrTellsUptoRow.holds Tryz.pinned (OpenSpec.upto wrTellsSpec)

/-- 'deemsterlaw24.WrNext', WHERE WHAT IT READS IS OF BULK AT MOST 1048576: true; the input reads as it did. -/
def wrNextUptoRow : OpenClaim := { program := "ythdofaoamljkfaagreatdoor", sum := "488b38aaf24c2aa4caaa22cf61ec0669125c844757030392d75ed9be583640c6", func := "deemster/deemsterlaw24.WrNext", spec := "wrNext", inPlace := ["internal/bytealg.IndexByteString", "internal/bytealg.IndexString"], unfollowed := true, recurses := true, named := ["unicode/utf8.first", "unicode/utf8.acceptRanges", "internal/bytealg.MaxLen", "deemster/event.verbs"], plainKeys := false, apart := false, laid := [("unicode/utf8.acceptRanges", laid_unicode_utf8_acceptRanges), ("deemster/event.verbs", laid_deemster_event_verbs), ("unicode/utf8.first", laid_unicode_utf8_first)], narrowed := true }
def WrNextUptoSaid : Prop := wrNextUptoRow.holds Tryz.pinned (OpenSpec.upto wrNextSpec)

/-- 'deemsterlaw24.WrAll', WHERE WHAT IT READS IS OF BULK AT MOST 1048576: true; the input reads as it did. -/
def wrAllUptoRow : OpenClaim := { program := "ythdofaoamljkfaagreatdoor", sum := "488b38aaf24c2aa4caaa22cf61ec0669125c844757030392d75ed9be583640c6", func := "deemster/deemsterlaw24.WrAll", spec := "wrAll", inPlace := ["internal/bytealg.IndexByteString", "internal/bytealg.IndexString"], unfollowed := true, recurses := true, named := ["unicode/utf8.first", "unicode/utf8.acceptRanges", "internal/bytealg.MaxLen", "deemster/event.verbs"], plainKeys := false, apart := false, laid := [("unicode/utf8.acceptRanges", laid_unicode_utf8_acceptRanges), ("deemster/event.verbs", laid_deemster_event_verbs), ("unicode/utf8.first", laid_unicode_utf8_first)], narrowed := true }
def WrAllUptoSaid : Prop := wrAllUptoRow.holds Tryz.pinned (OpenSpec.upto wrAllSpec)

end Rows
end Go.Proofs.YthdofaoamljkfaaGreatDoor
