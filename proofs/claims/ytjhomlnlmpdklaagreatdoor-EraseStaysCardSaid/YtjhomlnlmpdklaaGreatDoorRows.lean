/-
  NARROWER THAN 'FOR EVERY INPUT', by the rows' own cells (each row's printed sentence says how): InnerTells: laid · InnerLeaves: laid · InnerAgrees: laid · EraseOf: laid · ErasePlace: laid · EraseStays: laid.
  DERIVED. THE GIVEN ROWS OF THIS SEAT. 6 by the template 'for every input the law returns true; each argument reads behind the call as it read before'; 0 by the template 'total and deterministic' (their statements: YtjhomlnlmpdklaaGreatDoorTotals.lean).
  GIVEN WITH THE SEED: the statements are not yours to turn. If you find one false, say at which input.
  Laid BY PROGRAM, IN A SANDBOX (cutbox-rows.mjs): the forced cells as the released guide's own fill.sh prints them over the translation fc6577be6dc82861… (all of the seat's roots in one cut). By AI agents, Wed Nov 11 2026. No macro, syntax, notation, axiom, sorry.
-/
import Derived.Test.YtjhomlnlmpdklaaGreatDoorChecked
import GoSem.PinnedTables
import GoSem.Claim
import GoSem.ClaimJoined
import GoSem.ClaimMapViews
import Derived.JoinedTies
import Derived.KernelRfl
namespace Go.Proofs.YtjhomlnlmpdklaaGreatDoor
/- THE CELL 'sum', in the pinned program and in every row, IS THE sha256 OF THE DUMP (.gsa) THAT YtjhomlnlmpdklaaGreatDoorProg.lean LOADS. Nothing in Lean hashes anything: it is a label: what it is worth is what the hold of that sum in a sandbox is worth. -/
noncomputable def Tryz.pinned : Pinned := { name := "ytjhomlnlmpdklaagreatdoor", sum := "fc6577be6dc828619c81687f0d956e385a82a8a9e2d79d86caf8e97914a6a991", checked := Tryz.checked }
namespace Rows
def none {H : Type} : Left H := { results := [], args := [] }

/- WHAT THE LISTED PACKAGE-LEVEL VARIABLES READ AS WHEN THE CALL BEGINS. Each datum BY PROGRAM (the guide's laid-datum.mjs) off the statement by which the dump's own 'gosem.cut.vars' lays the variable. In a bare row this is a premise. The card (YtjhomlnlmpdklaaGreatDoorCards.lean) ties it to the program's text. -/
def laid_unicode_utf8_acceptRanges {H : Type} : DataW H := .agg [.agg [.lit (.int .u8 128), .lit (.int .u8 191)], .agg [.lit (.int .u8 160), .lit (.int .u8 191)], .agg [.lit (.int .u8 128), .lit (.int .u8 159)], .agg [.lit (.int .u8 144), .lit (.int .u8 191)], .agg [.lit (.int .u8 128), .lit (.int .u8 143)], .agg [.lit (.int .u8 0), .lit (.int .u8 0)], .agg [.lit (.int .u8 0), .lit (.int .u8 0)], .agg [.lit (.int .u8 0), .lit (.int .u8 0)], .agg [.lit (.int .u8 0), .lit (.int .u8 0)], .agg [.lit (.int .u8 0), .lit (.int .u8 0)], .agg [.lit (.int .u8 0), .lit (.int .u8 0)], .agg [.lit (.int .u8 0), .lit (.int .u8 0)], .agg [.lit (.int .u8 0), .lit (.int .u8 0)], .agg [.lit (.int .u8 0), .lit (.int .u8 0)], .agg [.lit (.int .u8 0), .lit (.int .u8 0)], .agg [.lit (.int .u8 0), .lit (.int .u8 0)]]
def laid_deemster_event_verbs {H : Type} : DataW H := .agg [.agg [.lit (.int .i64 1), .lit (.string [98, 101, 103, 105, 110]), .lit (.bool false)], .agg [.lit (.int .i64 2), .lit (.string [114, 101, 97, 100]), .lit (.bool true)], .agg [.lit (.int .i64 3), .lit (.string [119, 114, 105, 116, 101]), .lit (.bool true)], .agg [.lit (.int .i64 4), .lit (.string [111, 107]), .lit (.bool false)], .agg [.lit (.int .i64 5), .lit (.string [102, 97, 105, 108]), .lit (.bool false)], .agg [.lit (.int .i64 6), .lit (.string [105, 110, 102, 111]), .lit (.bool false)]]
/-- One of Go's own tables, pinned by name: the form's constant. -/
def laid_unicode_utf8_first : DataW Unit := Go.Pinned.utf8First

/-- 'deemsterlaw13.InnerTells': WHATEVER THE INPUT: true; the input reads as it did. -/
def innerTellsSpec : ChangeSpec := { name := "innerTells", fn := fun _ => fun
  | [d1, d2] => { results := [.lit (.bool true)], args := [d1, d2] }
  | _ => none }
def innerTellsRow : OpenClaim := { program := "ytjhomlnlmpdklaagreatdoor", sum := "fc6577be6dc828619c81687f0d956e385a82a8a9e2d79d86caf8e97914a6a991", func := "deemster/deemsterlaw13.InnerTells", spec := "innerTells", inPlace := ["internal/bytealg.IndexByteString", "internal/bytealg.IndexString"], unfollowed := true, recurses := true, named := ["unicode/utf8.first", "unicode/utf8.acceptRanges", "internal/bytealg.MaxLen", "deemster/event.verbs"], apart := false, laid := [("unicode/utf8.acceptRanges", laid_unicode_utf8_acceptRanges), ("deemster/event.verbs", laid_deemster_event_verbs), ("unicode/utf8.first", laid_unicode_utf8_first)] }
def InnerTellsSaid : Prop := innerTellsRow.holds Tryz.pinned (OpenSpec.ofChange innerTellsSpec)

/-- ITS FALSE NEIGHBOUR: 'it returns false'. Refute it at one input. -/
def innerTellsWrong : ChangeSpec := { name := "innerTells", fn := fun _ => fun
  | [d1, d2] => { results := [.lit (.bool false)], args := [d1, d2] }
  | _ => none }
def InnerTellsWrongFalsely : Prop := innerTellsRow.holds Tryz.pinned (OpenSpec.ofChange innerTellsWrong)

/-- 'deemsterlaw13.InnerLeaves': WHATEVER THE INPUT: true; the input reads as it did. -/
def innerLeavesSpec : ChangeSpec := { name := "innerLeaves", fn := fun _ => fun
  | [d1, d2, d3] => { results := [.lit (.bool true)], args := [d1, d2, d3] }
  | _ => none }
def innerLeavesRow : OpenClaim := { program := "ytjhomlnlmpdklaagreatdoor", sum := "fc6577be6dc828619c81687f0d956e385a82a8a9e2d79d86caf8e97914a6a991", func := "deemster/deemsterlaw13.InnerLeaves", spec := "innerLeaves", inPlace := ["internal/bytealg.IndexByteString", "internal/bytealg.IndexString"], unfollowed := true, recurses := true, named := ["unicode/utf8.first", "unicode/utf8.acceptRanges", "internal/bytealg.MaxLen", "deemster/event.verbs"], apart := false, laid := [("unicode/utf8.acceptRanges", laid_unicode_utf8_acceptRanges), ("deemster/event.verbs", laid_deemster_event_verbs), ("unicode/utf8.first", laid_unicode_utf8_first)] }
def InnerLeavesSaid : Prop := innerLeavesRow.holds Tryz.pinned (OpenSpec.ofChange innerLeavesSpec)

/-- ITS FALSE NEIGHBOUR: 'it returns false'. Refute it at one input. -/
def innerLeavesWrong : ChangeSpec := { name := "innerLeaves", fn := fun _ => fun
  | [d1, d2, d3] => { results := [.lit (.bool false)], args := [d1, d2, d3] }
  | _ => none }
def InnerLeavesWrongFalsely : Prop := innerLeavesRow.holds Tryz.pinned (OpenSpec.ofChange innerLeavesWrong)

/-- 'deemsterlaw13.InnerAgrees': WHATEVER THE INPUT: true; the input reads as it did. -/
def innerAgreesSpec : ChangeSpec := { name := "innerAgrees", fn := fun _ => fun
  | [d] => { results := [.lit (.bool true)], args := [d] }
  | _ => none }
def innerAgreesRow : OpenClaim := { program := "ytjhomlnlmpdklaagreatdoor", sum := "fc6577be6dc828619c81687f0d956e385a82a8a9e2d79d86caf8e97914a6a991", func := "deemster/deemsterlaw13.InnerAgrees", spec := "innerAgrees", inPlace := ["internal/bytealg.IndexByteString", "internal/bytealg.IndexString"], unfollowed := true, recurses := true, named := ["unicode/utf8.first", "unicode/utf8.acceptRanges", "internal/bytealg.MaxLen", "deemster/event.verbs"], apart := false, laid := [("unicode/utf8.acceptRanges", laid_unicode_utf8_acceptRanges), ("deemster/event.verbs", laid_deemster_event_verbs), ("unicode/utf8.first", laid_unicode_utf8_first)] }
def InnerAgreesSaid : Prop := innerAgreesRow.holds Tryz.pinned (OpenSpec.ofChange innerAgreesSpec)

/-- ITS FALSE NEIGHBOUR: 'it returns false'. Refute it at one input. -/
def innerAgreesWrong : ChangeSpec := { name := "innerAgrees", fn := fun _ => fun
  | [d] => { results := [.lit (.bool false)], args := [d] }
  | _ => none }
def InnerAgreesWrongFalsely : Prop := innerAgreesRow.holds Tryz.pinned (OpenSpec.ofChange innerAgreesWrong)

/-- 'deemsterlaw14.EraseOf': WHATEVER THE INPUT: true; the input reads as it did. -/
def eraseOfSpec : ChangeSpec := { name := "eraseOf", fn := fun _ => fun
  | [d1, d2] => { results := [.lit (.bool true)], args := [d1, d2] }
  | _ => none }
def eraseOfRow : OpenClaim := { program := "ytjhomlnlmpdklaagreatdoor", sum := "fc6577be6dc828619c81687f0d956e385a82a8a9e2d79d86caf8e97914a6a991", func := "deemster/deemsterlaw14.EraseOf", spec := "eraseOf", inPlace := ["internal/bytealg.IndexByteString", "internal/bytealg.IndexString"], unfollowed := true, recurses := true, named := ["unicode/utf8.first", "unicode/utf8.acceptRanges", "internal/bytealg.MaxLen", "deemster/event.verbs"], apart := false, laid := [("unicode/utf8.acceptRanges", laid_unicode_utf8_acceptRanges), ("deemster/event.verbs", laid_deemster_event_verbs), ("unicode/utf8.first", laid_unicode_utf8_first)] }
def EraseOfSaid : Prop := eraseOfRow.holds Tryz.pinned (OpenSpec.ofChange eraseOfSpec)

/-- ITS FALSE NEIGHBOUR: 'it returns false'. Refute it at one input. -/
def eraseOfWrong : ChangeSpec := { name := "eraseOf", fn := fun _ => fun
  | [d1, d2] => { results := [.lit (.bool false)], args := [d1, d2] }
  | _ => none }
def EraseOfWrongFalsely : Prop := eraseOfRow.holds Tryz.pinned (OpenSpec.ofChange eraseOfWrong)

/-- 'deemsterlaw14.ErasePlace': WHATEVER THE INPUT: true; the input reads as it did. -/
def erasePlaceSpec : ChangeSpec := { name := "erasePlace", fn := fun _ => fun
  | [d1, d2] => { results := [.lit (.bool true)], args := [d1, d2] }
  | _ => none }
def erasePlaceRow : OpenClaim := { program := "ytjhomlnlmpdklaagreatdoor", sum := "fc6577be6dc828619c81687f0d956e385a82a8a9e2d79d86caf8e97914a6a991", func := "deemster/deemsterlaw14.ErasePlace", spec := "erasePlace", inPlace := ["internal/bytealg.IndexByteString", "internal/bytealg.IndexString"], unfollowed := true, recurses := true, named := ["unicode/utf8.first", "unicode/utf8.acceptRanges", "internal/bytealg.MaxLen", "deemster/event.verbs"], apart := false, laid := [("unicode/utf8.acceptRanges", laid_unicode_utf8_acceptRanges), ("deemster/event.verbs", laid_deemster_event_verbs), ("unicode/utf8.first", laid_unicode_utf8_first)] }
def ErasePlaceSaid : Prop := erasePlaceRow.holds Tryz.pinned (OpenSpec.ofChange erasePlaceSpec)

/-- ITS FALSE NEIGHBOUR: 'it returns false'. Refute it at one input. -/
def erasePlaceWrong : ChangeSpec := { name := "erasePlace", fn := fun _ => fun
  | [d1, d2] => { results := [.lit (.bool false)], args := [d1, d2] }
  | _ => none }
def ErasePlaceWrongFalsely : Prop := erasePlaceRow.holds Tryz.pinned (OpenSpec.ofChange erasePlaceWrong)

/-- 'deemsterlaw14.EraseStays': WHATEVER THE INPUT: true; the input reads as it did. -/
def eraseStaysSpec : ChangeSpec := { name := "eraseStays", fn := fun _ => fun
  | [d] => { results := [.lit (.bool true)], args := [d] }
  | _ => none }
def eraseStaysRow : OpenClaim := { program := "ytjhomlnlmpdklaagreatdoor", sum := "fc6577be6dc828619c81687f0d956e385a82a8a9e2d79d86caf8e97914a6a991", func := "deemster/deemsterlaw14.EraseStays", spec := "eraseStays", inPlace := ["internal/bytealg.IndexByteString", "internal/bytealg.IndexString"], unfollowed := true, recurses := true, named := ["unicode/utf8.first", "unicode/utf8.acceptRanges", "internal/bytealg.MaxLen", "deemster/event.verbs"], apart := false, laid := [("unicode/utf8.acceptRanges", laid_unicode_utf8_acceptRanges), ("deemster/event.verbs", laid_deemster_event_verbs), ("unicode/utf8.first", laid_unicode_utf8_first)] }
def EraseStaysSaid : Prop := eraseStaysRow.holds Tryz.pinned (OpenSpec.ofChange eraseStaysSpec)

/-- ITS FALSE NEIGHBOUR: 'it returns false'. Refute it at one input. -/
def eraseStaysWrong : ChangeSpec := { name := "eraseStays", fn := fun _ => fun
  | [d] => { results := [.lit (.bool false)], args := [d] }
  | _ => none }
def EraseStaysWrongFalsely : Prop := eraseStaysRow.holds Tryz.pinned (OpenSpec.ofChange eraseStaysWrong)

/- THE SECOND FORM. 'bulk': how many values and letters a reading holds, each counted each time it is reached (what is shared counts as often as it is met; a slice's spare places count too). A statement '..UptoSaid' is the law's where the arguments, and the package variables that the reading takes, are together of bulk at most 1048576: NARROWER than '..Said'. Prove '..Said' where nothing that the law and all that it calls make is longer than what came in: it says more and counts as full. Else prove '..UptoSaid'. A law counts once. -/
mutual
def uptoBulk {H : Type} : DataW H → Nat
  | .lit (.string bytes) => bytes.length + 1
  | .lit _ => 1
  | .nil => 1
  | .ptr d => uptoBulk d + 1
  | .slice elems spare => uptoBulkAll elems + uptoBulkAll spare + 1
  | .agg parts => uptoBulkAll parts + 1
  | .iface _ d => uptoBulk d + 1
  | .map entries => uptoBulkEntries entries + 1
  | .held _ => 1
def uptoBulkAll {H : Type} : List (DataW H) → Nat
  | [] => 0
  | d :: r => uptoBulk d + uptoBulkAll r
def uptoBulkEntries {H : Type} : List (Lit × DataW H) → Nat
  | [] => 0
  | x :: r => uptoBulkEntry x + uptoBulkEntries r
def uptoBulkEntry {H : Type} : Lit × DataW H → Nat
  | (.string bytes, d) => bytes.length + uptoBulk d + 1
  | (_, d) => uptoBulk d + 1
 end
def uptoSmall : (H : Type) → List (DataW H) → Bool := fun _ ds => decide (uptoBulkAll ds ≤ 1048576)
def OpenSpec.upto (s : _root_.Go.ChangeSpec) : _root_.Go.OpenSpec := { _root_.Go.OpenSpec.ofChange s with cond := some uptoSmall }

/-- 'deemsterlaw13.InnerTells', WHERE WHAT IT READS IS OF BULK AT MOST 1048576: true; the input reads as it did. -/
def innerTellsUptoRow : OpenClaim := { program := "ytjhomlnlmpdklaagreatdoor", sum := "fc6577be6dc828619c81687f0d956e385a82a8a9e2d79d86caf8e97914a6a991", func := "deemster/deemsterlaw13.InnerTells", spec := "innerTells", inPlace := ["internal/bytealg.IndexByteString", "internal/bytealg.IndexString"], unfollowed := true, recurses := true, named := ["unicode/utf8.first", "unicode/utf8.acceptRanges", "internal/bytealg.MaxLen", "deemster/event.verbs"], apart := false, laid := [("unicode/utf8.acceptRanges", laid_unicode_utf8_acceptRanges), ("deemster/event.verbs", laid_deemster_event_verbs), ("unicode/utf8.first", laid_unicode_utf8_first)], narrowed := true }
def InnerTellsUptoSaid : Prop := innerTellsUptoRow.holds Tryz.pinned (OpenSpec.upto innerTellsSpec)

/-- 'deemsterlaw13.InnerLeaves', WHERE WHAT IT READS IS OF BULK AT MOST 1048576: true; the input reads as it did. -/
def innerLeavesUptoRow : OpenClaim := { program := "ytjhomlnlmpdklaagreatdoor", sum := "fc6577be6dc828619c81687f0d956e385a82a8a9e2d79d86caf8e97914a6a991", func := "deemster/deemsterlaw13.InnerLeaves", spec := "innerLeaves", inPlace := ["internal/bytealg.IndexByteString", "internal/bytealg.IndexString"], unfollowed := true, recurses := true, named := ["unicode/utf8.first", "unicode/utf8.acceptRanges", "internal/bytealg.MaxLen", "deemster/event.verbs"], apart := false, laid := [("unicode/utf8.acceptRanges", laid_unicode_utf8_acceptRanges), ("deemster/event.verbs", laid_deemster_event_verbs), ("unicode/utf8.first", laid_unicode_utf8_first)], narrowed := true }
def InnerLeavesUptoSaid : Prop := innerLeavesUptoRow.holds Tryz.pinned (OpenSpec.upto innerLeavesSpec)

/-- 'deemsterlaw13.InnerAgrees', WHERE WHAT IT READS IS OF BULK AT MOST 1048576: true; the input reads as it did. -/
def innerAgreesUptoRow : OpenClaim := { program := "ytjhomlnlmpdklaagreatdoor", sum := "fc6577be6dc828619c81687f0d956e385a82a8a9e2d79d86caf8e97914a6a991", func := "deemster/deemsterlaw13.InnerAgrees", spec := "innerAgrees", inPlace := ["internal/bytealg.IndexByteString", "internal/bytealg.IndexString"], unfollowed := true, recurses := true, named := ["unicode/utf8.first", "unicode/utf8.acceptRanges", "internal/bytealg.MaxLen", "deemster/event.verbs"], apart := false, laid := [("unicode/utf8.acceptRanges", laid_unicode_utf8_acceptRanges), ("deemster/event.verbs", laid_deemster_event_verbs), ("unicode/utf8.first", laid_unicode_utf8_first)], narrowed := true }
def InnerAgreesUptoSaid : Prop := innerAgreesUptoRow.holds Tryz.pinned (OpenSpec.upto innerAgreesSpec)

/-- 'deemsterlaw14.EraseOf', WHERE WHAT IT READS IS OF BULK AT MOST 1048576: true; the input reads as it did. -/
def eraseOfUptoRow : OpenClaim := { program := "ytjhomlnlmpdklaagreatdoor", sum := "fc6577be6dc828619c81687f0d956e385a82a8a9e2d79d86caf8e97914a6a991", func := "deemster/deemsterlaw14.EraseOf", spec := "eraseOf", inPlace := ["internal/bytealg.IndexByteString", "internal/bytealg.IndexString"], unfollowed := true, recurses := true, named := ["unicode/utf8.first", "unicode/utf8.acceptRanges", "internal/bytealg.MaxLen", "deemster/event.verbs"], apart := false, laid := [("unicode/utf8.acceptRanges", laid_unicode_utf8_acceptRanges), ("deemster/event.verbs", laid_deemster_event_verbs), ("unicode/utf8.first", laid_unicode_utf8_first)], narrowed := true }
def EraseOfUptoSaid : Prop := eraseOfUptoRow.holds Tryz.pinned (OpenSpec.upto eraseOfSpec)

/-- 'deemsterlaw14.ErasePlace', WHERE WHAT IT READS IS OF BULK AT MOST 1048576: true; the input reads as it did. -/
def erasePlaceUptoRow : OpenClaim := { program := "ytjhomlnlmpdklaagreatdoor", sum := "fc6577be6dc828619c81687f0d956e385a82a8a9e2d79d86caf8e97914a6a991", func := "deemster/deemsterlaw14.ErasePlace", spec := "erasePlace", inPlace := ["internal/bytealg.IndexByteString", "internal/bytealg.IndexString"], unfollowed := true, recurses := true, named := ["unicode/utf8.first", "unicode/utf8.acceptRanges", "internal/bytealg.MaxLen", "deemster/event.verbs"], apart := false, laid := [("unicode/utf8.acceptRanges", laid_unicode_utf8_acceptRanges), ("deemster/event.verbs", laid_deemster_event_verbs), ("unicode/utf8.first", laid_unicode_utf8_first)], narrowed := true }
def ErasePlaceUptoSaid : Prop := erasePlaceUptoRow.holds Tryz.pinned (OpenSpec.upto erasePlaceSpec)

/-- 'deemsterlaw14.EraseStays', WHERE WHAT IT READS IS OF BULK AT MOST 1048576: true; the input reads as it did. -/
def eraseStaysUptoRow : OpenClaim := { program := "ytjhomlnlmpdklaagreatdoor", sum := "fc6577be6dc828619c81687f0d956e385a82a8a9e2d79d86caf8e97914a6a991", func := "deemster/deemsterlaw14.EraseStays", spec := "eraseStays", inPlace := ["internal/bytealg.IndexByteString", "internal/bytealg.IndexString"], unfollowed := true, recurses := true, named := ["unicode/utf8.first", "unicode/utf8.acceptRanges", "internal/bytealg.MaxLen", "deemster/event.verbs"], apart := false, laid := [("unicode/utf8.acceptRanges", laid_unicode_utf8_acceptRanges), ("deemster/event.verbs", laid_deemster_event_verbs), ("unicode/utf8.first", laid_unicode_utf8_first)], narrowed := true }
def EraseStaysUptoSaid : Prop := eraseStaysUptoRow.holds Tryz.pinned (OpenSpec.upto eraseStaysSpec)

end Rows
end Go.Proofs.YtjhomlnlmpdklaaGreatDoor
