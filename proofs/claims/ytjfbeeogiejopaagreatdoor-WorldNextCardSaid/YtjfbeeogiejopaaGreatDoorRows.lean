/-
  NARROWER THAN 'FOR EVERY INPUT', by the rows' own cells (each row's printed sentence says how): WriterOf: laid · WriterFresh: laid · WriterHas: laid · WorldTells: laid · WorldNext: laid · WorldAll: laid.
  DERIVED. THE GIVEN ROWS OF THIS SEAT. 6 by the template 'for every input the law returns true; each argument reads behind the call as it read before'; 0 by the template 'total and deterministic' (their statements: YtjfbeeogiejopaaGreatDoorTotals.lean).
  GIVEN WITH THE SEED: the statements are not yours to turn. If you find one false, say at which input.
  Laid BY PROGRAM, IN A SANDBOX (cutbox-rows.mjs): the forced cells as the released guide's own fill.sh prints them over the translation 5dc8fe0a00361f76… (all of the seat's roots in one cut). By AI agents, Wed Nov 11 2026. No macro, syntax, notation, axiom, sorry.
-/
import Derived.Test.YtjfbeeogiejopaaGreatDoorChecked
import GoSem.PinnedTables
import GoSem.Claim
import GoSem.ClaimJoined
import GoSem.ClaimMapViews
import Derived.JoinedTies
import Derived.KernelRfl
namespace Go.Proofs.YtjfbeeogiejopaaGreatDoor
/- THE CELL 'sum', in the pinned program and in every row, IS THE sha256 OF THE DUMP (.gsa) THAT YtjfbeeogiejopaaGreatDoorProg.lean LOADS. Nothing in Lean hashes anything: it is a label: what it is worth is what the hold of that sum in a sandbox is worth. -/
noncomputable def Tryz.pinned : Pinned := { name := "ytjfbeeogiejopaagreatdoor", sum := "5dc8fe0a00361f76050d4d2f63fb53d5ea9225e32b3b5539e6caa71b36cd0e21", checked := Tryz.checked }
namespace Rows
def none {H : Type} : Left H := { results := [], args := [] }

/- WHAT THE LISTED PACKAGE-LEVEL VARIABLES READ AS WHEN THE CALL BEGINS. Each datum BY PROGRAM (the guide's laid-datum.mjs) off the statement by which the dump's own 'gosem.cut.vars' lays the variable. In a bare row this is a premise. The card (YtjfbeeogiejopaaGreatDoorCards.lean) ties it to the program's text. -/
def laid_unicode_utf8_acceptRanges {H : Type} : DataW H := .agg [.agg [.lit (.int .u8 128), .lit (.int .u8 191)], .agg [.lit (.int .u8 160), .lit (.int .u8 191)], .agg [.lit (.int .u8 128), .lit (.int .u8 159)], .agg [.lit (.int .u8 144), .lit (.int .u8 191)], .agg [.lit (.int .u8 128), .lit (.int .u8 143)], .agg [.lit (.int .u8 0), .lit (.int .u8 0)], .agg [.lit (.int .u8 0), .lit (.int .u8 0)], .agg [.lit (.int .u8 0), .lit (.int .u8 0)], .agg [.lit (.int .u8 0), .lit (.int .u8 0)], .agg [.lit (.int .u8 0), .lit (.int .u8 0)], .agg [.lit (.int .u8 0), .lit (.int .u8 0)], .agg [.lit (.int .u8 0), .lit (.int .u8 0)], .agg [.lit (.int .u8 0), .lit (.int .u8 0)], .agg [.lit (.int .u8 0), .lit (.int .u8 0)], .agg [.lit (.int .u8 0), .lit (.int .u8 0)], .agg [.lit (.int .u8 0), .lit (.int .u8 0)]]
def laid_deemster_event_verbs {H : Type} : DataW H := .agg [.agg [.lit (.int .i64 1), .lit (.string [98, 101, 103, 105, 110]), .lit (.bool false)], .agg [.lit (.int .i64 2), .lit (.string [114, 101, 97, 100]), .lit (.bool true)], .agg [.lit (.int .i64 3), .lit (.string [119, 114, 105, 116, 101]), .lit (.bool true)], .agg [.lit (.int .i64 4), .lit (.string [111, 107]), .lit (.bool false)], .agg [.lit (.int .i64 5), .lit (.string [102, 97, 105, 108]), .lit (.bool false)], .agg [.lit (.int .i64 6), .lit (.string [105, 110, 102, 111]), .lit (.bool false)]]
/-- One of Go's own tables, pinned by name: the form's constant. -/
def laid_unicode_utf8_first : DataW Unit := Go.Pinned.utf8First

/-- 'deemsterlaw15.WriterOf': WHATEVER THE INPUT: true; the input reads as it did. -/
def writerOfSpec : ChangeSpec := { name := "writerOf", fn := fun _ => fun
  | [d1, d2] => { results := [.lit (.bool true)], args := [d1, d2] }
  | _ => none }
def writerOfRow : OpenClaim := { program := "ytjfbeeogiejopaagreatdoor", sum := "5dc8fe0a00361f76050d4d2f63fb53d5ea9225e32b3b5539e6caa71b36cd0e21", func := "deemster/deemsterlaw15.WriterOf", spec := "writerOf", inPlace := ["internal/bytealg.IndexByteString", "internal/bytealg.IndexString"], unfollowed := true, recurses := true, named := ["unicode/utf8.first", "unicode/utf8.acceptRanges", "internal/bytealg.MaxLen", "deemster/event.verbs"], plainKeys := false, apart := false, laid := [("unicode/utf8.acceptRanges", laid_unicode_utf8_acceptRanges), ("deemster/event.verbs", laid_deemster_event_verbs), ("unicode/utf8.first", laid_unicode_utf8_first)] }
def WriterOfSaid : Prop := writerOfRow.holds Tryz.pinned (OpenSpec.ofChange writerOfSpec)

/-- ITS FALSE NEIGHBOUR: 'it returns false'. Refute it at one input. -/
def writerOfWrong : ChangeSpec := { name := "writerOf", fn := fun _ => fun
  | [d1, d2] => { results := [.lit (.bool false)], args := [d1, d2] }
  | _ => none }
def WriterOfWrongFalsely : Prop := writerOfRow.holds Tryz.pinned (OpenSpec.ofChange writerOfWrong)

/-- 'deemsterlaw15.WriterFresh': WHATEVER THE INPUT: true; the input reads as it did. -/
def writerFreshSpec : ChangeSpec := { name := "writerFresh", fn := fun _ => fun
  | [d1, d2] => { results := [.lit (.bool true)], args := [d1, d2] }
  | _ => none }
def writerFreshRow : OpenClaim := { program := "ytjfbeeogiejopaagreatdoor", sum := "5dc8fe0a00361f76050d4d2f63fb53d5ea9225e32b3b5539e6caa71b36cd0e21", func := "deemster/deemsterlaw15.WriterFresh", spec := "writerFresh", inPlace := ["internal/bytealg.IndexByteString", "internal/bytealg.IndexString"], unfollowed := true, recurses := true, named := ["unicode/utf8.first", "unicode/utf8.acceptRanges", "internal/bytealg.MaxLen", "deemster/event.verbs"], plainKeys := false, apart := false, laid := [("unicode/utf8.acceptRanges", laid_unicode_utf8_acceptRanges), ("deemster/event.verbs", laid_deemster_event_verbs), ("unicode/utf8.first", laid_unicode_utf8_first)] }
def WriterFreshSaid : Prop := writerFreshRow.holds Tryz.pinned (OpenSpec.ofChange writerFreshSpec)

/-- ITS FALSE NEIGHBOUR: 'it returns false'. Refute it at one input. -/
def writerFreshWrong : ChangeSpec := { name := "writerFresh", fn := fun _ => fun
  | [d1, d2] => { results := [.lit (.bool false)], args := [d1, d2] }
  | _ => none }
def WriterFreshWrongFalsely : Prop := writerFreshRow.holds Tryz.pinned (OpenSpec.ofChange writerFreshWrong)

/-- 'deemsterlaw15.WriterHas': WHATEVER THE INPUT: true; the input reads as it did. -/
def writerHasSpec : ChangeSpec := { name := "writerHas", fn := fun _ => fun
  | [d1, d2] => { results := [.lit (.bool true)], args := [d1, d2] }
  | _ => none }
def writerHasRow : OpenClaim := { program := "ytjfbeeogiejopaagreatdoor", sum := "5dc8fe0a00361f76050d4d2f63fb53d5ea9225e32b3b5539e6caa71b36cd0e21", func := "deemster/deemsterlaw15.WriterHas", spec := "writerHas", inPlace := ["internal/bytealg.IndexByteString", "internal/bytealg.IndexString"], unfollowed := true, recurses := true, named := ["unicode/utf8.first", "unicode/utf8.acceptRanges", "internal/bytealg.MaxLen", "deemster/event.verbs"], plainKeys := false, apart := false, laid := [("unicode/utf8.acceptRanges", laid_unicode_utf8_acceptRanges), ("deemster/event.verbs", laid_deemster_event_verbs), ("unicode/utf8.first", laid_unicode_utf8_first)] }
def WriterHasSaid : Prop := writerHasRow.holds Tryz.pinned (OpenSpec.ofChange writerHasSpec)

/-- ITS FALSE NEIGHBOUR: 'it returns false'. Refute it at one input. -/
def writerHasWrong : ChangeSpec := { name := "writerHas", fn := fun _ => fun
  | [d1, d2] => { results := [.lit (.bool false)], args := [d1, d2] }
  | _ => none }
def WriterHasWrongFalsely : Prop := writerHasRow.holds Tryz.pinned (OpenSpec.ofChange writerHasWrong)

/-- 'deemsterlaw16.WorldTells': WHATEVER THE INPUT: true; the input reads as it did. -/
def worldTellsSpec : ChangeSpec := { name := "worldTells", fn := fun _ => fun
  | [d1, d2] => { results := [.lit (.bool true)], args := [d1, d2] }
  | _ => none }
def worldTellsRow : OpenClaim := { program := "ytjfbeeogiejopaagreatdoor", sum := "5dc8fe0a00361f76050d4d2f63fb53d5ea9225e32b3b5539e6caa71b36cd0e21", func := "deemster/deemsterlaw16.WorldTells", spec := "worldTells", inPlace := ["internal/bytealg.IndexByteString", "internal/bytealg.IndexString"], unfollowed := true, recurses := true, named := ["unicode/utf8.first", "unicode/utf8.acceptRanges", "internal/bytealg.MaxLen", "deemster/event.verbs"], plainKeys := false, apart := false, laid := [("unicode/utf8.acceptRanges", laid_unicode_utf8_acceptRanges), ("deemster/event.verbs", laid_deemster_event_verbs), ("unicode/utf8.first", laid_unicode_utf8_first)] }
def WorldTellsSaid : Prop := worldTellsRow.holds Tryz.pinned (OpenSpec.ofChange worldTellsSpec)

/-- ITS FALSE NEIGHBOUR: 'it returns false'. Refute it at one input. -/
def worldTellsWrong : ChangeSpec := { name := "worldTells", fn := fun _ => fun
  | [d1, d2] => { results := [.lit (.bool false)], args := [d1, d2] }
  | _ => none }
def WorldTellsWrongFalsely : Prop := worldTellsRow.holds Tryz.pinned (OpenSpec.ofChange worldTellsWrong)

/-- 'deemsterlaw16.WorldNext': WHATEVER THE INPUT: true; the input reads as it did. -/
def worldNextSpec : ChangeSpec := { name := "worldNext", fn := fun _ => fun
  | [d1, d2] => { results := [.lit (.bool true)], args := [d1, d2] }
  | _ => none }
def worldNextRow : OpenClaim := { program := "ytjfbeeogiejopaagreatdoor", sum := "5dc8fe0a00361f76050d4d2f63fb53d5ea9225e32b3b5539e6caa71b36cd0e21", func := "deemster/deemsterlaw16.WorldNext", spec := "worldNext", inPlace := ["internal/bytealg.IndexByteString", "internal/bytealg.IndexString"], unfollowed := true, recurses := true, named := ["unicode/utf8.first", "unicode/utf8.acceptRanges", "internal/bytealg.MaxLen", "deemster/event.verbs"], plainKeys := false, apart := false, laid := [("unicode/utf8.acceptRanges", laid_unicode_utf8_acceptRanges), ("deemster/event.verbs", laid_deemster_event_verbs), ("unicode/utf8.first", laid_unicode_utf8_first)] }
def WorldNextSaid : Prop := worldNextRow.holds Tryz.pinned (OpenSpec.ofChange worldNextSpec)

/-- ITS FALSE NEIGHBOUR: 'it returns false'. Refute it at one input. -/
def worldNextWrong : ChangeSpec := { name := "worldNext", fn := fun _ => fun
  | [d1, d2] => { results := [.lit (.bool false)], args := [d1, d2] }
  | _ => none }
def WorldNextWrongFalsely : Prop := worldNextRow.holds Tryz.pinned (OpenSpec.ofChange worldNextWrong)

/-- 'deemsterlaw16.WorldAll': WHATEVER THE INPUT: true; the input reads as it did. -/
def worldAllSpec : ChangeSpec := { name := "worldAll", fn := fun _ => fun
  | [d] => { results := [.lit (.bool true)], args := [d] }
  | _ => none }
def worldAllRow : OpenClaim := { program := "ytjfbeeogiejopaagreatdoor", sum := "5dc8fe0a00361f76050d4d2f63fb53d5ea9225e32b3b5539e6caa71b36cd0e21", func := "deemster/deemsterlaw16.WorldAll", spec := "worldAll", inPlace := ["internal/bytealg.IndexByteString", "internal/bytealg.IndexString"], unfollowed := true, recurses := true, named := ["unicode/utf8.first", "unicode/utf8.acceptRanges", "internal/bytealg.MaxLen", "deemster/event.verbs"], plainKeys := false, apart := false, laid := [("unicode/utf8.acceptRanges", laid_unicode_utf8_acceptRanges), ("deemster/event.verbs", laid_deemster_event_verbs), ("unicode/utf8.first", laid_unicode_utf8_first)] }
def WorldAllSaid : Prop := worldAllRow.holds Tryz.pinned (OpenSpec.ofChange worldAllSpec)

/-- ITS FALSE NEIGHBOUR: 'it returns false'. Refute it at one input. -/
def worldAllWrong : ChangeSpec := { name := "worldAll", fn := fun _ => fun
  | [d] => { results := [.lit (.bool false)], args := [d] }
  | _ => none }
def WorldAllWrongFalsely : Prop := worldAllRow.holds Tryz.pinned (OpenSpec.ofChange worldAllWrong)

/- THE SECOND FORM. 'bulk': how many values and letters a reading holds, each counted each time it is reached (what is shared counts as often as it is met; a slice's spare places count too). A statement '..UptoSaid' is the law's where the arguments, and the package variables that the reading takes, are together of bulk at most 1048576: NARROWER than '..Said'. Prove '..Said' where nothing that the law and all that it calls make is longer than what came in: it says more and counts as full. Else prove '..UptoSaid'. A law counts once. -/
mutual
def uptoBulk {H : Type} : DataW H → Nat
  | .lit (.string bytes) => bytes.length + 1
  | .lit _ => 1
  | .nil => 1
  | .ptr d => uptoBulk d + 1
  | .slice elems spare => uptoBulkAll elems + uptoBulkAll spare + 1
  | .agg parts => uptoBulkAll parts + 1
  | .iface _ d => uptoBulk d + 1
  | .map entries => uptoBulkEntries entries + 1
  | .held _ => 1
def uptoBulkAll {H : Type} : List (DataW H) → Nat
  | [] => 0
  | d :: r => uptoBulk d + uptoBulkAll r
def uptoBulkEntries {H : Type} : List (Lit × DataW H) → Nat
  | [] => 0
  | x :: r => uptoBulkEntry x + uptoBulkEntries r
def uptoBulkEntry {H : Type} : Lit × DataW H → Nat
  | (.string bytes, d) => bytes.length + uptoBulk d + 1
  | (_, d) => uptoBulk d + 1
 end
def uptoSmall : (H : Type) → List (DataW H) → Bool := fun _ ds => decide (uptoBulkAll ds ≤ 1048576)
def OpenSpec.upto (s : _root_.Go.ChangeSpec) : _root_.Go.OpenSpec := { _root_.Go.OpenSpec.ofChange s with cond := some uptoSmall }

/-- 'deemsterlaw15.WriterOf', WHERE WHAT IT READS IS OF BULK AT MOST 1048576: true; the input reads as it did. -/
def writerOfUptoRow : OpenClaim := { program := "ytjfbeeogiejopaagreatdoor", sum := "5dc8fe0a00361f76050d4d2f63fb53d5ea9225e32b3b5539e6caa71b36cd0e21", func := "deemster/deemsterlaw15.WriterOf", spec := "writerOf", inPlace := ["internal/bytealg.IndexByteString", "internal/bytealg.IndexString"], unfollowed := true, recurses := true, named := ["unicode/utf8.first", "unicode/utf8.acceptRanges", "internal/bytealg.MaxLen", "deemster/event.verbs"], plainKeys := false, apart := false, laid := [("unicode/utf8.acceptRanges", laid_unicode_utf8_acceptRanges), ("deemster/event.verbs", laid_deemster_event_verbs), ("unicode/utf8.first", laid_unicode_utf8_first)], narrowed := true }
def WriterOfUptoSaid : Prop := writerOfUptoRow.holds Tryz.pinned (OpenSpec.upto writerOfSpec)

/-- 'deemsterlaw15.WriterFresh', WHERE WHAT IT READS IS OF BULK AT MOST 1048576: true; the input reads as it did. -/
def writerFreshUptoRow : OpenClaim := { program := "ytjfbeeogiejopaagreatdoor", sum := "5dc8fe0a00361f76050d4d2f63fb53d5ea9225e32b3b5539e6caa71b36cd0e21", func := "deemster/deemsterlaw15.WriterFresh", spec := "writerFresh", inPlace := ["internal/bytealg.IndexByteString", "internal/bytealg.IndexString"], unfollowed := true, recurses := true, named := ["unicode/utf8.first", "unicode/utf8.acceptRanges", "internal/bytealg.MaxLen", "deemster/event.verbs"], plainKeys := false, apart := false, laid := [("unicode/utf8.acceptRanges", laid_unicode_utf8_acceptRanges), ("deemster/event.verbs", laid_deemster_event_verbs), ("unicode/utf8.first", laid_unicode_utf8_first)], narrowed := true }
def WriterFreshUptoSaid : Prop := writerFreshUptoRow.holds Tryz.pinned (OpenSpec.upto writerFreshSpec)

/-- 'deemsterlaw15.WriterHas', WHERE WHAT IT READS IS OF BULK AT MOST 1048576: true; the input reads as it did. -/
def writerHasUptoRow : OpenClaim := { program := "ytjfbeeogiejopaagreatdoor", sum := "5dc8fe0a00361f76050d4d2f63fb53d5ea9225e32b3b5539e6caa71b36cd0e21", func := "deemster/deemsterlaw15.WriterHas", spec := "writerHas", inPlace := ["internal/bytealg.IndexByteString", "internal/bytealg.IndexString"], unfollowed := true, recurses := true, named := ["unicode/utf8.first", "unicode/utf8.acceptRanges", "internal/bytealg.MaxLen", "deemster/event.verbs"], plainKeys := false, apart := false, laid := [("unicode/utf8.acceptRanges", laid_unicode_utf8_acceptRanges), ("deemster/event.verbs", laid_deemster_event_verbs), ("unicode/utf8.first", laid_unicode_utf8_first)], narrowed := true }
def WriterHasUptoSaid : Prop := writerHasUptoRow.holds Tryz.pinned (OpenSpec.upto writerHasSpec)

/-- 'deemsterlaw16.WorldTells', WHERE WHAT IT READS IS OF BULK AT MOST 1048576: true; the input reads as it did. -/
def worldTellsUptoRow : OpenClaim := { program := "ytjfbeeogiejopaagreatdoor", sum := "5dc8fe0a00361f76050d4d2f63fb53d5ea9225e32b3b5539e6caa71b36cd0e21", func := "deemster/deemsterlaw16.WorldTells", spec := "worldTells", inPlace := ["internal/bytealg.IndexByteString", "internal/bytealg.IndexString"], unfollowed := true, recurses := true, named := ["unicode/utf8.first", "unicode/utf8.acceptRanges", "internal/bytealg.MaxLen", "deemster/event.verbs"], plainKeys := false, apart := false, laid := [("unicode/utf8.acceptRanges", laid_unicode_utf8_acceptRanges), ("deemster/event.verbs", laid_deemster_event_verbs), ("unicode/utf8.first", laid_unicode_utf8_first)], narrowed := true }
def WorldTellsUptoSaid : Prop := worldTellsUptoRow.holds Tryz.pinned (OpenSpec.upto worldTellsSpec)

/-- 'deemsterlaw16.WorldNext', WHERE WHAT IT READS IS OF BULK AT MOST 1048576: true; the input reads as it did. -/
def worldNextUptoRow : OpenClaim := { program := "ytjfbeeogiejopaagreatdoor", sum := "5dc8fe0a00361f76050d4d2f63fb53d5ea9225e32b3b5539e6caa71b36cd0e21", func := "deemster/deemsterlaw16.WorldNext", spec := "worldNext", inPlace := ["internal/bytealg.IndexByteString", "internal/bytealg.IndexString"], unfollowed := true, recurses := true, named := ["unicode/utf8.first", "unicode/utf8.acceptRanges", "internal/bytealg.MaxLen", "deemster/event.verbs"], plainKeys := false, apart := false, laid := [("unicode/utf8.acceptRanges", laid_unicode_utf8_acceptRanges), ("deemster/event.verbs", laid_deemster_event_verbs), ("unicode/utf8.first", laid_unicode_utf8_first)], narrowed := true }
def WorldNextUptoSaid : Prop := worldNextUptoRow.holds Tryz.pinned (OpenSpec.upto worldNextSpec)

/-- 'deemsterlaw16.WorldAll', WHERE WHAT IT READS IS OF BULK AT MOST 1048576: true; the input reads as it did. -/
def worldAllUptoRow : OpenClaim := { program := "ytjfbeeogiejopaagreatdoor", sum := "5dc8fe0a00361f76050d4d2f63fb53d5ea9225e32b3b5539e6caa71b36cd0e21", func := "deemster/deemsterlaw16.WorldAll", spec := "worldAll", inPlace := ["internal/bytealg.IndexByteString", "internal/bytealg.IndexString"], unfollowed := true, recurses := true, named := ["unicode/utf8.first", "unicode/utf8.acceptRanges", "internal/bytealg.MaxLen", "deemster/event.verbs"], plainKeys := false, apart := false, laid := [("unicode/utf8.acceptRanges", laid_unicode_utf8_acceptRanges), ("deemster/event.verbs", laid_deemster_event_verbs), ("unicode/utf8.first", laid_unicode_utf8_first)], narrowed := true }
def WorldAllUptoSaid : Prop := worldAllUptoRow.holds Tryz.pinned (OpenSpec.upto worldAllSpec)

end Rows
end Go.Proofs.YtjfbeeogiejopaaGreatDoor
