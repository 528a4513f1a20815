/- A row's wrap that hands the walk both the laid variables and the world's shape. The table of an event's words and the tables of unicode/utf8 lie where the program's text lays them. The law WriterFresh: for every input it returns true and changes nothing that was there. No condition. A history with another value at a read: who may have written it. Mathematics. Whole ops and transactions written into rows of the call's own. -/
import Derived.Handed
import Derived.Shelf.Vars
import Derived.HandedShaped
import Derived.Test.YtjfbeeogiejopaaGreatDoorLaw15AllK7
import Derived.Test.YtjfbeeogiejopaaGreatDoorLaw15AllK2
import Derived.Test.YtjfbeeogiejopaaGreatDoorLaw15AllK4
import Derived.LaidMore
import Derived.Lib.LaidIn
import Derived.Lib.LaidU8T
import Derived.Stop.Joined
import Derived.JoinedOf
import Derived.Test.YtjfbeeogiejopaaGreatDoorLaw15AllK1
import Derived.Test.YtjfbeeogiejopaaGreatDoorTie
import Derived.Test.YtjfbeeogiejopaaGreatDoorCards
import Derived.SevenTiedAt
import Derived.Lay
import Derived.LaidOnce
import Derived.Test.YtjfbeeogiejopaaGreatDoorLaw15AllK46
import Derived.Test.YtjfbeeogiejopaaGreatDoorLaw15AllK32
import Derived.Test.YtjfbeeogiejopaaGreatDoorLaw15AllK6
import Derived.Test.YtjfbeeogiejopaaGreatDoorLaw15AllK37
import Derived.Test.YtjfbeeogiejopaaGreatDoorLaw15AllK12
import Derived.Test.YtjfbeeogiejopaaGreatDoorLaw15AllK16
set_option linter.unusedVariables false
set_option linter.unusedSimpArgs false
namespace Go.Proofs.YtjfbeeogiejopaaGreatDoor
open Go.ChangeShapes Go.WideShapes Go.ChangeAt Go.RowKit
theorem handed_and_shaped {H : Type} {enc : TypeId × Value → H} {a : Assume} {C : Checked} {os : Os} {f : FuncId} {fn : Func} {s : ChangeSpec} {conds : List PathCond} {apart fresh handsOn again : Bool} {X : World → Array Value → Prop}
  (hX : ∀ (w w' : World) (args : Array Value), w.heap = w'.heap → X w args → X w' args)
  (own : ownKnob C.prog.godebug = none) (started : os.Started) (noInit : C.prog.inits.idxOf? f = none) (hfn : C.prog.funcs[f]? = some fn)
  (witness : ∃ (w : World) (tape : Tape) (i : Input), w.os = os ∧ (w.forCall tape i).Shaped C.prog ∧ i.vars = [] ∧ Input.okWide C.prog (w.forCall tape i) .any w.heap.size f i ∧
   ((s.pre enc C.prog fn conds apart (w.forCall tape i).memory i.args ∧ X (w.forCall tape i).memory i.args) ∧ sizedMet enc C.prog fn (OpenSpec.ofChange s) apart (w.forCall tape i).memory i.args) ∧ a.holds C.prog (lone (Frame.enter C.prog f i.args .normal) [] (w.forCall tape i)))
  (contract : ∀ (W : World) (base : Nat) (args : Array Value) (ds gs : List (DataW H)) (before : List MemPlace),
   (∀ (j : Nat) t v, fn.params[j]? = some t → args[j]? = some v → Value.okWide C.prog W .any base t v) →
   DataW.Whole enc C.prog fn.params.toList s.vars apart W args.toList ds gs before →
   W.ShapedOpen C.prog →
   (DataW.weightsEach C.prog (fn.params.toList ++ s.plain.varTypes C.prog) (ds ++ gs)).all (· ≤ reachBytes) = true → X W args →
   a.holds C.prog (lone (Frame.enter C.prog f args .normal) [] W) →
   Calls C.prog f args W fun e W' => ∃ v, e = .returned v ∧ s.post enc C.prog fn apart fresh handsOn again W args v W') :
  ReturnsInHanded a C os f .any (fun w args => (s.pre enc C.prog fn conds apart w args ∧ X w args) ∧ sizedMet enc C.prog fn (OpenSpec.ofChange s) apart w args) (s.post enc C.prog fn apart fresh handsOn again) := by
 refine returnsInHanded_of_calls own started noInit witness ?_
 intro w tape i _ hsh _ hok hpre hholds
 obtain ⟨_, _, _, fn', hfn', _, _, _, _, hval⟩ := hok
 have e : fn' = fn := Option.some.inj (hfn'.symm.trans hfn)
 subst e
 obtain ⟨⟨⟨ds, gs, before, hw, hc⟩, hx⟩, hz⟩ := hpre
 have hw' := DataW.Whole.of_heap (w' := w.forCall tape i) (by rfl) hw
 refine (contract (w.forCall tape i) w.heap.size i.args ds gs before hval hw' hsh (hz.weights hw) (hX _ _ _ (by rfl) hx) hholds).mono fun e W' ⟨v, he, hp⟩ => ?_
 subst he
 exact ChangeSpec.post_blind hp
theorem mlen_of_shaped {W : World} (h : W.ShapedOpen Tryz.prog) : MLen W :=
 Go.Proofs.cell_of_shapedOpen_int (zero := #[.int .i64 0]) (t := 3) h (of_decide_eq_true (by kernel_rfl)) (by kernel_rfl) rfl (by kernel_rfl) (by kernel_rfl) Tryz.underlying3
end Go.Proofs.YtjfbeeogiejopaaGreatDoor

set_option linter.unusedVariables false
set_option linter.unusedSimpArgs false
namespace Go.Proofs.YtjfbeeogiejopaaGreatDoor
open Go.ChangeShapes Go.WideShapes Go.ChangeAt Go.RowKit
def laidL : List (String × DataW Unit) := [("unicode/utf8.acceptRanges", Rows.laid_unicode_utf8_acceptRanges), ("deemster/event.verbs", Rows.laid_deemster_event_verbs), ("unicode/utf8.first", Rows.laid_unicode_utf8_first)]
set_option maxRecDepth 100000 in
theorem laid_accept : (Rows.laid_unicode_utf8_acceptRanges : DataW Unit) = Lib.acceptData := by rfl
set_option maxRecDepth 100000 in
theorem laid_first : Rows.laid_unicode_utf8_first = Lib.firstData := by kernel_rfl
def verbD : List (Int × List UInt8 × Bool) := [(1, [98, 101, 103, 105, 110], false), (2, [114, 101, 97, 100], true), (3, [119, 114, 105, 116, 101], true), (4, [111, 107], false), (5, [102, 97, 105, 108], false), (6, [105, 110, 102, 111], false)]
def verbW (x : Int × List UInt8 × Bool) : DataW Unit := .agg [.lit (.int .i64 x.1), .lit (.string x.2.1), .lit (.bool x.2.2)]
theorem laid_verbs : (Rows.laid_deemster_event_verbs : DataW Unit) = .agg (verbD.map verbW) := by rfl
set_option maxRecDepth 100000 in
theorem tabs_of_laid {W : World} (h : laidMetH Tryz.prog laidL W) : UTabs W := by
 rw [MakeChecks.laidMetH_plain _ _ _ (by kernel_rfl)] at h
 unfold laidL at h
 rw [laid_accept, laid_first] at h
 exact utf8Tabs_of_readsT (U8Types.of196 Tryz.laysValid) ⟨by kernel_rfl, by kernel_rfl, by kernel_rfl, by kernel_rfl, by kernel_rfl, by kernel_rfl, by kernel_rfl⟩ (Lib.laidMet.reads h (.tail _ (.tail _ (.head _)))) (Lib.laidMet.reads h (.head _))
set_option maxRecDepth 100000 in
theorem verb_reads {W : World} {fuel : Nat} {cs : List Value} {x : Int × List UInt8 × Bool} {q : List MemPlace} (h : DataW.trod (fun _ => ()) Tryz.prog W 0 (fun _ => true) false fuel 151 cs = some (verbW x, q)) :
  cs = [.int .i64 x.1, .string ⟨x.2.1.toArray⟩, .bool x.2.2] := by
 obtain ⟨y0, y1, y2, n, hx, hl, h0, h1, h2⟩ := Go.Deep.trod_struct3 Tryz.underlying151 h
 rw [show Tryz.prog.cellsOf 151 = 3 by kernel_rfl] at hl
 match cs, hl with
 | [c0, c1, c2], _ =>
  have k0 : Tryz.prog.cellsOf 3 = 1 := by kernel_rfl
  have k1 : Tryz.prog.cellsOf 9 = 1 := by kernel_rfl
  have k2 : Tryz.prog.cellsOf 4 = 1 := by kernel_rfl
  dsimp only at h0 h1 h2
  rw [k0] at h0
  rw [k1] at h1
  rw [k2] at h2
  obtain ⟨a, e0, f0, -⟩ := DataW.trod_int Tryz.underlying3 (by simpa using h0)
  obtain ⟨s, e1, f1, -⟩ := DataW.trod_string Tryz.underlying9 (by simpa using h1)
  obtain ⟨b, e2, f2⟩ := DataW.trod_bool Tryz.underlying4 (by simpa using h2)
  simp at e0 e1 e2
  subst e0 e1 e2 f0 f1 f2
  obtain ⟨x0, x1, x2⟩ := x
  simp [verbW] at hx
  obtain ⟨⟨rfl, rfl, rfl⟩, -⟩ := hx
  rfl
set_option maxRecDepth 100000 in
theorem verbs_of_laid {W : World} (h : laidMetH Tryz.prog laidL W) : Verbs W := by
 rw [MakeChecks.laidMetH_plain _ _ _ (by kernel_rfl)] at h
 unfold laidL at h
 rw [laid_verbs] at h
 obtain ⟨g, t, cs, fuel, p, hg, hty, hvar, hd⟩ := Lib.laidMet.reads h (.tail _ (.head _))
 obtain rfl := Option.some.inj ((show Tryz.prog.globalNamed "deemster/event.verbs" = some 2 by kernel_rfl).symm.trans hg)
 obtain rfl := Option.some.inj ((show (Tryz.prog.globals[2]?).map (·.type) = some 196 by kernel_rfl).symm.trans hty)
 have key : ∀ (j : Nat) (x : Int × List UInt8 × Bool), j < 6 → verbD[j]? = some x → W.cell? ⟨2, j * 3, none⟩ = some (.int .i64 x.1) ∧ W.cell? ⟨2, j * 3 + 1, none⟩ = some (.string ⟨x.2.1.toArray⟩) ∧ W.cell? ⟨2, j * 3 + 2, none⟩ = some (.bool x.2.2) := by
  intro j x hj hx
  obtain ⟨fuel', d, q, hdi, he⟩ := Lib.array_elem Tryz.underlying196 hd j hj
  rw [List.getElem?_map, hx] at hdi
  simp only [Option.map_some, Option.some.injEq] at hdi
  subst hdi
  rw [show Tryz.prog.cellsOf 151 = 3 by kernel_rfl] at he
  have hcs := verb_reads he
  have e0 := congrArg (·[0]?) hcs
  have e1 := congrArg (·[1]?) hcs
  have e2 := congrArg (·[2]?) hcs
  simp only [List.getElem?_take, List.getElem?_drop] at e0 e1 e2
  refine ⟨?_, ?_, ?_⟩
  ·rw [World.var?_cell hg hvar (j * 3), ← Array.getElem?_toList]
   simpa using e0
  ·rw [World.var?_cell hg hvar (j * 3 + 1), ← Array.getElem?_toList]
   simpa using e1
  ·rw [World.var?_cell hg hvar (j * 3 + 2), ← Array.getElem?_toList]
   simpa using e2
 have k0 := key 0 _ (by omega) rfl
 have k1 := key 1 _ (by omega) rfl
 have k2 := key 2 _ (by omega) rfl
 have k3 := key 3 _ (by omega) rfl
 have k4 := key 4 _ (by omega) rfl
 have k5 := key 5 _ (by omega) rfl
 refine ⟨World.block_lt_of_cell? W _ k0.1, fun i u hu => ?_⟩
 have hi : i < 18 := by
  have := (List.getElem?_eq_some_iff.1 hu).1
  exact this
 have hc : i = 0 ∨ i = 1 ∨ i = 2 ∨ i = 3 ∨ i = 4 ∨ i = 5 ∨ i = 6 ∨ i = 7 ∨ i = 8 ∨ i = 9 ∨ i = 10 ∨ i = 11 ∨ i = 12 ∨ i = 13 ∨ i = 14 ∨ i = 15 ∨ i = 16 ∨ i = 17 := by omega
 rcases hc with rfl | rfl | rfl | rfl | rfl | rfl | rfl | rfl | rfl | rfl | rfl | rfl | rfl | rfl | rfl | rfl | rfl | rfl
 ·obtain rfl := Option.some.inj hu
  exact k0.1
 ·obtain rfl := Option.some.inj hu
  exact k0.2.1
 ·obtain rfl := Option.some.inj hu
  exact k0.2.2
 ·obtain rfl := Option.some.inj hu
  exact k1.1
 ·obtain rfl := Option.some.inj hu
  exact k1.2.1
 ·obtain rfl := Option.some.inj hu
  exact k1.2.2
 ·obtain rfl := Option.some.inj hu
  exact k2.1
 ·obtain rfl := Option.some.inj hu
  exact k2.2.1
 ·obtain rfl := Option.some.inj hu
  exact k2.2.2
 ·obtain rfl := Option.some.inj hu
  exact k3.1
 ·obtain rfl := Option.some.inj hu
  exact k3.2.1
 ·obtain rfl := Option.some.inj hu
  exact k3.2.2
 ·obtain rfl := Option.some.inj hu
  exact k4.1
 ·obtain rfl := Option.some.inj hu
  exact k4.2.1
 ·obtain rfl := Option.some.inj hu
  exact k4.2.2
 ·obtain rfl := Option.some.inj hu
  exact k5.1
 ·obtain rfl := Option.some.inj hu
  exact k5.2.1
 ·obtain rfl := Option.some.inj hu
  exact k5.2.2
end Go.Proofs.YtjfbeeogiejopaaGreatDoor

set_option linter.unusedVariables false
set_option linter.unusedSimpArgs false
namespace Go.Proofs.YtjfbeeogiejopaaGreatDoor
open Go.ChangeShapes Go.WideShapes Go.ChangeAt Go.RowKit
set_option maxRecDepth 100000 in
theorem writerFresh_lifted (os : Os) (started : os.Started) (H : Type) (enc : TypeId × Value → H) :
  ReturnsInHanded {} Tryz.checked os 4 .any (fun w args => (Rows.writerFreshSpec.pre enc Tryz.prog Tryz.f4 [] false w args ∧ laidMetH Tryz.prog laidL w) ∧ sizedMet enc Tryz.prog Tryz.f4 (OpenSpec.ofChange Rows.writerFreshSpec) false w args)
   (Rows.writerFreshSpec.post enc Tryz.prog Tryz.f4 false true false false) := by
 refine handed_and_shaped (C := Tryz.checked) (X := fun w _ => laidMetH Tryz.prog laidL w) (fun _ _ _ hh h => h.of_heap hh) own started (by kernel_rfl) Tryz.func4
  (ChangeSpec.witness_shaped (enc := enc) (C := Tryz.checked) (os := os) (X := fun w _ => laidMetH Tryz.prog laidL w) false (World.laidAll Tryz.prog os laidL) #[.agg #[.slice none 0 0, .slice none 0 0, .slice none 0 0], .int .i64 0] 8 (World.laidAll_os _ _ _) (World.shaped_of_ZipB (by kernel_rfl) (by kernel_rfl)) (by kernel_rfl) (by kernel_rfl) (by kernel_rfl) (by rw [MakeChecks.laidMetH_plain _ _ _ (by kernel_rfl)]; exact laidMet_laidAll _ (by kernel_rfl) (by kernel_rfl))) ?_
 intro W base args ds gs before hval0 hW hsh _ hL _
 have hval : ∀ (j : Nat) t v, Tryz.f4.params[j]? = some t → args[j]? = some v → Value.okWide Tryz.prog W .any base t v := hval0
 have hW' := hW
 obtain ⟨p, q, hA0, hV, rfl, hfz, hnd⟩ := hW
 have hA : DataW.TrodAll enc Tryz.prog W 0 (fun _ => true) true Tryz.f4.params.toList args.toList ds p := hA0
 rw [Tryz.params4] at hA hval
 obtain ⟨v0, vs0, d0, ds0, p0, q0, hargs, rfl, rfl, h0, r0⟩ := trodAll_cons hA
 obtain ⟨v1, vs1, d1, ds1, p1, q1, rfl, rfl, rfl, h1, r1⟩ := trodAll_cons r0
 obtain ⟨rfl, rfl, rfl⟩ := trodAll_nil r1
 obtain rfl : args = #[v0, v1] := by cases args; simp_all
 obtain ⟨rfl, rfl⟩ := trodVars_none hV
 obtain ⟨A00, A01, A02, c00, c01, c02, g0, rfl, hg0, ma0, mb0, mc0, za0, zb0, ob0⟩ := open_hist2 Tryz.underlying25 (by kernel_rfl) Tryz.underlying22 Tryz.underlying9 (by kernel_rfl) (by kernel_rfl) Tryz.underlying23 (by kernel_rfl) Tryz.underlying46 (by kernel_rfl) Tryz.underlying3 (by kernel_rfl) Tryz.underlying44 (by kernel_rfl) Tryz.underlying48 Tryz.underlying38 (by kernel_rfl) Tryz.underlying4 Tryz.underlying2 (by kernel_rfl) (by kernel_rfl) (by kernel_rfl) ⟨rfl, rfl⟩ ⟨rfl, rfl⟩ ⟨rfl, rfl⟩ ⟨rfl, rfl⟩ ⟨rfl, rfl⟩ ⟨rfl, rfl⟩ ⟨rfl, rfl⟩ ⟨rfl, rfl⟩ ⟨rfl, rfl⟩ ⟨rfl, rfl⟩ ⟨rfl, rfl⟩ (hval 0 25 v0 rfl rfl) h0
 obtain ⟨a1, rfl, rfl, rfl, w1⟩ := open_int Tryz.underlying3 (hval 1 3 v1 rfl rfl) h1
 clear hA0
 refine (writerFresh_walk A00 A01 A02 c00 c01 c02 g0 a1 W hg0 ma0 mb0 mc0 za0 zb0 ob0 (tabs_of_laid hL) (mlen_of_shaped hsh) (verbs_of_laid hL)).mono fun e W' ⟨he, ho⟩ => ?_
 subst he
 exact ⟨_, rfl, law_post laidOut (by kernel_rfl) rfl (tb := 4) (by kernel_rfl) Tryz.underlying4 hW' rfl rfl rfl (ho.below (Nat.le_refl _) (by simp))⟩
theorem writerFresh_holds : Rows.WriterFreshSaid :=
 OpenClaim.holds_of_wide 4 Tryz.f4 rfl rfl rfl rfl rfl rfl rfl ⟨rfl, rfl, rfl, rfl, rfl⟩ rfl rfl rfl rfl rfl (by kernel_rfl) Tryz.func4 (by kernel_rfl)
  (of_decide_eq_true (by kernel_rfl)) (by unfold Func.isWrapper; first | (rw [if_pos (by decide +kernel)]; kernel_rfl) | (rw [if_neg (by decide +kernel)]; exact ⟨rfl, rfl⟩))
  (fun os started H enc _ => writerFresh_lifted os started H enc)
set_option maxRecDepth 100000 in
theorem writerFresh_card : Rows.WriterFreshCardSaid :=
 Claim7.holds_tied_plain_at .later [] [.data, .data, .pinned] true (true, "c8a18cfeb3f95a6c6e7f7a3daefb9ce08cab8bc67ff94f88b9c4205035b1ec3c") true
  writerFresh_holds (fun _ h => by cases h) (by kernel_rfl) (fun _ h => by cases h) writerFresh_row_tie rfl ⟨rfl, rfl⟩ (by kernel_rfl) rfl
  (fun f fn hf hfn => by
   obtain rfl : f = 4 := Option.some.inj ((show Tryz.prog.funcNamed "deemster/deemsterlaw15.WriterFresh" = some 4 by kernel_rfl).symm.trans hf) |>.symm
   obtain rfl : fn = Tryz.f4 := (Option.some.inj (Tryz.func4.symm.trans hfn)).symm
   exact ⟨by kernel_rfl, fun j t ht => by
    rw [Tryz.params4] at ht
    have hm := Array.mem_of_getElem? ht
    have hall : ((Tryz.f4.params).all fun u => !Tryz.prog.wantsStandIn u) = true := by kernel_rfl
    rw [Tryz.params4] at hall
    have := Array.all_eq_true'.1 hall t hm
    show Tryz.prog.wantsStandIn t = false
    simpa using this⟩)
  (by kernel_rfl)
end Go.Proofs.YtjfbeeogiejopaaGreatDoor

set_option linter.unusedVariables false
set_option linter.unusedSimpArgs false
namespace Go.Proofs.YtjfbeeogiejopaaGreatDoor
theorem map_set_same {α β : Type} (f : α → β) {l : List α} {i : Nat} {x y : α} (hx : l[i]? = some x) (hf : f y = f x) : (l.set i y).map f = l.map f := by
 rw [List.map_set, hf]
 refine List.ext_getElem? fun k => ?_
 rw [List.getElem?_set]
 split
 ·rename_i h
  subst h
  have hi := (List.getElem?_eq_some_iff.1 hx).1
  rw [if_pos (by simpa using hi), List.getElem?_map, hx]
  rfl
 ·rfl
theorem flatMap_eq {α β : Type} (f : α → List β) (l : List α) : l.flatMap f = (l.map f).flatten := by rw [List.flatMap_def]
theorem flat_set_same {α β : Type} (f : α → List β) {l : List α} {i : Nat} {x y : α} (hx : l[i]? = some x) (hf : f y = f x) : (l.set i y).flatMap f = l.flatMap f := by
 rw [flatMap_eq, flatMap_eq, map_set_same f hx hf]
theorem all_set_same {α : Type} (p : α → Bool) {l : List α} {i : Nat} {x y : α} (hx : l[i]? = some x) (hp : p y = true) (h : l.all p = true) : (l.set i y).all p = true := by
 rw [List.all_eq_true] at h ⊢
 intro z hz
 rcases List.mem_or_eq_of_mem_set hz with h1 | rfl
 ·exact h z h1
 ·exact hp
def opSet (o : Op4) (v : V2) : Op4 := ⟨o.wr, o.key, v.1, v.2⟩
def txSet (t : Tx) (j : Nat) (o : Op4) (v : V2) : Tx := ⟨t.s, t.f, t.ops.set j (opSet o v)⟩
def hstSet (h : Hst) (i : Nat) (t : Tx) : Hst := ⟨h.ss, h.ks, h.l.set i t⟩
theorem may_set {h : Hst} {i j : Nat} {t : Tx} {o : Op4} {v : V2} (hm : mayH h = true) (hx : h.l[i]? = some t) (ho : t.ops[j]? = some o) (hw : o.wr = false) (hv : mayP v = true) : mayH (hstSet h i (txSet t j o v)) = true := by
 unfold mayH namesB txsB opsB at *
 simp only [Bool.and_eq_true, decide_eq_true_eq] at hm ⊢
 obtain ⟨h1, h2, ⟨h3, h4, h5⟩, h6, h7⟩ := hm
 have ht := List.mem_of_getElem? hx
 refine ⟨h1, h2, ⟨by simpa [hstSet] using h3, ?_, ?_⟩, ?_, ?_⟩
 ·refine all_set_same _ hx ?_ h4
  have := List.all_eq_true.1 h4 t ht
  unfold txB at this ⊢
  simp only [txSet, List.length_set]
  exact this
 ·show useB h.ss.length ((h.l.set i (txSet t j o v)).map Tx.s) = true
  rw [map_set_same (y := txSet t j o v) Tx.s hx rfl]
  exact h5
 ·refine all_set_same _ hx ?_ h6
  have h8 := List.all_eq_true.1 h6 t ht
  refine all_set_same _ ho ?_ h8
  have h9 := List.all_eq_true.1 h8 o (List.mem_of_getElem? ho)
  unfold opB at h9 ⊢
  simp only [Bool.and_eq_true, decide_eq_true_eq] at h9 ⊢
  exact ⟨h9.1, hv, by simp [opSet, hw]⟩
 ·show useB h.ks.length (keysL (h.l.set i (txSet t j o v))) = true
  unfold keysL
  rw [flat_set_same (fun t : Tx => t.ops.map Op4.key) hx (map_set_same (y := opSet o v) Op4.key ho rfl)]
  exact h7
theorem zipIdx_get {α : Type} {l : List α} {k : Nat} {y : α × Nat} : l.zipIdx[k]? = some y ↔ ∃ x, l[k]? = some x ∧ y = (x, k) := by
 rw [List.getElem?_zipIdx]
 cases l[k]? with
 | none => simp
 | some x => simp [eq_comm]
theorem whoL_mem {a key : Int} {v : V2} {l : List Tx} {k : Nat} {t : Tx} (hk : l[k]? = some t) (hf : fitsO v (forT a key k t) = true) : (k : Int) ∈ whoL a key v l := by
 unfold whoL
 refine List.mem_map.2 ⟨(t, k), List.mem_filter.2 ⟨?_, hf⟩, rfl⟩
 exact List.mem_of_getElem? (zipIdx_get.2 ⟨t, hk, rfl⟩)
theorem whoL_none {a key : Int} {v : V2} {l : List Tx} (h : ∀ (k : Nat) (t : Tx), l[k]? = some t → fitsO v (forT a key k t) = false) : whoL a key v l = [] := by
 unfold whoL
 rw [List.map_eq_nil_iff, List.filter_eq_nil_iff]
 intro x hx
 obtain ⟨k, hk⟩ := List.mem_iff_getElem?.1 hx
 obtain ⟨t, ht, rfl⟩ := zipIdx_get.1 hk
 simp [h k t ht]
theorem leftL_mem {a key : Int} {v : V2} {l : List Tx} (h : v ∈ leftL a key l) : ∃ (k : Nat) (t : Tx), l[k]? = some t ∧ forT a key k t = some v := by
 unfold leftL at h
 obtain ⟨x, hx, hv⟩ := List.mem_filterMap.1 h
 obtain ⟨k, hk⟩ := List.mem_iff_getElem?.1 hx
 obtain ⟨t, ht, rfl⟩ := zipIdx_get.1 hk
 exact ⟨k, t, ht, hv⟩
/-- The transaction itself does not count. -/
theorem forT_set {l : List Tx} {i : Nat} {t' : Tx} {key : Int} {k : Nat} {t : Tx} (h : l[k]? = some t) (hk : k ≠ i) : (l.set i t')[k]? = some t := by
 rw [List.getElem?_set]
 rw [if_neg (Ne.symm hk), h]
theorem wrOf_set {h : Hst} {i j : Nat} {t : Tx} {o : Op4} {v : V2} (hm : mayH h = true) (hx : h.l[i]? = some t) (ho : t.ops[j]? = some o) (hw : o.wr = false) (hv : mayP v = true) :
  wrOf (hstSet h i (txSet t j o v)) (i : Int) (j : Int) = headW v ++ whoL (i : Int) o.key v (h.l.set i (txSet t j o v)) := by
 have hm2 := may_set hm hx ho hw hv
 have hi := (List.getElem?_eq_some_iff.1 hx).1
 have hj := (List.getElem?_eq_some_iff.1 ho).1
 have h1 : (hstSet h i (txSet t j o v)).l[i]? = some (txSet t j o v) := by
  show (h.l.set i _)[i]? = _
  rw [List.getElem?_set_self hi]
 have h2 : (txSet t j o v).ops[j]? = some (opSet o v) := by
  show (t.ops.set j _)[j]? = _
  rw [List.getElem?_set_self hj]
 rw [wrOf_some (read_some (opAt_yes (txAt_yes hm2 h1) h2) (by exact hw))]
 rfl
theorem wrOf_yes {h : Hst} {i j : Nat} {t : Tx} {o : Op4} {v : V2} (hm : mayH h = true) (hx : h.l[i]? = some t) (ho : t.ops[j]? = some o) (hw : o.wr = false) (hv : v ∈ sortV (valsO (i : Int) o.key h.l)) :
  0 < (wrOf (hstSet h i (txSet t j o v)) (i : Int) (j : Int)).length := by
 obtain ⟨h1, h2⟩ := ((sortV_vals _).2 v).1 hv
 rw [wrOf_set hm hx ho hw h2, List.length_append]
 by_cases hk : v.1 = 1
 ·rcases List.mem_cons.1 h1 with rfl | h3
  ·simp at hk
  ·obtain ⟨k, t', ht, hf⟩ := leftL_mem h3
   have hki : k ≠ i := fun e => (forT_mem hf).1 (by rw [e])
   have := whoL_mem (forT_set (i := i) (t' := txSet t j o v) (key := o.key) ht hki) (v := v) (a := (i : Int)) (key := o.key) (by rw [hf]; simp [fitsO, fitsV])
   have := List.length_pos_of_mem this
   omega
 ·unfold headW
  rw [if_neg hk]
  simp
  omega
theorem wrOf_no {h : Hst} {i j : Nat} {t : Tx} {o : Op4} (hm : mayH h = true) (hx : h.l[i]? = some t) (ho : t.ops[j]? = some o) (hw : o.wr = false) :
  (wrOf (hstSet h i (txSet t j o (1, (freshN h.l o.key : Int)))) (i : Int) (j : Int)).length = 0 := by
 rw [wrOf_set hm hx ho hw (by simp [mayP, mayB]), whoL_none]
 ·simp [headW]
 ·intro k t' ht
  by_cases hki : k = i
  ·unfold forT
   rw [if_pos (.inl (by rw [hki]))]
   rfl
  ·rw [List.getElem?_set, if_neg (Ne.symm hki)] at ht
   cases hf : forT (i : Int) o.key k t' with
   | none => rfl
   | some u =>
    obtain ⟨-, -, o', ho', hh, rfl⟩ := forT_mem hf
    have hn := fresh_not (key := o.key) (may_ops hm).1 (may_ops hm).2.1
    unfold fitsO fitsV
    simp only [Bool.or_eq_false_iff, decide_eq_false_iff_not]
    refine ⟨by decide, fun e => ?_⟩
    have e2 := congrArg Prod.snd e
    dsimp only at e2
    have : wroteN h.l o.key (freshN h.l o.key : Int) = true := by
     unfold wroteN
     refine List.any_eq_true.2 ⟨t', List.mem_of_getElem? ht, List.any_eq_true.2 ⟨o', ho', ?_⟩⟩
     unfold hitO at hh
     unfold hitN
     simp only [Bool.and_eq_true, decide_eq_true_eq] at hh ⊢
     exact ⟨hh.1, hh.2, e2.symm⟩
    rw [this] at hn
    cases hn
theorem small_set {h : Hst} {i : Nat} {t' t : Tx} (hs : HSmall h) (hx : h.l[i]? = some t) (hl : t'.ops.length = t.ops.length) : HSmall (hstSet h i t') where
 s := hs.s
 k := hs.k
 ns := hs.ns
 nk := hs.nk
 nl := by simpa [hstSet] using hs.nl
 no := fun u hu => by
  rcases List.mem_or_eq_of_mem_set hu with h1 | rfl
  ·exact hs.no u h1
  ·rw [hl]
   exact hs.no t (List.mem_of_getElem? hx)
theorem sortV_le (l : List (Int × Int)) : (sortV l).length ≤ l.length :=
 nodup_len _ _ ((List.nodup_iff_pairwise_ne.2 ((sortV_vals l).1.1.imp (fun {a b} hab e => by rw [e, lessV_irr] at hab; cases hab)))) (fun x hx => (((sortV_vals l).2 x).1 hx).1)
theorem valsH_le (h : Hst) (a b : Int) : (valsH h a b).length ≤ h.l.length + 1 := by
 unfold valsH
 cases readO h a b with
 | none => simp
 | some x =>
  have h1 := sortV_le (valsO a x.2.key h.l)
  have h2 := leftL_le a x.2.key h.l
  unfold valsO at *
  simp only [List.length_cons] at h1
  dsimp only
  omega
end Go.Proofs.YtjfbeeogiejopaaGreatDoor

set_option linter.unusedVariables false
set_option linter.unusedSimpArgs false
namespace Go.Proofs.YtjfbeeogiejopaaGreatDoor
open Go.RowKit
section
variable {w : World} {base : Nat} {e : TypeId} {size : Nat} {v : Value} {n : Nat} {xs : List Value} {g : Nat}
theorem own_there (h : w.ownsRow base e size v n xs) (hg : v.ownBlock = some g) {o k : Nat} (hk : o + k ≤ xs.length) : w.there g o k := fun j hj => by
 have := own_cell h hg (List.getElem?_eq_getElem (i := o + j) (by omega))
 exact ⟨by rw [this.1]; rfl, this.2⟩
theorem own_set2 (h : w.ownsRow base e size v n xs) (hg : v.ownBlock = some g) {o : Nat} (hk : o + 2 ≤ xs.length) (a b : Value) :
  (w.setCells g o [a, b]).ownsRow base e size v n ((xs.set o a).set (o + 1) b) :=
 own_set (own_set h hg (by omega) a) hg (by rw [List.length_set]; omega) b
theorem own_set3 (h : w.ownsRow base e size v n xs) (hg : v.ownBlock = some g) {o : Nat} (hk : o + 3 ≤ xs.length) (a b c : Value) :
  (w.setCells g o [a, b, c]).ownsRow base e size v n (((xs.set o a).set (o + 1) b).set (o + 2) c) :=
 own_set (own_set (own_set h hg (by omega) a) hg (by rw [List.length_set]; omega) b) hg (by rw [List.length_set, List.length_set]; omega) c
end
theorem opC_setV {l : List Op4} {j : Nat} {o : Op4} (h : l[j]? = some o) (vk vn : Int) : ((opC l).set (j * 4 + 2) (.int .i64 vk)).set (j * 4 + 2 + 1) (.int .i64 vn) = opC (l.set j ⟨o.wr, o.key, vk, vn⟩) := by
 have hj := (List.getElem?_eq_some_iff.1 h).1
 have e1 := flat_set Op4.c 4 (fun _ => rfl) l j 2 o ⟨o.wr, o.key, vk, o.vn⟩ (.int .i64 vk) h (by omega) rfl
 have e2 := flat_set Op4.c 4 (fun _ => rfl) (l.set j ⟨o.wr, o.key, vk, o.vn⟩) j 3 ⟨o.wr, o.key, vk, o.vn⟩ ⟨o.wr, o.key, vk, vn⟩ (.int .i64 vn) (List.getElem?_set_self hj) (by omega) rfl
 unfold opC
 rw [e1, Nat.add_assoc, e2, List.set_set]
theorem txC_setT {l : List TxA} {i : Nat} {x y : TxA} (h : l[i]? = some x) : (((txC l).set (i * 3) (.int .i64 y.t.s)).set (i * 3 + 1) (.int .i64 y.t.f)).set (i * 3 + 2) (.slice y.A y.t.ops.length y.cp) = txC (l.set i y) := by
 have hi := (List.getElem?_eq_some_iff.1 h).1
 have hl : (txC l).length = l.length * 3 := txC_len l
 refine List.ext_getElem? fun q => ?_
 have hq : ∀ (z : List TxA), (txC z)[q]? = (z[q / 3]?).bind (fun x => x.c[q % 3]?) := fun z => by
  cases hz : z[q / 3]? with
  | none =>
   have := List.getElem?_eq_none_iff.1 hz
   rw [List.getElem?_eq_none (by rw [txC_len]; omega)]
   rfl
  | some x =>
   have := txC_get z (q / 3) x hz (q % 3) (Nat.mod_lt _ (by omega))
   rw [show q / 3 * 3 + q % 3 = q by omega] at this
   rw [this]
   rfl
 rw [hq, List.getElem?_set, List.getElem?_set, List.getElem?_set, hq]
 simp only [List.length_set, hl]
 by_cases hqi : q / 3 = i
 ·rw [hqi, List.getElem?_set_self hi]
  have hm : q % 3 = 0 ∨ q % 3 = 1 ∨ q % 3 = 2 := by omega
  rcases hm with hm | hm | hm
  ·have e : q = i * 3 := by omega
   rw [if_neg (by omega), if_neg (by omega), if_pos e.symm, if_pos (by omega), hm]
   rfl
  ·have e : q = i * 3 + 1 := by omega
   rw [if_neg (by omega), if_pos e.symm, if_pos (by omega), hm]
   rfl
  ·have e : q = i * 3 + 2 := by omega
   rw [if_pos e.symm, if_pos (by omega), hm]
   rfl
 ·rw [if_neg (by omega), if_neg (by omega), if_neg (by omega), List.getElem?_set, if_neg (Ne.symm hqi)]
end Go.Proofs.YtjfbeeogiejopaaGreatDoor
