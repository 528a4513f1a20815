/- Parts. -/
import Derived.Handed
import Derived.Shelf.Vars
import Derived.HandedShaped
import Derived.LaidMore
import Derived.Lib.LaidIn
import Derived.Lib.LaidU8T
import Derived.Stop.Joined
import Derived.JoinedOf
import Derived.Test.YthdofaoamljkfaaGreatDoorTie
import Derived.Test.YthdofaoamljkfaaGreatDoorCards
import Derived.SevenTiedAt
import Derived.Lay
import Derived.LaidOnce
import Derived.Test.YthdofaoamljkfaaGreatDoorLaw24AllK48
set_option maxRecDepth 10000
set_option maxHeartbeats 16000000
set_option linter.unusedVariables false
set_option linter.unusedSimpArgs false
namespace Go.Proofs.YthdofaoamljkfaaGreatDoor
open Go.ChangeShapes Go.WideShapes Go.ChangeAt Go.RowKit
theorem handed_and_shaped {H : Type} {enc : TypeId × Value → H} {a : Assume} {C : Checked} {os : Os} {f : FuncId} {fn : Func} {s : ChangeSpec} {conds : List PathCond} {apart fresh handsOn again : Bool} {X : World → Array Value → Prop}
  (hX : ∀ (w w' : World) (args : Array Value), w.heap = w'.heap → X w args → X w' args)
  (own : ownKnob C.prog.godebug = none) (started : os.Started) (noInit : C.prog.inits.idxOf? f = none) (hfn : C.prog.funcs[f]? = some fn)
  (witness : ∃ (w : World) (tape : Tape) (i : Input), w.os = os ∧ (w.forCall tape i).Shaped C.prog ∧ i.vars = [] ∧ Input.okWide C.prog (w.forCall tape i) .any w.heap.size f i ∧
   ((s.pre enc C.prog fn conds apart (w.forCall tape i).memory i.args ∧ X (w.forCall tape i).memory i.args) ∧ sizedMet enc C.prog fn (OpenSpec.ofChange s) apart (w.forCall tape i).memory i.args) ∧ a.holds C.prog (lone (Frame.enter C.prog f i.args .normal) [] (w.forCall tape i)))
  (contract : ∀ (W : World) (base : Nat) (args : Array Value) (ds gs : List (DataW H)) (before : List MemPlace),
   (∀ (j : Nat) t v, fn.params[j]? = some t → args[j]? = some v → Value.okWide C.prog W .any base t v) →
   DataW.Whole enc C.prog fn.params.toList s.vars apart W args.toList ds gs before →
   W.ShapedOpen C.prog →
   (DataW.weightsEach C.prog (fn.params.toList ++ s.plain.varTypes C.prog) (ds ++ gs)).all (· ≤ reachBytes) = true → X W args →
   a.holds C.prog (lone (Frame.enter C.prog f args .normal) [] W) →
   Calls C.prog f args W fun e W' => ∃ v, e = .returned v ∧ s.post enc C.prog fn apart fresh handsOn again W args v W') :
  ReturnsInHanded a C os f .any (fun w args => (s.pre enc C.prog fn conds apart w args ∧ X w args) ∧ sizedMet enc C.prog fn (OpenSpec.ofChange s) apart w args) (s.post enc C.prog fn apart fresh handsOn again) := by
 refine returnsInHanded_of_calls own started noInit witness ?_;intro w tape i _ hsh _ hok hpre hholds;obtain ⟨_, _, _, fn', hfn', _, _, _, _, hval⟩ := hok;have e : fn' = fn := Option.some.inj (hfn'.symm.trans hfn);subst e;obtain ⟨⟨⟨ds, gs, before, hw, hc⟩, hx⟩, hz⟩ := hpre;have hw' := DataW.Whole.of_heap (w' := w.forCall tape i) (by rfl) hw;refine (contract (w.forCall tape i) w.heap.size i.args ds gs before hval hw' hsh (hz.weights hw) (hX _ _ _ (by rfl) hx) hholds).mono fun e W' ⟨v, he, hp⟩ => ?_;subst he;exact ChangeSpec.post_blind hp
theorem mlen_of_shaped {W : World} (h : W.ShapedOpen Tryz.prog) : MLen W :=
 Go.Proofs.cell_of_shapedOpen_int (zero := #[.int .i64 0]) (t := 3) h (of_decide_eq_true (by kernel_rfl)) (by kernel_rfl) rfl (by kernel_rfl) (by kernel_rfl) Tryz.underlying3
def laidL : List (String × DataW Unit) := [("unicode/utf8.acceptRanges", Rows.laid_unicode_utf8_acceptRanges), ("deemster/event.verbs", Rows.laid_deemster_event_verbs), ("unicode/utf8.first", Rows.laid_unicode_utf8_first)]
set_option maxRecDepth 100000 in
theorem laid_accept : (Rows.laid_unicode_utf8_acceptRanges : DataW Unit) = Lib.acceptData := by rfl
set_option maxRecDepth 100000 in
theorem laid_first : Rows.laid_unicode_utf8_first = Lib.firstData := by kernel_rfl
def verbD : List (Int × List UInt8 × Bool) := [(1, [98, 101, 103, 105, 110], false), (2, [114, 101, 97, 100], true), (3, [119, 114, 105, 116, 101], true), (4, [111, 107], false), (5, [102, 97, 105, 108], false), (6, [105, 110, 102, 111], false)]
def verbW (x : Int × List UInt8 × Bool) : DataW Unit := .agg [.lit (.int .i64 x.1), .lit (.string x.2.1), .lit (.bool x.2.2)]
theorem laid_verbs : (Rows.laid_deemster_event_verbs : DataW Unit) = .agg (verbD.map verbW) := by rfl
set_option maxRecDepth 100000 in
theorem tabs_of_laid {W : World} (h : laidMetH Tryz.prog laidL W) : UTabs W := by
 rw [MakeChecks.laidMetH_plain _ _ _ (by kernel_rfl)] at h;unfold laidL at h;rw [laid_accept, laid_first] at h;exact utf8Tabs_of_readsT (U8Types.of196 Tryz.laysValid) ⟨by kernel_rfl, by kernel_rfl, by kernel_rfl, by kernel_rfl, by kernel_rfl, by kernel_rfl, by kernel_rfl⟩ (Lib.laidMet.reads h (.tail _ (.tail _ (.head _)))) (Lib.laidMet.reads h (.head _))
set_option maxRecDepth 100000 in
theorem verb_reads {W : World} {fuel : Nat} {cs : List Value} {x : Int × List UInt8 × Bool} {q : List MemPlace} (h : DataW.trod (fun _ => ()) Tryz.prog W 0 (fun _ => true) false fuel 122 cs = some (verbW x, q)) :
  cs = [.int .i64 x.1, .string ⟨x.2.1.toArray⟩, .bool x.2.2] := by
 obtain ⟨y0, y1, y2, n, hx, hl, h0, h1, h2⟩ := Go.Deep.trod_struct3 Tryz.underlying122 h;rw [show Tryz.prog.cellsOf 122 = 3 by kernel_rfl] at hl
 match cs, hl with
 | [c0, c1, c2], _ =>
  have k0 : Tryz.prog.cellsOf 3 = 1 := by kernel_rfl
  have k1 : Tryz.prog.cellsOf 9 = 1 := by kernel_rfl
  have k2 : Tryz.prog.cellsOf 4 = 1 := by kernel_rfl
  dsimp only at h0 h1 h2;rw [k0] at h0;rw [k1] at h1;rw [k2] at h2;obtain ⟨a, e0, f0, -⟩ := DataW.trod_int Tryz.underlying3 (by simpa using h0);obtain ⟨s, e1, f1, -⟩ := DataW.trod_string Tryz.underlying9 (by simpa using h1);obtain ⟨b, e2, f2⟩ := DataW.trod_bool Tryz.underlying4 (by simpa using h2);simp at e0 e1 e2;subst e0 e1 e2 f0 f1 f2;obtain ⟨x0, x1, x2⟩ := x;simp [verbW] at hx;obtain ⟨⟨rfl, rfl, rfl⟩, -⟩ := hx
  rfl
set_option maxRecDepth 100000 in
theorem verbs_of_laid {W : World} (h : laidMetH Tryz.prog laidL W) : Verbs W := by
 rw [MakeChecks.laidMetH_plain _ _ _ (by kernel_rfl)] at h;unfold laidL at h;rw [laid_verbs] at h;obtain ⟨g, t, cs, fuel, p, hg, hty, hvar, hd⟩ := Lib.laidMet.reads h (.tail _ (.head _));obtain rfl := Option.some.inj ((show Tryz.prog.globalNamed "deemster/event.verbs" = some 2 by kernel_rfl).symm.trans hg);obtain rfl := Option.some.inj ((show (Tryz.prog.globals[2]?).map (·.type) = some 152 by kernel_rfl).symm.trans hty);have key : ∀ (j : Nat) (x : Int × List UInt8 × Bool), j < 6 → verbD[j]? = some x → W.cell? ⟨2, j * 3, none⟩ = some (.int .i64 x.1) ∧ W.cell? ⟨2, j * 3 + 1, none⟩ = some (.string ⟨x.2.1.toArray⟩) ∧ W.cell? ⟨2, j * 3 + 2, none⟩ = some (.bool x.2.2) := by
  intro j x hj hx;obtain ⟨fuel', d, q, hdi, he⟩ := Lib.array_elem Tryz.underlying152 hd j hj;rw [List.getElem?_map, hx] at hdi;simp only [Option.map_some, Option.some.injEq] at hdi;subst hdi;rw [show Tryz.prog.cellsOf 122 = 3 by kernel_rfl] at he;have hcs := verb_reads he;have e0 := congrArg (·[0]?) hcs;have e1 := congrArg (·[1]?) hcs;have e2 := congrArg (·[2]?) hcs;simp only [List.getElem?_take, List.getElem?_drop] at e0 e1 e2;refine ⟨?_, ?_, ?_⟩
  ·rw [World.var?_cell hg hvar (j * 3), ← Array.getElem?_toList]
   simpa using e0
  ·rw [World.var?_cell hg hvar (j * 3 + 1), ← Array.getElem?_toList]
   simpa using e1
  ·rw [World.var?_cell hg hvar (j * 3 + 2), ← Array.getElem?_toList]
   simpa using e2
 have k0 := key 0 _ (by omega) rfl;have k1 := key 1 _ (by omega) rfl;have k2 := key 2 _ (by omega) rfl;have k3 := key 3 _ (by omega) rfl;have k4 := key 4 _ (by omega) rfl;have k5 := key 5 _ (by omega) rfl;refine ⟨World.block_lt_of_cell? W _ k0.1, fun i u hu => ?_⟩;have hi : i < 18 := by
  have := (List.getElem?_eq_some_iff.1 hu).1;exact this
 have hc : i = 0 ∨ i = 1 ∨ i = 2 ∨ i = 3 ∨ i = 4 ∨ i = 5 ∨ i = 6 ∨ i = 7 ∨ i = 8 ∨ i = 9 ∨ i = 10 ∨ i = 11 ∨ i = 12 ∨ i = 13 ∨ i = 14 ∨ i = 15 ∨ i = 16 ∨ i = 17 := by omega
 rcases hc with rfl | rfl | rfl | rfl | rfl | rfl | rfl | rfl | rfl | rfl | rfl | rfl | rfl | rfl | rfl | rfl | rfl | rfl
 ·obtain rfl := Option.some.inj hu;exact k0.1
 ·obtain rfl := Option.some.inj hu;exact k0.2.1
 ·obtain rfl := Option.some.inj hu;exact k0.2.2
 ·obtain rfl := Option.some.inj hu;exact k1.1
 ·obtain rfl := Option.some.inj hu;exact k1.2.1
 ·obtain rfl := Option.some.inj hu;exact k1.2.2
 ·obtain rfl := Option.some.inj hu;exact k2.1
 ·obtain rfl := Option.some.inj hu;exact k2.2.1
 ·obtain rfl := Option.some.inj hu;exact k2.2.2
 ·obtain rfl := Option.some.inj hu;exact k3.1
 ·obtain rfl := Option.some.inj hu;exact k3.2.1
 ·obtain rfl := Option.some.inj hu;exact k3.2.2
 ·obtain rfl := Option.some.inj hu;exact k4.1
 ·obtain rfl := Option.some.inj hu;exact k4.2.1
 ·obtain rfl := Option.some.inj hu;exact k4.2.2
 ·obtain rfl := Option.some.inj hu;exact k5.1
 ·obtain rfl := Option.some.inj hu;exact k5.2.1
 ·obtain rfl := Option.some.inj hu;exact k5.2.2
set_option maxRecDepth 100000 in
theorem wrNext_lifted (os : Os) (started : os.Started) (H : Type) (enc : TypeId × Value → H) :
  ReturnsInHanded {} Tryz.checked os 4 .any (fun w args => (Rows.wrNextSpec.pre enc Tryz.prog Tryz.f4 [] false w args ∧ laidMetH Tryz.prog laidL w) ∧ sizedMet enc Tryz.prog Tryz.f4 (OpenSpec.ofChange Rows.wrNextSpec) false w args)
   (Rows.wrNextSpec.post enc Tryz.prog Tryz.f4 false true false false) := by
 refine handed_and_shaped (C := Tryz.checked) (X := fun w _ => laidMetH Tryz.prog laidL w) (fun _ _ _ hh h => h.of_heap hh) own started (by kernel_rfl) Tryz.func4
  (ChangeSpec.witness_shaped (enc := enc) (C := Tryz.checked) (os := os) (X := fun w _ => laidMetH Tryz.prog laidL w) false (World.laidAll Tryz.prog os laidL) #[.agg #[.slice none 0 0, .slice none 0 0, .slice none 0 0], .slice none 0 0] 8 (World.laidAll_os _ _ _) (World.shaped_of_ZipB (by kernel_rfl) (by kernel_rfl)) (by kernel_rfl) (by kernel_rfl) (by kernel_rfl) (by rw [MakeChecks.laidMetH_plain _ _ _ (by kernel_rfl)]; exact laidMet_laidAll _ (by kernel_rfl) (by kernel_rfl))) ?_
 intro W base args ds gs before hval0 hW hsh _ hL _;have hval : ∀ (j : Nat) t v, Tryz.f4.params[j]? = some t → args[j]? = some v → Value.okWide Tryz.prog W .any base t v := hval0;have hW' := hW;obtain ⟨p, q, hA0, hV, rfl, hfz, hnd⟩ := hW;have hA : DataW.TrodAll enc Tryz.prog W 0 (fun _ => true) true Tryz.f4.params.toList args.toList ds p := hA0;rw [Tryz.params4] at hA hval;obtain ⟨v0, vs0, d0, ds0, p0, q0, hargs, rfl, rfl, h0, r0⟩ := trodAll_cons hA;obtain ⟨v1, vs1, d1, ds1, p1, q1, rfl, rfl, rfl, h1, r1⟩ := trodAll_cons r0;obtain ⟨rfl, rfl, rfl⟩ := trodAll_nil r1;obtain rfl : args = #[v0, v1] := by cases args; simp_all
 obtain ⟨rfl, rfl⟩ := trodVars_none hV;obtain ⟨A00, A01, A02, c00, c01, c02, g0, rfl, hg0, ma0, mb0, mc0, za0, zb0, ob0⟩ := open_hist2 Tryz.underlying25 (by kernel_rfl) Tryz.underlying22 Tryz.underlying9 (by kernel_rfl) (by kernel_rfl) Tryz.underlying23 (by kernel_rfl) Tryz.underlying47 (by kernel_rfl) Tryz.underlying3 (by kernel_rfl) Tryz.underlying45 (by kernel_rfl) Tryz.underlying70 Tryz.underlying68 (by kernel_rfl) Tryz.underlying4 Tryz.underlying2 (by kernel_rfl) (by kernel_rfl) (by kernel_rfl) ⟨rfl, rfl⟩ ⟨rfl, rfl⟩ ⟨rfl, rfl⟩ ⟨rfl, rfl⟩ ⟨rfl, rfl⟩ ⟨rfl, rfl⟩ ⟨rfl, rfl⟩ ⟨rfl, rfl⟩ ⟨rfl, rfl⟩ ⟨rfl, rfl⟩ ⟨rfl, rfl⟩ (hval 0 25 v0 rfl rfl) h0;obtain ⟨A1, n1, c1, zs1, rfl, hn1, hc1, hz1, hw1, hr1⟩ := open_row_ints Tryz.underlying26 Tryz.underlying3 (by kernel_rfl) (hval 1 26 v1 rfl rfl) h1;clear hA0;refine (wrNext_walk A00 A01 A02 c00 c01 c02 g0 A1 n1 c1 zs1 W hg0 ma0 mb0 mc0 za0 zb0 ob0 hr1 hz1 hn1 (by unfold maxLen at hc1; omega) (tabs_of_laid hL) (mlen_of_shaped hsh) (verbs_of_laid hL)).mono fun e W' ⟨he, ho⟩ => ?_;subst he;exact ⟨_, rfl, law_post laidOut (by kernel_rfl) rfl (tb := 4) (by kernel_rfl) Tryz.underlying4 hW' rfl rfl rfl (ho.below (Nat.le_refl _) (by simp))⟩
theorem wrNext_holds : Rows.WrNextSaid :=
 OpenClaim.holds_of_wide 4 Tryz.f4 rfl rfl rfl rfl rfl rfl rfl ⟨rfl, rfl, rfl, rfl, rfl⟩ rfl rfl rfl rfl rfl (by kernel_rfl) Tryz.func4 (by kernel_rfl)
  (of_decide_eq_true (by kernel_rfl)) (by unfold Func.isWrapper; first | (rw [if_pos (by decide +kernel)]; kernel_rfl) | (rw [if_neg (by decide +kernel)]; exact ⟨rfl, rfl⟩))
  (fun os started H enc _ => wrNext_lifted os started H enc)
set_option maxRecDepth 100000 in
theorem wrNext_card : Rows.WrNextCardSaid :=
 Claim7.holds_tied_plain_at .later [] [.data, .data, .pinned] true (true, "aaad560aa7c59205e0ddb94ce84a8c22cee5ac4a9118b7fe876023d9859e9daa") false
  wrNext_holds (fun _ h => by cases h) (by kernel_rfl) (fun _ h => by cases h) wrNext_row_tie rfl ⟨rfl, rfl⟩ (by kernel_rfl) rfl
  (fun f fn hf hfn => by
   obtain rfl : f = 4 := Option.some.inj ((show Tryz.prog.funcNamed "deemster/deemsterlaw24.WrNext" = some 4 by kernel_rfl).symm.trans hf) |>.symm;obtain rfl : fn = Tryz.f4 := (Option.some.inj (Tryz.func4.symm.trans hfn)).symm;exact ⟨by kernel_rfl, fun j t ht => by
    rw [Tryz.params4] at ht;have hm := Array.mem_of_getElem? ht;have hall : ((Tryz.f4.params).all fun u => !Tryz.prog.wantsStandIn u) = true := by kernel_rfl
    rw [Tryz.params4] at hall;have := Array.all_eq_true'.1 hall t hm
    show Tryz.prog.wantsStandIn t = false
    simpa using this⟩)
  (by kernel_rfl)
end Go.Proofs.YthdofaoamljkfaaGreatDoor
namespace Go.Proofs.YthdofaoamljkfaaGreatDoor
open Go.RowKit
open Go.Lib hiding intOf
attribute [local go_sem ↓] Go.wp_at_zero Go.wp_at_succ
theorem prod_map {G : Hst} (hw : wholeB G = true) {l : List Int} (hl : l ∈ prodL (choL G)) : isMap G l = true := by
 obtain ⟨h1, h2⟩ := prodL_mem hl;unfold isMap;rw [hw, Bool.true_and, Bool.and_eq_true];exact ⟨decide_eq_true h1, isI_iff.2 (fun i x vs hx hv => h2 i vs x hv hx)⟩
theorem next_prod {G : Hst} (hw : wholeB G = true) (hE : ∀ vs ∈ choL G, vs ≠ []) {i : Nat} {l : List Int} (hl : (prodL (choL G))[i]? = some l) : nextR G l = (prodL (choL G))[i + 1]? := by
 unfold nextR;rw [if_pos (prod_map hw (List.mem_of_getElem? hl))];exact maps_next hE hl
structure AtM (w : World) (A : Option Addr) (c : Nat) (P : List (List Int)) (i : Nat) (ml : List Int) : Prop where
 row : Row w w.heap.size A (ml.map (Value.int .i64))
 none_ : A = none → ml.length = 0 ∧ c = 0
 at_ : i < P.length → P[i]? = some ml
theorem AtM.same {w w' : World} {A : Option Addr} {c : Nat} {P : List (List Int)} {i : Nat} {ml : List Int} (h : AtM w A c P i ml) (O : Only [] w w') : AtM w' A c P i ml := ⟨row_up (h.row.only O (by simp)), h.none_, h.at_⟩
theorem next_at {w : World} {base m : Nat} {V : Value} {P : List (List Int)} {i : Nat} (hy : ∀ ys, P[i]? = some ys → w.ownsRow base 3 1 V m (ys.map (Value.int .i64))) (hn : P[i]? = none → V = .slice none 0 0) : ∃ A c ml, V = .slice A ml.length c ∧ AtM w A c P i ml := by
 cases hT : P[i]? with
 | none => exact ⟨none, 0, [], hn hT, .inl rfl, fun _ => ⟨rfl, rfl⟩, fun hl => by rw [List.getElem?_eq_none_iff] at hT; omega⟩
 | some ys =>
  have h1 := hy ys hT;obtain ⟨A, c, rfl, -, -, hl, hr⟩ := own_row h1;rw [List.length_map, Nat.mul_one] at hl;refine ⟨A, c, ys, by rw [hl], hr, fun e => ?_, fun _ => hT⟩;have := own_zero24 h1 e;omega
theorem wrAll_walk (A0 A1 A2 : Option Addr) (c0 c1 c2 : Nat) (h : Hst) (w : World) (hg : HAt w w.heap.size A0 A1 A2 h) (hm0 : h.ss.length ≤ maxLen) (hm1 : h.ks.length ≤ maxLen) (hm2 : h.l.length ≤ maxLen)
  (hz0 : ∀ z ∈ h.ss, z.size ≤ maxLen) (hz1 : ∀ z ∈ h.ks, z.size ≤ maxLen) (hI : HInt h) (hT : UTabs w) (hM : MLen w) (hV : Verbs w) :
  Calls Tryz.prog 5 #[hval A0 A1 A2 h.ss.length h.ks.length h.l.length c0 c1 c2] w fun e w' => e = .returned (.bool true) ∧ Only [] w w' := by
 unfold hval;have HW := Hd (fun w' (h : Only [] w w') => works24_any w' (hT.only h) (hM.only h) (hV.only h));have HF0 := Hd (fun w' (O : Only [] w w') => few_first A0 A1 A2 c0 c1 c2 h w' (hg.only O (by simp)).up hm0 hm1 hm2 hz0 hz1 (hT.only O));have HIG := Hd (few_int hI);have HT := Hd hT;generalize fewH h = G at *;generalize h.ss.length = n0 at *;generalize h.ks.length = n1 at *;generalize h.l.length = n2 at *;generalize G.ss.length = m0 at *;generalize G.ks.length = m1 at *;generalize G.l.length = m2 at *;clear hg hm0 hm1 hm2 hz0 hz1 hT hM hV hI;have HFS := Hd (fun (D0 D1 D2 : Option Addr) (f0 f1 f2 B : Nat) w' (hI : HIn w' B D0 D1 D2 m0 m1 m2 G) => wrFirst_any D0 D1 D2 m0 m1 m2 f0 f1 f2 B G w' hI HIG.out);have HNX := Hd (fun (L : List Int) (hL : L.length ≤ 800) (D0 D1 D2 Am : Option Addr) (f0 f1 f2 B cm : Nat) w' (hI : HIn w' B D0 D1 D2 m0 m1 m2 G) (hr : Row w' w'.heap.size Am (L.map (Value.int .i64))) (hA : Am = none → L.length = 0 ∧ cm = 0) => wrNext_any D0 D1 D2 m0 m1 m2 f0 f1 f2 B G Am L.length cm _ L w' hI HIG.out hr rfl (by omega) hA);have HCT := Hd (fun (D0 D1 D2 : Option Addr) (f0 f1 f2 B : Nat) w' (hI : HIn w' B D0 D1 D2 m0 m1 m2 G) => wrCount_any D0 D1 D2 m0 m1 m2 f0 f1 f2 B G w' hI HIG.out);have HRA := Hd (fun (hw : wholeB G = true) (D0 D1 D2 : Option Addr) (f0 f1 f2 B : Nat) w' (hI : HIn w' B D0 D1 D2 m0 m1 m2 G) => rall24_any D0 D1 D2 m0 m1 m2 f0 f1 f2 B G 400 (by omega) (by omega) w' hI hw);unfold hval at HFS HNX HCT HRA;have HFD : Hid (firstR G = if wholeB G = true then (if (choL G).any emptyB = true then ([], 3) else (headsL 0 (choL G), 0)) else ([], 4)) := Hd rfl;have HCD : Hid (cntR G = if wholeB G = true then cntM (choL G) else 0) := Hd rfl;have HCM := Hd (fun (hw : wholeB G = true) => choL_max hw);obtain ⟨d, hd⟩ : ∃ d, wholeB G = d := ⟨_, rfl⟩;have HWG := Hd hd;rw [hd] at HFD HCD;obtain ⟨CN, hCN⟩ : ∃ n, cntR G = n := ⟨_, rfl⟩;rw [hCN] at HCT HCD;obtain ⟨F1, hF1⟩ : ∃ F, firstR G = F := ⟨_, rfl⟩;rw [hF1] at HFS HFD;obtain ⟨FL, FE⟩ := F1;dsimp only at HFS;clear hF1 hd hCN;have HB1 := Hd (Blk.made w 25 #[.slice A0 n0 c0, .slice A1 n1 c1, .slice A2 n2 c2]);have HO1 := Hd ((Only.refl [] w).alloc (.cells #[.slice A0 n0 c0, .slice A1 n1 c1, .slice A2 n2 c2] 25));go_enter Tryz.func5, Tryz.ntmps5;go_upto_region 1 with (fail)
 generalize (w.alloc (.cells #[.slice A0 n0 c0, .slice A1 n1 c1, .slice A2 n2 c2] 25)) = w1 at *

 go_wp2_with fail
 refine (HW.out _ HO1.out).mono ?_;rintro e w2 ⟨rfl, O2⟩;have HO2 := Hd (HO1.out.trans O2);have HB2 := Hd (O2.blk HB1.out (by simp));clear HO1 HB1;clear O2 HW;have lHB_ := HB2.out.lt;have y0 := HB2.out.at_ 0;have y1 := HB2.out.at_ 1;have y2 := HB2.out.at_ 2;simp at y0 y1 y2;go_wp2_with fail
 refine (HF0.out _ HO2.out).mono ?_;rintro e w3 ⟨B0, B1, B2, d0, d1, d2, ⟨rfl, hI⟩, O3⟩;clear lHB_ y0 y1 y2;have HO3 := Hd (HO2.out.trans O3);have HB3 := Hd (O3.blk HB2.out (by simp));clear HO2 HB2;have HI3 := Hd hI;clear hI O3 HF0;go_wp2_with (refine wpList_store_blk rfl 25 (.tmp 1) (.tmp 13) rfl w.heap.size 25 _ #[.slice B0 m0 d0, .slice B1 m1 d1, .slice B2 m2 d2] rfl rfl HB3.out rfl (by kernel_rfl) (by kernel_rfl) ?_; intro w4 hb4 o4; have HB4 := Hd hb4; have HO4 := Hd (HO3.out.step o4 (fun i hi hl => by simp at hi; omega)); have HI4 := Hd (HI3.out.past HB3.out o4 (HT.out.only HO4.out)); have lHB_ := HB4.out.lt; have y0 := HB4.out.at_ 0; have y1 := HB4.out.at_ 1; have y2 := HB4.out.at_ 2; simp at y0 y1 y2; clear hb4 o4; clear HI3 HB3 HO3)
 refine (HCT.out _ _ _ _ _ _ _ _ HI4.out).mono ?_;rintro e w5 ⟨rfl, O5⟩;clear lHB_ y0 y1 y2;have HO5 := Hd (HO4.out.trans O5);have HB5 := Hd (O5.blk HB4.out (by simp));have HI5 := Hd (HI4.out.same O5);clear HO4 HB4 HI4;clear O5 HCT;have lHB_ := HB5.out.lt;have y0 := HB5.out.at_ 0;have y1 := HB5.out.at_ 1;have y2 := HB5.out.at_ 2;simp at y0 y1 y2;go_wp2_with fail
 refine (HFS.out _ _ _ _ _ _ _ _ HI5.out).mono ?_;rintro e w6 ⟨AF, cF, ⟨rfl, hF⟩, O6⟩;clear lHB_ y0 y1 y2;have HO6 := Hd (HO5.out.trans O6);have HB6 := Hd (O6.blk HB5.out (by simp));have HI6 := Hd (HI5.out.same O6);clear HO5 HB5 HI5;have HF6 := Hd hF;clear hF O6 HFS
 by_cases hFE : FE = 0
 ·subst hFE;obtain rfl : d = true := by
   cases d with
   | true => rfl
   | false =>
    have h1 := HFD.out;rw [if_neg (by decide)] at h1;obtain ⟨-, h2⟩ := Prod.ext_iff.1 h1
    cases h2
  rw [if_pos rfl] at HFD HCD;have hq : (choL G).any emptyB = false := by
   cases hb : (choL G).any emptyB with
   | false => rfl
   | true =>
    have h1 := HFD.out;rw [if_pos hb] at h1;obtain ⟨-, h2⟩ := Prod.ext_iff.1 h1
    cases h2
  rw [if_neg (by rw [hq]; decide)] at HFD;have hf1 : FL = headsL 0 (choL G) := (Prod.ext_iff.1 HFD.out).1;have hE : ∀ vs ∈ choL G, vs ≠ [] := fun vs hv e => by
   have := any_empty.2 ⟨vs, hv, e⟩;rw [hq] at this
   cases this
  by_cases h300 : 300 < CN
  ·have hd1 : decide ((300 : Int) < (CN : Int)) = true := decide_eq_true (by omega);go_wp2
   go_ret
   exact ⟨rfl, HO6.out⟩
  ·have hd1 : decide ((300 : Int) < (CN : Int)) = false := decide_eq_false (by omega);obtain ⟨ha, hb⟩ := all_few (c := choL G) (by rw [← HCD.out]; omega);rw [← HCD.out] at hb;have hcm := HCM.out HWG.out;have HRA2 := Hd (HRA.out HWG.out);rw [ha] at HRA2;have HNP := Hd (fun (i : Nat) (l : List Int) (hl : (prodL (choL G))[i]? = some l) => next_prod HWG.out hE hl);have HLP := Hd (fun (i : Nat) (l : List Int) (hl : (prodL (choL G))[i]? = some l) => show l.length ≤ 800 by rw [(prodL_mem (List.mem_of_getElem? hl)).1]; exact hcm);have h0 : (prodL (choL G))[0]? = some FL := by rw [hf1]; exact maps_first hE
   have HA6 : Hid (AtM w6 AF cF (prodL (choL G)) 0 FL) := Hd ⟨(own_row_at HF6.out).1, own_zero24 HF6.out, fun _ => h0⟩;generalize prodL (choL G) = P at *;have HCN := Hd hb;clear ha hq hf1 hE hcm h0 hb HRA HF6 HFD HCD HCM HWG;rw [HCN.out] at HRA2;have lHB_ := HB6.out.lt;have y0 := HB6.out.at_ 0;have y1 := HB6.out.at_ 1;have y2 := HB6.out.at_ 2;simp at y0 y1 y2;go_wp2_with fail
   refine (HRA2.out _ _ _ _ _ _ _ _ HI6.out).mono ?_;rintro e w7 ⟨A7, c7, xs7, ⟨rfl, hV7⟩, O7⟩;clear lHB_ y0 y1 y2;have HO7 := Hd (HO6.out.trans O7);have HB7 := Hd (O7.blk HB6.out (by simp));have HI7 := Hd (HI6.out.same O7);have HA7 := Hd (HA6.out.same O7);clear HO6 HB6 HI6 HA6;have HV7 := Hd hV7;clear hV7 O7;go_wp2_with fail
   go_loopw [4, 7] (fun M iv wr => ∃ (i : Nat) (AM : Option Addr) (cM : Nat) (ml : List Int), iv = .int .i64 (i : Int) ∧ M = .slice AM ml.length cM ∧ i ≤ CN ∧ Hid (AtM wr AM cM P i ml) ∧ Hid (Only [] w7 wr)) (fun _ iv _ => CN - (intOf iv).toNat)
   case atStart => exact ⟨0, AF, cF, FL, rfl, rfl, by omega, HA7, Hd (Only.refl [] w7)⟩
   case round =>
    obtain ⟨i, AM, cM, ml, rfl, rfl, hi, hA, hO⟩ := hrel
    by_cases hlt : i < CN
    ·have hml := hA.out.at_ (by rw [HCN.out]; exact hlt);have hl8 := HLP.out i ml hml;have HNPi := Hd (HNP.out i ml hml);obtain ⟨b, off, Ak, ck, rfl, hb, hcc, hown⟩ := (HV7.out.same hO.out).cell (n := CN) hml;have HSI := Hd (sameInts_any AM Ak ml.length ml.length cM ck ml ml wr _ _ hA.out.row (own_row_at hown).1 rfl rfl (by omega) (by omega));rw [decide_eq_true (rfl : ml = ml)] at HSI;have HBr := Hd (hO.out.blk HB7.out (by simp));have HIr := Hd (HI7.out.same hO.out);have h01 : (i : Int) < (CN : Int) := by omega
     have hi0 : (0 : Int) ≤ (i : Int) := Int.natCast_nonneg _;have hwi : IntKind.i64.wrap ((i : Int) + 1) = (i : Int) + 1 := IntWalk.i64_in _ (by omega);obtain ⟨tb, htb⟩ : ∃ tb, decide ((i : Int) + 1 < (CN : Int)) = tb := ⟨_, rfl⟩;have htn : (P[i + 1]?).isSome = tb := by
      rw [← htb]
      by_cases h2 : i + 1 < CN
      ·rw [List.getElem?_eq_getElem (by rw [HCN.out]; exact h2), decide_eq_true (by omega)]; rfl
      ·rw [List.getElem?_eq_none (by rw [HCN.out]; omega), decide_eq_false (by omega)]; rfl
     have hne : (tb != tb) = false := by simp
     have HNXi := Hd (fun (Bq : Nat) w' (hI : HIn w' Bq B0 B1 B2 m0 m1 m2 G) (hr : Row w' w'.heap.size AM (ml.map (Value.int .i64))) => HNX.out ml hl8 B0 B1 B2 AM d0 d1 d2 Bq cM w' hI hr hA.out.none_);rw [HNPi.out, htn] at HNXi;have HROW := Hd hA.out.row;clear hown hml htn hl8;go_wp2_with fail
     refine (HSI.out).mono ?_;rintro e w8 ⟨rfl, q8, rfl⟩;have O8 : Only [] wr (wr.drewN q8) := (Only.refl [] wr).drewN q8;have HO8 := Hd (hO.out.trans O8);have HB8 := Hd (O8.blk HBr.out (by simp));have HI8 := Hd (HIr.out.same O8);have HR8 := Hd (row_up (HROW.out.only O8 (by simp)));clear O8 hO HBr HIr hcc HSI hA HROW;generalize wr.drewN q8 = w8 at *;have lHB_ := HB8.out.lt;have y0 := HB8.out.at_ 0;have y1 := HB8.out.at_ 1;have y2 := HB8.out.at_ 2;simp at y0 y1 y2;go_wp2_with fail
     refine (HNXi.out _ _ HI8.out HR8.out).mono ?_;rintro e w9 ⟨V9, ⟨rfl, hy, hn⟩, O9⟩;obtain ⟨AN, cN, nl, rfl, hAt⟩ := next_at hy hn;have HAt := Hd hAt;have HO9 := Hd (HO8.out.trans O9);clear hy hn O9 hAt lHB_ y0 y1 y2;go_wp2
     go_roundw
     case rel => exact ⟨i + 1, AN, cN, nl, by go_num, rfl, by omega, HAt, HO9⟩
     case measure => simp [intOf]; omega
    ·obtain rfl : i = CN := by omega
     have HO9 := Hd (HO7.out.trans hO.out);have heq : ((i : Int) == (i : Int)) = true := by simp
     go_wp2
     go_ret
     exact ⟨rfl, HO9.out⟩
 ·obtain rfl : CN = 0 := by
   rw [HCD.out]
   cases d with
   | false => rfl
   | true =>
    rw [if_pos rfl];have h1 := HFD.out;rw [if_pos rfl] at h1
    cases hb : (choL G).any emptyB with
    | true => exact cnt_zero (any_empty.1 hb)
    | false =>
     rw [if_neg (by rw [hb]; decide)] at h1;obtain ⟨-, h2⟩ := Prod.ext_iff.1 h1;exact absurd h2 hFE
  have d1 : (FE != 0) = true := by simpa using hFE
  have d2 : (FE == 0) = false := by simpa using hFE
  clear hFE;go_wp2
  go_ret
  exact ⟨rfl, HO6.out⟩
end Go.Proofs.YthdofaoamljkfaaGreatDoor
namespace Go.Proofs.YthdofaoamljkfaaGreatDoor
open Go.ChangeShapes Go.WideShapes Go.ChangeAt Go.RowKit
set_option maxRecDepth 100000 in
theorem wrAll_lifted (os : Os) (started : os.Started) (H : Type) (enc : TypeId × Value → H) :
  ReturnsInHanded {} Tryz.checked os 5 .any (fun w args => (Rows.wrAllSpec.pre enc Tryz.prog Tryz.f5 [] false w args ∧ laidMetH Tryz.prog laidL w) ∧ sizedMet enc Tryz.prog Tryz.f5 (OpenSpec.ofChange Rows.wrAllSpec) false w args)
   (Rows.wrAllSpec.post enc Tryz.prog Tryz.f5 false true false false) := by
 refine handed_and_shaped (C := Tryz.checked) (X := fun w _ => laidMetH Tryz.prog laidL w) (fun _ _ _ hh h => h.of_heap hh) own started (by kernel_rfl) Tryz.func5
  (ChangeSpec.witness_shaped (enc := enc) (C := Tryz.checked) (os := os) (X := fun w _ => laidMetH Tryz.prog laidL w) false (World.laidAll Tryz.prog os laidL) #[.agg #[.slice none 0 0, .slice none 0 0, .slice none 0 0]] 8 (World.laidAll_os _ _ _) (World.shaped_of_ZipB (by kernel_rfl) (by kernel_rfl)) (by kernel_rfl) (by kernel_rfl) (by kernel_rfl) (by rw [MakeChecks.laidMetH_plain _ _ _ (by kernel_rfl)]; exact laidMet_laidAll _ (by kernel_rfl) (by kernel_rfl))) ?_
 intro W base args ds gs before hval0 hW hsh _ hL _;have hval : ∀ (j : Nat) t v, Tryz.f5.params[j]? = some t → args[j]? = some v → Value.okWide Tryz.prog W .any base t v := hval0;have hW' := hW;obtain ⟨p, q, hA0, hV, rfl, hfz, hnd⟩ := hW;have hA : DataW.TrodAll enc Tryz.prog W 0 (fun _ => true) true Tryz.f5.params.toList args.toList ds p := hA0;rw [Tryz.params5] at hA hval;obtain ⟨v0, vs0, d0, ds0, p0, q0, hargs, rfl, rfl, h0, r0⟩ := trodAll_cons hA;obtain ⟨rfl, rfl, rfl⟩ := trodAll_nil r0;obtain rfl : args = #[v0] := by cases args; simp_all
 obtain ⟨rfl, rfl⟩ := trodVars_none hV;obtain ⟨A00, A01, A02, c00, c01, c02, g0, rfl, hg0, ma0, mb0, mc0, za0, zb0, ob0⟩ := open_hist2 Tryz.underlying25 (by kernel_rfl) Tryz.underlying22 Tryz.underlying9 (by kernel_rfl) (by kernel_rfl) Tryz.underlying23 (by kernel_rfl) Tryz.underlying47 (by kernel_rfl) Tryz.underlying3 (by kernel_rfl) Tryz.underlying45 (by kernel_rfl) Tryz.underlying70 Tryz.underlying68 (by kernel_rfl) Tryz.underlying4 Tryz.underlying2 (by kernel_rfl) (by kernel_rfl) (by kernel_rfl) ⟨rfl, rfl⟩ ⟨rfl, rfl⟩ ⟨rfl, rfl⟩ ⟨rfl, rfl⟩ ⟨rfl, rfl⟩ ⟨rfl, rfl⟩ ⟨rfl, rfl⟩ ⟨rfl, rfl⟩ ⟨rfl, rfl⟩ ⟨rfl, rfl⟩ ⟨rfl, rfl⟩ (hval 0 25 v0 rfl rfl) h0;clear hA0;refine (wrAll_walk A00 A01 A02 c00 c01 c02 g0 W hg0 ma0 mb0 mc0 za0 zb0 ob0 (tabs_of_laid hL) (mlen_of_shaped hsh) (verbs_of_laid hL)).mono fun e W' ⟨he, ho⟩ => ?_;subst he;exact ⟨_, rfl, law_post laidOut (by kernel_rfl) rfl (tb := 4) (by kernel_rfl) Tryz.underlying4 hW' rfl rfl rfl (ho.below (Nat.le_refl _) (by simp))⟩
theorem wrAll_holds : Rows.WrAllSaid :=
 OpenClaim.holds_of_wide 5 Tryz.f5 rfl rfl rfl rfl rfl rfl rfl ⟨rfl, rfl, rfl, rfl, rfl⟩ rfl rfl rfl rfl rfl (by kernel_rfl) Tryz.func5 (by kernel_rfl)
  (of_decide_eq_true (by kernel_rfl)) (by unfold Func.isWrapper; first | (rw [if_pos (by decide +kernel)]; kernel_rfl) | (rw [if_neg (by decide +kernel)]; exact ⟨rfl, rfl⟩))
  (fun os started H enc _ => wrAll_lifted os started H enc)
set_option maxRecDepth 100000 in
theorem wrAll_card : Rows.WrAllCardSaid :=
 Claim7.holds_tied_plain_at .later [] [.data, .data, .pinned] true (true, "aaad560aa7c59205e0ddb94ce84a8c22cee5ac4a9118b7fe876023d9859e9daa") false
  wrAll_holds (fun _ h => by cases h) (by kernel_rfl) (fun _ h => by cases h) wrAll_row_tie rfl ⟨rfl, rfl⟩ (by kernel_rfl) rfl
  (fun f fn hf hfn => by
   obtain rfl : f = 5 := Option.some.inj ((show Tryz.prog.funcNamed "deemster/deemsterlaw24.WrAll" = some 5 by kernel_rfl).symm.trans hf) |>.symm;obtain rfl : fn = Tryz.f5 := (Option.some.inj (Tryz.func5.symm.trans hfn)).symm;exact ⟨by kernel_rfl, fun j t ht => by
    rw [Tryz.params5] at ht;have hm := Array.mem_of_getElem? ht;have hall : ((Tryz.f5.params).all fun u => !Tryz.prog.wantsStandIn u) = true := by kernel_rfl
    rw [Tryz.params5] at hall;have := Array.all_eq_true'.1 hall t hm
    show Tryz.prog.wantsStandIn t = false
    simpa using this⟩)
  (by kernel_rfl)
end Go.Proofs.YthdofaoamljkfaaGreatDoor
