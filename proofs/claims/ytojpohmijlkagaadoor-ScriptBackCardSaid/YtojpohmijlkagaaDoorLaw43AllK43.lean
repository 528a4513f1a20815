/- Parts. -/
import Derived.LaidMore
import Derived.Lib.LaidIn
import Derived.Lib.LaidU8T
import Derived.Stop.Joined
import Derived.JoinedOf
import Derived.Test.YtojpohmijlkagaaDoorTie
import Derived.Test.YtojpohmijlkagaaDoorCards
import Derived.SevenTiedAt
import Derived.Lay
import Derived.LaidOnce
import Derived.Test.YtojpohmijlkagaaDoorLaw43AllK42
set_option maxRecDepth 10000
set_option maxHeartbeats 16000000
set_option linter.unusedVariables false
set_option linter.unusedSimpArgs false
namespace Go.Proofs.YtojpohmijlkagaaDoor
open Go.ChangeShapes Go.WideShapes Go.ChangeAt Go.RowKit
def laidL : List (String × DataW Unit) := [("unicode/utf8.acceptRanges", Rows.laid_unicode_utf8_acceptRanges), ("deemster/text.levels", Rows.laid_deemster_text_levels), ("deemster/text.policies", Rows.laid_deemster_text_policies), ("deemster/script.words", Rows.laid_deemster_script_words), ("unicode/utf8.first", Rows.laid_unicode_utf8_first)]
set_option maxRecDepth 100000 in
theorem laid_accept : (Rows.laid_unicode_utf8_acceptRanges : DataW Unit) = Lib.acceptData := by rfl
set_option maxRecDepth 100000 in
theorem laid_first : Rows.laid_unicode_utf8_first = Lib.firstData := by kernel_rfl
def strD (x : ByteArray) : DataW Unit := .lit (.string (by_ x))
theorem laid_lvl : (Rows.laid_deemster_text_levels : DataW Unit) = .agg ((⟨#[]⟩ :: lvlL).map strD) := by rfl
theorem laid_pol : (Rows.laid_deemster_text_policies : DataW Unit) = .agg ((⟨#[]⟩ :: polL).map strD) := by rfl
theorem laid_wrd : (Rows.laid_deemster_script_words : DataW Unit) = .agg (kwL.map strD) := by rfl
set_option maxRecDepth 100000 in
theorem tabs_of_laid {W : World} (h : laidMetH Tryd.prog laidL W) : UTabs W := by
 rw [MakeChecks.laidMetH_plain _ _ _ (by kernel_rfl)] at h;unfold laidL at h;rw [laid_accept, laid_first] at h;exact utf8Tabs_of_readsT (U8Types.of196 Tryd.laysValid) ⟨by kernel_rfl, by kernel_rfl, by kernel_rfl, by kernel_rfl, by kernel_rfl, by kernel_rfl, by kernel_rfl⟩ (Lib.laidMet.reads h (.tail _ (.tail _ (.tail _ (.tail _ (.head _)))))) (Lib.laidMet.reads h (.head _))
theorem str_reads {W : World} {fuel : Nat} {cs : List Value} {x : ByteArray} {q : List MemPlace} (h : DataW.trod (fun _ => ()) Tryd.prog W 0 (fun _ => true) false fuel 9 cs = some (strD x, q)) : cs = [.string x] := by
 obtain ⟨s, e1, f1, -⟩ := DataW.trod_string Tryd.underlying9 h;subst e1;unfold strD at f1;simp at f1;have : s = x := by_inj f1.1.symm;rw [this]
theorem arr_reads {W : World} {g m : Nat} {t : TypeId} {cs : Array Value} {fuel : Nat} {p : List MemPlace} {l : List ByteArray} (hl : l.length = m) (hu : Tryd.prog.underlying t = some (.array m 9)) (hvar : ∀ j, W.cell? ⟨g, j, none⟩ = cs[j]?)
  (hd : DataW.trod (fun _ => ()) Tryd.prog W 0 (fun _ => true) false fuel t cs.toList = some (.agg (l.map strD), p)) : ∀ (i : Nat) (u : Value), (strs l)[i]? = some u → W.cell? ⟨g, i, none⟩ = some u := by
 intro i u hu';rw [strs, List.getElem?_map] at hu';obtain ⟨x, hx, rfl⟩ := Option.map_eq_some_iff.1 hu';have hi : i < m := by rw [← hl]; exact (List.getElem?_eq_some_iff.1 hx).1
 obtain ⟨fuel', d, q, hdi, he⟩ := Lib.array_elem hu hd i hi;rw [List.getElem?_map, hx] at hdi;simp only [Option.map_some, Option.some.injEq] at hdi;subst hdi;rw [show Tryd.prog.cellsOf 9 = 1 by kernel_rfl] at he;have hcs := str_reads he;have e0 := congrArg (·[0]?) hcs;simp only [List.getElem?_take, List.getElem?_drop] at e0;rw [hvar i, ← Array.getElem?_toList]
 simpa using e0
set_option maxRecDepth 100000 in
theorem scrs_of_laid {W : World} (h : laidMetH Tryd.prog laidL W) : Scrs W := by
 rw [MakeChecks.laidMetH_plain _ _ _ (by kernel_rfl)] at h;unfold laidL at h;rw [laid_lvl, laid_pol, laid_wrd] at h;have k1 : ∀ (i : Nat) (u : Value), (strs (⟨#[]⟩ :: lvlL))[i]? = some u → W.cell? ⟨1, i, none⟩ = some u := by
  obtain ⟨g, t, cs, fuel, p, hg, hty, hvar, hd⟩ := Lib.laidMet.reads h (.tail _ (.head _));obtain rfl := Option.some.inj ((show Tryd.prog.globalNamed "deemster/text.levels" = some 1 by kernel_rfl).symm.trans hg);obtain rfl := Option.some.inj ((show (Tryd.prog.globals[1]?).map (·.type) = some 93 by kernel_rfl).symm.trans hty);exact arr_reads (m := 4) rfl Tryd.underlying93 (World.var?_cell hg hvar) hd
 have k2 : ∀ (i : Nat) (u : Value), (strs (⟨#[]⟩ :: polL))[i]? = some u → W.cell? ⟨2, i, none⟩ = some u := by
  obtain ⟨g, t, cs, fuel, p, hg, hty, hvar, hd⟩ := Lib.laidMet.reads h (.tail _ (.tail _ (.head _)));obtain rfl := Option.some.inj ((show Tryd.prog.globalNamed "deemster/text.policies" = some 2 by kernel_rfl).symm.trans hg);obtain rfl := Option.some.inj ((show (Tryd.prog.globals[2]?).map (·.type) = some 94 by kernel_rfl).symm.trans hty);exact arr_reads (m := 3) rfl Tryd.underlying94 (World.var?_cell hg hvar) hd
 have k0 : ∀ (i : Nat) (u : Value), (strs kwL)[i]? = some u → W.cell? ⟨0, i, none⟩ = some u := by
  obtain ⟨g, t, cs, fuel, p, hg, hty, hvar, hd⟩ := Lib.laidMet.reads h (.tail _ (.tail _ (.tail _ (.head _))));obtain rfl := Option.some.inj ((show Tryd.prog.globalNamed "deemster/script.words" = some 0 by kernel_rfl).symm.trans hg);obtain rfl := Option.some.inj ((show (Tryd.prog.globals[0]?).map (·.type) = some 53 by kernel_rfl).symm.trans hty);exact arr_reads (m := 10) rfl Tryd.underlying53 (World.var?_cell hg hvar) hd
 exact ⟨World.block_lt_of_cell? W _ (k0 0 _ rfl), World.block_lt_of_cell? W _ (k1 0 _ rfl), World.block_lt_of_cell? W _ (k2 0 _ rfl), k0, k1, k2⟩
theorem cmds_of : ∀ (n : Nat) (zs : List Int), zs.length = n * 3 → (∀ z ∈ zs, (Lit.int .i64 z).wf = true) →
  ∃ l : List Cmd, l.length = n ∧ zs.map (Value.int .i64) = cmdC l ∧ ∀ x ∈ l, -9223372036854775808 ≤ x.n ∧ x.n ≤ 9223372036854775807
 | 0, zs, h, _ => ⟨[], rfl, by have e : zs = [] := List.eq_nil_of_length_eq_zero (by omega); rw [e]; rfl, fun x hx => by cases hx⟩
 | n + 1, a :: b :: c :: zs, h, hw => by
  obtain ⟨l, h1, h2, h3⟩ := cmds_of n zs (by simp at h; omega) (fun z hz => hw z (by simp [hz]));refine ⟨⟨a, b, c⟩ :: l, by rw [List.length_cons, h1], ?_, ?_⟩
  ·rw [List.map_cons, List.map_cons, List.map_cons, h2]
   rfl
  ·intro x hx;rcases List.mem_cons.1 hx with rfl | hx
   ·exact bd_i64 (hw c (by simp))
   ·exact h3 x hx
 | n + 1, [], h, _ => by simp at h
 | n + 1, [_], h, _ => by simp at h; omega
 | n + 1, [_, _], h, _ => by simp at h; omega
set_option maxRecDepth 100000 in
theorem scriptParses_lifted (os : Os) (started : os.Started) (H : Type) (enc : TypeId × Value → H) :
  ReturnsInHanded {} Tryd.checked os 3 .any (fun w args => (Rows.scriptParsesSpec.pre enc Tryd.prog Tryd.f3 [] false w args ∧ laidMetH Tryd.prog laidL w) ∧ sizedMet enc Tryd.prog Tryd.f3 (OpenSpec.ofChange Rows.scriptParsesSpec) false w args)
   (Rows.scriptParsesSpec.post enc Tryd.prog Tryd.f3 false true false false) := by
 refine handed_and_shaped (C := Tryd.checked) (X := fun w _ => laidMetH Tryd.prog laidL w) (fun _ _ _ hh h => h.of_heap hh) own started (by kernel_rfl) Tryd.func3
  (ChangeSpec.witness_shaped (enc := enc) (C := Tryd.checked) (os := os) (X := fun w _ => laidMetH Tryd.prog laidL w) false (World.laidAll Tryd.prog os laidL) #[.string ⟨#[]⟩] 8 (World.laidAll_os _ _ _) (World.shaped_of_ZipB (by kernel_rfl) (by kernel_rfl)) (by kernel_rfl) (by kernel_rfl) (by kernel_rfl) (by rw [MakeChecks.laidMetH_plain _ _ _ (by kernel_rfl)]; exact laidMet_laidAll _ (by kernel_rfl) (by kernel_rfl))) ?_
 intro W base args ds gs before hval0 hW hsh _ hL _;have hval : ∀ (j : Nat) t v, Tryd.f3.params[j]? = some t → args[j]? = some v → Value.okWide Tryd.prog W .any base t v := hval0;have hW' := hW;obtain ⟨p, q, hA0, hV, rfl, hfz, hnd⟩ := hW;have hA : DataW.TrodAll enc Tryd.prog W 0 (fun _ => true) true Tryd.f3.params.toList args.toList ds p := hA0;rw [Tryd.params3] at hA hval;obtain ⟨v0, vs0, d0, ds0, p0, q0, hargs, rfl, rfl, h0, r0⟩ := trodAll_cons hA;obtain ⟨rfl, rfl, rfl⟩ := trodAll_nil r0;obtain rfl : args = #[v0] := by cases args; simp_all
 obtain ⟨rfl, rfl⟩ := trodVars_none hV;obtain ⟨s0, rfl, rfl, rfl, w0⟩ := Go.ChangeMaps.open_string Tryd.underlying9 (hval 0 9 v0 rfl rfl) h0;clear hA0;refine (scriptParses_walk s0 W (by unfold maxLen at w0; omega) (tabs_of_laid hL) (mlen_of_shaped hsh) (scrs_of_laid hL)).mono fun e W' ⟨he, ho⟩ => ?_;subst he;exact ⟨_, rfl, law_post laidOut (by kernel_rfl) rfl (tb := 4) (by kernel_rfl) Tryd.underlying4 hW' rfl rfl rfl (ho.below (Nat.le_refl _) (by simp))⟩
theorem scriptParses_holds : Rows.ScriptParsesSaid :=
 OpenClaim.holds_of_wide 3 Tryd.f3 rfl rfl rfl rfl rfl rfl rfl ⟨rfl, rfl, rfl, rfl, rfl⟩ rfl rfl rfl rfl rfl (by kernel_rfl) Tryd.func3 (by kernel_rfl)
  (of_decide_eq_true (by kernel_rfl)) (by unfold Func.isWrapper; first | (rw [if_pos (by decide +kernel)]; kernel_rfl) | (rw [if_neg (by decide +kernel)]; exact ⟨rfl, rfl⟩))
  (fun os started H enc _ => scriptParses_lifted os started H enc)
set_option maxRecDepth 100000 in
theorem scriptParses_card : Rows.ScriptParsesCardSaid :=
 Claim7.holds_tied_plain_at .later [] [.data, .data, .data, .data, .pinned] true (true, "4af1833e123cc950be75bb447732906c32cf3a57d84fd5af29fe21b9a52faed0") false
  scriptParses_holds (fun _ h => by cases h) (by kernel_rfl) (fun _ h => by cases h) scriptParses_row_tie rfl ⟨rfl, rfl⟩ (by kernel_rfl) rfl
  (fun f fn hf hfn => by
   obtain rfl : f = 3 := Option.some.inj ((show Tryd.prog.funcNamed "deemster/deemsterlaw43.ScriptParses" = some 3 by kernel_rfl).symm.trans hf) |>.symm;obtain rfl : fn = Tryd.f3 := (Option.some.inj (Tryd.func3.symm.trans hfn)).symm;exact ⟨by kernel_rfl, fun j t ht => by
    rw [Tryd.params3] at ht;have hm := Array.mem_of_getElem? ht;have hall : ((Tryd.f3.params).all fun u => !Tryd.prog.wantsStandIn u) = true := by kernel_rfl
    rw [Tryd.params3] at hall;have := Array.all_eq_true'.1 hall t hm
    show Tryd.prog.wantsStandIn t = false
    simpa using this⟩)
  (by kernel_rfl)
end Go.Proofs.YtojpohmijlkagaaDoor
