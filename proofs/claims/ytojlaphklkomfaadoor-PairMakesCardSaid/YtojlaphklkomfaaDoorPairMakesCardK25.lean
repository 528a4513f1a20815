/- Parts. -/
import Derived.Test.YtojlaphklkomfaaDoorPairMakesCardK24
import Derived.Maps.RangeWalk
import Derived.Sort.MapsRangeIn
set_option maxRecDepth 10000
set_option maxHeartbeats 16000000
set_option linter.unusedVariables false
set_option linter.unusedSimpArgs false
namespace Go.Proofs.YtojlaphklkomfaaDoor
open Go.RowKit
open Go.Lib hiding intOf
theorem prow_of_own {w : World} {base : Nat} {e : TypeId} {size n c : Nat} {A : Option Addr} {xs : List Value} (h : w.ownsRow base e size (.slice A n c) n xs) : Row w w.heap.size A xs := by
 obtain ⟨A', c', e1, -, -, -, h3⟩ := own_row h;injection e1 with ea eb ec;subst ea ec;exact h3
theorem pown_some {w : World} {base e size n : Nat} {v : Value} {xs : List Value} (h : w.ownsRow base e size v n xs) (hn : 0 < n) : ∃ g c, v = .slice (some ⟨g, 0, none⟩) n c := by
 obtain ⟨-, ⟨-, h1⟩ | ⟨g, cap, cur, h1, -⟩⟩ := h
 ·omega
 ·exact ⟨g, cap, h1⟩
def opP (p : Pt) : Bool := decide (p.f = 0)
def openL (l : List Ev6) : List ByteArray := if (runM mk0 l).2.2 = 0 then sortB (((runM mk0 l).1.ps.filter opP).map Pt.s) else []
theorem sortB_mem {l m : List ByteArray} (h : ∀ y, y ∈ l ↔ y ∈ m) : sortB l = sortB m :=
 sortB_unique (sortB_names l).1.rise fun y => by rw [(sortB_names l).2 y, h y]
theorem kS_inj {s t : ByteArray} (h : kS s = kS t) : s = t := by
 unfold kS at h;injection h with h;have : s.data = t.data := Array.toList_inj.1 h
 cases s; cases t; simp_all
theorem kS_same (s t : ByteArray) : (kS s).sameKey (kS t) = decide (s = t) := by
 by_cases h : s = t
 ·subst h;rw [decide_eq_true rfl];exact WideAt.sameKey_self (show WideAt.IsKeyLit (kS s) from by unfold kS; trivial)
 ·rw [decide_eq_false h];exact Maps.sameKey_ne (fun e => h (kS_inj e))
theorem run_12 : ∀ (l : List Ev6) (m : Mk), (runM m l).2.2 ≠ 12
 | [], m => by show (0 : Int) ≠ 12; decide
 | a :: l, m => by
  by_cases h : takeE m a = 0
  ·rw [run_step h]; exact run_12 l _
  ·rw [run_stop h];rcases takeE_cases m a with e | e | e | e | e
   ·exact absurd e h
   all_goals (show takeE m a ≠ 12; rw [e]; decide)
theorem follow_12 {l : List Ev6} (h : (followR l).2.2 = 12) : (runM mk0 l).2.2 = 0 ∧ (followR l).1 = (runM mk0 l).1 := by
 unfold followR at h ⊢
 split at h
 ·rename_i h0
  exact ⟨h0, by rw [if_pos h0]⟩
 ·exact absurd h (run_12 l mk0)
theorem follow_no {l : List Ev6} (h : (followR l).2.2 ≠ 12) : openL l = [] := by
 unfold openL
 split
 ·rename_i h0
  unfold followR at h;rw [if_pos h0] at h;have : (runM mk0 l).1.ps.filter opP = [] := by
   rw [List.filter_eq_nil_iff];intro p hp ho;unfold opP at ho;unfold endE at h
   cases hf : (runM mk0 l).1.ps.find? (fun p => decide (p.f = 0)) with
   | some q => rw [hf] at h; exact h rfl
   | none =>
    have := List.find?_eq_none.1 hf p hp;exact this ho
  rw [this]
  rfl
 ·rfl
structure MetO (D : DataW Unit) (left : Lit → Bool) (P : List ByteArray) : Prop where
 left : ∀ s, left (kS s) = (Maps.has D (kS s) && !(P.any fun t => decide (t = s)))
 has : ∀ s ∈ P, Maps.has D (kS s) = true
theorem MetO.start (D : DataW Unit) : MetO D (Maps.has D) [] := ⟨fun s => by simp, fun s hs => by cases hs⟩
theorem MetO.step {D : DataW Unit} {left : Lit → Bool} {P : List ByteArray} {t : ByteArray} (h : MetO D left P) (ht : left (kS t) = true) : MetO D (fun z => left z && !z.sameKey (kS t)) (P ++ [t]) where
 left := fun s => by
  show (left (kS s) && !(kS s).sameKey (kS t)) = _
  rw [h.left, kS_same, Bool.and_assoc]
  congr 1
  rw [List.any_append, List.any_cons, List.any_nil, Bool.or_false, Bool.not_or]
  congr 2
  exact decide_eq_decide.2 ⟨fun e => e.symm, fun e => e.symm⟩
 has := fun s hs => by
  rcases List.mem_append.1 hs with h1 | h1
  ·exact h.has s h1
  ·rw [List.mem_singleton.1 h1];rw [h.left, Bool.and_eq_true] at ht;exact ht.1
theorem has_open {D : DataW Unit} {ps : List Pt} (ho : Opens D ps) (s : ByteArray) : Maps.has D (kS s) = true ↔ ∃ p ∈ ps, p.s = s ∧ p.f = 0 := by
 cases hi : openI ps s with
 | none =>
  rw [ho.none_ s hi];exact ⟨fun h => by (cases h), fun ⟨p, hp, h⟩ => absurd h (open_none hi p hp)⟩
 | some i =>
  obtain ⟨p, hp, h1, h2⟩ := open_some hi;exact ⟨fun _ => ⟨p, List.mem_of_getElem? hp, h1, h2⟩, fun _ => (ho.there s i hi).1⟩
theorem MetO.all {D : DataW Unit} {left : Lit → Bool} {P : List ByteArray} {ps : List Pt} (h : MetO D left P) (ho : Opens D ps) (hl : ∀ kl, left kl = false) : sortB P = sortB ((ps.filter opP).map Pt.s) :=
 sortB_mem fun s => by
  have h1 := h.left s;rw [hl] at h1;rw [List.mem_map]
  constructor
  ·intro hs;obtain ⟨p, hp, e1, e2⟩ := (has_open ho s).1 (h.has s hs);exact ⟨p, List.mem_filter.2 ⟨hp, by unfold opP; rw [decide_eq_true e2]⟩, e1⟩
  ·rintro ⟨p, hp, rfl⟩;obtain ⟨h2, h3⟩ := List.mem_filter.1 hp;have h4 := (has_open ho p.s).2 ⟨p, h2, rfl, by unfold opP at h3; simpa using h3⟩;rw [h4, Bool.true_and] at h1;have h5 : (P.any fun t => decide (t = p.s)) = true := by
    cases hh : P.any fun t => decide (t = p.s)
    ·rw [hh] at h1; cases h1
    ·rfl
   obtain ⟨t, ht, e⟩ := List.any_eq_true.1 h5;rw [← of_decide_eq_true e];exact ht
end Go.Proofs.YtojlaphklkomfaaDoor
namespace Go.Proofs.YtojlaphklkomfaaDoor
open Go.RowKit
section
variable {H : Type} {P : Program} {w w' : World} {k : TypeId} {R : Value → Option (DataW H × List MemPlace)} {b n r : Nat} {D : DataW H} {S : List Nat}
theorem ownsMap_blk (h : w.ownsMap P k R b n D) {g : Nat} {t : TypeId} {cs : Array Value} (hb : Blk w g t cs) : g ≠ b := by
 rintro rfl;obtain ⟨es, clock, h1, -⟩ := h;rw [show w.heap[g]? = _ from hb] at h1
 cases h1
theorem ownsMap_own (h : w.ownsMap P k R b n D) {base : Nat} {t : TypeId} {sz m : Nat} {v : Value} {xs : List Value} (hr : w.ownsRow base t sz v m xs) : b ∉ v.ownBlock.toList := by
 intro hm
 cases hv : v.ownBlock with
 | none => rw [hv] at hm; cases hm
 | some g =>
  rw [hv] at hm;obtain ⟨cur, hb⟩ := own_blk hr hv;have := ownsMap_blk h hb;simp at hm;omega
variable {left : Lit → Bool} {cnt : Nat}
theorem ranges_lt (h : w.ranges P k R b r n D left cnt) : b < w.heap.size ∧ r < w.heap.size := by
 obtain ⟨es, clock, since, seen, c0, h1, -, -, -, h5, -⟩ := h;exact ⟨(Array.getElem?_eq_some_iff.1 h1).1, (Array.getElem?_eq_some_iff.1 h5).1⟩
theorem ranges_only (h : w.ranges P k R b r n D left cnt) (ho : Only S w w') (hb : b ∉ S) (hr : r ∉ S) : w'.ranges P k R b r n D left cnt := by
 have hlt := ranges_lt h;obtain ⟨es, clock, since, seen, c0, h1, h2, h3, h4, h5, h6⟩ := h;exact ⟨es, clock, since, seen, c0, (ho.keeps b hlt.1 hb).trans h1, h2, h3, h4, (ho.keeps r hlt.2 hr).trans h5, h6⟩
theorem ranges_blk (h : w.ranges P k R b r n D left cnt) {g : Nat} {t : TypeId} {cs : Array Value} (hb : Blk w g t cs) : g ≠ b ∧ g ≠ r := by
 refine ⟨ownsMap_blk h.owns hb, ?_⟩;rintro rfl;obtain ⟨es, clock, since, seen, c0, h1, -, -, -, h5, -⟩ := h;rw [show w.heap[g]? = _ from hb] at h5
 cases h5
theorem ranges_own (h : w.ranges P k R b r n D left cnt) {base : Nat} {t : TypeId} {sz m : Nat} {v : Value} {xs : List Value} (hr : w.ownsRow base t sz v m xs) : b ∉ v.ownBlock.toList ∧ r ∉ v.ownBlock.toList := by
 refine ⟨ownsMap_own h.owns hr, fun hm => ?_⟩
 cases hv : v.ownBlock with
 | none => rw [hv] at hm; cases hm
 | some g =>
  rw [hv] at hm;obtain ⟨cur, hb⟩ := own_blk hr hv;have := (ranges_blk h hb).2;simp at hm;omega
end
open Go.Lib hiding intOf
attribute [local go_sem ↓] Go.wp_at_zero Go.wp_at_succ
theorem pinfo_string : (Tryd.prog.info? 9).map (fun i => (i.zero, i.size, i.bytes)) = some (some (.string ⟨#[]⟩), 1, 16) := by kernel_rfl
set_option maxRecDepth 100000 in
theorem popen_any (A : Option Addr) (n c : Nat) (l : List Ev6) (w : World) (hn : l.length = n) (hnm : n ≤ 100000) (hA : Row w w.heap.size A (logC l)) (hz : ∀ x ∈ l, x.s.size ≤ 65537 ∧ x.y.size ≤ 65537) (hT : UTabs w) (hV : Verbs w) :
  Calls Tryd.prog 11 #[.slice A n c] w fun e w' => ∃ A' m c', (e = .returned (.slice A' m c') ∧ (openL l).length = m ∧ Row w' w'.heap.size A' (strs (openL l))) ∧ Only [] w w' := by
 have HF := Hd (follow_any A n c l w hn hnm hA hz hT hV);have HT := Hd (fun w' (O : Only [] w w') => hT.only O);obtain ⟨R, hR⟩ : ∃ R, R = openL l := ⟨_, rfl⟩;rw [← hR];obtain ⟨ln, hln⟩ : ∃ ln, ln = (followR l).2.1 := ⟨_, rfl⟩;obtain ⟨er, her⟩ : ∃ er, er = (followR l).2.2 := ⟨_, rfl⟩;rw [← hln, ← her] at HF;have HNO : Hid (er ≠ 12 → R = []) := Hd (fun h => by rw [hR]; exact follow_no (by rw [← her]; exact h));have HYE : Hid (er = 12 → R = sortB (((followR l).1.ps.filter opP).map Pt.s)) := Hd (fun h => by
  obtain ⟨h1, h2⟩ := follow_12 (l := l) (by rw [← her]; exact h);rw [hR, openL, if_pos h1, h2])
 obtain ⟨i0, hi, hz0, hz1, hz2⟩ := info_parts pinfo_string;clear hn hnm hA hz hT hV hR hln her;go_enter Tryd.func11, Tryd.ntmps11;go_wp2_with fail
 refine (HF.out).mono ?_;rintro e w2 ⟨gm, rfl, O2, hM⟩;have HO2 := Hd O2;clear O2 HF
 by_cases he : er = 12
 ·subst he;obtain ⟨V, xs, A0, A1, c0, c1, b, D, hMk, hMB⟩ := hM (.inr rfl);have HR := Hd (HYE.out rfl);have HMK := Hd hMk;have HMB := Hd hMB;obtain ⟨M, hMM⟩ : ∃ M, M = (followR l).1 := ⟨_, rfl⟩;rw [← hMM] at HR HMK HMB;clear hM hMk hMB HYE HNO hMM;have b3 := HMK.out.blk.at_ 3;have lb := HMK.out.blk.lt;simp at b3;go_upto_region 5 with (fail)
  go_wp2_with (at_range; refine wpList_range_own _ rfl _ 65 rfl 9 3 law_str Tryd.underlying65 (plainElem Tryd.prog 3) b M.ps.length D rfl HMK.out.map ?_; intro w3 hrg3 hg3 hs3)
  go_frame
  have O3 := Only.of_grown (S := []) hg3 (fun x hx => by cases hx);have HO3 := Hd O3;have HRG := Hd hrg3;have hsz0 : Maps.size D ≤ M.ps.length := HMK.out.map.size_le;have hps := HMB.out.np;obtain ⟨r, hr⟩ : ∃ r, r = w2.heap.size := ⟨_, rfl⟩;rw [← hr] at HRG ⊢;have hr3 : r < w3.heap.size := by omega
  have HR2 : Hid (r = w2.heap.size) := Hd hr;clear hrg3 hg3 hs3 hr O3 b3 lb
  go_loopw [6] (fun nv wr => ∃ (left : Lit → Bool) (cnt : Nat) (P : List ByteArray) (A : Option Addr) (c : Nat), nv = .slice A P.length c ∧ Hid (wr.ranges Tryd.prog 9 (plainElem Tryd.prog 3) b r M.ps.length D left cnt) ∧ Hid (MetO D left P) ∧ P.length + cnt ≤ M.ps.length ∧ Hid (∀ s ∈ P, s.size ≤ 9223372036854775807) ∧ Hid (wr.ownsRow (r + 1) 9 1 (.slice A P.length c) P.length (strs P)) ∧ Hid (Only [] w2 wr)) (fun _ wr => wr.rangeLeft b r)
  case atStart => exact ⟨_, _, [], none, 0, rfl, HRG, Hd (MetO.start D), by simpa using hsz0, Hd (fun s hs => by cases hs), Hd (World.ownsRow_nil _ _ _ _), HO3⟩
  case round =>
   obtain ⟨left, cnt, P, A, c, rfl, hrg, hmet, hcs, hsz, hV, hO⟩ := hrel;clear HRG HO3 hsz0;go_wp2_with (at_next; refine wpList_next_ranges _ rfl _ rfl 9 law_str (plainElem Tryd.prog 3) Value.string (Value.int .i64) (fun key kl hk => by obtain ⟨x, hx, -, -⟩ := Go.WideMaps.string_of_keyOf Tryd.underlying9 hk; exact ⟨x, hx⟩) (fun v y hv => by obtain ⟨c, rfl, _⟩ := plainElem_int_inv Tryd.underlying3 hv; exact ⟨c, rfl⟩) b r M.ps.length D left cnt rfl hrg.out ?_ ?_)
   ·intro hc0 hl0;have HS : Hid (sortB P = R) := Hd (by rw [HR.out]; exact hmet.out.all HMK.out.opens hl0);have HMA := Hd (make_new A P.length c wr.heap.size P wr rfl (by omega) hsz.out (prow_of_own hV.out) (HT.out _ (HO2.out.trans hO.out)));rw [HS.out] at HMA;have HOF := Hd (HO2.out.trans hO.out);clear hrg hmet hl0 hV hO hsz;go_wp2_with fail
    refine (HMA.out).mono ?_;rintro e w5 ⟨O5, A5, m5, c5, rfl, h5, hr5, -⟩;have HO5 := Hd (HOF.out.trans O5);have HR5 := Hd (And.intro h5 hr5);clear O5 h5 hr5;go_wp2
    go_ret
    exact ⟨A5, m5, c5, ⟨rfl, HR5.out.1, HR5.out.2⟩, HO5.out⟩
   ·intro x cc kl y1 y2 w4 cnt2 hkx hlk hyv hat hrg4 hlt4 hg4 hs4 hen;obtain ⟨x', ex, rfl, hxs⟩ := Go.WideMaps.string_of_keyOf Tryd.underlying9 hkx;injection ex with ex;subst ex;have hlk2 : left (kS x) = true := hlk;have hhas : Maps.has D (kS x) = true := by
     have := hmet.out.left x;rw [hlk2] at this
     cases hh : Maps.has D (kS x)
     ·rw [hh] at this; cases this
     ·rfl
    obtain ⟨i, hoi⟩ : ∃ i, openI M.ps x = some i := by
     cases hoi : openI M.ps x with
     | none => rw [HMK.out.opens.none_ x hoi] at hhas; cases hhas
     | some i => exact ⟨i, rfl⟩
    obtain ⟨p, hp, hps1, hps2⟩ := open_some hoi;have hcc : cc = (i : Int) := by
     have h1 := (hat (.lit (.int .i64 0))).symm.trans ((HMK.out.opens.there x i hoi).2 _);obtain ⟨c', ec, e2, -⟩ := plainElem_int_inv Tryd.underlying3 hyv;injection ec with _ ec;subst ec;injection e2 with e3 e4;rw [e3] at h1;injection h1 with h1;injection h1
    subst hcc;obtain ⟨xa, hxa, hxp⟩ : ∃ xa, xs[i]? = some xa ∧ xa.p = p := by
     have := hp;rw [← HMK.out.parts, List.getElem?_map] at this
     cases hx : xs[i]? with
     | none => rw [hx] at this; cases this
     | some q => rw [hx] at this; exact ⟨q, rfl, Option.some.inj this⟩
    have hil : i < M.ps.length := (List.getElem?_eq_some_iff.1 hp).1;have O4 : Only [r] wr w4 := Only.of_grown hg4 (fun x hx _ => by cases hx; simp);have HO4 := Hd (hO.out.step O4 (fun x hx hl => by simp at hx; have := HR2.out; omega));have HV4 := Hd (own_only hV.out O4 (fun g hg hm => by simp at hm; have := (hV.out.lt g hg).1; omega));have HMT := Hd (hmet.out.step hlk2);have HRG4 := Hd hrg4;have hr4 := (ranges_lt hrg4).2;have HLE := Hd (hrg.out.left_eq);have HSZ : Hid (∀ s ∈ P ++ [x], s.size ≤ 9223372036854775807) := Hd (fun s hs => by
     rcases List.mem_append.1 hs with h1 | h1
     ·exact hsz.out s h1
     ·rw [List.mem_singleton.1 h1]; unfold maxLen at hxs; omega)
    have HM4 := HMK.out.same HO4.out;obtain ⟨gv, cv, ev⟩ := pown_some HM4.row (by omega);subst ev;have b0 := HM4.blk.at_ 0;have lb := HM4.blk.lt;have e0 := (own_cell HM4.row (g := gv) rfl (j := i * 5 + 0) (u := .string x) (by rw [ptC_get xs i xa hxa 0 (by omega)]; unfold PtA.c5; rw [hxp, hps1]; rfl)).1;rw [Nat.add_zero] at e0;have lv : gv < w4.heap.size := own_lt HM4.row (by simp [Value.ownBlock]);simp at b0;have h01 : (i : Int) < (M.ps.length : Int) := by omega
    have hi0 : (0 : Int) ≤ (i : Int) := Int.natCast_nonneg _;clear hmet O4 hrg hrg4 hO hV hat hyv hhas hoi hp hps1 hps2 hxa hxp hkx hlk hg4 hs4 hsz;go_wp2_with (
     at_builtin
     refine wpList_append_row _ rfl (.tmp 26) (.tmp 35) _ rfl (r + 1) 9 i0 _ 1 16 Tryd.underlying24 hi hz0 hz1 hz2 rfl (by omega) (.slice A P.length c) P.length (strs P) rfl (own_only HV4.out ((Only.refl [] _).alloc _) (by simp)) (w4.heap.size + 1) (some ⟨w4.heap.size, 0, none⟩) 1 1 [.string x] rfl rfl (row_lit w4 9 #[.string x]) (by intro u hu; simp at hu; subst hu; rfl) (by unfold maxLen; omega) (by omega) (by simp; omega) ?_;intro v7 w7 hown7 hgrow7 hat7;obtain ⟨A7, c7, rfl, -, -, -, -⟩ := own_row hown7;have OA := (Only.refl [] w4).alloc (.cells #[.string x] 9);have OG := only_grown hgrow7;have hAA := own_only HV4.out OA (by simp);have HV7 : Hid (w7.ownsRow (r + 1) 9 1 (.slice A7 (P ++ [x]).length c7) (P ++ [x]).length (strs (P ++ [x]))) := Hd (by
      have e : strs (P ++ [x]) = strs P ++ [.string x] := by simp [strs]
      rw [e, List.length_append];exact hown7)
     have O47 : Only (Value.slice A P.length c).ownBlock.toList w4 w7 := ((Only.refl _ w4).alloc _).step OG (fun i hi hl => hi);have HO7 := Hd (HO4.out.step O47 (fun i hi hl => by have := (HV4.out.lt i (by simpa using hi)).1; have := HR2.out; omega));have HL8 := Hd ((ranges_only HRG4.out O47 (ranges_own HRG4.out HV4.out).1 (ranges_own HRG4.out HV4.out).2).left_eq);have HRG7 := Hd (ranges_only HRG4.out O47 (ranges_own HRG4.out HV4.out).1 (ranges_own HRG4.out HV4.out).2);clear hown7 hgrow7 hat7 OA OG hAA O47)
    go_roundw
    case rel => exact ⟨_, cnt2, P ++ [x], A7, c7, by simp, HRG7, HMT, by simp; omega, HSZ, HV7, HO7⟩
    case measure => rw [HL8.out, HLE.out]; exact hlt4
 ·have HE := Hd (HNO.out he);have hb : (er != 12) = true := by simpa using he
  clear hM;go_wp2
  go_ret
  rw [HE.out];exact ⟨none, 0, 0, ⟨rfl, rfl, .nil⟩, HO2.out⟩
end Go.Proofs.YtojlaphklkomfaaDoor
