/- Parts. -/
import Derived.Test.YtlnlppabeddclaaDoorLaw23AllK31
import Derived.Test.YtlnlppabeddclaaDoorLaw23AllK32
import Derived.Maps.OwnOps
set_option maxRecDepth 10000
set_option maxHeartbeats 16000000
set_option linter.unusedVariables false
set_option linter.unusedSimpArgs false
namespace Go.Proofs.YtlnlppabeddclaaDoor
open Go.RowKit
attribute [local go_sem ↓] Go.wp_at_zero Go.wp_at_succ
def badR (l : List (Int × Int)) (xs : List Int) (i : Nat) : Bool := decide (xs.getD i 0 ∈ xs.take i) || (decide (xs.getD i 0 < xs.getD 0 0) || !decide ((xs.getD i 0, xs.getD ((i + 1) % xs.length) 0) ∈ l))
def isRing (n : Int) (xs : List Int) (l : List (Int × Int)) : Bool := mayL n l && (!decide (xs = []) && (List.range xs.length).all fun i => !badR l xs i)
theorem ring_nodup {xs : List Int} (h : ∀ i, i < xs.length → xs.getD i 0 ∉ xs.take i) : xs.Nodup := by
 refine List.pairwise_iff_getElem.2 fun i j hi hj hij e => h j hj ?_;rw [List.getD_eq_getElem?_getD, List.getElem?_eq_getElem hj, Option.getD_some, ← e];exact List.mem_take_iff_getElem.2 ⟨i, by omega, rfl⟩
theorem isRing_len {q : Nat} {xs : List Int} {l : List (Int × Int)} (h : isRing (q : Int) xs l = true) : xs.length ≤ q := by
 unfold isRing at h;rw [Bool.and_eq_true, Bool.and_eq_true, List.all_eq_true] at h;obtain ⟨h1, -, h3⟩ := h;obtain ⟨q', hq', -, wf, -⟩ := may_wf h1;obtain rfl : q = q' := by omega
 have hb : ∀ i, i < xs.length → xs.getD i 0 ∉ xs.take i ∧ (xs.getD i 0, xs.getD ((i + 1) % xs.length) 0) ∈ l := fun i hi => by
  have := h3 i (List.mem_range.2 hi);unfold badR at this;simp at this;exact ⟨by simpa using this.1, by simpa using this.2.2⟩
 have hlt : ∀ x ∈ xs, 0 ≤ x ∧ x < (q : Int) := fun x hx => by
  obtain ⟨i, hi, rfl⟩ := List.getElem_of_mem hx;obtain ⟨a, b, e, ha, -⟩ := wf _ (hb i hi).2;injection e with e1 e2;rw [List.getD_eq_getElem?_getD, List.getElem?_eq_getElem hi, Option.getD_some] at e1;omega
 have hn := ring_nodup fun i hi => (hb i hi).1;have hd : (xs.map Int.toNat).Nodup := by
  refine List.pairwise_map.2 (List.Pairwise.imp_of_mem (fun {a b} ha hb hne e => hne ?_) hn);have := hlt a ha;have := hlt b hb;omega
 have := nodup_len23 (n := q) hd (fun y hy => by
  obtain ⟨x, hx, rfl⟩ := List.mem_map.1 hy;have := hlt x hx;omega)
 simpa using this
theorem law_int23 : Go.Maps.Keyed Tryd.prog 3 := Go.Maps.int_keyed Tryd.underlying3
theorem zero_unit23 (w : World) : (zeroValue 50).run Tryd.prog w = .ok (.agg #[]) w := by kernel_rfl
def HasI (D : DataW Unit) (P : List Int) : Prop := ∀ x : Int, Maps.has D (.int .i64 x) = decide (x ∈ P)
theorem HasI.nil : HasI (.map []) [] := fun x => by simp [Maps.has]
theorem HasI.put {D : DataW Unit} {P : List Int} (h : HasI D P) (hD : Maps.IsMap D) (z : Int) (d : DataW Unit) : HasI (D.put (.int .i64 z) d) (P ++ [z]) := fun x => by
 by_cases e : z = x
 ·subst e;rw [Maps.has_put_same hD (by trivial : WideAt.IsKeyLit (.int .i64 z))];simp
 ·rw [Maps.has_put_other (by intro q; cases q; exact e rfl), h x];simp [Ne.symm e]
theorem ris23_in (q : Nat) (A Ax : Option Addr) (m c mx cx : Nat) (l : List (Int × Int)) (xs : List Int) (w : World) (hq : q ≤ 500) (hr : Row w w.heap.size A (edgeC l)) (hl : l.length = m) (hm : m ≤ 1000) (hgd : l.all (goodE q) = true)
  (hx : Row w w.heap.size Ax (xs.map (Value.int .i64))) (hxl : xs.length = mx) (hmx : mx ≤ 1000) (hwf : ∀ x ∈ xs, (Lit.int .i64 x).wf = true) :
  Calls Tryd.prog 14 #[.int .i64 (q : Int), .slice Ax mx cx, .slice A m c] w fun e w' => e = .returned (.bool (isRing (q : Int) xs l)) ∧ Only [] w w' := by
 have HG := Hd (gof_any q A m c l w hq hr hl hm);have hs : ∀ e, e ∈ (ofS q l).2.2 ↔ e ∈ l := fun e => by rw [(rel_of hq l).2]; exact mem_rof hgd e
 have HHX : Hid (∀ (w1 : World) (fp : List Nat) (a b : Int) (hGr : Gr w1 w.heap.size q (ofS q l).1 (ofS q l).2.1 (ofS q l).2.2 fp), Calls Tryd.prog 26 #[.pointer (some ⟨w.heap.size, 0, none⟩), .int .i64 a, .int .i64 b] w1 fun e w' => e = .returned (.bool (decide ((a, b) ∈ l))) ∧ w1 = w') := Hd (fun w1 fp a b hGr => by
  have := ghas_any w.heap.size q (ofS q l).1 (ofS q l).2.1 (ofS q l).2.2 fp a b w1 hGr;have e : decide ((a, b) ∈ (ofS q l).2.2) = decide ((a, b) ∈ l) := decide_eq_decide.2 (hs (a, b));rw [rel_has (rel_of hq l).1 hq a b, e] at this;exact this)
 obtain ⟨R, hR⟩ : ∃ R, R = isRing (q : Int) xs l := ⟨_, rfl⟩;rw [← hR];have HL := Hd (fun h : R = true => isRing_len (hR ▸ h));have hmy : mayL (q : Int) l = true := by unfold mayL; rw [decide_eq_true (by omega), Bool.true_and, Int.toNat_natCast]; exact hgd
 have HR : Hid (R = (!decide (xs = []) && (List.range xs.length).all fun i => !badR l xs i)) := Hd (by rw [hR]; unfold isRing; rw [hmy, Bool.true_and]);have HGD := Hd hgd;have HX := Hd hx;have HXL := Hd hxl;have HWF := Hd hwf;have hmm := @run_makeMap Tryd.prog;clear hs hR hmy hgd hr hl hx hxl hwf;go_enter Tryd.func14, Tryd.ntmps14;go_wp2_with fail
 refine (HG.out).mono ?_;rintro e w1 ⟨O1, ⟨hgd, -⟩ | ⟨-, rfl, fp, hGr, hfp⟩⟩
 ·rw [HGD.out] at hgd
  cases hgd
 have HO1 := Hd O1;have HHX1 := Hd (fun (W : World) (O : Only [] w1 W) (a b : Int) => HHX.out W fp a b (hGr.only O (by simp)));have HX1 := Hd (row_up (HX.out.only O1 (by simp)));clear HG hGr hfp O1 HGD HHX HX
 by_cases h0 : mx = 0
 ·subst h0;have HF : Hid (R = false) := Hd (by rw [HR.out, List.length_eq_zero_iff.1 HXL.out]; rfl);clear HR HL HHX1 HX1;go_wp2
  go_ret
  exact ⟨by rw [HF.out]; rfl, HO1.out⟩
 by_cases h1 : q < mx
 ·have HF : Hid (R = false) := Hd (by
   cases hR : R with
   | false => rfl
   | true => have := HL.out hR; rw [HXL.out] at this; omega)
  have g0 : ¬ (mx : Int) = 0 := by omega
  have g1 : (q : Int) < (mx : Int) := by omega
  clear HR HL HHX1 HX1;go_wp2
  go_ret
  exact ⟨by rw [HF.out]; rfl, HO1.out⟩
 have g0 : ¬ (mx : Int) = 0 := by omega
 have g1 : ¬ (q : Int) < (mx : Int) := by omega
 have g2 : ((mx : Int) == 0) = false := by simp; omega
 have HRA : Hid (R = (List.range xs.length).all fun i => !badR l xs i) := Hd (by
  rw [HR.out, decide_eq_false (fun e => by rw [e] at HXL; exact h0 HXL.out.symm)]
  rfl)
 clear HR HL;go_upto_region 5 with (fail)
 have HM0 : Hid ((w1.alloc (.map #[] 0)).ownsMap Tryd.prog 3 (unitElem (H := Unit)) w1.heap.size 0 (.map [])) := Hd (World.ownsMap_made (H := Unit) w1 Tryd.prog 3 unitElem);have HO2 := Hd ((Only.refl [] w1).alloc (.map #[] 0));clear hmm;generalize (w1.alloc (.map #[] 0)) = w2 at *;obtain ⟨gm, hgm⟩ : ∃ gm, gm = w1.heap.size := ⟨_, rfl⟩;rw [← hgm] at HM0 ⊢;have HGM : Hid (∀ W W', Only [] w1 W → Only [gm] W W' → Only [] w1 W') := Hd (fun W W' h h' => h.step h' (fun i hi hl => by simp at hi; omega));clear hgm;go_wp2_with fail
 go_loopw [36] (fun iv wr => ∃ (k : Nat) (D : DataW Unit), iv = .int .i64 (k : Int) ∧ k ≤ mx ∧ Hid (wr.ownsMap Tryd.prog 3 (unitElem (H := Unit)) gm k D) ∧ Hid (HasI D (xs.take k)) ∧ Hid (∀ i, i < k → badR l xs i = false) ∧ Hid (Only [] w1 wr)) (fun iv _ => mx - (intOf iv).toNat)
 case atStart => exact ⟨0, .map [], rfl, by omega, HM0, Hd HasI.nil, Hd (fun i hi => by omega), HO2⟩
 case round =>
  obtain ⟨k, D, rfl, hk, hM, hH, hB, hO⟩ := hrel;clear HM0 HO2
  by_cases hlt : k < mx
  ·have h01 : (k : Int) < (mx : Int) := by omega
   have hk0 : (0 : Int) ≤ (k : Int) := Int.natCast_nonneg _;have hwk : IntKind.i64.wrap ((k : Int) + 1) = (k : Int) + 1 := IntWalk.i64_in _ (by omega);obtain ⟨j, hj⟩ : ∃ j, j = (k + 1) % mx := ⟨_, rfl⟩;have hjm : j < mx := by rw [hj]; exact Nat.mod_lt _ (by omega)
   have hrem : Int.tmod ((k : Int) + 1) (mx : Int) = (j : Int) := by
    have e : (((k + 1) % mx : Nat) : Int) = ((k : Int) + 1) % (mx : Int) := by simp
    rw [Int.tmod_eq_emod_of_nonneg (by omega), hj, e]
   have hj0 : (0 : Int) ≤ (j : Int) := Int.natCast_nonneg _;have hjm2 : (j : Int) < (mx : Int) := by omega
   have hm2 : (0 : Int) < (mx : Int) := by omega
   obtain ⟨x, hx⟩ : ∃ x, xs[k]? = some x := ⟨_, List.getElem?_eq_getElem (by rw [HXL.out]; exact hlt)⟩;obtain ⟨x0, hx0⟩ : ∃ x0, xs[0]? = some x0 := ⟨_, List.getElem?_eq_getElem (by rw [HXL.out]; omega)⟩;obtain ⟨y, hy⟩ : ∃ y, xs[j]? = some y := ⟨_, List.getElem?_eq_getElem (by rw [HXL.out]; exact hjm)⟩;have HBE : Hid (badR l xs k = (decide (x ∈ xs.take k) || (decide (x < x0) || !decide ((x, y) ∈ l)))) := Hd (by
    unfold badR;rw [List.getD_eq_getElem?_getD, List.getD_eq_getElem?_getD, List.getD_eq_getElem?_getD, HXL.out, ← hj, hx, hx0, hy]
    rfl)
   have HTK : Hid (xs.take (k + 1) = xs.take k ++ [x]) := Hd (by rw [List.take_add_one, hx]; rfl);obtain ⟨bx, ox, rfl, -, hbx, hcell⟩ := HX1.out.open_ (k := k) (by rw [List.length_map, HXL.out]; exact hlt);have HCX : Hid (∀ W, Only [] w1 W → W.cell? ⟨bx, ox + k, none⟩ = some (.int .i64 x) ∧ W.cell? ⟨bx, ox, none⟩ = some (.int .i64 x0) ∧ W.cell? ⟨bx, ox + j, none⟩ = some (.int .i64 y) ∧ bx < W.heap.size) := Hd (fun W O => by
    refine ⟨?_, ?_, ?_, Nat.lt_of_lt_of_le hbx O.size⟩
    ·rw [O.cell (p := ⟨bx, ox + k, none⟩) hbx (by simp)]; exact hcell k _ (by rw [List.getElem?_map, hx]; rfl)
    ·rw [O.cell (p := ⟨bx, ox, none⟩) hbx (by simp)]; exact hcell 0 _ (by rw [List.getElem?_map, hx0]; rfl)
    ·rw [O.cell (p := ⟨bx, ox + j, none⟩) hbx (by simp)]; exact hcell j _ (by rw [List.getElem?_map, hy]; rfl))
   have hkey := Maps.keyOf_int_mk Tryd.underlying3 (HWF.out x (List.mem_of_getElem? hx));have HHW := Hd (hH.out x);clear hcell hx hx0 hy hj;have HBAD : Hid (badR l xs k = true → R = false) := Hd (fun h => by
    rw [HRA.out];refine Bool.eq_false_iff.2 fun h2 => ?_;have := List.all_eq_true.1 h2 k (List.mem_range.2 (by rw [HXL.out]; exact hlt));rw [h] at this
    cases this)
   have e0 := (HCX.out wr hO.out).1;have hbr := (HCX.out wr hO.out).2.2.2;have OA : Only [] wr (wr.alloc (.cells #[] 50)) := (Only.refl [] wr).alloc _;have HM3 := Hd (ownsMap_only hM.out OA (by simp));have HO3 := Hd (hO.out.trans OA);clear OA
   by_cases hin : x ∈ xs.take k
   ·have HHT : Hid (Maps.has D (.int .i64 x) = true) := Hd (by rw [HHW.out, decide_eq_true hin]);have HF := Hd (HBAD.out (by rw [HBE.out, decide_eq_true hin, Bool.true_or]));go_wp2_with (first
     | (at_lookup; refine wpList_lookup_own_unit _ rfl _ _ 49 rfl 3 50 law_int23 Tryd.underlying49 (zero_unit23 _) gm k D rfl hM.out _ _ rfl hkey ?_; rw [HHT.out])
     | fail)
    go_ret
    exact ⟨by rw [HF.out]; rfl, HO1.out.trans HO3.out⟩
   ·have HHT : Hid (Maps.has D (.int .i64 x) = false) := Hd (by rw [HHW.out, decide_eq_false hin]);rw [decide_eq_false hin, Bool.false_or] at HBE;go_upto_region 9 with (first
     | (at_lookup; refine wpList_lookup_own_unit _ rfl _ _ 49 rfl 3 50 law_int23 Tryd.underlying49 (zero_unit23 _) gm k D rfl hM.out _ _ rfl hkey ?_; rw [HHT.out])
     | fail)
    generalize (wr.alloc (.cells #[] 50)) = w3 at *;obtain ⟨e1, e2, e3, hb3⟩ := HCX.out w3 HO3.out;clear e0 hbr
    by_cases hlx : x < x0
    ·have HF := Hd (HBAD.out (by rw [HBE.out, decide_eq_true hlx, Bool.true_or]));clear HBE hM hO hB;go_wp2
     go_ret
     exact ⟨by rw [HF.out]; rfl, HO1.out.trans HO3.out⟩
    ·rw [decide_eq_false hlx, Bool.false_or] at HBE;have HHS := Hd (HHX1.out w3 HO3.out x y)
     by_cases hed : (x, y) ∈ l
     ·rw [decide_eq_true hed] at HHS HBE;have HBN : Hid (∀ i, i < k + 1 → badR l xs i = false) := Hd (fun i hi => by
       rcases Nat.lt_or_ge i k with h | h
       ·exact hB.out i h
       ·obtain rfl : i = k := by omega
        exact HBE.out)
      have HHN : Hid (HasI (D.put (.int .i64 x) (.agg [])) (xs.take (k + 1))) := Hd (by rw [HTK.out]; exact hH.out.put HM3.out.isMap x _);clear HBE hM hO hB hH;go_wp2_with fail
      refine (HHS.out).mono ?_;rintro e w4 ⟨rfl, rfl⟩;go_wp2_with (first
       | (at_mapUpdate; refine wpList_mapUpdate_own _ rfl _ _ _ 49 rfl 3 50 law_int23 Tryd.underlying49 (unitElem (H := Unit)) gm k D rfl HM3.out (by unfold maxLen; omega) _ _ _ rfl rfl hkey _ [] unitElem_mk ?_; intro w5 hown5 hgrow5)
       | fail)
      have HO5 := Hd (HGM.out _ _ HO3.out (Only.of_grown hgrow5 (fun g hg _ => by injection hg with hg; simp [hg])));go_roundw
      case rel => exact ⟨k + 1, _, by go_num, by omega, Hd hown5, HHN, HBN, HO5⟩
      case measure => simp [intOf]; omega
     ·rw [decide_eq_false hed] at HHS HBE;have HF := Hd (HBAD.out HBE.out);clear HBE hM hO hB;go_wp2_with fail
      refine (HHS.out).mono ?_;rintro e w4 ⟨rfl, rfl⟩;go_wp2
      go_ret
      exact ⟨by rw [HF.out]; rfl, HO1.out.trans HO3.out⟩
  ·have hkm : k = mx := by omega
   subst hkm;have hd2 : decide ((k : Int) < (k : Int)) = false := by simp
   have HF : Hid (R = true) := Hd (by
    rw [HRA.out, List.all_eq_true];intro i hi;rw [hB.out i (by rw [← HXL.out]; exact List.mem_range.1 hi)]
    rfl)
   have HOF := Hd (HO1.out.trans hO.out);clear hM hH hB hO;go_wp2
   go_ret
   exact ⟨by rw [HF.out]; rfl, HOF.out⟩
end Go.Proofs.YtlnlppabeddclaaDoor
