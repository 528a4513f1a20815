/- Parts. -/
import Derived.Test.YthdofaoamljkfaaGreatDoorWrTellsCardK16
import Derived.Test.YthdofaoamljkfaaGreatDoorWrTellsCardK24
set_option maxRecDepth 10000
set_option maxHeartbeats 16000000
set_option linter.unusedVariables false
set_option linter.unusedSimpArgs false
namespace Go.Proofs.YthdofaoamljkfaaGreatDoor
open Go.RowKit
open Go.Lib hiding intOf
attribute [local go_sem ↓] Go.wp_at_zero Go.wp_at_succ
theorem wris_any (AV A : Option Addr) (nl cV m c B Bl : Nat) (l : List Int) (xs : List SlI) (w : World) (hV : Row w B AV (xs.map siC)) (hl : xs.length = nl) (hr : ∀ x ∈ xs, Row w B x.A (x.l.map (Value.int .i64))) (hf : ∀ x ∈ xs, x.l.length ≤ 1000)
  (hg : Row w Bl A (l.map (Value.int .i64))) (hm : l.length = m) (hM : m ≤ 100000) :
  Calls Tryz.prog 27 #[.slice AV nl cV, .slice A m c] w fun e w' => e = .returned (.bool (decide (m = nl) && isI (xs.map (fun x => x.l)) l)) ∧ Only [] w w' := by
 have O1 : Only [] w (w.alloc (.cells #[.slice AV nl cV] 31)) := (Only.refl [] w).alloc _;have HB1 := Blk.made w 31 #[.slice AV nl cV];have lB := HB1.lt;have y0 := HB1.at_ 0;simp at y0;have HC : m = nl → ChAt (w.alloc (.cells #[.slice AV nl cV] 31)) w.heap.size (w.alloc (.cells #[.slice AV nl cV] 31)).heap.size m xs := fun e =>
  ⟨⟨AV, cV, by rw [e]; exact HB1, row_up (hV.only O1 (by simp))⟩, hl.trans e.symm, fun x hx => row_up ((hr x hx).only O1 (by simp)), HB1.lt, hf⟩
 have HIS := Hd (fun e => iis_any A m c Bl w.heap.size _ l xs _ (hg.only O1 (by simp)) hm hM (HC e));have HO1 := Hd O1;clear hV hr hg hl hf hm HC HB1 O1;go_enter Tryz.func27, Tryz.ntmps27
 by_cases hmn : m = nl
 ·have h1 := HIS.out hmn;have HI2 := Hd h1;clear h1 HIS;subst hmn;rw [decide_eq_true (rfl : m = m), Bool.true_and];generalize isI (xs.map (fun x => x.l)) l = d at *;go_wp2_with fail
  refine (HI2.out).mono ?_;rintro e w3 ⟨rfl, O3⟩;have HO3 := Hd (HO1.out.trans O3);clear O3;go_wp2
  go_ret
  exact ⟨rfl, HO3.out⟩
 ·rw [decide_eq_false hmn, Bool.false_and];have hd : ¬ ((m : Int) = (nl : Int)) := by omega
  clear HIS;go_wp2
  go_ret
  exact ⟨rfl, HO1.out⟩
def rdsH (h : Hst) : List (Int × Int) := if wholeB h = true then rdsL h.l else []
theorem wrReads_any (A0 A1 A2 : Option Addr) (n0 n1 n2 c0 c1 c2 B : Nat) (h : Hst) (w : World) (hg : HIn w B A0 A1 A2 n0 n1 n2 h) :
  Calls Tryz.prog 8 #[hval A0 A1 A2 n0 n1 n2 c0 c1 c2] w fun e w' => ∃ V, (e = .returned V ∧ w'.ownsRow w.heap.size 56 2 V (rdsH h).length (placeC (rdsH h))) ∧ Only [] w w' := by
 have HWI := Hd (fun w' (O : Only [] w w') => wis_any A0 A1 A2 n0 n1 n2 c0 c1 c2 B h w' (hg.same O));have HRD := Hd (fun (hm : wholeB h = true) w' (O : Only [] w w') => wrreads_any A0 A1 A2 n0 n1 n2 c0 c1 c2 B h w' (hg.same O) (whole_may hm));unfold hval at *;clear hg;have HO1 := Hd ((Only.refl [] w).alloc (.cells #[.slice A0 n0 c0, .slice A1 n1 c1, .slice A2 n2 c2] 25));have HB1 := Hd (Blk.made w 25 #[.slice A0 n0 c0, .slice A1 n1 c1, .slice A2 n2 c2]);obtain ⟨d, hd⟩ : ∃ d, wholeB h = d := ⟨_, rfl⟩;rw [hd] at HWI HRD;have HDD : Hid (rdsH h = if d = true then rdsL h.l else []) := Hd (by unfold rdsH; rw [hd]);generalize rdsH h = R at *;clear hd;go_enter Tryz.func8, Tryz.ntmps8;go_upto_region 1 with (fail)
 generalize (w.alloc (.cells #[.slice A0 n0 c0, .slice A1 n1 c1, .slice A2 n2 c2] 25)) = w1 at *;have lB := HB1.out.lt;have y0 := HB1.out.at_ 0;have y1 := HB1.out.at_ 1;have y2 := HB1.out.at_ 2;simp at y0 y1 y2;have hle := HO1.out.size;go_wp2_with fail
 refine (HWI.out _ HO1.out).mono ?_;rintro e w2 ⟨rfl, O2⟩;have HO2 := Hd (HO1.out.trans O2);have HB2 := Hd (O2.blk HB1.out (by simp));clear O2 HO1 HB1 HWI lB y0 y1 y2;have lB := HB2.out.lt;have y0 := HB2.out.at_ 0;have y1 := HB2.out.at_ 1;have y2 := HB2.out.at_ 2;simp at y0 y1 y2
 cases d with
 | false =>
  have HR0 : Hid (R = []) := Hd (by rw [HDD.out, if_neg (by decide)]);go_wp2
  go_ret
  exact ⟨_, ⟨rfl, by rw [HR0.out]; exact World.ownsRow_nil _ _ _ _⟩, HO2.out⟩
 | true =>
  have HR0 : Hid (R = rdsL h.l) := Hd (by rw [HDD.out, if_pos rfl]);have hl2 := HO2.out.size;go_wp2_with fail
  refine (HRD.out trivial _ HO2.out).mono ?_;rintro e w3 ⟨V, ⟨rfl, hV⟩, O3⟩;have HV := Hd (own_from hV hl2);have HO3 := Hd (HO2.out.trans O3);clear O3 hV;go_wp2
  go_ret
  exact ⟨_, ⟨rfl, by rw [HR0.out]; exact HV.out⟩, HO3.out⟩
end Go.Proofs.YthdofaoamljkfaaGreatDoor
namespace Go.Proofs.YthdofaoamljkfaaGreatDoor
open Go.RowKit
theorem own_set {w : World} {base : Nat} {e : TypeId} {size : Nat} {v : Value} {n : Nat} {xs : List Value} {g : Nat} (h : w.ownsRow base e size v n xs) (hg : v.ownBlock = some g) {j : Nat} (hj : j < xs.length) (u : Value) :
  (w.setCell ⟨g, j, none⟩ u).ownsRow base e size v n (xs.set j u) := by
 obtain ⟨h0, ⟨rfl, -⟩ | ⟨g', cap, cur, rfl, h1, h2, h3, h4, h5, h6⟩⟩ := h
 ·simp [Value.ownBlock] at hg
 ·obtain rfl : g' = g := by simpa [Value.ownBlock] using hg
  refine ⟨by simpa using h0, .inr ⟨g', cap, cur.setIfInBounds j u, rfl, h1, Blk.put h2 j u, h3, h4, by simpa using h5, ?_⟩⟩;rw [Array.toList_setIfInBounds, ← h6];have hjl : j < n * size := by omega
  apply List.ext_getElem?
  intro k
  by_cases hk : k < n * size
  ·rw [List.getElem?_take_of_lt hk, List.getElem?_set, List.getElem?_set, List.getElem?_take_of_lt hk];have : (List.take (n * size) cur.toList).length = n * size := by rw [h6]; exact h0
   by_cases hjk : j = k
   ·subst hjk;rw [if_pos rfl, if_pos rfl, if_pos (by have h9 := this; rw [List.length_take] at h9; omega), if_pos (by rw [this]; exact hk)]
   ·rw [if_neg hjk, if_neg hjk]
  ·rw [List.getElem?_eq_none (by rw [List.length_take]; omega), List.getElem?_eq_none (by rw [List.length_set, List.length_take]; omega)]
theorem own_cell {w : World} {base : Nat} {e : TypeId} {size : Nat} {v : Value} {n : Nat} {xs : List Value} {g : Nat} (h : w.ownsRow base e size v n xs) (hg : v.ownBlock = some g) {j : Nat} {u : Value} (hj : xs[j]? = some u) :
  w.cell? ⟨g, j, none⟩ = some u ∧ w.frozen? ⟨g, j, none⟩ = false := by
 obtain ⟨cur, hb⟩ := own_blk h hg;have := h.cells hg j u hj;refine ⟨?_, hb.free j⟩;have e' : (⟨g, 0, none⟩ : Addr).add j = ⟨g, j, none⟩ := by
  unfold Addr.add
  split
  ·rename_i h; subst h; rfl
  ·simp
 rwa [e'] at this
open Go.Lib hiding intOf
attribute [local go_sem ↓] Go.wp_at_zero Go.wp_at_succ
theorem one_intz (l : List Int) : ∀ u ∈ l.map (Value.int .i64), u.oneCell' = true := by
 intro u hu;obtain ⟨b, -, rfl⟩ := List.mem_map.1 hu
 rfl
theorem iclone_any (A : Option Addr) (m c B : Nat) (xs : List Int) (w : World) (hg : Row w B A (xs.map (Value.int .i64))) (hm : xs.length = m) (hM : m ≤ 100000) (hc : A = none → m = 0 ∧ c = 0) :
  Calls Tryz.prog 56 #[.slice A m c] w fun e w' => ∃ V, (e = .returned V ∧ w'.ownsRow w.heap.size 3 1 V m (xs.map (Value.int .i64))) ∧ Only [] w w' := by
 obtain ⟨i0, hi, hz0, hz1, hz2⟩ := info_parts info_int;have hnil := fun (w : World) (a : Option Addr) (n c : Nat) => Go.Lib.run_eql_slice_nil (P := Tryz.prog) w _ _ a n c 0 0 Tryz.underlying26;have HG := Hd hg;have HM := Hd hm;clear hg hm
 cases A with
 | none =>
  obtain ⟨rfl, rfl⟩ := hc rfl;have hx : xs = [] := List.eq_nil_of_length_eq_zero HM.out;subst hx;go_enter Tryz.func56, Tryz.ntmps56;go_wp2
  go_ret
  exact ⟨⟨_, rfl, World.ownsRow_nil _ _ _ _⟩, Only.refl [] w⟩
 | some a =>
  clear hc;go_enter Tryz.func56, Tryz.ntmps56;go_wp2_with (at_builtin; refine wpList_append_row _ rfl (.tmp 5) (.tmp 6) 26 rfl w.heap.size 3 i0 _ 1 8 Tryz.underlying26 hi hz0 hz1 hz2 rfl (by omega) (.slice (some ⟨w.heap.size, 0, none⟩) 0 0) 0 [] rfl (World.ownsRow_lit w (e := 3) (size := 1) #[] 0 (Nat.le_refl _) (by unfold maxLen; omega) rfl) _ (some a) m c (xs.map (Value.int .i64)) rfl (by rw [List.length_map, HM.out, Nat.mul_one]) (HG.out.only ((Only.refl [] w).alloc (.cells #[] 3)) (by simp)) (one_intz xs) (by unfold maxLen; omega) (by omega) (by simp) ?_; intro V9 w9 hown hgrow hat)
  have HV := Hd hown;have HO := Hd (((Only.refl [] w).alloc (.cells #[] 3)).step (only_grown hgrow) (fun i hi hl => by have h2 : i = w.heap.size := (by simp [Value.ownBlock] at hi; exact hi); omega));rw [Nat.zero_add, List.nil_append] at HV;clear hown hgrow hat;go_wp2
  go_ret
  exact ⟨_, ⟨rfl, HV.out⟩, HO.out⟩
theorem idxI_in {l : List Int} {x : Int} (h : x ∈ l) : idxI l x = (l.idxOf x : Int) := by
 have H : ∀ l : List Int, x ∈ l → l.findIdx? (fun y => decide (x = y)) = some (l.idxOf x) := by
  intro l
  induction l with
  | nil => intro h; cases h
  | cons y r ih =>
   intro h;rw [List.findIdx?_cons, List.idxOf_cons]
   by_cases e : x = y
   ·subst e;simp
   ·have h2 : x ∈ r := by
     rcases List.mem_cons.1 h with h3 | h3
     ·exact absurd h3 e
     ·exact h3
    have e2 : (y == x) = false := by simpa using fun c : y = x => e c.symm
    rw [ih h2, e2];simp [e]
 unfold idxI;rw [H l h]
theorem take_setI {l H : List Int} {p : Nat} {u y : Int} (h : l[p]? = some u) : (l.take (p + 1) ++ H).set p y = l.take p ++ y :: H := by
 have hp := (List.getElem?_eq_some_iff.1 h).1;have hl : (l.take p).length = p := by rw [List.length_take]; omega
 rw [List.take_add_one, h, List.append_assoc, List.set_append_right _ _ (by omega), hl, Nat.sub_self]
 rfl
theorem headsI_drop {vals : List (List Int)} {p : Nat} {vs : List Int} (h : vals[p]? = some vs) : headsL 0 (vals.drop p) = vs.headD 0 :: headsL 0 (vals.drop (p + 1)) := by
 rw [drop_cons h]
 rfl
theorem iup_any (A : Option Addr) (m c Bl gc B : Nat) (l : List Int) (xs : List SlI) (w : World) (hg : Row w Bl A (l.map (Value.int .i64))) (hm : l.length = m) (hM : m ≤ 100000) (hA : A = none → m = 0 ∧ c = 0) (hT : ChAt w gc B m xs) (hB : B ≤ w.heap.size) (hIs : isI (xs.map (fun x => x.l)) l = true) :
  Calls Tryz.prog 37 #[.slice A m c, .func (.func 38) #[] #[.pointer (some ⟨gc, 0, none⟩)]] w fun e w' => ∃ V, (e = .returned (.tuple #[V, .bool (upL 0 (xs.map (fun x => x.l)) l).isSome]) ∧ (∀ ys, upL 0 (xs.map (fun x => x.l)) l = some ys → w'.ownsRow w.heap.size 3 1 V m (ys.map (Value.int .i64))) ∧ (upL 0 (xs.map (fun x => x.l)) l = none → V = .slice none 0 0)) ∧ Only [] w w' := by
 have HG := Hd hg;have HM := Hd hm;have HT := Hd hT;have HIS := Hd (isI_iff.1 hIs);have HCL := Hd (fun w' (O : Only [] w w') => iclone_any A m c Bl l w' (hg.only O (by simp)) hm hM hA);have hwm : IntKind.i64.wrap ((m : Int) - 1) = (m : Int) - 1 := IntWalk.i64_in _ (by omega);have HVL : Hid ((xs.map (fun x => x.l)).length = m) := Hd (by rw [List.length_map]; exact hT.len);have HXS : Hid (∀ (p : Nat) (x : SlI), xs[p]? = some x → (xs.map (fun x => x.l))[p]? = some x.l) := Hd (fun p (x : SlI) h => by rw [List.getElem?_map, h]; rfl);generalize xs.map (fun x => x.l) = vals at *;obtain ⟨U, hU⟩ : ∃ U, upL 0 vals l = U := ⟨_, rfl⟩;rw [hU];have HU := Hd hU;clear hg hm hT hIs hA hU;go_enter Tryz.func37, Tryz.ntmps37;go_wp2_with fail
 refine (HCL.out _ (Only.refl [] w)).mono ?_;rintro e w1 ⟨V1, ⟨rfl, hv1⟩, O1⟩;obtain ⟨AN, cN, rfl, -, -, -, -⟩ := own_row hv1;have HV1 := Hd hv1;have HO1 := Hd O1;clear hv1 O1 HCL;go_wp2_with fail
 go_loopw [7] (fun iv wr => ∃ (q : Nat) (i : Int), iv = .int .i64 i ∧ i + 1 = (q : Int) ∧ q ≤ m ∧ Hid (upL 0 (vals.drop q) (l.drop q) = none) ∧ Hid (wr.ownsRow w.heap.size 3 1 (.slice AN m cN) m ((l.take q ++ headsL 0 (vals.drop q)).map (Value.int .i64))) ∧ Hid (Only [] w wr))
  (fun iv _ => (intOf iv + 1).toNat)
 case atStart =>
  refine ⟨m, (m : Int) - 1, rfl, by omega, Nat.le_refl _, Hd (upL_end (by rw [HVL.out]; exact Nat.le_refl _)), Hd ?_, HO1⟩;rw [List.drop_of_length_le (by rw [HVL.out]; exact Nat.le_refl _), List.take_of_length_le (by rw [HM.out]; exact Nat.le_refl _)]
  simpa [headsL] using HV1.out
 case round =>
  obtain ⟨q, i, rfl, hiq, hq, hn, hV, hO⟩ := hrel;clear HV1 HO1 hwm
  cases q with
  | zero =>
   have hi : i = -1 := by omega
   subst hi;have HE : Hid (U = none) := Hd (HU.out.symm.trans hn.out);go_wp2
   go_ret2
   exact ⟨_, ⟨(by rw [HE.out]; rfl), (fun ys h => by rw [HE.out] at h; cases h), fun _ => rfl⟩, hO.out⟩
  | succ p =>
   have hi : i = (p : Int) := by omega
   subst hi;clear hiq;have hpm : p < m := by omega
   obtain ⟨u, hu⟩ : ∃ u, l[p]? = some u := ⟨_, List.getElem?_eq_getElem (by rw [HM.out]; exact hpm)⟩;obtain ⟨x, hx⟩ : ∃ x, xs[p]? = some x := ⟨_, List.getElem?_eq_getElem (by rw [HT.out.len]; exact hpm)⟩;have hxm := List.mem_of_getElem? hx;have hv := HXS.out p x hx;have hin := HIS.out p u x.l hu hv;have hidx := List.idxOf_lt_length_of_mem hin;have hfew := HT.out.few x hxm;have HNX := Hd (fun w' (O : Only [] w w') => wrnext1_any gc B m xs p x w' (HT.out.only O (by simp)) hx);have HIX := Hd (fun w' (O : Only [] w w') => indexI_any x.A x.l.length x.cp B x.l u w' rfl (by omega) ((HT.out.rows x hxm).only O (by simp)));rw [idxI_in hin] at HIX;have HXR := Hd (fun w' (O : Only [] w w') => (HT.out.rows x hxm).only O (by simp));have HAT := Hd (fun y (h : x.l[x.l.idxOf u + 1]? = some y) => upL_at (d := 0) (y := y) hv hu hn.out (show nextOf x.l u = some y from h));have HON := Hd (fun h => upL_on (d := 0) hv hu hn.out h);have HHD := Hd (headsI_drop hv);have HST := Hd (fun (H : List Int) (y : Int) => take_setI (H := H) (y := y) hu);unfold nextOf at HON;unfold siC at *;obtain ⟨b, off, rfl, hbB, hbw, hc⟩ := (HG.out.only hO.out (by simp)).open_ (k := p) (by rw [List.length_map, HM.out]; omega);have c0 := hc p _ (by rw [List.getElem?_map, hu]; rfl);have hp0 : (0 : Int) ≤ (p : Int) := Int.natCast_nonneg _;have hp1 : (p : Int) < (m : Int) := by omega
   have hwp : IntKind.i64.wrap ((p : Int) - 1) = (p : Int) - 1 := IntWalk.i64_in _ (by omega);obtain ⟨xl, xA, xc⟩ := x;dsimp only at *;have hwa : IntKind.i64.wrap ((xl.idxOf u : Int) + 1) = (xl.idxOf u : Int) + 1 := IntWalk.i64_in _ (by omega);generalize xl.idxOf u = j at *;clear hc hu hx hv hxm hin hn;go_wp2_with fail
   refine (HNX.out _ hO.out).mono ?_;rintro e w2 ⟨rfl, O2⟩;have HO2 := Hd (hO.out.trans O2);have HV2 := Hd (own_only hV.out O2 (by simp));have c0 := (O2.cell (p := ⟨b, off + p, none⟩) hbw (by simp)).trans c0;have hbw2 : b < w2.heap.size := by have := O2.size; omega
   clear O2 HNX hO hV hbw;go_wp2_with fail
   refine (HIX.out _ HO2.out).mono ?_;rintro e w3 ⟨rfl, rfl⟩;clear HIX c0 hbw2;have h3 := HXR.out _ HO2.out;clear HXR;obtain ⟨gN, rfl⟩ : ∃ gN, AN = some ⟨gN, 0, none⟩ := by
    rcases HV2.out.2 with ⟨e, -⟩ | ⟨g1, cp1, cu1, e, -⟩
    ·injection e with e1 e2 e3;omega
    ·injection e with e1 e2 e3;exact ⟨g1, e1⟩
   have hgN := HV2.out.lt gN rfl;have hlen : ((l.take (p + 1) ++ headsL 0 (vals.drop (p + 1))).map (Value.int .i64)).length = m := by have := HV2.out.1; rw [Nat.mul_one] at this; exact this
   have hol : p < ((l.take (p + 1) ++ headsL 0 (vals.drop (p + 1))).map (Value.int .i64)).length := by rw [hlen]; omega
   obtain ⟨zz, hzz⟩ : ∃ zz, ((l.take (p + 1) ++ headsL 0 (vals.drop (p + 1))).map (Value.int .i64))[p]? = some zz := ⟨_, List.getElem?_eq_getElem hol⟩;obtain ⟨e0, f0⟩ := own_cell HV2.out rfl hzz;clear hzz;have ha0 : (0 : Int) ≤ (j : Int) := Int.natCast_nonneg _;have ha00 : (0 : Int) ≤ (j : Int) + 1 := by omega
   by_cases hlt : j + 1 < xl.length
   ·obtain ⟨y, hy⟩ : ∃ y, xl[j + 1]? = some y := ⟨_, List.getElem?_eq_getElem hlt⟩;have HE := Hd (HU.out.symm.trans (HAT.out y hy));have HS := Hd (HST.out (headsL 0 (vals.drop (p + 1))) y);have hd1 : decide ((j : Int) + 1 < (xl.length : Int)) = true := decide_eq_true (by omega);have ha1 : (j : Int) + 1 < (xl.length : Int) := by omega
    have hta : ((j : Int) + 1).toNat = j + 1 := by omega
    obtain ⟨bx, ox, rfl, -, hbx, hcx⟩ := h3.open_ (k := j + 1) (by rw [List.length_map]; omega);have z0 := hcx (j + 1) _ (by rw [List.getElem?_map, hy]; rfl);have h9 := own_set HV2.out rfl hol (.int .i64 y);rw [← List.map_set, HS.out] at h9;have HO9 := Hd (HO2.out.step ((Only.refl [gN] w2).put (p := ⟨gN, p, none⟩) (fun _ => by simp) (.int .i64 y)) (fun i hi hl => by simp at hi; omega));have HV9 := Hd h9;generalize xl.length = xn at *;clear hcx h3 hy HON HHD HST HAT h9 hol hlen HO2 HV2;go_wp2
    go_ret2
    exact ⟨_, ⟨(by rw [HE.out]; rfl), (fun ys h => by rw [HE.out] at h; cases h; exact HV9.out), fun h => by rw [HE.out] at h; cases h⟩, HO9.out⟩
   ·have hnone : xl[j + 1]? = none := List.getElem?_eq_none (by omega);have HN2 := Hd (HON.out hnone);obtain ⟨y, hy⟩ : ∃ y, xl[0]? = some y := ⟨_, List.getElem?_eq_getElem (by omega)⟩;have hyd : xl.headD 0 = y := by
     cases xl with
     | nil => cases hy
     | cons z r => simpa using hy
    have HS := Hd ((HST.out (headsL 0 (vals.drop (p + 1))) y).trans (show l.take p ++ y :: headsL 0 (vals.drop (p + 1)) = l.take p ++ headsL 0 (vals.drop p) by rw [HHD.out, hyd]));have hd1 : decide ((j : Int) + 1 < (xl.length : Int)) = false := decide_eq_false (by omega);have hx0 : (0 : Int) < (xl.length : Int) := by omega
    obtain ⟨bx, ox, rfl, -, hbx, hcx⟩ := h3.open_ (k := 0) (by rw [List.length_map]; omega);have z0 := hcx 0 _ (by rw [List.getElem?_map, hy]; rfl);rw [Nat.add_zero] at z0;have h9 := own_set HV2.out rfl hol (.int .i64 y);rw [← List.map_set, HS.out] at h9;have HO9 := Hd (HO2.out.step ((Only.refl [gN] w2).put (p := ⟨gN, p, none⟩) (fun _ => by simp) (.int .i64 y)) (fun i hi hl => by simp at hi; omega));have HV9 := Hd h9;generalize xl.length = xn at *;clear hcx h3 hy hyd HON HHD HST HAT hnone h9 hol hlen HO2 HV2;go_wp2
    go_roundw
    case rel => exact ⟨p, (p : Int) - 1, by go_num, by omega, by omega, HN2, HV9, HO9⟩
    case measure => simp [intOf]
end Go.Proofs.YthdofaoamljkfaaGreatDoor
