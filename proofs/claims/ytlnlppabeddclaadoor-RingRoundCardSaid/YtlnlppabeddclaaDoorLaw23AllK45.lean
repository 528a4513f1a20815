/- Parts. -/
import Derived.Test.YtlnlppabeddclaaDoorLaw23AllK44
set_option maxRecDepth 10000
set_option maxHeartbeats 16000000
set_option linter.unusedVariables false
set_option linter.unusedSimpArgs false
namespace Go.Proofs.YtlnlppabeddclaaDoor
open Go.RowKit
attribute [local go_sem ↓] Go.wp_at_zero Go.wp_at_succ
def leastR (n : Int) (l : List (Int × Int)) : List Int × Int := if mayL n l = true then (match leastT n.toNat l with
 | some S => (S, 0)
 | none => ([], 3)) else ([], 2)
theorem order_none {n : Nat} {l : List (Int × Int)} {k : Nat} (h : orderT n l k = none) : ∀ d, orderT n l (k + d) = none
 | 0 => h
 | d + 1 => by
  rw [← Nat.add_assoc, orderT, order_none h d]
  rfl
theorem least_stop {n : Nat} {l : List (Int × Int)} {k : Nat} {S : List Int} (hk : k < n) (h : orderT n l k = some S) (hx : nextT n l S = none) : leastT n l = none := by
 have h1 : orderT n l (k + 1) = none := by rw [orderT, h]; simp [hx]
 have := order_none h1 (n - (k + 1));unfold leastT
 rwa [show k + 1 + (n - (k + 1)) = n by omega] at this
theorem back_len {n : Nat} {l h : List (Int × Int)} (w : WfE n l) (hs : ∀ e, e ∈ h ↔ e ∈ l) (v : Nat) : ((backL n h (v : Int)).length : Int) = waitT n l [] v := by
 unfold backL waitT;rw [if_neg (by simp), List.length_map]
 congr 2
 refine List.filter_congr fun a _ => ?_;unfold edB;rw [Bool.eq_iff_iff];simp [hs]
theorem nextL_nodup (n : Nat) (h : List (Int × Int)) (a : Int) : (nextL n h a).Nodup := by
 unfold nextL;refine List.pairwise_map.2 ((List.nodup_range.filter _).imp fun {x y} hne e => hne (by omega))
theorem take_snoc {X : List Int} {j : Nat} {x : Int} (h : X[j]? = some x) : X.take (j + 1) = X.take j ++ [x] := by rw [List.take_add_one, h]; rfl
theorem take_notin {X : List Int} (hd : X.Nodup) {j : Nat} {x : Int} (h : X[j]? = some x) : x ∉ X.take j := by
 intro hm;obtain ⟨i, hi⟩ := List.mem_iff_getElem?.1 hm;rw [List.getElem?_take] at hi
 split at hi
 ·rename_i hij
  have h1 := List.getElem?_eq_some_iff.1 h;have h2 := List.getElem?_eq_some_iff.1 hi;have := (List.pairwise_iff_getElem.1 hd) i j h2.1 h1.1 hij;rw [h2.2, h1.2] at this;exact this rfl
 ·cases hi
theorem tleast_any (n : Int) (A : Option Addr) (m c : Nat) (l : List (Int × Int)) (w : World) (hr : Row w w.heap.size A (edgeC l)) (hl : l.length = m) (hm : m ≤ 1000) (hT : Tab w) (h00 : 0 < w.heap.size) :
  Calls Tryd.prog 17 #[.int .i64 n, .slice A m c] w fun e w' => ∃ A' c', (e = .returned (.tuple #[.slice A' (leastR n l).1.length c', .int .i64 (leastR n l).2]) ∧ w'.ownsRow w.heap.size 3 1 (.slice A' (leastR n l).1.length c') (leastR n l).1.length ((leastR n l).1.map (Value.int .i64))) ∧ Only [] w w' := by
 have bad : mayL n l = false → leastR n l = ([], 2) := fun h => by unfold leastR; rw [h]; rfl
 by_cases hn : n < 0 ∨ 500 < n
 ·have hb : mayL n l = false := by unfold mayL; rw [decide_eq_false (by omega)]; rfl
  rw [bad hb];have HG := Hd (gof_no n A m c w hn);clear bad hb hr hn;go_enter Tryd.func17, Tryd.ntmps17;go_wp2_with fail
  refine (HG.out).mono ?_;rintro e w1 ⟨rfl, rfl⟩;go_wp2
  exact bodyPost_ret (v := .tuple #[.slice none 0 0, .int .i64 2]) (by simp [results, Tryd.results17, go_sem]) rfl ⟨none, 0, ⟨rfl, World.ownsRow_nil _ _ _ _⟩, Only.refl [] _⟩
 ·obtain ⟨q, rfl⟩ : ∃ q : Nat, n = q := ⟨n.toNat, by omega⟩;have hq : q ≤ 500 := by omega
  have HG := Hd (gof_any q A m c l w hq hr hl hm);have HT := Hd hT;have h00' := h00;have hmy : mayL (q : Int) l = l.all (goodE q) := by unfold mayL; rw [decide_eq_true (by omega), Bool.true_and, Int.toNat_natCast]
  clear hr hn hT hl
  cases hgd : l.all (goodE q) with
  | false =>
   rw [bad (by rw [hmy]; exact hgd)];have HGD := Hd hgd;clear hgd hmy bad;go_enter Tryd.func17, Tryd.ntmps17;go_wp2_with fail
   refine (HG.out).mono ?_;rintro e w1 ⟨O1, ⟨-, rfl⟩ | ⟨hgd, -, -⟩⟩
   ·have HO1 := Hd O1;clear HG O1;go_wp2
    exact bodyPost_ret (v := .tuple #[.slice none 0 0, .int .i64 2]) (by simp [results, Tryd.results17, go_sem]) rfl ⟨none, 0, ⟨rfl, World.ownsRow_nil _ _ _ _⟩, HO1.out⟩
   ·rw [HGD.out] at hgd
    cases hgd
  | true =>
   have hres : leastR (q : Int) l = (match leastT q l with
    | some S => (S, 0)
    | none => ([], 3)) := by unfold leastR; rw [hmy, hgd, if_pos rfl, Int.toNat_natCast]
   obtain ⟨R, hR⟩ : ∃ R, R = leastR (q : Int) l := ⟨_, rfl⟩;rw [← hR];have HRS := Hd (hR.trans hres);clear hR;have HWF := Hd (wf_good hgd);have hs : ∀ e, e ∈ (ofS q l).2.2 ↔ e ∈ l := fun e => by rw [(rel_of hq l).2]; exact mem_rof hgd e
   obtain ⟨N, hN⟩ : ∃ N : Nat → List Int, ∀ i : Nat, nextL q (ofS q l).2.2 (i : Int) = N i := ⟨fun i => nextL q (ofS q l).2.2 (i : Int), fun i => rfl⟩;have HNX := Hd (fun (w1 : World) (fp : List Nat) (i : Nat) (hi : i < q) (hz : w.heap.size ≤ w1.heap.size) (hTw : Tab w1) (hGr : Gr w1 w.heap.size q (ofS q l).1 (ofS q l).2.1 (ofS q l).2.2 fp) => by
    have := gnext_some w.heap.size q (ofS q l).1 (ofS q l).2.1 (ofS q l).2.2 fp i w1 hGr hi hTw (Nat.lt_of_lt_of_le h00' hz);rw [rel_next (rel_of hq l).1 hq i hi, hN i] at this;exact this)
   have HBX := Hd (fun (w1 : World) (fp : List Nat) (i : Nat) (hi : i < q) (hz : w.heap.size ≤ w1.heap.size) (hTw : Tab w1) (hGr : Gr w1 w.heap.size q (ofS q l).1 (ofS q l).2.1 (ofS q l).2.2 fp) => by
    have := gback_some w.heap.size q (ofS q l).1 (ofS q l).2.1 (ofS q l).2.2 fp i w1 hGr hi hTw (Nat.lt_of_lt_of_le h00' hz);rw [rel_back (rel_of hq l).1 hq i hi] at this;have hb := back_len HWF.out hs i;obtain ⟨d, hd⟩ : ∃ d, d = (backL q (ofS q l).2.2 (i : Int)).length := ⟨_, rfl⟩;rw [← hd] at this hb;exact (show Calls Tryd.prog 21 #[.pointer (some ⟨w.heap.size, 0, none⟩), .int .i64 (i : Int)] w1 fun e w' => ∃ (A : Option Addr) (d c : Nat), (e = .returned (.slice A d c) ∧ (d : Int) = waitT q l [] i) ∧ Only [] w1 w' from this.mono fun e w' ⟨v, ⟨he, hv⟩, O⟩ => by
     obtain ⟨A', c', rfl, -, -, -, -⟩ := own_row hv;exact ⟨A', d, c', ⟨he, hb⟩, O⟩))
   have HNM : Hid (∀ i m : Nat, (m : Int) ∈ N i ↔ edR l i m) := Hd (fun i m => by
    have := next_ed HWF.out hs i m;rw [hN] at this;rw [← ed_iff, ← this, decide_eq_true_eq])
   have HNR : Hid (∀ i : Nat, ∀ z ∈ N i, 0 ≤ z ∧ z < (q : Int)) := Hd (fun i z hz => by rw [← hN] at hz; exact nextL_range z hz);have HNL : Hid (∀ i : Nat, (N i).length ≤ q) := Hd (fun i => by rw [← hN]; exact nextL_len q _ _);have HND : Hid (∀ i : Nat, (N i).Nodup) := Hd (fun i => by rw [← hN]; exact nextL_nodup q _ _);have HGD := Hd hgd;clear hres hgd hmy bad hs hN;obtain ⟨i0, hi, hz0, hz1, hz2⟩ := info_parts info_int;have hmk := fun W => make_ints q (by omega) W;go_enter Tryd.func17, Tryd.ntmps17;go_wp2_with fail
   refine (HG.out).mono ?_;rintro e w1 ⟨O1, ⟨hgd, -⟩ | ⟨-, rfl, fp, hGr, hfp⟩⟩
   ·rw [HGD.out] at hgd
    cases hgd
   have HO1 := Hd O1;have HT1 := Hd (fun (W : World) (O : Only [] w1 W) => (HT.out.only h00' O1 (by simp)).only (Nat.lt_of_lt_of_le h00' O1.size) O (by simp));have hs1 := O1.size;have HNX1 := Hd (fun (W : World) (O : Only [] w1 W) (i : Nat) (hi : i < q) => HNX.out W fp i hi (Nat.le_trans hs1 O.size) (HT1.out W O) (hGr.only O (by simp)));have HBX1 := Hd (fun (W : World) (O : Only [] w1 W) (i : Nat) (hi : i < q) => HBX.out W fp i hi (Nat.le_trans hs1 O.size) (HT1.out W O) (hGr.only O (by simp)));clear HG hGr hfp O1 HGD HNX HBX HT HT1;go_upto_region 5 with (fail)
   have HB2 := Hd (Blk.made w1 3 (intsF q fun _ => 0));have HO2 := Hd ((Only.refl [] w1).alloc (.cells (intsF q fun _ => 0) 3));have hsb : w1.heap.size < (w1.alloc (.cells (intsF q fun _ => 0) 3)).heap.size := by simp
   clear hmk;generalize (w1.alloc (.cells (intsF q fun _ => 0) 3)) = w2 at *;obtain ⟨b, hb⟩ : ∃ b, b = w1.heap.size := ⟨_, rfl⟩;rw [← hb] at HB2 hsb ⊢;have HOB : Hid (∀ W, Only [b] w2 W → Only [] w1 W) := Hd (fun W O => HO2.out.step O (fun i hi hl => by simp at hi; omega));have hb1 : w.heap.size ≤ b := by omega
   clear hb;go_wp2_with fail
   go_loopw [27] (fun iv wr => ∃ k : Nat, iv = .int .i64 (k : Int) ∧ k ≤ q ∧ Hid (Blk wr b 3 (intsF q fun u => if u < k then waitT q l [] u else 0)) ∧ Hid (Only [b] w2 wr)) (fun iv _ => q - (intOf iv).toNat)
   case atStart => exact ⟨0, rfl, by omega, Hd (by rw [intsF_congr (g := fun _ => 0) (fun i _ => by simp)]; exact HB2.out), Hd (Only.refl _ _)⟩
   case round =>
    obtain ⟨k, rfl, hk, hB, hO⟩ := hrel
    by_cases hlt : k < q
    ·have HBK := Hd (HBX1.out wr (HOB.out wr hO.out) k hlt);have h01 : (k : Int) < (q : Int) := by omega
     have hk0 : (0 : Int) ≤ (k : Int) := Int.natCast_nonneg _;have hwk : IntKind.i64.wrap ((k : Int) + 1) = (k : Int) + 1 := IntWalk.i64_in _ (by omega);go_wp2_with fail
     refine (HBK.out).mono ?_;rintro e w4 ⟨A4, d, c4, ⟨rfl, hd⟩, O4⟩;have HO4 := Hd (hO.out.trans (O4.wide (fun i hi => by cases hi)));have HB4 := Hd (O4.blk hB.out (by simp));have HD := Hd hd;clear O4 HBK hd hO hB;have k0 := (HB4.out.at_ k).trans (intsF_at _ hlt);have f0 := HB4.out.free k;have lb := HB4.out.lt;go_wp2
     go_roundw
     case rel =>
      refine ⟨k + 1, by go_num, by omega, Hd ?_, Hd (HO4.out.put (p := ⟨b, k, none⟩) (fun _ => by simp) _)⟩;have := HB4.out.put k (.int .i64 (d : Int));rw [intsF_set _ _ hlt, intsF_congr (g := fun u => if u < k + 1 then waitT q l [] u else 0) (fun u _ => by
       by_cases e : u = k
       ·subst e; rw [if_pos rfl, if_pos (by omega), HD.out]
       ·rw [if_neg e]
        by_cases e2 : u < k
        ·rw [if_pos e2, if_pos (by omega)]
        ·rw [if_neg e2, if_neg (by omega)])] at this
      exact this
     case measure => simp [intOf]; omega
    ·have hkq : k = q := by omega
     subst hkq;have hd2 : decide ((k : Int) < (k : Int)) = false := by simp
     have HB5 : Hid (Blk wr b 3 (intsF k (waitT k l []))) := Hd (by
      have := hB.out
      rwa [intsF_congr (g := waitT k l []) (fun u hu => by rw [if_pos hu])] at this)
     have HO5 := hO;clear hO hB HB2 HBX1;obtain ⟨w5, hw5⟩ : ∃ w5 : World, w5 = wr := ⟨_, rfl⟩;subst hw5;go_upto_region 11 with (fail)
     go_wp2_with fail
     go_loopw [10, 39] (fun ov iv wr => ∃ (j : Nat) (S : List Int) (A : Option Addr) (c : Nat), ov = .slice A j c ∧ iv = .int .i64 (j : Int) ∧ j ≤ k ∧ Hid (orderT k l j = some S) ∧ Hid (Blk wr b 3 (intsF k (waitT k l S))) ∧ Hid (wr.ownsRow w2.heap.size 3 1 (.slice A j c) j (S.map (Value.int .i64))) ∧ Hid (Only [b] w2 wr)) (fun _ iv _ => k - (intOf iv).toNat)
     case atStart => exact ⟨0, [], none, 0, rfl, rfl, by omega, Hd rfl, HB5, Hd (World.ownsRow_nil _ _ _ _), HO5⟩
     case round =>
      obtain ⟨j, S, Ao, co, rfl, rfl, hj, hS, hB, hV, hO⟩ := hrel;clear HB5 HO5
      by_cases hlt : j < k
      ·have HF := Hd (tfirst_any k b _ wr hB.out (by omega));rw [first_next HWF.out S] at HF;have h01 : (j : Int) < (k : Int) := by omega
       have hj0 : (0 : Int) ≤ (j : Int) := Int.natCast_nonneg _;have hwj : IntKind.i64.wrap ((j : Int) + 1) = (j : Int) + 1 := IntWalk.i64_in _ (by omega)
       cases hx : nextT k l S with
       | none =>
        rw [hx] at HF;have HE : Hid (R = ([], 3)) := Hd (by rw [HRS.out, least_stop hlt hS.out hx]);have HOO := Hd (HO1.out.trans (HOB.out _ hO.out));clear hx hS hB hV hO;go_wp2_with fail
        refine (HF.out).mono ?_;rintro e w6 ⟨rfl, rfl⟩;go_wp2
        exact bodyPost_ret (v := .tuple #[.slice none 0 0, .int .i64 3]) (by simp [results, Tryd.results17, go_sem]) rfl (by rw [HE.out]; exact ⟨none, 0, ⟨rfl, World.ownsRow_nil _ _ _ _⟩, HOO.out⟩)
       | some a =>
        obtain ⟨u, rfl, hu, hfr, -⟩ := next_some hx;have HS1 : Hid (orderT k l (j + 1) = some (S ++ [(u : Int)])) := Hd (by rw [orderT, hS.out]; simp [hx]);have HFR := Hd (free_iff.1 hfr);have HORD := Hd (order_ord j hS.out).1;rw [hx] at HF;simp only [Option.getD_some] at HF;have hu0 : (0 : Int) ≤ (u : Int) := Int.natCast_nonneg _;have huk : (u : Int) < (k : Int) := by omega
        have hun : ¬ (u : Int) < 0 := by omega
        have hszr : w2.heap.size ≤ wr.heap.size := hO.out.size;clear hx hfr hS;go_wp2_with fail
        refine (HF.out).mono ?_;rintro e w6 ⟨rfl, rfl⟩;clear HF;go_upto_region 17 with (at_builtin; refine wpList_append_row _ rfl (.tmp 45) (.tmp 47) _ rfl w2.heap.size 3 i0 _ 1 8 Tryd.underlying25 hi hz0 hz1 hz2 rfl (by omega) (.slice Ao j co) j (S.map (Value.int .i64)) rfl (own_only hV.out ((Only.refl [] _).alloc _) (by simp)) (wr.heap.size + 1) (some ⟨wr.heap.size, 0, none⟩) 1 1 [.int .i64 (u : Int)] rfl rfl (row_lit wr 3 #[.int .i64 (u : Int)]) (by intro u hu; simp at hu; subst hu; rfl) (by unfold maxLen; omega) (by omega) (by simp; omega) ?_; intro v7 w7 hown7 hgrow7 hat7)
        obtain ⟨A7, c7, rfl, -, -, -, -⟩ := own_row hown7;have OG : Only (Value.slice Ao j co).ownBlock.toList wr w7 := ((Only.refl _ wr).alloc (.cells #[.int .i64 (u : Int)] 3)).step (only_grown hgrow7) (fun i hi hl => hi);have hnb : b ∉ (Value.slice Ao j co).ownBlock.toList := fun hm => by have := (hV.out.lt b (by simpa using hm)).1; omega
        have HB7 := Hd (OG.blk hB.out hnb);have HV7 : Hid (w7.ownsRow w2.heap.size 3 1 (.slice A7 (j + 1) c7) (j + 1) ((S ++ [(u : Int)]).map (Value.int .i64))) := Hd (by rw [List.map_append]; exact hown7);have HO7 := Hd (hO.out.step OG (fun i hi hl => by have := (hV.out.lt i (by simpa using hi)).1; omega));clear hown7 hgrow7 hat7 OG hB hV hO hnb;have k0 := (HB7.out.at_ u).trans (intsF_at _ hu);have f0 := HB7.out.free u;have lb := HB7.out.lt;go_upto_region 18 with (fail)
        have HB8 : Hid (Blk (w7.setCell ⟨b, u, none⟩ (.int .i64 (-1))) b 3 (intsF k (waitJ k l S u []))) := Hd (by
         have := HB7.out.put u (.int .i64 (-1))
         rwa [intsF_set _ _ hu, intsF_congr (g := waitJ k l S u []) (fun x _ => (waitJ_nil k l S u x).symm)] at this)
        have O8 : Only [b] w7 (w7.setCell ⟨b, u, none⟩ (.int .i64 (-1))) := (Only.refl [b] w7).put (p := ⟨b, u, none⟩) (fun _ => by simp) _;have HO8 := Hd (HO7.out.trans O8);have HV8 := Hd (own_only HV7.out O8 (fun g hg hm => by simp at hm; have := (HV7.out.lt g hg).1; omega));clear k0 f0 lb HB7 HV7 HO7 O8;generalize (w7.setCell ⟨b, u, none⟩ (.int .i64 (-1))) = w8 at *;have HNW := Hd (HNX1.out w8 (HOB.out _ HO8.out) u hu);have hnl := HNL.out u;have HNM2 := Hd (HNM.out u);have HRX := Hd (HNR.out u);have HDX := Hd (HND.out u);generalize N u = X at *;obtain ⟨d, hd⟩ : ∃ d, d = X.length := ⟨_, rfl⟩;rw [← hd] at HNW hnl;have HXL := Hd hd;clear hd;go_wp2_with fail
        refine (HNW.out).mono ?_;rintro e w9 ⟨v, ⟨rfl, hv⟩, O9⟩;obtain ⟨A9, c9, rfl, -, -, -, -⟩ := own_row hv;have HB9 := Hd (O9.blk HB8.out (by simp));have HO9 := Hd (HO8.out.trans (O9.wide (fun i hi => by cases hi)));have HV9 := Hd (own_only HV8.out O9 (by simp));have HX9 := Hd (own_lower hv HO8.out.size);clear hv O9 HNW HB8 HO8 HV8;obtain ⟨wx, hwx⟩ : ∃ wx : World, wx = w9 := ⟨_, rfl⟩;go_wp2_with fail
        go_loopw [56] (fun iv wr => ∃ i : Nat, iv = .int .i64 (i : Int) ∧ i ≤ d ∧ Hid (Blk wr b 3 (intsF k (waitJ k l S u (X.take i)))) ∧ Hid (Only [b] w9 wr)) (fun iv _ => d - (intOf iv).toNat)
        case atStart => exact ⟨0, rfl, by omega, HB9, Hd (Only.refl _ _)⟩
        case round =>
         obtain ⟨i, rfl, hi', hB, hO⟩ := hrel;clear HB9
         by_cases hlt2 : i < d
         ·obtain ⟨x0, hx0⟩ : ∃ x0, X[i]? = some x0 := ⟨_, List.getElem?_eq_getElem (by rw [← HXL.out]; exact hlt2)⟩;obtain ⟨x, rfl⟩ : ∃ x : Nat, x0 = x := ⟨x0.toNat, by have := HRX.out x0 (List.mem_of_getElem? hx0); omega⟩;have hxk : x < k := by have := HRX.out _ (List.mem_of_getElem? hx0); omega
          have hE := (HNM2.out x).1 (List.mem_of_getElem? hx0);have hxS : (x : Int) ∉ S := fun hm => HFR.out.1 (HORD.out.inn _ hE hm);have hxv : x ≠ u := fun e => HFR.out.1 (HFR.out.2 u (by subst e; exact hE));have hxJ := take_notin HDX.out hx0;have HX := own_only HX9.out hO.out (fun g hg hm => by simp at hm; have := (HX9.out.lt g hg).1; omega);obtain ⟨br, of_, rfl, -, hbw, hcell⟩ := (row_of_own HX).open_ (k := i) (by rw [List.length_map, ← HXL.out]; exact hlt2);have e0 := hcell i (.int .i64 (x : Int)) (by rw [List.getElem?_map, hx0]; rfl);have k0 := (hB.out.at_ x).trans (intsF_at _ hxk);rw [waitJ_eq hxS hxv hxJ] at k0;have hzr := waitT_range k l S x;have HST := Hd (fun z => waitJ_step (n := k) (l := l) hxS hxv hxJ z);rw [waitJ_eq hxS hxv hxJ, ← take_snoc hx0] at HST;obtain ⟨z, hz⟩ : ∃ z, z = waitT k l S x := ⟨_, rfl⟩;rw [← hz] at k0 hzr HST;clear hz;have f0 := hB.out.free x;have lb := hB.out.lt;have h01 : (i : Int) < (d : Int) := by omega
          have hi0 : (0 : Int) ≤ (i : Int) := Int.natCast_nonneg _;have hx0' : (0 : Int) ≤ (x : Int) := Int.natCast_nonneg _;have hxk' : (x : Int) < (k : Int) := by omega
          have hwi : IntKind.i64.wrap ((i : Int) + 1) = (i : Int) + 1 := IntWalk.i64_in _ (by omega);have hwz : IntKind.i64.wrap (z - 1) = z - 1 := IntWalk.i64_in _ (by omega);clear hcell hx0 hE HX;go_wp2
          go_roundw
          case rel =>
           refine ⟨i + 1, by go_num, by omega, Hd ?_, Hd (hO.out.put (p := ⟨b, x, none⟩) (fun _ => by simp) _)⟩;have := hB.out.put x (.int .i64 (z - 1));rw [intsF_set _ _ hxk, intsF_congr (fun y _ => HST.out y)] at this;exact this
          case measure => simp [intOf]; omega
         ·have hid : i = d := by omega
          subst hid;have hd3 : decide ((i : Int) < (i : Int)) = false := by simp
          have HBF : Hid (Blk wr b 3 (intsF k (waitT k l (S ++ [(u : Int)])))) := Hd (by
           have := hB.out;rw [List.take_of_length_le (by rw [← HXL.out]; exact Nat.le_refl _)] at this
           rwa [intsF_congr (fun y _ => waitJ_all HWF.out HFR.out.1 hu HNM2.out y)] at this)
          have HVF := Hd (own_only HV9.out hO.out (fun g hg hm => by simp at hm; have := (HV9.out.lt g hg).1; omega));have HOF := Hd (HO9.out.trans hO.out);clear hB hO HX9 HV9 HO9;go_wp2
          go_roundw
          case rel => exact ⟨j + 1, S ++ [(u : Int)], A7, c7, by go_num, by go_num, by omega, HS1, HBF, HVF, HOF⟩
          case measure => simp [intOf]; omega
      ·have hjk : j = k := by omega
       subst hjk;have hd2 : decide ((j : Int) < (j : Int)) = false := by simp
       have HE : Hid (R = (S, 0)) := Hd (by rw [HRS.out, show leastT j l = some S from hS.out]);have hSl : S.length = j := (order_ord j hS.out).2;have HVF := Hd (own_lower hV.out (Nat.le_trans hb1 (Nat.le_of_lt hsb)));have HOO := Hd (HO1.out.trans (HOB.out _ hO.out));have HSL := Hd hSl;clear hS hB hV hO hSl;go_wp2
       exact bodyPost_ret (v := .tuple #[.slice Ao j co, .int .i64 0]) (by simp [results, Tryd.results17, go_sem]) rfl (by rw [HE.out]; dsimp only; rw [HSL.out]; exact ⟨Ao, co, ⟨rfl, HVF.out⟩, HOO.out⟩)
end Go.Proofs.YtlnlppabeddclaaDoor
