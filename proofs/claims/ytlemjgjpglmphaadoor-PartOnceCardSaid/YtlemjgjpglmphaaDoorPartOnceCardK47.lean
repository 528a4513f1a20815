/- Parts. -/
import Derived.Test.YtlemjgjpglmphaaDoorPartOnceCardK45
import Derived.Test.YtlemjgjpglmphaaDoorPartOnceCardK46
set_option maxRecDepth 10000
set_option maxHeartbeats 16000000
set_option linter.unusedVariables false
set_option linter.unusedSimpArgs false
namespace Go.Proofs.YtlemjgjpglmphaaDoor
open Go.RowKit
attribute [local go_sem ↓] Go.wp_at_zero Go.wp_at_succ
theorem partR_no {n : Int} {l : List (Int × Int)} (h : mayL n l = false) : partR n l = ([], 2) := by unfold partR; rw [h]; rfl
theorem partR_yes {q : Nat} {l : List (Int × Int)} (h : mayL (q : Int) l = true) : partR (q : Int) l = (partsL q l, 0) := by unfold partR; rw [h, if_pos rfl, Int.toNat_natCast]
theorem outL_snoc {P : List (List Int)} {l : List (Int × Int)} {i : Nat} {e : Int × Int} (h : l[i]? = some e) : outL P (l.take (i + 1)) = outL P (l.take i) ++ if (idxP P e.1.toNat : Int) ≠ (idxP P e.2.toNat : Int) then [e] else [] := by
 unfold outL;rw [List.take_add_one, h, List.filter_append]
 congr 1
 by_cases hx : (idxP P e.1.toNat : Int) ≠ (idxP P e.2.toNat : Int)
 ·rw [if_pos hx];simp [hx]
 ·rw [if_neg hx];simp only [Option.toList_some, List.filter_cons, decide_eq_false hx, List.filter_nil]
  rfl
theorem info_edge20 : (Tryd.prog.info? 39).map (fun i => (i.zero, i.size, i.bytes)) = some (some (.agg #[.int .i64 0, .int .i64 0]), 2, 16) := by kernel_rfl
theorem partOnce_walk (n0 : Int) (A : Option Addr) (m c : Nat) (l : List (Int × Int)) (w : World)
  (hr : Row w w.heap.size A (edgeC l)) (hl : l.length = m) (hmc : m ≤ c) (hc : c ≤ maxLen) (hT : Tab w) (h00 : 0 < w.heap.size) :
  Calls Tryd.prog 5 #[.int .i64 n0, .slice A m c] w fun e w' => e = .returned (.bool true) ∧ Only [] w w' := by
 obtain ⟨ie, hie, he0, he1, he2⟩ := info_parts info_edge20;have HWO := Hd (works20_any w hT h00);have HSM := Hd (fun (W : World) => small19_any n0 W);have HFE := Hd (fun (W : World) (O : Only [] w W) => few19_any A m c l W (row_up (hr.only O (by simp))) hl hmc hc);have HLL : (l.take (min m 60)).length = min m 60 := by rw [List.length_take, hl]; omega
 have HT := Hd (fun (W : World) (O : Only [] w W) => aI (hT.only h00 O (by simp)) (Nat.lt_of_lt_of_le h00 O.size));obtain ⟨M, hM⟩ : ∃ M, M = min m 60 := ⟨_, rfl⟩;have hM60 : M ≤ 60 := by omega
 rw [← hM] at HLL;simp only [← hM] at HFE;obtain ⟨L, hL⟩ : ∃ L, L = l.take M := ⟨_, rfl⟩;rw [← hL] at HLL;simp only [← hL] at HFE;have HLN := Hd HLL;obtain ⟨N, hN⟩ : ∃ N, N = smallN n0 := ⟨_, rfl⟩;rw [← hN] at HSM;clear hL hM HLL hr hT hN hl hmc hc;go_enter Tryd.func5, Tryd.ntmps5;go_wp2_with fail
 refine (HWO.out).mono ?_;rintro e w0 ⟨rfl, O0⟩;have HO0 := Hd O0;clear O0 HWO;go_wp2_with fail
 refine (HSM.out w0).mono ?_;rintro e w1 ⟨rfl, rfl⟩;go_wp2_with fail
 refine (HFE.out _ HO0.out).mono ?_;rintro e w1 ⟨v, rfl, hv, O1⟩;obtain ⟨B, cb, rfl, hb1, hb2, -, hrow⟩ := own_row hv;have HO1 := Hd (HO0.out.trans O1);have HROW := Hd hrow;have HPO := Hd (pof_any N B M cb L w1 hrow HLN.out (by omega) (HT.out _ HO1.out).1 (HT.out _ HO1.out).2);clear hv hrow O1 HFE HSM HO0
 cases hmy : mayL N L with
 | false =>
  rw [partR_no hmy] at HPO;have HWB := Hd (fun (W : World) (O : Only [] w1 W) => which_bad N B M cb L W (row_up (HROW.out.only O (by simp))) HLN.out (by omega) (HT.out W (HO1.out.trans O)).1 (HT.out W (HO1.out.trans O)).2 hmy);dsimp only at HPO;clear hmy;go_wp2_with fail
  refine (HPO.out).mono ?_;rintro e w2 ⟨qs, A2, c2, ⟨rfl, h1, h2, h3⟩, O2⟩;have HW2 := Hd (HWB.out w2 O2);have HO2 := Hd (HO1.out.trans O2);clear h1 h2 h3 O2 HWB HPO;go_wp2_with fail
  refine (HW2.out).mono ?_;rintro e w3 ⟨rfl, O3⟩;have HO3 := Hd (HO2.out.trans O3);clear O3 HW2;go_wp2
  go_ret
  exact ⟨rfl, HO3.out⟩
 | true =>
  obtain ⟨q, rfl, hq, wf, hg⟩ := may_wf hmy;rw [partR_yes hmy] at HPO;have HWG := Hd (fun (W : World) (O : Only [] w1 W) => which_good q B M cb L W (row_up (HROW.out.only O (by simp))) HLN.out (by omega) (HT.out W (HO1.out.trans O)).1 (HT.out W (HO1.out.trans O)).2 hmy);dsimp only at HPO;have HWF := Hd wf;have HSP := Hd (sum_parts wf);have HNR := Hd (out_no_round wf);have HIP := Hd (parts_in wf);clear hmy wf hg;obtain ⟨P, hP⟩ : ∃ P, P = partsL q L := ⟨_, rfl⟩;have HPN : Hid (P.length ≤ q) := Hd (by
   rw [hP];unfold partsL;rw [List.length_map];exact Nat.le_trans (List.length_filter_le _ _) (by simp))
  rw [← hP] at HPO HSP HNR HIP;simp only [← hP] at HWG;clear hP;go_wp2_with fail
  refine (HPO.out).mono ?_;rintro e w2 ⟨qs, A2, c2, ⟨rfl, h1, h2, h3⟩, O2⟩;have HO2 := Hd (HO1.out.trans O2);have HW2 := Hd (HWG.out w2 O2);have hs12 := O2.size;have HR2 := Hd (row_of_own h1);have HRB2 := Hd (HROW.out.only O2 (by simp));have HLQ := Hd h3;clear h1 h2 h3 O2 HWG HPO HROW HO1;go_wp2_with fail
  refine (HW2.out).mono ?_;rintro e w3 ⟨b, ⟨rfl, hB3⟩, O3⟩;have hg1 : w1.heap.size ≤ w3.heap.size := Nat.le_trans hs12 O3.size;have HO3 := Hd (HO2.out.trans O3);have HB3 := Hd hB3;have HR3 := Hd (HR2.out.only O3 (by simp));have HRB3 := Hd (HRB2.out.only O3 (by simp));clear hB3 O3 HW2 HR2 HRB2 HO2;go_wp2_with fail
  have hgw : w.heap.size ≤ w3.heap.size := HO3.out.size;have HE4 : Hid ((w3.alloc (.cells #[] 39)).ownsRow w3.heap.size 39 2 (.slice (some ⟨w3.heap.size, 0, none⟩) 0 0) 0 (edgeC (outL P (L.take 0)))) := Hd ⟨rfl, .inr ⟨w3.heap.size, 0, #[], rfl, Nat.le_refl _, Array.getElem?_push_size, Nat.le_refl _, by decide, rfl, rfl⟩⟩;have OA : Only [] w3 (w3.alloc (.cells #[] 39)) := (Only.refl [] w3).alloc _;have HO4 := Hd (HO3.out.trans OA);have HZ4 := Hd OA.size;have HB4 := Hd (OA.blk HB3.out (by simp));have HR4 := Hd (HR3.out.only OA (by simp));have HRB4 := Hd (HRB3.out.only OA (by simp));have HPL : Hid (P.length = qs.length) := Hd (by rw [← HLQ.out, List.length_map]);have HAT : Hid (∀ (i : Nat) (x : LP), qs[i]? = some x → P[i]? = some x.L) := Hd (fun i x h => by rw [← HLQ.out, List.getElem?_map, h]; rfl);have hql : qs.length ≤ q := by rw [← HPL.out]; exact HPN.out
  clear OA HB3 HR3 HRB3 HO3 HLQ HPN;generalize (w3.alloc (.cells #[] 39)) = w4 at *;generalize w3.heap.size = g0 at *;have HBD : Hid (∀ i, sumL (P.take i) ≤ q) := Hd (fun i => by rw [← HSP.out]; exact sumL_take P i)
  go_loopw [9, 11] (fun mv iv wr => ∃ i : Nat, iv = .int .i64 i ∧ mv = .int .i64 (sumL (P.take i) : Nat) ∧ i ≤ qs.length ∧ Hid (w4 = wr)) (fun _ iv _ => qs.length - (intOf iv).toNat)
  case atStart => exact ⟨0, rfl, rfl, by omega, Hd rfl⟩
  case round =>
   obtain ⟨i, rfl, rfl, hin, hw⟩ := hrel;obtain rfl := hw.out
   by_cases hlt : i < qs.length
   ·have h01 : (i : Int) < (qs.length : Int) := by omega
    have hi0 : (0 : Int) ≤ (i : Int) := Int.natCast_nonneg _;have hwi : IntKind.i64.wrap ((i : Int) + 1) = (i : Int) + 1 := IntWalk.i64_in _ (by omega);obtain ⟨x, hx⟩ : ∃ x, qs[i]? = some x := ⟨_, List.getElem?_eq_getElem hlt⟩;have hsu := sumL_succ (HAT.out i x hx);have hbd := HBD.out (i + 1);obtain ⟨br, off, e2, -, hbw, hcell⟩ := HR4.out.open_ (k := i) (by rw [List.length_map]; exact hlt);have e0 := hcell i (.slice (some ⟨x.b, 0, none⟩) x.L.length x.c) (by rw [List.getElem?_map, hx]; rfl);subst e2;have HSU := Hd hsu;rw [hsu] at hbd;obtain ⟨s0, hs0⟩ : ∃ s0, s0 = sumL (P.take i) := ⟨_, rfl⟩;obtain ⟨d, hd⟩ : ∃ d, d = x.L.length := ⟨_, rfl⟩;rw [← hs0, ← hd] at hbd;rw [← hd] at e0;rw [← hs0];rw [← hs0, ← hd] at HSU;have hwm : IntKind.i64.wrap ((s0 : Int) + (d : Int)) = (s0 : Int) + (d : Int) := IntWalk.i64_in _ (by omega);clear hcell hx hsu hs0 hd;go_wp2
    go_roundw
    case rel => first | exact ⟨i + 1, by go_num, by rw [HSU.out]; go_num, by omega, Hd trivial⟩ | exact ⟨i + 1, by go_num, by rw [HSU.out]; go_num, by omega, Hd rfl⟩ | exact ⟨_, _, ⟨i + 1, by go_num, by rw [HSU.out]; go_num, by omega, Hd rfl⟩, rfl, rfl⟩ | exact ⟨_, _, ⟨i + 1, by go_num, by rw [HSU.out]; go_num, by omega, Hd trivial⟩, rfl, rfl⟩
    case measure => simp [intOf]; omega
   ·have hid : qs.length = i := by omega
    have hdd : decide ((qs.length : Int) < (qs.length : Int)) = false := by simp
    have hsq : sumL (P.take i) = q := by rw [← hid, ← HPL.out, List.take_length]; exact HSP.out
    rw [hsq, ← hid];clear hid hin hlt hsq HBD HAT HPL HR4 HSP hw;go_wp2_with fail
    have hqM := hM60
    go_loopw [10, 12] (fun rv iv wr => ∃ (k : Nat) (A' : Option Addr) (c' : Nat), rv = .slice A' (outL P (L.take k)).length c' ∧ iv = .int .i64 k ∧ k ≤ M ∧ Hid (wr.ownsRow g0 39 2 (.slice A' (outL P (L.take k)).length c') (outL P (L.take k)).length (edgeC (outL P (L.take k)))) ∧ Hid (Blk wr b 3 (intsF q fun z => (idxP P z : Int))) ∧ Hid (Row wr w1.heap.size B (edgeC L)) ∧ Hid (g0 ≤ wr.heap.size) ∧ Hid (Only [] w wr)) (fun _ iv _ => M - (intOf iv).toNat)
    case atStart => exact ⟨0, some ⟨g0, 0, none⟩, 0, rfl, rfl, by omega, HE4, HB4, HRB4, HZ4, HO4⟩
    case round =>
     obtain ⟨k, A', c', rfl, rfl, hkM, hE, hB, hRB, hZ, hO⟩ := hrel;clear HE4 HB4 HRB4 HZ4 HO4
     by_cases hlt : k < M
     ·have h01 : (k : Int) < (M : Int) := by omega
      have hk0 : (0 : Int) ≤ (k : Int) := Int.natCast_nonneg _;have hwk : IntKind.i64.wrap ((k : Int) + 1) = (k : Int) + 1 := IntWalk.i64_in _ (by omega);obtain ⟨e, he⟩ : ∃ e, L[k]? = some e := ⟨_, List.getElem?_eq_getElem (by rw [HLN.out]; exact hlt)⟩;obtain ⟨ex, ey, rfl, hxn, hyn⟩ := HWF.out e (List.mem_of_getElem? he);obtain ⟨be, off, eB, -, hbw, hcell⟩ := hRB.out.open_ (k := k * 2) (by rw [edgeC_len, HLN.out]; omega);have hg := edgeC_get L k _ he;have d0 := hcell _ _ hg.1;have d1 := hcell _ _ hg.2;rw [show off + (k * 2 + 1) = off + k * 2 + 1 by omega] at d1;dsimp only at d0 d1;have k0 := (hB.out.at_ ex).trans (intsF_at _ hxn);have k1 := (hB.out.at_ ey).trans (intsF_at _ hyn);have lb := hB.out.lt;have hx0 : (0 : Int) ≤ (ex : Int) := Int.natCast_nonneg _;have hy0 : (0 : Int) ≤ (ey : Int) := Int.natCast_nonneg _;have hxn' : (ex : Int) < (q : Int) := by omega
      have hyn' : (ey : Int) < (q : Int) := by omega
      have hs1 : (idxP P ex : Int) = (idxP P ey : Int) → outL P (L.take (k + 1)) = outL P (L.take k) := fun h => by
       rw [outL_snoc (P := P) he, if_neg (by simpa using h), List.append_nil]
      have hs2 : ¬ (idxP P ex : Int) = (idxP P ey : Int) → outL P (L.take (k + 1)) = outL P (L.take k) ++ [((ex : Int), (ey : Int))] := fun h => by
       rw [outL_snoc (P := P) he, if_pos (by simpa using h)]
      have hol := Nat.le_trans (outL_len P (L.take k)) (by rw [List.length_take]; exact Nat.min_le_left _ _);clear hcell hg he;obtain ⟨ix, hix⟩ : ∃ ix, ix = (idxP P ex : Int) := ⟨_, rfl⟩;obtain ⟨iy, hiy⟩ : ∃ iy, iy = (idxP P ey : Int) := ⟨_, rfl⟩;rw [← hix] at k0;rw [← hiy] at k1;rw [← hix, ← hiy] at hs1 hs2;clear hix hiy;have HRB := Hd (row_up hRB.out);subst eB
      by_cases hxy : ix = iy
      ·subst hxy;have hbb : decide (ix = ix) = true := by simp
       have HSE : Hid (outL P (L.take (k + 1)) = outL P (L.take k)) := Hd (hs1 rfl);have OD := fun d => (Only.refl [] wr).drewN d;have HOD := Hd OD;clear hs1 hs2 OD;go_wp2_with fail
       go_quiet (fail)
       have HED : Hid ((wr.drewN nq).ownsRow g0 39 2 (.slice A' (outL P (L.take (k + 1))).length c') (outL P (L.take (k + 1))).length (edgeC (outL P (L.take (k + 1))))) := Hd (by rw [HSE.out]; exact own_only hE.out (HOD.out nq) (by simp));have HBD := Hd ((HOD.out nq).blk hB.out (by simp));have HRD := Hd (hRB.out.only (HOD.out nq) (by simp));have HOE := Hd (hO.out.trans (HOD.out nq));have HZD : Hid (g0 ≤ (wr.drewN nq).heap.size) := Hd (Nat.le_trans hZ.out (HOD.out nq).size);go_wp2
       go_roundw
       case rel => first | exact ⟨k + 1, A', c', by rw [HSE.out], by go_num, by omega, HED, HBD, HRD, HZD, HOE⟩ | exact ⟨_, _, ⟨k + 1, A', c', by rw [HSE.out], by go_num, by omega, HED, HBD, HRD, HZD, HOE⟩, rfl, rfl⟩
       case measure => simp [intOf]; omega
      ·have hbb : decide (ix = iy) = false := by simpa using hxy
       have HSE : Hid (outL P (L.take (k + 1)) = outL P (L.take k) ++ [((ex : Int), (ey : Int))]) := Hd (hs2 hxy);clear hs1 hs2;have HOD := Hd (fun d => (Only.refl [] wr).drewN d);go_wp2_with fail
       go_quiet (fail)
       have HED := Hd (own_only hE.out (HOD.out nq) (by simp));have HBD := Hd ((HOD.out nq).blk hB.out (by simp));have HRD := Hd (hRB.out.only (HOD.out nq) (by simp));have HOE := Hd (hO.out.trans (HOD.out nq));have HZD : Hid (g0 ≤ (wr.drewN nq).heap.size) := Hd (Nat.le_trans hZ.out (HOD.out nq).size);have d2 := ((HOD.out nq).cell (p := ⟨be, off + k * 2, none⟩) (by omega) (by simp)).trans d0;have d3 := ((HOD.out nq).cell (p := ⟨be, off + k * 2 + 1, none⟩) (by omega) (by simp)).trans d1;have hsz := HZD.out;have hbw2 : be < (wr.drewN nq).heap.size := Nat.lt_of_lt_of_le (by omega) (HOD.out nq).size;clear d0 d1 k0 k1 lb hE hB hRB hO HOD HRB hbw;generalize wr.drewN nq = w6 at *;go_wp2_with (
        at_builtin
        refine wpList_append_row _ rfl (.tmp 79) (.tmp 84) 22 rfl g0 39 ie _ 2 16 Tryd.underlying22 hie he0 he1 he2 rfl (by omega) _ _ _ (by rfl) (own_only HED.out ((Only.refl [] w6).alloc (.cells #[.int .i64 (ex : Int), .int .i64 (ey : Int)] 39)) (fun _ _ => by simp)) _ _ 1 1 [.int .i64 (ex : Int), .int .i64 (ey : Int)] (by rfl) (by rfl) (row_lit _ _ _) (by intro u hu; simp at hu; rcases hu with rfl | rfl <;> rfl) (by unfold maxLen; omega) (by omega) (by simp; omega) ?_;intro v' w7 hown hgrow hat;have OA := (Only.refl [] w6).alloc (.cells #[.int .i64 (ex : Int), .int .i64 (ey : Int)] 39);have OV := only_grown hgrow;have hEA := own_only HED.out OA (fun _ _ => by simp);obtain ⟨A7, c7, rfl, -, -, -, -⟩ := own_row hown;have HE7 : Hid (w7.ownsRow g0 39 2 (.slice A7 (outL P (L.take (k + 1))).length c7) (outL P (L.take (k + 1))).length (edgeC (outL P (L.take (k + 1))))) := Hd (by rw [HSE.out, List.length_append, edgeC_append]; exact hown);have HO7 := Hd ((HOE.out.step OA (by simp)).step OV (fun i hi hl => by have := (hEA.lt i (by simpa using hi)).1; omega));have HZ7 := Hd (Nat.le_trans hsz (Nat.le_trans OA.size OV.size));have HB7 := Hd (OV.blk (OA.blk HBD.out (by simp)) (own_apart hEA (OA.blk HBD.out (by simp)) (by decide)));have HR7 := Hd ((HRD.out.only OA (by simp)).only OV (fun i hi => by have := (hEA.lt i (by simpa using hi)).1; omega));clear hown hgrow hat OA OV hEA)
       go_roundw
       case rel => first | exact ⟨k + 1, A7, c7, by rw [HSE.out, List.length_append]; rfl, by go_num, by omega, HE7, HB7, HR7, HZ7, HO7⟩ | exact ⟨_, _, ⟨k + 1, A7, c7, by rw [HSE.out, List.length_append]; rfl, by go_num, by omega, HE7, HB7, HR7, HZ7, HO7⟩, rfl, rfl⟩
       case measure => simp [intOf]; omega
     ·have hkM2 : M = k := by omega
      subst hkM2;have hdd2 : decide ((M : Int) < (M : Int)) = false := by simp
      have HTL : Hid (L.take M = L) := Hd (List.take_of_length_le (by rw [HLN.out]; exact Nat.le_refl _));rw [HTL.out] at hE ⊢;have HMO := may_good hq (outL_wf (P := P) HWF.out);have HPR := Hd (pround_any (q : Int) A' _ c' (outL P L) wr (row_of_own hE.out) rfl (by have := outL_len P L; rw [HLN.out] at this; omega) (HT.out _ hO.out).1 (HT.out _ hO.out).2);rw [pround_yes HMO, HNR.out] at HPR;dsimp only at HPR;clear HMO hE hB hRB HTL;go_wp2_with fail
      refine (HPR.out).mono ?_;rintro e w5 ⟨rfl, O5⟩;have HO5 := Hd (hO.out.trans O5);clear O5 HPR hO;go_wp2
      go_ret
      exact ⟨rfl, HO5.out⟩
end Go.Proofs.YtlemjgjpglmphaaDoor
