/- Parts. -/
import Derived.Test.YtbiclliooidkjaaGreatDoorLaw41AllK32
import Derived.Test.YtbiclliooidkjaaGreatDoorLaw41AllK34
set_option maxRecDepth 10000
set_option maxHeartbeats 16000000
set_option linter.unusedVariables false
set_option linter.unusedSimpArgs false
namespace Go.Proofs.YtbiclliooidkjaaGreatDoor
open Go.RowKit
open Go.Lib hiding intOf
attribute [local go_sem ↓] Go.wp_at_zero Go.wp_at_succ
set_option maxRecDepth 100000 in
theorem rbof_any (A0 A1 A2 : Option Addr) (n0 n1 n2 c0 c1 c2 B : Nat) (h : Hst) (y : Int) (w : World) (hg : HIn w B A0 A1 A2 n0 n1 n2 h) :
  Calls Tryz.prog 7 #[hval A0 A1 A2 n0 n1 n2 c0 c1 c2, .int .i64 y] w fun e w' => e = .returned (.tuple #[.int .i64 (bndR h y).1, .int .i64 (bndR h y).2]) ∧ Only [] w w' := by
 obtain ⟨i0, hi, hz0, hz1, hz2⟩ := info_parts info_int;have O1 := (Only.refl [] w).alloc (.cells #[.slice A0 n0 c0, .slice A1 n1 c1, .slice A2 n2 c2] 25);have HBY := Hd (rby_any A0 A1 A2 n0 n1 n2 c0 c1 c2 B h y _ (hg.same O1));have HSM := Hd (by_small hg.sm y);have HMY := Hd (fun e => by_may0 (h := h) (y := y) e);have HU := Hd hg.u;have HO1 := Hd O1;have HB1 := Hd (Blk.made w 25 #[.slice A0 n0 c0, .slice A1 n1 c1, .slice A2 n2 c2]);unfold hval at HBY ⊢;unfold bndR;generalize hby : byR h y = R at *;obtain ⟨G, ye⟩ := R;dsimp only at HBY HSM HMY ⊢;have HL1 := Hd (infL_le HSM.out);have HL2 := Hd (losL_le HSM.out);have HL3 := Hd (reads_le HSM.out);have HL4 := Hd (mostH_le HSM.out);have hm2 : G.l.length ≤ 1000 := HSM.out.nl;obtain ⟨⟨ra, rb⟩, hr⟩ : ∃ r, (if ye ≠ 0 then ((0 : Int), ye) else prodR (bndL G)) = r := ⟨_, rfl⟩;rw [hr];have HR := Hd hr;dsimp only;clear O1 hg hby hr;go_enter Tryz.func7, Tryz.ntmps7;go_upto_region 1 with (fail)
 generalize (w.alloc (.cells #[.slice A0 n0 c0, .slice A1 n1 c1, .slice A2 n2 c2] 25)) = w1 at *;generalize w.heap.size = g1 at *;have lB := HB1.out.lt;have y0 := HB1.out.at_ 0;have y1 := HB1.out.at_ 1;have y2 := HB1.out.at_ 2;simp at y0 y1 y2;go_wp2_with fail
 refine (HBY.out).mono ?_;rintro e w2 ⟨B0, B1, B2, d0, d1, d2, ⟨rfl, hN⟩, O2⟩;have HO2 := Hd (HO1.out.trans O2);have HN := Hd hN;clear O2 hN HBY HO1 HB1 lB y0 y1 y2
 by_cases hye : ye = 0
 ·subst hye;have HR2 : Hid (prodR (bndL G) = (ra, rb)) := Hd (by have := HR.out; rwa [if_neg (by decide)] at this);have hmay := HMY.out rfl;clear HR HMY;go_upto_region 2 with (fail)
  have OX := (Only.refl [] w2).alloc (.cells #[.slice B0 G.ss.length d0, .slice B1 G.ks.length d1, .slice B2 G.l.length d2] 25);have HB3 := Hd (Blk.made w2 25 #[.slice B0 G.ss.length d0, .slice B1 G.ks.length d1, .slice B2 G.l.length d2]);have HO3 := Hd (HO2.out.trans OX);have HI3 : Hid (HIn (w2.alloc (.cells #[.slice B0 G.ss.length d0, .slice B1 G.ks.length d1, .slice B2 G.l.length d2] 25)) w2.heap.size B0 B1 B2 G.ss.length G.ks.length G.l.length G) := Hd ⟨HN.out.only OX (by simp), rfl, rfl, rfl, HSM.out, HU.out.only HO3.out⟩;clear OX HO2 HN;generalize (w2.alloc (.cells #[.slice B0 G.ss.length d0, .slice B1 G.ks.length d1, .slice B2 G.l.length d2] 25)) = w3 at *;generalize hgx : w2.heap.size = gx at *;have HMO := Hd (rmost15_any B0 B1 B2 G.ss.length G.ks.length G.l.length d0 d1 d2 _ G w3 HI3.out);have HIF := Hd (fun w' (O : Only [] w3 w') => rinfos_any B0 B1 B2 G.ss.length G.ks.length G.l.length d0 d1 d2 _ G w' (HI3.out.same O).at_.r2 rfl hm2);have HLS := Hd (fun w' (O : Only [] w3 w') => rlost_any B0 B1 B2 G.ss.length G.ks.length G.l.length d0 d1 d2 _ G w' (HI3.out.same O).at_.r2 rfl hm2 HSM.out.no);rw [← infL_may hmay] at HIF;rw [← losL_may hmay] at HLS;unfold hval at HMO HIF HLS;have HBL : Hid (bndL G = List.replicate (infL G).length 2 ++ List.replicate (losL G).length ((mostH G : Int) + 2) ++ List.replicate (readsN G.l) ((mostH G : Int) + 1) ++ upL (G.l.length + 1) ++ [(G.l.length : Int) + 1]) := Hd rfl;have HRN := Hd (fun k => readsN_le (G.l.take k) (fun t ht => HSM.out.no t (List.mem_of_mem_take ht)));have HNO := Hd HSM.out.no;have HN2 : Hid (G.l.length = G.l.length) := Hd rfl;have HLR := Hd (fun w' (O : Only [] w3 w') => (HI3.out.same O).at_.r2);generalize hbl : bndL G = L at *;generalize G.ss.length = m0 at *;generalize G.ks.length = m1 at *;generalize hm2e : G.l.length = m2 at *;generalize mostH G = M at *;have HM2 := Hd hm2e;have hM := HL4.out;clear hbl HI3 HSM hgx HL4 hm2e HN2 hmay;have hwM2 : IntKind.i64.wrap ((M : Int) + 2) = (M : Int) + 2 := IntWalk.i64_in _ (by omega);have hwM1 : IntKind.i64.wrap ((M : Int) + 1) = (M : Int) + 1 := IntWalk.i64_in _ (by omega);have hwm2 : IntKind.i64.wrap ((m2 : Int) + 1) = (m2 : Int) + 1 := IntWalk.i64_in _ (by omega);have lB := HB3.out.lt;have y0 := HB3.out.at_ 0;have y1 := HB3.out.at_ 1;have y2 := HB3.out.at_ 2;simp at y0 y1 y2;go_wp2_with fail
  clear lB y0 y1 y2;refine (HMO.out).mono ?_;rintro e w5 ⟨rfl, O5⟩;have HW5 := Hd O5;have HB5 := Hd (O5.blk HB3.out (by simp));clear O5 HMO;go_wp2_with fail
  go_loopw [9, 10] (fun nv iv wr => ∃ k : Nat, iv = .int .i64 k ∧ k ≤ m2 ∧ nv = .int .i64 ((readsN (G.l.take k) : Nat) : Int) ∧ Hid (w5 = wr)) (fun _ iv _ => m2 - (intOf iv).toNat)
  case atStart => exact ⟨0, rfl, by omega, rfl, Hd rfl⟩
  case round =>
   obtain ⟨k, rfl, hk, rfl, hO⟩ := hrel;have heq := hO.out;subst heq;clear hO;have lB := HB5.out.lt;have y2 := HB5.out.at_ 2;simp at y2
   by_cases hlt : k < m2
   ·obtain ⟨x, hx⟩ : ∃ x, G.l[k]? = some x := ⟨_, List.getElem?_eq_getElem (by rw [HM2.out]; exact hlt)⟩;obtain ⟨b, off, A', cp, rfl, -, hbw, hT, hOk⟩ := (HLR.out w5 HW5.out).at_ hx;obtain ⟨a0, a1, a2⟩ := hT;have HPT := Hd (readsN_take hx);have hm1 := HNO.out x (List.mem_of_getElem? hx);have HROW := Hd hOk.row;have hrn := HRN.out k;rw [List.length_take] at hrn;obtain ⟨s, f, ops⟩ := x;dsimp only at a0 a1 a2 HPT hm1 HROW;generalize hm : ops.length = m at *;have HMM := Hd hm;generalize readsN (G.l.take k) = R at *;have h01 : (k : Int) < (m2 : Int) := by omega
    have hk0 : (0 : Int) ≤ (k : Int) := Int.natCast_nonneg _;have hwk : IntKind.i64.wrap ((k : Int) + 1) = (k : Int) + 1 := IntWalk.i64_in _ (by omega);clear hOk hx hm;go_wp2_with fail
    go_loopw [9, 11] (fun nv iv wr => ∃ j : Nat, iv = .int .i64 j ∧ j ≤ m ∧ nv = .int .i64 ((R + readsO (ops.take j) : Nat) : Int) ∧ Hid (w5 = wr)) (fun _ iv _ => m - (intOf iv).toNat)
    case atStart => exact ⟨0, rfl, by omega, by simp [readsO], Hd rfl⟩
    case round =>
     obtain ⟨j, rfl, hj, rfl, hO⟩ := hrel;have heq := hO.out;subst heq;clear hO
     by_cases hlt2 : j < m
     ·obtain ⟨y, hy⟩ : ∃ y, ops[j]? = some y := ⟨_, List.getElem?_eq_getElem (by rw [HMM.out]; exact hlt2)⟩;obtain ⟨b', off', rfl, -, hbw', hP⟩ := row_op HROW.out hy;obtain ⟨p0, p1, p2, p3⟩ := hP;have HTT := Hd (readsO_take hy);have hrl := readsO_le (ops.take j);rw [List.length_take] at hrl;obtain ⟨yw, yk, yv, yn⟩ := y;dsimp only at p0 p1 p2 p3 HTT;generalize readsO (ops.take j) = q at *;have h02 : (j : Int) < (m : Int) := by omega
      have hj0 : (0 : Int) ≤ (j : Int) := Int.natCast_nonneg _;have hwj : IntKind.i64.wrap ((j : Int) + 1) = (j : Int) + 1 := IntWalk.i64_in _ (by omega);have hwq : IntKind.i64.wrap ((R : Int) + (q : Int) + 1) = (R : Int) + (q : Int) + 1 := IntWalk.i64_in _ (by omega);clear hy
      cases yw with
      | true =>
       have HE : Hid (readsO (ops.take (j + 1)) = q) := Hd (by rw [HTT.out]; simp);clear HTT;go_wp2
       go_roundw
       case rel => exact ⟨j + 1, by go_num, by omega, by rw [HE.out], by first | exact Hd rfl | exact Hd trivial⟩
       case measure => simp [intOf]; omega
      | false =>
       have HE : Hid (readsO (ops.take (j + 1)) = q + 1) := Hd (by rw [HTT.out]; simp);clear HTT;go_wp2
       go_roundw
       case rel => exact ⟨j + 1, by go_num, by omega, by rw [HE.out]; first | done | rfl | (congr 1; omega), by first | exact Hd rfl | exact Hd trivial⟩
       case measure => simp [intOf]; omega
     ·obtain rfl : j = m := by omega
      have hd3 : decide ((j : Int) < (j : Int)) = false := by simp
      have HE : Hid (R + readsO (ops.take j) = readsN (G.l.take (k + 1))) := Hd (by rw [HPT.out, show ops.take j = ops from List.take_of_length_le (by rw [HMM.out]; exact Nat.le_refl _)]);go_wp2
      go_roundw
      case rel => exact ⟨k + 1, by go_num, by omega, by rw [HE.out], by first | exact Hd rfl | exact Hd trivial⟩
      case measure => simp [intOf]; omega
   ·obtain rfl : k = m2 := by omega
    have hd : decide ((k : Int) < (k : Int)) = false := by simp
    have HE : Hid (G.l.take k = G.l) := Hd (List.take_of_length_le (by rw [HM2.out]; exact Nat.le_refl _));have hrd := HL3.out;rw [HE.out];generalize readsN G.l = p3 at *;clear HE HRN HNO HLR HL3 hlt;have y0 := HB5.out.at_ 0;have y1 := HB5.out.at_ 1;simp at y0 y1;go_wp2_with fail
    clear lB y0 y1 y2;refine (HIF.out w5 HW5.out).mono ?_;rintro e w6 ⟨Ai, ci, ⟨rfl, -⟩, O6⟩;have HW6 := Hd (HW5.out.trans O6);have HB6 := Hd (O6.blk HB5.out (by simp));generalize (infL G).length = p1 at *;have hp1 := HL1.out;have HQ := Hd (power_any (.slice none 0 0) 0 [] 2 p1 w3 w6 (World.ownsRow_nil _ _ _ _) HW6.out (by omega) (by omega));rw [Nat.zero_add, List.nil_append] at HQ;clear O6 HIF HB5 HW5 HL1;go_wp2_with fail
    refine (HQ.out).mono ?_;rintro e w7 ⟨V7, ⟨rfl, own7⟩, O7⟩;have HW7 := Hd O7;have HB7 := Hd (O7.blk HB3.out (by simp));have HV7 := Hd own7;obtain ⟨A7, c7, rfl, -, -, -, -⟩ := own_row own7;have lB := HB7.out.lt;have y0 := HB7.out.at_ 0;have y1 := HB7.out.at_ 1;have y2 := HB7.out.at_ 2;simp at y0 y1 y2;clear O7 own7 HQ HW6 HB6;go_wp2_with fail
    clear lB y0 y1 y2;refine (HLS.out w7 HW7.out).mono ?_;rintro e w8 ⟨Al, cl, ⟨rfl, -⟩, O8⟩;have HW8 := Hd (HW7.out.trans O8);have HV8 := Hd (own_only HV7.out O8 (by simp));generalize (losL G).length = p2 at *;have hp2 := HL2.out;have HQ := Hd (power_any (.slice A7 p1 c7) p1 (List.replicate p1 2) ((M : Int) + 2) p2 w3 w8 HV8.out HW8.out (by omega) (by omega));clear O8 HLS HB7 HW7 HV7 HV8 HL2;go_wp2_with fail
    refine (HQ.out).mono ?_;rintro e w9 ⟨V9, ⟨rfl, own9⟩, O9⟩;have HW9 := Hd O9;have HV9 := Hd own9;obtain ⟨A9, c9, rfl, -, -, -, -⟩ := own_row own9;clear O9 own9 HQ HW8;have HQ := Hd (power_any (.slice A9 (p1 + p2) c9) (p1 + p2) (List.replicate p1 2 ++ List.replicate p2 ((M : Int) + 2)) ((M : Int) + 1) p3 w3 w9 HV9.out HW9.out (by omega) (by omega));go_wp2_with fail
    refine (HQ.out).mono ?_;rintro e w10 ⟨V10, ⟨rfl, own10⟩, O10⟩;have HW10 := Hd O10;have HV10 := Hd own10;obtain ⟨A10, c10, rfl, -, -, -, -⟩ := own_row own10;clear O10 own10 HQ HW9 HV9;generalize hL0 : List.replicate p1 (2 : Int) ++ List.replicate p2 ((M : Int) + 2) ++ List.replicate p3 ((M : Int) + 1) = L0 at *;have HV0 : Hid (w10.ownsRow w3.heap.size 3 1 (.slice A10 (p1 + p2 + p3) c10) (p1 + p2 + p3 + 0) ((L0 ++ upL 0).map (Value.int .i64))) := Hd (by simpa [upL] using HV10.out);have hP : p1 + p2 + p3 ≤ 2001000 := by omega
    generalize p1 + p2 + p3 = P at *;clear HV10;obtain ⟨wo, hwo⟩ : ∃ wo : World, wo = w10 := ⟨_, rfl⟩;subst hwo;go_wp2_with fail
    go_loopw [12, 13] (fun v iv wr => ∃ q : Nat, iv = .int .i64 ((q : Int) + 1) ∧ q ≤ k + 1 ∧ Hid (wr.ownsRow w3.heap.size 3 1 v (P + q) ((L0 ++ upL q).map (Value.int .i64))) ∧ Hid (Only [] w3 wr)) (fun _ iv _ => k + 2 - (intOf iv).toNat)
    case atStart => exact ⟨0, rfl, by omega, HV0, HW10⟩
    case round =>
     obtain ⟨q, rfl, hq, hV, hO⟩ := hrel;obtain ⟨Ak, ck, rfl, -, -, -, -⟩ := own_row hV.out;have hsz := hO.out.size;have HBr := Hd (hO.out.blk HB3.out (by simp));have lB := HBr.out.lt;have y0 := HBr.out.at_ 0;have y1 := HBr.out.at_ 1;have y2 := HBr.out.at_ 2;simp at y0 y1 y2;have hwk : IntKind.i64.wrap ((q : Int) + 1 + 1) = (q : Int) + 1 + 1 := IntWalk.i64_in _ (by omega)
     by_cases hlt : q < k + 1
     ·have h01 : (q : Int) + 1 ≤ (k : Int) + 1 := by omega
      have h02 : decide ((q : Int) ≤ (k : Int)) = true := by simp; omega
      have h03 : decide (q ≤ k) = true := by simp; omega
      go_wp2_with (
       at_builtin
       refine wpList_append_row _ rfl (.tmp 80) (.tmp 82) _ rfl w3.heap.size 3 i0 _ 1 8 Tryz.underlying32 hi hz0 hz1 hz2 rfl (by omega) _ (P + q) ((L0 ++ upL q).map (Value.int .i64)) (by rfl) (own_only hV.out ((Only.refl [] wr).alloc _) (by simp)) (wr.heap.size + 1) (some ⟨wr.heap.size, 0, none⟩) 1 1 [.int .i64 ((q : Int) + 1)] (by rfl) (by rfl) (row_lit wr 3 #[.int .i64 ((q : Int) + 1)]) (by intro u hu; simp at hu; subst hu; rfl) (by unfold maxLen; omega) (by omega) (by simp; omega) ?_;intro v4 w4 hown4 hgrow4 hat4;have HV4 := Hd hown4;have HO4 := Hd ((hO.out.alloc (.cells #[.int .i64 ((q : Int) + 1)] 3)).step (only_grown hgrow4) (fun i hi hl => by have := (hV.out.lt i (by simpa using hi)).1; omega));clear hown4 hgrow4 hat4)
      have HV5 : Hid (w4.ownsRow w3.heap.size 3 1 v4 (P + (q + 1)) ((L0 ++ upL (q + 1)).map (Value.int .i64))) := Hd (by
       have := HV4.out;rw [upL_succ, ← List.append_assoc, List.map_append];exact this)
      clear HV4 hV hO HBr lB y0 y1 y2;go_wp2
      go_roundw
      case rel => exact ⟨q + 1, by go_num, by omega, HV5, HO4⟩
      case measure => simp [intOf]; omega
     ·obtain rfl : q = k + 1 := by omega
      have hd : decide (((k + 1 : Nat) : Int) + 1 ≤ (k : Int) + 1) = false := by simp; omega
      have hd2 : decide (((k + 1 : Nat) : Int) ≤ (k : Int)) = false := by simp; omega
      have hd3 : decide ((k : Int) + 1 ≤ (k : Int)) = false := by simp; omega
      have hd4 : decide (k + 1 ≤ k) = false := by simp
      have HLF : Hid (L = L0 ++ upL (k + 1) ++ [(k : Int) + 1]) := Hd (by first | rw [HBL.out] | rw [HBL.out, hL0]);have HLN : Hid (L.length = P + (k + 1) + 1) := Hd (by rw [HLF.out, List.length_append, List.length_append, upL_len]; have := hV.out.1; rw [List.length_map, List.length_append, upL_len] at this; simp; omega);have HLB : Hid (∀ x ∈ L, x ≤ 9223372036854775807) := Hd (fun x hx => by
       rw [HLF.out] at hx;rcases List.mem_append.1 hx with hx | hx
       ·rcases List.mem_append.1 hx with hx | hx
        ·rw [← hL0] at hx;rcases List.mem_append.1 hx with hx | hx
         ·rcases List.mem_append.1 hx with hx | hx
          ·rw [List.eq_of_mem_replicate hx]; omega
          ·rw [List.eq_of_mem_replicate hx]; omega
         ·rw [List.eq_of_mem_replicate hx]; omega
        ·have := upL_mem hx; omega
       ·rw [List.mem_singleton] at hx; omega)
      clear HBL hL0;go_wp2_with (
       at_builtin
       refine wpList_append_row _ rfl (.tmp 84) (.tmp 89) _ rfl w3.heap.size 3 i0 _ 1 8 Tryz.underlying32 hi hz0 hz1 hz2 rfl (by omega) _ (P + (k + 1)) ((L0 ++ upL (k + 1)).map (Value.int .i64)) (by rfl) (own_only hV.out ((Only.refl [] wr).alloc _) (by simp)) (wr.heap.size + 1) (some ⟨wr.heap.size, 0, none⟩) 1 1 [.int .i64 ((k : Int) + 1)] (by rfl) (by rfl) (row_lit wr 3 #[.int .i64 ((k : Int) + 1)]) (by intro u hu; simp at hu; subst hu; rfl) (by unfold maxLen; omega) (by omega) (by simp; omega) ?_;intro v4 w4 hown4 hgrow4 hat4;have HO4 := Hd (HO3.out.trans ((hO.out.alloc (.cells #[.int .i64 ((k : Int) + 1)] 3)).step (only_grown hgrow4) (fun i hi hl => by have := (hV.out.lt i (by simpa using hi)).1; omega)));obtain ⟨A4, c4, rfl, -, -, -, hr4⟩ := own_row hown4;have HR4 := Hd hr4;clear hown4 hgrow4 hat4 hr4)
      have HPD := Hd (rproduct_any A4 (P + (k + 1) + 1) c4 _ L w4 (by have := HR4.out; rw [HLF.out, List.map_append]; exact this) HLN.out (by omega) HLB.out);rw [HR2.out] at HPD;dsimp only at HPD;clear HR4 hV hO HBr lB y0 y1 y2;go_wp2_with fail
      refine (HPD.out).mono ?_;rintro e w6 ⟨rfl, rfl⟩;go_wp2
      go_ret2
      exact ⟨rfl, HO4.out⟩
 ·obtain ⟨rfl, rfl⟩ : ra = 0 ∧ rb = ye := by have := HR.out; rw [if_pos hye] at this; injection this with h1 h2; exact ⟨h1.symm, h2.symm⟩
  have hne : (rb != 0) = true := by simpa using hye
  have HO3 := Hd (HO2.out.alloc (.cells #[.slice B0 G.ss.length d0, .slice B1 G.ks.length d1, .slice B2 G.l.length d2] 25));clear hye;go_wp2
  go_ret2
  exact ⟨rfl, HO3.out⟩
end Go.Proofs.YtbiclliooidkjaaGreatDoor
