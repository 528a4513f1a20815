/- Parts. -/
import Derived.Test.YthdofaoamljkfaaGreatDoorLaw24AllK42
set_option maxRecDepth 10000
set_option maxHeartbeats 16000000
set_option linter.unusedVariables false
set_option linter.unusedSimpArgs false
namespace Go.Proofs.YthdofaoamljkfaaGreatDoor
open Go.RowKit
open Go.Lib hiding intOf
attribute [local go_sem ↓] Go.wp_at_zero Go.wp_at_succ
def outF (t : Tx) (i j : Nat) : List (Int × Int) := if t.f = 1 then plI i (outN t.ops j) else []
theorem outF_zero (t : Tx) (i : Nat) : outF t i 0 = [] := by unfold outF; split <;> rfl
theorem outF_all (t : Tx) (i : Nat) {j : Nat} (h : t.ops.length ≤ j) : outF t i j = outT t (i : Int) := by
 unfold outF outT plI;rw [outN_all t.ops h]
theorem outF_step {t : Tx} {i j : Nat} {y : Op4} (h : t.ops[j]? = some y) : outF t i (j + 1) = outF t i j ++ if t.f = 1 ∧ outAt t.ops j y = true then [((i : Int), (j : Int))] else [] := by
 unfold outF
 by_cases h1 : t.f = 1
 ·rw [if_pos h1, if_pos h1, outN_step h];unfold plI;rw [List.map_append]
  by_cases h2 : outAt t.ops j y = true
  ·rw [if_pos h2, if_pos ⟨h1, h2⟩]; rfl
  ·rw [if_neg h2, if_neg (fun c => h2 c.2)]; rfl
 ·rw [if_neg h1, if_neg h1, if_neg (fun c => h1 c.1)]; rfl
theorem outF_le (t : Tx) (i j : Nat) : (outF t i j).length ≤ j := by
 unfold outF plI
 split
 ·rw [List.length_map]; exact outN_le _ _
 ·simp
theorem rdsL_len {l : List Tx} (hl : ∀ t ∈ l, t.ops.length ≤ 20) : (rdsL l).length ≤ l.length * 20 := by
 have h1 := rdsQ_le hl (whichL comT l).length;rw [rdsQ_all l (Nat.le_refl _)] at h1;have h2 := which_le comT l;exact Nat.le_trans h1 (Nat.mul_le_mul_right _ h2)
theorem rreads24_any (A0 A1 A2 : Option Addr) (n0 n1 n2 c0 c1 c2 B : Nat) (h : Hst) (w : World) (hg : HIn w B A0 A1 A2 n0 n1 n2 h) (hm : mayH h = true) :
  Calls Tryz.prog 16 #[hval A0 A1 A2 n0 n1 n2 c0 c1 c2] w fun e w' => ∃ V, (e = .returned V ∧ w'.ownsRow w.heap.size 56 2 V (rdsL h.l).length (placeC (rdsL h.l))) ∧ Only [] w w' := by
 obtain ⟨i0, hi, hz0, hz1, hz2⟩ := info_parts info_place;have hn2 : n2 ≤ 40 := by rw [← hg.n2]; exact (may_ops hm).1
 have HOP := Hd (may_ops hm).2.1;have HN2 := Hd hg.n2;have HG := Hd (fun w' (O : Only [] w w') => (hg.same O).at_.r2);have HRO := Hd (fun (i j : Nat) w' (O : Only [] w w') => router_any A0 A1 A2 n0 n1 n2 c0 c1 c2 B h (i : Int) (j : Int) w' (hg.same O));have HOE := Hd (fun (i k : Nat) (t : Tx) (o : Op4) ht ho => outer_out (i := i) (k := k) (t := t) (o := o) hm ht ho);unfold hval at *;clear hg hm;have HO := Hd (((Only.refl [] w).alloc (.cells #[.slice A0 n0 c0, .slice A1 n1 c1, .slice A2 n2 c2] 25)).alloc (.cells #[] 56));have HB := Hd ((Blk.made w 25 #[.slice A0 n0 c0, .slice A1 n1 c1, .slice A2 n2 c2]).alloc (.cells #[] 56));have HV := Hd (World.ownsRow_lit (w.alloc (.cells #[.slice A0 n0 c0, .slice A1 n1 c1, .slice A2 n2 c2] 25)) (e := 56) (size := 2) #[] 0 (Nat.le_refl _) (by unfold maxLen; omega) rfl);rw [World.size_alloc] at HV;go_enter Tryz.func16, Tryz.ntmps16;go_wp2_with fail
 go_loopw [3, 4] (fun V iv wr => ∃ k : Nat, iv = .int .i64 k ∧ k ≤ n2 ∧ Hid (wr.ownsRow (w.heap.size + 1) 56 2 V (rdsL (h.l.take k)).length (placeC (rdsL (h.l.take k)))) ∧ Hid (Blk wr w.heap.size 25 #[.slice A0 n0 c0, .slice A1 n1 c1, .slice A2 n2 c2]) ∧ Hid (Only [] w wr)) (fun _ iv _ => n2 - (intOf iv).toNat)
 case atStart => exact ⟨0, rfl, by omega, HV, HB, HO⟩
 case round =>
  obtain ⟨k, rfl, hk, hV, hB, hO⟩ := hrel;clear HV HB HO
  by_cases hlt : k < n2
  ·obtain ⟨x, hx⟩ : ∃ x, h.l[k]? = some x := ⟨_, List.getElem?_eq_getElem (by rw [HN2.out]; exact hlt)⟩;obtain ⟨b, off, A', cp, rfl, -, hbw, hT, hOk⟩ := (HG.out _ (Only.refl [] w)).at_ hx;have HT := Hd hT;have HPT := Hd (rdsL_take hx);have hpl := rdsL_len (l := h.l.take k) (fun t ht => HOP.out t (List.mem_of_mem_take ht));rw [List.length_take] at hpl;have hm1 := HOP.out x (List.mem_of_getElem? hx);have HX := Hd hx;obtain ⟨m, hmm⟩ : ∃ m, x.ops.length = m := ⟨_, rfl⟩;have HMM := Hd hmm;have hm20 : m ≤ 20 := by rw [← hmm]; exact hm1
   have h01 : (k : Int) < (n2 : Int) := by omega
   have hk0 : (0 : Int) ≤ (k : Int) := Int.natCast_nonneg _;have hwk : IntKind.i64.wrap ((k : Int) + 1) = (k : Int) + 1 := IntWalk.i64_in _ (by omega);have hV' : Hid (wr.ownsRow (w.heap.size + 1) 56 2 u3 (rdsL (h.l.take k) ++ outF x k 0).length (placeC (rdsL (h.l.take k) ++ outF x k 0))) := Hd (by rw [outF_zero, List.append_nil]; exact hV.out);have hB' := hB;have hO' := hO;clear hT hOk hx hmm hV;have lB := hB'.out.lt;have b2 := hB'.out.at_ 2;simp at b2;go_wp2_with fail
   clear lB b2 hB hO
   go_loopw [3, 5] (fun V iv wr => ∃ j : Nat, iv = .int .i64 j ∧ j ≤ m ∧ Hid (wr.ownsRow (w.heap.size + 1) 56 2 V (rdsL (h.l.take k) ++ outF x k j).length (placeC (rdsL (h.l.take k) ++ outF x k j))) ∧ Hid (Blk wr w.heap.size 25 #[.slice A0 n0 c0, .slice A1 n1 c1, .slice (some ⟨b, off, none⟩) n2 c2]) ∧ Hid (Only [] w wr)) (fun _ iv _ => m - (intOf iv).toNat)
   case atStart => exact ⟨0, rfl, by omega, hV', hB', hO'⟩
   case round =>
    obtain ⟨j, rfl, hj, hV, hB, hO⟩ := hrel;clear hV' hB' hO';have hsz := hO.out.size;have lB := hB.out.lt;have b2 := hB.out.at_ 2;simp at b2;obtain ⟨a0, a1, a2⟩ := HT.out.only hO.out hbw (by simp);dsimp only at a1 a2;rw [HMM.out] at a2;have hbr : b < wr.heap.size := by omega
    clear a0
    by_cases hlt2 : j < m
    ·obtain ⟨y, hy⟩ : ∃ y, x.ops[j]? = some y := ⟨_, List.getElem?_eq_getElem (by rw [HMM.out]; exact hlt2)⟩;have HFS := Hd (outF_step (i := k) hy);have hfl := outF_le x k j;have HRR := Hd (fun w' (O : Only [] w w') => HRO.out k j w' O);rw [HOE.out k j x y HX.out hy] at HRR;generalize outAt x.ops j y = d at *;have h02 : (j : Int) < (m : Int) := by omega
     have hj0 : (0 : Int) ≤ (j : Int) := Int.natCast_nonneg _;have hwj : IntKind.i64.wrap ((j : Int) + 1) = (j : Int) + 1 := IntWalk.i64_in _ (by omega);have hll : (rdsL (h.l.take k) ++ outF x k j).length ≤ 10000 := by rw [List.length_append]; omega
     clear hy;go_upto_region 9 with (fail)
     have O3 : Only [] wr (wr.alloc (.cells #[.int .i64 (k : Int), .int .i64 (j : Int)] 56)) := (Only.refl [] wr).alloc _;have HP3 := Hd (Blk.made wr 56 #[.int .i64 (k : Int), .int .i64 (j : Int)]);have HV3 := Hd (own_only hV.out O3 (by simp));have HB3 := Hd (O3.blk hB.out (by simp));have HO3 := Hd (hO.out.trans O3);have a1 := (O3.cell (p := ⟨b, off + k * 3 + 1, none⟩) hbr (by simp)).trans a1;clear hV hB hO lB b2 a2 hsz;have hbr3 : b < (wr.alloc (.cells #[.int .i64 (k : Int), .int .i64 (j : Int)] 56)).heap.size := by have := O3.size; omega
     clear O3 hbr;generalize (wr.alloc (.cells #[.int .i64 (k : Int), .int .i64 (j : Int)] 56)) = w3 at *;generalize wr.heap.size = gp at *;have lB := HB3.out.lt;have b0 := HB3.out.at_ 0;have b1 := HB3.out.at_ 1;have b2 := HB3.out.at_ 2;simp at b0 b1 b2;have lP := HP3.out.lt;have p0 := HP3.out.at_ 0;have p1 := HP3.out.at_ 1;simp at p0 p1
     by_cases hf : x.f = 1
     ·rw [hf] at a1;go_wp2_with fail
      refine (HRR.out _ HO3.out).mono ?_;rintro e w5 ⟨rfl, O5⟩;have HV5 := Hd (own_only HV3.out O5 (by simp));have HB5 := Hd (O5.blk HB3.out (by simp));have HP5 := Hd (O5.blk HP3.out (by simp));have HO5 := Hd (HO3.out.trans O5);clear O5 HV3 HB3 HP3 HO3 lB b0 b1 b2 lP p0 p1 a1 hbr3 HRR
      cases d with
      | true =>
       have HE : Hid (outF x k (j + 1) = outF x k j ++ [((k : Int), (j : Int))]) := Hd (by rw [HFS.out, if_pos ⟨hf, rfl⟩]);have lP := HP5.out.lt;have p0 := HP5.out.at_ 0;have p1 := HP5.out.at_ 1;simp at p0 p1;go_wp2_with (at_builtin; refine wpList_append_row _ rfl (.tmp 41) (.tmp 43) _ rfl (w.heap.size + 1) 56 i0 _ 2 16 Tryz.underlying29 hi hz0 hz1 hz2 rfl (by omega) _ _ _ rfl (own_only HV5.out ((Only.refl [] _).alloc _) (by simp)) (w5.heap.size + 1) (some ⟨w5.heap.size, 0, none⟩) 1 1 [.int .i64 (k : Int), .int .i64 (j : Int)] rfl rfl (row_lit w5 56 #[.int .i64 (k : Int), .int .i64 (j : Int)]) (by intro u hu; simp at hu; rcases hu with rfl | rfl <;> rfl) (by unfold maxLen; omega) (by omega) (by have := HO5.out.size; have := HB5.out.lt; simp; omega) ?_; intro v4 w4 hown4 hgrow hat)
       have hgr : World.grownBy (w5.alloc (.cells #[.int .i64 (k : Int), .int .i64 (j : Int)] 56)) w4 u3.ownBlock := hgrow;have hb1 := HB5.out.alloc (.cells #[.int .i64 (k : Int), .int .i64 (j : Int)] 56);have hv1 := own_only HV5.out ((Only.refl [] w5).alloc (.cells #[.int .i64 (k : Int), .int .i64 (j : Int)] 56)) (by simp);have HV6 : Hid (w4.ownsRow (w.heap.size + 1) 56 2 v4 (rdsL (h.l.take k) ++ outF x k (j + 1)).length (placeC (rdsL (h.l.take k) ++ outF x k (j + 1)))) := Hd (by
        rw [HE.out, ← List.append_assoc, placeC_append, List.length_append];exact hown4)
       have HB6 := Hd ((only_grown hgr).blk hb1 (own_apart hv1 hb1 (by decide)));have HO6 := Hd ((HO5.out.alloc (.cells #[.int .i64 (k : Int), .int .i64 (j : Int)] 56)).step (only_grown hgr) (fun i hi hl => by have := (HV5.out.lt i (by simpa using hi)).1; omega));clear hown4 hgrow hgr hat hb1 hv1 lP p0 p1;go_wp2
       go_roundw
       case rel => exact ⟨j + 1, by go_num, by omega, HV6, HB6, HO6⟩
       case measure => simp [intOf]; omega
      | false =>
       have HV6 : Hid (w5.ownsRow (w.heap.size + 1) 56 2 u3 (rdsL (h.l.take k) ++ outF x k (j + 1)).length (placeC (rdsL (h.l.take k) ++ outF x k (j + 1)))) := Hd (by rw [HFS.out, if_neg (by simp), List.append_nil]; exact HV5.out);go_wp2
       go_roundw
       case rel => exact ⟨j + 1, by go_num, by omega, HV6, HB5, HO5⟩
       case measure => simp [intOf]; omega
     ·have hf1 : (x.f == 1) = false := by simpa using hf
      have HV6 : Hid (w3.ownsRow (w.heap.size + 1) 56 2 u3 (rdsL (h.l.take k) ++ outF x k (j + 1)).length (placeC (rdsL (h.l.take k) ++ outF x k (j + 1)))) := Hd (by rw [HFS.out, if_neg (fun c => hf c.1), List.append_nil]; exact HV3.out);go_wp2
      go_roundw
      case rel => exact ⟨j + 1, by go_num, by omega, HV6, HB3, HO3⟩
      case measure => simp [intOf]; omega
    ·obtain rfl : j = m := by omega
     have hVE : Hid (wr.ownsRow (w.heap.size + 1) 56 2 u3 (rdsL (h.l.take (k + 1))).length (placeC (rdsL (h.l.take (k + 1))))) := Hd (by
      have := hV.out;rw [outF_all x k (by rw [HMM.out]; exact Nat.le_refl _)] at this;rw [HPT.out];exact this)
     clear hV;go_wp2
     go_roundw
     case rel => exact ⟨k + 1, by go_num, by omega, hVE, hB, hO⟩
     case measure => simp [intOf]; omega
  ·obtain rfl : k = n2 := by omega
   have lB := hB.out.lt;have b2 := hB.out.at_ 2;simp at b2;have hVV := hV.out;rw [List.take_of_length_le (by rw [HN2.out]; exact Nat.le_refl _)] at hVV;have HVV := Hd (own_from hVV (Nat.le_succ _));clear hV hVV;go_wp2
   go_ret
   exact ⟨_, ⟨rfl, HVV.out⟩, hO.out⟩
theorem rread15_any (A0 A1 A2 : Option Addr) (n0 n1 n2 c0 c1 c2 B : Nat) (h : Hst) (a b : Int) (w : World) (hg : HIn w B A0 A1 A2 n0 n1 n2 h) :
  Calls Tryz.prog 51 #[hval A0 A1 A2 n0 n1 n2 c0 c1 c2, .agg #[.int .i64 a, .int .i64 b]] w fun e w' => e = .returned (.bool (readO h a b).isSome) ∧ Only [] w w' := by
 have HF := Hd (fun w' (O : Only [] w w') => refmay_any A0 A1 A2 n0 n1 n2 c0 c1 c2 B h w' (hg.same O));have HL := Hd hg.at_.r2;have HN2 := Hd hg.n2;unfold hval at HF ⊢;clear hg;have HO1 := Hd (((Only.refl [] w).alloc (.cells #[.slice A0 n0 c0, .slice A1 n1 c1, .slice A2 n2 c2] 25)).alloc (.cells #[.int .i64 a, .int .i64 b] 56));have HB1 := Hd ((Blk.made w 25 #[.slice A0 n0 c0, .slice A1 n1 c1, .slice A2 n2 c2]).alloc (.cells #[.int .i64 a, .int .i64 b] 56));have HP1 := Hd (Blk.made (w.alloc (.cells #[.slice A0 n0 c0, .slice A1 n1 c1, .slice A2 n2 c2] 25)) 56 #[.int .i64 a, .int .i64 b]);rw [World.size_alloc] at HP1;go_enter Tryz.func51, Tryz.ntmps51;go_wp2_with fail
 generalize ((w.alloc (.cells #[.slice A0 n0 c0, .slice A1 n1 c1, .slice A2 n2 c2] 25)).alloc (.cells #[.int .i64 a, .int .i64 b] 56)) = w1 at *;generalize w.heap.size + 1 = gp at *;generalize hgg : w.heap.size = g at *;have hsz : g ≤ w1.heap.size := by have := HO1.out.size; omega
 have RD0 := Hd fun wq (hSw : Only [] w1 wq) => aI (Bk3 (hSw.blk HB1.out (by simp))) (Bk2 (hSw.blk HP1.out (by simp)));refine rg1 [] [] w1 ?_;have OW : Only [] w1 w1.drew := (Only.refl [] w1).drew;generalize w1.drew = wz at *;refine trq 0 0 RD0 (h := ?_)
 cases hm : mayH h
 ·rw [mayH_errn2 hm] at HF;have HE := Hd (read_none (opAt_none (b := b) (txAt_no (a := a) hm)));clear hm;refine tst (i := 1) fun K hK => ?_;go_simp;refine (HF.out _ (HO1.out.trans OW)).mono ?_;rintro e w3 ⟨rfl, O3⟩;have O4 := OW.trans O3;refine kOut hK (O4) (h := ?_);clear hK K;refine tQ 2 (h := tQ 3 (h := tiq 4 (h := tiq 5 (h := tiq 6 (h := tQ 7 (h := tQ 8 (h := tiq 9 (h := tiq 10 (h := tiq 11 (h := tiq 12 (h := tiq 13 (h := tiq 14 (h := tQ 15 (h := tQ 16 (h := tiq 17 (h := tiq 18 (h := tiq 19 (h := tQ 20 (h := tQ 21 (h := tiq 22 (h := tiq 23 (h := tiq 24 (h := tiq 25 (h := tiq 26 (h := tiq 27 (h := tiq 28 (h := tiq 29 (h := tiq 30 (h := tiq 31 (h := tiq 32 (h := tQ 33 (h := tQ 34 (h := tiq 35 (h := tiq 36 (h := tiq 37 (h := tiq 38 (h := tiq 39 (h := tiq 40 (h := tiq 41 (h := tiq 42 (h := tiq 43 (h := tiq 44 (h := tiq 45 (h := tiq 46 (h := tiq 47 (h := ?_))))))))))))))))))))))))))))))))))))))))))))));refine tQ 48 (h := tQ 49 (h := ?_));refine tdn ?_;go_wp2
  go_ret
  exact ⟨by rw [HE.out]; rfl, HO1.out.trans O4⟩
 rw [mayH_err2 hm] at HF;refine tst (i := 1) fun K hK => ?_;go_simp;refine (HF.out _ (HO1.out.trans OW)).mono ?_;rintro e w3 ⟨rfl, O3⟩;have O4 := OW.trans O3;refine kOut hK (O4) (h := ?_);clear hK K;refine tQ 2 (h := tQ 3 (h := ?_))
 by_cases q1 : 0 ≤ a
 rotate_left
 ·have d1 : decide (0 ≤ a) = false := decide_eq_false q1;have HE := Hd (read_none (opAt_none (b := b) (txAt_neg (h := h) (a := a) (by omega))));clear q1 hm;refine tQ 4 (h := trq 5 0 RD0 (h := tQ 6 (h := tQ 7 (h := tQ 8 (h := tiq 9 (h := tiq 10 (h := tiq 11 (h := tiq 12 (h := tiq 13 (h := tiq 14 (h := tQ 15 (h := tQ 16 (h := tiq 17 (h := tiq 18 (h := tiq 19 (h := tQ 20 (h := tQ 21 (h := tiq 22 (h := tiq 23 (h := tiq 24 (h := tiq 25 (h := tiq 26 (h := tiq 27 (h := tiq 28 (h := tiq 29 (h := tiq 30 (h := tiq 31 (h := tiq 32 (h := tQ 33 (h := tQ 34 (h := tiq 35 (h := tiq 36 (h := tiq 37 (h := tiq 38 (h := tiq 39 (h := tiq 40 (h := tiq 41 (h := tiq 42 (h := tiq 43 (h := tiq 44 (h := tiq 45 (h := tiq 46 (h := tiq 47 (h := ?_))))))))))))))))))))))))))))))))))))))))))));refine tQ 48 (h := tQ 49 (h := ?_));refine tdn ?_;go_wp2
  go_ret
  exact ⟨by rw [HE.out]; rfl, HO1.out.trans O4⟩
 have d1 : decide (0 ≤ a) = true := decide_eq_true q1;refine tQ 4 (h := trq 5 0 RD0 (h := tQ 6 (h := tQ 7 (h := tQ 8 (h := ?_)))))
 by_cases q2 : a < (n2 : Int)
 rotate_left
 ·have d2 : decide (a < (n2 : Int)) = false := decide_eq_false q2;have HE := Hd (read_none (opAt_none (b := b) (txAt_big (h := h) (a := a) (by rw [HN2.out]; omega))));clear q2 hm;refine tQ 9 (h := trq 10 0 RD0 (h := tQ 11 (h := trq 12 0 RD0 (h := tQ 13 (h := tQ 14 (h := tQ 15 (h := tQ 16 (h := tiq 17 (h := tiq 18 (h := tiq 19 (h := tQ 20 (h := tQ 21 (h := tiq 22 (h := tiq 23 (h := tiq 24 (h := tiq 25 (h := tiq 26 (h := tiq 27 (h := tiq 28 (h := tiq 29 (h := tiq 30 (h := tiq 31 (h := tiq 32 (h := tQ 33 (h := tQ 34 (h := tiq 35 (h := tiq 36 (h := tiq 37 (h := tiq 38 (h := tiq 39 (h := tiq 40 (h := tiq 41 (h := tiq 42 (h := tiq 43 (h := tiq 44 (h := tiq 45 (h := tiq 46 (h := tiq 47 (h := tQ 48 (h := tQ 49 (h := ?_)))))))))))))))))))))))))))))))))))))))));refine tdn ?_;go_wp2
  go_ret
  exact ⟨by rw [HE.out]; rfl, HO1.out.trans O4⟩
 have d2 : decide (a < (n2 : Int)) = true := decide_eq_true q2;obtain ⟨i, rfl⟩ : ∃ i : Nat, a = i := ⟨a.toNat, by omega⟩;obtain ⟨t, hx⟩ : ∃ t, h.l[i]? = some t := ⟨_, List.getElem?_eq_getElem (by rw [HN2.out]; omega)⟩;have htx := txAt_yes hm hx;refine tQ 9 (h := trq 10 0 RD0 (h := tQ 11 (h := trq 12 0 RD0 (h := tQ 13 (h := tQ 14 (h := tQ 15 (h := tQ 16 (h := ?_))))))))
 by_cases q3 : 0 ≤ b
 rotate_left
 ·have d3 : decide (0 ≤ b) = false := decide_eq_false q3;have HE := Hd (read_none (opAt_neg (h := h) (a := (i : Int)) (b := b) (by omega)));clear q3 hx htx hm;refine tQ 17 (h := trq 18 0 RD0 (h := tQ 19 (h := tQ 20 (h := tQ 21 (h := tiq 22 (h := tiq 23 (h := tiq 24 (h := tiq 25 (h := tiq 26 (h := tiq 27 (h := tiq 28 (h := tiq 29 (h := tiq 30 (h := tiq 31 (h := tiq 32 (h := tQ 33 (h := tQ 34 (h := tiq 35 (h := tiq 36 (h := tiq 37 (h := tiq 38 (h := tiq 39 (h := tiq 40 (h := tiq 41 (h := tiq 42 (h := tiq 43 (h := tiq 44 (h := tiq 45 (h := tiq 46 (h := tiq 47 (h := tQ 48 (h := tQ 49 (h := ?_)))))))))))))))))))))))))))))))));refine tdn ?_;go_wp2
  go_ret
  exact ⟨by rw [HE.out]; rfl, HO1.out.trans O4⟩
 have d3 : decide (0 ≤ b) = true := decide_eq_true q3;obtain ⟨j, rfl⟩ : ∃ j : Nat, b = j := ⟨b.toNat, by omega⟩;obtain ⟨bl, off, A', cp, rfl, -, hbw, hT, hOk⟩ := HL.out.at_ hx;have HCA := Hd (hT.only HO1.out (by omega) (by simp)).c2;have hbr : bl < w1.heap.size := by omega
 dsimp only at HCA;have hi0 : (0 : Int) ≤ (i : Int) := by omega
 have q2' : (i : Int) < (n2 : Int) := by omega
 refine tQ 17 (h := ?_);have RD1 := Hd fun wq (hSw : Only [] w1 wq) => aI (Bk3 (hSw.blk HB1.out (by simp))) (aI (Bk2 (hSw.blk HP1.out (by simp))) ((hSw.cell (p := ⟨bl, off + i * 3 + 2, none⟩) hbr (by simp)).trans HCA.out));refine trq 18 0 RD1 (h := tQ 19 (h := tQ 20 (h := tQ 21 (h := ?_))))
 by_cases q4 : j < t.ops.length
 rotate_left
 ·have d4 : decide ((j : Int) < (t.ops.length : Int)) = false := decide_eq_false (by omega);have d4' : decide (j < t.ops.length) = false := decide_eq_false q4;have HE := Hd (read_none (opAt_big htx (b := (j : Int)) (by omega)));generalize t.ops.length = m at *;clear hx hT htx hm hOk q4;refine tQ 22 (h := trq 23 0 RD1 (h := tQ 24 (h := trq 25 0 RD1 (h := tQ 26 (h := trq 27 0 RD1 (h := tQ 28 (h := tQ 29 (h := trq 30 0 RD1 (h := tQ 31 (h := tQ 32 (h := tQ 33 (h := tQ 34 (h := tiq 35 (h := tiq 36 (h := tiq 37 (h := tiq 38 (h := tiq 39 (h := tiq 40 (h := tiq 41 (h := tiq 42 (h := tiq 43 (h := tiq 44 (h := tiq 45 (h := tiq 46 (h := tiq 47 (h := tQ 48 (h := tQ 49 (h := ?_))))))))))))))))))))))))))));refine tdn ?_;go_wp2
  go_ret
  exact ⟨by rw [HE.out]; rfl, HO1.out.trans O4⟩
 obtain ⟨o, ho⟩ : ∃ o, t.ops[j]? = some o := ⟨_, List.getElem?_eq_getElem q4⟩;obtain ⟨bo, oo, rfl, -, hbo, hP⟩ := row_op hOk.row ho;have HPO := Hd (hP.only HO1.out hbo (by simp)).c0;have hbor : bo < w1.heap.size := by omega
 have HE : Hid ((readO h (i : Int) (j : Int)).isSome = !o.wr) := Hd (by cases hw : o.wr with | true => rw [read_write (opAt_yes htx ho) hw]; rfl | false => rw [read_some (opAt_yes htx ho) hw]; rfl);have d4 : decide ((j : Int) < (t.ops.length : Int)) = true := decide_eq_true (by omega);have d4' : decide (j < t.ops.length) = true := decide_eq_true q4;have hj0 : (0 : Int) ≤ (j : Int) := by omega
 have q4' : (j : Int) < (t.ops.length : Int) := by omega
 generalize t.ops.length = m at *;generalize o.wr = ow at *;clear hx hT htx hm hOk hP ho;refine tQ 22 (h := ?_);have RD2 := Hd fun wq (hSw : Only [] w1 wq) => aI (Bk3 (hSw.blk HB1.out (by simp))) (aI (Bk2 (hSw.blk HP1.out (by simp))) (aI ((hSw.cell (p := ⟨bl, off + i * 3 + 2, none⟩) hbr (by simp)).trans HCA.out) ((hSw.cell (p := ⟨bo, oo + j * 4, none⟩) hbor (by simp)).trans HPO.out)));refine trq 23 0 RD2 (h := tQ 24 (h := trq 25 0 RD2 (h := tQ 26 (h := trq 27 0 RD2 (h := tQ 28 (h := tQ 29 (h := trq 30 0 RD2 (h := tQ 31 (h := tQ 32 (h := tQ 33 (h := tQ 34 (h := tQ 35 (h := trq 36 0 RD2 (h := tQ 37 (h := trq 38 0 RD2 (h := tQ 39 (h := tQ 40 (h := trq 41 0 RD2 (h := tQ 42 (h := trq 43 0 RD2 (h := tQ 44 (h := tQ 45 (h := trq 46 0 RD2 (h := tQ 47 (h := tQ 48 (h := tQ 49 (h := ?_)))))))))))))))))))))))))));refine tdn ?_;go_wp2
 go_ret
 exact ⟨by rw [HE.out]; rfl, HO1.out.trans O4⟩
end Go.Proofs.YthdofaoamljkfaaGreatDoor
