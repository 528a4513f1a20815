/- Parts. -/
import Derived.Test.YthdofaoamljkfaaGreatDoorLaw24AllK18
import Derived.Test.YthdofaoamljkfaaGreatDoorLaw24AllK21
import Derived.Deep.OwnRows
set_option maxRecDepth 10000
set_option maxHeartbeats 16000000
set_option linter.unusedVariables false
set_option linter.unusedSimpArgs false
namespace Go.Proofs.YthdofaoamljkfaaGreatDoor
open Go.RowKit
open Go.Lib hiding intOf
attribute [local go_sem ↓] Go.wp_at_zero Go.wp_at_succ
theorem errH_0 {h : Hst} (h0 : tabB h.ss = false) : errH h = 4 := by unfold errH mayH namesB; rw [h0]; simp
theorem errH_1 {h : Hst} (h0 : tabB h.ks = false) : errH h = 4 := by unfold errH mayH namesB; rw [h0]; simp
theorem errH_2 {h : Hst} (h0 : ¬ h.ss.length ≤ 20) : errH h = 4 := by unfold errH mayH namesB; rw [decide_eq_false h0]; simp
theorem errH_3 {h : Hst} (h0 : ¬ h.ks.length ≤ 40) : errH h = 4 := by unfold errH mayH namesB; rw [decide_eq_false h0]; simp
theorem errH_4 {h : Hst} (h0 : ¬ h.l.length ≤ 40) : errH h = 4 := by unfold errH mayH txsB; rw [decide_eq_false h0]; simp
theorem mayH_err2 {h : Hst} (hm : mayH h = true) : errH h = 0 := by unfold errH; rw [hm]; rfl
theorem mayH_errn2 {h : Hst} (hm : mayH h = false) : errH h = 4 := by unfold errH; rw [hm]; rfl
theorem all_and {α : Type} (p q : α → Bool) : ∀ l : List α, (l.all fun x => p x && q x) = (l.all p && l.all q)
 | [] => rfl
 | x :: l => by
  rw [List.all_cons, List.all_cons, List.all_cons, all_and p q l]
  cases p x <;> cases q x <;> cases l.all p <;> rfl
theorem mayH_eq {h : Hst} (h0 : tabB h.ss = true) (h1 : tabB h.ks = true) (h2 : h.ss.length ≤ 20) (h3 : h.ks.length ≤ 40) (h4 : h.l.length ≤ 40) :
  mayH h = (h.l.all (txOps h.ss.length h.ks.length) && (useB h.ks.length (keysL h.l) && useB h.ss.length (h.l.map Tx.s))) := by
 unfold mayH namesB txsB opsB;rw [h0, h1, decide_eq_true h2, decide_eq_true h3, decide_eq_true h4];have : h.l.all (txOps h.ss.length h.ks.length) = (h.l.all (txB h.ss.length) && h.l.all fun t => t.ops.all (opB h.ks.length)) := all_and _ _ _;rw [this];generalize h.l.all (txB h.ss.length) = a;generalize (h.l.all fun t => t.ops.all (opB h.ks.length)) = b;generalize useB h.ks.length (keysL h.l) = c;generalize useB h.ss.length (h.l.map Tx.s) = d
 cases a <;> cases b <;> cases c <;> cases d <;> rfl
theorem range_take (n : Nat) (p : Nat → Bool) : ((List.range (n + 1)).all p) = ((List.range n).all p && p n) := by
 rw [List.range_succ, List.all_append];simp
theorem txOps_s {n0 n1 : Nat} {t : Tx} (h : txOps n0 n1 t = true) : 0 ≤ t.s ∧ t.s < (n0 : Int) := by
 unfold txOps txB at h;simp at h;omega
theorem refmay_any (A0 A1 A2 : Option Addr) (n0 n1 n2 c0 c1 c2 B : Nat) (h : Hst) (w : World) (hg : HIn w B A0 A1 A2 n0 n1 n2 h) :
  Calls Tryz.prog 29 #[hval A0 A1 A2 n0 n1 n2 c0 c1 c2] w fun e w' => e = .returned (.int .i64 (errH h)) ∧ Only [] w w' := by
 have HI := Hd hg.up;have HT0 := Hd (fun w' (O : Only [] w w') => rtab_any A0 n0 c0 B h.ss w' hg.n0 (by have := hg.sm.ns; rw [hg.n0] at this; omega) hg.sm.s (hg.same O).at_.r0);have HT1 := Hd (fun w' (O : Only [] w w') => rtab_any A1 n1 c1 B h.ks w' hg.n1 (by have := hg.sm.nk; rw [hg.n1] at this; omega) hg.sm.k (hg.same O).at_.r1);have HN0 := Hd hg.n0;have HN1 := Hd hg.n1;have HN2 := Hd hg.n2;unfold hval;have HO := Hd ((Only.refl [] w).alloc (.cells #[.slice A0 n0 c0, .slice A1 n1 c1, .slice A2 n2 c2] 25));have HB := Hd (Blk.made w 25 #[.slice A0 n0 c0, .slice A1 n1 c1, .slice A2 n2 c2]);have F0 := Hd (HT0.out _ HO.out);clear hg
 cases h0 : tabB h.ss with
 | false =>
  rw [h0] at F0;have HE := Hd (errH_0 h0);clear HT0 h0;go_enter Tryz.func29, Tryz.ntmps29;go_wp2_with fail
  refine (F0.out).mono ?_;rintro e w1 ⟨rfl, O1⟩;have HO1 := Hd (HO.out.trans O1);clear O1;go_wp2
  go_ret
  exact ⟨by rw [HE.out]; rfl, HO1.out⟩
 | true =>
  rw [h0] at F0;have H0 := Hd h0;clear HT0 h0;go_enter Tryz.func29, Tryz.ntmps29;go_wp2_with fail
  refine (F0.out).mono ?_;rintro e w1 ⟨rfl, O1⟩;have HO1 := Hd (HO.out.trans O1);have b1 := O1.blk HB.out (by simp);clear O1;have HB1 := Hd b1;have l1 := b1.lt;have x1 := b1.at_ 1;simp at x1;clear b1;have F1 := Hd (HT1.out _ HO1.out)
  cases h1 : tabB h.ks with
  | false =>
   rw [h1] at F1;have HE := Hd (errH_1 h1);clear HT1 h1;go_wp2_with fail
   refine (F1.out).mono ?_;rintro e w2 ⟨rfl, O2⟩;have HO2 := Hd (HO1.out.trans O2);clear O2;go_wp2
   go_ret
   exact ⟨by rw [HE.out]; rfl, HO2.out⟩
  | true =>
   rw [h1] at F1;have H1 := Hd h1;clear HT1 h1;go_wp2_with fail
   refine (F1.out).mono ?_;rintro e w2 ⟨rfl, O2⟩;have HO2 := Hd (HO1.out.trans O2);have b2 := O2.blk HB1.out (by simp);clear O2 l1 x1;have HB2 := Hd b2;have l2 := b2.lt;have y0 := b2.at_ 0;have y1 := b2.at_ 1;have y2 := b2.at_ 2;simp at y0 y1 y2;clear b2
   by_cases q0 : n0 ≤ 20
   ·have d0 : decide ((20 : Int) < (n0 : Int)) = false := by simp; omega
    by_cases q1 : n1 ≤ 40
    ·have d1 : decide ((40 : Int) < (n1 : Int)) = false := by simp; omega
     by_cases q2 : n2 ≤ 40
     ·have d2 : decide ((40 : Int) < (n2 : Int)) = false := by simp; omega
      have HME := Hd (mayH_eq H0.out H1.out (by rw [HN0.out]; exact q0) (by rw [HN1.out]; exact q1) (by rw [HN2.out]; exact q2));rw [HN0.out, HN1.out] at HME;go_upto_region 3 with (fail)
      rename_i KK hKK
      have HK : Hid (∀ gk gs w3, gk ≠ gs → w.heap.size < gk → w.heap.size < gs → Hid (Blk w3 gk 4 (markC n1 [])) → Hid (Blk w3 gs 4 (markC n0 [])) → Hid (Only [] w2 w3) →
        KK { tmps := #[.agg #[.slice A0 n0 c0, .slice A1 n1 c1, .slice A2 n2 c2], .pointer (some ⟨w.heap.size, 0, none⟩), .int .i64 0, .slice (some ⟨gk, 0, none⟩) n1 n1, .slice (some ⟨gs, 0, none⟩) n0 n0, undef, undef, undef, undef, .pointer (some ⟨w.heap.size, 0, none⟩), .slice A0 n0 c0, .bool true, .bool false, .bool false, .pointer (some ⟨w.heap.size, 1, none⟩), .slice A1 n1 c1, .bool true, .bool false, .bool false, .bool false, .pointer (some ⟨w.heap.size, 0, none⟩), .slice A0 n0 c0, .int .i64 (n0 : Int), .bool false, .bool false, .bool false, .pointer (some ⟨w.heap.size, 1, none⟩), .slice A1 n1 c1, .int .i64 (n1 : Int), .bool false, .bool false, .bool false, .pointer (some ⟨w.heap.size, 2, none⟩), .slice A2 n2 c2, .int .i64 (n2 : Int), .bool false, .bool false, .pointer (some ⟨w.heap.size, 1, none⟩), .slice A1 n1 c1, .int .i64 (n1 : Int), .slice (some ⟨gk, 0, none⟩) n1 n1, .pointer (some ⟨w.heap.size, 0, none⟩), .slice A0 n0 c0, .int .i64 (n0 : Int), .slice (some ⟨gs, 0, none⟩) n0 n0, undef, undef, undef, undef, undef, undef, undef, undef, undef, undef, undef, undef, undef, undef, undef, undef, undef, undef, undef, undef, undef, undef, undef, undef, undef, undef, undef, undef, undef, undef, undef, undef, undef, undef, undef, undef, undef, undef, undef, undef, undef, undef, undef, undef, undef, undef, undef, undef, undef, undef, undef, undef], defers := [] } w3) := by
       refine Hd fun gk gs w3 hne hgk hgs bk bs O3 => ?_;refine hKK _ _ ?_;clear hKK;have HB3 := Hd (O3.out.blk HB2.out (by simp));have HO3 := Hd (HO2.out.trans O3.out);clear O3 l2 y0 y1 y2 d0 d1 d2 HB2 HO2 HB1 HO1 HB HO;go_wp2_with fail
       go_loopw [5] (fun iv wr => ∃ k : Nat, iv = .int .i64 k ∧ k ≤ n2 ∧ Hid ((h.l.take k).all (txOps n0 n1) = true) ∧ Hid (Blk wr w.heap.size 25 #[.slice A0 n0 c0, .slice A1 n1 c1, .slice A2 n2 c2]) ∧ Hid (Blk wr gk 4 (markC n1 (keysL (h.l.take k)))) ∧ Hid (Blk wr gs 4 (markC n0 ((h.l.take k).map Tx.s))) ∧ Hid (Only [] w wr)) (fun iv _ => n2 - (intOf iv).toNat)
       case atStart => exact ⟨0, rfl, by omega, Hd (by simp), HB3, by simpa [keysL] using bk, by simpa using bs, HO3⟩
       case round =>
        obtain ⟨k, rfl, hk, hall, hB, hK, hS, hO⟩ := hrel;clear bk bs HB3 HO3;have hsz := hO.out.size;have lB := hB.out.lt;have b2 := hB.out.at_ 2;simp at b2
        by_cases hlt : k < n2
        ·obtain ⟨x, hx⟩ : ∃ x, h.l[k]? = some x := ⟨_, List.getElem?_eq_getElem (by rw [HN2.out]; exact hlt)⟩;obtain ⟨b, off, A', cp, rfl, -, hbw, hT, hOk⟩ := HI.out.at_.r2.at_ hx;have hT1 := hT.only hO.out hbw (by simp);have HTA := Hd hT1;have HX := Hd hx;have hm1 := HI.out.sm.no x (List.mem_of_getElem? hx);have HKT := Hd (keysL_take hx);have HST : Hid ((h.l.take (k + 1)).map Tx.s = (h.l.take k).map Tx.s ++ [x.s]) := Hd (by rw [List.take_add_one, hx]; simp);have HALLN : Hid (txOps n0 n1 x = true → ((h.l.take (k + 1)).all (txOps n0 n1) = true)) := Hd (fun hxx => takeTx_all hall.out hx hxx);have HBADX : Hid (txOps n0 n1 x = false → errH h = 4) := Hd (fun hb => by
          unfold errH;rw [HME.out];have : h.l.all (txOps n0 n1) = false := by
           rw [List.all_eq_false];exact ⟨x, List.mem_of_getElem? hx, by rw [hb]; simp⟩
          rw [this]
          rfl)
         have HSB : Hid (txOps n0 n1 x = true → 0 ≤ x.s ∧ x.s < (n0 : Int)) := Hd txOps_s;have h01 : (k : Int) < (n2 : Int) := by omega
         have hk0 : (0 : Int) ≤ (k : Int) := Int.natCast_nonneg _;have hwk : IntKind.i64.wrap ((k : Int) + 1) = (k : Int) + 1 := IntWalk.i64_in _ (by omega);have hbr : b < wr.heap.size := by omega
         have hbk : b ≠ gk := by omega
         have hgw : w.heap.size ≠ gk := by omega
         have HOPS := Hd (fun w' (O : Only [] wr w') => rops_any A0 A1 (some ⟨b, off, none⟩) n0 n1 n2 c0 c1 c2 w.heap.size x.s x.f x.ops A' x.ops.length cp gk n1 (keysL (h.l.take k)) w' (hOk.row.only (hO.out.trans O) (fun _ h => by cases h)) rfl hm1 (O.blk hK.out (by simp)) (by omega) (by omega));unfold hval at HOPS;obtain ⟨s, f, ops⟩ := x;dsimp only at HTA HKT HST HALLN HBADX HSB HOPS
         cases hto : txOps n0 n1 ⟨s, f, ops⟩ with
         | false =>
          have HE := Hd (HBADX.out hto);rw [hto] at HOPS;clear hT hOk hx hT1 hto;go_wp2_with fail
          have RD0 := Hd fun wq (hSw : Only [gk] wr wq) => aI (hSw.blk hB.out (by simp; omega)) (aI ((hSw.blk hB.out (by simp; omega)).at_ 0) (aI ((hSw.blk hB.out (by simp; omega)).at_ 1) (aI ((hSw.blk hB.out (by simp; omega)).at_ 2) (aI ((hSw.blk hB.out (by simp; omega)).lt) (HTA.out.only hSw hbr (by simp; omega))))));refine rg1 [] [gk] wr ?_;refine trd (i := 0) (v := ?_) 0 ?_ ?_;rotate_left
          ·(intro wq q; obtain ⟨hb, y0, y1, y2, hb2, ⟨a0, a1, a2⟩⟩ := RD0.out wq q; simp at y0 y1 y2; dsimp only at a0 a1 a2; clear q; go_simp; try with_reducible rfl)
          (try simp only [tdz]);refine tQ 1 (h := ?_);refine trd (i := 2) (v := ?_) 0 ?_ ?_;rotate_left
          ·(intro wq q; obtain ⟨hb, y0, y1, y2, hb2, ⟨a0, a1, a2⟩⟩ := RD0.out wq q; simp at y0 y1 y2; dsimp only at a0 a1 a2; clear q; go_simp; try with_reducible rfl)
          (try simp only [tdz]);refine tQ 3 (h := tQ 4 (h := ?_));refine trd (i := 5) (v := ?_) 0 ?_ ?_;rotate_left
          ·(intro wq q; obtain ⟨hb, y0, y1, y2, hb2, ⟨a0, a1, a2⟩⟩ := RD0.out wq q; simp at y0 y1 y2; dsimp only at a0 a1 a2; clear q; go_simp; try with_reducible rfl)
          (try simp only [tdz]);refine tQ 6 (h := ?_);refine tst (i := 7) fun K hK => ?_;go_simp;refine (HOPS.out _ ((Only.refl [] _).drew)).mono ?_;rintro e w4 ⟨rfl, O4', HM4'⟩;have O4 : Only [gk] wr w4 := ((Only.refl [gk] wr).drew).trans O4';refine kOut hK (O4) (h := ?_);clear hK K;refine tQ 8 (h := ?_);refine tdn ?_;have HNW : Hid (Only [] w w4) := Hd (hO.out.step O4 (fun i hi hl => by simp at hi; omega));go_wp2
          go_ret
          exact ⟨by rw [HE.out]; rfl, HNW.out⟩
         | true =>
          have HAL := Hd (HALLN.out hto);obtain ⟨hs0, hs1⟩ := HSB.out hto;obtain ⟨j, rfl⟩ : ∃ j : Nat, s = j := ⟨s.toNat, by omega⟩;rw [hto] at HOPS;have HCS := Hd (markC_snoc n0 ((h.l.take k).map Tx.s) j (by omega));have HCA := Hd (markC_at n0 ((h.l.take k).map Tx.s) j (by omega));generalize decide ((j : Int) ∈ (h.l.take k).map Tx.s) = cj at *;clear hT hOk hx hT1 hto;go_wp2_with fail
          have RD0 := Hd fun wq (hSw : Only [gk] wr wq) => aI (hSw.blk hB.out (by simp; omega)) (aI ((hSw.blk hB.out (by simp; omega)).at_ 0) (aI ((hSw.blk hB.out (by simp; omega)).at_ 1) (aI ((hSw.blk hB.out (by simp; omega)).at_ 2) (aI ((hSw.blk hB.out (by simp; omega)).lt) (HTA.out.only hSw hbr (by simp; omega))))));refine rg1 [] [gk] wr ?_;refine trd (i := 0) (v := ?_) 0 ?_ ?_;rotate_left
          ·(intro wq q; obtain ⟨hb, y0, y1, y2, hb2, ⟨a0, a1, a2⟩⟩ := RD0.out wq q; simp at y0 y1 y2; dsimp only at a0 a1 a2; clear q; go_simp; try with_reducible rfl)
          (try simp only [tdz]);refine tQ 1 (h := ?_);refine trd (i := 2) (v := ?_) 0 ?_ ?_;rotate_left
          ·(intro wq q; obtain ⟨hb, y0, y1, y2, hb2, ⟨a0, a1, a2⟩⟩ := RD0.out wq q; simp at y0 y1 y2; dsimp only at a0 a1 a2; clear q; go_simp; try with_reducible rfl)
          (try simp only [tdz]);refine tQ 3 (h := tQ 4 (h := ?_));refine trd (i := 5) (v := ?_) 0 ?_ ?_;rotate_left
          ·(intro wq q; obtain ⟨hb, y0, y1, y2, hb2, ⟨a0, a1, a2⟩⟩ := RD0.out wq q; simp at y0 y1 y2; dsimp only at a0 a1 a2; clear q; go_simp; try with_reducible rfl)
          (try simp only [tdz]);refine tQ 6 (h := ?_);refine tst (i := 7) fun K hK => ?_;go_simp;refine (HOPS.out _ ((Only.refl [] _).drew)).mono ?_;rintro e w4 ⟨rfl, O4', HM4'⟩;have O4 : Only [gk] wr w4 := ((Only.refl [gk] wr).drew).trans O4';have HM4 := Hd (HM4' (by simp));refine kOut hK (O4) (h := ?_);clear hK K;refine tQ 8 (h := ?_);refine tdn ?_;have HNW : Hid (Only [] w w4) := Hd (hO.out.step O4 (fun i hi hl => by simp at hi; omega));have hB4 := O4.blk hB.out (by simp; omega);have HB4 := Hd hB4;have HS4 := O4.blk hS.out (by simp; omega);have HSB4 := Hd HS4;have l4 := hB4.lt;have z2 := hB4.at_ 2;simp at z2;obtain ⟨a0, a1, a2⟩ := HTA.out.only O4 hbr (by simp; omega);dsimp only at a0 a1 a2;have lS := HS4.lt;have uj := (HS4.at_ j).trans HCA.out;have gj := HS4.free j;have hbr4 : b < w4.heap.size := by have := O4.size; omega
          clear hB4 HS4 O4 lB b2;go_wp2
          go_roundw
          case rel =>
           refine ⟨k + 1, by go_num, by omega, HAL, Hd (HB4.out.far (by simp only; omega) _), Hd ?_, Hd ?_, Hd (HNW.out.put (fun h => by simp only at h; omega) _)⟩
           ·rw [HKT.out];exact HM4.out.far (by simp only; omega) _
           ·rw [HST.out, HCS.out];exact HSB4.out.put j _
          case measure => simp [intOf]; omega
        ·have hkn : k = n2 := by omega
         subst hkn;have hd2 : decide ((k : Int) < (k : Int)) = false := by simp
         have ht : h.l.take k = h.l := List.take_of_length_le (by rw [HN2.out]; exact Nat.le_refl _);have hA := hall.out;have hKK := hK.out;have hSS := hS.out;rw [ht] at hA hKK hSS;have HKK := Hd hKK;have HSS := Hd hSS;have HM2 : Hid (mayH h = (useB n1 (keysL h.l) && useB n0 (h.l.map Tx.s))) := Hd (by rw [HME.out, hA]; rfl);clear hall hK hS hA hKK hSS ht HME;go_wp2_with fail
         obtain ⟨wo, hwo⟩ : ∃ wo : World, wo = wr := ⟨_, rfl⟩;subst hwo
         go_loopw [6, 7] (fun av iv wr => ∃ j : Nat, iv = .int .i64 j ∧ j ≤ n1 ∧ av = .bool ((List.range j).all fun i : Nat => decide ((i : Int) ∈ keysL h.l)) ∧ wr = wo) (fun _ iv _ => n1 - (intOf iv).toNat)
         case atStart => exact ⟨0, rfl, by omega, rfl, rfl⟩
         case round =>
          obtain ⟨j, rfl, hj, rfl, rfl⟩ := hrel
          by_cases hlt : j < n1
          ·have h01 : (j : Int) < (n1 : Int) := by omega
           have hj0 : (0 : Int) ≤ (j : Int) := Int.natCast_nonneg _;have hwj : IntKind.i64.wrap ((j : Int) + 1) = (j : Int) + 1 := IntWalk.i64_in _ (by omega);have lK := HKK.out.lt;have uj := (HKK.out.at_ j).trans (markC_at n1 _ j hlt);have HRT := Hd (range_take j (fun i : Nat => decide ((i : Int) ∈ keysL h.l)));generalize decide ((j : Int) ∈ keysL h.l) = x at *
           cases hav : ((List.range j).all fun i : Nat => decide ((i : Int) ∈ keysL h.l)) with
           | false =>
            rw [hav] at HRT;clear hav;go_wp2
            go_roundw
            case rel => exact ⟨j + 1, by go_num, by omega, by rw [HRT.out]; rfl, by first | rfl | trivial⟩
            case measure => simp [intOf]; omega
           | true =>
            rw [hav] at HRT;clear hav;go_wp2
            go_roundw
            case rel => exact ⟨j + 1, by go_num, by omega, by rw [HRT.out]; rfl, by first | rfl | trivial⟩
            case measure => simp [intOf]; omega
          ·have hjn : j = n1 := by omega
           subst hjn;have hd3 : decide ((j : Int) < (j : Int)) = false := by simp
           have HU1 : Hid (((List.range j).all fun i : Nat => decide ((i : Int) ∈ keysL h.l)) = useB j (keysL h.l)) := Hd rfl;rw [HU1.out];generalize useB j (keysL h.l) = uk at *;clear HU1;go_wp2_with fail
           obtain ⟨wo, hwo⟩ : ∃ wo : World, wo = wr := ⟨_, rfl⟩;subst hwo
           go_loopw [6, 8] (fun av iv wr => ∃ i : Nat, iv = .int .i64 i ∧ i ≤ n0 ∧ av = .bool (uk && ((List.range i).all fun i : Nat => decide ((i : Int) ∈ h.l.map Tx.s))) ∧ wr = wo) (fun _ iv _ => n0 - (intOf iv).toNat)
           case atStart => exact ⟨0, rfl, by omega, by simp, rfl⟩
           case round =>
            obtain ⟨i, rfl, hi, rfl, rfl⟩ := hrel
            by_cases hlt : i < n0
            ·have h01 : (i : Int) < (n0 : Int) := by omega
             have hi0 : (0 : Int) ≤ (i : Int) := Int.natCast_nonneg _;have hwi : IntKind.i64.wrap ((i : Int) + 1) = (i : Int) + 1 := IntWalk.i64_in _ (by omega);have lS := HSS.out.lt;have uj := (HSS.out.at_ i).trans (markC_at n0 _ i hlt);have HRT := Hd (range_take i (fun i : Nat => decide ((i : Int) ∈ h.l.map Tx.s)));generalize decide ((i : Int) ∈ h.l.map Tx.s) = x at *
             cases hav : (uk && ((List.range i).all fun i : Nat => decide ((i : Int) ∈ h.l.map Tx.s))) with
             | false =>
              have HRN : Hid ((uk && ((List.range (i + 1)).all fun i : Nat => decide ((i : Int) ∈ h.l.map Tx.s))) = false) := Hd (by rw [HRT.out, ← Bool.and_assoc, hav]; rfl);clear hav HRT;go_wp2
              go_roundw
              case rel => exact ⟨i + 1, by go_num, by omega, by rw [HRN.out], by first | rfl | trivial⟩
              case measure => simp [intOf]; omega
             | true =>
              have HRN : Hid ((uk && ((List.range (i + 1)).all fun i : Nat => decide ((i : Int) ∈ h.l.map Tx.s))) = x) := Hd (by rw [HRT.out, ← Bool.and_assoc, hav]; rfl);clear hav HRT;go_wp2
              go_roundw
              case rel => exact ⟨i + 1, by go_num, by omega, by rw [HRN.out], by first | rfl | trivial⟩
              case measure => simp [intOf]; omega
            ·have hin : i = n0 := by omega
             subst hin;have hd4 : decide ((i : Int) < (i : Int)) = false := by simp
             have HU2 : Hid ((uk && ((List.range i).all fun i_1 : Nat => decide ((i_1 : Int) ∈ h.l.map Tx.s))) = mayH h) := Hd (by rw [HM2.out]; rfl);rw [HU2.out]
             cases hmm : mayH h with
             | false =>
              have HE := Hd (mayH_errn2 hmm);clear hmm HU2 HM2;go_wp2
              go_ret
              exact ⟨by rw [HE.out]; rfl, hO.out⟩
             | true =>
              have HE := Hd (mayH_err2 hmm);clear hmm HU2 HM2;go_wp2
              go_ret
              exact ⟨by rw [HE.out]; rfl, hO.out⟩
      have hmk0 := fun W => run_make_row' (P := Tryz.prog) 75 4 (.bool false) 1 Tryz.underlying75 info_bool rfl .i64 .i64 n0 (by omega) (by omega) W;have hmk1 := fun W => run_make_row' (P := Tryz.prog) 75 4 (.bool false) 1 Tryz.underlying75 info_bool rfl .i64 .i64 n1 (by omega) (by omega) W;rw [made_mark] at hmk0 hmk1;clear hKK;have hsz2 := HO2.out.size;have hbs : w.heap.size < w2.heap.size := l2;refine rg1 [] [] w2 ?_;have OW : Only [] w2 w2.drew := (Only.refl [] w2).drew;have hsz := OW.size;generalize hww : w2.drew = wz at *;clear hww;refine tQ 0 (h := ?_);refine trd (i := 1) (v := ?_) 0 ?_ ?_;rotate_left
      ·(intro wq hSw; have hb := hSw.blk HB2.out (by simp); have y0 := hb.at_ 0; have y1 := hb.at_ 1; simp at y0 y1; have hb2 := hb.lt; clear hSw; go_simp; try with_reducible rfl)
      (try simp only [tdz]);refine tQ 2 (h := tQ 4 (h := ?_));refine trd (i := 5) (v := ?_) 0 ?_ ?_;rotate_left
      ·(intro wq hSw; have hb := hSw.blk HB2.out (by simp); have y0 := hb.at_ 0; have y1 := hb.at_ 1; simp at y0 y1; have hb2 := hb.lt; clear hSw; go_simp; try with_reducible rfl)
      (try simp only [tdz]);refine tQ 6 (h := ?_);refine timed_fork (i := 3) (j := 7) (by kernel_rfl) rfl rfl (fun K hK => ?_) (fun K hK => ?_)
      ·go_simp;have BN := Blk.made wz 4 (markC n1 []);have OW1 := OW.alloc (.cells (markC n1 []) 4);refine hK.out _ _ (th1 (OW1)) ?_;clear hK K OW;generalize wz.alloc (.cells (markC n1 []) 4) = wy at *;generalize wz.heap.size = g3 at *;clear wz;obtain ⟨wz, hwz⟩ : ∃ wz : World, wz = wy := ⟨_, rfl⟩;subst hwz;have OW := OW1;clear OW1;have B3 := BN;clear BN;have hsz3 := OW.size;(try simp only [tdz]);refine tQ 8 (h := ?_);refine tst (i := 7) fun K hK => ?_;go_simp;have BN := Blk.made wz 4 (markC n0 []);have OW1 := OW.alloc (.cells (markC n0 []) 4);have BX := B3.alloc (.cells (markC n0 []) 4);have hne : g3 ≠ wz.heap.size := by have := B3.lt; omega
       refine hK.out _ _ (th1 (OW1)) ?_;clear hK K OW B3;generalize wz.alloc (.cells (markC n0 []) 4) = wy at *;generalize wz.heap.size = g7 at *;clear wz;obtain ⟨wz, hwz⟩ : ∃ wz : World, wz = wy := ⟨_, rfl⟩;subst hwz;have OW := OW1;clear OW1;have B7 := BN;clear BN;have hsz7 := OW.size;have B3 := BX;clear BX;(try simp only [tdz]);refine tQ 9 (h := ?_);refine tdn ?_;exact HK.out g3 g7 _ hne (by omega) (by omega) (Hd B3) (Hd B7) (Hd OW)
      ·go_simp;have BN := Blk.made wz 4 (markC n0 []);have OW1 := OW.alloc (.cells (markC n0 []) 4);refine hK.out _ _ (th1 (OW1)) ?_;clear hK K OW;generalize wz.alloc (.cells (markC n0 []) 4) = wy at *;generalize wz.heap.size = g7 at *;clear wz;obtain ⟨wz, hwz⟩ : ∃ wz : World, wz = wy := ⟨_, rfl⟩;subst hwz;have OW := OW1;clear OW1;have B7 := BN;clear BN;have hsz7 := OW.size;(try simp only [tdz]);refine tst (i := 3) fun K hK => ?_;go_simp;have BN := Blk.made wz 4 (markC n1 []);have OW1 := OW.alloc (.cells (markC n1 []) 4);have BX := B7.alloc (.cells (markC n1 []) 4);have hne : g7 ≠ wz.heap.size := by have := B7.lt; omega
       refine hK.out _ _ (th1 (OW1)) ?_;clear hK K OW B7;generalize wz.alloc (.cells (markC n1 []) 4) = wy at *;generalize wz.heap.size = g3 at *;clear wz;obtain ⟨wz, hwz⟩ : ∃ wz : World, wz = wy := ⟨_, rfl⟩;subst hwz;have OW := OW1;clear OW1;have B3 := BN;clear BN;have hsz3 := OW.size;have B7 := BX;clear BX;have hne := hne.symm;(try simp only [tdz]);refine tQ 8 (h := tQ 9 (h := ?_));refine tdn ?_;exact HK.out g3 g7 _ hne (by omega) (by omega) (Hd B3) (Hd B7) (Hd OW)
     ·have d2 : decide ((40 : Int) < (n2 : Int)) = true := by simp; omega
      have HE := Hd (errH_4 (h := h) (by rw [HN2.out]; exact q2));go_wp2
      go_ret
      exact ⟨by rw [HE.out]; rfl, HO2.out⟩
    ·have d1 : decide ((40 : Int) < (n1 : Int)) = true := by simp; omega
     have HE := Hd (errH_3 (h := h) (by rw [HN1.out]; exact q1));go_wp2
     go_ret
     exact ⟨by rw [HE.out]; rfl, HO2.out⟩
   ·have d0 : decide ((20 : Int) < (n0 : Int)) = true := by simp; omega
    have HE := Hd (errH_2 (h := h) (by rw [HN0.out]; exact q0));go_wp2
    go_ret
    exact ⟨by rw [HE.out]; rfl, HO2.out⟩
end Go.Proofs.YthdofaoamljkfaaGreatDoor
