/- Parts. -/
import Derived.Test.YtlnlppabeddclaaDoorLaw23AllK33
import Derived.Test.YtlnlppabeddclaaDoorLaw23AllK34
set_option maxRecDepth 10000
set_option maxHeartbeats 16000000
set_option linter.unusedVariables false
set_option linter.unusedSimpArgs false
namespace Go.Proofs.YtlnlppabeddclaaDoor
open Go.RowKit
attribute [local go_sem ↓] Go.wp_at_zero Go.wp_at_succ
theorem islice_to (A : Option Addr) (len c m : Nat) (hm : m ≤ c) (W : World) : (Instr.slice 25 (.slice A len c) none (some (.int .i64 (m : Int))) none).run Tryd.prog W = .ok (.slice A m c) W := by
 rw [run_slice_h (P := Tryd.prog) W 25 A len c (by kernel_rfl) .i64 (m : Int) (by omega) (by omega)];have hs : (sizeOf (Tryd.prog.elem 25)).run Tryd.prog W = .ok 1 W := by kernel_rfl
 rw [hs];simp only [Result.andThen, sliced, Int.toNat_natCast, Nat.sub_zero];rw [own_add0 (w := W) (base := 0) (e := 0) (xs := []) (n := 0)]
attribute [-go_sem] Go.run_slice_l Go.run_slice_h Go.run_slice_any Go.run_slice_lh in
theorem risr23_any (n : Int) (A Ax : Option Addr) (m c mx cx : Nat) (l : List (Int × Int)) (xs : List Int) (w : World) (hr : Row w w.heap.size A (edgeC l)) (hl : l.length = m) (hm : m ≤ 1000)
  (hx : Row w w.heap.size Ax (xs.map (Value.int .i64))) (hxl : xs.length = mx) (hmx : mx ≤ 1000) (hcx : mx ≤ cx) :
  Calls Tryd.prog 15 #[.int .i64 n, .slice Ax mx cx, .slice A m c] w fun e w' => e = .returned (.bool (isRing n xs l)) ∧ Only [] w w' := by
 have HM := Hd (rmay19_any n A m c l w hr hl (by omega));have HHAS := Hd (fun W (O : Only [] w W) (a b : Int) => (rhas23_any A m c w.heap.size l a b W (hr.only O (by simp)) hl (by omega)));obtain ⟨R, hR⟩ : ∃ R, R = isRing n xs l := ⟨_, rfl⟩;rw [← hR];unfold isRing at hR;obtain ⟨y, hy⟩ : ∃ y, y = mayL n l := ⟨_, rfl⟩;rw [← hy] at hR HM;have HR := Hd hR;clear hR hy
 cases y with
 | false =>
  have HF : Hid (R = false) := Hd (by rw [HR.out, Bool.false_and]);go_enter Tryd.func15, Tryd.ntmps15;go_wp2_with fail
  refine (HM.out).mono ?_;rintro e w2 ⟨rfl, rfl⟩;go_wp2
  go_ret
  exact ⟨by rw [HF.out]; rfl, Only.refl [] _⟩
 | true =>
  by_cases h0 : mx = 0
  ·subst h0;have HF : Hid (R = false) := Hd (by rw [HR.out, List.length_eq_zero_iff.1 hxl]; rfl);go_enter Tryd.func15, Tryd.ntmps15;go_wp2_with fail
   refine (HM.out).mono ?_;rintro e w2 ⟨rfl, rfl⟩;go_wp2
   go_ret
   exact ⟨by rw [HF.out]; rfl, Only.refl [] _⟩
  ·have g2 : ((mx : Int) == 0) = false := by simp; omega
   have HRA : Hid (R = (List.range xs.length).all fun i => !badR l xs i) := Hd (by
    rw [HR.out, decide_eq_false (fun e => by rw [e] at hxl; exact h0 hxl.symm)]
    rfl)
   have HX := Hd hx;have HXL := Hd hxl;obtain ⟨x0, hx0⟩ : ∃ x0, xs[0]? = some x0 := ⟨_, List.getElem?_eq_getElem (by omega)⟩;have HX0 := Hd hx0;clear hx hxl HR hr hl hx0;go_enter Tryd.func15, Tryd.ntmps15;go_wp2_with fail
   refine (HM.out).mono ?_;rintro e w2 ⟨rfl, rfl⟩;clear HM;go_wp2_with fail
   go_loopw [7] (fun iv wr => ∃ k : Nat, iv = .int .i64 (k : Int) ∧ k ≤ mx ∧ Hid (∀ i, i < k → badR l xs i = false) ∧ Hid (Only [] w wr)) (fun iv _ => mx - (intOf iv).toNat)
   case atStart => exact ⟨0, rfl, by omega, Hd (fun i hi => by omega), Hd (Only.refl _ _)⟩
   case round =>
    obtain ⟨k, rfl, hk, hB, hO⟩ := hrel;have hOq := hO.out
    by_cases hlt : k < mx
    ·have h01 : (k : Int) < (mx : Int) := by omega
     have hk0 : (0 : Int) ≤ (k : Int) := Int.natCast_nonneg _;have hwk : IntKind.i64.wrap ((k : Int) + 1) = (k : Int) + 1 := IntWalk.i64_in _ (by omega);obtain ⟨j, hj⟩ : ∃ j, j = (k + 1) % mx := ⟨_, rfl⟩;have hjm : j < mx := by rw [hj]; exact Nat.mod_lt _ (by omega)
     have hrem : Int.tmod ((k : Int) + 1) (mx : Int) = (j : Int) := by
      have e : (((k + 1) % mx : Nat) : Int) = ((k : Int) + 1) % (mx : Int) := by simp
      rw [Int.tmod_eq_emod_of_nonneg (by omega), hj, e]
     have hj0 : (0 : Int) ≤ (j : Int) := Int.natCast_nonneg _;have hjm2 : (j : Int) < (mx : Int) := by omega
     have hm2 : (0 : Int) < (mx : Int) := by omega
     have hm3 : 0 < mx := by omega
     obtain ⟨x, hx⟩ : ∃ x, xs[k]? = some x := ⟨_, List.getElem?_eq_getElem (by rw [HXL.out]; exact hlt)⟩;obtain ⟨y, hy⟩ : ∃ y, xs[j]? = some y := ⟨_, List.getElem?_eq_getElem (by rw [HXL.out]; exact hjm)⟩;have HBE : Hid (badR l xs k = (decide (x ∈ xs.take k) || (decide (x < x0) || !decide ((x, y) ∈ l)))) := Hd (by
      unfold badR;rw [List.getD_eq_getElem?_getD, List.getD_eq_getElem?_getD, List.getD_eq_getElem?_getD, HXL.out, ← hj, hx, HX0.out, hy]
      rfl)
     have HBAD : Hid (badR l xs k = true → R = false) := Hd (fun h => by
      rw [HRA.out];refine Bool.eq_false_iff.2 fun h2 => ?_;have := List.all_eq_true.1 h2 k (List.mem_range.2 (by rw [HXL.out]; exact hlt));rw [h] at this
      cases this)
     have HHI := Hd (fun W (O : Only [] w W) => hasInt_any Ax k cx w.heap.size (xs.take k) x W (by rw [List.length_take, HXL.out]; omega) (by omega) (by rw [List.map_take]; exact (HX.out.take k).only O (by simp)));have hsl := fun W => islice_to Ax mx cx k (by omega) W;obtain ⟨bx, ox, rfl, -, hbx, hcell⟩ := HX.out.open_ (k := k) (by rw [List.length_map, HXL.out]; exact hlt);have e0 : wr.cell? ⟨bx, ox + k, none⟩ = some (.int .i64 x) := by rw [hOq.cell hbx (by simp)]; exact hcell k _ (by rw [List.getElem?_map, hx]; rfl)
     have e1 : wr.cell? ⟨bx, ox, none⟩ = some (.int .i64 x0) := by rw [hOq.cell hbx (by simp)]; exact hcell 0 _ (by rw [List.getElem?_map, HX0.out]; rfl)
     have e2 : wr.cell? ⟨bx, ox + j, none⟩ = some (.int .i64 y) := by rw [hOq.cell hbx (by simp)]; exact hcell j _ (by rw [List.getElem?_map, hy]; rfl)
     have HHX := Hd (fun W (O : Only [] wr W) => HHAS.out W (hOq.trans O) x y);have HHJ := Hd (fun W (O : Only [] wr W) => HHI.out W (hOq.trans O));have hbr : bx < wr.heap.size := Nat.lt_of_lt_of_le hbx hOq.size;have HE0 := Hd e0;have HE1 := Hd e1;have HE2 := Hd e2;clear hcell hx hy hj hOq HHI e0 e1 e2
     by_cases hlx : x < x0
     ·have HF := Hd (HBAD.out (by rw [HBE.out, decide_eq_true hlx, Bool.true_or, Bool.or_true]));have hlx2 : decide (x < x0) = true := decide_eq_true hlx;go_upto_region 6 with (fail)
      have RD0 := Hd fun wq (hSw : Only [] wr wq) => aI ((hSw.cell (p := ⟨bx, ox + k, none⟩) hbr (by simp)).trans HE0.out) (aI ((hSw.cell (p := ⟨bx, ox, none⟩) hbr (by simp)).trans HE1.out) (aI ((hSw.cell (p := ⟨bx, ox + j, none⟩) hbr (by simp)).trans HE2.out) (Nat.lt_of_lt_of_le hbr hSw.size)));refine rg1 [] [] wr ?_;have OW : Only [] wr wr.drew := (Only.refl [] wr).drew;generalize wr.drew = wz at *;refine tQ 0 (h := tQ 1 (h := tQ 2 (h := trq 3 0 RD0 (h := tQ 4 (h := tQ 5 (h := trq 6 0 RD0 (h := tQ 7 (h := tQ 8 (h := tiq 9 (h := tiq 10 (h := tiq 11 (h := tiq 12 (h := tiq 13 (h := tiq 14 (h := tiq 15 (h := tiq 16 (h := tQ 17 (h := tQ 18 (h := tiq 19 (h := tiq 20 (h := tiq 21 (h := tiq 22 (h := tiq 23 (h := tiq 24 (h := tiq 25 (h := tiq 26 (h := tiq 27 (h := tiq 28 (h := tiq 29 (h := tiq 30 (h := tiq 31 (h := tiq 32 (h := tiq 33 (h := tQ 34 (h := ?_)))))))))))))))))))))))))))))))))));refine tdn ?_;have HO9 := Hd (hO.out.trans OW);clear OW;go_wp2
      go_ret
      exact ⟨by rw [HF.out]; rfl, HO9.out⟩
     ·have hlx2 : decide (x < x0) = false := decide_eq_false hlx;rw [decide_eq_false hlx, Bool.false_or] at HBE
      by_cases hin : x ∈ xs.take k
      ·rw [decide_eq_true hin] at HHJ;have HF := Hd (HBAD.out (by rw [HBE.out, decide_eq_true hin, Bool.true_or]));go_upto_region 6 with (fail)
       have RD0 := Hd fun wq (hSw : Only [] wr wq) => aI ((hSw.cell (p := ⟨bx, ox + k, none⟩) hbr (by simp)).trans HE0.out) (aI ((hSw.cell (p := ⟨bx, ox, none⟩) hbr (by simp)).trans HE1.out) (aI ((hSw.cell (p := ⟨bx, ox + j, none⟩) hbr (by simp)).trans HE2.out) (Nat.lt_of_lt_of_le hbr hSw.size)));refine rg1 [] [] wr ?_;have OW : Only [] wr wr.drew := (Only.refl [] wr).drew;generalize wr.drew = wz at *;refine tQ 0 (h := tQ 1 (h := tQ 2 (h := trq 3 0 RD0 (h := tQ 4 (h := tQ 5 (h := trq 6 0 RD0 (h := tQ 7 (h := tQ 8 (h := tQ 9 (h := tQ 10 (h := tQ 11 (h := tQ 12 (h := tQ 13 (h := tQ 14 (h := trq 15 0 RD0 (h := ?_))))))))))))))));refine tst (i := 16) fun K hK => ?_;go_simp;refine (HHJ.out _ OW).mono ?_;rintro e wa ⟨rfl, rfl⟩;refine kOut hK (OW) (h := ?_);clear hK K;refine tQ 17 (h := tQ 18 (h := tiq 19 (h := tiq 20 (h := tiq 21 (h := tiq 22 (h := tiq 23 (h := tiq 24 (h := tiq 25 (h := tiq 26 (h := tiq 27 (h := tiq 28 (h := tiq 29 (h := tiq 30 (h := tiq 31 (h := tiq 32 (h := tiq 33 (h := tQ 34 (h := ?_))))))))))))))))));refine tdn ?_;have HO9 := Hd (hO.out.trans OW);clear OW;go_wp2
       go_ret
       exact ⟨by rw [HF.out]; rfl, HO9.out⟩
      ·rw [decide_eq_false hin] at HHJ;rw [decide_eq_false hin, Bool.false_or] at HBE
       by_cases hed : (x, y) ∈ l
       ·rw [decide_eq_true hed] at HHX HBE;have HBN : Hid (∀ i, i < k + 1 → badR l xs i = false) := Hd (fun i hi => by
         rcases Nat.lt_or_ge i k with h | h
         ·exact hB.out i h
         ·obtain rfl : i = k := by omega
          exact HBE.out)
        go_upto_region 6 with (fail)
        have RD0 := Hd fun wq (hSw : Only [] wr wq) => aI ((hSw.cell (p := ⟨bx, ox + k, none⟩) hbr (by simp)).trans HE0.out) (aI ((hSw.cell (p := ⟨bx, ox, none⟩) hbr (by simp)).trans HE1.out) (aI ((hSw.cell (p := ⟨bx, ox + j, none⟩) hbr (by simp)).trans HE2.out) (Nat.lt_of_lt_of_le hbr hSw.size)));refine rg1 [] [] wr ?_;have OW : Only [] wr wr.drew := (Only.refl [] wr).drew;generalize wr.drew = wz at *;refine tQ 0 (h := tQ 1 (h := tQ 2 (h := trq 3 0 RD0 (h := tQ 4 (h := tQ 5 (h := trq 6 0 RD0 (h := tQ 7 (h := tQ 8 (h := tQ 9 (h := tQ 10 (h := tQ 11 (h := tQ 12 (h := tQ 13 (h := tQ 14 (h := trq 15 0 RD0 (h := ?_))))))))))))))));refine tst (i := 16) fun K hK => ?_;go_simp;refine (HHJ.out _ OW).mono ?_;rintro e wa ⟨rfl, rfl⟩;refine kOut hK (OW) (h := ?_);clear hK K;refine tQ 17 (h := tQ 18 (h := tQ 19 (h := tQ 20 (h := tQ 21 (h := tQ 22 (h := trq 23 0 RD0 (h := tQ 24 (h := tQ 25 (h := tQ 26 (h := tQ 27 (h := tQ 28 (h := tQ 29 (h := tQ 30 (h := trq 31 0 RD0 (h := ?_)))))))))))))));refine tst (i := 32) fun K hK => ?_;go_simp;refine (HHX.out _ OW).mono ?_;rintro e wa ⟨rfl, rfl⟩;refine kOut hK (OW) (h := ?_);clear hK K;refine tQ 33 (h := tQ 34 (h := ?_));refine tdn ?_;have HO9 := Hd (hO.out.trans OW);clear OW;go_wp2
        go_roundw
        case rel => exact ⟨k + 1, by go_num, by omega, HBN, HO9⟩
        case measure => simp [intOf]; omega
       ·rw [decide_eq_false hed] at HHX HBE;have HF := Hd (HBAD.out HBE.out);go_upto_region 6 with (fail)
        have RD0 := Hd fun wq (hSw : Only [] wr wq) => aI ((hSw.cell (p := ⟨bx, ox + k, none⟩) hbr (by simp)).trans HE0.out) (aI ((hSw.cell (p := ⟨bx, ox, none⟩) hbr (by simp)).trans HE1.out) (aI ((hSw.cell (p := ⟨bx, ox + j, none⟩) hbr (by simp)).trans HE2.out) (Nat.lt_of_lt_of_le hbr hSw.size)));refine rg1 [] [] wr ?_;have OW : Only [] wr wr.drew := (Only.refl [] wr).drew;generalize wr.drew = wz at *;refine tQ 0 (h := tQ 1 (h := tQ 2 (h := trq 3 0 RD0 (h := tQ 4 (h := tQ 5 (h := trq 6 0 RD0 (h := tQ 7 (h := tQ 8 (h := tQ 9 (h := tQ 10 (h := tQ 11 (h := tQ 12 (h := tQ 13 (h := tQ 14 (h := trq 15 0 RD0 (h := ?_))))))))))))))));refine tst (i := 16) fun K hK => ?_;go_simp;refine (HHJ.out _ OW).mono ?_;rintro e wa ⟨rfl, rfl⟩;refine kOut hK (OW) (h := ?_);clear hK K;refine tQ 17 (h := tQ 18 (h := tQ 19 (h := tQ 20 (h := tQ 21 (h := tQ 22 (h := trq 23 0 RD0 (h := tQ 24 (h := tQ 25 (h := tQ 26 (h := tQ 27 (h := tQ 28 (h := tQ 29 (h := tQ 30 (h := trq 31 0 RD0 (h := ?_)))))))))))))));refine tst (i := 32) fun K hK => ?_;go_simp;refine (HHX.out _ OW).mono ?_;rintro e wa ⟨rfl, rfl⟩;refine kOut hK (OW) (h := ?_);clear hK K;refine tQ 33 (h := tQ 34 (h := ?_));refine tdn ?_;have HO9 := Hd (hO.out.trans OW);clear OW;go_wp2
        go_ret
        exact ⟨by rw [HF.out]; rfl, HO9.out⟩
    ·have hkm : k = mx := by omega
     subst hkm;have hd2 : decide ((k : Int) < (k : Int)) = false := by simp
     have HF : Hid (R = true) := Hd (by
      rw [HRA.out, List.all_eq_true];intro i hi;rw [hB.out i (by rw [← HXL.out]; exact List.mem_range.1 hi)]
      rfl)
     go_wp2
     go_ret
     exact ⟨by rw [HF.out]; rfl, hO.out⟩
end Go.Proofs.YtlnlppabeddclaaDoor
