/- Parts. -/
import Derived.Test.YtbiclliooidkjaaGreatDoorLaw41AllK8
set_option maxRecDepth 10000
set_option maxHeartbeats 16000000
set_option linter.unusedVariables false
set_option linter.unusedSimpArgs false
namespace Go.Proofs.YtbiclliooidkjaaGreatDoor
open Go.RowKit
theorem rmay_any (k n : Int) (w : World) : Calls Tryz.prog 72 #[.agg #[.int .i64 k, .int .i64 n]] w fun e w' => e = .returned (.bool (mayB k n)) ∧ Only [] w w' := by
 unfold mayB
 by_cases h1 : k = 1
 ·subst h1;go_enter Tryz.func72, Tryz.ntmps72;go_wp2
  go_ret
  exact ⟨by simp, (Only.refl _ _).alloc _⟩
 ·have h1' : (k == 1) = false := by simp [h1]
  have H1 := Hd h1;clear h1
  by_cases h0 : k = 0
  ·subst h0;go_enter Tryz.func72, Tryz.ntmps72;go_wp2
   go_ret
   exact ⟨ret_boolv (by simp; try (rw [Bool.eq_iff_iff]; simp)), (Only.refl _ _).alloc _⟩
  ·have h0' : (k == 0) = false := by simp [h0]
   have H0 := Hd h0;clear h0
   by_cases h2 : k = 2
   ·subst h2;go_enter Tryz.func72, Tryz.ntmps72;go_wp2
    go_ret
    exact ⟨ret_boolv (by simp; try (rw [Bool.eq_iff_iff]; simp)), (Only.refl _ _).alloc _⟩
   ·have h2' : (k == 2) = false := by simp [h2]
    have H2 := Hd h2;clear h2;go_enter Tryz.func72, Tryz.ntmps72;go_wp2
    go_ret
    exact ⟨ret_boolv (by simp [H0.out, H1.out, H2.out]), (Only.refl _ _).alloc _⟩
def markC (n : Nat) (l : List Int) : Array Value := ((List.range n).map fun i : Nat => Value.bool (decide ((i : Int) ∈ l))).toArray
theorem markC_size (n : Nat) (l : List Int) : (markC n l).size = n := by simp [markC]
theorem markC_at (n : Nat) (l : List Int) (i : Nat) (hi : i < n) : (markC n l)[i]? = some (.bool (decide ((i : Int) ∈ l))) := by simp [markC, hi]
theorem markC_snoc (n : Nat) (l : List Int) (i : Nat) (hi : i < n) : markC n (l ++ [(i : Int)]) = (markC n l).setIfInBounds i (.bool true) := by
 apply Array.ext_getElem?
 intro j
 by_cases hj : j < n
 ·rw [markC_at _ _ _ hj, Array.getElem?_setIfInBounds]
  by_cases hij : i = j
  ·subst hij;rw [if_pos rfl, if_pos (by rw [markC_size]; exact hi)];simp
  ·rw [if_neg hij, markC_at _ _ _ hj];have : (j : Int) ∈ l ++ [(i : Int)] ↔ (j : Int) ∈ l := by
    simp;omega
   simp [this]
 ·rw [Array.getElem?_eq_none (by rw [markC_size]; omega), Array.getElem?_eq_none (by simp [markC_size]; omega)]
theorem made_mark (n : Nat) : madeCells #[.bool false] n = markC n [] := by
 apply Array.ext_getElem?
 intro j
 by_cases hj : j < n <;> simp [madeCells, markC, Nat.mod_one, hj]
theorem info_bool : (Tryz.prog.info? 4).map (fun i => (i.zero, i.size, i.bytes)) = some (some (.bool false), 1, 1) := by kernel_rfl
open Go.Lib hiding intOf
attribute [local go_sem ↓] Go.wp_at_zero Go.wp_at_succ
def txOps (n0 n1 : Nat) (t : Tx) : Bool := txB n0 t && t.ops.all (opB n1)
theorem rops_any (A0 A1 A2 : Option Addr) (n0 n1 n2 c0 c1 c2 B : Nat) (s f : Int) (ops : List Op4) (A' : Option Addr) (m cp : Nat) (gu cu : Nat) (K0 : List Int) (w : World) (hrow : Row w B A' (opC ops)) (hm : ops.length = m) (hmm : m ≤ 1000) (hU : Blk w gu 4 (markC n1 K0)) (hB : B ≤ gu) (h40 : n1 ≤ 1000) :
  Calls Tryz.prog 54 #[hval A0 A1 A2 n0 n1 n2 c0 c1 c2, .agg #[.int .i64 s, .int .i64 f, .slice A' m cp], .slice (some ⟨gu, 0, none⟩) n1 cu] w fun e w' => e = .returned (.bool (txOps n0 n1 ⟨s, f, ops⟩)) ∧
   Only [gu] w w' ∧ (txOps n0 n1 ⟨s, f, ops⟩ = true → Blk w' gu 4 (markC n1 (K0 ++ ops.map Op4.key))) := by
 unfold hval;have HMAY := Hd (fun vk vn w' => rmay_any vk vn w');have HROW := Hd hrow;have HMM := Hd hm;have hgu := hU.lt;have W1 : Only [gu] w ((w.alloc (.cells #[.slice A0 n0 c0, .slice A1 n1 c1, .slice A2 n2 c2] 25)).alloc (.cells #[.int .i64 s, .int .i64 f, .slice A' m cp] 39)) := ((Only.refl _ w).alloc _).alloc _;have HO := Hd W1;have HBH := Hd ((Blk.made w 25 #[.slice A0 n0 c0, .slice A1 n1 c1, .slice A2 n2 c2]).alloc (.cells #[.int .i64 s, .int .i64 f, .slice A' m cp] 39));have HBT := Hd (Blk.made (w.alloc (.cells #[.slice A0 n0 c0, .slice A1 n1 c1, .slice A2 n2 c2] 25)) 39 #[.int .i64 s, .int .i64 f, .slice A' m cp]);have HU := Hd ((hU.alloc (.cells #[.slice A0 n0 c0, .slice A1 n1 c1, .slice A2 n2 c2] 25)).alloc (.cells #[.int .i64 s, .int .i64 f, .slice A' m cp] 39));rw [World.size_alloc] at HBT;obtain ⟨r, hr⟩ : ∃ r, r = txOps n0 n1 ⟨s, f, ops⟩ := ⟨_, rfl⟩;rw [← hr];have HR := Hd hr;clear hr hrow W1 hU hm;have hcase : (s < 0 ∧ txB n0 ⟨s, f, ops⟩ = false) ∨ (decide (s < 0) = false ∧ (n0 : Int) ≤ s ∧ txB n0 ⟨s, f, ops⟩ = false) ∨ (decide (s < 0) = false ∧ decide ((n0 : Int) ≤ s) = false ∧ f < 1 ∧ txB n0 ⟨s, f, ops⟩ = false) ∨
   (decide (s < 0) = false ∧ decide ((n0 : Int) ≤ s) = false ∧ decide (f < 1) = false ∧ 3 < f ∧ txB n0 ⟨s, f, ops⟩ = false) ∨
   (decide (s < 0) = false ∧ decide ((n0 : Int) ≤ s) = false ∧ decide (f < 1) = false ∧ decide (3 < f) = false ∧ decide ((20 : Int) < (m : Int)) = true ∧ txB n0 ⟨s, f, ops⟩ = false) ∨
   (decide (s < 0) = false ∧ decide ((n0 : Int) ≤ s) = false ∧ decide (f < 1) = false ∧ decide (3 < f) = false ∧ decide ((20 : Int) < (m : Int)) = false ∧ txB n0 ⟨s, f, ops⟩ = true) := by
  unfold txB fateB;dsimp only;rw [HMM.out]
  by_cases q1 : s < 0
  ·exact .inl ⟨q1, by rw [decide_eq_false (by omega)]; rfl⟩
  ·by_cases q2 : (n0 : Int) ≤ s
   ·exact .inr (.inl ⟨decide_eq_false q1, q2, by rw [decide_eq_false (by omega)]; rfl⟩)
   ·by_cases q3 : f < 1
    ·exact .inr (.inr (.inl ⟨decide_eq_false q1, decide_eq_false q2, q3, by rw [decide_eq_false (show ¬ (1 ≤ f ∧ f ≤ 3) by omega)]; simp⟩))
    ·by_cases q4 : 3 < f
     ·exact .inr (.inr (.inr (.inl ⟨decide_eq_false q1, decide_eq_false q2, decide_eq_false q3, q4, by rw [decide_eq_false (show ¬ (1 ≤ f ∧ f ≤ 3) by omega)]; simp⟩)))
     ·by_cases q5 : 20 < m
      ·exact .inr (.inr (.inr (.inr (.inl ⟨decide_eq_false q1, decide_eq_false q2, decide_eq_false q3, decide_eq_false q4, decide_eq_true (by omega), by rw [decide_eq_false (show ¬ m ≤ 20 by omega)]; simp⟩))))
      ·exact .inr (.inr (.inr (.inr (.inr ⟨decide_eq_false q1, decide_eq_false q2, decide_eq_false q3, decide_eq_false q4, decide_eq_false (by omega), by rw [decide_eq_true (show 0 ≤ s ∧ s < (n0 : Int) by omega), decide_eq_true (show 1 ≤ f ∧ f ≤ 3 by omega), decide_eq_true (show m ≤ 20 by omega)]; rfl⟩))))
 have bad : txB n0 ⟨s, f, ops⟩ = false → r = false := fun hb => by rw [HR.out]; unfold txOps; rw [hb]; rfl
 rcases hcase with ⟨q1, q⟩ | ⟨q1, q2, q⟩ | ⟨q1, q2, q3, q⟩ | ⟨q1, q2, q3, q4, q⟩ | ⟨q1, q2, q3, q4, q5, q⟩ | ⟨q1, q2, q3, q4, q5, q⟩
 ·obtain rfl := bad q;clear bad q;go_enter Tryz.func54, Tryz.ntmps54;go_wp2
  go_ret
  first | exact ⟨rfl, HO.out⟩ | exact ⟨rfl, HO.out, by simp⟩
 ·obtain rfl := bad q;clear bad q;go_enter Tryz.func54, Tryz.ntmps54;go_wp2
  go_ret
  first | exact ⟨rfl, HO.out⟩ | exact ⟨rfl, HO.out, by simp⟩
 ·obtain rfl := bad q;clear bad q;go_enter Tryz.func54, Tryz.ntmps54;go_wp2
  go_ret
  first | exact ⟨rfl, HO.out⟩ | exact ⟨rfl, HO.out, by simp⟩
 ·obtain rfl := bad q;clear bad q;go_enter Tryz.func54, Tryz.ntmps54;go_wp2
  go_ret
  first | exact ⟨rfl, HO.out⟩ | exact ⟨rfl, HO.out, by simp⟩
 ·obtain rfl := bad q;clear bad q;go_enter Tryz.func54, Tryz.ntmps54;go_wp2
  go_ret
  first | exact ⟨rfl, HO.out⟩ | exact ⟨rfl, HO.out, by simp⟩
 ·have HRR : Hid (r = ops.all (opB n1)) := Hd (by rw [HR.out]; unfold txOps; rw [q]; rfl);have HBADX : Hid (∀ (j : Nat) y, ops[j]? = some y → opB n1 y = false → r = false) := Hd (fun j y hj hb => by
   rw [HRR.out, List.all_eq_false];exact ⟨y, List.mem_of_getElem? hj, by rw [hb]; simp⟩)
  clear bad q HR;go_enter Tryz.func54, Tryz.ntmps54;go_wp2_with fail
  clear q1 q2 q3 q4 q5
  go_loopw [7] (fun iv wr => ∃ j : Nat, iv = .int .i64 j ∧ j ≤ m ∧ Hid ((ops.take j).all (opB n1) = true) ∧ Hid (Blk wr w.heap.size 25 #[.slice A0 n0 c0, .slice A1 n1 c1, .slice A2 n2 c2]) ∧ Hid (Blk wr (w.heap.size + 1) 39 #[.int .i64 s, .int .i64 f, .slice A' m cp]) ∧ Hid (Blk wr gu 4 (markC n1 (K0 ++ (ops.take j).map Op4.key))) ∧ Hid (Only [gu] w wr)) (fun iv _ => m - (intOf iv).toNat)
  case atStart => exact ⟨0, rfl, by omega, Hd (by simp), HBH, HBT, by simpa using HU, HO⟩
  case round =>
   obtain ⟨j, rfl, hj, hall, hBH, hBT, hU, hO⟩ := hrel;clear HBH HBT HU HO;have hsz2 := hO.out.size;have lT := hBT.out.lt;have t2 := hBT.out.at_ 2;simp at t2
   by_cases hlt2 : j < m
   ·obtain ⟨y, hy⟩ : ∃ y, ops[j]? = some y := ⟨_, List.getElem?_eq_getElem (by rw [HMM.out]; exact hlt2)⟩;obtain ⟨b', off', rfl, hbB, hbw', hP⟩ := row_op HROW.out hy;obtain ⟨p0, p1, p2, p3⟩ := hP.only hO.out hbw' (by simp; omega);have HALN : Hid (opB n1 y = true → (ops.take (j + 1)).all (opB n1) = true) := Hd (fun h => takeTx_all hall.out hy h);have HBAD : Hid (opB n1 y = false → r = false) := Hd (HBADX.out j y hy);have HTK : Hid ((ops.take (j + 1)).map Op4.key = (ops.take j).map Op4.key ++ [y.key]) := Hd (by rw [List.take_add_one, hy]; simp);obtain ⟨yw, yk, yv, yn⟩ := y;dsimp only at p0 p1 p2 p3 HTK;have h01 : (j : Int) < (m : Int) := by omega
    have hj0 : (0 : Int) ≤ (j : Int) := Int.natCast_nonneg _;have hwj : IntKind.i64.wrap ((j : Int) + 1) = (j : Int) + 1 := IntWalk.i64_in _ (by omega);have hbr' : b' < wr.heap.size := by omega
    clear hP hy hall;go_upto_region 7 with (fail)
    have O2 : Only [] wr (wr.alloc (.cells #[.bool yw, .int .i64 yk, .int .i64 yv, .int .i64 yn] 50)) := (Only.refl [] wr).alloc _;have bO := Blk.made wr 50 #[.bool yw, .int .i64 yk, .int .i64 yv, .int .i64 yn];have HB2 := Hd (O2.blk hBH.out (by simp));have HT2 := Hd (O2.blk hBT.out (by simp));have HU2 := Hd (O2.blk hU.out (by simp));have HO2 := Hd (hO.out.trans (O2.wide (fun _ h => by cases h)));clear p0 p1 p2 p3 O2 hBH hBT hU hO lT t2;generalize (wr.alloc (.cells #[.bool yw, .int .i64 yk, .int .i64 yv, .int .i64 yn] 50)) = w2' at *;generalize wr.heap.size = go at *;have HBO := Hd bO;have lO := bO.lt;have o0 := bO.at_ 0;have o1 := bO.at_ 1;have o2 := bO.at_ 2;have o3 := bO.at_ 3;have lB := HB2.out.lt;have b1 := HB2.out.at_ 1;simp at o0 o1 o2 o3 b1;clear bO;have hcase : (yk < 0 ∧ opB n1 ⟨yw, yk, yv, yn⟩ = false) ∨ (decide (yk < 0) = false ∧ (n1 : Int) ≤ yk ∧ opB n1 ⟨yw, yk, yv, yn⟩ = false) ∨ ∃ i : Nat, yk = (i : Int) ∧ i < n1 ∧ opB n1 ⟨yw, yk, yv, yn⟩ = (mayB yv yn && (!yw || decide (yv = 1))) := by
     unfold opB;dsimp only
     by_cases q1 : yk < 0
     ·exact .inl ⟨q1, by rw [decide_eq_false (by omega)]; rfl⟩
     ·by_cases q2 : (n1 : Int) ≤ yk
      ·exact .inr (.inl ⟨decide_eq_false q1, q2, by rw [decide_eq_false (by omega)]; rfl⟩)
      ·exact .inr (.inr ⟨yk.toNat, by omega, by omega, by rw [decide_eq_true (show 0 ≤ yk ∧ yk < (n1 : Int) by omega)]; rfl⟩)
    rcases hcase with ⟨q1, q⟩ | ⟨q1, q2, q⟩ | ⟨i, rfl, hi, q⟩
    ·obtain rfl := HBAD.out q;clear q;go_wp2
     go_ret
     first | exact ⟨rfl, HO2.out⟩ | exact ⟨rfl, HO2.out, by simp⟩
    ·obtain rfl := HBAD.out q;clear q;go_wp2
     go_ret
     first | exact ⟨rfl, HO2.out⟩ | exact ⟨rfl, HO2.out, by simp⟩
    ·have HF := Hd (HMAY.out yv yn w2');have q1 : decide ((i : Int) < 0) = false := by simp
     have q2 : decide ((n1 : Int) ≤ (i : Int)) = false := by simp; omega
     have q5 : (0 : Int) ≤ (i : Int) := by omega
     have q6 : (i : Int) < (n1 : Int) := by omega
     cases hmy : mayB yv yn with
     | false =>
      rw [hmy] at HF q;obtain rfl := HBAD.out q;clear q hmy;go_wp2_with fail
      refine (HF.out).mono ?_;rintro e w3 ⟨rfl, O3⟩;have HO3 := Hd (HO2.out.trans (O3.wide (fun _ h => by cases h)));clear O3;go_wp2
      go_ret
      first | exact ⟨rfl, HO3.out⟩ | exact ⟨rfl, HO3.out, by simp⟩
     | true =>
      rw [hmy] at HF q;have HCS := Hd (markC_snoc n1 (K0 ++ (ops.take j).map Op4.key) i (by omega));have HCA := Hd (markC_at n1 (K0 ++ (ops.take j).map Op4.key) i (by omega));generalize decide ((i : Int) ∈ K0 ++ (ops.take j).map Op4.key) = ci at *;clear hmy;have good : Hid ((ops.take (j + 1)).all (opB n1) = true) → ∀ w3, Only [] w2' w3 → Hid (Blk (w3.setCell ⟨gu, i, none⟩ (.bool true)) gu 4 (markC n1 (K0 ++ (ops.take (j + 1)).map Op4.key))) ∧ Hid (Only [gu] w (w3.setCell ⟨gu, i, none⟩ (.bool true))) ∧
        Hid (Blk (w3.setCell ⟨gu, i, none⟩ (.bool true)) w.heap.size 25 #[.slice A0 n0 c0, .slice A1 n1 c1, .slice A2 n2 c2]) ∧ Hid (Blk (w3.setCell ⟨gu, i, none⟩ (.bool true)) (w.heap.size + 1) 39 #[.int .i64 s, .int .i64 f, .slice (some ⟨b', off', none⟩) m cp]) := fun _ w3 O3 => by
       refine ⟨Hd ?_, Hd ((HO2.out.trans (O3.wide (fun _ h => by cases h))).put (fun _ => by simp) _), Hd ((O3.blk HB2.out (by simp)).far (by simp only; omega) _), Hd ((O3.blk HT2.out (by simp)).far (by simp only; omega) _)⟩;rw [HTK.out, ← List.append_assoc, HCS.out];exact (O3.blk HU2.out (by simp)).put i _
      have HGOOD := Hd good;clear good
      cases yw with
      | true =>
       by_cases hv1 : yv = 1
       ·subst hv1;have HQ := Hd (HALN.out (by rw [q]; rfl));clear q;go_wp2_with fail
        refine (HF.out).mono ?_;rintro e w3 ⟨rfl, O3⟩;have HP := HGOOD.out HQ w3 O3;have bO3 := O3.blk HBO.out (by simp);have bU3 := O3.blk HU2.out (by simp);clear O3 lO o0 o1 o2 o3 lB b1;have lO := bO3.lt;have o0 := bO3.at_ 0;have o1 := bO3.at_ 1;have o2 := bO3.at_ 2;have lU := bU3.lt;have uj := (bU3.at_ i).trans HCA.out;have gj := bU3.free i;simp at o0 o1 o2;clear bO3 bU3;go_wp2
        go_roundw
        case rel => exact ⟨j + 1, by go_num, by omega, HQ, HP.2.2.1, HP.2.2.2, HP.1, HP.2.1⟩
        case measure => simp [intOf]; omega
       ·have hv1' : (yv == 1) = false := by simpa using hv1
        have hv1n : (yv != 1) = true := by simpa using hv1
        obtain rfl := HBAD.out (by rw [q, decide_eq_false hv1]; rfl);clear q hv1;go_wp2_with fail
        refine (HF.out).mono ?_;rintro e w3 ⟨rfl, O3⟩;have HO3 := Hd (HO2.out.trans (O3.wide (fun _ h => by cases h)));have bO3 := O3.blk HBO.out (by simp);clear O3 lO o0 o1 o2 o3 lB b1;have lO := bO3.lt;have o0 := bO3.at_ 0;have o2 := bO3.at_ 2;simp at o0 o2;clear bO3;go_wp2
        go_ret
        first | exact ⟨rfl, HO3.out⟩ | exact ⟨rfl, HO3.out, by simp⟩
      | false =>
       have HQ := Hd (HALN.out (by rw [q]; rfl));clear q;go_wp2_with fail
       refine (HF.out).mono ?_;rintro e w3 ⟨rfl, O3⟩;have HP := HGOOD.out HQ w3 O3;have bO3 := O3.blk HBO.out (by simp);have bU3 := O3.blk HU2.out (by simp);clear O3 lO o0 o1 o2 o3 lB b1;have lO := bO3.lt;have o0 := bO3.at_ 0;have o1 := bO3.at_ 1;have lU := bU3.lt;have uj := (bU3.at_ i).trans HCA.out;have gj := bU3.free i;simp at o0 o1;clear bO3 bU3;go_wp2
       go_roundw
       case rel => exact ⟨j + 1, by go_num, by omega, HQ, HP.2.2.1, HP.2.2.2, HP.1, HP.2.1⟩
       case measure => simp [intOf]; omega
   ·have hjm : j = m := by omega
    subst hjm;have hd2 : decide ((j : Int) < (j : Int)) = false := by simp
    have ht : ops.take j = ops := List.take_of_length_le (by rw [HMM.out]; exact Nat.le_refl _);have hA := hall.out;have hUU := hU.out;rw [ht] at hA hUU;obtain rfl : r = true := by rw [HRR.out, hA]
    have HUU := Hd hUU;clear hall hU hA hUU ht;go_wp2
    go_ret
    first | exact ⟨rfl, hO.out, HUU.out⟩ | exact ⟨rfl, hO.out, fun _ => HUU.out⟩
end Go.Proofs.YtbiclliooidkjaaGreatDoor
