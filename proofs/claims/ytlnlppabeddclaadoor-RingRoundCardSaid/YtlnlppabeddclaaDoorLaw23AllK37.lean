/- Parts. -/
import Derived.Test.YtlnlppabeddclaaDoorLaw23AllK35
import Derived.Test.YtlnlppabeddclaaDoorLaw23AllK36
set_option maxRecDepth 10000
set_option maxHeartbeats 16000000
set_option linter.unusedVariables false
set_option linter.unusedSimpArgs false
namespace Go.Proofs.YtlnlppabeddclaaDoor
open Go.RowKit
attribute [local go_sem ↓] Go.wp_at_zero Go.wp_at_succ
def leastQ (n : Int) (l : List (Int × Int)) : List Nat × Int := if mayL n l = true then ((ringL (edB l) n.toNat).getD [], if (ringL (edB l) n.toNat).isSome then 0 else 3) else ([], 2)
theorem leastQ_no {n : Int} {l : List (Int × Int)} (h : mayL n l = false) : leastQ n l = ([], 2) := by unfold leastQ; rw [h]; rfl
theorem leastQ_yes {q : Nat} {l : List (Int × Int)} (h : mayL (q : Int) l = true) : leastQ (q : Int) l = ((ringL (edB l) q).getD [], if (ringL (edB l) q).isSome then 0 else 3) := by unfold leastQ; rw [h, if_pos rfl, Int.toNat_natCast]
theorem rleastA_any (n : Int) (A : Option Addr) (m c : Nat) (l : List (Int × Int)) (w : World) (hr : Row w w.heap.size A (edgeC l)) (hl : l.length = m) (hm : m ≤ 1000) (hT : Tab w) (h00 : 0 < w.heap.size) :
  Calls Tryd.prog 7 #[.int .i64 n, .slice A m c] w fun e w' => ∃ A' c', (e = .returned (.tuple #[.slice A' (leastQ n l).1.length c', .int .i64 (leastQ n l).2]) ∧ w'.ownsRow w.heap.size 3 1 (.slice A' (leastQ n l).1.length c') (leastQ n l).1.length (intsQ (leastQ n l).1)) ∧ Only [] w w' := by
 by_cases hn : n < 0 ∨ 500 < n
 ·have hb : mayL n l = false := by unfold mayL; rw [decide_eq_false (by omega)]; rfl
  rw [leastQ_no hb];have HG := Hd (gof_no n A m c w hn);clear hb hr hn;go_enter Tryd.func7, Tryd.ntmps7;go_wp2_with fail
  refine (HG.out).mono ?_;rintro e w1 ⟨rfl, rfl⟩;go_wp2
  exact bodyPost_ret (v := .tuple #[.slice none 0 0, .int .i64 2]) (by simp [results, Tryd.results7, go_sem]) rfl ⟨none, 0, ⟨rfl, World.ownsRow_nil _ _ _ _⟩, Only.refl [] _⟩
 ·obtain ⟨q, rfl⟩ : ∃ q : Nat, n = q := ⟨n.toNat, by omega⟩;have hq : q ≤ 500 := by omega
  have hmy : mayL (q : Int) l = l.all (goodE q) := by unfold mayL; rw [decide_eq_true (by omega), Bool.true_and, Int.toNat_natCast]
  cases hgd : l.all (goodE q) with
  | true =>
   rw [leastQ_yes (hmy.trans hgd)];exact rleast23_any q A m c l w hq hr hl hm hT h00 hgd
  | false =>
   rw [leastQ_no (hmy.trans hgd)];have HG := Hd (gof_any q A m c l w hq hr hl hm);have HGD := Hd hgd;clear hgd hmy hr hl hT hn;go_enter Tryd.func7, Tryd.ntmps7;go_wp2_with fail
   refine (HG.out).mono ?_;rintro e w1 ⟨O1, ⟨-, rfl⟩ | ⟨hgd, -, -⟩⟩
   ·have HO1 := Hd O1;clear HG O1;go_wp2
    exact bodyPost_ret (v := .tuple #[.slice none 0 0, .int .i64 2]) (by simp [results, Tryd.results7, go_sem]) rfl ⟨none, 0, ⟨rfl, World.ownsRow_nil _ _ _ _⟩, HO1.out⟩
   ·rw [HGD.out] at hgd
    cases hgd
theorem risA_any (n : Int) (A Ax : Option Addr) (m c mx cx : Nat) (l : List (Int × Int)) (xs : List Int) (w : World) (hr : Row w w.heap.size A (edgeC l)) (hl : l.length = m) (hm : m ≤ 1000)
  (hx : Row w w.heap.size Ax (xs.map (Value.int .i64))) (hxl : xs.length = mx) (hmx : mx ≤ 1000) (hwf : ∀ x ∈ xs, (Lit.int .i64 x).wf = true) :
  Calls Tryd.prog 14 #[.int .i64 n, .slice Ax mx cx, .slice A m c] w fun e w' => e = .returned (.bool (isRing n xs l)) ∧ Only [] w w' := by
 by_cases hn : n < 0 ∨ 500 < n
 ·have hb : mayL n l = false := by unfold mayL; rw [decide_eq_false (by omega)]; rfl
  have HF : Hid (isRing n xs l = false) := Hd (by unfold isRing; rw [hb]; rfl);have HG := Hd (gof_no n A m c w hn);clear hb hr hn hx;go_enter Tryd.func14, Tryd.ntmps14;go_wp2_with fail
  refine (HG.out).mono ?_;rintro e w1 ⟨rfl, rfl⟩;go_wp2
  go_ret
  exact ⟨by rw [HF.out]; rfl, Only.refl [] _⟩
 ·obtain ⟨q, rfl⟩ : ∃ q : Nat, n = q := ⟨n.toNat, by omega⟩;have hq : q ≤ 500 := by omega
  have hmy : mayL (q : Int) l = l.all (goodE q) := by unfold mayL; rw [decide_eq_true (by omega), Bool.true_and, Int.toNat_natCast]
  cases hgd : l.all (goodE q) with
  | true => exact ris23_in q A Ax m c mx cx l xs w hq hr hl hm hgd hx hxl hmx hwf
  | false =>
   have HF : Hid (isRing (q : Int) xs l = false) := Hd (by unfold isRing; rw [hmy, hgd]; rfl);have HG := Hd (gof_any q A m c l w hq hr hl hm);have HGD := Hd hgd;clear hgd hmy hr hl hn hx;go_enter Tryd.func14, Tryd.ntmps14;go_wp2_with fail
   refine (HG.out).mono ?_;rintro e w1 ⟨O1, ⟨-, rfl⟩ | ⟨hgd, -, -⟩⟩
   ·have HO1 := Hd O1;clear HG O1;go_wp2
    go_ret
    exact ⟨by rw [HF.out]; rfl, HO1.out⟩
   ·rw [HGD.out] at hgd
    cases hgd
def fewN (n : Int) : Int := if 9 < n ∧ n ≤ 500 then 9 else n
attribute [-go_sem] Go.run_slice_l Go.run_slice_h Go.run_slice_any Go.run_slice_lh in
theorem few23_any (n : Int) (A : Option Addr) (m c : Nat) (l : List (Int × Int)) (w : World) (hr : Row w w.heap.size A (edgeC l)) (hl : l.length = m) (hmc : m ≤ c) (hc : c ≤ maxLen) :
  Calls Tryd.prog 6 #[.int .i64 n, .slice A m c] w fun e w' => ∃ A' c', (e = .returned (.tuple #[.int .i64 (fewN n), .slice A' (min m 25) c']) ∧ w'.ownsRow w.heap.size 47 2 (.slice A' (min m 25) c') (min m 25) (edgeC (l.take (min m 25)))) ∧ Only [] w w' := by
 obtain ⟨i0, hi, hz0, hz1, hz2⟩ := info_parts info_edge;unfold maxLen at hc;obtain ⟨M, hM⟩ : ∃ M, M = min m 25 := ⟨_, rfl⟩;rw [← hM];have hMm : M ≤ m := by omega
 have hM25 : M ≤ 25 := by omega
 have hmin : min (m : Int) 25 = (M : Int) := by omega
 have HAP : Hid (Row (w.alloc (.cells #[] 47)) w.heap.size A (edgeC (l.take M)) ∧ (edgeC (l.take M)).length = M * 2) := Hd (by
  refine ⟨?_, by rw [edgeC_len, List.length_take, hl, Nat.min_eq_left hMm]⟩;rw [edgeC_take];exact (hr.take (M * 2)).only ((Only.refl [] w).alloc _) (by simp))
 obtain ⟨N, hN⟩ : ∃ N, N = fewN n := ⟨_, rfl⟩;rw [← hN];clear hr hl
 by_cases h1 : 9 < n
 ·by_cases h2 : n ≤ 500
  ·have hs : N = 9 := by rw [hN]; exact if_pos ⟨h1, h2⟩
   subst hs;clear hN
   by_cases hm25 : m ≤ 25
   ·obtain rfl : M = m := by omega
    clear hM hmin;have hsl := fun W => slice_to A M c M (by omega) W;go_enter Tryd.func6, Tryd.ntmps6;go_wp2_with (
     at_builtin
     refine wpList_append_row _ rfl (.tmp 13) (.tmp 18) 22 rfl w.heap.size 47 i0 _ 2 16 Tryd.underlying22 hi hz0 hz1 hz2 rfl (by omega) (.slice (some ⟨w.heap.size, 0, none⟩) 0 0) 0 [] (by rfl) (World.ownsRow_lit w #[] 0 (Nat.le_refl _) (by unfold maxLen; omega) rfl) w.heap.size A M c (edgeC (l.take M)) (by rfl) HAP.out.2 HAP.out.1 (one_edgeC _) (by unfold maxLen; omega) (by omega) (by rw [World.size_alloc]; omega) ?_;intro v w1 hown hgrow hat)
    have HO9 : Only [] w w1 := ((Only.refl [] w).alloc _).step (Only.of_grown (S := [w.heap.size]) hgrow (fun g hg _ => by simp [Value.ownBlock] at hg; simp [hg])) (fun i hi hlt => by simp at hi; omega);rw [Nat.zero_add, List.nil_append] at hown;obtain ⟨A9, c9, rfl, -, -, -, -⟩ := own_row hown;exact bodyPost_ret (v := .tuple #[.int .i64 9, .slice A9 M c9]) (by simp [results, Tryd.results6, go_sem]) rfl (by first | exact ⟨A9, c9, ⟨rfl, hown⟩, HO9⟩ | exact ⟨⟨A9, c9, rfl, hown⟩, HO9⟩)
   ·obtain rfl : M = 25 := by omega
    have hm26 : (25 : Int) < (m : Int) := by omega
    clear hM hmin;have hsl : ∀ W, (Instr.slice 22 (.slice A m c) none (some (.int .i64 25)) none).run Tryd.prog W = .ok (.slice A 25 c) W := fun W => slice_to A m c 25 (by omega) W;go_enter Tryd.func6, Tryd.ntmps6;go_wp2_with (
     at_builtin
     refine wpList_append_row _ rfl (.tmp 13) (.tmp 18) 22 rfl w.heap.size 47 i0 _ 2 16 Tryd.underlying22 hi hz0 hz1 hz2 rfl (by omega) (.slice (some ⟨w.heap.size, 0, none⟩) 0 0) 0 [] (by rfl) (World.ownsRow_lit w #[] 0 (Nat.le_refl _) (by unfold maxLen; omega) rfl) w.heap.size A 25 c (edgeC (l.take 25)) (by rfl) HAP.out.2 HAP.out.1 (one_edgeC _) (by unfold maxLen; omega) (by omega) (by rw [World.size_alloc]; omega) ?_;intro v w1 hown hgrow hat)
    have HO9 : Only [] w w1 := ((Only.refl [] w).alloc _).step (Only.of_grown (S := [w.heap.size]) hgrow (fun g hg _ => by simp [Value.ownBlock] at hg; simp [hg])) (fun i hi hlt => by simp at hi; omega);rw [Nat.zero_add, List.nil_append] at hown;obtain ⟨A9, c9, rfl, -, -, -, -⟩ := own_row hown;exact bodyPost_ret (v := .tuple #[.int .i64 9, .slice A9 25 c9]) (by simp [results, Tryd.results6, go_sem]) rfl (by first | exact ⟨A9, c9, ⟨rfl, hown⟩, HO9⟩ | exact ⟨⟨A9, c9, rfl, hown⟩, HO9⟩)
  ·have hs : N = n := by rw [hN]; exact if_neg (fun h => h2 h.2)
   subst hs;clear hN
   by_cases hm25 : m ≤ 25
   ·obtain rfl : M = m := by omega
    clear hM hmin;have hsl := fun W => slice_to A M c M (by omega) W;go_enter Tryd.func6, Tryd.ntmps6;go_wp2_with (
     at_builtin
     refine wpList_append_row _ rfl (.tmp 13) (.tmp 18) 22 rfl w.heap.size 47 i0 _ 2 16 Tryd.underlying22 hi hz0 hz1 hz2 rfl (by omega) (.slice (some ⟨w.heap.size, 0, none⟩) 0 0) 0 [] (by rfl) (World.ownsRow_lit w #[] 0 (Nat.le_refl _) (by unfold maxLen; omega) rfl) w.heap.size A M c (edgeC (l.take M)) (by rfl) HAP.out.2 HAP.out.1 (one_edgeC _) (by unfold maxLen; omega) (by omega) (by rw [World.size_alloc]; omega) ?_;intro v w1 hown hgrow hat)
    have HO9 : Only [] w w1 := ((Only.refl [] w).alloc _).step (Only.of_grown (S := [w.heap.size]) hgrow (fun g hg _ => by simp [Value.ownBlock] at hg; simp [hg])) (fun i hi hlt => by simp at hi; omega);rw [Nat.zero_add, List.nil_append] at hown;obtain ⟨A9, c9, rfl, -, -, -, -⟩ := own_row hown;exact bodyPost_ret (v := .tuple #[.int .i64 N, .slice A9 M c9]) (by simp [results, Tryd.results6, go_sem]) rfl (by first | exact ⟨A9, c9, ⟨rfl, hown⟩, HO9⟩ | exact ⟨⟨A9, c9, rfl, hown⟩, HO9⟩)
   ·obtain rfl : M = 25 := by omega
    have hm26 : (25 : Int) < (m : Int) := by omega
    clear hM hmin;have hsl : ∀ W, (Instr.slice 22 (.slice A m c) none (some (.int .i64 25)) none).run Tryd.prog W = .ok (.slice A 25 c) W := fun W => slice_to A m c 25 (by omega) W;go_enter Tryd.func6, Tryd.ntmps6;go_wp2_with (
     at_builtin
     refine wpList_append_row _ rfl (.tmp 13) (.tmp 18) 22 rfl w.heap.size 47 i0 _ 2 16 Tryd.underlying22 hi hz0 hz1 hz2 rfl (by omega) (.slice (some ⟨w.heap.size, 0, none⟩) 0 0) 0 [] (by rfl) (World.ownsRow_lit w #[] 0 (Nat.le_refl _) (by unfold maxLen; omega) rfl) w.heap.size A 25 c (edgeC (l.take 25)) (by rfl) HAP.out.2 HAP.out.1 (one_edgeC _) (by unfold maxLen; omega) (by omega) (by rw [World.size_alloc]; omega) ?_;intro v w1 hown hgrow hat)
    have HO9 : Only [] w w1 := ((Only.refl [] w).alloc _).step (Only.of_grown (S := [w.heap.size]) hgrow (fun g hg _ => by simp [Value.ownBlock] at hg; simp [hg])) (fun i hi hlt => by simp at hi; omega);rw [Nat.zero_add, List.nil_append] at hown;obtain ⟨A9, c9, rfl, -, -, -, -⟩ := own_row hown;exact bodyPost_ret (v := .tuple #[.int .i64 N, .slice A9 25 c9]) (by simp [results, Tryd.results6, go_sem]) rfl (by first | exact ⟨A9, c9, ⟨rfl, hown⟩, HO9⟩ | exact ⟨⟨A9, c9, rfl, hown⟩, HO9⟩)
 ·have hs : N = n := by rw [hN]; exact if_neg (fun h => h1 h.1)
  subst hs;clear hN
  by_cases hm25 : m ≤ 25
  ·obtain rfl : M = m := by omega
   clear hM hmin;have hsl := fun W => slice_to A M c M (by omega) W;go_enter Tryd.func6, Tryd.ntmps6;go_wp2_with (
    at_builtin
    refine wpList_append_row _ rfl (.tmp 13) (.tmp 18) 22 rfl w.heap.size 47 i0 _ 2 16 Tryd.underlying22 hi hz0 hz1 hz2 rfl (by omega) (.slice (some ⟨w.heap.size, 0, none⟩) 0 0) 0 [] (by rfl) (World.ownsRow_lit w #[] 0 (Nat.le_refl _) (by unfold maxLen; omega) rfl) w.heap.size A M c (edgeC (l.take M)) (by rfl) HAP.out.2 HAP.out.1 (one_edgeC _) (by unfold maxLen; omega) (by omega) (by rw [World.size_alloc]; omega) ?_;intro v w1 hown hgrow hat)
   have HO9 : Only [] w w1 := ((Only.refl [] w).alloc _).step (Only.of_grown (S := [w.heap.size]) hgrow (fun g hg _ => by simp [Value.ownBlock] at hg; simp [hg])) (fun i hi hlt => by simp at hi; omega);rw [Nat.zero_add, List.nil_append] at hown;obtain ⟨A9, c9, rfl, -, -, -, -⟩ := own_row hown;exact bodyPost_ret (v := .tuple #[.int .i64 N, .slice A9 M c9]) (by simp [results, Tryd.results6, go_sem]) rfl (by first | exact ⟨A9, c9, ⟨rfl, hown⟩, HO9⟩ | exact ⟨⟨A9, c9, rfl, hown⟩, HO9⟩)
  ·obtain rfl : M = 25 := by omega
   have hm26 : (25 : Int) < (m : Int) := by omega
   clear hM hmin;have hsl : ∀ W, (Instr.slice 22 (.slice A m c) none (some (.int .i64 25)) none).run Tryd.prog W = .ok (.slice A 25 c) W := fun W => slice_to A m c 25 (by omega) W;go_enter Tryd.func6, Tryd.ntmps6;go_wp2_with (
    at_builtin
    refine wpList_append_row _ rfl (.tmp 13) (.tmp 18) 22 rfl w.heap.size 47 i0 _ 2 16 Tryd.underlying22 hi hz0 hz1 hz2 rfl (by omega) (.slice (some ⟨w.heap.size, 0, none⟩) 0 0) 0 [] (by rfl) (World.ownsRow_lit w #[] 0 (Nat.le_refl _) (by unfold maxLen; omega) rfl) w.heap.size A 25 c (edgeC (l.take 25)) (by rfl) HAP.out.2 HAP.out.1 (one_edgeC _) (by unfold maxLen; omega) (by omega) (by rw [World.size_alloc]; omega) ?_;intro v w1 hown hgrow hat)
   have HO9 : Only [] w w1 := ((Only.refl [] w).alloc _).step (Only.of_grown (S := [w.heap.size]) hgrow (fun g hg _ => by simp [Value.ownBlock] at hg; simp [hg])) (fun i hi hlt => by simp at hi; omega);rw [Nat.zero_add, List.nil_append] at hown;obtain ⟨A9, c9, rfl, -, -, -, -⟩ := own_row hown;exact bodyPost_ret (v := .tuple #[.int .i64 N, .slice A9 25 c9]) (by simp [results, Tryd.results6, go_sem]) rfl (by first | exact ⟨A9, c9, ⟨rfl, hown⟩, HO9⟩ | exact ⟨⟨A9, c9, rfl, hown⟩, HO9⟩)
theorem ex_ring : leastQ 3 [(0, 1), (1, 2), (2, 0), (2, 1)] = ([1, 2], 0) := by kernel_rfl
theorem ex_isr : isRing 2 [0, 1] [(0, 1), (1, 0)] = true := by kernel_rfl
theorem works23_any (w : World) (hT : Tab w) (h00 : 0 < w.heap.size) : Calls Tryd.prog 10 #[] w fun e w' => e = .returned (.bool true) ∧ Only [] w w' := by
 have HE := Hd (fun (W : World) => (Only.refl [] W).alloc (.cells #[.int .i64 0, .int .i64 1, .int .i64 1, .int .i64 2, .int .i64 2, .int .i64 0, .int .i64 2, .int .i64 1] 47));have HL := Hd (show Calls _ _ _ _ _ from by
  have := rleastA_any 3 (some ⟨w.heap.size, 0, none⟩) 4 4 [(0, 1), (1, 2), (2, 0), (2, 1)] _ (by rw [World.size_alloc]; exact row_lit w 47 #[.int .i64 0, .int .i64 1, .int .i64 1, .int .i64 2, .int .i64 2, .int .i64 0, .int .i64 2, .int .i64 1]) rfl (by omega) (hT.only h00 (HE.out w) (by simp)) (by simp);rw [ex_ring] at this;exact this)
 have HI := Hd (fun (W : World) => by
  have := risA_any 2 (some ⟨W.heap.size + 1, 0, none⟩) (some ⟨W.heap.size, 0, none⟩) 2 2 2 2 [(0, 1), (1, 0)] [0, 1] ((W.alloc (.cells #[.int .i64 0, .int .i64 1] 3)).alloc (.cells #[.int .i64 0, .int .i64 1, .int .i64 1, .int .i64 0] 47)) (by
    have := row_lit (W.alloc (.cells #[.int .i64 0, .int .i64 1] 3)) 47 #[.int .i64 0, .int .i64 1, .int .i64 1, .int .i64 0];rw [World.size_alloc] at this;rw [World.size_alloc, World.size_alloc];exact this) rfl (by omega) (row_up ((row_lit W 3 #[.int .i64 0, .int .i64 1]).only ((Only.refl [] _).alloc _) (by simp))) rfl (by omega) (by decide)
  rw [ex_isr] at this;exact this)
 dsimp only at HL;clear hT;go_enter Tryd.func10, Tryd.ntmps10;go_wp2_with fail
 refine (HL.out).mono ?_;rintro e w1 ⟨A1, c1, ⟨rfl, hv⟩, O1⟩;have HV1 := Hd hv;have HO1 := Hd ((HE.out w).trans O1);clear hv O1 HL;go_wp2_with fail
 have O3 : Only [] w1 (w1.alloc (.cells #[.int .i64 1, .int .i64 2] 3)) := (Only.refl [] w1).alloc _;have HR2 := Hd (row_of_own (own_only HV1.out O3 (by simp)));refine (sameInts_any A1 (some ⟨w1.heap.size, 0, none⟩) 2 2 c1 2 [1, 2] [1, 2] _ _ _ HR2.out (row_lit w1 3 #[.int .i64 1, .int .i64 2]) rfl rfl (by omega) (by omega)).mono ?_;rintro e w3 ⟨rfl, kd, rfl⟩;have HO3 := Hd (HO1.out.trans (O3.drewN kd));clear O3 HR2 HV1 HO1;generalize (w1.alloc (.cells #[.int .i64 1, .int .i64 2] 3)).drewN kd = w3 at *;go_wp2_with fail
 refine (HI.out w3).mono ?_;rintro e w5 ⟨rfl, O5⟩;have HO5 := Hd (HO3.out.trans ((((Only.refl [] w3).alloc _).alloc _).trans O5));clear O5;go_wp2
 go_ret
 exact ⟨rfl, HO5.out⟩
end Go.Proofs.YtlnlppabeddclaaDoor
