/- Parts. -/
import Derived.Test.YtgimobilcdkmpaaDoorBitsPlaysCardK21
set_option maxRecDepth 10000
set_option maxHeartbeats 16000000
set_option linter.unusedVariables false
set_option linter.unusedSimpArgs false
namespace Go.Proofs.YtgimobilcdkmpaaDoor
open Go.RowKit
attribute [local go_sem ↓] Go.wp_at_zero Go.wp_at_succ
theorem markC_drop (n : Nat) (l : List Int) (i : Nat) (hi : i < n) : markC n (l.filter fun z => decide (z ≠ (i : Int))) = (markC n l).setIfInBounds i (.bool false) := by
 apply Array.ext_getElem?
 intro j
 by_cases hj : j < n
 ·rw [markC_at _ _ _ hj, Array.getElem?_setIfInBounds]
  by_cases hij : i = j
  ·subst hij;rw [if_pos rfl, if_pos (by rw [markC_size]; exact hi)];simp
  ·rw [if_neg hij, markC_at _ _ _ hj];have : (j : Int) ∈ l.filter (fun z => decide (z ≠ (i : Int))) ↔ (j : Int) ∈ l := by
    rw [List.mem_filter];simp;omega
   simp only [this]
 ·rw [Array.getElem?_eq_none (by rw [markC_size]; omega), Array.getElem?_eq_none (by simp [markC_size]; omega)]
def rputK (K : List Int) (n : Int) (is : Bool) : List Int := if 0 ≤ n ∧ n < 500 then (if is = true then K ++ [n] else K.filter fun z => decide (z ≠ n)) else K
def allK (k : Nat) (K : List Int) : List Int := ((List.range k).filter fun b : Nat => decide ((b : Int) ∈ K)).map fun b : Nat => (b : Int)
theorem allK_succ (k : Nat) (K : List Int) : allK (k + 1) K = allK k K ++ if (k : Int) ∈ K then [(k : Int)] else [] := by
 unfold allK;rw [List.range_succ, List.filter_append, List.map_append]
 congr 1
 by_cases h : (k : Int) ∈ K <;> simp [h]
theorem allK_len (k : Nat) (K : List Int) : (allK k K).length ≤ k := by
 unfold allK;rw [List.length_map];exact Nat.le_trans (List.length_filter_le _ _) (by simp)
theorem rput18_any (g : Nat) (K : List Int) (n : Int) (is : Bool) (w : World) (hB : Blk w g 29 (markC 500 K)) :
  Calls Tryd.prog 12 #[.pointer (some ⟨g, 0, none⟩), .int .i64 n, .bool is] w fun e w' => e = .returned (.int .i64 (if 0 ≤ n ∧ n < 500 then 0 else 2)) ∧ Blk w' g 29 (markC 500 (rputK K n is)) ∧ Only [g] w w' := by
 by_cases hin : 0 ≤ n ∧ n < 500
 ·obtain ⟨k, rfl⟩ : ∃ k : Nat, n = k := ⟨n.toNat, by omega⟩;have hk : k < 500 := by omega
  have hN : Blk (w.setCell ⟨g, k, none⟩ (.bool is)) g 29 (markC 500 (rputK K k is)) := by
   unfold rputK;rw [if_pos hin]
   cases is with
   | true =>
    rw [if_pos rfl, markC_snoc 500 _ k hk];exact hB.put k _
   | false =>
    rw [if_neg (by decide), markC_drop 500 _ k hk];exact hB.put k _
  have HN := Hd hN;have HO := Hd ((Only.refl [g] w).put (p := ⟨g, k, none⟩) (fun _ => by simp) (.bool is));rw [if_pos hin];have k0 := (hB.at_ k).trans (markC_at 500 _ k hk);have f1 := hB.free k;have lb := hB.lt;have hk0 : (0 : Int) ≤ (k : Int) := Int.natCast_nonneg _;have hk1 : ¬ (k : Int) < 0 := by omega
  have hk5 : (k : Int) < 500 := by omega
  have hk6 : ¬ (500 : Int) ≤ (k : Int) := by omega
  clear hN hB hin;go_enter Tryd.func12, Tryd.ntmps12;go_wp2
  go_ret
  exact ⟨rfl, HN.out, HO.out⟩
 ·rw [if_neg hin];have hR : rputK K n is = K := if_neg hin;rw [hR];have HB := Hd hB;have hcase : n < 0 ∨ (¬ n < 0 ∧ (500 : Int) ≤ n) := by omega
  clear hR hin hB;rcases hcase with h1 | ⟨h1, h2⟩
  all_goals
   go_enter Tryd.func12, Tryd.ntmps12;go_wp2
   go_ret
   exact ⟨rfl, HB.out, Only.refl _ _⟩
def hasK (K : List Int) (n : Int) : Bool := decide (0 ≤ n ∧ n < 500) && decide (n ∈ K)
theorem rhas18_any (K : List Int) (n : Int) (w : World) : Calls Tryd.prog 18 #[.agg (markC 500 K), .int .i64 n] w fun e w' => e = .returned (.bool (hasK K n)) ∧ Only [] w w' := by
 have HB := Hd (Blk.made w 29 (markC 500 K));have HO := Hd ((Only.refl [] w).alloc (.cells (markC 500 K) 29))
 by_cases hin : 0 ≤ n ∧ n < 500
 ·obtain ⟨k, rfl⟩ : ∃ k : Nat, n = k := ⟨n.toNat, by omega⟩;have hk : k < 500 := by omega
  have hR : hasK K k = decide ((k : Int) ∈ K) := by unfold hasK; rw [decide_eq_true hin, Bool.true_and]
  rw [hR];have k0 := (HB.out.at_ k).trans (markC_at 500 _ k hk);have lb := HB.out.lt;have hk0 : (0 : Int) ≤ (k : Int) := Int.natCast_nonneg _;have hk5 : (k : Int) < 500 := by omega
  generalize decide ((k : Int) ∈ K) = v at *;clear hR hin;go_enter Tryd.func18, Tryd.ntmps18;go_upto_region 1 with (fail)
  generalize (w.alloc (.cells (markC 500 K) 29)) = w1 at *;go_wp2
  go_ret
  exact ⟨rfl, HO.out⟩
 ·have hR : hasK K n = false := by unfold hasK; rw [decide_eq_false hin]; rfl
  rw [hR];have hcase : n < 0 ∨ (0 ≤ n ∧ (500 : Int) ≤ n) := by omega
  clear hR hin;rcases hcase with h1 | ⟨h1, h2⟩
  all_goals
   go_enter Tryd.func18, Tryd.ntmps18;go_upto_region 1 with (fail)
   generalize (w.alloc (.cells (markC 500 K) 29)) = w1 at *;go_wp2
   go_ret
   exact ⟨rfl, HO.out⟩
theorem rall18_any (K : List Int) (w : World) : Calls Tryd.prog 20 #[.agg (markC 500 K)] w fun e w' => ∃ A' c', (e = .returned (.slice A' (allK 500 K).length c') ∧ w'.ownsRow w.heap.size 3 1 (.slice A' (allK 500 K).length c') (allK 500 K).length ((allK 500 K).map (Value.int .i64))) ∧ Only [] w w' := by
 obtain ⟨i0, hi, hz0, hz1, hz2⟩ := info_parts info_int;go_enter Tryd.func20, Tryd.ntmps20;go_upto_region 1 with (fail)
 have HB0 := Hd (Blk.made w 29 (markC 500 K));have HO0 := Hd ((Only.refl [] w).alloc (.cells (markC 500 K) 29));generalize (w.alloc (.cells (markC 500 K) 29)) = w1 at *;obtain ⟨g, hg⟩ : ∃ g, g = w.heap.size := ⟨_, rfl⟩;rw [← hg] at HB0 ⊢;clear hg;go_wp2_with fail
 have HV0 : Hid ((w1.alloc (.cells #[] 3)).ownsRow w.heap.size 3 1 (.slice (some ⟨w1.heap.size, 0, none⟩) 0 0) (allK 0 K).length ((allK 0 K).map (Value.int .i64))) := Hd (World.ownsRow_lit w1 (e := 3) (size := 1) #[] 0 HO0.out.size (by unfold maxLen; omega) rfl);have HB1 := Hd (HB0.out.alloc (.cells #[] 3));have HO1 := Hd (HO0.out.alloc (.cells #[] 3));clear HB0 HO0
 go_loopw [3, 4] (fun V jv wr => ∃ k : Nat, jv = .int .i64 k ∧ k ≤ 500 ∧ Hid (Blk wr g 29 (markC 500 K)) ∧ Hid (wr.ownsRow w.heap.size 3 1 V (allK k K).length ((allK k K).map (Value.int .i64))) ∧ Hid (Only [] w wr)) (fun _ jv _ => 500 - (intOf jv).toNat)
 case atStart => exact ⟨0, rfl, by omega, HB1, HV0, HO1⟩
 case round =>
  obtain ⟨k, rfl, hk, hB2, hV2, hO2⟩ := hrel;clear HV0 HB1 HO1
  by_cases hlt : k < 500
  ·have k0 := (hB2.out.at_ k).trans (markC_at 500 K k hlt);have lb := hB2.out.lt;have h01 : (k : Int) < 500 := by omega
   have hk0 : (0 : Int) ≤ (k : Int) := Int.natCast_nonneg _;have hwk : IntKind.i64.wrap ((k : Int) + 1) = (k : Int) + 1 := IntWalk.i64_in _ (by omega);have HMS := Hd (allK_succ k K);have hml := allK_len k K;have hsz := hO2.out.size
   cases hin : decide ((k : Int) ∈ K) with
   | false =>
    rw [hin] at k0;have HE : Hid (allK (k + 1) K = allK k K) := Hd (by rw [HMS.out, if_neg (by simpa using hin)]; simp);clear hin;have HVR := Hd hV2.out;rw [← HE.out] at HVR;go_wp2
    go_roundw
    case rel => first | exact ⟨k + 1, by go_num, by omega, hB2, HVR, hO2⟩ | exact ⟨_, ⟨k + 1, by go_num, by omega, hB2, HVR, hO2⟩, rfl⟩
    case measure => simp [intOf]; omega
   | true =>
    rw [hin] at k0;have HE : Hid (allK (k + 1) K = allK k K ++ [(k : Int)]) := Hd (by rw [HMS.out, if_pos (by simpa using hin)]);clear hin;obtain ⟨M, hM⟩ : ∃ M, M = (allK k K).length := ⟨_, rfl⟩;rw [← hM] at hV2 hml;have HM := Hd hM;clear hM;go_wp2_with (
     at_builtin
     refine wpList_append_row _ rfl (.tmp 14) (.tmp 16) 22 rfl w.heap.size 3 i0 _ 1 8 Tryd.underlying22 hi hz0 hz1 hz2 rfl (by omega) _ M ((allK k K).map (Value.int .i64)) (by rfl) (own_only hV2.out ((Only.refl [] wr).alloc (.cells #[.int .i64 (k : Int)] 3)) (fun _ _ => by simp)) _ _ 1 1 [.int .i64 (k : Int)] (by rfl) (by rfl) (row_lit _ _ _) (by intro u hu; simp at hu; subst hu; rfl) (by unfold maxLen; omega) (by omega) (by simp; omega) ?_;intro v' w3 hown hgrow hat;have OA := (Only.refl [] wr).alloc (.cells #[.int .i64 (k : Int)] 3);have OV := only_grown hgrow;have HOWN := Hd hown;have HB3 := Hd (OV.blk (OA.blk hB2.out (by simp)) (own_apart (own_only hV2.out OA (by simp)) (OA.blk hB2.out (by simp)) (by decide)));have HO3 := Hd ((hO2.out.trans OA).step OV (fun i hi hl => by have := ((own_only hV2.out OA (by simp)).lt i (by simpa using hi)).1; omega));clear hown)
    go_roundw
    case rel =>
     have HVR : Hid (w3.ownsRow w.heap.size 3 1 v' (allK (k + 1) K).length ((allK (k + 1) K).map (Value.int .i64))) := Hd (by
      rw [HE.out, List.length_append, List.map_append, ← HM.out];exact HOWN.out)
     first | exact ⟨k + 1, by go_num, by omega, HB3, HVR, HO3⟩ | exact ⟨_, ⟨k + 1, by go_num, by omega, HB3, HVR, HO3⟩, rfl⟩
    case measure => simp [intOf]; omega
  ·have hkn : k = 500 := by omega
   subst hkn;obtain ⟨A', c', hV, -, -, -, -⟩ := own_row hV2.out;subst hV;go_wp2
   go_ret
   exact ⟨A', c', ⟨rfl, hV2.out⟩, hO2.out⟩
end Go.Proofs.YtgimobilcdkmpaaDoor
