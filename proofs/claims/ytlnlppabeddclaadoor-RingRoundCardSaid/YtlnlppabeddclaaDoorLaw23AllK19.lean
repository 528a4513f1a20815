/- Parts. -/
import Derived.Test.YtlnlppabeddclaaDoorLaw23AllK18
set_option maxRecDepth 10000
set_option maxHeartbeats 16000000
set_option linter.unusedVariables false
set_option linter.unusedSimpArgs false
namespace Go.Proofs.YtlnlppabeddclaaDoor
def bitW (ws : List Nat) (m : Nat) : Bool := (ws.getD (m / 64) 0).testBit (m % 64)
def Fits (ws : List Nat) : Prop := ws.length = 8 ∧ ∀ k, ws.getD k 0 < 18446744073709551616
theorem hasW_bit (ws : List Nat) (n : Nat) (h : n < 500) : hasW ws (n : Int) = bitW ws n := by
 unfold hasW bitW;rw [mayN_iff.2 (by omega), Int.toNat_natCast]
 rfl
theorem bit_put (ws : List Nat) (n m : Nat) (hl : ws.length = 8) (hn : n < 500) : bitW (putW ws (n : Int)) m = (decide (m = n) || bitW ws m) := by
 unfold bitW putW;rw [if_pos (mayN_iff.2 (by omega)), Int.toNat_natCast, getD_set ws _ _ _ (by omega)]
 split
 ·rename_i hq
  rw [hq, Nat.testBit_or, Nat.testBit_two_pow, Bool.or_comm]
  congr 1
  rw [decide_eq_decide];omega
 ·have : ¬ m = n := fun e => by subst e; contradiction
  simp [this]
theorem put_fits (ws : List Nat) (n : Nat) (h : Fits ws) (hn : n < 500) : Fits (putW ws (n : Int)) := by
 refine ⟨(putW_len ws n).trans h.1, fun k => ?_⟩;unfold putW;rw [if_pos (mayN_iff.2 (by omega)), Int.toNat_natCast, getD_set ws _ _ _ (by rw [h.1]; omega)]
 split
 ·exact or_lt (h.2 _) (by omega)
 ·exact h.2 k
def FitsO (n : Nat) (O : List (List Nat)) : Prop := O.length = n ∧ ∀ a, a < n → Fits (O.getD a [])
def New (n : Nat) (O : List (List Nat)) (l : List (Int × Int)) : Prop := ∀ e ∈ l, ∃ a b : Nat, e = ((a : Int), (b : Int)) ∧ a < n ∧ b < n ∧ bitW (O.getD a []) b = false
open Go.RowKit
attribute [local go_sem ↓] Go.wp_at_zero Go.wp_at_succ
attribute [-go_sem] Go.run_slice_l Go.run_slice_h Go.run_slice_any Go.run_slice_lh in
theorem few19_any (A : Option Addr) (n c : Nat) (l : List (Int × Int)) (w : World) (hr : Row w w.heap.size A (edgeC l)) (hl : l.length = n) (hnc : n ≤ c) (hc : c ≤ maxLen) :
  Calls Tryd.prog 8 #[.slice A n c] w fun e w' => ∃ v, e = .returned v ∧ w'.ownsRow w.heap.size 47 2 v (min n 60) (edgeC (l.take (min n 60))) ∧ Only [] w w' := by
 obtain ⟨i0, hi, hz0, hz1, hz2⟩ := info_parts info_edge;unfold maxLen at hc;have AP : ∀ j, j = min n 60 → Row (w.alloc (.cells #[] 47)) w.heap.size A (edgeC (l.take (min n 60))) ∧ (edgeC (l.take (min n 60))).length = j * 2 := by
  rintro j rfl;refine ⟨?_, by rw [edgeC_len, List.length_take, hl, Nat.min_eq_left (Nat.min_le_left n 60)]⟩;rw [edgeC_take];exact (hr.take (min n 60 * 2)).only ((Only.refl [] w).alloc _) (by simp)
 have HAP := Hd AP;clear hr AP
 by_cases hn : n ≤ 60
 ·have hsl := fun W => slice_to A n c n (by omega) W;have hmin : min n 60 = n := by omega
  rw [hmin] at HAP ⊢;go_enter Tryd.func8, Tryd.ntmps8;go_wp2_with (
   at_builtin
   refine wpList_append_row _ rfl (.tmp 3) (.tmp 8) 22 rfl w.heap.size 47 i0 _ 2 16 Tryd.underlying22 hi hz0 hz1 hz2 rfl (by omega) (.slice (some ⟨w.heap.size, 0, none⟩) 0 0) 0 [] (by rfl) (World.ownsRow_lit w #[] 0 (Nat.le_refl _) (by unfold maxLen; omega) rfl) w.heap.size A n c (edgeC (l.take n)) (by rfl) (HAP.out n rfl).2 (HAP.out n rfl).1 (one_edgeC _) (by unfold maxLen; omega) (by omega) (by rw [World.size_alloc]; omega) ?_;intro v w1 hown hgrow hat)
  exact bodyPost_ret (v := v) (by simp [results, Tryd.results8, go_sem]) rfl ⟨v, rfl, by simpa using hown, ((Only.refl [] w).alloc _).step (Only.of_grown (S := [w.heap.size]) hgrow (fun g hg _ => by simp [Value.ownBlock] at hg; simp [hg])) (fun i hi hlt => by simp at hi; omega)⟩
 ·have hsl : ∀ W, (Instr.slice 22 (.slice A n c) none (some (.int .i64 60)) none).run Tryd.prog W = .ok (.slice A 60 c) W := fun W => slice_to A n c 60 (by omega) W;have hmin : min n 60 = 60 := by omega
  have hn' : (60 : Int) < n := by omega
  rw [hmin] at HAP ⊢;go_enter Tryd.func8, Tryd.ntmps8;go_wp2_with (
   at_builtin
   refine wpList_append_row _ rfl (.tmp 3) (.tmp 8) 22 rfl w.heap.size 47 i0 _ 2 16 Tryd.underlying22 hi hz0 hz1 hz2 rfl (by omega) (.slice (some ⟨w.heap.size, 0, none⟩) 0 0) 0 [] (by rfl) (World.ownsRow_lit w #[] 0 (Nat.le_refl _) (by unfold maxLen; omega) rfl) w.heap.size A 60 c (edgeC (l.take 60)) (by rfl) (HAP.out 60 rfl).2 (HAP.out 60 rfl).1 (one_edgeC _) (by unfold maxLen; omega) (by omega) (by rw [World.size_alloc]; omega) ?_;intro v w1 hown hgrow hat)
  exact bodyPost_ret (v := v) (by simp [results, Tryd.results8, go_sem]) rfl ⟨v, rfl, by simpa using hown, ((Only.refl [] w).alloc _).step (Only.of_grown (S := [w.heap.size]) hgrow (fun g hg _ => by simp [Value.ownBlock] at hg; simp [hg])) (fun i hi hlt => by simp at hi; omega)⟩
def smallN (n : Int) : Int := if 30 < n ∧ n ≤ 500 then n % 31 else n
theorem small19_any (n : Int) (w : World) : Calls Tryd.prog 16 #[.int .i64 n] w fun e w' => e = .returned (.int .i64 (smallN n)) ∧ w = w' := by
 by_cases h1 : 30 < n
 ·by_cases h2 : n ≤ 500
  ·have hs : smallN n = n % 31 := if_pos ⟨h1, h2⟩;have hrem : n.tmod 31 = n % 31 := Int.tmod_eq_emod_of_nonneg (by omega);rw [hs];go_enter Tryd.func16, Tryd.ntmps16;go_wp2
   go_ret
   exact ⟨rfl, rfl⟩
  ·have hs : smallN n = n := if_neg (fun h => h2 h.2);rw [hs];go_enter Tryd.func16, Tryd.ntmps16;go_wp2
   go_ret
   exact ⟨rfl, rfl⟩
 ·have hs : smallN n = n := if_neg (fun h => h1 h.1);rw [hs];go_enter Tryd.func16, Tryd.ntmps16;go_wp2
  go_ret
  exact ⟨rfl, rfl⟩
def nextL (N : Nat) (h : List (Int × Int)) (a : Int) : List Int := ((List.range N).filter fun b : Nat => decide ((a, (b : Int)) ∈ h)).map fun b : Nat => (b : Int)
def backL (N : Nat) (h : List (Int × Int)) (b : Int) : List Int := ((List.range N).filter fun a : Nat => decide (((a : Int), b) ∈ h)).map fun a : Nat => (a : Int)
theorem nextL_len (N : Nat) (h : List (Int × Int)) (a : Int) : (nextL N h a).length ≤ N := by
 unfold nextL;rw [List.length_map];exact Nat.le_trans (List.length_filter_le _ _) (by simp)
end Go.Proofs.YtlnlppabeddclaaDoor
