/- Parts. -/
import Derived.Lib.TrailingZeros
set_option maxRecDepth 10000
set_option maxHeartbeats 16000000
set_option linter.unusedVariables false
set_option linter.unusedSimpArgs false
namespace Go.Proofs.YtgimobilcdkmpaaDoor
def bitsOf (x : Nat) : List Nat := (List.range' 0 64).filter fun i => x.testBit i
theorem filter_first {p q : Nat → Bool} {k : Nat} (h1 : ∀ j, j < k → p j = false) (h2 : p k = true) (h3 : ∀ j, q j = (decide (k < j) && p j)) : ∀ (n s : Nat), s ≤ k → k < s + n →
  (List.range' s n).filter p = k :: (List.range' s n).filter q := by
 intro n
 induction n with
 | zero => intro s a b; omega
 | succ n ih =>
  intro s a b;rw [List.range'_succ]
  by_cases hs : s = k
  ·subst hs;rw [List.filter_cons_of_pos h2, List.filter_cons_of_neg (by rw [h3]; simp)]
   congr 1
   apply List.filter_congr
   intro j hj;rw [h3];have : s < j := by have := (List.mem_range'_1.1 hj).1; omega
   simp [this]
  ·rw [List.filter_cons_of_neg (by rw [h1 s (by omega)]; simp), List.filter_cons_of_neg (by rw [h3, h1 s (by omega)]; simp)];exact ih (s + 1) (by omega) (by omega)
theorem bits_low {k m j : Nat} : (2 ^ k * (2 * m + 1)).testBit j = if j < k + 1 then decide (j = k) else m.testBit (j - (k + 1)) := by
 have e : 2 ^ k * (2 * m + 1) = 2 ^ (k + 1) * m + 2 ^ k := by rw [Nat.mul_add, Nat.pow_succ, Nat.mul_one, Nat.mul_assoc]
 rw [e, Nat.testBit_two_pow_mul_add m (Nat.pow_lt_pow_right (by decide) (by omega)) j]
 split
 ·rw [Nat.testBit_two_pow];rw [Bool.eq_iff_iff]; simp; exact eq_comm
 ·rfl
theorem bits_pred {k m j : Nat} : (2 ^ k * (2 * m + 1) - 1).testBit j = if j < k + 1 then decide (j < k) else m.testBit (j - (k + 1)) := by
 have hp : 0 < 2 ^ k := Nat.pow_pos (by decide);have e : 2 ^ k * (2 * m + 1) - 1 = 2 ^ (k + 1) * m + (2 ^ k - 1) := by
  rw [Nat.mul_add, Nat.pow_succ, Nat.mul_one, Nat.mul_assoc]; omega
 have hlt : 2 ^ k - 1 < 2 ^ (k + 1) := by rw [Nat.pow_succ]; omega
 rw [e, Nat.testBit_two_pow_mul_add m hlt j]
 split
 ·rw [Nat.testBit_two_pow_sub_one]
 ·rfl
theorem bitsOf_step {x : Nat} (h0 : 0 < x) (hx : x < 18446744073709551616) : bitsOf x = Lib.ctz 64 x :: bitsOf (x &&& (x - 1)) := by
 obtain ⟨m, hm, hk⟩ := Lib.ctzFrom_spec 64 x h0 hx;have e : Lib.ctz 64 x = Lib.ctzFrom 64 x := by unfold Lib.ctz; rw [if_neg (by omega)]
 rw [e];generalize Lib.ctzFrom 64 x = k at *;subst hm;refine filter_first (fun j hj => ?_) ?_ (fun j => ?_) 64 0 (by omega) (by omega)
 ·rw [bits_low, if_pos (by omega)]; simp; omega
 ·rw [bits_low, if_pos (by omega)]; simp
 ·rw [Nat.testBit_and, bits_low, bits_pred]
  by_cases hj : j < k + 1
  ·rw [if_pos hj, if_pos hj];have : ¬ k < j := by omega
   simp [this];omega
  ·rw [if_neg hj, if_neg hj];have : k < j := by omega
   simp [this]
theorem bitsOf_zero : bitsOf 0 = [] := by
 unfold bitsOf;rw [List.filter_eq_nil_iff];intro j _;simp
theorem bitsOf_len (x : Nat) : (bitsOf x).length ≤ 64 := by
 have := List.length_filter_le (fun i => x.testBit i) (List.range' 0 64)
 simpa [bitsOf] using this
def allTo (ws : List Nat) (k : Nat) : List Int := (List.range k).flatMap fun i => (bitsOf (ws.getD i 0)).map fun b => ((i * 64 + b : Nat) : Int)
def allW (ws : List Nat) : List Int := allTo ws 8
theorem allTo_succ (ws : List Nat) (k : Nat) : allTo ws (k + 1) = allTo ws k ++ (bitsOf (ws.getD k 0)).map fun b => ((k * 64 + b : Nat) : Int) := by
 unfold allTo;rw [List.range_succ, List.flatMap_append];simp
theorem allTo_len (ws : List Nat) (k : Nat) : (allTo ws k).length ≤ 64 * k := by
 induction k with
 | zero => simp [allTo]
 | succ k ih =>
  rw [allTo_succ, List.length_append, List.length_map];have := bitsOf_len (ws.getD k 0);omega
theorem and_pred_le (x : Nat) : x &&& (x - 1) ≤ x - 1 := Nat.and_le_right
end Go.Proofs.YtgimobilcdkmpaaDoor
