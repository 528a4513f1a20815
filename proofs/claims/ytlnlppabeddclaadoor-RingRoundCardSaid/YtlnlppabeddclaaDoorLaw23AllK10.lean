/- Parts. -/
import Derived.Test.YtlnlppabeddclaaDoorLaw23AllK8
set_option maxRecDepth 10000
set_option maxHeartbeats 16000000
set_option linter.unusedVariables false
set_option linter.unusedSimpArgs false
namespace Go.Proofs.YtlnlppabeddclaaDoor
open Go.RowKit
def Tab (w : World) : Prop := ∀ k, k < 64 → w.cell? ⟨0, k, none⟩ = some (.int .u8 ((Lib.deBruijn64tab.getD k 0 : Nat) : Int))
theorem wrap_negn (x : Nat) (h0 : 0 < x) (hx : x < 18446744073709551616) : IntKind.u64.wrap (-(x : Int)) = ((18446744073709551616 - x : Nat) : Int) := by
 simp only [IntKind.wrap, IntKind.bits, IntKind.signed];simp;omega
theorem wrap_nat (x : Nat) : IntKind.u64.wrap (x : Int) = ((x % 18446744073709551616 : Nat) : Int) := by
 simp only [IntKind.wrap, IntKind.bits, IntKind.signed];simp
theorem tz_idx (x : Nat) (h0 : 0 < x) (hx : x < 18446744073709551616) :
  ∃ k : Nat, k < 64 ∧ (IntKind.u64.wrap (bits .and .u64 (x : Int) (IntKind.u64.wrap (-(x : Int))) * 285870213051353865) / 288230376151711744) = (k : Int) ∧ Lib.deBruijn64tab.getD k 0 = Lib.ctz 64 x ∧ Lib.ctz 64 x < 64 := by
 obtain ⟨e1, e2⟩ := Lib.lowest_bit 64 x (by omega) hx;obtain ⟨d1, d2⟩ := Lib.deBruijn64_at (Lib.ctz 64 x) e2;refine ⟨_, d1, ?_, d2, e2⟩;rw [wrap_negn x h0 hx, u64_and_nat x _ hx (by omega), show (18446744073709551616 : Nat) - x = 2 ^ 64 - x from rfl, e1];rw [show (((2 ^ Lib.ctz 64 x : Nat) : Int) * 285870213051353865) = ((2 ^ Lib.ctz 64 x * 285870213051353865 : Nat) : Int) by simp, wrap_nat];generalize 2 ^ Lib.ctz 64 x * 285870213051353865 % 18446744073709551616 = q;omega
theorem tz_pos (x : Nat) (w : World) (h0 : 0 < x) (hx : x < 18446744073709551616) (hT : Tab w) :
  Calls Tryd.prog 41 #[.int .u64 x] w fun e w' => e = .returned (.int .i64 (Lib.ctz 64 x : Nat)) ∧ w = w' := by
 have hz : ((x : Int) == 0) = false := by simp; omega
 obtain ⟨k, hk, he, ht, hlt⟩ := tz_idx x h0 hx;have hcell : w.cell? ⟨0, (IntKind.u64.wrap (bits .and .u64 (x : Int) (IntKind.u64.wrap (-(x : Int))) * 285870213051353865) / 288230376151711744).toNat, none⟩ = some (.int .u8 ((Lib.ctz 64 x : Nat) : Int)) := by
  rw [he, Int.toNat_natCast, hT k hk, ht]
 have hb0 : 0 ≤ (IntKind.u64.wrap (bits .and .u64 (x : Int) (IntKind.u64.wrap (-(x : Int))) * 285870213051353865) / 288230376151711744) := by rw [he]; omega
 have hb1 : (IntKind.u64.wrap (bits .and .u64 (x : Int) (IntKind.u64.wrap (-(x : Int))) * 285870213051353865) / 288230376151711744) < 64 := by rw [he]; omega
 have hl : ((Lib.ctz 64 x : Nat) : Int) < 64 := by omega
 clear he ht hT hk;generalize Lib.ctz 64 x = c at *;go_enter Tryd.func41, Tryd.ntmps41;go_wp2
 go_ret
 exact ⟨rfl, rfl⟩
theorem Tab.only {w w' : World} (h : Tab w) (h0 : 0 < w.heap.size) {S : List Nat} (ho : Only S w w') (hS : 0 ∉ S) : Tab w' := fun k hk => by
 rw [ho.cell (p := ⟨0, k, none⟩) h0 hS];exact h k hk
end Go.Proofs.YtlnlppabeddclaaDoor
namespace Go.Proofs.YtlnlppabeddclaaDoor
def bitsOf (x : Nat) : List Nat := (List.range' 0 64).filter fun i => x.testBit i
theorem filter_first {p q : Nat → Bool} {k : Nat} (h1 : ∀ j, j < k → p j = false) (h2 : p k = true) (h3 : ∀ j, q j = (decide (k < j) && p j)) : ∀ (n s : Nat), s ≤ k → k < s + n →
  (List.range' s n).filter p = k :: (List.range' s n).filter q := by
 intro n
 induction n with
 | zero => intro s a b; omega
 | succ n ih =>
  intro s a b;rw [List.range'_succ]
  by_cases hs : s = k
  ·subst hs;rw [List.filter_cons_of_pos h2, List.filter_cons_of_neg (by rw [h3]; simp)]
   congr 1
   apply List.filter_congr
   intro j hj;rw [h3];have : s < j := by have := (List.mem_range'_1.1 hj).1; omega
   simp [this]
  ·rw [List.filter_cons_of_neg (by rw [h1 s (by omega)]; simp), List.filter_cons_of_neg (by rw [h3, h1 s (by omega)]; simp)];exact ih (s + 1) (by omega) (by omega)
theorem bits_low {k m j : Nat} : (2 ^ k * (2 * m + 1)).testBit j = if j < k + 1 then decide (j = k) else m.testBit (j - (k + 1)) := by
 have e : 2 ^ k * (2 * m + 1) = 2 ^ (k + 1) * m + 2 ^ k := by rw [Nat.mul_add, Nat.pow_succ, Nat.mul_one, Nat.mul_assoc]
 rw [e, Nat.testBit_two_pow_mul_add m (Nat.pow_lt_pow_right (by decide) (by omega)) j]
 split
 ·rw [Nat.testBit_two_pow];rw [Bool.eq_iff_iff]; simp; exact eq_comm
 ·rfl
theorem bits_pred {k m j : Nat} : (2 ^ k * (2 * m + 1) - 1).testBit j = if j < k + 1 then decide (j < k) else m.testBit (j - (k + 1)) := by
 have hp : 0 < 2 ^ k := Nat.pow_pos (by decide);have e : 2 ^ k * (2 * m + 1) - 1 = 2 ^ (k + 1) * m + (2 ^ k - 1) := by
  rw [Nat.mul_add, Nat.pow_succ, Nat.mul_one, Nat.mul_assoc]; omega
 have hlt : 2 ^ k - 1 < 2 ^ (k + 1) := by rw [Nat.pow_succ]; omega
 rw [e, Nat.testBit_two_pow_mul_add m hlt j]
 split
 ·rw [Nat.testBit_two_pow_sub_one]
 ·rfl
theorem bitsOf_step {x : Nat} (h0 : 0 < x) (hx : x < 18446744073709551616) : bitsOf x = Lib.ctz 64 x :: bitsOf (x &&& (x - 1)) := by
 obtain ⟨m, hm, hk⟩ := Lib.ctzFrom_spec 64 x h0 hx;have e : Lib.ctz 64 x = Lib.ctzFrom 64 x := by unfold Lib.ctz; rw [if_neg (by omega)]
 rw [e];generalize Lib.ctzFrom 64 x = k at *;subst hm;refine filter_first (fun j hj => ?_) ?_ (fun j => ?_) 64 0 (by omega) (by omega)
 ·rw [bits_low, if_pos (by omega)]; simp; omega
 ·rw [bits_low, if_pos (by omega)]; simp
 ·rw [Nat.testBit_and, bits_low, bits_pred]
  by_cases hj : j < k + 1
  ·rw [if_pos hj, if_pos hj];have : ¬ k < j := by omega
   simp [this];omega
  ·rw [if_neg hj, if_neg hj];have : k < j := by omega
   simp [this]
theorem bitsOf_zero : bitsOf 0 = [] := by
 unfold bitsOf;rw [List.filter_eq_nil_iff];intro j _;simp
theorem bitsOf_len (x : Nat) : (bitsOf x).length ≤ 64 := by
 have := List.length_filter_le (fun i => x.testBit i) (List.range' 0 64)
 simpa [bitsOf] using this
def allTo (ws : List Nat) (k : Nat) : List Int := (List.range k).flatMap fun i => (bitsOf (ws.getD i 0)).map fun b => ((i * 64 + b : Nat) : Int)
def allW (ws : List Nat) : List Int := allTo ws 8
theorem allTo_succ (ws : List Nat) (k : Nat) : allTo ws (k + 1) = allTo ws k ++ (bitsOf (ws.getD k 0)).map fun b => ((k * 64 + b : Nat) : Int) := by
 unfold allTo;rw [List.range_succ, List.flatMap_append];simp
theorem allTo_len (ws : List Nat) (k : Nat) : (allTo ws k).length ≤ 64 * k := by
 induction k with
 | zero => simp [allTo]
 | succ k ih =>
  rw [allTo_succ, List.length_append, List.length_map];have := bitsOf_len (ws.getD k 0);omega
theorem and_pred_le (x : Nat) : x &&& (x - 1) ≤ x - 1 := Nat.and_le_right
end Go.Proofs.YtlnlppabeddclaaDoor
