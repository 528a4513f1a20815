/- Parts. -/
import Derived.Test.YtgimobilcdkmpaaDoorBitsPlaysCardK12
set_option maxRecDepth 10000
set_option maxHeartbeats 16000000
set_option linter.unusedVariables false
set_option linter.unusedSimpArgs false
namespace Go.Proofs.YtgimobilcdkmpaaDoor
def bitW (ws : List Nat) (m : Nat) : Bool := (ws.getD (m / 64) 0).testBit (m % 64)
def Fits (ws : List Nat) : Prop := ws.length = 8 ∧ ∀ k, ws.getD k 0 < 18446744073709551616
theorem hasW_bit (ws : List Nat) (n : Nat) (h : n < 500) : hasW ws (n : Int) = bitW ws n := by
 unfold hasW bitW;rw [mayN_iff.2 (by omega), Int.toNat_natCast]
 rfl
theorem bit_put (ws : List Nat) (n m : Nat) (hl : ws.length = 8) (hn : n < 500) : bitW (putW ws (n : Int)) m = (decide (m = n) || bitW ws m) := by
 unfold bitW putW;rw [if_pos (mayN_iff.2 (by omega)), Int.toNat_natCast, getD_set ws _ _ _ (by omega)]
 split
 ·rename_i hq
  rw [hq, Nat.testBit_or, Nat.testBit_two_pow, Bool.or_comm]
  congr 1
  rw [decide_eq_decide];omega
 ·have : ¬ m = n := fun e => by subst e; contradiction
  simp [this]
theorem bit_drop (ws : List Nat) (n m : Nat) (hl : ws.length = 8) (hn : n < 500) : bitW (dropW ws (n : Int)) m = (!decide (m = n) && bitW ws m) := by
 unfold bitW dropW;rw [if_pos (mayN_iff.2 (by omega)), Int.toNat_natCast, getD_set ws _ _ _ (by omega)];have hs : ∀ i, i < 64 → (18446744073709551615 - 2 ^ (n % 64)).testBit i = !decide (n % 64 = i) := fun i hi => by
  have := Nat.testBit_two_pow_sub_succ (n := 64) (x := 2 ^ (n % 64)) (pow_lt64 _ (by omega)) i;rw [show (2 : Nat) ^ 64 - (2 ^ (n % 64) + 1) = 18446744073709551615 - 2 ^ (n % 64) by omega] at this;rw [this, Nat.testBit_two_pow];simp [hi]
 split
 ·rename_i hq
  rw [hq, Nat.testBit_and, hs _ (Nat.mod_lt m (by decide : 64 > 0)), Bool.and_comm]
  congr 2
  rw [decide_eq_decide];omega
 ·have : ¬ m = n := fun e => by subst e; contradiction
  simp [this]
theorem put_fits (ws : List Nat) (n : Nat) (h : Fits ws) (hn : n < 500) : Fits (putW ws (n : Int)) := by
 refine ⟨(putW_len ws n).trans h.1, fun k => ?_⟩;unfold putW;rw [if_pos (mayN_iff.2 (by omega)), Int.toNat_natCast, getD_set ws _ _ _ (by rw [h.1]; omega)]
 split
 ·exact or_lt (h.2 _) (by omega)
 ·exact h.2 k
theorem drop_fits (ws : List Nat) (n : Nat) (h : Fits ws) (hn : n < 500) : Fits (dropW ws (n : Int)) := by
 refine ⟨by unfold dropW; split <;> simp [h.1], fun k => ?_⟩;unfold dropW;rw [if_pos (mayN_iff.2 (by omega)), Int.toNat_natCast, getD_set ws _ _ _ (by rw [h.1]; omega)]
 split
 ·exact and_lt (h.2 _)
 ·exact h.2 k
theorem fits_ext (ws vs : List Nat) (h1 : Fits ws) (h2 : Fits vs) (h : ∀ m, m < 512 → bitW ws m = bitW vs m) : ws = vs := by
 apply List.ext_getElem (by rw [h1.1, h2.1])
 intro i hi hi';rw [h1.1] at hi;have e1 : ws[i] = ws.getD i 0 := by simp [List.getD_eq_getElem?_getD, List.getElem?_eq_getElem (show i < ws.length by rw [h1.1]; exact hi)]
 have e2 : vs[i] = vs.getD i 0 := by simp [List.getD_eq_getElem?_getD, List.getElem?_eq_getElem (show i < vs.length by rw [h2.1]; exact hi)]
 rw [e1, e2]
 apply Nat.eq_of_testBit_eq
 intro j
 by_cases hj : j < 64
 ·have := h (i * 64 + j) (by omega);unfold bitW at this;rw [show (i * 64 + j) / 64 = i by omega, show (i * 64 + j) % 64 = j by omega] at this;exact this
 ·rw [Nat.testBit_lt_two_pow (Nat.lt_of_lt_of_le (h1.2 i) (show 18446744073709551616 ≤ 2 ^ j from Nat.le_trans (by decide : 18446744073709551616 ≤ 2 ^ 64) (Nat.pow_le_pow_right (by omega) (by omega)))),
   Nat.testBit_lt_two_pow (Nat.lt_of_lt_of_le (h2.2 i) (show 18446744073709551616 ≤ 2 ^ j from Nat.le_trans (by decide : 18446744073709551616 ≤ 2 ^ 64) (Nat.pow_le_pow_right (by omega) (by omega))))]
end Go.Proofs.YtgimobilcdkmpaaDoor
