/- Parts. -/
import Derived.Test.YtlemjgjpglmphaaDoorPartOfCardK19
set_option maxRecDepth 10000
set_option maxHeartbeats 16000000
set_option linter.unusedVariables false
set_option linter.unusedSimpArgs false
namespace Go.Proofs.YtlemjgjpglmphaaDoor
def bitW (ws : List Nat) (m : Nat) : Bool := (ws.getD (m / 64) 0).testBit (m % 64)
def Fits (ws : List Nat) : Prop := ws.length = 8 ∧ ∀ k, ws.getD k 0 < 18446744073709551616
theorem hasW_bit (ws : List Nat) (n : Nat) (h : n < 500) : hasW ws (n : Int) = bitW ws n := by
 unfold hasW bitW;rw [mayN_iff.2 (by omega), Int.toNat_natCast]
 rfl
theorem bit_put (ws : List Nat) (n m : Nat) (hl : ws.length = 8) (hn : n < 500) : bitW (putW ws (n : Int)) m = (decide (m = n) || bitW ws m) := by
 unfold bitW putW;rw [if_pos (mayN_iff.2 (by omega)), Int.toNat_natCast, getD_set ws _ _ _ (by omega)]
 split
 ·rename_i hq
  rw [hq, Nat.testBit_or, Nat.testBit_two_pow, Bool.or_comm]
  congr 1
  rw [decide_eq_decide];omega
 ·have : ¬ m = n := fun e => by subst e; contradiction
  simp [this]
theorem put_fits (ws : List Nat) (n : Nat) (h : Fits ws) (hn : n < 500) : Fits (putW ws (n : Int)) := by
 refine ⟨(putW_len ws n).trans h.1, fun k => ?_⟩;unfold putW;rw [if_pos (mayN_iff.2 (by omega)), Int.toNat_natCast, getD_set ws _ _ _ (by rw [h.1]; omega)]
 split
 ·exact or_lt (h.2 _) (by omega)
 ·exact h.2 k
def FitsO (n : Nat) (O : List (List Nat)) : Prop := O.length = n ∧ ∀ a, a < n → Fits (O.getD a [])
def New (n : Nat) (O : List (List Nat)) (l : List (Int × Int)) : Prop := ∀ e ∈ l, ∃ a b : Nat, e = ((a : Int), (b : Int)) ∧ a < n ∧ b < n ∧ bitW (O.getD a []) b = false
end Go.Proofs.YtlemjgjpglmphaaDoor
