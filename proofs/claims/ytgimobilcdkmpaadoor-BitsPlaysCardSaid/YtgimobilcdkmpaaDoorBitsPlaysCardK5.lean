/- Parts. -/
import Derived.Test.YtgimobilcdkmpaaDoorBitsPlaysCardK2
import Derived.Test.YtgimobilcdkmpaaDoorBitsPlaysCardK4
import Derived.Lib.TrailingZeros
import Derived.Laws.BitsAllLaws
import Derived.RegionTactic
set_option maxRecDepth 10000
set_option maxHeartbeats 16000000
set_option linter.unusedVariables false
set_option linter.unusedSimpArgs false
namespace Go.Proofs.YtgimobilcdkmpaaDoor
open Go.RowKit
theorem wrap_pow (r : Nat) (hr : r < 64) : IntKind.u64.wrap ((2 : Int) ^ r) = ((2 ^ r : Nat) : Int) := by
 have h : (2 : Nat) ^ r < 2 ^ 64 := Nat.pow_lt_pow_right (by decide) hr;rw [show ((2 : Int) ^ r) = ((2 ^ r : Nat) : Int) by simp];generalize (2 : Nat) ^ r = q at h ⊢;exact IntWalk.u64_in _ (by omega)
theorem test_val (x r : Nat) (hx : x < 18446744073709551616) : (bits .and .u64 ((x : Int) / 2 ^ r) 1 == 1) = x.testBit r := by
 have e : ((x : Int) / 2 ^ r) = ((x / 2 ^ r : Nat) : Int) := by simp
 have hlt : x / 2 ^ r < 18446744073709551616 := Nat.lt_of_le_of_lt (Nat.div_le_self _ _) hx;rw [e, show (1 : Int) = ((1 : Nat) : Int) from rfl, u64_and_nat _ 1 hlt (by decide), Nat.and_one_is_mod, Nat.testBit_eq_decide_div_mod_eq];rw [Bool.eq_iff_iff];simp;omega
theorem pow_lt64 (r : Nat) (hr : r < 64) : (2 : Nat) ^ r < 18446744073709551616 := by
 have h : (2 : Nat) ^ r < 2 ^ 64 := Nat.pow_lt_pow_right (by decide) hr;exact h
theorem or_val (x r : Nat) (hx : x < 18446744073709551616) (hr : r < 64) : bits .or .u64 (x : Int) (IntKind.u64.wrap ((2 : Int) ^ r)) = ((x ||| 2 ^ r : Nat) : Int) := by
 rw [wrap_pow r hr];exact u64_or_nat x (2 ^ r) hx (pow_lt64 r hr)
theorem andNot_val (x r : Nat) (hx : x < 18446744073709551616) (hr : r < 64) : bits .andNot .u64 (x : Int) (IntKind.u64.wrap ((2 : Int) ^ r)) = ((x &&& (18446744073709551615 - 2 ^ r) : Nat) : Int) := by
 rw [wrap_pow r hr];exact u64_andNot_nat x (2 ^ r) hx (pow_lt64 r hr)
theorem or_lt {x r : Nat} (hx : x < 18446744073709551616) (hr : r < 64) : x ||| 2 ^ r < 18446744073709551616 := by
 have : x ||| 2 ^ r < 2 ^ 64 := Nat.or_lt_two_pow hx (pow_lt64 r hr);exact this
theorem and_lt {x y : Nat} (hx : x < 18446744073709551616) : x &&& y < 18446744073709551616 := Nat.lt_of_le_of_lt Nat.and_le_left hx
theorem word_and (x : Nat) (h0 : 0 < x) (hx : x < 18446744073709551616) : bits .and .u64 (x : Int) ((x : Int) - 1) = ((x &&& (x - 1) : Nat) : Int) := by
 rw [show ((x : Int) - 1) = ((x - 1 : Nat) : Int) by omega];exact u64_and_nat x (x - 1) hx (by omega)
end Go.Proofs.YtgimobilcdkmpaaDoor
