/- Parts. -/
import Derived.Test.YtgimobilcdkmpaaDoorBitsPlaysCardK27
import Derived.Test.YtgimobilcdkmpaaDoorBitsPlaysCardK28
import Derived.Test.YtgimobilcdkmpaaDoorBitsPlaysCardK13
set_option maxRecDepth 10000
set_option maxHeartbeats 16000000
set_option linter.unusedVariables false
set_option linter.unusedSimpArgs false
namespace Go.Proofs.YtgimobilcdkmpaaDoor
open Go.RowKit
open Go.Lib
attribute [local go_sem ↓] Go.wp_at_zero Go.wp_at_succ
def sh8 (x k : Nat) : Nat := x / 2 ^ k
def an8 (x m : Nat) : Nat := x &&& m
theorem w64_nat (y : Nat) (h : y < 9223372036854775808) : wrap64 (y : Int) = (y : Int) := by
 unfold wrap64;omega
theorem i64_and_nat (a b : Nat) (ha : a < 9223372036854775808) (hb : b < 9223372036854775808) : bits .and .i64 (a : Int) (b : Int) = ((a &&& b : Nat) : Int) := by
 have hx : a &&& b ≤ a := Nat.and_le_left
 show IntKind.i64.wrap (((BitVec.ofInt 64 (a : Int) &&& BitVec.ofInt 64 (b : Int)).toNat : Nat) : Int) = _
 rw [BitVec.toNat_and, ofInt_u64 a (by omega), ofInt_u64 b (by omega)];exact IntWalk.i64_in _ (by omega)
theorem ones_pop (x : Nat) (hx : x < 18446744073709551616) (w : World) : Calls Tryd.prog 29 #[.int .u64 (x : Int)] w fun e w' => e = .returned (.int .i64 (((bitsOf x).length : Nat) : Int)) ∧ w = w' := by
 have HALL := ones_all x hx;have hb64 := bitsOf_len x;obtain ⟨a1, ha1⟩ : ∃ a1, a1 = sh8 x 1 := ⟨_, rfl⟩;have da1 : (x : Int) / 2 = (a1 : Int) := by rw [ha1]; unfold sh8; simp
 have la1 : a1 ≤ x := by rw [ha1]; exact Nat.div_le_self _ _
 obtain ⟨b1, hb1⟩ : ∃ b1, b1 = an8 a1 6148914691236517205 := ⟨_, rfl⟩;have qb1 : bits .and .u64 ((x : Int) / 2) 6148914691236517205 = (b1 : Int) := by rw [hb1, da1]; exact u64_and_nat a1 6148914691236517205 (by omega) (by omega)
 obtain ⟨c1, hc1⟩ : ∃ c1, c1 = an8 x 6148914691236517205 := ⟨_, rfl⟩;have qc1 : bits .and .u64 ((x : Int)) 6148914691236517205 = (c1 : Int) := by rw [hc1]; exact u64_and_nat x 6148914691236517205 (by omega) (by omega)
 obtain ⟨y1, hy1⟩ : ∃ y1, y1 = b1 + c1 := ⟨_, rfl⟩;have ey1 : y1 = oc1 x := by rw [hy1, hb1, hc1, ha1]; rfl
 have ly1 : y1 < 18446744073709551616 := by rw [ey1]; exact HALL.1
 have qy1 : IntKind.u64.wrap ((b1 : Int) + (c1 : Int)) = (y1 : Int) := by rw [hy1]; exact (IntWalk.u64_in _ (by omega)).trans (by omega)
 obtain ⟨a2, ha2⟩ : ∃ a2, a2 = sh8 y1 2 := ⟨_, rfl⟩;have da2 : (y1 : Int) / 4 = (a2 : Int) := by rw [ha2]; unfold sh8; simp
 have la2 : a2 ≤ y1 := by rw [ha2]; exact Nat.div_le_self _ _
 obtain ⟨b2, hb2⟩ : ∃ b2, b2 = an8 a2 3689348814741910323 := ⟨_, rfl⟩;have qb2 : bits .and .u64 ((y1 : Int) / 4) 3689348814741910323 = (b2 : Int) := by rw [hb2, da2]; exact u64_and_nat a2 3689348814741910323 (by omega) (by omega)
 obtain ⟨c2, hc2⟩ : ∃ c2, c2 = an8 y1 3689348814741910323 := ⟨_, rfl⟩;have qc2 : bits .and .u64 ((y1 : Int)) 3689348814741910323 = (c2 : Int) := by rw [hc2]; exact u64_and_nat y1 3689348814741910323 (by omega) (by omega)
 obtain ⟨y2, hy2⟩ : ∃ y2, y2 = b2 + c2 := ⟨_, rfl⟩;have ey2 : y2 = oc2 y1 := by rw [hy2, hb2, hc2, ha2]; rfl
 have ly2 : y2 < 18446744073709551616 := by rw [ey2, ey1]; exact HALL.2.1
 have qy2 : IntKind.u64.wrap ((b2 : Int) + (c2 : Int)) = (y2 : Int) := by rw [hy2]; exact (IntWalk.u64_in _ (by omega)).trans (by omega)
 obtain ⟨a3, ha3⟩ : ∃ a3, a3 = sh8 y2 4 := ⟨_, rfl⟩;have da3 : (y2 : Int) / 16 = (a3 : Int) := by rw [ha3]; unfold sh8; simp
 have la3 : a3 ≤ y2 := by rw [ha3]; exact Nat.div_le_self _ _
 obtain ⟨b3, hb3⟩ : ∃ b3, b3 = a3 + y2 := ⟨_, rfl⟩;have lb3 : b3 < 18446744073709551616 := by rw [hb3, ha3, ey2, ey1]; exact HALL.2.2.1
 have qb3 : IntKind.u64.wrap ((y2 : Int) / 16 + (y2 : Int)) = (b3 : Int) := by rw [da3]; rw [hb3]; exact (IntWalk.u64_in _ (by omega)).trans (by omega)
 obtain ⟨y3, hy3⟩ : ∃ y3, y3 = an8 b3 1085102592571150095 := ⟨_, rfl⟩;have qy3 : bits .and .u64 ((b3 : Int)) 1085102592571150095 = (y3 : Int) := by rw [hy3]; exact u64_and_nat b3 1085102592571150095 (by omega) (by omega)
 have ey3 : y3 = oc3 (oc2 (oc1 x)) := by rw [hy3, hb3, ha3, ey2, ey1]; rfl
 have H4 := HALL.2.2.2;rw [← ey3] at H4;dsimp only at H4;obtain ⟨k1, k2, k3, k4, k5⟩ := H4;obtain ⟨a4, ha4⟩ : ∃ a4, a4 = sh8 y3 8 := ⟨_, rfl⟩;have da4 : (y3 : Int) / 256 = (a4 : Int) := by rw [ha4]; unfold sh8; simp
 have la4 : a4 ≤ y3 := by rw [ha4]; exact Nat.div_le_self _ _
 obtain ⟨y4, hy4⟩ : ∃ y4, y4 = y3 + a4 := ⟨_, rfl⟩;have ey4 : y4 = y3 + y3 / 256 := by rw [hy4, ha4]; rfl
 have ly4 : y4 < 18446744073709551616 := by rw [ey4]; exact k2
 have qy4 : IntKind.u64.wrap ((y3 : Int) + (y3 : Int) / 256) = (y4 : Int) := by rw [da4]; rw [hy4]; exact (IntWalk.u64_in _ (by omega)).trans (by omega)
 obtain ⟨a5, ha5⟩ : ∃ a5, a5 = sh8 y4 16 := ⟨_, rfl⟩;have da5 : (y4 : Int) / 65536 = (a5 : Int) := by rw [ha5]; unfold sh8; simp
 have la5 : a5 ≤ y4 := by rw [ha5]; exact Nat.div_le_self _ _
 obtain ⟨y5, hy5⟩ : ∃ y5, y5 = y4 + a5 := ⟨_, rfl⟩;have ey5 : y5 = y4 + y4 / 65536 := by rw [hy5, ha5]; rfl
 have ly5 : y5 < 18446744073709551616 := by rw [ey5, ey4]; exact k3
 have qy5 : IntKind.u64.wrap ((y4 : Int) + (y4 : Int) / 65536) = (y5 : Int) := by rw [da5]; rw [hy5]; exact (IntWalk.u64_in _ (by omega)).trans (by omega)
 obtain ⟨a6, ha6⟩ : ∃ a6, a6 = sh8 y5 32 := ⟨_, rfl⟩;have da6 : (y5 : Int) / 4294967296 = (a6 : Int) := by rw [ha6]; unfold sh8; simp
 have la6 : a6 ≤ y5 := by rw [ha6]; exact Nat.div_le_self _ _
 obtain ⟨y6, hy6⟩ : ∃ y6, y6 = y5 + a6 := ⟨_, rfl⟩;have ey6 : y6 = y5 + y5 / 4294967296 := by rw [hy6, ha6]; rfl
 have ly6 : y6 < 9223372036854775808 := by rw [ey6, ey5, ey4]; exact k4
 have qy6 : IntKind.u64.wrap ((y5 : Int) + (y5 : Int) / 4294967296) = (y6 : Int) := by rw [da6]; rw [hy6]; exact (IntWalk.u64_in _ (by omega)).trans (by omega)
 have e6 : y6 % 128 = (bitsOf x).length := by rw [ey6, ey5, ey4]; exact k5
 obtain ⟨z, hz⟩ : ∃ z, z = (bitsOf x).length := ⟨_, rfl⟩;rw [← hz] at e6;rw [← hz];have qz : bits .and .i64 (wrap64 (y6 : Int)) 127 = (z : Int) := by
  have e1 : wrap64 (y6 : Int) = (y6 : Int) := w64_nat y6 ly6;have e2 : y6 &&& 127 = y6 % 128 := Nat.and_two_pow_sub_one_eq_mod y6 7;rw [e1, ← e6, ← e2];exact i64_and_nat y6 127 ly6 (by omega)
 clear HALL hb64 k1 k2 k3 k4 k5 ha1 hb1 hc1 hy1 ey1 ha2 hb2 hc2 hy2 ey2 ha3 hb3 hy3 ey3 ha4 hy4 ey4 ha5 hy5 ey5 ha6 hy6 ey6 hz la1 la2 la3 la4 la5 la6 da1 da2 da3 da4 da5 da6 lb3 ly1 ly2 ly4 ly5 ly6 e6 hx;go_enter Tryd.func29, Tryd.ntmps29;go_wp2
 go_ret
 exact ⟨rfl, rfl⟩
theorem len_any (p : Nat) (ws : List Nat) (w : World) (h : BSet w p ws) :
  Calls Tryd.prog 19 #[.pointer (some ⟨p, 0, none⟩)] w fun e w' => e = .returned (.int .i64 (((allW ws).length : Nat) : Int)) ∧ w = w' := by
 obtain ⟨a0, a1, a2, a3, a4, a5, a6, a7, hws⟩ := eight h.2.1;have hidx : ∀ k : Nat, k < 8 → ∀ w, (Instr.index 51 (.agg #[.int .u64 a0, .int .u64 a1, .int .u64 a2, .int .u64 a3, .int .u64 a4, .int .u64 a5, .int .u64 a6, .int .u64 a7]) (.int .i64 (k : Int))).run Tryd.prog w = .ok (.int .u64 ((ws.getD k 0 : Nat) : Int)) w := fun k hk w => by
  rw [hws]; exact index_word a0 a1 a2 a3 a4 a5 a6 a7 k hk w
 have c0 := h.cell 0 (by omega);have c1 := h.cell 1 (by omega);have c2 := h.cell 2 (by omega);have c3 := h.cell 3 (by omega);have c4 := h.cell 4 (by omega);have c5 := h.cell 5 (by omega);have c6 := h.cell 6 (by omega);have c7 := h.cell 7 (by omega);rw [hws] at c0 c1 c2 c3 c4 c5 c6 c7;simp at c0 c1 c2 c3 c4 c5 c6 c7;have HX := Hd hidx;have HFT := Hd h.2.2;obtain ⟨LN, hLN⟩ : ∃ LN : Nat → Nat, ∀ k, LN k = (allTo ws k).length := ⟨_, fun _ => rfl⟩;have HLE : Hid (∀ k, LN k ≤ 64 * k) := Hd (fun k => by rw [hLN]; exact allTo_len ws k);have HLS : Hid (∀ k, LN (k + 1) = LN k + (bitsOf (ws.getD k 0)).length) := Hd (fun k => by rw [hLN, hLN, allTo_succ, List.length_append, List.length_map]);have hL8 : (allW ws).length = LN 8 := (hLN 8).symm;have hL0 : LN 0 = 0 := by rw [hLN]; rfl
 rw [hL8];clear hidx hws h;go_enter Tryd.func19, Tryd.ntmps19;go_wp2
 go_loop [12, 3] (fun i v => ∃ k : Nat, k ≤ 8 ∧ i = .int .i64 k ∧ v = .int .i64 ((LN k : Nat) : Int)) (fun i _ => 8 - (intOf i).toNat)
 case atStart => exact ⟨0, by omega, rfl, by rw [hL0]; rfl⟩
 case round =>
  obtain ⟨k, hk, rfl, rfl⟩ := hrel
  by_cases hlt : k < 8
  ·have hix := HX.out k hlt;have hls := HLS.out k;have hle := HLE.out k;have hxb := HFT.out k;have hbl := bitsOf_len (ws.getD k 0);generalize ws.getD k 0 = x0 at *;obtain ⟨l0, hl0⟩ : ∃ l0, l0 = LN k := ⟨_, rfl⟩;obtain ⟨l1, hl1⟩ : ∃ l1, l1 = LN (k + 1) := ⟨_, rfl⟩;rw [← hl0] at hls hle ⊢;rw [← hl1] at hls;have HL1 := Hd hl1;have HP := Hd (ones_pop x0 hxb);obtain ⟨o0, ho0⟩ : ∃ o0, o0 = (bitsOf x0).length := ⟨_, rfl⟩;rw [← ho0] at HP hls hbl;have hwr : IntKind.i64.wrap ((l0 : Int) + (o0 : Int)) = (l1 : Int) := (IntWalk.i64_in _ (by omega)).trans (by omega);have hwr2 : wrap64 ((l0 : Int) + (o0 : Int)) = (l1 : Int) := (IntWalk.wrap64_in _ (by omega)).trans (by omega);clear ho0 hl0 hl1 hls hle hbl hxb;go_wp2_with fail
   refine (HP.out _).mono ?_;rintro e w1 ⟨rfl, rfl⟩;go_wp2
   go_round
   case rel => exact ⟨k + 1, by omega, by go_num, by rw [← HL1.out]⟩
   case measure => simp [intOf]; omega
  ·have hk8 : k = 8 := by omega
   subst hk8;go_wp2
   go_ret
   exact ⟨rfl, rfl⟩
end Go.Proofs.YtgimobilcdkmpaaDoor
