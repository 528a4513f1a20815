/- Parts. -/
import Derived.Test.YtgimobilcdkmpaaDoorBitsPlaysCardK6
set_option maxRecDepth 10000
set_option maxHeartbeats 16000000
set_option linter.unusedVariables false
set_option linter.unusedSimpArgs false
namespace Go.Proofs.YtgimobilcdkmpaaDoor
open Go.RowKit
theorem drop_arg (p : Nat) (n : Int) (w : World) (h : mayN n = false) : Calls Tryd.prog 13 #[.pointer (some ⟨p, 0, none⟩), .int .i64 n] w fun e w' => e = .returned (.int .i64 2) ∧ w = w' := by
 have hm := fun w => wrong_some p n w;rw [h] at hm;have HM := Hd hm;clear hm h;go_enter Tryd.func13, Tryd.ntmps13;go_wp2_with fail
 refine (HM.out _).mono ?_;rintro e w1 ⟨rfl, rfl⟩;go_wp2
 go_ret
 exact ⟨rfl, rfl⟩
theorem drop_ok (p n x : Nat) (w : World) (hn : n < 500) (hx : w.cell? ⟨p, n / 64, none⟩ = some (.int .u64 x)) (hf : w.frozen? ⟨p, n / 64, none⟩ = false) (hb : x < 18446744073709551616) :
  Calls Tryd.prog 13 #[.pointer (some ⟨p, 0, none⟩), .int .i64 n] w fun e w' => e = .returned (.int .i64 0) ∧ (w.setCell ⟨p, n / 64, none⟩ (.int .u64 ((x &&& (18446744073709551615 - 2 ^ (n % 64)) : Nat) : Int))).drew = w' := by
 have hm := fun w => wrong_some p n w;have e1 : mayN (n : Int) = true := by unfold mayN; simp; omega
 rw [e1] at hm;have HM := Hd hm;clear hm e1;have h0 : (0 : Int) ≤ (n : Int) / 64 := by omega
 have h8 : (n : Int) / 64 < 8 := by omega
 have hm0 : (0 : Int) ≤ (n : Int) % 64 := by omega
 have hm64 : (n : Int) % 64 < 64 := by omega
 have hnn : (n : Int) < 500 := by omega
 go_enter Tryd.func13, Tryd.ntmps13;go_wp2_with fail
 refine (HM.out _).mono ?_;rintro e w1 ⟨rfl, rfl⟩;go_wp2
 go_region
 all_goals
  go_wp2
  go_ret
  exact ⟨rfl, by rw [andNot_val x (n % 64) hb (by omega)]⟩
theorem drop_any (p : Nat) (n : Int) (ws : List Nat) (w : World) (h : BSet w p ws) :
  Calls Tryd.prog 13 #[.pointer (some ⟨p, 0, none⟩), .int .i64 n] w fun e w' => e = .returned (.int .i64 (if mayN n = true then 0 else 2)) ∧ BSet w' p (dropW ws n) ∧ Only [p] w w' := by
 cases hm : mayN n with
 | false =>
  refine (drop_arg p n w hm).mono ?_;rintro e w' ⟨rfl, rfl⟩;exact ⟨rfl, by unfold dropW; rw [hm]; exact h, Only.refl _ _⟩
 | true =>
  obtain ⟨h0, h5⟩ := mayN_iff.1 hm;obtain ⟨k, rfl⟩ := Int.eq_ofNat_of_zero_le h0;refine (drop_ok p k _ w (by omega) (h.cell (k / 64) (by omega)) (h.1.free _) (h.2.2 _)).mono ?_;rintro e w' ⟨rfl, rfl⟩;refine ⟨rfl, ?_, ((Only.refl _ _).put (by simp) _).drew⟩;unfold dropW;rw [if_pos hm, Int.toNat_natCast];exact (h.put (k / 64) _ (by omega) (and_lt (h.2.2 _))).drew
end Go.Proofs.YtgimobilcdkmpaaDoor
