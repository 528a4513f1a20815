/- Parts. -/
import Derived.Test.YtgimobilcdkmpaaDoorBitsPlaysCardK5
set_option maxRecDepth 10000
set_option maxHeartbeats 16000000
set_option linter.unusedVariables false
set_option linter.unusedSimpArgs false
namespace Go.Proofs.YtgimobilcdkmpaaDoor
open Go.RowKit
def mayN (n : Int) : Bool := decide (0 ≤ n ∧ n < 500)
theorem bmay_any (n : Int) (w : World) : Calls Tryd.prog 28 #[.int .i64 n] w fun e w' => e = .returned (.bool (mayN n)) ∧ w = w' := by
 unfold mayN
 by_cases h0 : 0 ≤ n
 ·by_cases h5 : n < 500
  all_goals
   go_enter Tryd.func28, Tryd.ntmps28;go_wp2
   go_ret
   exact ⟨by simp [h0, h5], rfl⟩
 ·go_enter Tryd.func28, Tryd.ntmps28;go_wp2
  go_ret
  exact ⟨by simp; omega, rfl⟩
theorem wrong_some (p : Nat) (n : Int) (w : World) : Calls Tryd.prog 27 #[.pointer (some ⟨p, 0, none⟩), .int .i64 n] w fun e w' => e = .returned (.int .i64 (if mayN n = true then 0 else 2)) ∧ w = w' := by
 have hm := fun w => bmay_any n w;generalize mayN n = b at *;have HM := Hd hm;clear hm
 cases b
 all_goals
  go_enter Tryd.func27, Tryd.ntmps27;go_wp2_with fail
  refine (HM.out _).mono ?_;rintro e w1 ⟨rfl, rfl⟩;go_wp2
  go_ret
  exact ⟨rfl, rfl⟩
theorem put_arg (p : Nat) (n : Int) (w : World) (h : mayN n = false) : Calls Tryd.prog 11 #[.pointer (some ⟨p, 0, none⟩), .int .i64 n] w fun e w' => e = .returned (.int .i64 2) ∧ w = w' := by
 have hm := fun w => wrong_some p n w;rw [h] at hm;have HM := Hd hm;clear hm h;go_enter Tryd.func11, Tryd.ntmps11;go_wp2_with fail
 refine (HM.out _).mono ?_;rintro e w1 ⟨rfl, rfl⟩;go_wp2
 go_ret
 exact ⟨rfl, rfl⟩
theorem put_ok (p n x : Nat) (w : World) (hn : n < 500) (hx : w.cell? ⟨p, n / 64, none⟩ = some (.int .u64 x)) (hf : w.frozen? ⟨p, n / 64, none⟩ = false) (hb : x < 18446744073709551616) :
  Calls Tryd.prog 11 #[.pointer (some ⟨p, 0, none⟩), .int .i64 n] w fun e w' => e = .returned (.int .i64 0) ∧ (w.setCell ⟨p, n / 64, none⟩ (.int .u64 ((x ||| 2 ^ (n % 64) : Nat) : Int))).drew = w' := by
 have hm := fun w => wrong_some p n w;have e1 : mayN (n : Int) = true := by unfold mayN; simp; omega
 rw [e1] at hm;have HM := Hd hm;clear hm e1;have h0 : (0 : Int) ≤ (n : Int) / 64 := by omega
 have h8 : (n : Int) / 64 < 8 := by omega
 have hm0 : (0 : Int) ≤ (n : Int) % 64 := by omega
 have hm64 : (n : Int) % 64 < 64 := by omega
 have hnn : (n : Int) < 500 := by omega
 go_enter Tryd.func11, Tryd.ntmps11;go_wp2_with fail
 refine (HM.out _).mono ?_;rintro e w1 ⟨rfl, rfl⟩;go_wp2
 go_region
 all_goals
  go_wp2
  go_ret
  exact ⟨rfl, by rw [or_val x (n % 64) hb (by omega)]⟩
theorem has_arg (p : Nat) (n : Int) (w : World) (h : mayN n = false) : Calls Tryd.prog 17 #[.pointer (some ⟨p, 0, none⟩), .int .i64 n] w fun e w' => e = .returned (.bool false) ∧ w = w' := by
 have hm := fun w => bmay_any n w;rw [h] at hm;have HM := Hd hm;clear hm h;go_enter Tryd.func17, Tryd.ntmps17;go_wp2_with fail
 refine (HM.out _).mono ?_;rintro e w1 ⟨rfl, rfl⟩;go_wp2
 go_ret
 exact ⟨rfl, rfl⟩
theorem has_ok (p n x : Nat) (w : World) (hn : n < 500) (hx : w.cell? ⟨p, n / 64, none⟩ = some (.int .u64 x)) (hb : x < 18446744073709551616) :
  Calls Tryd.prog 17 #[.pointer (some ⟨p, 0, none⟩), .int .i64 n] w fun e w' => e = .returned (.bool (x.testBit (n % 64))) ∧ w = w' := by
 have hm := fun w => bmay_any n w;have e1 : mayN (n : Int) = true := by unfold mayN; simp; omega
 rw [e1] at hm;have HM := Hd hm;clear hm e1;have h0 : (0 : Int) ≤ (n : Int) / 64 := by omega
 have h8 : (n : Int) / 64 < 8 := by omega
 have hm0 : (0 : Int) ≤ (n : Int) % 64 := by omega
 have hm64 : (n : Int) % 64 < 64 := by omega
 have hnn : (n : Int) < 500 := by omega
 go_enter Tryd.func17, Tryd.ntmps17;go_wp2_with fail
 refine (HM.out _).mono ?_;rintro e w1 ⟨rfl, rfl⟩;go_wp2
 go_ret
 exact ⟨by rw [← test_val x (n % 64) hb]; rfl, rfl⟩

/-! ### Sets -/
def wv (ws : List Nat) : Array Value := (ws.map fun x : Nat => Value.int .u64 (x : Int)).toArray
def BSet (w : World) (p : Nat) (ws : List Nat) : Prop := Blk w p 53 (wv ws) ∧ ws.length = 8 ∧ ∀ k, ws.getD k 0 < 18446744073709551616
def putW (ws : List Nat) (n : Int) : List Nat := if mayN n = true then ws.set (n.toNat / 64) (ws.getD (n.toNat / 64) 0 ||| 2 ^ (n.toNat % 64)) else ws
def dropW (ws : List Nat) (n : Int) : List Nat := if mayN n = true then ws.set (n.toNat / 64) (ws.getD (n.toNat / 64) 0 &&& (18446744073709551615 - 2 ^ (n.toNat % 64))) else ws
def hasW (ws : List Nat) (n : Int) : Bool := mayN n && (ws.getD (n.toNat / 64) 0).testBit (n.toNat % 64)
theorem mayN_iff {n : Int} : mayN n = true ↔ 0 ≤ n ∧ n < 500 := by simp [mayN]
theorem BSet.cell {w : World} {p : Nat} {ws : List Nat} (h : BSet w p ws) (k : Nat) (hk : k < 8) : w.cell? ⟨p, k, none⟩ = some (.int .u64 ((ws.getD k 0 : Nat) : Int)) := by
 rw [h.1.at_ k];have hl : k < ws.length := by have := h.2.1; omega
 simp [wv, List.getElem?_map, List.getD, List.getElem?_eq_getElem hl]
theorem BSet.only {w w' : World} {p : Nat} {ws : List Nat} (h : BSet w p ws) {S : List Nat} (ho : Only S w w') (hp : p ∉ S) : BSet w' p ws := ⟨ho.blk h.1 hp, h.2⟩
theorem BSet.lt {w : World} {p : Nat} {ws : List Nat} (h : BSet w p ws) : p < w.heap.size := h.1.lt
theorem getD_set (ws : List Nat) (i j x : Nat) (hi : i < ws.length) : (ws.set i x).getD j 0 = if i = j then x else ws.getD j 0 := by
 simp only [List.getD_eq_getElem?_getD, List.getElem?_set]
 by_cases h : i = j
 ·subst h; simp [hi]
 ·simp [h]
theorem BSet.put {w : World} {p : Nat} {ws : List Nat} (h : BSet w p ws) (k x : Nat) (hk : k < 8) (hx : x < 18446744073709551616) : BSet (w.setCell ⟨p, k, none⟩ (.int .u64 (x : Int))) p (ws.set k x) := by
 refine ⟨?_, by rw [List.length_set]; exact h.2.1, fun j => ?_⟩
 ·have := h.1.put k (.int .u64 (x : Int));have e : (wv ws).setIfInBounds k (.int .u64 (x : Int)) = wv (ws.set k x) := by simp [wv]
  rwa [e] at this
 ·rw [getD_set ws k j x (by have := h.2.1; omega)]
  split
  ·exact hx
  ·exact h.2.2 j
theorem BSet.drew {w : World} {p : Nat} {ws : List Nat} (h : BSet w p ws) : BSet w.drew p ws := h
theorem put_any (p : Nat) (n : Int) (ws : List Nat) (w : World) (h : BSet w p ws) :
  Calls Tryd.prog 11 #[.pointer (some ⟨p, 0, none⟩), .int .i64 n] w fun e w' => e = .returned (.int .i64 (if mayN n = true then 0 else 2)) ∧ BSet w' p (putW ws n) ∧ Only [p] w w' := by
 cases hm : mayN n with
 | false =>
  refine (put_arg p n w hm).mono ?_;rintro e w' ⟨rfl, rfl⟩;exact ⟨rfl, by unfold putW; rw [hm]; exact h, Only.refl _ _⟩
 | true =>
  obtain ⟨h0, h5⟩ := mayN_iff.1 hm;obtain ⟨k, rfl⟩ := Int.eq_ofNat_of_zero_le h0;refine (put_ok p k _ w (by omega) (h.cell (k / 64) (by omega)) (h.1.free _) (h.2.2 _)).mono ?_;rintro e w' ⟨rfl, rfl⟩;refine ⟨rfl, ?_, ((Only.refl _ _).put (by simp) _).drew⟩;unfold putW;rw [if_pos hm, Int.toNat_natCast];exact (h.put (k / 64) _ (by omega) (or_lt (h.2.2 _) (by omega))).drew
theorem has_any (p : Nat) (n : Int) (ws : List Nat) (w : World) (h : BSet w p ws) :
  Calls Tryd.prog 17 #[.pointer (some ⟨p, 0, none⟩), .int .i64 n] w fun e w' => e = .returned (.bool (hasW ws n)) ∧ w = w' := by
 cases hm : mayN n with
 | false =>
  refine (has_arg p n w hm).mono ?_;rintro e w' ⟨rfl, rfl⟩;exact ⟨by unfold hasW; rw [hm]; rfl, rfl⟩
 | true =>
  obtain ⟨h0, h5⟩ := mayN_iff.1 hm;obtain ⟨k, rfl⟩ := Int.eq_ofNat_of_zero_le h0;refine (has_ok p k _ w (by omega) (h.cell (k / 64) (by omega)) (h.2.2 _)).mono ?_;rintro e w' ⟨rfl, rfl⟩;exact ⟨by unfold hasW; rw [hm, Int.toNat_natCast]; rfl, rfl⟩

/-! What was put is there. -/
end Go.Proofs.YtgimobilcdkmpaaDoor
