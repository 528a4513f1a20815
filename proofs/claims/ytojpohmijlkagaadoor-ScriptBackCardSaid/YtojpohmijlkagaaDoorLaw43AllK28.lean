/- Parts. -/
import Derived.Test.YtojpohmijlkagaaDoorLaw43AllK27
set_option maxRecDepth 10000
set_option maxHeartbeats 16000000
set_option linter.unusedVariables false
set_option linter.unusedSimpArgs false
namespace Go.Proofs.YtojpohmijlkagaaDoor
open Go.RowKit
open Go.Lib hiding intOf
attribute [local go_sem ↓] Go.wp_at_zero Go.wp_at_succ
theorem rfirst43_0 (w : World) : Calls Tryd.prog 29 #[.int .i64 1] w fun e w' => e = .returned (.string ⟨#[108, 101, 118, 101, 108]⟩) ∧ Only [] w w' := by
 have HO := fun cs => (Only.refl [] w).alloc (.cells cs 9);go_enter Tryd.func29, Tryd.ntmps29;go_wp2
 go_ret
 exact ⟨rfl, HO _⟩
theorem rfirst43_1 (w : World) : Calls Tryd.prog 29 #[.int .i64 2] w fun e w' => e = .returned (.string ⟨#[112, 111, 108, 105, 99, 121]⟩) ∧ Only [] w w' := by
 have HO := fun cs => (Only.refl [] w).alloc (.cells cs 9);go_enter Tryd.func29, Tryd.ntmps29;go_wp2
 go_ret
 exact ⟨rfl, HO _⟩
theorem rfirst43_2 (w : World) : Calls Tryd.prog 29 #[.int .i64 3] w fun e w' => e = .returned (.string ⟨#[98, 117, 100, 103, 101, 116]⟩) ∧ Only [] w w' := by
 have HO := fun cs => (Only.refl [] w).alloc (.cells cs 9);go_enter Tryd.func29, Tryd.ntmps29;go_wp2
 go_ret
 exact ⟨rfl, HO _⟩
theorem rfirst43_3 (w : World) : Calls Tryd.prog 29 #[.int .i64 4] w fun e w' => e = .returned (.string ⟨#[99, 104, 101, 99, 107]⟩) ∧ Only [] w w' := by
 have HO := fun cs => (Only.refl [] w).alloc (.cells cs 9);go_enter Tryd.func29, Tryd.ntmps29;go_wp2
 go_ret
 exact ⟨rfl, HO _⟩
theorem rfirst43_4 (w : World) : Calls Tryd.prog 29 #[.int .i64 5] w fun e w' => e = .returned (.string ⟨#[114, 101, 112, 111, 114, 116]⟩) ∧ Only [] w w' := by
 have HO := fun cs => (Only.refl [] w).alloc (.cells cs 9);go_enter Tryd.func29, Tryd.ntmps29;go_wp2
 go_ret
 exact ⟨rfl, HO _⟩
theorem rfirst43_5 (w : World) : Calls Tryd.prog 29 #[.int .i64 6] w fun e w' => e = .returned (.string ⟨#[102, 111, 114, 99, 101, 100]⟩) ∧ Only [] w w' := by
 have HO := fun cs => (Only.refl [] w).alloc (.cells cs 9);go_enter Tryd.func29, Tryd.ntmps29;go_wp2
 go_ret
 exact ⟨rfl, HO _⟩
theorem rfirst43_6 (w : World) : Calls Tryd.prog 29 #[.int .i64 7] w fun e w' => e = .returned (.string ⟨#[119, 111, 114, 108, 100, 115]⟩) ∧ Only [] w w' := by
 have HO := fun cs => (Only.refl [] w).alloc (.cells cs 9);go_enter Tryd.func29, Tryd.ntmps29;go_wp2
 go_ret
 exact ⟨rfl, HO _⟩
theorem rfirst43_7 (w : World) : Calls Tryd.prog 29 #[.int .i64 8] w fun e w' => e = .returned (.string ⟨#[101, 110, 111, 117, 103, 104]⟩) ∧ Only [] w w' := by
 have HO := fun cs => (Only.refl [] w).alloc (.cells cs 9);go_enter Tryd.func29, Tryd.ntmps29;go_wp2
 go_ret
 exact ⟨rfl, HO _⟩
theorem rfirst43_8 (w : World) : Calls Tryd.prog 29 #[.int .i64 9] w fun e w' => e = .returned (.string ⟨#[115, 104, 111, 119]⟩) ∧ Only [] w w' := by
 have HO := fun cs => (Only.refl [] w).alloc (.cells cs 9);go_enter Tryd.func29, Tryd.ntmps29;go_wp2
 go_ret
 exact ⟨rfl, HO _⟩
theorem rfirst43_9 (w : World) : Calls Tryd.prog 29 #[.int .i64 10] w fun e w' => e = .returned (.string ⟨#[119, 114, 111, 110, 103]⟩) ∧ Only [] w w' := by
 have HO := fun cs => (Only.refl [] w).alloc (.cells cs 9);go_enter Tryd.func29, Tryd.ntmps29;go_wp2
 go_ret
 exact ⟨rfl, HO _⟩
theorem rfirst43_any (k : Nat) (x : ByteArray) (w : World) (hx : kwL[k]? = some x) : Calls Tryd.prog 29 #[.int .i64 ((k : Int) + 1)] w fun e w' => e = .returned (.string x) ∧ Only [] w w' := by
 have hk : k < 10 := (List.getElem?_eq_some_iff.1 hx).1;have h : k = 0 ∨ k = 1 ∨ k = 2 ∨ k = 3 ∨ k = 4 ∨ k = 5 ∨ k = 6 ∨ k = 7 ∨ k = 8 ∨ k = 9 := by omega
 rcases h with rfl | rfl | rfl | rfl | rfl | rfl | rfl | rfl | rfl | rfl <;> (injection hx with hx; subst hx)
 ·exact rfirst43_0 w
 ·exact rfirst43_1 w
 ·exact rfirst43_2 w
 ·exact rfirst43_3 w
 ·exact rfirst43_4 w
 ·exact rfirst43_5 w
 ·exact rfirst43_6 w
 ·exact rfirst43_7 w
 ·exact rfirst43_8 w
 ·exact rfirst43_9 w
theorem rmay43_any (r k n : Int) (w : World) :
  Calls Tryd.prog 16 #[.agg #[.int .i64 r, .int .i64 k, .int .i64 n]] w fun e w' => e = .returned (.bool (mayN k n)) ∧ Only [] w w' := by
 have HO := Hd ((Only.refl [] w).alloc (.cells #[.int .i64 r, .int .i64 k, .int .i64 n] 42))
 by_cases h1 : k < 1
 ·have e0 : mayN k n = false := by unfold mayN; rw [if_neg (by omega), if_neg (by omega), if_neg (by omega)]; simp; omega
  rw [e0];have hd : decide (k < 1) = true := by simpa using h1
  clear e0;go_enter Tryd.func16, Tryd.ntmps16;go_wp2
  go_ret
  exact ⟨rfl, HO.out⟩
 have hd1 : decide (k < 1) = false := by simpa using h1
 by_cases h2 : 10 < k
 ·have e0 : mayN k n = false := by unfold mayN; rw [if_neg (by omega), if_neg (by omega), if_neg (by omega)]; simp; omega
  rw [e0];have hd : decide (10 < k) = true := by simpa using h2
  clear e0;go_enter Tryd.func16, Tryd.ntmps16;go_wp2
  go_ret
  exact ⟨rfl, HO.out⟩
 have hd2 : decide (10 < k) = false := by simpa using h2
 have HO2 := Hd (fun cs => (HO.out).alloc (.cells cs 3))
 by_cases h3 : k = 3
 ·subst h3;have e0 : mayN 3 n = decide (0 ≤ n) := by unfold mayN; rw [if_neg (by decide), if_neg (by decide), if_pos rfl]
  rw [e0];clear e0;go_enter Tryd.func16, Tryd.ntmps16;go_wp2
  go_ret
  exact ⟨rfl, HO.out⟩
 by_cases h4 : k = 1
 ·subst h4;have e0 : mayN 1 n = decide (1 ≤ n ∧ n ≤ 3) := by unfold mayN; rw [if_pos rfl]
  rw [e0];clear e0
  by_cases g : 1 ≤ n
  ·go_enter Tryd.func16, Tryd.ntmps16;go_upto_region 7 with (fail)
   go_quiet (fail)
   go_wp2
   go_ret
   exact ⟨by first | (simp [g]; done) | (simp [g]; omega), by first | exact (HO2.out _).drewN _ | exact (HO2.out _).drew | exact HO2.out _⟩
  ·go_enter Tryd.func16, Tryd.ntmps16;go_upto_region 7 with (fail)
   go_quiet (fail)
   go_wp2
   go_ret
   exact ⟨by first | (simp [g]; done) | (simp [g]; omega), by first | exact (HO2.out _).drewN _ | exact (HO2.out _).drew | exact HO2.out _⟩
 by_cases h5 : k = 2
 ·subst h5;have e0 : mayN 2 n = decide (1 ≤ n ∧ n ≤ 2) := by unfold mayN; rw [if_neg (by decide), if_pos rfl]
  rw [e0];clear e0
  by_cases g : 1 ≤ n
  ·go_enter Tryd.func16, Tryd.ntmps16;go_upto_region 7 with (fail)
   go_quiet (fail)
   go_wp2
   go_ret
   exact ⟨by first | (simp [g]; done) | (simp [g]; omega), by first | exact (HO2.out _).drewN _ | exact (HO2.out _).drew | exact HO2.out _⟩
  ·go_enter Tryd.func16, Tryd.ntmps16;go_upto_region 7 with (fail)
   go_quiet (fail)
   go_wp2
   go_ret
   exact ⟨by first | (simp [g]; done) | (simp [g]; omega), by first | exact (HO2.out _).drewN _ | exact (HO2.out _).drew | exact HO2.out _⟩
 have e0 : mayN k n = decide (n = 0) := by unfold mayN; rw [if_neg h4, if_neg h5, if_neg h3]; exact decide_eq_decide.2 (by omega)
 rw [e0];have hd3 : (k == 3) = false := by simpa using h3
 have hd4 : decide (k < 3) = false := by simp; omega
 clear e0;go_enter Tryd.func16, Tryd.ntmps16;go_wp2
 go_ret
 exact ⟨by first | rfl | simp, HO2.out _⟩
end Go.Proofs.YtojpohmijlkagaaDoor
