/- The document's values: May, Less (Only). -/
import Derived.Test.YtjfbeeogiejopaaGreatDoorWriterOfCardK26
set_option linter.unusedVariables false
set_option linter.unusedSimpArgs false
namespace Go.Proofs.YtjfbeeogiejopaaGreatDoor
open Go.RowKit
set_option maxHeartbeats 400000 in
theorem rmay_anyV (k n : Int) (w : World) : Calls Tryz.prog 73 #[.agg #[.int .i64 k, .int .i64 n]] w fun e w' => e = .returned (.bool (mayB k n)) ∧ Only [] w w' := by
 unfold mayB
 by_cases h1 : k = 1
 ·subst h1
  go_enter Tryz.func73, Tryz.ntmps73
  go_wp2
  go_ret
  exact ⟨by simp, (Only.refl _ _).alloc _⟩
 ·have h1' : (k == 1) = false := by simp [h1]
  have H1 := Lib.hid h1
  clear h1
  by_cases h0 : k = 0
  ·subst h0
   go_enter Tryz.func73, Tryz.ntmps73
   go_wp2
   go_ret
   exact ⟨ret_boolv (by simp; try (rw [Bool.eq_iff_iff]; simp)), (Only.refl _ _).alloc _⟩
  ·have h0' : (k == 0) = false := by simp [h0]
   have H0 := Lib.hid h0
   clear h0
   by_cases h2 : k = 2
   ·subst h2
    go_enter Tryz.func73, Tryz.ntmps73
    go_wp2
    go_ret
    exact ⟨ret_boolv (by simp; try (rw [Bool.eq_iff_iff]; simp)), (Only.refl _ _).alloc _⟩
   ·have h2' : (k == 2) = false := by simp [h2]
    have H2 := Lib.hid h2
    clear h2
    go_enter Tryz.func73, Tryz.ntmps73
    go_wp2
    go_ret
    exact ⟨ret_boolv (by simp [H0.out, H1.out, H2.out]), (Only.refl _ _).alloc _⟩
set_option maxHeartbeats 400000 in
theorem rLess_any (k m k' m' : Int) (w : World) : Calls Tryz.prog 74 #[.agg #[.int .i64 k, .int .i64 m], .agg #[.int .i64 k', .int .i64 m']] w fun e w' => e = .returned (.bool (lessBV k m k' m')) ∧ Only [] w w' := by
 unfold lessBV
 by_cases h : k = k'
 ·subst h
  by_cases h1 : k = 1
  ·subst h1
   go_enter Tryz.func74, Tryz.ntmps74
   go_wp2
   go_ret
   exact ⟨by simp, ((Only.refl _ _).alloc _).alloc _⟩
  ·have h1' : (k == 1) = false := by simp [h1]
   have H1 := Lib.hid h1
   clear h1
   go_enter Tryz.func74, Tryz.ntmps74
   go_wp2
   go_ret
   exact ⟨by simp [H1.out], ((Only.refl _ _).alloc _).alloc _⟩
 ·have h' : (k != k') = true := by simp [h]
  have H := Lib.hid h
  clear h
  go_enter Tryz.func74, Tryz.ntmps74
  go_wp2
  go_ret
  exact ⟨by simp [H.out], ((Only.refl _ _).alloc _).alloc _⟩
end Go.Proofs.YtjfbeeogiejopaaGreatDoor
