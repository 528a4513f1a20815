/- More contracts of the package cell, and of the reference beside it. -/
import Derived.Test.YtclikdibpeiamaaCell
set_option linter.unusedVariables false
set_option linter.unusedSimpArgs false
namespace Go.Proofs.Ytclikdibpeiamaa
open Go.RowKit

set_option maxHeartbeats 400000 in
theorem Int_any (t n : Int) (w : World) : Calls Try.prog 12 #[.agg #[ifc t n]] w fun e w' => e = .returned (.tuple #[.int .i64 (nN t n), .int .i64 (nE t)]) ∧ Only [] w w' := by
  have hc := fun w => number_any t n w
  generalize ifc t n = v at *
  generalize nN t n = m at *
  generalize nE t = x at *
  have HC := Lib.hid hc
  clear hc
  go_enter Try.func12, Try.ntmps12
  go_wp2_with fail
  refine (HC.out _).mono ?_
  rintro e w1 ⟨rfl, rfl⟩
  go_wp2
  go_ret2
  exact ⟨rfl, (Only.refl _ _).alloc _⟩

set_option maxHeartbeats 400000 in
theorem Must_any (n : Int) (w : World) : Calls Try.prog 14 #[.agg #[ifc 1 n]] w fun e w' => e = .returned (.int .i64 n) ∧ Only [] w w' := by
  have hc := fun w => must_any n w
  have HC := Lib.hid hc
  clear hc
  rw [show ifc 1 n = .iface 2 (.int .i64 n) from rfl]
  go_enter Try.func14, Try.ntmps14
  go_wp2_with fail
  refine (HC.out _).mono ?_
  rintro e w1 ⟨rfl, rfl⟩
  go_wp2
  go_ret
  exact ⟨rfl, (Only.refl _ _).alloc _⟩

def oT (k : Int) : Int := if k = 1 then 1 else if k = 2 then 2 else 0

set_option maxHeartbeats 400000 in
theorem Of_any (k n : Int) (w : World) : Calls Try.prog 16 #[.agg #[.int .i64 k, .int .i64 n]] w fun e w' => e = .returned (.agg #[ifc (oT k) n]) ∧ Only [] w w' := by
  unfold oT ifc
  by_cases h1 : k = 1
  · subst h1
    go_enter Try.func16, Try.ntmps16
    go_wp2
    exact bodyPost_ret (v := .agg #[.iface 2 (.int .i64 n)]) (by simp [results, Try.results16, go_sem]) rfl ⟨rfl, ((Only.refl _ _).alloc _).alloc _⟩
  · by_cases h2 : k = 2
    · subst h2
      go_enter Try.func16, Try.ntmps16
      go_wp2
      exact bodyPost_ret (v := .agg #[.iface 56 (.agg #[])]) (by simp [results, Try.results16, go_sem]) rfl ⟨rfl, ((Only.refl _ _).alloc _).alloc _⟩
    · simp only [h1, h2, if_false, if_true]
      have h1' : (k == 1) = false := by simp [h1]
      have h2' : (k == 2) = false := by simp [h2]
      clear h1 h2
      go_enter Try.func16, Try.ntmps16
      go_wp2
      exact bodyPost_ret (v := .agg #[.nilIface]) (by simp [results, Try.results16, go_sem]) rfl ⟨rfl, ((Only.refl _ _).alloc _).alloc _⟩

set_option maxHeartbeats 400000 in
theorem OfInt_any (n : Int) (w : World) : Calls Try.prog 29 #[.int .i64 n] w fun e w' => e = .returned (.agg #[ifc 3 n]) ∧ Only [] w w' := by
  go_enter Try.func29, Try.ntmps29
  go_wp2
  exact bodyPost_ret (v := .agg #[.iface 3 (.int .i64 n)]) (by simp [results, Try.results29, go_sem]) rfl ⟨rfl, ((Only.refl _ _).alloc _)⟩

set_option maxHeartbeats 400000 in
theorem OfText_any (s : ByteArray) (w : World) : Calls Try.prog 30 #[.string s] w fun e w' => e = .returned (.agg #[.iface 9 (.string s)]) ∧ Only [] w w' := by
  go_enter Try.func30, Try.ntmps30
  go_wp2
  exact bodyPost_ret (v := .agg #[.iface 9 (.string s)]) (by simp [results, Try.results30, go_sem]) rfl ⟨rfl, ((Only.refl _ _).alloc _)⟩

set_option maxHeartbeats 400000 in
theorem rank_any (k : Int) (w : World) (h0 : 0 ≤ k) (h2 : k ≤ 2) : Calls Try.prog 33 #[.int .i64 k] w fun e w' => e = .returned (.int .i64 k) ∧ w = w' := by
  by_cases h : k = 0
  · subst h
    go_enter Try.func33, Try.ntmps33
    go_wp2
    go_ret
    exact ⟨rfl, rfl⟩
  · by_cases h1 : k = 1
    · subst h1
      go_enter Try.func33, Try.ntmps33
      go_wp2
      go_ret
      exact ⟨rfl, rfl⟩
    · obtain rfl : k = 2 := by omega
      go_enter Try.func33, Try.ntmps33
      go_wp2
      go_ret
      exact ⟨rfl, rfl⟩

set_option maxHeartbeats 400000 in
theorem rBack_any (t n : Int) (w : World) : Calls Try.prog 11 #[.agg #[.int .i64 t, .int .i64 n]] w fun e w' => e = .returned (.tuple #[.agg #[.int .i64 (bK t), .int .i64 (bN t n)], .int .i64 (bE t)]) ∧ Only [] w w' := by
  unfold bK bN bE
  by_cases h0 : t = 0
  · subst h0
    go_enter Try.func11, Try.ntmps11
    go_wp2
    exact bodyPost_ret (v := .tuple #[.agg #[.int .i64 0, .int .i64 0], .int .i64 0]) (by simp [results, Try.results11, go_sem]) rfl ⟨rfl, ((Only.refl _ _).alloc _).alloc _⟩
  · by_cases h1 : t = 1
    · subst h1
      go_enter Try.func11, Try.ntmps11
      go_wp2
      exact bodyPost_ret (v := .tuple #[.agg #[.int .i64 1, .int .i64 n], .int .i64 0]) (by simp [results, Try.results11, go_sem]) rfl ⟨rfl, ((Only.refl _ _).alloc _).alloc _⟩
    · by_cases h2 : t = 2
      · subst h2
        go_enter Try.func11, Try.ntmps11
        go_wp2
        exact bodyPost_ret (v := .tuple #[.agg #[.int .i64 2, .int .i64 0], .int .i64 0]) (by simp [results, Try.results11, go_sem]) rfl ⟨rfl, ((Only.refl _ _).alloc _).alloc _⟩
      · have h0' : (t == 0) = false := by simp [h0]
        have h1' : (t == 1) = false := by simp [h1]
        have h2' : (t == 2) = false := by simp [h2]
        simp only [h0, h1, h2, if_false, if_true, or_false]
        clear h0 h1 h2
        go_enter Try.func11, Try.ntmps11
        go_wp2
        exact bodyPost_ret (v := .tuple #[.agg #[.int .i64 0, .int .i64 0], .int .i64 15]) (by simp [results, Try.results11, go_sem]) rfl ⟨rfl, ((Only.refl _ _).alloc _).alloc _⟩

set_option maxHeartbeats 400000 in
theorem rInt_any (t n : Int) (w : World) : Calls Try.prog 13 #[.agg #[.int .i64 t, .int .i64 n]] w fun e w' => e = .returned (.tuple #[.int .i64 (nN t n), .int .i64 (nE t)]) ∧ Only [] w w' := by
  unfold nN nE
  by_cases h1 : t = 1
  · subst h1
    go_enter Try.func13, Try.ntmps13
    go_wp2
    go_ret2
    exact ⟨rfl, (Only.refl _ _).alloc _⟩
  · by_cases h3 : t = 3
    · subst h3
      go_enter Try.func13, Try.ntmps13
      go_wp2
      go_ret2
      exact ⟨rfl, (Only.refl _ _).alloc _⟩
    · have h1' : (t == 1) = false := by simp [h1]
      have h3' : (t == 3) = false := by simp [h3]
      simp only [h1, h3, if_false, if_true, or_false]
      clear h1 h3
      go_enter Try.func13, Try.ntmps13
      go_wp2
      go_ret2
      exact ⟨rfl, (Only.refl _ _).alloc _⟩

def cK (k : Int) : Int := if k = 1 then 1 else if k = 2 then 2 else 0
def cN (k n : Int) : Int := if k = 1 then n else 0

set_option maxHeartbeats 400000 in
theorem Clean_any (k n : Int) (w : World) : Calls Try.prog 17 #[.agg #[.int .i64 k, .int .i64 n]] w fun e w' => e = .returned (.agg #[.int .i64 (cK k), .int .i64 (cN k n)]) ∧ Only [] w w' := by
  unfold cK cN
  by_cases h1 : k = 1
  · subst h1
    go_enter Try.func17, Try.ntmps17
    go_wp2
    exact bodyPost_ret (v := .agg #[.int .i64 1, .int .i64 n]) (by simp [results, Try.results17, go_sem]) rfl ⟨rfl, ((Only.refl _ _).alloc _).alloc _⟩
  · by_cases h2 : k = 2
    · subst h2
      go_enter Try.func17, Try.ntmps17
      go_wp2
      exact bodyPost_ret (v := .agg #[.int .i64 2, .int .i64 0]) (by simp [results, Try.results17, go_sem]) rfl ⟨rfl, ((Only.refl _ _).alloc _).alloc _⟩
    · have h1' : (k == 1) = false := by simp [h1]
      have h2' : (k == 2) = false := by simp [h2]
      simp only [h1, h2, if_false, if_true]
      clear h1 h2
      go_enter Try.func17, Try.ntmps17
      go_wp2
      exact bodyPost_ret (v := .agg #[.int .i64 0, .int .i64 0]) (by simp [results, Try.results17, go_sem]) rfl ⟨rfl, ((Only.refl _ _).alloc _).alloc _⟩

/-- Of two fair values the first one is ahead. -/
def lessB (k m k' m' : Int) : Bool := if k = k' then decide (k = 1 ∧ m < m') else decide (k < k')

set_option maxHeartbeats 400000 in
theorem rLess_any (k m k' m' : Int) (w : World) : Calls Try.prog 20 #[.agg #[.int .i64 k, .int .i64 m], .agg #[.int .i64 k', .int .i64 m']] w fun e w' => e = .returned (.bool (lessB k m k' m')) ∧ Only [] w w' := by
  unfold lessB
  by_cases h : k = k'
  · subst h
    by_cases h1 : k = 1
    · subst h1
      go_enter Try.func20, Try.ntmps20
      go_wp2
      go_ret
      exact ⟨by simp, ((Only.refl _ _).alloc _).alloc _⟩
    · have h1' : (k == 1) = false := by simp [h1]
      have H1 := Lib.hid h1
      clear h1
      go_enter Try.func20, Try.ntmps20
      go_wp2
      go_ret
      exact ⟨by simp [H1.out], ((Only.refl _ _).alloc _).alloc _⟩
  · have h' : (k != k') = true := by simp [h]
    have H := Lib.hid h
    clear h
    go_enter Try.func20, Try.ntmps20
    go_wp2
    go_ret
    exact ⟨by simp [H.out], ((Only.refl _ _).alloc _).alloc _⟩

end Go.Proofs.Ytclikdibpeiamaa
