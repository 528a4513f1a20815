/- The law GraphPlays: its walk. -/
import Derived.Test.YtfekejhcikkhdaaDoorGraphPB
import Derived.Test.YtfekejhcikkhdaaDoorSame
set_option linter.unusedVariables false
set_option linter.unusedSimpArgs false
namespace Go.Proofs.YtfekejhcikkhdaaDoor
open Go.RowKit
attribute [local go_sem ↓] Go.wp_at_zero Go.wp_at_succ

def amN (x m : Int) : Int := wrap64 ((IntKind.u64.wrap x).tmod (IntKind.u64.wrap m))
theorem amN_bd (x : Int) (m : Nat) (h1 : 1 ≤ m) (h2 : m ≤ 1000000) : 0 ≤ amN x m ∧ amN x m < m := by
  have h : 0 ≤ IntKind.u64.wrap x := by
    have := wf_wrap .u64 x
    simp [Lit.wf, IntKind.min, IntKind.max, IntKind.signed, IntKind.bits] at this
    exact this.1
  unfold amN
  generalize IntKind.u64.wrap x = y at *
  rw [show IntKind.u64.wrap (m : Int) = (m : Int) by rw [wrap_nat]; congr 1; omega]
  have h3 := Int.tmod_nonneg (m : Int) h
  have h4 := Int.tmod_lt_of_pos y (show (0 : Int) < (m : Int) by omega)
  have e : wrap64 (y.tmod m) = y.tmod m := by unfold wrap64; omega
  rw [e]
  omega

set_option maxHeartbeats 400000 in
theorem amongN (x : Int) (m : Nat) (h1 : 1 ≤ m) (h2 : m ≤ 1000000) (w : World) :
    Calls Tryd.prog 14 #[.int .i64 x, .int .i64 (m : Int)] w fun e w' => e = .returned (.int .i64 (amN x m)) ∧ w = w' := by
  have hd : ¬ (m : Int) < 1 := by omega
  have hm : ((m : Int) % 18446744073709551616 == 0) = false := by simp; omega
  have hw : IntKind.u64.wrap (m : Int) = (m : Int) := by rw [wrap_nat]; congr 1; omega
  have hw0 : ((m : Int) == 0) = false := by simp; omega
  unfold amN
  rw [hw]
  go_enter Tryd.func14, Tryd.ntmps14
  go_wp2
  go_ret
  exact ⟨rfl, rfl⟩

theorem sameInts_same (A A' : Option Addr) (c d : Nat) (xs : List Int) (w : World) (B B' : Nat) (hA : Row w B A (xs.map (Value.int .i64))) (hA' : Row w B' A' (xs.map (Value.int .i64))) (hn : xs.length ≤ 500) :
    Calls Tryd.prog 22 #[.slice A xs.length c, .slice A' xs.length d] w fun e w' => e = .returned (.bool true) ∧ ∃ k, w.drewN k = w' := by
  have h := sameInts_any A A' xs.length xs.length c d xs xs w B B' hA hA' rfl rfl (by omega) (by omega)
  rw [decide_eq_true rfl] at h
  exact h

theorem uH_len (h : List (Int × Int)) (m : Int) : (uH h m).length ≤ h.length := by
  unfold uH
  split
  · exact Nat.le_refl _
  · rw [List.length_take]; omega

end Go.Proofs.YtfekejhcikkhdaaDoor
