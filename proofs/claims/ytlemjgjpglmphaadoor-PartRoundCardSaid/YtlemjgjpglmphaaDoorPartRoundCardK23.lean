/- Parts. -/
import Derived.Test.YtlemjgjpglmphaaDoorPartRoundCardK22
set_option maxRecDepth 10000
set_option maxHeartbeats 16000000
set_option linter.unusedVariables false
set_option linter.unusedSimpArgs false
namespace Go.Proofs.YtlemjgjpglmphaaDoor
open Go.RowKit
attribute [local go_sem ↓] Go.wp_at_zero Go.wp_at_succ
def nextL (N : Nat) (h : List (Int × Int)) (a : Int) : List Int := ((List.range N).filter fun b : Nat => decide ((a, (b : Int)) ∈ h)).map fun b : Nat => (b : Int)
def backL (N : Nat) (h : List (Int × Int)) (b : Int) : List Int := ((List.range N).filter fun a : Nat => decide (((a : Int), b) ∈ h)).map fun a : Nat => (a : Int)
theorem nextL_len (N : Nat) (h : List (Int × Int)) (a : Int) : (nextL N h a).length ≤ N := by
 unfold nextL;rw [List.length_map];exact Nat.le_trans (List.length_filter_le _ _) (by simp)
theorem backL_len (N : Nat) (h : List (Int × Int)) (b : Int) : (backL N h b).length ≤ N := by
 unfold backL;rw [List.length_map];exact Nat.le_trans (List.length_filter_le _ _) (by simp)
end Go.Proofs.YtlemjgjpglmphaaDoor
