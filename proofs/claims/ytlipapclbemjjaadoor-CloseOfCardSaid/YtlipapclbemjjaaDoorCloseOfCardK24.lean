/- The document's own graph (ref 19): Has, Next, Back, May. -/
import Derived.Test.YtlipapclbemjjaaDoorCloseOfCardK23
set_option linter.unusedVariables false
set_option linter.unusedSimpArgs false
namespace Go.Proofs.YtlipapclbemjjaaDoor
open Go.RowKit
attribute [local go_sem ↓] Go.wp_at_zero Go.wp_at_succ
def nextL (N : Nat) (h : List (Int × Int)) (a : Int) : List Int := ((List.range N).filter fun b : Nat => decide ((a, (b : Int)) ∈ h)).map fun b : Nat => (b : Int)
def backL (N : Nat) (h : List (Int × Int)) (b : Int) : List Int := ((List.range N).filter fun a : Nat => decide (((a : Int), b) ∈ h)).map fun a : Nat => (a : Int)
theorem nextL_len (N : Nat) (h : List (Int × Int)) (a : Int) : (nextL N h a).length ≤ N := by
 unfold nextL
 rw [List.length_map]
 exact Nat.le_trans (List.length_filter_le _ _) (by simp)
end Go.Proofs.YtlipapclbemjjaaDoor
