/- The document's own graph (ref 19): Edges, May. -/
import Derived.Test.YtlipapclbemjjaaDoorCloseStaysCardK25
set_option linter.unusedVariables false
set_option linter.unusedSimpArgs false
namespace Go.Proofs.YtlipapclbemjjaaDoor
open Go.RowKit
attribute [local go_sem ↓] Go.wp_at_zero Go.wp_at_succ
def rrowE (N : Nat) (h : List (Int × Int)) (a : Nat) : List (Int × Int) := (nextL N h (a : Int)).map fun b => ((a : Int), b)
def redgesTo (N : Nat) (h : List (Int × Int)) (k : Nat) : List (Int × Int) := (List.range k).flatMap (rrowE N h)
theorem redgesTo_succ (N : Nat) (h : List (Int × Int)) (k : Nat) : redgesTo N h (k + 1) = redgesTo N h k ++ rrowE N h k := by
 unfold redgesTo
 rw [List.range_succ, List.flatMap_append]
 simp
theorem redgesTo_len (N : Nat) (h : List (Int × Int)) (k : Nat) : (redgesTo N h k).length ≤ N * k := by
 induction k with
 | zero => simp [redgesTo]
 | succ k ih =>
  rw [redgesTo_succ, List.length_append, Nat.mul_succ]
  have : (rrowE N h k).length ≤ N := by unfold rrowE; rw [List.length_map]; exact nextL_len N h k
  omega
def mayL (n : Int) (l : List (Int × Int)) : Bool := decide (0 ≤ n ∧ n ≤ 500) && l.all (goodE n.toNat)
end Go.Proofs.YtlipapclbemjjaaDoor
