/- The document's closure. -/
import Derived.Test.YtlipapclbemjjaaDoorCloseStaysCardK36
set_option linter.unusedVariables false
set_option linter.unusedSimpArgs false
namespace Go.Proofs.YtlipapclbemjjaaDoor
open Go.RowKit
attribute [local go_sem ↓] Go.wp_at_zero Go.wp_at_succ
def closeJ (n : Nat) (l : List (Int × Int)) (a j : Nat) : List (Int × Int) := closeTo n l a ++ ((reachL n l a).take j).map fun b => ((a : Int), b)
theorem closeJ_succ {n : Nat} {l : List (Int × Int)} {a j : Nat} {b : Int} (h : (reachL n l a)[j]? = some b) : closeJ n l a (j + 1) = closeJ n l a j ++ [((a : Int), b)] := by
 unfold closeJ
 rw [List.take_add_one, h, List.map_append, List.append_assoc]
 rfl
theorem closeJ_all {n : Nat} {l : List (Int × Int)} {a j : Nat} (h : (reachL n l a).length = j) : closeJ n l a j = closeTo n l (a + 1) := by
 unfold closeJ
 rw [List.take_of_length_le (by omega), closeTo_succ]
theorem closeJ_zero (n : Nat) (l : List (Int × Int)) (a : Nat) : closeJ n l a 0 = closeTo n l a := by unfold closeJ; simp
theorem closeJ_len (n : Nat) (l : List (Int × Int)) (a j : Nat) (ha : a ≤ n) : (closeJ n l a j).length ≤ n * n + n := by
 unfold closeJ
 rw [List.length_append, List.length_map, List.length_take]
 have h1 := closeTo_len n l a
 have h2 := reach_len n l a
 have h3 : n * a ≤ n * n := Nat.mul_le_mul_left n ha
 omega
end Go.Proofs.YtlipapclbemjjaaDoor
