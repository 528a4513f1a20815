/- Trimmed texts: the mathematics. -/
import Derived.Test.YtbenjknaklafmaaDoorLineIt
import Derived.Lib.SlTrimSet
set_option linter.unusedVariables false
set_option linter.unusedSimpArgs false
namespace Go.Proofs.YtbenjknaklafmaaDoor
open Go.RowKit
open Go.Lib hiding intOf

def blanks : List UInt8 := [9, 13, 32]
theorem right_cons (x : UInt8) (t cs : List UInt8) : trimRightS (x :: t) cs = if trimRightS t cs = [] then (if cs.contains x = true then [] else [x]) else x :: trimRightS t cs := by
  unfold trimRightS
  rw [List.reverse_cons, List.dropWhile_append]
  by_cases h : (t.reverse.dropWhile (cs.contains ·)) = []
  · rw [h, if_pos (by rfl), List.reverse_nil, if_pos rfl, List.dropWhile_cons, List.dropWhile_nil]
    by_cases hx : cs.contains x = true
    · simp only [hx, if_true, List.reverse_nil]
    · simp only [hx, if_false, List.reverse_singleton]; rfl
  · rw [if_neg (by simpa using h), if_neg (by simpa using h)]
    simp
/-- Left first or right first: the same. -/
theorem trim_comm (cs : List UInt8) : ∀ l : List UInt8, trimLeftS (trimRightS l cs) cs = trimRightS (trimLeftS l cs) cs := by
  intro l
  induction l with
  | nil => rfl
  | cons x t ih =>
    have hL : trimLeftS (x :: t) cs = if cs.contains x = true then trimLeftS t cs else x :: t := by
      unfold trimLeftS
      rw [List.dropWhile_cons]
    rw [hL]
    by_cases hx : cs.contains x = true
    · rw [if_pos hx, right_cons]
      by_cases hr : trimRightS t cs = []
      · rw [if_pos hr, if_pos hx, ← ih, hr]
      · rw [if_neg hr, ← ih]
        unfold trimLeftS
        rw [List.dropWhile_cons, if_pos hx]
    · rw [if_neg hx, right_cons]
      by_cases hr : trimRightS t cs = []
      · rw [if_pos hr, if_neg hx]
        unfold trimLeftS
        rw [List.dropWhile_cons, if_neg hx]
      · rw [if_neg hr]
        unfold trimLeftS
        rw [List.dropWhile_cons, if_neg hx]
theorem right_snoc (l : List UInt8) (x : UInt8) (cs : List UInt8) : trimRightS (l ++ [x]) cs = if cs.contains x = true then trimRightS l cs else l ++ [x] := by
  unfold trimRightS
  rw [List.reverse_append, List.reverse_singleton, List.singleton_append, List.dropWhile_cons]
  split
  · rfl
  · simp
theorem left_cons (l : List UInt8) (x : UInt8) (cs : List UInt8) : trimLeftS (x :: l) cs = if cs.contains x = true then trimLeftS l cs else x :: l := by
  unfold trimLeftS
  rw [List.dropWhile_cons]

end Go.Proofs.YtbenjknaklafmaaDoor
