/- Columns: the mathematics. -/
import Derived.Test.YtbenjknaklafmaaDoorLineIt
set_option linter.unusedVariables false
set_option linter.unusedSimpArgs false
namespace Go.Proofs.YtbenjknaklafmaaDoor
open Go.RowKit
open Go.Lib hiding intOf
attribute [local go_sem ↓] Go.wp_at_zero Go.wp_at_succ

def colFrom (s : ByteArray) (a : Int) : Nat → Nat → Nat
  | 0, _ => 0
  | f + 1, pos => if pos < s.size ∧ (pos : Int) < a then 1 + colFrom s a f (pos + (Utf8.decode s pos).2) else 0
def colOf (s : ByteArray) (a : Int) : Nat := if validD (by_ s) = true then colFrom s a s.size 0 else 0
theorem colFrom_le (s : ByteArray) (a : Int) : ∀ f pos, colFrom s a f pos ≤ f
  | 0, _ => Nat.le_refl _
  | f + 1, pos => by
    have := colFrom_le s a f (pos + (Utf8.decode s pos).2)
    unfold colFrom
    split <;> omega
theorem colFrom_stop (s : ByteArray) (a : Int) (f pos : Nat) (h : ¬ (pos < s.size ∧ (pos : Int) < a)) : colFrom s a f pos = 0 := by
  cases f with
  | zero => rfl
  | succ f => rw [colFrom, if_neg h]

end Go.Proofs.YtbenjknaklafmaaDoor
