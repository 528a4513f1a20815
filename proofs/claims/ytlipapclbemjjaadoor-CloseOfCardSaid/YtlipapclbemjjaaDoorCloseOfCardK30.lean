/- Rows of marks. Rows of the call's own, apart by their types; below a base. -/
import Derived.Test.YtlipapclbemjjaaDoorCloseOfCardK2
import Derived.Test.YtlipapclbemjjaaDoorCloseOfCardK3
set_option linter.unusedVariables false
set_option linter.unusedSimpArgs false
namespace Go.Proofs.YtlipapclbemjjaaDoor
open Go.RowKit
def markC (n : Nat) (l : List Int) : Array Value := ((List.range n).map fun i : Nat => Value.bool (decide ((i : Int) ∈ l))).toArray
theorem markC_size (n : Nat) (l : List Int) : (markC n l).size = n := by simp [markC]
theorem markC_at (n : Nat) (l : List Int) (i : Nat) (hi : i < n) : (markC n l)[i]? = some (.bool (decide ((i : Int) ∈ l))) := by simp [markC, hi]
theorem markC_snoc (n : Nat) (l : List Int) (i : Nat) (hi : i < n) : markC n (l ++ [(i : Int)]) = (markC n l).setIfInBounds i (.bool true) := by
 apply Array.ext_getElem?
 intro j
 by_cases hj : j < n
 ·rw [markC_at _ _ _ hj, Array.getElem?_setIfInBounds]
  by_cases hij : i = j
  ·subst hij
   rw [if_pos rfl, if_pos (by rw [markC_size]; exact hi)]
   simp
  ·rw [if_neg hij, markC_at _ _ _ hj]
   have : (j : Int) ∈ l ++ [(i : Int)] ↔ (j : Int) ∈ l := by
    simp
    omega
   simp [this]
 ·rw [Array.getElem?_eq_none (by rw [markC_size]; omega), Array.getElem?_eq_none (by simp [markC_size]; omega)]
theorem made_mark (n : Nat) : madeCells #[.bool false] n = markC n [] := by
 apply Array.ext_getElem?
 intro j
 by_cases hj : j < n <;> simp [madeCells, markC, Nat.mod_one, hj]
theorem info_bool : (Tryd.prog.info? 4).map (fun i => (i.zero, i.size, i.bytes)) = some (some (.bool false), 1, 1) := by kernel_rfl
end Go.Proofs.YtlipapclbemjjaaDoor

set_option linter.unusedVariables false
set_option linter.unusedSimpArgs false
namespace Go.Proofs.YtlipapclbemjjaaDoor
open Go.RowKit
theorem own_lower {w : World} {base base' : Nat} {e : TypeId} {size : Nat} {v : Value} {n : Nat} {xs : List Value} (h : w.ownsRow base e size v n xs) (hb : base' ≤ base) : w.ownsRow base' e size v n xs := by
 obtain ⟨hl, hv⟩ := h
 refine ⟨hl, ?_⟩
 rcases hv with hv | ⟨g, cap, cur, rfl, h1, rest⟩
 ·exact .inl hv
 ·exact .inr ⟨g, cap, cur, rfl, Nat.le_trans hb h1, rest⟩
end Go.Proofs.YtlipapclbemjjaaDoor
