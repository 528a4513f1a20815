/- Parts. -/
import Derived.Test.YtlemjgjpglmphaaDoorPartOnceCardK23
set_option maxRecDepth 10000
set_option maxHeartbeats 16000000
set_option linter.unusedVariables false
set_option linter.unusedSimpArgs false
namespace Go.Proofs.YtlemjgjpglmphaaDoor
open Go.RowKit
def markC (n : Nat) (l : List Int) : Array Value := ((List.range n).map fun i : Nat => Value.bool (decide ((i : Int) ∈ l))).toArray
theorem markC_size (n : Nat) (l : List Int) : (markC n l).size = n := by simp [markC]
theorem markC_at (n : Nat) (l : List Int) (i : Nat) (hi : i < n) : (markC n l)[i]? = some (.bool (decide ((i : Int) ∈ l))) := by simp [markC, hi]
theorem markC_snoc (n : Nat) (l : List Int) (i : Nat) (hi : i < n) : markC n (l ++ [(i : Int)]) = (markC n l).setIfInBounds i (.bool true) := by
 apply Array.ext_getElem?
 intro j
 by_cases hj : j < n
 ·rw [markC_at _ _ _ hj, Array.getElem?_setIfInBounds]
  by_cases hij : i = j
  ·subst hij;rw [if_pos rfl, if_pos (by rw [markC_size]; exact hi)];simp
  ·rw [if_neg hij, markC_at _ _ _ hj];have : (j : Int) ∈ l ++ [(i : Int)] ↔ (j : Int) ∈ l := by
    simp;omega
   simp [this]
 ·rw [Array.getElem?_eq_none (by rw [markC_size]; omega), Array.getElem?_eq_none (by simp [markC_size]; omega)]
theorem made_mark (n : Nat) : madeCells #[.bool false] n = markC n [] := by
 apply Array.ext_getElem?
 intro j
 by_cases hj : j < n <;> simp [madeCells, markC, Nat.mod_one, hj]
theorem info_bool : (Tryd.prog.info? 4).map (fun i => (i.zero, i.size, i.bytes)) = some (some (.bool false), 1, 1) := by kernel_rfl
theorem own_lower {w : World} {base base' : Nat} {e : TypeId} {size : Nat} {v : Value} {n : Nat} {xs : List Value} (h : w.ownsRow base e size v n xs) (hb : base' ≤ base) : w.ownsRow base' e size v n xs := by
 obtain ⟨hl, hv⟩ := h;refine ⟨hl, ?_⟩;rcases hv with hv | ⟨g, cap, cur, rfl, h1, rest⟩
 ·exact .inl hv
 ·exact .inr ⟨g, cap, cur, rfl, Nat.le_trans hb h1, rest⟩
theorem row_of_own {w : World} {base : Nat} {e : TypeId} {size n c : Nat} {A : Option Addr} {xs : List Value} (h : w.ownsRow base e size (.slice A n c) n xs) : Row w w.heap.size A xs := by
 obtain ⟨A', c', e1, -, -, -, h3⟩ := own_row h;injection e1 with ea eb ec;subst ea ec;exact h3
def leftK (n : Nat) (K : List Int) : Nat := ((List.range n).filter fun i : Nat => !decide ((i : Int) ∈ K)).length
theorem leftK_le (n : Nat) (K : List Int) : leftK n K ≤ n := Nat.le_trans (List.length_filter_le _ _) (by simp)
theorem leftK_snoc {n : Nat} {K : List Int} {q : Nat} (hq : q < n) (hK : (q : Int) ∉ K) : leftK n (K ++ [(q : Int)]) + 1 = leftK n K := by
 unfold leftK;have gen : ∀ (l : List Nat), l.Nodup → ((l.filter fun i : Nat => !decide ((i : Int) ∈ K ++ [(q : Int)])).length + if q ∈ l then 1 else 0) = (l.filter fun i : Nat => !decide ((i : Int) ∈ K)).length := by
  intro l
  induction l with
  | nil => intro _; simp
  | cons x l ih =>
   intro hd;obtain ⟨h1, h2⟩ := List.nodup_cons.1 hd;have ih := ih h2
   by_cases hx : x = q
   ·subst hx;rw [if_neg h1] at ih;have e1 : (!decide ((x : Int) ∈ K ++ [(x : Int)])) = false := by simp
    have e2 : (!decide ((x : Int) ∈ K)) = true := by simp [hK]
    rw [List.filter_cons, List.filter_cons, e1, e2, if_neg (by decide), if_pos rfl, if_pos List.mem_cons_self, List.length_cons];omega
   ·have e : (!decide ((x : Int) ∈ K ++ [(q : Int)])) = (!decide ((x : Int) ∈ K)) := by
     congr 1
     rw [decide_eq_decide, List.mem_append]
     constructor
     ·rintro (h | h)
      ·exact h
      ·simp at h; omega
     ·exact .inl
    have hm : (q ∈ x :: l) ↔ q ∈ l := by
     rw [List.mem_cons];exact ⟨fun h => h.resolve_left (fun e => hx e.symm), .inr⟩
    by_cases hql : q ∈ l
    ·rw [if_pos (hm.2 hql)];rw [if_pos hql] at ih;rw [List.filter_cons, List.filter_cons, e]
     split
     ·simp only [List.length_cons]; omega
     ·exact ih
    ·rw [if_neg (fun h => hql (hm.1 h))];rw [if_neg hql] at ih;rw [List.filter_cons, List.filter_cons, e]
     split
     ·simp only [List.length_cons]; omega
     ·exact ih
 have := gen (List.range n) List.nodup_range;rw [if_pos (List.mem_range.2 hq)] at this;exact this
end Go.Proofs.YtlemjgjpglmphaaDoor
