/- Tables: the mathematics. -/
import Derived.Test.YtojlaphklkomfaaDoorPairManyCardK10
import Derived.Lib.SlicesS
set_option linter.unusedVariables false
set_option linter.unusedSimpArgs false
namespace Go.Proofs.YtojlaphklkomfaaDoor
open Go.Lib

def riseB : List ByteArray → Bool
  | [] => true
  | [_] => true
  | a :: b :: l => lessB a b && riseB (b :: l)
def tabB (t : List ByteArray) : Bool := t.all isName && riseB t
theorem riseB_iff : ∀ t : List ByteArray, riseB t = true ↔ ∀ (j : Nat) x y, t[j]? = some x → t[j + 1]? = some y → lessB x y = true
  | [] => ⟨fun _ j x y h => (by cases h), fun _ => rfl⟩
  | [a] => ⟨fun _ j x y _ h => (by simp at h), fun _ => rfl⟩
  | a :: b :: l => by
    rw [riseB, Bool.and_eq_true, riseB_iff (b :: l)]
    constructor
    · rintro ⟨h1, h2⟩ j x y hx hy
      cases j with
      | zero =>
        obtain rfl := Option.some.inj hx
        obtain rfl := Option.some.inj hy
        exact h1
      | succ j => exact h2 j x y hx hy
    · intro h
      exact ⟨h 0 a b rfl rfl, fun j x y hx hy => h (j + 1) x y hx hy⟩
theorem tab_iff (t : List ByteArray) : tabB t = true ↔ (∀ (j : Nat) x, t[j]? = some x → isName x = true) ∧ ∀ (j : Nat) x y, t[j]? = some x → t[j + 1]? = some y → lessB x y = true := by
  unfold tabB
  rw [Bool.and_eq_true, riseB_iff, List.all_eq_true]
  refine ⟨fun ⟨h1, h2⟩ => ⟨fun j x hx => h1 x (List.mem_of_getElem? hx), h2⟩, fun ⟨h1, h2⟩ => ⟨fun x hx => ?_, h2⟩⟩
  obtain ⟨j, hj⟩ := List.mem_iff_getElem?.1 hx
  exact h1 j x hj
theorem tab_bad1 {t : List ByteArray} {j : Nat} {x : ByteArray} (h : t[j]? = some x) (hn : isName x = false) : tabB t = false := by
  cases ht : tabB t with
  | false => rfl
  | true =>
    have := ((tab_iff t).1 ht).1 j x h
    rw [hn] at this
    cases this
theorem tab_bad2 {t : List ByteArray} {j : Nat} {x y : ByteArray} (h : t[j]? = some x) (h' : t[j + 1]? = some y) (hn : lessB x y = false) : tabB t = false := by
  cases ht : tabB t with
  | false => rfl
  | true =>
    have := ((tab_iff t).1 ht).2 j x y h h'
    rw [hn] at this
    cases this
theorem rising_of : ∀ t : List ByteArray, riseB t = true → Rising t
  | [], _ => List.Pairwise.nil
  | [a], _ => List.pairwise_singleton _ _
  | a :: b :: l, h => by
    rw [riseB, Bool.and_eq_true] at h
    have ih := rising_of (b :: l) h.2
    refine List.pairwise_cons.2 ⟨fun y hy => ?_, ih⟩
    rcases List.mem_cons.1 hy with rfl | hy
    · exact h.1
    · exact lessB_trans h.1 ((List.pairwise_cons.1 ih).1 y hy)
theorem of_rising : ∀ t : List ByteArray, Rising t → riseB t = true
  | [], _ => rfl
  | [a], _ => rfl
  | a :: b :: l, h => by
    obtain ⟨h1, h2⟩ := List.pairwise_cons.1 h
    rw [riseB, h1 b (List.mem_cons_self ..), of_rising (b :: l) h2]
    rfl
theorem tab_sort (l : List ByteArray) : tabB (sortB l) = true := by
  have h := (sortB_names l).1
  unfold tabB
  rw [of_rising _ h.rise, Bool.and_true, List.all_eq_true]
  exact h.name

/-- Where a name stands in a table. -/
def posB (t : List ByteArray) (s : ByteArray) : Int := if tabB t = true then idxOfS t s else -1
theorem idx_ge (t : List ByteArray) (s : ByteArray) : -1 ≤ idxOfS t s ∧ idxOfS t s < t.length := by
  by_cases h : s ∈ t
  · obtain ⟨k, hk, hmin⟩ : ∃ k : Nat, t[k]? = some s ∧ ∀ j, j < k → t[j]? ≠ some s := by
      obtain ⟨k, hk⟩ := List.mem_iff_getElem?.1 h
      refine Nat.strongRecOn (motive := fun k : Nat => t[k]? = some s → ∃ k : Nat, t[k]? = some s ∧ ∀ j, j < k → t[j]? ≠ some s) k (fun k ih hk => ?_) hk
      by_cases hj : ∃ j, j < k ∧ t[j]? = some s
      · obtain ⟨j, hj1, hj2⟩ := hj
        exact ih j hj1 hj2
      · exact ⟨k, hk, fun j hj1 hj2 => hj ⟨j, hj1, hj2⟩⟩
    have hl := (List.getElem?_eq_some_iff.1 hk).1
    have := idxOfS_hit t t.length k s hl (Nat.le_refl _) (by rw [List.getD_eq_getElem?_getD, hk]; rfl) (fun j hj e => hmin j hj (by
      rw [List.getD_eq_getElem?_getD, List.getElem?_eq_getElem (by omega)] at e
      rw [List.getElem?_eq_getElem (by omega)]
      exact congrArg some e))
    rw [List.take_length] at this
    rw [this]
    omega
  · have := idxOfS_miss t t.length s (fun j hj e => h (by
      rw [List.getD_eq_getElem?_getD, List.getElem?_eq_getElem hj] at e
      have e2 : t[j] = s := e
      rw [← e2]
      exact List.getElem_mem hj))
    rw [List.take_length] at this
    rw [this]
    omega
/-- The first place where a text stands. -/
theorem idx_first {t : List ByteArray} {s : ByteArray} {k : Nat} (hk : t[k]? = some s) (hmin : ∀ j, j < k → ∀ y, t[j]? = some y → y ≠ s) : idxOfS t s = k := by
  have hl := (List.getElem?_eq_some_iff.1 hk).1
  have := idxOfS_hit t t.length k s hl (Nat.le_refl _) (by rw [List.getD_eq_getElem?_getD, hk]; rfl) (fun j hj e => hmin j hj _ (List.getElem?_eq_getElem (by omega)) (by
    rw [List.getD_eq_getElem?_getD, List.getElem?_eq_getElem (by omega)] at e
    exact e))
  rwa [List.take_length] at this
theorem idx_none {t : List ByteArray} {s : ByteArray} (h : ∀ (j : Nat) y, t[j]? = some y → y ≠ s) : idxOfS t s = -1 := by
  have := idxOfS_miss t t.length s (fun j hj e => h j _ (List.getElem?_eq_getElem hj) (by
    rw [List.getD_eq_getElem?_getD, List.getElem?_eq_getElem hj] at e
    exact e))
  rwa [List.take_length] at this
theorem idx_at {t : List ByteArray} {s : ByteArray} (h : 0 ≤ idxOfS t s) : t[(idxOfS t s).toNat]? = some s := by
  have hm := (idxOfS_nonneg_iff t s).1 h
  obtain ⟨k, hk, hmin⟩ : ∃ k : Nat, t[k]? = some s ∧ ∀ j, j < k → t[j]? ≠ some s := by
    obtain ⟨k, hk⟩ := List.mem_iff_getElem?.1 hm
    refine Nat.strongRecOn (motive := fun k : Nat => t[k]? = some s → ∃ k : Nat, t[k]? = some s ∧ ∀ j, j < k → t[j]? ≠ some s) k (fun k ih hk => ?_) hk
    by_cases hj : ∃ j, j < k ∧ t[j]? = some s
    · obtain ⟨j, hj1, hj2⟩ := hj
      exact ih j hj1 hj2
    · exact ⟨k, hk, fun j hj1 hj2 => hj ⟨j, hj1, hj2⟩⟩
  have := idx_first hk (fun j hj y hy e => hmin j hj (by rw [hy, e]))
  rw [this]
  exact hk

end Go.Proofs.YtojlaphklkomfaaDoor
