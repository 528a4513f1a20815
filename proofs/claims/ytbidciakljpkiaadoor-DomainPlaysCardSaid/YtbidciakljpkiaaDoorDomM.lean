/- What is left of a variable, a bit each: the numbers. -/
import Derived.Test.YtbidciakljpkiaaDoorBitsMath
set_option linter.unusedVariables false
set_option linter.unusedSimpArgs false
namespace Go.Proofs.YtbidciakljpkiaaDoor

/-- The bits of truths. -/
def mk : List Bool → Nat
  | [] => 0
  | b :: l => (if b then 1 else 0) + 2 * mk l
/-- The bits of what is gone. -/
def gk (l : List Bool) : Nat := mk (l.map not)
/-- a but b. -/
def andN (a b : Nat) : Nat := a &&& (18446744073709551615 - b)

theorem mk_bit (l : List Bool) (k : Nat) : (mk l).testBit k = l.getD k false := by
  induction l generalizing k with
  | nil => simp [mk]
  | cons b l ih =>
    cases k with
    | zero =>
      rw [Nat.testBit_zero]
      cases b <;> simp [mk] <;> omega
    | succ k =>
      rw [Nat.testBit_succ]
      have : mk (b :: l) / 2 = mk l := by
        cases b <;> simp [mk] <;> omega
      rw [this, ih]
      simp
theorem mk_lt (l : List Bool) : mk l < 2 ^ l.length := by
  induction l with
  | nil => simp [mk]
  | cons b l ih =>
    rw [List.length_cons, Nat.pow_succ]
    cases b <;> simp [mk] <;> omega
theorem pow60 {n : Nat} (h : n ≤ 60) : (2 : Nat) ^ n ≤ 1152921504606846976 := by
  have : (2 : Nat) ^ n ≤ 2 ^ 60 := Nat.pow_le_pow_right (by decide) h
  exact this
theorem mk_lt60 {l : List Bool} (h : l.length ≤ 60) : mk l < 1152921504606846976 := Nat.lt_of_lt_of_le (mk_lt l) (pow60 h)
theorem gk_lt60 {l : List Bool} (h : l.length ≤ 60) : gk l < 1152921504606846976 := mk_lt60 (by simpa using h)
theorem gk_bit (l : List Bool) (k : Nat) : (gk l).testBit k = (decide (k < l.length) && !l.getD k false) := by
  unfold gk
  rw [mk_bit]
  simp only [List.getD_eq_getElem?_getD, List.getElem?_map]
  by_cases h : k < l.length
  · simp [h, List.getElem?_eq_getElem h]
  · simp [h, List.getElem?_eq_none (Nat.le_of_not_lt h)]
theorem andN_bit (a b k : Nat) (ha : a < 18446744073709551616) (hb : b < 18446744073709551616) : (andN a b).testBit k = (a.testBit k && !b.testBit k) := by
  unfold andN
  rw [Nat.testBit_and]
  have h := Nat.testBit_two_pow_sub_succ (n := 64) (x := b) hb k
  rw [show (18446744073709551615 - b : Nat) = 2 ^ 64 - (b + 1) by omega, h]
  by_cases hk : k < 64
  · simp [hk]
  · have : a.testBit k = false := Nat.testBit_lt_two_pow (Nat.lt_of_lt_of_le ha (Nat.pow_le_pow_right (n := 2) (by decide) (show 64 ≤ k by omega)))
    simp [this]
theorem andN_le (a b : Nat) : andN a b ≤ a := Nat.and_le_left

/-- All but what is gone is what is left, and the other way round. -/
theorem all_but_gone {l : List Bool} (h : l.length ≤ 60) : andN (2 ^ l.length - 1) (gk l) = mk l := by
  apply Nat.eq_of_testBit_eq
  intro k
  have h1 := pow60 h
  have h2 := gk_lt60 h
  rw [andN_bit _ _ _ (by omega) (by omega), gk_bit, mk_bit, Nat.testBit_two_pow_sub_one]
  by_cases hk : k < l.length
  · simp [hk]
  · simp [hk, List.getD_eq_getElem?_getD, List.getElem?_eq_none (Nat.le_of_not_lt hk)]
theorem all_but_left {l : List Bool} (h : l.length ≤ 60) : andN (2 ^ l.length - 1) (mk l) = gk l := by
  apply Nat.eq_of_testBit_eq
  intro k
  have h1 := pow60 h
  have h2 := mk_lt60 h
  rw [andN_bit _ _ _ (by omega) (by omega), gk_bit, mk_bit, Nat.testBit_two_pow_sub_one]
/-- A value less. -/
theorem but_one (l : List Bool) (k : Nat) (h : l.length ≤ 60) (hk : k < l.length) : andN (mk l) (2 ^ k) = mk (l.set k false) := by
  apply Nat.eq_of_testBit_eq
  intro j
  have h2 := mk_lt60 h
  have h3 := pow60 (show k ≤ 60 by omega)
  rw [andN_bit _ _ _ (by omega) (by omega), mk_bit, mk_bit, Nat.testBit_two_pow]
  simp only [List.getD_eq_getElem?_getD, List.getElem?_set]
  by_cases hj : k = j
  · subst hj; simp [hk]
  · simp [hj]
/-- One alone. -/
def oneOf (n k : Nat) : List Bool := (List.range n).map fun i => decide (i = k)
theorem oneOf_length (n k : Nat) : (oneOf n k).length = n := by simp [oneOf]
theorem oneOf_get (n k j : Nat) : (oneOf n k).getD j false = (decide (j < n) && decide (j = k)) := by
  simp only [oneOf, List.getD_eq_getElem?_getD, List.getElem?_map]
  by_cases h : j < n
  · simp [h, List.getElem?_range h]
  · simp [h]
theorem and_one (l : List Bool) (k : Nat) (hk : k < l.length) : mk l &&& 2 ^ k = if l.getD k false = true then mk (oneOf l.length k) else 0 := by
  apply Nat.eq_of_testBit_eq
  intro j
  rw [Nat.testBit_and, mk_bit, Nat.testBit_two_pow]
  split
  · rename_i h
    rw [mk_bit, oneOf_get]
    by_cases hj : k = j
    · subst hj; rw [h]; simp [hk]
    · have : ¬ j = k := fun e => hj e.symm
      simp [hj, this]
  · rename_i h
    by_cases hj : k = j
    · subst hj; simpa using h
    · simp [hj]
theorem mk_zero (l : List Bool) : mk l = 0 ↔ ∀ b ∈ l, b = false := by
  induction l with
  | nil => simp [mk]
  | cons b l ih =>
    cases b with
    | true => simp [mk]
    | false =>
      simp only [mk, List.forall_mem_cons, true_and, ← ih]
      simp
      omega

/-- The places of what is true, rising. -/
def places (l : List Bool) : List Nat := (List.range' 0 l.length).filter fun i => l.getD i false
theorem bits_places {l : List Bool} (h : l.length ≤ 60) : bitsOf (mk l) = places l := by
  unfold bitsOf places
  have e : List.range' 0 64 = List.range' 0 l.length ++ List.range' l.length (64 - l.length) := by
    have := @List.range'_append 0 l.length (64 - l.length) 1
    rw [Nat.zero_add, Nat.one_mul] at this
    rw [this]
    congr 1
    omega
  rw [e, List.filter_append]
  have e2 : (List.range' l.length (64 - l.length)).filter (fun i => (mk l).testBit i) = [] := by
    rw [List.filter_eq_nil_iff]
    intro j hj
    rw [List.mem_range'_1] at hj
    rw [mk_bit]
    simp [List.getD_eq_getElem?_getD, List.getElem?_eq_none hj.1]
  rw [e2, List.append_nil]
  congr 1
  funext i
  rw [mk_bit]
theorem mem_places {l : List Bool} {k : Nat} : k ∈ places l ↔ l.getD k false = true := by
  unfold places
  simp only [List.mem_filter, List.mem_range'_1, Nat.zero_add, Nat.zero_le, true_and]
  constructor
  · exact fun h => h.2
  · intro h
    refine ⟨?_, h⟩
    rcases Nat.lt_or_ge k l.length with h1 | h1
    · exact h1
    · simp [List.getD_eq_getElem?_getD, List.getElem?_eq_none h1] at h
theorem places_length (l : List Bool) : (places l).length ≤ l.length := by
  unfold places
  have := List.length_filter_le (fun i => l.getD i false) (List.range' 0 l.length)
  simpa using this
theorem places_nodup (l : List Bool) : (places l).Nodup := by
  unfold places
  exact List.Nodup.sublist List.filter_sublist (List.nodup_range' (step := 1))
/-- Where something is left: one alone is left just if without it nothing is. -/
theorem none_left {l : List Bool} {k : Nat} (hne : places l ≠ []) : (mk (l.set k false) = 0) ↔ places l = [k] := by
  rw [mk_zero]
  have key : (∀ b ∈ l.set k false, b = false) ↔ ∀ j, l.getD j false = true → j = k := by
    constructor
    · intro h j hj
      rcases Classical.em (j = k) with e | e
      · exact e
      · exfalso
        have hl : j < l.length := by
          rcases Nat.lt_or_ge j l.length with h1 | h1
          · exact h1
          · simp [List.getD_eq_getElem?_getD, List.getElem?_eq_none h1] at hj
        have hm : l[j] ∈ l.set k false := by
          rw [List.mem_iff_getElem?]
          exact ⟨j, by rw [List.getElem?_set_ne (fun h => e h.symm), List.getElem?_eq_getElem hl]⟩
        have := h _ hm
        simp [List.getD_eq_getElem?_getD, List.getElem?_eq_getElem hl, this] at hj
    · intro h b hb
      obtain ⟨j, hj⟩ := List.mem_iff_getElem?.1 hb
      rw [List.getElem?_set] at hj
      split at hj
      · split at hj
        · simpa using hj.symm
        · cases hj
      · rename_i hne
        cases b with
        | false => rfl
        | true => exact absurd (h j (by simp [List.getD_eq_getElem?_getD, hj])).symm hne
  rw [key]
  constructor
  · intro h
    have hall : ∀ x ∈ places l, x = k := fun x hx => h x (mem_places.1 hx)
    have hnd := places_nodup l
    cases hp : places l with
    | nil => exact absurd hp hne
    | cons x xs =>
      rw [hp] at hall hnd
      have hx := hall x (List.mem_cons_self ..)
      subst hx
      cases xs with
      | nil => rfl
      | cons y ys =>
        have hy := hall y (by simp)
        subst hy
        simp at hnd
  · intro h j hj
    have := mem_places.2 hj
    rw [h] at this
    simpa using this

end Go.Proofs.YtbidciakljpkiaaDoor
