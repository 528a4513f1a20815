/- The events of PairMany, and what comes of them. -/
import Derived.Test.YtojlaphklkomfaaDoorPairManyCardK41
set_option linter.unusedVariables false
set_option linter.unusedSimpArgs false
namespace Go.Proofs.YtojlaphklkomfaaDoor

def nm52 : ByteArray := ⟨#[97, 98, 99, 100, 101, 102, 103, 104, 105, 106, 107, 108, 109, 110, 111, 112, 113, 114, 115, 116, 117, 118, 119, 120, 121, 122, 65, 66, 67, 68, 69, 70, 71, 72, 73, 74, 75, 76, 77, 78, 79, 80, 81, 82, 83, 84, 85, 86, 87, 88, 89, 90]⟩
def sName (q i : Nat) : ByteArray := if q = 0 then nm52.extract i (i + 1) else ⟨#[115]⟩
def kName (q i : Nat) : ByteArray := if q = 3 then nm52.extract i (i + 1) else ⟨#[120]⟩
def stepX (q i : Nat) : List Ev6 := if q = 2 then ((if i = 0 then [⟨1, sName q i, ⟨#[]⟩, 0, 0, 0⟩] else []) ++ [⟨2, sName q i, kName q i, 0, 0, 0⟩]) else [⟨1, sName q i, ⟨#[]⟩, 0, 0, 0⟩, ⟨2, sName q i, kName q i, 0, 0, 0⟩, ⟨4, sName q i, ⟨#[]⟩, 0, 0, 0⟩]
def evsN (q n : Nat) : List Ev6 := (List.range n).flatMap (stepX q)
def evsA (q n : Nat) : List Ev6 := if q = 2 then evsN q n ++ [⟨6, ⟨#[115]⟩, ⟨#[]⟩, 0, 0, 0⟩] else evsN q n
def mostX (q : Nat) : Nat := if q = 0 then 20 else if q = 1 then 40 else if q = 2 then 20 else 40
def goodX (q r : Nat) : Bool := if r = 2 then decide (pairE (evsA q (mostX q - 1 + r)) = 7) else decide (pairE (evsA q (mostX q - 1 + r)) = 0) && decide (0 < (pairH (evsA q (mostX q - 1 + r))).l.length)
theorem good_00 : goodX 0 0 = true := by kernel_rfl
theorem good_01 : goodX 0 1 = true := by kernel_rfl
theorem good_02 : goodX 0 2 = true := by kernel_rfl
theorem good_10 : goodX 1 0 = true := by kernel_rfl
theorem good_11 : goodX 1 1 = true := by kernel_rfl
theorem good_12 : goodX 1 2 = true := by kernel_rfl
theorem good_20 : goodX 2 0 = true := by kernel_rfl
theorem good_21 : goodX 2 1 = true := by kernel_rfl
theorem good_22 : goodX 2 2 = true := by kernel_rfl
theorem good_30 : goodX 3 0 = true := by kernel_rfl
theorem good_31 : goodX 3 1 = true := by kernel_rfl
theorem good_32 : goodX 3 2 = true := by kernel_rfl
theorem good_all {q r : Nat} (hq : q < 4) (hr : r < 3) : goodX q r = true := by
  have h1 : q = 0 ∨ q = 1 ∨ q = 2 ∨ q = 3 := by omega
  have h2 : r = 0 ∨ r = 1 ∨ r = 2 := by omega
  rcases h1 with rfl | rfl | rfl | rfl <;> rcases h2 with rfl | rfl | rfl
  · exact good_00
  · exact good_01
  · exact good_02
  · exact good_10
  · exact good_11
  · exact good_12
  · exact good_20
  · exact good_21
  · exact good_22
  · exact good_30
  · exact good_31
  · exact good_32
theorem and_of {a b : Bool} (h : (a && b) = true) : a = true ∧ b = true := by
  cases a <;> cases b <;> simp_all
theorem good_case {q r : Nat} (hq : q < 4) (hr : r < 3) : (r = 2 ∧ pairE (evsA q (mostX q - 1 + r)) = 7) ∨ (r < 2 ∧ pairE (evsA q (mostX q - 1 + r)) = 0 ∧ 0 < (pairH (evsA q (mostX q - 1 + r))).l.length) := by
  have h := good_all hq hr
  unfold goodX at h
  by_cases h2 : r = 2
  · rw [if_pos h2] at h
    exact .inl ⟨h2, of_decide_eq_true h⟩
  · rw [if_neg h2] at h
    have h3 := and_of h
    exact .inr ⟨by omega, of_decide_eq_true h3.1, of_decide_eq_true h3.2⟩
theorem name_small (i : Nat) : (nm52.extract i (i + 1)).size ≤ 1 := by
  rw [ByteArray.size_extract]
  omega
theorem s_small (q i : Nat) : (sName q i).size ≤ 1 := by
  unfold sName
  split
  · exact name_small i
  · exact Nat.le_refl 1
theorem k_small (q i : Nat) : (kName q i).size ≤ 1 := by
  unfold kName
  split
  · exact name_small i
  · exact Nat.le_refl 1
theorem x_small (q n : Nat) : ∀ x ∈ evsN q n, x.s.size ≤ 65537 ∧ x.y.size ≤ 65537 := by
  intro x hx
  unfold evsN at hx
  obtain ⟨i, -, hi⟩ := List.mem_flatMap.1 hx
  have h1 := s_small q i
  have h2 := k_small q i
  have h0 : (⟨#[]⟩ : ByteArray).size = 0 := rfl
  unfold stepX at hi
  split at hi
  · split at hi
    · simp only [List.cons_append, List.nil_append, List.mem_cons, List.not_mem_nil, or_false] at hi
      rcases hi with rfl | rfl
      · exact ⟨by dsimp only; omega, by dsimp only; omega⟩
      · exact ⟨by dsimp only; omega, by dsimp only; omega⟩
    · simp only [List.nil_append, List.mem_cons, List.not_mem_nil, or_false] at hi
      subst hi
      exact ⟨by dsimp only; omega, by dsimp only; omega⟩
  · simp only [List.mem_cons, List.not_mem_nil, or_false] at hi
    rcases hi with rfl | rfl | rfl
    · exact ⟨by dsimp only; omega, by dsimp only; omega⟩
    · exact ⟨by dsimp only; omega, by dsimp only; omega⟩
    · exact ⟨by dsimp only; omega, by dsimp only; omega⟩
theorem a_small (q n : Nat) : ∀ x ∈ evsA q n, x.s.size ≤ 65537 ∧ x.y.size ≤ 65537 := by
  intro x hx
  unfold evsA at hx
  split at hx
  · rcases List.mem_append.1 hx with h | h
    · exact x_small q n x h
    · simp only [List.mem_cons, List.not_mem_nil, or_false] at h
      subst h
      exact ⟨by decide, by decide⟩
  · exact x_small q n x hx
end Go.Proofs.YtojlaphklkomfaaDoor
