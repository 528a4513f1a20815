/- What is found, what is still to be looked at. Mathematics. -/
import Derived.Test.YtlipapclbemjjaaDoorCloseOfCardK33
import Derived.Test.YtlipapclbemjjaaDoorCloseOfCardK31
import Derived.Test.YtlipapclbemjjaaDoorCloseOfCardK44
set_option linter.unusedVariables false
set_option linter.unusedSimpArgs false
namespace Go.Proofs.YtlipapclbemjjaaDoor
open Go.RowKit
structure BfsK (n : Nat) (l : List (Int × Int)) (a : Nat) (K T : List Int) : Prop where
 mr : MarkR n l a K
 tod : ∀ x ∈ T, ∃ q : Nat, x = (q : Int) ∧ q < n ∧ (q = a ∨ x ∈ K)
 don : ∀ x : Nat, (x = a ∨ (x : Int) ∈ K) → (x : Int) ∈ T ∨ ∀ y : Nat, edR l x y → (y : Int) ∈ K
 len : T.length + leftK n K ≤ n + 1
structure BfsJ (n : Nat) (l : List (Int × Int)) (a x : Nat) (N : List Int) (K T : List Int) (j : Nat) : Prop where
 mr : MarkR n l a K
 tod : ∀ x ∈ T, ∃ q : Nat, x = (q : Int) ∧ q < n ∧ (q = a ∨ x ∈ K)
 don : ∀ z : Nat, (z = a ∨ (z : Int) ∈ K) → (z : Int) ∈ T ∨ z = x ∨ ∀ y : Nat, edR l z y → (y : Int) ∈ K
 got : ∀ y ∈ N.take j, y ∈ K
 len : T.length + leftK n K ≤ n
section
variable {n : Nat} {l : List (Int × Int)} {a x : Nat} {N K T : List Int} {j : Nat}
theorem BfsK.start (ha : a < n) : BfsK n l a [] [(a : Int)] :=
  ⟨⟨fun x hx => by cases hx⟩, fun x hx => by simp at hx; exact ⟨a, hx, ha, .inl rfl⟩, fun x hx => .inl (by rcases hx with rfl | hx; · simp
                                                                                                           · cases hx), by have := leftK_le n []; simp; omega⟩
theorem BfsK.end_ (h : BfsK n l a K []) : ClosedK l a K := by
 have h1 : ∀ x : Nat, (x = a ∨ (x : Int) ∈ K) → ∀ y : Nat, edR l x y → (y : Int) ∈ K := fun x hx => (h.don x hx).resolve_left (by simp)
 exact ⟨h1 a (.inl rfl), fun x y e hx => h1 x (.inr hx) y e⟩
theorem BfsK.pop (h : BfsK n l a K ((x : Int) :: T)) : BfsJ n l a x N K T 0 ∧ x < n ∧ (x = a ∨ (x : Int) ∈ K) := by
 obtain ⟨q, hq, hqn, hqa⟩ := h.tod (x : Int) List.mem_cons_self
 obtain rfl : x = q := by omega
 refine ⟨⟨h.mr, fun y hy => h.tod y (List.mem_cons_of_mem _ hy), fun z hz => ?_, fun y hy => by simp at hy, ?_⟩, hqn, hqa⟩
 ·rcases h.don z hz with h1 | h1
  ·rcases List.mem_cons.1 h1 with h2 | h2
   ·exact .inr (.inl (by omega))
   ·exact .inl h2
  ·exact .inr (.inr h1)
 ·have := h.len
  simp only [List.length_cons] at this
  omega
theorem BfsJ.skip {y : Int} (h : BfsJ n l a x N K T j) (hj : N[j]? = some y) (hy : y ∈ K) : BfsJ n l a x N K T (j + 1) :=
 ⟨h.mr, h.tod, h.don, fun z hz => by
  rw [List.take_add_one, hj] at hz
  rcases List.mem_append.1 hz with h1 | h1
  ·exact h.got z h1
  ·simp at h1; rw [h1]; exact hy, h.len⟩
theorem BfsJ.add {y : Nat} (w : WfE n l) (h : BfsJ n l a x N K T j) (hj : N[j]? = some (y : Int)) (hx : x = a ∨ (x : Int) ∈ K) (e : edR l x y) (hy : (y : Int) ∉ K) : BfsJ n l a x N (K ++ [(y : Int)]) (T ++ [(y : Int)]) (j + 1) := by
 have hyn := (wf_lt w e).2
 refine ⟨mark_snoc w h.mr e hx, fun z hz => ?_, fun z hz => ?_, fun z hz => ?_, ?_⟩
 ·rcases List.mem_append.1 hz with h1 | h1
  ·obtain ⟨q, h2, h3, h4⟩ := h.tod z h1
   exact ⟨q, h2, h3, h4.imp id (List.mem_append_left _)⟩
  ·simp at h1
   exact ⟨y, h1, hyn, .inr (by rw [h1]; simp)⟩
 ·have hc : (z = a ∨ (z : Int) ∈ K) ∨ z = y := by
   rcases hz with h1 | h1
   ·exact .inl (.inl h1)
   ·rcases List.mem_append.1 h1 with h2 | h2
    ·exact .inl (.inr h2)
    ·simp at h2
     exact .inr (by omega)
  rcases hc with h1 | rfl
  ·rcases h.don z h1 with h2 | h2 | h2
   ·exact .inl (List.mem_append_left _ h2)
   ·exact .inr (.inl h2)
   ·exact .inr (.inr fun u hu => List.mem_append_left _ (h2 u hu))
  ·exact .inl (by simp)
 ·rw [List.take_add_one, hj] at hz
  rcases List.mem_append.1 hz with h1 | h1
  ·exact List.mem_append_left _ (h.got z h1)
  ·simp at h1; rw [h1]; simp
 ·have h1 := h.len
  have h2 := leftK_snoc hyn hy
  simp only [List.length_append, List.length_cons, List.length_nil]
  omega
theorem BfsJ.end_ (h : BfsJ n l a x N K T N.length) (hN : ∀ m : Nat, decide ((m : Int) ∈ N) = edB l x m) : BfsK n l a K T := by
 refine ⟨h.mr, h.tod, fun z hz => ?_, by have := h.len; omega⟩
 rcases h.don z hz with h1 | rfl | h1
 ·exact .inl h1
 ·refine .inr fun y hy => h.got (y : Int) ?_
  rw [List.take_length]
  have := hN y
  rw [(ed_iff l z y).2 hy] at this
  simpa using this
 ·exact .inr h1
end
theorem makeW_snoc (K : List Int) (y : Int) : makeW (K ++ [y]) = putW (makeW K) y := by unfold makeW; rw [List.foldl_append]; rfl
/-- All that is found, rising. -/
theorem found_all {n : Nat} {l : List (Int × Int)} {a : Nat} {K : List Int} (hn : n ≤ 500) (w : WfE n l) (h : BfsK n l a K []) : allW (makeW K) = reachL n l a := by
 have hr : ∀ z ∈ K, 0 ≤ z ∧ z < 500 := fun z hz => by
  obtain ⟨q, rfl, hq, -⟩ := h.mr.way z hz
  omega
 obtain ⟨h1, h2⟩ := make_fits K hr
 have hb : ∀ m, bitW (makeW K) m = decide ((m : Int) ∈ K) := fun m => by
  rcases Nat.lt_or_ge m 512 with h3 | h3
  ·exact h2 m h3
  ·rw [bit_high h1 h3]
   symm
   refine decide_eq_false fun hm => ?_
   have := hr _ hm
   omega
 rw [allW_filter, range_filter n (by omega) (bitW (makeW K)) (fun m hm => by
  rw [hb]
  refine decide_eq_false fun hk => ?_
  obtain ⟨q, hq, hqn, -⟩ := h.mr.way _ hk
  omega)]
 unfold reachL
 rw [← mark_all w h.mr h.end_]
 congr 1
 exact List.filter_congr fun m _ => hb m
end Go.Proofs.YtlipapclbemjjaaDoor
