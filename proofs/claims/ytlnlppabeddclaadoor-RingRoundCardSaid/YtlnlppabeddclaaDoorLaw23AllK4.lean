/- Parts. -/
import Derived.Test.YtlnlppabeddclaaDoorLaw23AllK3
set_option maxRecDepth 10000
set_option maxHeartbeats 16000000
set_option linter.unusedVariables false
set_option linter.unusedSimpArgs false
namespace Go.Proofs.YtlnlppabeddclaaDoor
structure BfF (E : Nat → Nat → Bool) (n a : Nat) (D : Nat → Int) (q : List Nat) : Prop where
 self : D a = 0
 yes : ∀ (v k : Nat), D v = (k : Int) → Stp E a k v
 neg : ∀ v, D v = -1 ∨ 0 ≤ D v
 lt : ∀ v, 0 ≤ D v → v < n
 tod : ∀ x ∈ q, 0 ≤ D x
 sorted : q.Pairwise fun x y => D x ≤ D y
 don : ∀ u, 0 ≤ D u → u ∉ q → ∀ v, E v u = true → a ≤ v → 0 ≤ D v ∧ D v ≤ D u + 1
 top : ∀ x r, q = x :: r → ∀ v, D v ≤ D x + 1
section
variable {E : Nat → Nat → Bool} {n a x v : Nat} {D : Nat → Int} {q r N : List Nat} {j : Nat}
theorem BfF.start (ha : a < n) : BfF E n a (fun u => if u = a then 0 else -1) [a] where
 self := by simp
 yes := fun v k h => by
  split at h
  ·rename_i e
   obtain rfl : k = 0 := by omega
   rw [e]; exact .zero
  ·omega
 neg := fun v => by split <;> simp
 lt := fun v h => by
  split at h
  ·rename_i e; rw [e]; exact ha
  ·omega
 tod := fun x hx => by rw [List.mem_singleton.1 hx]; simp
 sorted := List.pairwise_singleton _ _
 don := fun u h hu => by
  split at h
  ·rename_i e; exact absurd (by simp [e]) hu
  ·omega
 top := fun x r h v => by
  cases h
  simp
  split <;> omega
structure BfI (E : Nat → Nat → Bool) (n a : Nat) (D : Nat → Int) (x : Nat) (r N : List Nat) (j : Nat) : Prop where
 all : BfF E n a D (x :: r)
 got : ∀ v ∈ N.take j, a ≤ v → 0 ≤ D v ∧ D v ≤ D x + 1
theorem BfF.open_ (h : BfF E n a D (x :: r)) : BfI E n a D x r N 0 := ⟨h, fun v hv => by simp at hv⟩
theorem BfI.skip (h : BfI E n a D x r N j) (hv : N[j]? = some v) (hc : ¬ (a ≤ v ∧ D v < 0)) : BfI E n a D x r N (j + 1) := ⟨h.all, fun u hu hau => by
 rw [List.take_add_one, hv] at hu;rcases List.mem_append.1 hu with h1 | h1
 ·exact h.got u h1 hau
 ·have : u = v := by simpa using h1
  subst this;have := h.all.top x r rfl u;rcases h.all.neg u with h2 | h2
  ·exact absurd ⟨hau, by omega⟩ hc
  ·exact ⟨h2, this⟩⟩
theorem BfI.add (h : BfI E n a D x r N j) (hv : N[j]? = some v) (hE : E v x = true) (hvn : v < n) (hav : a ≤ v) (hneg : D v < 0) :
  BfI E n a (fun u => if u = v then D x + 1 else D u) x (r ++ [v]) N (j + 1) := by
 have hx0 := h.all.tod x List.mem_cons_self;have hxv : x ≠ v := fun e => by rw [e] at hx0; omega
 have hav2 : a ≠ v := fun e => by have := h.all.self; rw [e] at this; omega
 have hold : ∀ u, 0 ≤ D u → (if u = v then D x + 1 else D u) = D u := fun u hu => if_neg fun e => by rw [e] at hu; omega
 have htop := h.all.top x r rfl;refine ⟨{ self := ?_, yes := ?_, neg := ?_, lt := ?_, tod := ?_, sorted := ?_, don := ?_, top := ?_ }, ?_⟩
 ·rw [if_neg hav2]; exact h.all.self
 ·intro u k hk
  split at hk
  ·rename_i e
   subst e;obtain ⟨i, hi⟩ : ∃ i : Nat, D x = (i : Int) := ⟨(D x).toNat, by omega⟩;obtain rfl : k = i + 1 := by omega
   exact .succ hE hav (h.all.yes x i hi)
  ·exact h.all.yes u k hk
 ·intro u
  split
  ·exact .inr (by omega)
  ·exact h.all.neg u
 ·intro u hu
  split at hu
  ·rename_i e; rw [e]; exact hvn
  ·exact h.all.lt u hu
 ·intro u hu;rw [← List.cons_append] at hu;rcases List.mem_append.1 hu with h1 | h1
  ·rw [hold u (h.all.tod u h1)]; exact h.all.tod u h1
  ·rw [List.mem_singleton.1 h1, if_pos rfl]; omega
 ·rw [← List.cons_append, List.pairwise_append];refine ⟨h.all.sorted.imp_of_mem fun {y z} hy hz hyz => ?_, List.pairwise_singleton _ _, fun y hy z hz => ?_⟩
  ·rw [hold y (h.all.tod y hy), hold z (h.all.tod z hz)]; exact hyz
  ·rw [List.mem_singleton.1 hz];rw [hold y (h.all.tod y hy), if_pos rfl];exact htop y
 ·intro u hu hq z hz haz;rw [← List.cons_append] at hq;have huv : u ≠ v := fun e => hq (List.mem_append_right _ (by simp [e]));rw [if_neg huv] at hu ⊢;obtain ⟨h1, h2⟩ := h.all.don u hu (fun hm => hq (List.mem_append_left _ hm)) z hz haz;rw [hold z h1];exact ⟨h1, h2⟩
 ·intro y s hy z;rw [List.cons.injEq] at hy;obtain ⟨rfl, -⟩ := hy;rw [if_neg hxv]
  split
  ·exact Int.le_refl _
  ·exact htop z
 ·intro u hu hau;rw [List.take_add_one, hv] at hu;rw [if_neg hxv];rcases List.mem_append.1 hu with h1 | h1
  ·obtain ⟨h2, h3⟩ := h.got u h1 hau;rw [hold u h2];exact ⟨h2, h3⟩
  ·have : u = v := by simpa using h1
   rw [if_pos this];omega
theorem BfI.end_ (h : BfI E n a D x r N N.length) (hN : ∀ v, E v x = true → v ∈ N) : BfF E n a D r where
 self := h.all.self
 yes := h.all.yes
 neg := h.all.neg
 lt := h.all.lt
 tod := fun y hy => h.all.tod y (List.mem_cons_of_mem _ hy)
 sorted := (List.pairwise_cons.1 h.all.sorted).2
 don := fun u hu hq v hv hav => by
  by_cases hux : u = x
  ·rw [hux] at hv ⊢;exact h.got v (by rw [List.take_length]; exact hN v hv) hav
  ·exact h.all.don u hu (fun hm => by
    rcases List.mem_cons.1 hm with h1 | h1
    ·exact hux h1
    ·exact hq h1) v hv hav
 top := fun y s hy v => by
  have h1 := h.all.top x r rfl v;have h2 := (List.pairwise_cons.1 h.all.sorted).1 y (by rw [hy]; simp);omega
theorem BfF.far (h : BfF E n a D []) : FarK E a D where
 yes := h.yes
 least := fun v j hs => by
  induction hs with
  | zero => exact ⟨0, Nat.le_refl _, by simpa using h.self⟩
  | @succ k v u he hav hu ih =>
   obtain ⟨i, hi, e⟩ := ih;obtain ⟨h1, h2⟩ := h.don u (by omega) (by simp) v he hav;exact ⟨(D v).toNat, by omega, by omega⟩
def unkF (n : Nat) (D : Nat → Int) : Nat := ((List.range n).filter fun u => decide (D u < 0)).length
theorem unkF_add {k : Int} (hv : v < n) (hneg : D v < 0) (hk : 0 ≤ k) : unkF n (fun u => if u = v then k else D u) + 1 = unkF n D := by
 unfold unkF
 induction n with
 | zero => omega
 | succ n ih =>
  rw [List.range_succ, List.filter_append, List.filter_append, List.length_append, List.length_append];rcases Nat.lt_or_ge v n with h1 | h1
  ·rw [← ih h1];have hnv : n ≠ v := by omega
   have e2 : ([n].filter fun u => decide ((if u = v then k else D u) < 0)) = [n].filter fun u => decide (D u < 0) := List.filter_congr fun u hu => by rw [List.mem_singleton.1 hu, if_neg hnv]
   rw [e2];omega
  ·obtain rfl : v = n := by omega
   have e : (List.range v).filter (fun u => decide ((if u = v then k else D u) < 0)) = (List.range v).filter fun u => decide (D u < 0) := List.filter_congr fun u hu => by
    have := List.mem_range.1 hu;rw [if_neg (by omega)]
   rw [e];simp [hneg];omega
end
end Go.Proofs.YtlnlppabeddclaaDoor
