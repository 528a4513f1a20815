/- Ways from node to node. Mathematics. -/
import Derived.Test.YtlipapclbemjjaaDoorRows
set_option linter.unusedVariables false
set_option linter.unusedSimpArgs false
namespace Go.Proofs.YtlipapclbemjjaaDoor
/-- From a to b by one edge at least. -/
inductive Way (E : Nat → Nat → Prop) : Nat → Nat → Prop
 | one {a b} : E a b → Way E a b
 | more {a c b} : E a c → Way E c b → Way E a b

section
variable {E F : Nat → Nat → Prop}
theorem Way.trans {a c b : Nat} (h : Way E a c) (k : Way E c b) : Way E a b := by
 induction h with
 | one e => exact .more e k
 | more e _ ih => exact .more e (ih k)
theorem Way.mono {a b : Nat} (h : Way E a b) (hf : ∀ a b, E a b → F a b) : Way F a b := by
 induction h with
 | one e => exact .one (hf _ _ e)
 | more e _ ih => exact .more (hf _ _ e) ih
theorem Way.rev {a b : Nat} (h : Way E a b) : Way (fun x y => E y x) b a := by
 induction h with
 | one e => exact .one e
 | more e _ ih => exact ih.trans (.one e)
theorem Way.last {a b : Nat} (h : Way E a b) : ∃ c, E c b := by
 induction h with
 | one e => exact ⟨_, e⟩
 | more _ _ ih => exact ih
theorem Way.first {a b : Nat} (h : Way E a b) : ∃ c, E a c := by
 cases h with
 | one e => exact ⟨_, e⟩
 | more e _ => exact ⟨_, e⟩
end
/-- One more node that may stand between. -/
def over (M : Nat → Nat → Bool) (k : Nat) : Nat → Nat → Bool := fun a b => M a b || (M a k && M k b)
def closed (M : Nat → Nat → Bool) : Nat → Nat → Nat → Bool
 | 0 => M
 | k + 1 => over (closed M k) k
theorem closed_sub {M : Nat → Nat → Bool} {a b : Nat} (h : M a b = true) : ∀ k, closed M k a b = true
 | 0 => h
 | k + 1 => by
  show over _ _ _ _ = true
  unfold over
  rw [closed_sub h k]
  rfl
theorem closed_way {M : Nat → Nat → Bool} : ∀ (k : Nat) {a b : Nat}, closed M k a b = true → Way (fun x y => M x y = true) a b
 | 0, _, _, h => .one h
 | k + 1, a, b, h => by
  have h' : over (closed M k) k a b = true := h
  unfold over at h'
  rw [Bool.or_eq_true, Bool.and_eq_true] at h'
  rcases h' with h' | ⟨h1, h2⟩
  ·exact closed_way k h'
  ·exact (closed_way k h1).trans (closed_way k h2)
theorem closed_trans {M : Nat → Nat → Bool} : ∀ (k : Nat) {a b c : Nat}, c < k → closed M k a c = true → closed M k c b = true → closed M k a b = true
 | 0, _, _, _, hc, _, _ => by omega
 | k + 1, a, b, c, hc, h1, h2 => by
  have h1' : over (closed M k) k a c = true := h1
  have h2' : over (closed M k) k c b = true := h2
  show over (closed M k) k a b = true
  unfold over at h1' h2' ⊢
  have ih := @closed_trans M k
  generalize closed M k = W at *
  simp only [Bool.or_eq_true, Bool.and_eq_true] at h1' h2' ⊢
  by_cases hk : c = k
  ·subst hk
   rcases h1' with h1' | h1' <;> rcases h2' with h2' | h2'
   ·exact .inr ⟨h1', h2'⟩
   ·exact .inr ⟨h1', h2'.2⟩
   ·exact .inr ⟨h1'.1, h2'⟩
   ·exact .inr ⟨h1'.1, h2'.2⟩
  ·have hc' : c < k := by omega
   rcases h1' with h1' | h1' <;> rcases h2' with h2' | h2'
   ·exact .inl (ih hc' h1' h2')
   ·exact .inr ⟨ih hc' h1' h2'.1, h2'.2⟩
   ·exact .inr ⟨h1'.1, ih hc' h1'.2 h2'⟩
   ·exact .inr ⟨h1'.1, h2'.2⟩
theorem closed_all {M : Nat → Nat → Bool} {n : Nat} (hM : ∀ a b, M a b = true → b < n) {a b : Nat} (h : Way (fun x y => M x y = true) a b) : closed M n a b = true := by
 induction h with
 | one e => exact closed_sub e n
 | more e _ ih => exact closed_trans n (hM _ _ e) (closed_sub e n) ih
theorem closed_iff {M : Nat → Nat → Bool} {n : Nat} (hM : ∀ a b, M a b = true → b < n) {a b : Nat} : closed M n a b = true ↔ Way (fun x y => M x y = true) a b := ⟨closed_way n, closed_all hM⟩
/-- An edge stands for itself alone where nothing goes round. -/
theorem way_but {E : Nat → Nat → Prop} {A B : Nat} {c d : Nat} (h : Way E c d) : Way (fun x y => E x y ∧ ¬ (x = A ∧ y = B)) c d ∨ c = A ∨ Way E c A := by
 induction h with
 | @one a b e =>
  by_cases hx : a = A ∧ b = B
  ·exact .inr (.inl hx.1)
  ·exact .inl (.one ⟨e, hx⟩)
 | @more a x b e _ ih =>
  by_cases hx : a = A ∧ x = B
  ·exact .inr (.inl hx.1)
  ·rcases ih with h1 | h1 | h1
   ·exact .inl (.more ⟨e, hx⟩ h1)
   ·subst h1
    exact .inr (.inr (.one e))
   ·exact .inr (.inr (.more e h1))
theorem thin_iff {E : Nat → Nat → Prop} (hr : ∀ a, ¬ Way E a a) {A B : Nat} (hAB : E A B) : Way (fun x y => E x y ∧ ¬ (x = A ∧ y = B)) A B ↔ ∃ c, E A c ∧ Way E c B := by
 constructor
 ·intro h
  cases h with
  | one e => exact absurd ⟨rfl, rfl⟩ e.2
  | more e h => exact ⟨_, e.1, h.mono fun _ _ k => k.1⟩
 ·rintro ⟨c, h1, h2⟩
  have hc : ¬ (A = A ∧ c = B) := fun h => by
   rw [h.2] at h2
   exact hr _ h2
  rcases way_but (A := A) (B := B) h2 with h3 | h3 | h3
  ·exact .more ⟨h1, hc⟩ h3
  ·subst h3
   exact absurd (Way.one h1) (hr _)
  ·exact absurd (Way.more h1 h3) (hr _)
/-- How many stand between. -/
def between (n : Nat) (W : Nat → Nat → Bool) (a b : Nat) : Nat := ((List.range n).filter fun c => W a c && W c b).length
theorem way_closed {E : Nat → Nat → Prop} {m : Nat → Prop} (hc : ∀ x y, E x y → m x → m y) {c b : Nat} (h : Way E c b) : m c → m b := by
 induction h with
 | one e => exact hc _ _ e
 | more e _ ih => exact fun k => ih (hc _ _ e k)
theorem way_from {E : Nat → Nat → Prop} {m : Nat → Prop} {a : Nat} (hf : ∀ y, E a y → m y) (hc : ∀ x y, E x y → m x → m y) {b : Nat} (h : Way E a b) : m b := by
 cases h with
 | one e => exact hf _ e
 | more e h => exact way_closed hc h (hf _ e)
end Go.Proofs.YtlipapclbemjjaaDoor
