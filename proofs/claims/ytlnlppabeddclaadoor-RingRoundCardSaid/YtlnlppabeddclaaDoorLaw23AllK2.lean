/- Parts. -/
import Derived.Test.YtlnlppabeddclaaDoorLaw23AllK1
set_option maxRecDepth 10000
set_option maxHeartbeats 16000000
set_option linter.unusedVariables false
set_option linter.unusedSimpArgs false
namespace Go.Proofs.YtlnlppabeddclaaDoor
theorem own : ownKnob Tryd.prog.godebug = none := by kernel_rfl
theorem laidOut : laidOutB Tryd.prog = true := by kernel_rfl
inductive Way (E : Nat → Nat → Prop) : Nat → Nat → Prop
 | one {a b} : E a b → Way E a b
 | more {a c b} : E a c → Way E c b → Way E a b

section
variable {E F : Nat → Nat → Prop}
theorem Way.trans {a c b : Nat} (h : Way E a c) (k : Way E c b) : Way E a b := by
 induction h with
 | one e => exact .more e k
 | more e _ ih => exact .more e (ih k)
theorem Way.mono {a b : Nat} (h : Way E a b) (hf : ∀ a b, E a b → F a b) : Way F a b := by
 induction h with
 | one e => exact .one (hf _ _ e)
 | more e _ ih => exact .more (hf _ _ e) ih
theorem Way.last {a b : Nat} (h : Way E a b) : ∃ c, E c b := by
 induction h with
 | one e => exact ⟨_, e⟩
 | more _ _ ih => exact ih
theorem Way.first {a b : Nat} (h : Way E a b) : ∃ c, E a c := by
 cases h with
 | one e => exact ⟨_, e⟩
 | more e _ => exact ⟨_, e⟩
end
def over (M : Nat → Nat → Bool) (k : Nat) : Nat → Nat → Bool := fun a b => M a b || (M a k && M k b)
def closed (M : Nat → Nat → Bool) : Nat → Nat → Nat → Bool
 | 0 => M
 | k + 1 => over (closed M k) k
theorem closed_sub {M : Nat → Nat → Bool} {a b : Nat} (h : M a b = true) : ∀ k, closed M k a b = true
 | 0 => h
 | k + 1 => by
  show over _ _ _ _ = true
  unfold over;rw [closed_sub h k]
  rfl
theorem closed_way {M : Nat → Nat → Bool} : ∀ (k : Nat) {a b : Nat}, closed M k a b = true → Way (fun x y => M x y = true) a b
 | 0, _, _, h => .one h
 | k + 1, a, b, h => by
  have h' : over (closed M k) k a b = true := h;unfold over at h';rw [Bool.or_eq_true, Bool.and_eq_true] at h';rcases h' with h' | ⟨h1, h2⟩
  ·exact closed_way k h'
  ·exact (closed_way k h1).trans (closed_way k h2)
theorem closed_trans {M : Nat → Nat → Bool} : ∀ (k : Nat) {a b c : Nat}, c < k → closed M k a c = true → closed M k c b = true → closed M k a b = true
 | 0, _, _, _, hc, _, _ => by omega
 | k + 1, a, b, c, hc, h1, h2 => by
  have h1' : over (closed M k) k a c = true := h1;have h2' : over (closed M k) k c b = true := h2
  show over (closed M k) k a b = true
  unfold over at h1' h2' ⊢;have ih := @closed_trans M k;generalize closed M k = W at *;simp only [Bool.or_eq_true, Bool.and_eq_true] at h1' h2' ⊢
  by_cases hk : c = k
  ·subst hk;rcases h1' with h1' | h1' <;> rcases h2' with h2' | h2'
   ·exact .inr ⟨h1', h2'⟩
   ·exact .inr ⟨h1', h2'.2⟩
   ·exact .inr ⟨h1'.1, h2'⟩
   ·exact .inr ⟨h1'.1, h2'.2⟩
  ·have hc' : c < k := by omega
   rcases h1' with h1' | h1' <;> rcases h2' with h2' | h2'
   ·exact .inl (ih hc' h1' h2')
   ·exact .inr ⟨ih hc' h1' h2'.1, h2'.2⟩
   ·exact .inr ⟨h1'.1, ih hc' h1'.2 h2'⟩
   ·exact .inr ⟨h1'.1, h2'.2⟩
theorem closed_all {M : Nat → Nat → Bool} {n : Nat} (hM : ∀ a b, M a b = true → b < n) {a b : Nat} (h : Way (fun x y => M x y = true) a b) : closed M n a b = true := by
 induction h with
 | one e => exact closed_sub e n
 | more e _ ih => exact closed_trans n (hM _ _ e) (closed_sub e n) ih
theorem closed_iff {M : Nat → Nat → Bool} {n : Nat} (hM : ∀ a b, M a b = true → b < n) {a b : Nat} : closed M n a b = true ↔ Way (fun x y => M x y = true) a b := ⟨closed_way n, closed_all hM⟩
def between (n : Nat) (W : Nat → Nat → Bool) (a b : Nat) : Nat := ((List.range n).filter fun c => W a c && W c b).length
theorem filter_lt {p q : Nat → Bool} : ∀ (l : List Nat), (∀ x ∈ l, p x = true → q x = true) → (∃ x ∈ l, p x = false ∧ q x = true) → (l.filter p).length < (l.filter q).length := by
 have le : ∀ l : List Nat, (∀ x ∈ l, p x = true → q x = true) → (l.filter p).length ≤ (l.filter q).length := by
  intro l
  induction l with
  | nil => intro _; exact Nat.le_refl _
  | cons x l ih =>
   intro h;have := ih fun y hy => h y (List.mem_cons_of_mem _ hy);have hx := h x List.mem_cons_self
   cases hp : p x <;> cases hq : q x <;> simp [List.filter_cons, hp, hq] <;> first | omega | (rw [hp] at hx; rw [hq] at hx; simp at hx)
 intro l
 induction l with
 | nil => rintro _ ⟨x, hx, _⟩; cases hx
 | cons x l ih =>
  rintro h ⟨y, hy, h1, h2⟩;have hl : ∀ z ∈ l, p z = true → q z = true := fun z hz => h z (List.mem_cons_of_mem _ hz);rcases List.mem_cons.1 hy with rfl | hy
  ·have := le l hl;simp [List.filter_cons, h1, h2];omega
  ·have := ih hl ⟨y, hy, h1, h2⟩;have hx := h x List.mem_cons_self
   cases hp : p x <;> cases hq : q x <;> simp [List.filter_cons, hp, hq] <;> first | omega | (rw [hp] at hx; rw [hq] at hx; simp at hx)
theorem way_closed {E : Nat → Nat → Prop} {m : Nat → Prop} (hc : ∀ x y, E x y → m x → m y) {c b : Nat} (h : Way E c b) : m c → m b := by
 induction h with
 | one e => exact hc _ _ e
 | more e _ ih => exact fun k => ih (hc _ _ e k)
theorem way_from {E : Nat → Nat → Prop} {m : Nat → Prop} {a : Nat} (hf : ∀ y, E a y → m y) (hc : ∀ x y, E x y → m x → m y) {b : Nat} (h : Way E a b) : m b := by
 cases h with
 | one e => exact hf _ e
 | more e h => exact way_closed hc h (hf _ e)
end Go.Proofs.YtlnlppabeddclaaDoor
