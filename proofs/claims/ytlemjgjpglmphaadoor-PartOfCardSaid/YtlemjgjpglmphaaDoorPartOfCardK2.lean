/- Parts. -/
import Derived.Test.YtlemjgjpglmphaaDoorPartOfCardK1
set_option maxRecDepth 10000
set_option maxHeartbeats 16000000
set_option linter.unusedVariables false
set_option linter.unusedSimpArgs false
namespace Go.Proofs.YtlemjgjpglmphaaDoor
theorem own : ownKnob Tryd.prog.godebug = none := by kernel_rfl
theorem laidOut : laidOutB Tryd.prog = true := by kernel_rfl
inductive Way (E : Nat → Nat → Prop) : Nat → Nat → Prop
 | one {a b} : E a b → Way E a b
 | more {a c b} : E a c → Way E c b → Way E a b

section
variable {E F : Nat → Nat → Prop}
theorem Way.trans {a c b : Nat} (h : Way E a c) (k : Way E c b) : Way E a b := by
 induction h with
 | one e => exact .more e k
 | more e _ ih => exact .more e (ih k)
theorem Way.mono {a b : Nat} (h : Way E a b) (hf : ∀ a b, E a b → F a b) : Way F a b := by
 induction h with
 | one e => exact .one (hf _ _ e)
 | more e _ ih => exact .more (hf _ _ e) ih
theorem Way.rev {a b : Nat} (h : Way E a b) : Way (fun x y => E y x) b a := by
 induction h with
 | one e => exact .one e
 | more e _ ih => exact ih.trans (.one e)
theorem Way.last {a b : Nat} (h : Way E a b) : ∃ c, E c b := by
 induction h with
 | one e => exact ⟨_, e⟩
 | more _ _ ih => exact ih
theorem Way.first {a b : Nat} (h : Way E a b) : ∃ c, E a c := by
 cases h with
 | one e => exact ⟨_, e⟩
 | more e _ => exact ⟨_, e⟩
end
def over (M : Nat → Nat → Bool) (k : Nat) : Nat → Nat → Bool := fun a b => M a b || (M a k && M k b)
def closed (M : Nat → Nat → Bool) : Nat → Nat → Nat → Bool
 | 0 => M
 | k + 1 => over (closed M k) k
theorem closed_sub {M : Nat → Nat → Bool} {a b : Nat} (h : M a b = true) : ∀ k, closed M k a b = true
 | 0 => h
 | k + 1 => by
  show over _ _ _ _ = true
  unfold over;rw [closed_sub h k]
  rfl
theorem closed_way {M : Nat → Nat → Bool} : ∀ (k : Nat) {a b : Nat}, closed M k a b = true → Way (fun x y => M x y = true) a b
 | 0, _, _, h => .one h
 | k + 1, a, b, h => by
  have h' : over (closed M k) k a b = true := h;unfold over at h';rw [Bool.or_eq_true, Bool.and_eq_true] at h';rcases h' with h' | ⟨h1, h2⟩
  ·exact closed_way k h'
  ·exact (closed_way k h1).trans (closed_way k h2)
theorem closed_trans {M : Nat → Nat → Bool} : ∀ (k : Nat) {a b c : Nat}, c < k → closed M k a c = true → closed M k c b = true → closed M k a b = true
 | 0, _, _, _, hc, _, _ => by omega
 | k + 1, a, b, c, hc, h1, h2 => by
  have h1' : over (closed M k) k a c = true := h1;have h2' : over (closed M k) k c b = true := h2
  show over (closed M k) k a b = true
  unfold over at h1' h2' ⊢;have ih := @closed_trans M k;generalize closed M k = W at *;simp only [Bool.or_eq_true, Bool.and_eq_true] at h1' h2' ⊢
  by_cases hk : c = k
  ·subst hk;rcases h1' with h1' | h1' <;> rcases h2' with h2' | h2'
   ·exact .inr ⟨h1', h2'⟩
   ·exact .inr ⟨h1', h2'.2⟩
   ·exact .inr ⟨h1'.1, h2'⟩
   ·exact .inr ⟨h1'.1, h2'.2⟩
  ·have hc' : c < k := by omega
   rcases h1' with h1' | h1' <;> rcases h2' with h2' | h2'
   ·exact .inl (ih hc' h1' h2')
   ·exact .inr ⟨ih hc' h1' h2'.1, h2'.2⟩
   ·exact .inr ⟨h1'.1, ih hc' h1'.2 h2'⟩
   ·exact .inr ⟨h1'.1, h2'.2⟩
theorem closed_all {M : Nat → Nat → Bool} {n : Nat} (hM : ∀ a b, M a b = true → b < n) {a b : Nat} (h : Way (fun x y => M x y = true) a b) : closed M n a b = true := by
 induction h with
 | one e => exact closed_sub e n
 | more e _ ih => exact closed_trans n (hM _ _ e) (closed_sub e n) ih
theorem closed_iff {M : Nat → Nat → Bool} {n : Nat} (hM : ∀ a b, M a b = true → b < n) {a b : Nat} : closed M n a b = true ↔ Way (fun x y => M x y = true) a b := ⟨closed_way n, closed_all hM⟩
def between (n : Nat) (W : Nat → Nat → Bool) (a b : Nat) : Nat := ((List.range n).filter fun c => W a c && W c b).length
theorem way_closed {E : Nat → Nat → Prop} {m : Nat → Prop} (hc : ∀ x y, E x y → m x → m y) {c b : Nat} (h : Way E c b) : m c → m b := by
 induction h with
 | one e => exact hc _ _ e
 | more e _ ih => exact fun k => ih (hc _ _ e k)
theorem way_from {E : Nat → Nat → Prop} {m : Nat → Prop} {a : Nat} (hf : ∀ y, E a y → m y) (hc : ∀ x y, E x y → m x → m y) {b : Nat} (h : Way E a b) : m b := by
 cases h with
 | one e => exact hf _ e
 | more e h => exact way_closed hc h (hf _ e)
end Go.Proofs.YtlemjgjpglmphaaDoor
