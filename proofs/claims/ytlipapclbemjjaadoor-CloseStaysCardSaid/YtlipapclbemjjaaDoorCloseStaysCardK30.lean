/- Ways from node to node. Mathematics. -/
import Derived.Test.YtlipapclbemjjaaDoorRows
set_option linter.unusedVariables false
set_option linter.unusedSimpArgs false
namespace Go.Proofs.YtlipapclbemjjaaDoor
/-- From a to b by one edge at least. -/
inductive Way (E : Nat → Nat → Prop) : Nat → Nat → Prop
 | one {a b} : E a b → Way E a b
 | more {a c b} : E a c → Way E c b → Way E a b

section
variable {E F : Nat → Nat → Prop}
theorem Way.trans {a c b : Nat} (h : Way E a c) (k : Way E c b) : Way E a b := by
 induction h with
 | one e => exact .more e k
 | more e _ ih => exact .more e (ih k)
theorem Way.mono {a b : Nat} (h : Way E a b) (hf : ∀ a b, E a b → F a b) : Way F a b := by
 induction h with
 | one e => exact .one (hf _ _ e)
 | more e _ ih => exact .more (hf _ _ e) ih
theorem Way.flat {a b : Nat} (h : Way E a b) (hf : ∀ a b, E a b → Way F a b) : Way F a b := by
 induction h with
 | one e => exact hf _ _ e
 | more e _ ih => exact (hf _ _ e).trans ih
theorem Way.rev {a b : Nat} (h : Way E a b) : Way (fun x y => E y x) b a := by
 induction h with
 | one e => exact .one e
 | more e _ ih => exact ih.trans (.one e)
theorem Way.last {a b : Nat} (h : Way E a b) : ∃ c, E c b := by
 induction h with
 | one e => exact ⟨_, e⟩
 | more _ _ ih => exact ih
theorem Way.first {a b : Nat} (h : Way E a b) : ∃ c, E a c := by
 cases h with
 | one e => exact ⟨_, e⟩
 | more e _ => exact ⟨_, e⟩
end
/-- One more node that may stand between. -/
def over (M : Nat → Nat → Bool) (k : Nat) : Nat → Nat → Bool := fun a b => M a b || (M a k && M k b)
def closed (M : Nat → Nat → Bool) : Nat → Nat → Nat → Bool
 | 0 => M
 | k + 1 => over (closed M k) k
theorem closed_sub {M : Nat → Nat → Bool} {a b : Nat} (h : M a b = true) : ∀ k, closed M k a b = true
 | 0 => h
 | k + 1 => by
  show over _ _ _ _ = true
  unfold over
  rw [closed_sub h k]
  rfl
theorem closed_way {M : Nat → Nat → Bool} : ∀ (k : Nat) {a b : Nat}, closed M k a b = true → Way (fun x y => M x y = true) a b
 | 0, _, _, h => .one h
 | k + 1, a, b, h => by
  have h' : over (closed M k) k a b = true := h
  unfold over at h'
  rw [Bool.or_eq_true, Bool.and_eq_true] at h'
  rcases h' with h' | ⟨h1, h2⟩
  ·exact closed_way k h'
  ·exact (closed_way k h1).trans (closed_way k h2)
theorem closed_trans {M : Nat → Nat → Bool} : ∀ (k : Nat) {a b c : Nat}, c < k → closed M k a c = true → closed M k c b = true → closed M k a b = true
 | 0, _, _, _, hc, _, _ => by omega
 | k + 1, a, b, c, hc, h1, h2 => by
  have h1' : over (closed M k) k a c = true := h1
  have h2' : over (closed M k) k c b = true := h2
  show over (closed M k) k a b = true
  unfold over at h1' h2' ⊢
  have ih := @closed_trans M k
  generalize closed M k = W at *
  simp only [Bool.or_eq_true, Bool.and_eq_true] at h1' h2' ⊢
  by_cases hk : c = k
  ·subst hk
   rcases h1' with h1' | h1' <;> rcases h2' with h2' | h2'
   ·exact .inr ⟨h1', h2'⟩
   ·exact .inr ⟨h1', h2'.2⟩
   ·exact .inr ⟨h1'.1, h2'⟩
   ·exact .inr ⟨h1'.1, h2'.2⟩
  ·have hc' : c < k := by omega
   rcases h1' with h1' | h1' <;> rcases h2' with h2' | h2'
   ·exact .inl (ih hc' h1' h2')
   ·exact .inr ⟨ih hc' h1' h2'.1, h2'.2⟩
   ·exact .inr ⟨h1'.1, ih hc' h1'.2 h2'⟩
   ·exact .inr ⟨h1'.1, h2'.2⟩
theorem closed_all {M : Nat → Nat → Bool} {n : Nat} (hM : ∀ a b, M a b = true → b < n) {a b : Nat} (h : Way (fun x y => M x y = true) a b) : closed M n a b = true := by
 induction h with
 | one e => exact closed_sub e n
 | more e _ ih => exact closed_trans n (hM _ _ e) (closed_sub e n) ih
theorem closed_iff {M : Nat → Nat → Bool} {n : Nat} (hM : ∀ a b, M a b = true → b < n) {a b : Nat} : closed M n a b = true ↔ Way (fun x y => M x y = true) a b := ⟨closed_way n, closed_all hM⟩
/-- How many stand between. -/
def between (n : Nat) (W : Nat → Nat → Bool) (a b : Nat) : Nat := ((List.range n).filter fun c => W a c && W c b).length
theorem filter_lt {p q : Nat → Bool} : ∀ (l : List Nat), (∀ x ∈ l, p x = true → q x = true) → (∃ x ∈ l, p x = false ∧ q x = true) → (l.filter p).length < (l.filter q).length := by
 have le : ∀ l : List Nat, (∀ x ∈ l, p x = true → q x = true) → (l.filter p).length ≤ (l.filter q).length := by
  intro l
  induction l with
  | nil => intro _; exact Nat.le_refl _
  | cons x l ih =>
   intro h
   have := ih fun y hy => h y (List.mem_cons_of_mem _ hy)
   have hx := h x List.mem_cons_self
   cases hp : p x <;> cases hq : q x <;> simp [List.filter_cons, hp, hq] <;> first | omega | (rw [hp] at hx; rw [hq] at hx; simp at hx)
 intro l
 induction l with
 | nil => rintro _ ⟨x, hx, _⟩; cases hx
 | cons x l ih =>
  rintro h ⟨y, hy, h1, h2⟩
  have hl : ∀ z ∈ l, p z = true → q z = true := fun z hz => h z (List.mem_cons_of_mem _ hz)
  rcases List.mem_cons.1 hy with rfl | hy
  ·have := le l hl
   simp [List.filter_cons, h1, h2]
   omega
  ·have := ih hl ⟨y, hy, h1, h2⟩
   have hx := h x List.mem_cons_self
   cases hp : p x <;> cases hq : q x <;> simp [List.filter_cons, hp, hq] <;> first | omega | (rw [hp] at hx; rw [hq] at hx; simp at hx)
/-- What is thin has the same ways. -/
theorem thin_ways {n : Nat} {E T : Nat → Nat → Prop} (hE : ∀ a b, E a b → a < n ∧ b < n) (hr : ∀ a, ¬ Way E a a) (hT : ∀ a b, E a b → (¬ ∃ c, E a c ∧ Way E c b) → T a b) (W : Nat → Nat → Bool) (hW : ∀ a b, W a b = true ↔ Way E a b) :
  ∀ (m : Nat) {a b : Nat}, E a b → between n W a b ≤ m → Way T a b := by
 have step : ∀ (m : Nat), (∀ {a b : Nat}, E a b → between n W a b < m → Way T a b) → ∀ {a b : Nat}, E a b → between n W a b ≤ m → Way T a b := by
  intro m ih a b hab hm
  by_cases hc : ∃ c, E a c ∧ Way E c b
  ·obtain ⟨c, h1, h2⟩ := hc
   have hca : between n W a c < between n W a b := by
    refine filter_lt _ (fun x _ hx => ?_) ⟨c, List.mem_range.2 (hE _ _ h1).2, ?_, ?_⟩
    ·rw [Bool.and_eq_true, hW, hW] at hx ⊢
     exact ⟨hx.1, hx.2.trans h2⟩
    ·cases hcc : (W a c && W c c)
     ·rfl
     ·rw [Bool.and_eq_true, hW, hW] at hcc
      exact absurd hcc.2 (hr _)
    ·rw [Bool.and_eq_true, hW, hW]
     exact ⟨.one h1, h2⟩
   have key : ∀ {c d : Nat}, Way E c d → Way E a c → (d = b ∨ Way E d b) → Way T c d := by
    intro c d hcd
    induction hcd with
    | @one x y e =>
     intro hax hyb
     refine ih e (Nat.lt_of_lt_of_le (filter_lt _ (fun z _ hz => ?_) ⟨x, List.mem_range.2 (hE _ _ e).1, ?_, ?_⟩) hm)
     ·rw [Bool.and_eq_true, hW, hW] at hz ⊢
      refine ⟨hax.trans hz.1, ?_⟩
      rcases hyb with rfl | hyb
      ·exact hz.2
      ·exact hz.2.trans hyb
     ·cases hcc : (W x x && W x y)
      ·rfl
      ·rw [Bool.and_eq_true, hW, hW] at hcc
       exact absurd hcc.1 (hr _)
     ·rw [Bool.and_eq_true, hW, hW]
      refine ⟨hax, ?_⟩
      rcases hyb with rfl | hyb
      ·exact .one e
      ·exact .more e hyb
    | @more x z y e hzy ih2 =>
     intro hax hyb
     have hzb : Way E z b := by
      rcases hyb with rfl | hyb
      ·exact hzy
      ·exact hzy.trans hyb
     have h3 : Way T x z := by
      refine ih e (Nat.lt_of_lt_of_le (filter_lt _ (fun u _ hu => ?_) ⟨x, List.mem_range.2 (hE _ _ e).1, ?_, ?_⟩) hm)
      ·rw [Bool.and_eq_true, hW, hW] at hu ⊢
       exact ⟨hax.trans hu.1, hu.2.trans hzb⟩
      ·cases hcc : (W x x && W x z)
       ·rfl
       ·rw [Bool.and_eq_true, hW, hW] at hcc
        exact absurd hcc.1 (hr _)
      ·rw [Bool.and_eq_true, hW, hW]
       exact ⟨hax, .more e hzb⟩
     exact h3.trans (ih2 (hax.trans (.one e)) hyb)
   exact (ih h1 (by omega)).trans (key h2 (.one h1) (.inl rfl))
  ·exact .one (hT a b hab hc)
 intro m
 induction m with
 | zero => exact step 0 (fun _ h => by omega)
 | succ m ih => exact step (m + 1) (fun e h => ih e (by omega))
end Go.Proofs.YtlipapclbemjjaaDoor
