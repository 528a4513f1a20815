/- Parts. -/
import Derived.Test.YtlemjgjpglmphaaDoorPartOfCardK2
set_option maxRecDepth 10000
set_option maxHeartbeats 16000000
set_option linter.unusedVariables false
set_option linter.unusedSimpArgs false
namespace Go.Proofs.YtlemjgjpglmphaaDoor
def To (E : Nat → Nat → Prop) (a b : Nat) : Prop := a = b ∨ Way E a b
section
variable {E : Nat → Nat → Prop}
theorem To.refl (a : Nat) : To E a a := .inl rfl
theorem To.edge {a b : Nat} (h : E a b) : To E a b := .inr (.one h)
theorem To.trans {a b c : Nat} (h : To E a b) (k : To E b c) : To E a c := by
 rcases h with rfl | h
 ·exact k
 ·rcases k with rfl | k
  ·exact .inr h
  ·exact .inr (h.trans k)
inductive InP (E : Nat → Nat → Prop) (P : Nat → Prop) : Nat → Nat → Prop
 | one {a} : P a → InP E P a a
 | more {a c b} : P a → E a c → InP E P c b → InP E P a b
theorem InP.head {P : Nat → Prop} {a b : Nat} (h : InP E P a b) : P a := by cases h <;> assumption
theorem InP.mono {P Q : Nat → Prop} {a b : Nat} (h : InP E P a b) (hp : ∀ x, P x → Q x) : InP E Q a b := by
 induction h with
 | one h => exact .one (hp _ h)
 | more h e _ ih => exact .more (hp _ h) e ih
theorem InP.to {P : Nat → Prop} {a b : Nat} (h : InP E P a b) : To E a b := by
 induction h with
 | one _ => exact .refl _
 | more _ e _ ih => exact (To.edge e).trans ih
theorem To.outside {X : Nat → Prop} (hX : ∀ x y, E x y → X y → X x) {a b : Nat} (h : To E a b) (ha : ¬ X a) : InP E (fun y => ¬ X y) a b := by
 rcases h with rfl | h
 ·exact .one ha
 ·induction h with
  | one e => exact .more ha e (.one fun hx => ha (hX _ _ e hx))
  | more e _ ih => exact .more ha e (ih fun hx => ha (hX _ _ e hx))
def DoneP (E : Nat → Nat → Prop) (D : List Nat) : Prop := ∀ D1 r D2, D = D1 ++ r :: D2 → ∀ x, InP E (fun y => y ∈ D1 ∨ y = r) x r → To E r x
abbrev Frm := Nat × List Nat × Nat
def nodesS (S : List Frm) : List Nat := S.map fun f => f.1
structure FrmOk (E : Nat → Nat → Prop) (D : List Nat) (seen : Nat → Prop) (f : Frm) (S : List Frm) : Prop where
 le : f.2.2 ≤ D.length
 to : ∀ x ∈ D.drop f.2.2, To E f.1 x
 out : ∀ d ∈ D.take f.2.2, ∀ e, E d e → e ∈ D.take f.2.2 ∨ e ∈ nodesS S
 succ : ∀ e, E f.1 e → e ∈ f.2.1 ∨ seen e
 rest : ∀ e ∈ f.2.1, E f.1 e
 below : ∀ u ∈ nodesS S, To E u f.1
def StkOk (E : Nat → Nat → Prop) (D : List Nat) (seen : Nat → Prop) : List Frm → Prop
 | [] => True
 | f :: S => FrmOk E D seen f S ∧ StkOk E D seen S
structure Dfs (E : Nat → Nat → Prop) (D : List Nat) (S : List Frm) : Prop where
 nd : (D ++ nodesS S).Nodup
 closed : ∀ d ∈ D, ∀ e, E d e → e ∈ D ∨ e ∈ nodesS S
 stk : StkOk E D (fun x => x ∈ D ∨ x ∈ nodesS S) S
 k : DoneP E D
theorem StkOk.seen {D : List Nat} {p q : Nat → Prop} (h : ∀ x, p x → q x) : ∀ {S : List Frm}, StkOk E D p S → StkOk E D q S
 | [], _ => trivial
 | _ :: _, ⟨a, b⟩ => ⟨{ a with succ := fun e he => (a.succ e he).imp id (h e) }, StkOk.seen h b⟩
theorem StkOk.done {D : List Nat} {p : Nat → Prop} {v : Nat} : ∀ {S : List Frm}, StkOk E D p S → (∀ u ∈ nodesS S, To E u v) → StkOk E (D ++ [v]) p S
  | [], _, _ => trivial
  | f :: S, ⟨a, b⟩, h => ⟨{ le := by rw [List.length_append]; have := a.le; omega
                            to := fun x hx => by
                              rw [List.drop_append_of_le_length a.le, List.mem_append] at hx
                              rcases hx with hx | hx
                              · exact a.to x hx
                              · rw [List.mem_singleton.1 hx]
                                exact h f.1 (by simp [nodesS])
                            out := by
                              rw [List.take_append_of_le_length a.le]
                              exact a.out
                            succ := a.succ
                            rest := a.rest
                            below := a.below }, StkOk.done b fun u hu => h u (by simp only [nodesS, List.map_cons, List.mem_cons]; exact .inr hu)⟩
theorem Dfs.start {D : List Nat} {r : Nat} {l : List Nat} (h : Dfs E D []) (hr : r ∉ D) (hl : ∀ e, E r e ↔ e ∈ l) : Dfs E D [(r, l, D.length)] where
  nd := by
    have := h.nd
    simp only [nodesS, List.map_nil, List.append_nil, List.map_cons] at this ⊢
    exact List.nodup_append.2 ⟨this, by simp, fun a ha b hb => by rw [List.mem_singleton.1 hb]; rintro rfl; exact hr ha⟩
  closed := fun d hd e he => .inl ((h.closed d hd e he).resolve_right (by simp [nodesS]))
  stk := ⟨{ le := Nat.le_refl _
            to := fun x hx => by simp at hx
            out := fun d hd e he => by
              dsimp only at hd ⊢
              rw [List.take_length] at hd ⊢
              exact .inl ((h.closed d hd e he).resolve_right (by simp [nodesS]))
            succ := fun e he => .inl ((hl e).1 he)
            rest := fun e he => (hl e).2 he
            below := fun u hu => by simp [nodesS] at hu }, trivial⟩
  k := h.k
theorem Dfs.skip {D : List Nat} {S : List Frm} {v e p : Nat} {l : List Nat} (h : Dfs E D ((v, e :: l, p) :: S)) (he : e ∈ D ∨ e ∈ nodesS ((v, e :: l, p) :: S)) : Dfs E D ((v, l, p) :: S) where
  nd := h.nd
  closed := h.closed
  stk := ⟨{ h.stk.1 with
            succ := fun x hx => by
              rcases h.stk.1.succ x hx with h1 | h1
              · rcases List.mem_cons.1 h1 with rfl | h2
                · exact .inr he
                · exact .inl h2
              · exact .inr h1
            rest := fun x hx => h.stk.1.rest x (List.mem_cons_of_mem _ hx) }, h.stk.2⟩
  k := h.k
theorem Dfs.push {D : List Nat} {S : List Frm} {v e p : Nat} {l m : List Nat} (h : Dfs E D ((v, e :: l, p) :: S)) (he : e ∉ D) (he2 : e ∉ nodesS ((v, e :: l, p) :: S)) (hm : ∀ x, E e x ↔ x ∈ m) :
    Dfs E D ((e, m, D.length) :: (v, l, p) :: S) where
  nd := by
    have h1 := h.nd
    rw [List.nodup_append] at h1 ⊢
    refine ⟨h1.1, List.nodup_cons.2 ⟨he2, h1.2.1⟩, fun a ha b hb => ?_⟩
    rcases List.mem_cons.1 hb with rfl | hb
    · rintro rfl; exact he ha
    · exact h1.2.2 a ha b hb
  closed := fun d hd x hx => (h.closed d hd x hx).imp id (List.mem_cons_of_mem _)
  stk := by
    have hs : ∀ x, (x ∈ D ∨ x ∈ nodesS ((v, e :: l, p) :: S)) → (x ∈ D ∨ x ∈ nodesS ((e, m, D.length) :: (v, l, p) :: S)) := fun x hx => hx.imp id (List.mem_cons_of_mem _)
    refine ⟨{ le := Nat.le_refl _
              to := fun x hx => by simp at hx
              out := fun d hd x hx => by
                dsimp only at hd ⊢
                rw [List.take_length] at hd ⊢
                exact h.closed d hd x hx
              succ := fun x hx => .inl ((hm x).1 hx)
              rest := fun x hx => (hm x).2 hx
              below := fun u hu => by
                have hv := To.edge (h.stk.1.rest e List.mem_cons_self)
                rcases List.mem_cons.1 hu with rfl | hu
                · exact hv
                · exact (h.stk.1.below u hu).trans hv }, { h.stk.1 with
              succ := fun x hx => by
                rcases h.stk.1.succ x hx with h1 | h1
                · rcases List.mem_cons.1 h1 with rfl | h2
                  · exact .inr (.inr List.mem_cons_self)
                  · exact .inl h2
                · exact .inr (hs x h1)
              rest := fun x hx => h.stk.1.rest x (List.mem_cons_of_mem _ hx) }, h.stk.2.seen hs⟩
  k := h.k
theorem Dfs.pop {D : List Nat} {S : List Frm} {v p : Nat} (h : Dfs E D ((v, [], p) :: S)) : Dfs E (D ++ [v]) S where
 nd := by
  have := h.nd;rw [List.append_assoc];exact this
 closed := fun d hd e he => by
  have key : (e ∈ D ∨ e ∈ nodesS ((v, [], p) :: S)) → e ∈ D ++ [v] ∨ e ∈ nodesS S := fun hx => by
   rcases hx with hx | hx
   ·exact .inl (List.mem_append_left _ hx)
   ·rcases List.mem_cons.1 hx with rfl | hx
    ·exact .inl (by simp)
    ·exact .inr hx
  rcases List.mem_append.1 hd with hd | hd
  ·exact key (h.closed d hd e he)
  ·rw [List.mem_singleton.1 hd] at he;exact key ((h.stk.1.succ e he).resolve_left (by simp))
 stk := (h.stk.2.done h.stk.1.below).seen fun x hx => by
  rcases hx with hx | hx
  ·exact .inl (List.mem_append_left _ hx)
  ·rcases List.mem_cons.1 hx with rfl | hx
   ·exact .inl (by simp)
   ·exact .inr hx
 k := by
  intro D1 r D2 hD x hx;rcases List.eq_nil_or_concat D2 with rfl | ⟨D3, z, rfl⟩
  ·obtain ⟨rfl, hr⟩ := List.append_inj' hD rfl;obtain rfl : v = r := by simpa using hr
   have hnd := h.nd;rw [List.nodup_append] at hnd;have hvD : v ∉ D := fun hv => hnd.2.2 v hv v (by simp [nodesS]) rfl;have hno : ∀ {a b : Nat}, InP E (fun y => y ∈ D ∨ y = v) a b → b = v → a ∈ D.take p → False := by
    intro a b hab
    induction hab with
    | one _ => intro hb ha; subst hb; exact hvD (List.mem_of_mem_take ha)
    | @more a c b _ e hcb ih =>
     intro hb ha;rcases h.stk.1.out a ha c e with h1 | h1
     ·exact ih hb h1
     ·rcases hcb.head with h2 | h2
      ·exact hnd.2.2 c h2 c (List.mem_cons_of_mem _ h1) rfl
      ·subst h2;exact (List.nodup_cons.1 hnd.2.1).1 h1
   rcases hx.head with h1 | h1
   ·rw [← List.take_append_drop p D, List.mem_append] at h1;rcases h1 with h1 | h1
    ·exact (hno hx rfl h1).elim
    ·exact h.stk.1.to x h1
   ·rw [h1]; exact .refl _
  ·have e : D1 ++ r :: (D3.concat z) = (D1 ++ r :: D3) ++ [z] := by simp
   rw [e] at hD;obtain ⟨h1, -⟩ := List.append_inj' hD rfl;exact h.k D1 r D3 h1 x hx
theorem Dfs.empty : Dfs E [] [] where
 nd := by simp [nodesS]
 closed := fun d hd => by cases hd
 stk := trivial
 k := fun D1 r D2 h => by simp at h
structure Gone (E : Nat → Nat → Prop) (D : List Nat) (r : Nat) (L : List Nat) : Prop where
 dfs : Dfs E (D ++ L) []
 all : ∀ x, x ∈ L ↔ To E r x ∧ x ∉ D
theorem Dfs.to_mem {D : List Nat} (h : Dfs E D []) {a b : Nat} (hab : To E a b) (ha : a ∈ D) : b ∈ D := by
 rcases hab with rfl | hab
 ·exact ha
 ·exact way_closed (m := fun x => x ∈ D) (fun x y e hx => (h.closed x hx y e).resolve_right (by simp [nodesS])) hab ha
theorem Gone.of {D L : List Nat} {r : Nat} (h : Dfs E (D ++ L) []) (hD : Dfs E D []) (hr : r ∈ L) (hl : ∀ x ∈ L, To E r x) : Gone E D r L where
 dfs := h
 all := fun x => by
  have hnd := h.nd;simp only [nodesS, List.map_nil, List.append_nil] at hnd;rw [List.nodup_append] at hnd
  constructor
  ·intro hx;exact ⟨hl x hx, fun hd => hnd.2.2 x hd x hx rfl⟩
  ·rintro ⟨h1, h2⟩;exact (List.mem_append.1 (h.to_mem h1 (List.mem_append_right _ hr))).resolve_left h2
theorem part_of {D : List Nat} {D1 T : List Nat} {r : Nat} (hd : DoneP E D) (hD : D = D1 ++ r :: T) (hcl : ∀ x y, E x y → x ∈ D → y ∈ D) {X : List Nat} (hX : ∀ x y, E x y → y ∈ X → x ∈ X) (hT : ∀ x ∈ T, x ∈ X) (hr : r ∉ X) (hall : ∀ x, To E x r → x ∈ D) (x : Nat) :
  (To E x r ∧ x ∉ X) ↔ (To E x r ∧ To E r x) := by
 constructor
 ·rintro ⟨h1, h2⟩;refine ⟨h1, hd D1 r T hD x ?_⟩;have h3 := h1.outside (X := fun y => y ∈ X) hX h2;have key : ∀ {a b : Nat}, InP E (fun y => y ∉ X) a b → b = r → InP E (fun y => y ∈ D1 ∨ y = r) a b := by
   intro a b hab
   induction hab with
   | one _ => intro hb; exact .one (.inr hb)
   | @more a c b ha e hcb ih =>
    intro hb;refine .more ?_ e (ih hb);have : a ∈ D := hall a ((To.edge e).trans (hb ▸ hcb.to));rw [hD, List.mem_append] at this;rcases this with h | h
    ·exact .inl h
    ·rcases List.mem_cons.1 h with h | h
     ·exact .inr h
     ·exact absurd (hT a h) ha
  exact key h3 rfl
 ·rintro ⟨h1, h2⟩;refine ⟨h1, fun hx => hr ?_⟩;rcases h2 with rfl | h2
  ·exact hx
  ·have : ∀ {a b : Nat}, Way E a b → b ∈ X → a ∈ X := by
    intro a b hab
    induction hab with
    | one e => exact hX _ _ e
    | more e _ ih => exact fun hb => hX _ _ e (ih hb)
   exact this h2 hx
end
end Go.Proofs.YtlemjgjpglmphaaDoor
