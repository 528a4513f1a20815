/- Parts. -/
import Derived.Test.YtlnlppabeddclaaDoorLaw23AllK2
set_option maxRecDepth 10000
set_option maxHeartbeats 16000000
set_option linter.unusedVariables false
set_option linter.unusedSimpArgs false
namespace Go.Proofs.YtlnlppabeddclaaDoor
theorem findSome_find {α β : Type} {f : α → Option β} {p : α → Bool} {g : α → β} (h1 : ∀ b, p b = true → f b = some (g b)) (h2 : ∀ b, p b = false → f b = none) : ∀ l : List α, l.findSome? f = (l.find? p).map g
 | [] => rfl
 | b :: l => by
  rw [List.findSome?_cons, List.find?_cons]
  cases h : p b with
  | true => rw [h1 b h]; rfl
  | false => rw [h2 b h]; exact findSome_find h1 h2 l
section
variable (E : Nat → Nat → Bool) (n : Nat)
def onT : Nat → List Nat → Option (List Nat)
 | 0, hd => if E (hd.getLastD 0) (hd.headD 0) = true then some hd else none
 | k + 1, hd => (List.range n).findSome? fun b => if (decide (hd.headD 0 < b) && E (hd.getLastD 0) b && !decide (b ∈ hd)) = true then onT k (hd ++ [b]) else none
inductive Stp (a : Nat) : Nat → Nat → Prop
 | zero : Stp a 0 a
 | succ {k v u : Nat} : E v u = true → a ≤ v → Stp a k u → Stp a (k + 1) v
structure FarK (a : Nat) (D : Nat → Int) : Prop where
 yes : ∀ (v k : Nat), D v = (k : Int) → Stp E a k v
 least : ∀ (v j : Nat), Stp E a j v → ∃ k : Nat, k ≤ j ∧ D v = (k : Int)
def grd (D : Nat → Int) (a : Nat) : Nat → List Nat → List Nat
 | 0, hd => hd
 | k + 1, hd => match (List.range n).find? fun b => E (hd.getLastD 0) b && decide (a ≤ b) && decide (D b = ((k + 1 : Nat) : Int)) with
  | some b => grd D a k (hd ++ [b])
  | none => hd
end
section
variable {E : Nat → Nat → Bool} {n a M : Nat} {D : Nat → Int}
theorem Stp.ge {k v : Nat} (h : Stp E a k v) : a ≤ v := by
 cases h with
 | zero => exact Nat.le_refl _
 | succ _ h _ => exact h
theorem FarK.self (h : FarK E a D) : D a = 0 := by
 obtain ⟨k, hk, e⟩ := h.least a 0 .zero;obtain rfl : k = 0 := by omega
 simpa using e
inductive PH (E : Nat → Nat → Bool) (a M : Nat) (D : Nat → Int) : List Nat → Nat → Prop
 | one : PH E a M D [a] a
 | snoc {hd : List Nat} {x b : Nat} : PH E a M D hd x → E x b = true → a < b → hd.length < M → D b = ((M - hd.length : Nat) : Int) → PH E a M D (hd ++ [b]) b
theorem PH.pos {hd : List Nat} {x : Nat} (h : PH E a M D hd x) : 0 < hd.length := by
 cases h <;> simp
theorem PH.head {hd : List Nat} {x : Nat} (h : PH E a M D hd x) : hd.headD 0 = a := by
 induction h with
 | one => rfl
 | @snoc hd x b p _ _ _ _ ih =>
  cases hd with
  | nil => have := p.pos; simp at this
  | cons y t => exact ih
theorem PH.last {hd : List Nat} {x : Nat} (h : PH E a M D hd x) : hd.getLastD 0 = x := by
 cases h with
 | one => rfl
 | snoc _ _ _ _ _ => simp [List.getLastD_eq_getLast?]
theorem PH.ge {hd : List Nat} {x : Nat} (h : PH E a M D hd x) : ∀ y ∈ hd, a ≤ y := by
 induction h with
 | one => intro y hy; rw [List.mem_singleton.1 hy]; exact Nat.le_refl _
 | snoc _ _ hb _ _ ih =>
  intro y hy;rcases List.mem_append.1 hy with h1 | h1
  ·exact ih y h1
  ·rw [List.mem_singleton.1 h1]; omega
theorem PH.last_ge {hd : List Nat} {x : Nat} (h : PH E a M D hd x) : a ≤ x := by
 cases h with
 | one => exact Nat.le_refl _
 | snoc _ _ hb _ _ => omega
theorem PH.vals {hd : List Nat} {x : Nat} (h : PH E a M D hd x) : ∀ y ∈ hd, y = a ∨ ∃ i, 0 < i ∧ i < hd.length ∧ i < M ∧ D y = ((M - i : Nat) : Int) := by
 induction h with
 | one => intro y hy; exact .inl (List.mem_singleton.1 hy)
 | @snoc hd x b p _ _ hl hD ih =>
  intro y hy;rcases List.mem_append.1 hy with h1 | h1
  ·rcases ih y h1 with h2 | ⟨i, h2, h3, h4, h5⟩
   ·exact .inl h2
   ·exact .inr ⟨i, h2, by simp; omega, h4, h5⟩
  ·rw [List.mem_singleton.1 h1];exact .inr ⟨hd.length, p.pos, by simp, hl, hD⟩
theorem on_stp : ∀ (k : Nat) {hd : List Nat} {r : List Nat}, onT E n k hd = some r → (∀ y ∈ hd, a ≤ y) → hd.headD 0 = a → hd ≠ [] → Stp E a (k + 1) (hd.getLastD 0)
 | 0, hd, r, h, hg, h0, hne => by
  unfold onT at h;rw [h0] at h
  split at h
  ·rename_i he
   refine .succ he (hg _ ?_) .zero
   cases hd with
   | nil => exact absurd rfl hne
   | cons y t => rw [List.getLastD_eq_getLast?, List.getLast?_eq_some_getLast (by simp)]; exact List.getLast_mem _
  ·cases h
 | k + 1, hd, r, h, hg, h0, hne => by
  unfold onT at h;rw [h0] at h;obtain ⟨b, -, hb⟩ := List.exists_of_findSome?_eq_some h
  split at hb
  ·rename_i hc
   simp only [Bool.and_eq_true, decide_eq_true_eq] at hc;obtain ⟨⟨h1, h2⟩, -⟩ := hc;have ih := on_stp k hb (fun y hy => by
    rcases List.mem_append.1 hy with h3 | h3
    ·exact hg y h3
    ·rw [List.mem_singleton.1 h3]; omega) (by cases hd with
    | nil => exact absurd rfl hne
    | cons y t => exact h0) (by simp)
   have e : (hd ++ [b]).getLastD 0 = b := by simp [List.getLastD_eq_getLast?]
   rw [e] at ih;refine .succ h2 (hg _ ?_) ih
   cases hd with
   | nil => exact absurd rfl hne
   | cons y t => rw [List.getLastD_eq_getLast?, List.getLast?_eq_some_getLast (by simp)]; exact List.getLast_mem _
  ·cases hb
structure Best (E : Nat → Nat → Bool) (a M : Nat) (D : Nat → Int) : Prop where
 pos : 0 < M
 min : ∀ v, E a v = true → a ≤ v → ∀ k : Nat, D v = (k : Int) → M ≤ k + 1
 at_ : ∃ v, E a v = true ∧ a ≤ v ∧ D v = ((M - 1 : Nat) : Int)
theorem PH.far {hd : List Nat} {x j : Nat} (p : PH E a M D hd x) (h : FarK E a D) (hb : Best E a M D) (hs : Stp E a j x) (hj : 0 < j) : M ≤ j + (hd.length - 1) := by
 cases p with
 | one =>
  cases hs with
  | zero => omega
  | @succ k _ u he _ hk =>
   obtain ⟨i, hi, e⟩ := h.least u k hk;have := hb.min u he hk.ge i e;simp;omega
 | @snoc hd y b p he hlt hl hD =>
  obtain ⟨i, hi, e⟩ := h.least x j hs;rw [hD] at e;have : M - hd.length = i := by omega
  simp;omega
theorem PH.next {hd : List Nat} {x : Nat} (p : PH E a M D hd x) (h : FarK E a D) (hb : Best E a M D) (hl : hd.length ≤ M) : ∃ b, E x b = true ∧ a ≤ b ∧ D b = ((M - hd.length : Nat) : Int) := by
 cases p with
 | one => simpa using hb.at_
 | @snoc hd y b p he hlt hl2 hD =>
  have hs := h.yes x _ hD;obtain ⟨k, hk⟩ : ∃ k, M - hd.length = k + 1 := ⟨M - hd.length - 1, by omega⟩;rw [hk] at hs
  cases hs with
  | @succ _ _ u he2 _ hu =>
   obtain ⟨i, hi, e⟩ := h.least u k hu;have h2 : Stp E a (i + 1) x := .succ he2 (by omega) (h.yes u i e);obtain ⟨j, hj, e2⟩ := h.least x _ h2;rw [hD] at e2;have : i = k := by omega
   subst this;refine ⟨u, he2, hu.ge, ?_⟩;rw [e, List.length_append, List.length_singleton];omega
theorem on_grd (h : FarK E a D) (hb : Best E a M D) (hE : ∀ a b, E a b = true → a < n ∧ b < n) : ∀ (k : Nat) {hd : List Nat} {x : Nat}, PH E a M D hd x → hd.length + k = M → onT E n k hd = some (grd E n D a k hd)
 | 0, hd, x, p, hk => by
  unfold onT grd;rw [p.head, p.last];obtain ⟨b, h1, h2, h3⟩ := p.next h hb (by omega);have e : M - hd.length = 0 := by omega
  rw [e] at h3;have hz := h.yes b 0 h3
  cases hz
  rw [if_pos h1]
 | k + 1, hd, x, p, hk => by
  have hl : hd.length < M := by omega
  have hMk : M - hd.length = k + 1 := by omega
  unfold onT grd;rw [p.head, p.last];obtain ⟨b, h1, h2, h3⟩ := p.next h hb (by omega);rw [hMk] at h3;have key := findSome_find (f := fun b => if (decide (a < b) && E x b && !decide (b ∈ hd)) = true then onT E n k (hd ++ [b]) else none) (p := fun b => E x b && decide (a ≤ b) && decide (D b = ((k + 1 : Nat) : Int))) (g := fun b => grd E n D a k (hd ++ [b])) (fun b hp => by
   simp only [Bool.and_eq_true, decide_eq_true_eq] at hp;obtain ⟨⟨g1, g2⟩, g3⟩ := hp;have hba : a ≠ b := fun e => by
    have := h.self;rw [e, g3] at this;omega
   have hnb : b ∉ hd := fun hm => by
    rcases p.vals b hm with h5 | ⟨i, h5, h6, h7, h8⟩
    ·exact hba h5.symm
    ·rw [g3] at h8;omega
   rw [if_pos (by simp [g1, hnb]; omega)];exact on_grd h hb hE k (.snoc p g1 (by omega) hl (by rw [hMk]; exact g3)) (by rw [List.length_append, List.length_singleton]; omega)) (fun b hp => by
   split
   ·rename_i hc
    simp only [Bool.and_eq_true, decide_eq_true_eq] at hc;obtain ⟨⟨g1, g2⟩, g3⟩ := hc
    cases ho : onT E n k (hd ++ [b]) with
    | none => rfl
    | some r =>
     exfalso
     have hst := on_stp (a := a) k ho (fun y hy => by
      rcases List.mem_append.1 hy with h3 | h3
      ·exact p.ge y h3
      ·rw [List.mem_singleton.1 h3]; omega) (by
      have := p.head
      cases hd with
      | nil => have := p.pos; simp at this
      | cons y t => exact this) (by simp)
     have e : (hd ++ [b]).getLastD 0 = b := by simp [List.getLastD_eq_getLast?]
     rw [e] at hst;obtain ⟨i, hi, e2⟩ := h.least b _ hst;have hx : Stp E a (i + 1) x := .succ g2 p.last_ge (h.yes b i e2);have hf := p.far h hb hx (by omega);have hpp := p.pos;have : i = k + 1 := by omega
     subst this;rw [g2, e2] at hp;simp at hp;omega
   ·rfl) (List.range n)
  rw [key]
  cases hf : (List.range n).find? (fun b => E x b && decide (a ≤ b) && decide (D b = ((k + 1 : Nat) : Int))) with
  | none =>
   have := List.find?_eq_none.1 hf b (List.mem_range.2 (hE x b h1).2);rw [h1, h3] at this;simp at this;omega
  | some c => rfl
theorem on_none (h : FarK E a D) {m : Nat} (hm : ∀ v, E a v = true → a ≤ v → ∀ k : Nat, D v = (k : Int) → m + 1 < k + 1) : onT E n m [a] = none := by
 cases ho : onT E n m [a] with
 | none => rfl
 | some r =>
  have hs := on_stp (a := a) m ho (fun y hy => by rw [List.mem_singleton.1 hy]; exact Nat.le_refl _) rfl (by simp);have e : ([a] : List Nat).getLastD 0 = a := rfl;rw [e] at hs
  cases hs with
  | @succ k _ u he _ hu =>
   obtain ⟨i, hi, e2⟩ := h.least u m hu;have := hm u he hu.ge i e2;omega
end
def bestR (R : Nat → Option (List Nat)) : Nat → Option (List Nat)
 | 0 => none
 | k + 1 => match R k with
  | none => bestR R k
  | some r => match bestR R k with
   | none => some r
   | some b => if r.length < b.length then some r else some b
theorem best_none {R : Nat → Option (List Nat)} : ∀ {k : Nat}, bestR R k = none → ∀ a, a < k → R a = none
 | 0, _, a, ha => by omega
 | k + 1, h, a, ha => by
  unfold bestR at h
  cases hr : R k with
  | none =>
   rw [hr] at h;rcases Nat.lt_or_ge a k with h1 | h1
   ·exact best_none h a h1
   ·obtain rfl : a = k := by omega
    exact hr
  | some r =>
   rw [hr] at h
   cases hb : bestR R k with
   | none => rw [hb] at h; cases h
   | some b =>
    rw [hb] at h;dsimp only at h
    split at h <;> cases h
theorem best_some {R : Nat → Option (List Nat)} : ∀ {k : Nat} {r : List Nat}, bestR R k = some r → ∃ a, a < k ∧ R a = some r ∧ (∀ c, c < k → ∀ q, R c = some q → r.length ≤ q.length) ∧ ∀ c, c < a → ∀ q, R c = some q → r.length < q.length
 | 0, r, h => by cases h
 | k + 1, r, h => by
  unfold bestR at h
  cases hr : R k with
  | none =>
   rw [hr] at h;obtain ⟨a, h1, h2, h3, h4⟩ := best_some h;refine ⟨a, by omega, h2, fun c hc q hq => ?_, h4⟩;rcases Nat.lt_or_ge c k with h5 | h5
   ·exact h3 c h5 q hq
   ·obtain rfl : c = k := by omega
    rw [hr] at hq; cases hq
  | some s =>
   rw [hr] at h
   cases hb : bestR R k with
   | none =>
    rw [hb] at h
    cases h
    have hn := best_none hb;refine ⟨k, by omega, hr, fun c hc q hq => ?_, fun c hc q hq => ?_⟩
    ·rcases Nat.lt_or_ge c k with h5 | h5
     ·rw [hn c h5] at hq; cases hq
     ·obtain rfl : c = k := by omega
      rw [hr] at hq; cases hq; exact Nat.le_refl _
    ·rw [hn c hc] at hq; cases hq
   | some b =>
    rw [hb] at h;dsimp only at h;obtain ⟨a, h1, h2, h3, h4⟩ := best_some hb
    split at h
    ·rename_i hlt
     cases h
     refine ⟨k, by omega, hr, fun c hc q hq => ?_, fun c hc q hq => ?_⟩
     ·rcases Nat.lt_or_ge c k with h5 | h5
      ·have := h3 c h5 q hq; omega
      ·obtain rfl : c = k := by omega
       rw [hr] at hq; cases hq; exact Nat.le_refl _
     ·have := h3 c hc q hq; omega
    ·rename_i hlt
     cases h
     refine ⟨a, by omega, h2, fun c hc q hq => ?_, h4⟩;rcases Nat.lt_or_ge c k with h5 | h5
     ·exact h3 c h5 q hq
     ·obtain rfl : c = k := by omega
      rw [hr] at hq; cases hq; omega
theorem findSome_none {α β : Type} {f : α → Option β} : ∀ {l : List α}, (∀ b ∈ l, f b = none) → l.findSome? f = none
 | [], _ => rfl
 | b :: l, h => by
  rw [List.findSome?_cons, h b List.mem_cons_self];exact findSome_none fun c hc => h c (List.mem_cons_of_mem _ hc)
theorem findSome_range {β : Type} {f : Nat → Option β} {i : Nat} {r : β} : ∀ {n : Nat}, i < n → (∀ j, j < i → f j = none) → f i = some r → (List.range n).findSome? f = some r
 | 0, h, _, _ => by omega
 | n + 1, h, hj, hi => by
  rw [List.range_succ, List.findSome?_append];rcases Nat.lt_or_ge i n with h1 | h1
  ·rw [findSome_range h1 hj hi]; rfl
  ·obtain rfl : i = n := by omega
   rw [findSome_none fun b hb => hj b (List.mem_range.1 hb)];simp [hi]
def ringL (E : Nat → Nat → Bool) (n : Nat) : Option (List Nat) := (List.range n).findSome? fun m => (List.range n).findSome? fun a => onT E n m [a]
theorem least_best {E : Nat → Nat → Bool} {n : Nat} {R : Nat → Option (List Nat)} (h : ∀ a, a < n → (R a = none → ∀ m, onT E n m [a] = none) ∧ ∀ r, R a = some r → 0 < r.length ∧ r.length ≤ n ∧ onT E n (r.length - 1) [a] = some r ∧ ∀ m, m < r.length - 1 → onT E n m [a] = none) : ringL E n = bestR R n := by
 unfold ringL
 cases hb : bestR R n with
 | none =>
  have hn := best_none hb;exact findSome_none fun m _ => findSome_none fun a ha => (h a (List.mem_range.1 ha)).1 (hn a (List.mem_range.1 ha)) m
 | some r =>
  obtain ⟨a, h1, h2, h3, h4⟩ := best_some hb;obtain ⟨g1, g2, g3, g4⟩ := (h a h1).2 r h2;refine findSome_range (i := r.length - 1) (by omega) (fun m hm => findSome_none fun c hc => ?_) (findSome_range (i := a) h1 (fun c hc => ?_) g3)
  ·have hcn := List.mem_range.1 hc
   cases hr : R c with
   | none => exact (h c hcn).1 hr m
   | some q =>
    have := h3 c hcn q hr;exact ((h c hcn).2 q hr).2.2.2 m (by omega)
  ·cases hr : R c with
   | none => exact (h c (by omega)).1 hr _
   | some q =>
    have := h4 c hc q hr;exact ((h c (by omega)).2 q hr).2.2.2 _ (by omega)
theorem grd_len {E : Nat → Nat → Bool} {n a M : Nat} {D : Nat → Int} (h : FarK E a D) (hb : Best E a M D) (hE : ∀ a b, E a b = true → a < n ∧ b < n) : ∀ (k : Nat) {hd : List Nat} {x : Nat}, PH E a M D hd x → hd.length + k = M → (grd E n D a k hd).length = M ∧ ∃ y, PH E a M D (grd E n D a k hd) y
 | 0, hd, x, p, hk => by unfold grd; exact ⟨by omega, x, p⟩
 | k + 1, hd, x, p, hk => by
  unfold grd;rw [p.last];obtain ⟨b, h1, h2, h3⟩ := p.next h hb (by omega);have hMk : M - hd.length = k + 1 := by omega
  rw [hMk] at h3
  cases hf : (List.range n).find? (fun b => E x b && decide (a ≤ b) && decide (D b = ((k + 1 : Nat) : Int))) with
  | none =>
   have := List.find?_eq_none.1 hf b (List.mem_range.2 (hE x b h1).2);rw [h1, h3] at this;simp at this;omega
  | some c =>
   have hc := List.find?_some hf;simp only [Bool.and_eq_true, decide_eq_true_eq] at hc;obtain ⟨⟨g1, g2⟩, g3⟩ := hc;have hac : a ≠ c := fun e => by
    have := h.self;rw [e, g3] at this;omega
   exact grd_len h hb hE k (.snoc p g1 (by omega) (by omega) (by rw [hMk]; exact g3)) (by rw [List.length_append, List.length_singleton]; omega)
theorem PH.nodup {E : Nat → Nat → Bool} {a M : Nat} {D : Nat → Int} {hd : List Nat} {x : Nat} (h : FarK E a D) (p : PH E a M D hd x) : hd.Nodup := by
 induction p with
 | one => simp
 | @snoc hd x b p he hlt hl hD ih =>
  rw [List.nodup_append];refine ⟨ih, by simp, fun y hy z hz e => ?_⟩;rw [List.mem_singleton.1 hz] at e;subst e;rcases p.vals y hy with h5 | ⟨i, h5, h6, h7, h8⟩
  ·omega
  ·rw [hD] at h8;omega
theorem PH.lt {E : Nat → Nat → Bool} {n a M : Nat} {D : Nat → Int} (hE : ∀ a b, E a b = true → a < n ∧ b < n) (ha : a < n) {hd : List Nat} {x : Nat} (p : PH E a M D hd x) : ∀ y ∈ hd, y < n := by
 induction p with
 | one => intro y hy; rw [List.mem_singleton.1 hy]; exact ha
 | snoc p he _ _ _ ih =>
  intro y hy;rcases List.mem_append.1 hy with h1 | h1
  ·exact ih y h1
  ·rw [List.mem_singleton.1 h1]; exact (hE _ _ he).2
structure Thru (E : Nat → Nat → Bool) (n a : Nat) (D : Nat → Int) (R : Option (List Nat)) : Prop where
 no : R = none → ∀ v, E a v = true → a ≤ v → ∀ k : Nat, D v ≠ (k : Int)
 some_ : ∀ r, R = some r → ∃ M, Best E a M D ∧ r = grd E n D a (M - 1) [a]
theorem Thru.rings {E : Nat → Nat → Bool} {n a : Nat} {D : Nat → Int} {R : Option (List Nat)} (t : Thru E n a D R) (h : FarK E a D) (hE : ∀ a b, E a b = true → a < n ∧ b < n) (ha : a < n) (hlen : ∀ S : List Nat, S.Nodup → (∀ y ∈ S, y < n) → S.length ≤ n) :
  (R = none → ∀ m, onT E n m [a] = none) ∧ ∀ r, R = some r → 0 < r.length ∧ r.length ≤ n ∧ onT E n (r.length - 1) [a] = some r ∧ ∀ m, m < r.length - 1 → onT E n m [a] = none := by
 constructor
 ·intro hr m;exact on_none h fun v he hv k hk => absurd hk (t.no hr v he hv k)
 ·intro r hr;obtain ⟨M, hb, rfl⟩ := t.some_ r hr;have hp := hb.pos;obtain ⟨h1, y, h2⟩ := grd_len h hb hE (M - 1) (PH.one (E := E) (D := D) (M := M)) (by simp; omega);rw [h1];refine ⟨hp, ?_, on_grd h hb hE (M - 1) .one (by simp; omega), fun m hm => on_none h fun v he hv k hk => ?_⟩
  ·have := hlen _ (h2.nodup h) (h2.lt hE ha);omega
  ·have := hb.min v he hv k hk;omega
theorem find_filter {α : Type} (f g : α → Bool) : ∀ l : List α, (l.filter f).find? g = l.find? fun x => f x && g x
 | [] => rfl
 | x :: l => by
  rw [List.filter_cons, List.find?_cons]
  cases hf : f x with
  | false => simp only [Bool.false_and]; rw [if_neg (by simp)]; exact find_filter f g l
  | true =>
   rw [if_pos rfl, List.find?_cons]
   cases hg : g x with
   | true => rfl
   | false => exact find_filter f g l
theorem first_in {g : Nat → Bool} : ∀ {l : List Nat} {v : Nat}, l.find? g = some v → ∃ i : Nat, l[i]? = some v ∧ ∀ (j u : Nat), j < i → l[j]? = some u → g u = false
 | [], v, h => by cases h
 | x :: l, v, h => by
  rw [List.find?_cons] at h
  cases hg : g x with
  | true =>
   rw [hg] at h
   cases h
   exact ⟨0, rfl, fun j u hj => by omega⟩
  | false =>
   rw [hg] at h;obtain ⟨i, h1, h2⟩ := first_in h;refine ⟨i + 1, by simpa using h1, fun j u hj hu => ?_⟩
   cases j with
   | zero =>
    have : x = u := by simpa using hu
    rw [← this]; exact hg
   | succ j => exact h2 j u (by omega) (by simpa using hu)
end Go.Proofs.YtlnlppabeddclaaDoor
