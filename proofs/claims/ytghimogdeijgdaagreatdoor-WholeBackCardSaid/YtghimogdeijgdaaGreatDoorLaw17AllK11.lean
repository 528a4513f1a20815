/- Parts. -/
import Derived.Test.YtghimogdeijgdaaGreatDoorLaw17AllK10
set_option maxRecDepth 10000
set_option maxHeartbeats 16000000
set_option linter.unusedVariables false
set_option linter.unusedSimpArgs false
namespace Go.Proofs.YtghimogdeijgdaaGreatDoor
def fillO : List Op4 → List V2 → List Op4
 | [], _ => []
 | o :: r, vs => if o.vk = 2 then { o with vk := (vs.headD (0, 0)).1, vn := (vs.headD (0, 0)).2 } :: fillO r vs.tail else o :: fillO r vs
def lostN (l : List Op4) : Nat := (l.filter fun o => decide (o.vk = 2)).length
def lostT (l : List Tx) : Nat := (l.map fun t => lostN t.ops).sum
def fillT : List Tx → List Bool → List V2 → List Tx
 | [], _, _ => []
 | t :: r, cs, vs => ⟨t.s, if cs.headD false = true then 1 else 2, fillO t.ops vs⟩ :: fillT r cs.tail (vs.drop (lostN t.ops))
def makeH (h : Hst) (w : Wld) : Hst := ⟨h.ss, h.ks, fillT h.l (comL h.l w.c) w.l⟩
theorem fillO_len : ∀ (l : List Op4) (vs : List V2), (fillO l vs).length = l.length
 | [], _ => rfl
 | o :: r, vs => by
  unfold fillO
  split <;> simp [fillO_len r]
theorem fillT_len : ∀ (l : List Tx) (cs : List Bool) (vs : List V2), (fillT l cs vs).length = l.length
 | [], _, _ => rfl
 | t :: r, cs, vs => by simp [fillT, fillT_len r]
theorem lostN_cons (o : Op4) (r : List Op4) : lostN (o :: r) = (if o.vk = 2 then 1 else 0) + lostN r := by
 unfold lostN
 by_cases h : o.vk = 2
 ·simp [List.filter_cons, h]; omega
 ·simp [List.filter_cons, h]
theorem lostN_append (a b : List Op4) : lostN (a ++ b) = lostN a + lostN b := by simp [lostN]
theorem lostT_append (a b : List Tx) : lostT (a ++ b) = lostT a + lostT b := by simp [lostT]
theorem fillO_snoc : ∀ (l : List Op4) (o : Op4) (vs : List V2), fillO (l ++ [o]) vs = fillO l vs ++ fillO [o] (vs.drop (lostN l))
 | [], o, vs => by simp [fillO, lostN]
 | a :: r, o, vs => by
  have ih := fillO_snoc r o;rw [List.cons_append, lostN_cons]
  by_cases h : a.vk = 2
  ·have h1 : ∀ (l : List Op4) (vs : List V2), fillO (a :: l) vs = { a with vk := (vs.headD (0, 0)).1, vn := (vs.headD (0, 0)).2 } :: fillO l vs.tail := fun l vs => by rw [fillO, if_pos h]
   rw [h1, h1, ih, if_pos h, List.cons_append, ← List.drop_one, List.drop_drop]
  ·have h1 : ∀ (l : List Op4) (vs : List V2), fillO (a :: l) vs = a :: fillO l vs := fun l vs => by rw [fillO, if_neg h]
   rw [h1, h1, ih, if_neg h, Nat.zero_add, List.cons_append]
theorem fillT_snoc : ∀ (l : List Tx) (t : Tx) (cs : List Bool) (vs : List V2), fillT (l ++ [t]) cs vs = fillT l cs vs ++ [⟨t.s, if cs.getD l.length false = true then 1 else 2, fillO t.ops (vs.drop (lostT l))⟩]
 | [], t, cs, vs => by
  cases cs <;> simp [fillT, lostT]
 | a :: r, t, cs, vs => by
  have ih := fillT_snoc r t;rw [List.cons_append, fillT, ih, fillT, List.cons_append];have h1 : cs.tail.getD r.length false = cs.getD (a :: r).length false := by
   cases cs <;> simp
  have h2 : (vs.drop (lostN a.ops)).drop (lostT r) = vs.drop (lostT (a :: r)) := by
   rw [List.drop_drop];simp [lostT]
  rw [h1, h2]
def readsO : List Op4 → List Op4 → List V2
 | o :: r, p :: s => (if o.vk = 2 then [(p.vk, p.vn)] else []) ++ readsO r s
 | _, _ => []
def readsT : List Tx → List Tx → List V2
 | t :: r, u :: s => readsO t.ops u.ops ++ readsT r s
 | _, _ => []
def comsT : List Tx → List Tx → List Bool
 | t :: r, u :: s => (if t.f = 3 then [decide (u.f = 1)] else []) ++ comsT r s
 | _, _ => []
def wldOf (h g : Hst) : Wld := ⟨comsT h.l g.l, readsT h.l g.l⟩
theorem readsO_fill : ∀ (l : List Op4) (vs : List V2), lostN l ≤ vs.length → readsO l (fillO l vs) = vs.take (lostN l)
 | [], vs, _ => by simp [readsO, fillO, lostN]
 | o :: r, vs, h => by
  rw [lostN_cons] at h ⊢
  by_cases e : o.vk = 2
  ·rw [if_pos e] at h ⊢;obtain ⟨v, s, rfl⟩ : ∃ v s, vs = v :: s := by
    cases vs with
    | nil => simp at h
    | cons v s => exact ⟨v, s, rfl⟩
   rw [fillO, if_pos e, readsO, if_pos e, List.headD_cons, List.tail_cons, readsO_fill r s (by simp at h; omega), Nat.add_comm 1, List.take_succ_cons]
   rfl
  ·rw [if_neg e, Nat.zero_add] at h ⊢;rw [fillO, if_neg e, readsO, if_neg e, readsO_fill r vs h]
   rfl
theorem lostT_cons (t : Tx) (r : List Tx) : lostT (t :: r) = lostN t.ops + lostT r := by simp [lostT]
theorem readsT_fill : ∀ (l : List Tx) (cs : List Bool) (vs : List V2), lostT l ≤ vs.length → readsT l (fillT l cs vs) = vs.take (lostT l)
 | [], cs, vs, _ => by simp [readsT, fillT, lostT]
 | t :: r, cs, vs, h => by
  rw [lostT_cons] at h ⊢;rw [fillT, readsT, readsO_fill _ _ (by omega), readsT_fill r _ _ (by rw [List.length_drop]; omega), List.take_add]
theorem which_len (p : Tx → Bool) (l : List Tx) : (whichL p l).length = (l.filter p).length := by
 have H : ∀ (l : List Tx) (k : Nat), ((l.zipIdx k).filter fun x => p x.1).length = (l.filter p).length := by
  intro l
  induction l with
  | nil => intro k; rfl
  | cons t r ih =>
   intro k;rw [List.zipIdx_cons, List.filter_cons, List.filter_cons]
   by_cases h : p t = true
   ·rw [if_pos h, if_pos h, List.length_cons, List.length_cons, ih]
   ·rw [if_neg h, if_neg h, ih]
 unfold whichL;rw [List.length_map, H]
theorem rank_cons (t : Tx) (l : List Tx) (i : Nat) : rankL (t :: l) (i + 1) = (if t.f = 3 then 1 else 0) + rankL l i := by
 unfold rankL;rw [which_len, which_len, List.take_succ_cons, List.filter_cons]
 by_cases h : t.f = 3
 ·simp [infoB, h]; omega
 ·simp [infoB, h]
theorem comLw_cons (t : Tx) (l : List Tx) (c : List Bool) : comL (t :: l) c = (if t.f = 3 then c.headD false else decide (t.f = 1)) :: comL l (if t.f = 3 then c.tail else c) := by
 refine List.ext_getElem? fun i => ?_
 cases i with
 | zero =>
  rw [comL_get (t := t) rfl, List.getElem?_cons_zero];unfold comB
  by_cases h : t.f = 3
  ·rw [if_pos h, if_pos h];have : rankL (t :: l) 0 = 0 := rfl;rw [this]
   cases c <;> rfl
  ·rw [if_neg h, if_neg h]
 | succ i =>
  rw [List.getElem?_cons_succ]
  cases hi : l[i]? with
  | none => rw [List.getElem?_eq_none (by rw [comL_len]; simpa using hi), List.getElem?_eq_none (by rw [comL_len]; simpa using hi)]
  | some u =>
   rw [comL_get (t := u) (by rw [List.getElem?_cons_succ, hi]), comL_get hi];unfold comB;rw [rank_cons]
   by_cases hu : u.f = 3
   ·rw [if_pos hu, if_pos hu]
    by_cases h : t.f = 3
    ·rw [if_pos h, if_pos h]
     cases c <;> simp [Nat.add_comm 1]
    ·rw [if_neg h, if_neg h, Nat.zero_add]
   ·rw [if_neg hu, if_neg hu]
theorem comsT_fill : ∀ (l : List Tx) (c : List Bool) (vs : List V2), (l.filter infoB).length ≤ c.length → comsT l (fillT l (comL l c) vs) = c.take (l.filter infoB).length
 | [], c, vs, _ => by simp [comsT, fillT, comL]
 | t :: r, c, vs, h => by
  rw [comLw_cons, fillT, comsT, List.headD_cons, List.tail_cons];rw [List.filter_cons] at h ⊢
  by_cases e : t.f = 3
  ·have hi : infoB t = true := by simp [infoB, e]
   rw [if_pos hi, List.length_cons] at h ⊢;obtain ⟨b, d, rfl⟩ : ∃ b d, c = b :: d := by
    cases c with
    | nil => simp at h
    | cons b d => exact ⟨b, d, rfl⟩
   rw [if_pos e, if_pos e, if_pos e, List.tail_cons, comsT_fill r d _ (by simp at h; omega), List.take_succ_cons]
   cases b <;> simp
  ·have hi : ¬ infoB t = true := by simp [infoB, e]
   rw [if_neg hi] at h ⊢;rw [if_neg e, if_neg e, comsT_fill r c _ h]
   rfl
theorem wld_back (h : Hst) (w : Wld) (hc : w.c.length = (whichL infoB h.l).length) (hl : w.l.length = lostT h.l) : wldOf h (makeH h w) = w := by
 unfold wldOf makeH;dsimp only;rw [comsT_fill _ _ _ (by rw [hc, which_len]; exact Nat.le_refl _), readsT_fill _ _ _ (by omega), ← hl, List.take_length, ← which_len, ← hc, List.take_length]
def sameO (o p : Op4) : Prop := o.wr = p.wr ∧ o.key = p.key ∧ (o.vk ≠ 2 → o.vk = p.vk ∧ o.vn = p.vn)
def sameT (t u : Tx) : Prop := t.s = u.s ∧ (t.f ≠ 3 → t.f = u.f) ∧ t.ops.length = u.ops.length ∧ ∀ (k : Nat) (o p : Op4), t.ops[k]? = some o → u.ops[k]? = some p → sameO o p
theorem fill_reads : ∀ (l m : List Op4) (vs : List V2), l.length = m.length → (∀ (k : Nat) (o p : Op4), l[k]? = some o → m[k]? = some p → sameO o p) → fillO l (readsO l m ++ vs) = m
 | [], [], vs, _, _ => rfl
 | o :: r, p :: s, vs, hl, h => by
  have h0 := h 0 o p rfl rfl;have hr := fill_reads r s vs (by simpa using hl) (fun k a b ha hb => h (k + 1) a b (by simpa using ha) (by simpa using hb));rw [readsO, fillO];obtain ⟨h1, h2, h3⟩ := h0
  by_cases e : o.vk = 2
  ·rw [if_pos e, if_pos e];simp only [List.cons_append, List.nil_append, List.headD_cons, List.tail_cons];rw [hr, h1, h2]
  ·rw [if_neg e, if_neg e, List.nil_append, hr];obtain ⟨h4, h5⟩ := h3 e;obtain ⟨a, b, c, d⟩ := o;obtain ⟨a', b', c', d'⟩ := p;simp only at h1 h2 h4 h5;rw [h1, h2, h4, h5]
theorem readsO_len : ∀ (l m : List Op4), l.length = m.length → (readsO l m).length = lostN l
 | [], [], _ => rfl
 | o :: r, p :: s, h => by
  rw [readsO, lostN_cons, List.length_append, readsO_len r s (by simpa using h)]
  by_cases e : o.vk = 2
  ·rw [if_pos e, if_pos e]; rfl
  ·rw [if_neg e, if_neg e]; rfl
theorem fill_world : ∀ (l m : List Tx) (c : List Bool) (vs : List V2), l.length = m.length → (∀ (i : Nat) (t u : Tx), l[i]? = some t → m[i]? = some u → sameT t u ∧ (u.f = 1 ∨ u.f = 2)) →
  fillT l (comL l (comsT l m ++ c)) (readsT l m ++ vs) = m
 | [], [], c, vs, _, _ => rfl
 | t :: r, u :: s, c, vs, hl, h => by
  obtain ⟨⟨h1, h2, h3, h4⟩, h5⟩ := h 0 t u rfl rfl;have hr := fill_world r s c vs (by simpa using hl) (fun i a b ha hb => h (i + 1) a b (by simpa using ha) (by simpa using hb));rw [readsT, comsT, comLw_cons, fillT, List.headD_cons, List.tail_cons, List.append_assoc (if t.f = 3 then _ else _), List.append_assoc (readsO t.ops u.ops), fill_reads _ _ _ h3 h4, ← readsO_len _ _ h3, List.drop_left];have hf : ∀ b : Bool, (b = true ↔ u.f = 1) → (if b = true then (1 : Int) else 2) = u.f := fun b hb => by
   by_cases e : u.f = 1
   ·rw [if_pos (hb.2 e), e]
   ·rw [if_neg (fun k => e (hb.1 k))];rcases h5 with h5 | h5
    ·exact absurd h5 e
    ·exact h5.symm
  obtain ⟨us, uf, uo⟩ := u;simp only at h1 h2 hf
  by_cases e : t.f = 3
  ·rw [if_pos e, if_pos e, if_pos e];simp only [List.cons_append, List.nil_append, List.headD_cons, List.tail_cons];rw [hr, h1]
   congr 2
   exact hf _ (by simp)
  ·rw [if_neg e, if_neg e, if_neg e, List.nil_append, hr, h1]
   congr 2
   exact hf _ (by rw [h2 e]; simp)
theorem make_world (h g : Hst) (hs : h.ss = g.ss) (hk : h.ks = g.ks) (hl : h.l.length = g.l.length) (hm : ∀ (i : Nat) (t u : Tx), h.l[i]? = some t → g.l[i]? = some u → sameT t u ∧ (u.f = 1 ∨ u.f = 2)) : makeH h (wldOf h g) = g := by
 have := fill_world h.l g.l [] [] hl hm;rw [List.append_nil, List.append_nil] at this;unfold makeH wldOf;rw [hs, hk, this]
theorem fillO_inv : ∀ (l : List Op4) (vs : List V2) (k : Nat) (o p : Op4), l[k]? = some o → (fillO l vs)[k]? = some p → sameO o p
 | [], _, k, o, p, h, _ => by simp at h
 | a :: r, vs, k, o, p, h, hp => by
  rw [fillO] at hp
  cases k with
  | zero =>
   simp only [List.getElem?_cons_zero, Option.some.injEq] at h;subst h
   by_cases e : a.vk = 2
   ·rw [if_pos e] at hp;simp only [List.getElem?_cons_zero, Option.some.injEq] at hp;subst hp;exact ⟨rfl, rfl, fun k => absurd e k⟩
   ·rw [if_neg e] at hp;simp only [List.getElem?_cons_zero, Option.some.injEq] at hp;subst hp;exact ⟨rfl, rfl, fun _ => ⟨rfl, rfl⟩⟩
  | succ k =>
   rw [List.getElem?_cons_succ] at h
   by_cases e : a.vk = 2
   ·rw [if_pos e, List.getElem?_cons_succ] at hp;exact fillO_inv r _ k o p h hp
   ·rw [if_neg e, List.getElem?_cons_succ] at hp;exact fillO_inv r _ k o p h hp
theorem fillT_inv : ∀ (l : List Tx) (c : List Bool) (vs : List V2) (i : Nat) (t u : Tx), l[i]? = some t → (fillT l (comL l c) vs)[i]? = some u → (t.f = 1 ∨ t.f = 2 ∨ t.f = 3) → sameT t u ∧ (u.f = 1 ∨ u.f = 2)
 | [], _, _, i, t, u, h, _, _ => by simp at h
 | a :: r, c, vs, i, t, u, h, hu, hf => by
  rw [comLw_cons, fillT, List.headD_cons, List.tail_cons] at hu
  cases i with
  | zero =>
   simp only [List.getElem?_cons_zero, Option.some.injEq] at h hu;subst h;subst hu;refine ⟨⟨rfl, fun e => ?_, (fillO_len _ _).symm, fun k o p ho hp => fillO_inv _ _ k o p ho hp⟩, ?_⟩
   ·simp only;rw [if_neg e];rcases hf with hf | hf | hf
    ·simp [hf]
    ·simp [hf]
    ·exact absurd hf e
   ·show (if _ then (1 : Int) else 2) = 1 ∨ (if _ then (1 : Int) else 2) = 2
    generalize (if a.f = 3 then c.headD false else decide (a.f = 1)) = b
    cases b
    ·exact .inr rfl
    ·exact .inl rfl
  | succ i =>
   rw [List.getElem?_cons_succ] at h hu;exact fillT_inv r _ _ i t u h hu hf
theorem comsT_len : ∀ (l m : List Tx), l.length = m.length → (comsT l m).length = (l.filter infoB).length
 | [], [], _ => rfl
 | t :: r, u :: s, h => by
  rw [comsT, List.length_append, comsT_len r s (by simpa using h), List.filter_cons]
  by_cases e : t.f = 3
  ·rw [if_pos e, if_pos (by simp [infoB, e])]; simp; omega
  ·rw [if_neg e, if_neg (by simp [infoB, e])]; simp
theorem readsT_len : ∀ (l m : List Tx), l.length = m.length → (∀ (i : Nat) (t u : Tx), l[i]? = some t → m[i]? = some u → t.ops.length = u.ops.length) → (readsT l m).length = lostT l
 | [], [], _, _ => rfl
 | t :: r, u :: s, h, H => by
  rw [readsT, List.length_append, readsO_len _ _ (H 0 t u rfl rfl), lostT_cons, readsT_len r s (by simpa using h) (fun i a b ha hb => H (i + 1) a b (by simpa using ha) (by simpa using hb))]
theorem readsO_mem : ∀ (l m : List Op4) (v : V2), v ∈ readsO l m → ∃ p ∈ m, v = (p.vk, p.vn)
 | [], m, v, h => by cases m <;> simp [readsO] at h
 | o :: r, [], v, h => by simp [readsO] at h
 | o :: r, p :: s, v, h => by
  rw [readsO, List.mem_append] at h;rcases h with h | h
  ·by_cases e : o.vk = 2
   ·rw [if_pos e] at h;exact ⟨p, List.mem_cons_self, by simpa using h⟩
   ·rw [if_neg e] at h
    cases h
  ·obtain ⟨q, hq, e⟩ := readsO_mem r s v h;exact ⟨q, List.mem_cons_of_mem _ hq, e⟩
theorem readsT_mem : ∀ (l m : List Tx) (v : V2), v ∈ readsT l m → ∃ u ∈ m, ∃ p ∈ u.ops, v = (p.vk, p.vn)
 | [], m, v, h => by cases m <;> simp [readsT] at h
 | t :: r, [], v, h => by simp [readsT] at h
 | t :: r, u :: s, v, h => by
  rw [readsT, List.mem_append] at h;rcases h with h | h
  ·obtain ⟨p, hp, e⟩ := readsO_mem _ _ v h;exact ⟨u, List.mem_cons_self, p, hp, e⟩
  ·obtain ⟨q, hq, e⟩ := readsT_mem r s v h;exact ⟨q, List.mem_cons_of_mem _ hq, e⟩
theorem fillO_map {α : Type} (f : Op4 → α) (hf : ∀ (o : Op4) (a b : Int), f { o with vk := a, vn := b } = f o) : ∀ (l : List Op4) (vs : List V2), (fillO l vs).map f = l.map f
 | [], _ => rfl
 | o :: r, vs => by
  rw [fillO]
  by_cases e : o.vk = 2
  ·rw [if_pos e, List.map_cons, List.map_cons, fillO_map f hf r, hf]
  ·rw [if_neg e, List.map_cons, List.map_cons, fillO_map f hf r]
theorem fillT_s : ∀ (l : List Tx) (cs : List Bool) (vs : List V2), (fillT l cs vs).map Tx.s = l.map Tx.s
 | [], _, _ => rfl
 | t :: r, cs, vs => by rw [fillT, List.map_cons, List.map_cons, fillT_s r]
theorem keysL_fill : ∀ (l : List Tx) (cs : List Bool) (vs : List V2), keysL (fillT l cs vs) = keysL l
 | [], _, _ => rfl
 | t :: r, cs, vs => by
  have := keysL_fill r cs.tail (vs.drop (lostN t.ops));unfold keysL at this ⊢;rw [fillT, List.flatMap_cons, List.flatMap_cons, this, fillO_map Op4.key (fun _ _ _ => rfl)]
theorem fillO_ok (n1 : Nat) : ∀ (l : List Op4) (vs : List V2), (∀ v ∈ vs, okV v = true) → l.all (opB n1) = true → (fillO l vs).all (opB n1) = true ∧ (fillO l vs).all (fun o => decide (o.vk ≠ 2)) = true ∨ vs.length < lostN l
 | [], _, _, _ => .inl ⟨rfl, rfl⟩
 | o :: r, vs, hv, h => by
  rw [List.all_cons, Bool.and_eq_true] at h
  by_cases e : o.vk = 2
  ·cases vs with
   | nil => right; rw [lostN_cons, if_pos e]; simp; omega
   | cons v s =>
    rcases fillO_ok n1 r s (fun x hx => hv x (List.mem_cons_of_mem _ hx)) h.2 with ⟨h1, h2⟩ | h1
    ·left
     have hk := hv v List.mem_cons_self;have ho := h.1;unfold opB at ho;rw [Bool.and_eq_true, Bool.and_eq_true] at ho;have hw : o.wr = false := by
      have := ho.2.2;rw [e] at this
      simpa using this
     rw [fillO, if_pos e, List.all_cons, List.all_cons, List.headD_cons, List.tail_cons, h1, h2, Bool.and_true, Bool.and_true];unfold okV at hk;unfold opB mayB;refine ⟨?_, ?_⟩
     ·rw [Bool.and_eq_true, Bool.and_eq_true];refine ⟨ho.1, ?_, by rw [hw]; rfl⟩;simp only [Bool.or_eq_true, Bool.and_eq_true, decide_eq_true_eq] at hk ⊢;rcases hk with hk | hk
      ·exact .inl hk
      ·exact .inr ⟨.inl hk.1, hk.2⟩
     ·simp only [Bool.or_eq_true, Bool.and_eq_true, decide_eq_true_eq] at hk ⊢;rcases hk with hk | hk <;> omega
    ·right; rw [lostN_cons, if_pos e, List.length_cons]; omega
  ·rcases fillO_ok n1 r vs hv h.2 with ⟨h1, h2⟩ | h1
   ·left
    rw [fillO, if_neg e, List.all_cons, List.all_cons, h1, h2, h.1];simp [e]
   ·right; rw [lostN_cons, if_neg e]; omega
def knownT (t : Tx) : Bool := decide (t.f ≠ 3) && t.ops.all fun o => decide (o.vk ≠ 2)
def wholeB (h : Hst) : Bool := mayH h && h.l.all knownT
theorem fillT_ok (n0 n1 : Nat) : ∀ (l : List Tx) (cs : List Bool) (vs : List V2), (∀ v ∈ vs, okV v = true) → l.all (txB n0) = true → l.all (fun t => t.ops.all (opB n1)) = true → lostT l ≤ vs.length →
  (fillT l cs vs).all (txB n0) = true ∧ (fillT l cs vs).all (fun t => t.ops.all (opB n1)) = true ∧ (fillT l cs vs).all knownT = true
 | [], _, _, _, _, _, _ => ⟨rfl, rfl, rfl⟩
 | t :: r, cs, vs, hv, h0, h1, hl => by
  rw [List.all_cons, Bool.and_eq_true] at h0 h1;rw [lostT_cons] at hl;obtain ⟨r0, r1, r2⟩ := fillT_ok n0 n1 r cs.tail (vs.drop (lostN t.ops)) (fun v h => hv v (List.mem_of_mem_drop h)) h0.2 h1.2 (by rw [List.length_drop]; omega);rcases fillO_ok n1 t.ops vs hv h1.1 with ⟨o0, o1⟩ | o0
  ·rw [fillT, List.all_cons, List.all_cons, List.all_cons, r0, r1, r2, o0];have ht := h0.1;unfold txB fateB at ht ⊢;rw [Bool.and_eq_true, Bool.and_eq_true] at ht;have hf : ∀ b : Bool, (if b = true then (1 : Int) else 2) = 1 ∨ (if b = true then (1 : Int) else 2) = 2 := fun b => by cases b <;> simp
   refine ⟨?_, rfl, ?_⟩
   ·rw [Bool.and_true, Bool.and_eq_true, Bool.and_eq_true, fillO_len];exact ⟨ht.1, by rcases hf (cs.headD false) with e | e <;> rw [e] <;> rfl, ht.2.2⟩
   ·unfold knownT;rw [o1, Bool.and_true, Bool.and_true];rcases hf (cs.headD false) with e | e <;> rw [e] <;> rfl
  ·omega
theorem whole_make (h : Hst) (w : Wld) (hm : mayH h = true) (hl : w.l.length = lostT h.l) (hv : w.l.all okV = true) : wholeB (makeH h w) = true := by
 unfold mayH at hm;rw [Bool.and_eq_true, Bool.and_eq_true, Bool.and_eq_true] at hm;obtain ⟨h0, h1, h2, h3⟩ := hm;unfold txsB at h2;unfold opsB at h3;rw [Bool.and_eq_true, Bool.and_eq_true] at h2;rw [Bool.and_eq_true] at h3;obtain ⟨r0, r1, r2⟩ := fillT_ok h.ss.length h.ks.length h.l (comL h.l w.c) w.l (fun v hvm => List.all_eq_true.1 hv v hvm) h2.2.1 h3.1 (by omega);unfold wholeB makeH;dsimp only;rw [r2, Bool.and_true];unfold mayH txsB opsB;dsimp only;rw [h0, h1, r0, r1, fillT_s, keysL_fill, fillT_len, h2.1, h2.2.2, h3.2]
 rfl
theorem whole_fate {g : Hst} (hw : wholeB g = true) {i : Nat} {u : Tx} (h : g.l[i]? = some u) : (u.f = 1 ∨ u.f = 2) ∧ ∀ o ∈ u.ops, o.vk ≠ 2 := by
 unfold wholeB at hw;rw [Bool.and_eq_true] at hw;obtain ⟨hm, hk⟩ := hw;have hu := List.all_eq_true.1 hk u (List.mem_of_getElem? h);unfold knownT at hu;rw [Bool.and_eq_true, decide_eq_true_eq] at hu;unfold mayH at hm;rw [Bool.and_eq_true, Bool.and_eq_true, Bool.and_eq_true] at hm;have ht := hm.2.2.1;unfold txsB at ht;rw [Bool.and_eq_true, Bool.and_eq_true] at ht;have ht := List.all_eq_true.1 ht.2.1 u (List.mem_of_getElem? h);unfold txB fateB at ht;rw [Bool.and_eq_true, Bool.and_eq_true, decide_eq_true_eq, decide_eq_true_eq] at ht;refine ⟨by have := ht.2.1; have := hu.1; omega, fun o ho => ?_⟩;have := List.all_eq_true.1 hu.2 o ho
 simpa using this
theorem lostN_none {l : List Op4} (h : ∀ o ∈ l, o.vk ≠ 2) : lostN l = 0 := by
 unfold lostN;rw [List.length_eq_zero_iff, List.filter_eq_nil_iff];intro o ho;simp [h o ho]
theorem whole_zero {g : Hst} (hw : wholeB g = true) : (g.l.filter infoB).length = 0 ∧ lostT g.l = 0 := by
 refine ⟨?_, ?_⟩
 ·rw [List.length_eq_zero_iff, List.filter_eq_nil_iff];intro u hu;obtain ⟨i, hi⟩ := List.getElem?_of_mem hu;have := (whole_fate hw hi).1;simp only [infoB, decide_eq_true_eq];omega
 ·unfold lostT;have : g.l.map (fun t => lostN t.ops) = g.l.map fun _ => 0 := by
   refine List.map_congr_left fun u hu => ?_;obtain ⟨i, hi⟩ := List.getElem?_of_mem hu;exact lostN_none (whole_fate hw hi).2
  rw [this];have : ∀ l : List Tx, (l.map fun _ => 0).sum = 0 := by
   intro l
   induction l with
   | nil => rfl
   | cons a r ih => rw [List.map_cons, List.sum_cons, ih]
  exact this g.l
theorem make_empty {g : Hst} (hw : wholeB g = true) : makeH g ⟨[], []⟩ = g := by
 have h := make_world g g rfl rfl rfl (fun i t u ht hu => by
  rw [ht] at hu
  cases hu
  exact ⟨⟨rfl, fun _ => rfl, rfl, fun k o p ho hp => by rw [ho] at hp; cases hp; exact ⟨rfl, rfl, fun _ => ⟨rfl, rfl⟩⟩⟩, (whole_fate hw ht).1⟩)
 obtain ⟨h0, h1⟩ := whole_zero hw;have e : wldOf g g = ⟨[], []⟩ := by
  unfold wldOf;rw [List.length_eq_zero_iff.1 ((comsT_len g.l g.l rfl).trans h0), List.length_eq_zero_iff.1 ((readsT_len g.l g.l rfl (fun i t u ht hu => by rw [ht] at hu; cases hu; rfl)).trans h1)]
 rwa [e] at h
theorem plsT_lost (i : Nat) (l : List Op4) : ((plsT i l).filter fun x => decide (x.2.2.vk = 2)).length = lostN l := by
 have H : ∀ (l : List Op4) (k : Nat), (((l.zipIdx k).map fun x => ((i, x.2, x.1) : Pl)).filter fun x => decide (x.2.2.vk = 2)).length = lostN l := by
  intro l
  induction l with
  | nil => intro k; rfl
  | cons o r ih =>
   intro k;rw [List.zipIdx_cons, List.map_cons, List.filter_cons, lostN_cons]
   by_cases h : o.vk = 2
   ·rw [if_pos (by simpa using h), if_pos h, List.length_cons, ih]; omega
   ·rw [if_neg (by simpa using h), if_neg h, ih]; omega
 exact H l 0
theorem lostXw_len (l : List Tx) : (lostX l).length = lostT l := by
 have H : ∀ (l : List Tx) (k : Nat), (((l.zipIdx k).flatMap fun x => plsT x.2 x.1.ops).filter fun x => decide (x.2.2.vk = 2)).length = lostT l := by
  intro l
  induction l with
  | nil => intro k; rfl
  | cons t r ih =>
   intro k;rw [List.zipIdx_cons, List.flatMap_cons, List.filter_append, List.length_append, plsT_lost, ih, lostT_cons]
 exact H l 0
end Go.Proofs.YtghimogdeijgdaaGreatDoor
