/- Parts. -/
import Derived.Test.YthdofaoamljkfaaGreatDoorLaw24AllK10
set_option maxRecDepth 10000
set_option maxHeartbeats 16000000
set_option linter.unusedVariables false
set_option linter.unusedSimpArgs false
namespace Go.Proofs.YthdofaoamljkfaaGreatDoor
theorem which_upto {p : Tx → Bool} {l : List Tx} : ∀ k, k ≤ l.length → ∀ (q : Nat) (z : Int), (whichL p (l.take k))[q]? = some z → ∃ (i : Nat) (t : Tx), z = (i : Int) ∧ i < k ∧ l[i]? = some t ∧ p t = true ∧ (whichL p (l.take i)).length = q := by
 intro k
 induction k with
 | zero => intro _ q z h; simp [whichL] at h
 | succ k ih =>
  intro hk q z h;obtain ⟨t, ht⟩ : ∃ t, l[k]? = some t := ⟨_, List.getElem?_eq_getElem (by omega)⟩;rw [which_take ht] at h
  by_cases hq : q < (whichL p (l.take k)).length
  ·rw [List.getElem?_append_left hq] at h;obtain ⟨i, t', h1, h2, h3⟩ := ih (by omega) q z h;exact ⟨i, t', h1, by omega, h3⟩
  ·rw [List.getElem?_append_right (by omega)] at h
   by_cases hp : p t = true
   ·rw [if_pos hp] at h;have h0 : q - (whichL p (l.take k)).length = 0 := by
     cases hd : q - (whichL p (l.take k)).length with
     | zero => rfl
     | succ d => rw [hd] at h; simp at h
    rw [h0] at h;simp at h;exact ⟨k, t, h.symm, by omega, ht, hp, by omega⟩
   ·rw [if_neg hp] at h;simp at h
theorem which_get {p : Tx → Bool} {l : List Tx} {q : Nat} {z : Int} (h : (whichL p l)[q]? = some z) : ∃ (i : Nat) (t : Tx), z = (i : Int) ∧ l[i]? = some t ∧ p t = true ∧ (whichL p (l.take i)).length = q := by
 rw [← List.take_length (l := l)] at h;obtain ⟨i, t, h1, -, h2⟩ := which_upto _ (Nat.le_refl _) q z h;exact ⟨i, t, h1, h2⟩
def infoB (t : Tx) : Bool := decide (t.f = 3)
def lostX (l : List Tx) : List Pl := (plsL l).filter fun x => decide (x.2.2.vk = 2)
theorem lostP_eq (l : List Tx) : lostP (plsL l) = (lostX l).map fun x => ((x.1 : Int), (x.2.1 : Int)) := rfl
section
variable {α : Type} [BEq α]
def nextOf (vs : List α) (x : α) : Option α := vs[vs.idxOf x + 1]?
def upL (d : α) : List (List α) → List α → Option (List α)
 | vs :: r, x :: xs =>
  match upL d r xs with
  | some ys => some (x :: ys)
  | none => (nextOf vs x).map fun y => y :: r.map fun us => us.headD d
 | _, _ => none
def headsL (d : α) (vals : List (List α)) : List α := vals.map fun us => us.headD d
def prodL : List (List α) → List (List α)
 | [] => [[]]
 | vs :: r => vs.flatMap fun v => (prodL r).map fun xs => v :: xs
variable {d : α}
theorem upL_cons {vs : List α} {r : List (List α)} {x : α} {xs : List α} : upL d (vs :: r) (x :: xs) = match upL d r xs with
  | some ys => some (x :: ys)
  | none => (nextOf vs x).map fun y => y :: headsL d r := rfl
theorem upL_pre : ∀ {v1 v2 : List (List α)} {l1 l2 ys : List α}, v1.length = l1.length → upL d v2 l2 = some ys → upL d (v1 ++ v2) (l1 ++ l2) = some (l1 ++ ys)
 | [], v2, [], l2, ys, _, h => h
 | vs :: v1, v2, x :: l1, l2, ys, hl, h => by
  have := upL_pre (v1 := v1) (l1 := l1) (by simpa using hl) h;rw [List.cons_append, List.cons_append, upL_cons, this]
  rfl
 | [], v2, x :: l1, l2, ys, hl, h => by simp at hl
 | vs :: v1, v2, [], l2, ys, hl, h => by simp at hl
theorem drop_cons {β : Type} {l : List β} {i : Nat} {x : β} (h : l[i]? = some x) : l.drop i = x :: l.drop (i + 1) := by
 obtain ⟨hi, rfl⟩ := List.getElem?_eq_some_iff.1 h;exact List.drop_eq_getElem_cons hi
theorem upL_at {vals : List (List α)} {l : List α} {i : Nat} {vs : List α} {x y : α} (hv : vals[i]? = some vs) (hx : l[i]? = some x) (hn : upL d (vals.drop (i + 1)) (l.drop (i + 1)) = none) (hy : nextOf vs x = some y) :
  upL d vals l = some (l.take i ++ y :: headsL d (vals.drop (i + 1))) := by
 have h1 : upL d (vals.drop i) (l.drop i) = some (y :: headsL d (vals.drop (i + 1))) := by
  rw [drop_cons hv, drop_cons hx, upL_cons, hn, hy]
  rfl
 have hi := (List.getElem?_eq_some_iff.1 hv).1;have hj := (List.getElem?_eq_some_iff.1 hx).1;have := upL_pre (d := d) (v1 := vals.take i) (l1 := l.take i) (by rw [List.length_take, List.length_take]; omega) h1
 rwa [List.take_append_drop, List.take_append_drop] at this
theorem upL_on {vals : List (List α)} {l : List α} {i : Nat} {vs : List α} {x : α} (hv : vals[i]? = some vs) (hx : l[i]? = some x) (hn : upL d (vals.drop (i + 1)) (l.drop (i + 1)) = none) (hy : nextOf vs x = none) :
  upL d (vals.drop i) (l.drop i) = none := by
 rw [drop_cons hv, drop_cons hx, upL_cons, hn, hy]
 rfl
theorem upL_end {vals : List (List α)} {l : List α} {n : Nat} (h1 : vals.length ≤ n) : upL d (vals.drop n) (l.drop n) = none := by
 rw [List.drop_of_length_le h1]
 rfl
end
def lostN (l : List Op4) : Nat := (l.filter fun o => decide (o.vk = 2)).length
def lostT (l : List Tx) : Nat := (l.map fun t => lostN t.ops).sum
theorem lostN_cons (o : Op4) (r : List Op4) : lostN (o :: r) = (if o.vk = 2 then 1 else 0) + lostN r := by
 unfold lostN
 by_cases h : o.vk = 2
 ·simp [List.filter_cons, h]; omega
 ·simp [List.filter_cons, h]
theorem lostT_cons (t : Tx) (r : List Tx) : lostT (t :: r) = lostN t.ops + lostT r := by simp [lostT]
theorem which_len (p : Tx → Bool) (l : List Tx) : (whichL p l).length = (l.filter p).length := by
 have H : ∀ (l : List Tx) (k : Nat), ((l.zipIdx k).filter fun x => p x.1).length = (l.filter p).length := by
  intro l
  induction l with
  | nil => intro k; rfl
  | cons t r ih =>
   intro k;rw [List.zipIdx_cons, List.filter_cons, List.filter_cons]
   by_cases h : p t = true
   ·rw [if_pos h, if_pos h, List.length_cons, List.length_cons, ih]
   ·rw [if_neg h, if_neg h, ih]
 unfold whichL;rw [List.length_map, H]
def knownT (t : Tx) : Bool := decide (t.f ≠ 3) && t.ops.all fun o => decide (o.vk ≠ 2)
def wholeB (h : Hst) : Bool := mayH h && h.l.all knownT
theorem plsT_lost (i : Nat) (l : List Op4) : ((plsT i l).filter fun x => decide (x.2.2.vk = 2)).length = lostN l := by
 have H : ∀ (l : List Op4) (k : Nat), (((l.zipIdx k).map fun x => ((i, x.2, x.1) : Pl)).filter fun x => decide (x.2.2.vk = 2)).length = lostN l := by
  intro l
  induction l with
  | nil => intro k; rfl
  | cons o r ih =>
   intro k;rw [List.zipIdx_cons, List.map_cons, List.filter_cons, lostN_cons]
   by_cases h : o.vk = 2
   ·rw [if_pos (by simpa using h), if_pos h, List.length_cons, ih]; omega
   ·rw [if_neg (by simpa using h), if_neg h, ih]; omega
 exact H l 0
theorem lostXw_len (l : List Tx) : (lostX l).length = lostT l := by
 have H : ∀ (l : List Tx) (k : Nat), (((l.zipIdx k).flatMap fun x => plsT x.2 x.1.ops).filter fun x => decide (x.2.2.vk = 2)).length = lostT l := by
  intro l
  induction l with
  | nil => intro k; rfl
  | cons t r ih =>
   intro k;rw [List.zipIdx_cons, List.flatMap_cons, List.filter_append, List.length_append, plsT_lost, ih, lostT_cons]
 exact H l 0
def Goes {β : Type} (f : β → Option β) (L : List β) : Prop := ∀ (i : Nat) (x : β), L[i]? = some x → f x = L[i + 1]?
theorem Goes.tail {β : Type} {f : β → Option β} {a : β} {L : List β} (h : Goes f (a :: L)) : Goes f L := fun i x hx => by
 have := h (i + 1) x (by simpa using hx)
 simpa using this
theorem Goes.head {β : Type} {f : β → Option β} {a : β} {L : List β} (h : Goes f (a :: L)) : f a = L[0]? := by
 have := h 0 a rfl
 simpa using this
theorem goes_flat {α β : Type} {g : α → Option α} {B : α → List β} {F : β → Option β} {hd : α → β} : ∀ {A : List α}, Goes g A → (∀ a ∈ A, (B a)[0]? = some (hd a)) →
  (∀ a ∈ A, ∀ (i : Nat) (x : β), (B a)[i]? = some x → F x = match (B a)[i + 1]? with | some y => some y | none => (g a).map hd) → Goes F (A.flatMap B)
 | [], _, _, _ => fun i x hx => by simp at hx
 | a :: A, hg, hh, hF => by
  have ih := goes_flat (A := A) hg.tail (fun b hb => hh b (List.mem_cons_of_mem _ hb)) (fun b hb => hF b (List.mem_cons_of_mem _ hb));have h0 := hg.head;have hz : (A.flatMap B)[0]? = (g a).map hd := by
   rw [h0]
   cases A with
   | nil => rfl
   | cons b A =>
    have := hh b (by simp);rw [List.flatMap_cons, List.getElem?_append_left (by rcases hB : B b with _ | ⟨u, v⟩ <;> rw [hB] at this <;> simp at this ⊢), this]
    rfl
  intro i x hx;rw [List.flatMap_cons] at hx ⊢
  by_cases hi : i < (B a).length
  ·rw [List.getElem?_append_left hi] at hx;rw [hF a (by simp) i x hx]
   by_cases hj : i + 1 < (B a).length
   ·rw [List.getElem?_append_left hj, List.getElem?_eq_getElem hj]
   ·rw [List.getElem?_eq_none (by omega), List.getElem?_append_right (by omega), show i + 1 - (B a).length = 0 by omega, hz]
  ·rw [List.getElem?_append_right (by omega)] at hx ⊢;rw [show i + 1 - (B a).length = i - (B a).length + 1 by omega];exact ih _ _ hx
theorem Goes.inj {β : Type} {f : β → Option β} {L : List β} (h : Goes f L) {i j : Nat} {x : β} (hi : L[i]? = some x) (hj : L[j]? = some x) : i = j := by
 have key : ∀ (k i j : Nat) (x : β), L.length - j ≤ k → i < j → L[i]? = some x → L[j]? = some x → False := by
  intro k
  induction k with
  | zero => intro i j x hk hij hi hj; have := (List.getElem?_eq_some_iff.1 hj).1; omega
  | succ k ih =>
   intro i j x hk hij hi hj;have h1 := h i x hi;have h2 := h j x hj;have hjl := (List.getElem?_eq_some_iff.1 hj).1;have hil : L[i + 1]? = some L[i + 1] := List.getElem?_eq_getElem (by omega);exact ih (i + 1) (j + 1) L[i + 1] (by omega) (by omega) hil (by rw [← h2, h1, hil])
 rcases Nat.lt_trichotomy i j with hij | hij | hij
 ·exact (key _ i j x (Nat.le_refl _) hij hi hj).elim
 ·exact hij
 ·exact (key _ j i x (Nat.le_refl _) hij hj hi).elim
theorem nextOf_goes {α : Type} [BEq α] [LawfulBEq α] {vs : List α} (hn : vs.Nodup) : Goes (nextOf vs) vs := by
 intro i x hx;unfold nextOf;obtain ⟨hi, rfl⟩ := List.getElem?_eq_some_iff.1 hx;rw [List.Nodup.idxOf_getElem hn i hi]
theorem prodL_zero {α : Type} [BEq α] {d : α} : ∀ {vals : List (List α)}, (∀ vs ∈ vals, vs ≠ []) → (prodL vals)[0]? = some (headsL d vals)
 | [], _ => rfl
 | vs :: r, h => by
  have ih := prodL_zero (d := d) (vals := r) (fun x hx => h x (List.mem_cons_of_mem _ hx));obtain ⟨v, t, rfl⟩ : ∃ v t, vs = v :: t := by
   cases vs with
   | nil => exact absurd rfl (h [] (by simp))
   | cons v t => exact ⟨v, t, rfl⟩
  unfold prodL;rw [List.flatMap_cons];rw [List.getElem?_append_left (by rw [List.length_map]; exact (List.getElem?_eq_some_iff.1 ih).1), List.getElem?_map, ih]
  rfl
theorem prodL_goes {α : Type} [BEq α] [LawfulBEq α] {d : α} : ∀ {vals : List (List α)}, (∀ vs ∈ vals, vs ≠ [] ∧ vs.Nodup) → Goes (upL d vals) (prodL vals)
 | [], _ => fun i x hx => by
  cases i with
  | zero => simp [prodL] at hx ⊢; subst hx; rfl
  | succ i => simp [prodL] at hx
 | vs :: r, h => by
  have ih := prodL_goes (d := d) (vals := r) (fun x hx => h x (List.mem_cons_of_mem _ hx));have h0 := prodL_zero (d := d) (vals := r) (fun x hx => (h x (List.mem_cons_of_mem _ hx)).1);have hv := h vs (by simp);unfold prodL;refine goes_flat (g := nextOf vs) (hd := fun v => v :: headsL d r) (nextOf_goes hv.2) (fun a ha => by rw [List.getElem?_map, h0]; rfl) ?_;intro a ha i x hx;rw [List.getElem?_map] at hx ⊢
  cases hp : (prodL r)[i]? with
  | none => rw [hp] at hx; simp at hx
  | some xs =>
   rw [hp] at hx;simp at hx;subst hx;rw [upL_cons, ih i xs hp]
   cases (prodL r)[i + 1]? <;> rfl
theorem prodL_mem {α : Type} : ∀ {vals : List (List α)} {l : List α}, l ∈ prodL vals → l.length = vals.length ∧ ∀ (i : Nat) (vs : List α) (x : α), vals[i]? = some vs → l[i]? = some x → x ∈ vs
 | [], l, h => by
  simp [prodL] at h;subst h;exact ⟨rfl, fun i vs x hv => by simp at hv⟩
 | us :: r, l, h => by
  unfold prodL at h;obtain ⟨v, hv, hl⟩ := List.mem_flatMap.1 h;obtain ⟨xs, hx, rfl⟩ := List.mem_map.1 hl;obtain ⟨h1, h2⟩ := prodL_mem hx;refine ⟨by simp [h1], fun i vs x hvs hxs => ?_⟩
  cases i with
  | zero => simp at hvs hxs; subst hvs hxs; exact hv
  | succ i => exact h2 i vs x (by simpa using hvs) (by simpa using hxs)
/-! ### Sums and products, held at a million -/
open Go.Lib hiding intOf
def outAt (ops : List Op4) (i : Nat) (o : Op4) : Bool := !o.wr && !(leftW o.key (ops.take i)).isSome
def outI (ops : List Op4) : List Int := (ops.zipIdx.filter fun x => outAt ops x.2 x.1).map fun x => (x.2 : Int)
def outT (t : Tx) (i : Int) : List (Int × Int) := if t.f = 1 then (outI t.ops).map fun k => (i, k) else []
def rdsL (l : List Tx) : List (Int × Int) := l.zipIdx.flatMap fun x => outT x.1 (x.2 : Int)
def choL (h : Hst) : List (List Int) := (rdsL h.l).map fun p => wrOf h p.1 p.2
def leavs (key : Int) (v : Int × Int) (l : List Tx) : List Int := (l.zipIdx.filter fun x => decide (x.1.f = 1) && decide (leftW key x.1.ops = some v)).map fun x => (x.2 : Int)
theorem outI_step {ops : List Op4} {k : Nat} {o : Op4} (h : ops[k]? = some o) : ((ops.take (k + 1)).zipIdx.filter fun x => outAt ops x.2 x.1).map (fun x => (x.2 : Int)) = ((ops.take k).zipIdx.filter fun x => outAt ops x.2 x.1).map (fun x => (x.2 : Int)) ++ if outAt ops k o = true then [(k : Int)] else [] := by
 have hk := (List.getElem?_eq_some_iff.1 h).1;rw [List.take_add_one, h, Option.toList_some, List.zipIdx_append, List.filter_append, List.map_append, List.length_take, Nat.min_eq_left (Nat.le_of_lt hk)]
 congr 1
 cases hp : outAt ops k o <;> simp [hp, List.zipIdx]
def outN (ops : List Op4) (k : Nat) : List Int := ((ops.take k).zipIdx.filter fun x => outAt ops x.2 x.1).map fun x => (x.2 : Int)
theorem outN_step {ops : List Op4} {k : Nat} {o : Op4} (h : ops[k]? = some o) : outN ops (k + 1) = outN ops k ++ if outAt ops k o = true then [(k : Int)] else [] := outI_step h
theorem outN_all (ops : List Op4) {k : Nat} (h : ops.length ≤ k) : outN ops k = outI ops := by
 unfold outN outI;rw [List.take_of_length_le h]
theorem outN_le (ops : List Op4) (k : Nat) : (outN ops k).length ≤ k := by
 unfold outN;rw [List.length_map];refine Nat.le_trans (List.length_filter_le _ _) ?_;rw [List.length_zipIdx, List.length_take];omega
theorem outI_mem {ops : List Op4} {k : Int} (h : k ∈ outI ops) : ∃ (i : Nat) (o : Op4), k = (i : Int) ∧ ops[i]? = some o ∧ outAt ops i o = true := by
 unfold outI at h;obtain ⟨⟨o, i⟩, hx, rfl⟩ := List.mem_map.1 h;obtain ⟨h1, h2⟩ := List.mem_filter.1 hx;exact ⟨i, o, rfl, (List.mem_zipIdx_iff_getElem?.1 h1), h2⟩
theorem rdsL_take {l : List Tx} {k : Nat} {t : Tx} (h : l[k]? = some t) : rdsL (l.take (k + 1)) = rdsL (l.take k) ++ outT t (k : Int) := by
 have hk := (List.getElem?_eq_some_iff.1 h).1;unfold rdsL;rw [List.take_add_one, h, Option.toList_some, List.zipIdx_append, List.flatMap_append, List.length_take, Nat.min_eq_left (Nat.le_of_lt hk)];simp [List.zipIdx]
theorem rdsL_mem {l : List Tx} {p : Int × Int} (h : p ∈ rdsL l) : ∃ (i : Nat) (t : Tx) (k : Nat) (o : Op4), p = ((i : Int), (k : Int)) ∧ l[i]? = some t ∧ t.f = 1 ∧ t.ops[k]? = some o ∧ outAt t.ops k o = true := by
 unfold rdsL at h;obtain ⟨⟨t, i⟩, hx, hp⟩ := List.mem_flatMap.1 h;have h1 := List.mem_zipIdx_iff_getElem?.1 hx;unfold outT at hp
 by_cases hf : t.f = 1
 ·rw [if_pos hf] at hp;obtain ⟨k, hk, rfl⟩ := List.mem_map.1 hp;obtain ⟨j, o, rfl, h2, h3⟩ := outI_mem hk;exact ⟨i, t, j, o, rfl, h1, hf, h2, h3⟩
 ·rw [if_neg hf] at hp
  cases hp
theorem leavs_take {key : Int} {v : Int × Int} {l : List Tx} {k : Nat} {t : Tx} (h : l[k]? = some t) : leavs key v (l.take (k + 1)) = leavs key v (l.take k) ++ if t.f = 1 ∧ leftW key t.ops = some v then [(k : Int)] else [] := by
 have hk := (List.getElem?_eq_some_iff.1 h).1;unfold leavs;rw [List.take_add_one, h, Option.toList_some, List.zipIdx_append, List.filter_append, List.map_append, List.length_take, Nat.min_eq_left (Nat.le_of_lt hk)]
 congr 1
 by_cases hp : t.f = 1 ∧ leftW key t.ops = some v
 ·rw [if_pos hp];simp [List.zipIdx, hp.1, hp.2]
 ·rw [if_neg hp];have : (decide (t.f = 1) && decide (leftW key t.ops = some v)) = false := by
   rw [Bool.and_eq_false_iff]
   by_cases h1 : t.f = 1
   ·exact .inr (decide_eq_false (fun e => hp ⟨h1, e⟩))
   ·exact .inl (decide_eq_false h1)
  simp [List.zipIdx, this]
theorem leavs_filter (key : Int) (v : Int × Int) (a : Int) (hv : v.1 ≠ 2) : ∀ (l : List Tx) (n : Nat), (∀ t ∈ l, t.f = 1 ∨ t.f = 2) →
  ((l.zipIdx n).filter fun x => fitsO v (forT a key x.2 x.1)).map (fun x => (x.2 : Int)) = (((l.zipIdx n).filter fun x => decide (x.1.f = 1) && decide (leftW key x.1.ops = some v)).map fun x => (x.2 : Int)).filter fun i => decide (i ≠ a)
 | [], _, _ => rfl
 | t :: r, n, h => by
  have ih := leavs_filter key v a hv r (n + 1) (fun x hx => h x (List.mem_cons_of_mem _ hx));have ht := h t List.mem_cons_self;rw [List.zipIdx_cons, List.filter_cons, List.filter_cons]
  by_cases h1 : t.f = 1 ∧ leftW key t.ops = some v
  ·have e1 : (decide (t.f = 1) && decide (leftW key t.ops = some v)) = true := by simp [h1.1, h1.2]
   dsimp only;rw [if_pos e1, List.map_cons, List.filter_cons]
   by_cases h2 : (n : Int) = a
   ·have e2 : fitsO v (forT a key n t) = false := by unfold forT; rw [if_pos (.inl h2)]; rfl
    rw [if_neg (by rw [e2]; decide), if_neg (by simp [h2])];exact ih
   ·have e2 : fitsO v (forT a key n t) = true := by
     unfold forT;rw [if_neg (by rw [h1.1]; intro e; rcases e with e | e; exact h2 e; omega), h1.2];simp [fitsO, fitsV]
    rw [if_pos e2, if_pos (by simp [h2]), List.map_cons, ih]
  ·have e1 : (decide (t.f = 1) && decide (leftW key t.ops = some v)) = false := by
    rw [Bool.and_eq_false_iff]
    by_cases h3 : t.f = 1
    ·exact .inr (decide_eq_false (fun e => h1 ⟨h3, e⟩))
    ·exact .inl (decide_eq_false h3)
   have e2 : fitsO v (forT a key n t) = false := by
    unfold forT
    by_cases h2 : (n : Int) = a ∨ t.f = 2
    ·rw [if_pos h2]; rfl
    ·rw [if_neg h2];have h3 : t.f = 1 := by rcases ht with ht | ht; exact ht; exact absurd (.inr ht) h2
     cases hL : leftW key t.ops with
     | none => rfl
     | some u =>
      simp only [fitsO, fitsV, Bool.or_eq_false_iff, decide_eq_false_iff_not];exact ⟨hv, fun e => h1 ⟨h3, by rw [hL, e]⟩⟩
   dsimp only;rw [e1, e2]
   simpa using ih
theorem whole_fates {h : Hst} (hw : wholeB h = true) (hf : ∀ t ∈ h.l, t.f = 1 ∨ t.f = 2 ∨ t.f = 3) : ∀ t ∈ h.l, t.f = 1 ∨ t.f = 2 := fun t ht => by
 unfold wholeB at hw;rw [Bool.and_eq_true] at hw;have h1 := List.all_eq_true.1 hw.2 t ht;unfold knownT at h1;rw [Bool.and_eq_true] at h1;have h2 : t.f ≠ 3 := of_decide_eq_true h1.1;rcases hf t ht with e | e | e
 ·exact .inl e
 ·exact .inr e
 ·exact absurd e h2
theorem whole_kinds {h : Hst} (hw : wholeB h = true) {t : Tx} (ht : t ∈ h.l) {o : Op4} (ho : o ∈ t.ops) : o.vk ≠ 2 := by
 unfold wholeB at hw;rw [Bool.and_eq_true] at hw;have h1 := List.all_eq_true.1 hw.2 t ht;unfold knownT at h1;rw [Bool.and_eq_true] at h1;exact of_decide_eq_true (List.all_eq_true.1 h1.2 o ho)
def cntM (c : List (List Int)) : Nat := c.foldl (fun n l => min (n * l.length) 1000000) 1
theorem cntM_snoc (c : List (List Int)) (l : List Int) : cntM (c ++ [l]) = min (cntM c * l.length) 1000000 := by unfold cntM; rw [List.foldl_append]; rfl
theorem cntM_le (c : List (List Int)) : cntM c ≤ 1000000 := by
 rcases List.eq_nil_or_concat c with rfl | ⟨d, l, rfl⟩
 ·decide
 ·rw [List.concat_eq_append, cntM_snoc];exact Nat.min_le_right _ _
def allM (most : Nat) (c : List (List Int)) : List (List Int) := c.foldl (fun out ci => (out.flatMap fun k => ci.map fun j => k ++ [j]).take most) [[]]
theorem allM_snoc (most : Nat) (c : List (List Int)) (l : List Int) : allM most (c ++ [l]) = ((allM most c).flatMap fun k => l.map fun j => k ++ [j]).take most := by unfold allM; rw [List.foldl_append]; rfl
theorem prod_snoc : ∀ (c : List (List Int)) (l : List Int), prodL (c ++ [l]) = (prodL c).flatMap fun k => l.map fun j => k ++ [j]
 | [], l => by
  show l.flatMap (fun v => [[v]]) = [([] : List Int)].flatMap fun k => l.map fun j => k ++ [j]
  rw [List.flatMap_cons, List.flatMap_nil, List.append_nil]
  induction l with
  | nil => rfl
  | cons x l ih => rw [List.flatMap_cons, ih]; rfl
 | vs :: r, l => by
  rw [List.cons_append];unfold prodL;rw [prod_snoc r l, List.flatMap_assoc]
  congr 1
  funext v
  rw [List.map_flatMap, List.flatMap_map]
  congr 1
  funext k
  rw [List.map_map]
  rfl
theorem take_flat {α β : Type} (f : α → List β) (n : Nat) : ∀ (A : List α), (∀ a ∈ A, f a ≠ []) → ∀ m, n ≤ m → ((A.take m).flatMap f).take n = (A.flatMap f).take n
 | [], _, m, _ => by simp
 | a :: A, h, m, hm => by
  cases m with
  | zero =>
   obtain rfl : n = 0 := by omega
   simp
  | succ m =>
   have h1 : 1 ≤ (f a).length := by
    rcases hf : f a with _ | ⟨x, r⟩
    ·exact absurd hf (h a List.mem_cons_self)
    ·simp
   have ih := take_flat f (n - (f a).length) A (fun x hx => h x (List.mem_cons_of_mem _ hx)) m (by omega);rw [List.take_succ_cons, List.flatMap_cons, List.flatMap_cons, List.take_append, List.take_append, ih]
theorem allM_is (most : Nat) (hm : 1 ≤ most) : ∀ (n : Nat) (c : List (List Int)), c.length = n → allM most c = (prodL c).take most
 | 0, c, h => by
  obtain rfl := List.eq_nil_of_length_eq_zero h
  show [[]] = ([[]] : List (List Int)).take most
  rw [List.take_of_length_le (by simpa using hm)]
 | n + 1, c, h => by
  rcases List.eq_nil_or_concat c with rfl | ⟨d, l, rfl⟩
  ·cases h
  rw [List.concat_eq_append] at h ⊢;have ih := allM_is most hm n d (by simp at h; omega);rw [allM_snoc, prod_snoc, ih]
  by_cases hl : l = []
  ·subst hl;have e0 : ∀ A : List (List Int), (A.flatMap fun k => ([] : List Int).map fun j => k ++ [j]) = [] := fun A => by
    induction A with
    | nil => rfl
    | cons a A iha => rw [List.flatMap_cons, iha]; rfl
   rw [e0, e0]
  ·exact take_flat _ most (prodL d) (fun a _ => by simpa using hl) most (Nat.le_refl _)
theorem cntM_prod : ∀ (n : Nat) (c : List (List Int)), c.length = n → cntM c = min (prodL c).length 1000000
 | 0, c, h => by
  obtain rfl := List.eq_nil_of_length_eq_zero h
  rfl
 | n + 1, c, h => by
  rcases List.eq_nil_or_concat c with rfl | ⟨d, l, rfl⟩
  ·cases h
  rw [List.concat_eq_append] at h ⊢;have ih := cntM_prod n d (by simp at h; omega);rw [cntM_snoc, prod_snoc, ih];have e : ((prodL d).flatMap fun k => l.map fun j => k ++ [j]).length = (prodL d).length * l.length := by
   generalize prodL d = A
   induction A with
   | nil => simp
   | cons a A iha => rw [List.flatMap_cons, List.length_append, iha, List.length_map, List.length_cons, Nat.add_mul]; omega
  rw [e]
  by_cases h1 : (prodL d).length ≤ 1000000
  ·rw [Nat.min_eq_left h1]
  ·rw [Nat.min_eq_right (a := (prodL d).length) (b := 1000000) (by omega)];rcases Nat.eq_zero_or_pos l.length with h2 | h2
   ·rw [h2, Nat.mul_zero, Nat.mul_zero]
   ·have h3 : 1000000 ≤ 1000000 * l.length := Nat.le_mul_of_pos_right _ h2;have h4 : 1000000 ≤ (prodL d).length * l.length := Nat.le_trans (by omega : 1000000 ≤ (prodL d).length) (Nat.le_mul_of_pos_right _ h2);rw [Nat.min_eq_right h3, Nat.min_eq_right h4]
end Go.Proofs.YthdofaoamljkfaaGreatDoor
