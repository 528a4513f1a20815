/- Parts. -/
import Derived.Test.YtlnlppabeddclaaDoorLaw23AllK22
import Derived.Test.YtlnlppabeddclaaDoorLaw23AllK28
set_option maxRecDepth 10000
set_option maxHeartbeats 16000000
set_option linter.unusedVariables false
set_option linter.unusedSimpArgs false
namespace Go.Proofs.YtlnlppabeddclaaDoor
def freeB (l : List (Int × Int)) (S : List Int) (a : Int) : Bool := !decide (a ∈ S) && l.all fun e => !decide (e.2 = a) || decide (e.1 ∈ S)
def nextT (n : Nat) (l : List (Int × Int)) (S : List Int) : Option Int := ((List.range n).find? fun a : Nat => freeB l S (a : Int)).map fun a : Nat => (a : Int)
def orderT (n : Nat) (l : List (Int × Int)) : Nat → Option (List Int)
 | 0 => some []
 | k + 1 => (orderT n l k).bind fun S => (nextT n l S).map fun a => S ++ [a]
def leastT (n : Nat) (l : List (Int × Int)) : Option (List Int) := orderT n l n
def posT (S : List Int) (a : Int) : Nat := if a ∈ S then S.findIdx (fun x => decide (x = a)) + 1 else 0
theorem next_some {n : Nat} {l : List (Int × Int)} {S : List Int} {a : Int} (h : nextT n l S = some a) : ∃ q : Nat, a = q ∧ q < n ∧ freeB l S (q : Int) = true ∧ ∀ j, j < q → freeB l S (j : Int) = false := by
 unfold nextT at h
 cases hf : (List.range n).find? (fun a : Nat => freeB l S (a : Int)) with
 | none => rw [hf] at h; cases h
 | some q =>
  rw [hf] at h;simp at h;obtain ⟨h1, h2⟩ := List.find?_range_eq_some.1 hf;exact ⟨q, h.symm, List.mem_range.1 h2.1, h1, fun j hj => by simpa using h2.2 j hj⟩
theorem next_none {n : Nat} {l : List (Int × Int)} {S : List Int} (h : nextT n l S = none) : ∀ q : Nat, q < n → freeB l S (q : Int) = false := by
 unfold nextT at h
 cases hf : (List.range n).find? (fun a : Nat => freeB l S (a : Int)) with
 | some q => rw [hf] at h; cases h
 | none =>
  intro q hq;have := List.find?_eq_none.1 hf q (List.mem_range.2 hq)
  simpa using this
theorem free_iff {l : List (Int × Int)} {S : List Int} {a : Int} : freeB l S a = true ↔ a ∉ S ∧ ∀ x, (x, a) ∈ l → x ∈ S := by
 unfold freeB;simp only [Bool.and_eq_true, Bool.not_eq_true', decide_eq_false_iff_not, List.all_eq_true, Bool.or_eq_true, decide_eq_true_eq];refine and_congr_right fun _ => ?_
 constructor
 ·intro h x hx;rcases h _ hx with h1 | h1
  ·exact absurd rfl h1
  ·exact h1
 ·intro h e he
  by_cases h1 : e.2 = a
  ·exact .inr (h e.1 (by rw [← h1]; exact he))
  ·exact .inl h1
structure Ord (n : Nat) (l : List (Int × Int)) (S : List Int) : Prop where
 nd : S.Nodup
 lt : ∀ a ∈ S, 0 ≤ a ∧ a < (n : Int)
 pre : ∀ e ∈ l, e.2 ∈ S → posT S e.1 < posT S e.2
 inn : ∀ e ∈ l, e.2 ∈ S → e.1 ∈ S
theorem find_old {a x : Int} : ∀ {S : List Int}, x ∈ S → (S ++ [a]).findIdx (fun y => decide (y = x)) = S.findIdx (fun y => decide (y = x))
 | [], h => by cases h
 | y :: S, h => by
  rw [List.cons_append, List.findIdx_cons, List.findIdx_cons]
  by_cases e : y = x
  ·simp [e]
  ·rcases List.mem_cons.1 h with h1 | h1
   ·exact absurd h1.symm e
   ·simp only [decide_eq_false e, cond_false];rw [find_old h1]
theorem find_new {a : Int} : ∀ {S : List Int}, a ∉ S → (S ++ [a]).findIdx (fun y => decide (y = a)) = S.length
 | [], _ => by simp [List.findIdx_cons]
 | y :: S, h => by
  rw [List.cons_append, List.findIdx_cons];have e : y ≠ a := fun e => h (by rw [e]; exact List.mem_cons_self);simp only [decide_eq_false e, cond_false, List.length_cons];rw [find_new fun hm => h (List.mem_cons_of_mem _ hm)]
theorem find_lt {x : Int} : ∀ {S : List Int}, x ∈ S → S.findIdx (fun y => decide (y = x)) < S.length
 | [], h => by cases h
 | y :: S, h => by
  rw [List.findIdx_cons]
  by_cases e : y = x
  ·simp [e]
  ·rcases List.mem_cons.1 h with h1 | h1
   ·exact absurd h1.symm e
   ·have := find_lt h1;simp only [decide_eq_false e, cond_false, List.length_cons];omega
theorem pos_snoc_old {S : List Int} {a x : Int} (hx : x ∈ S) : posT (S ++ [a]) x = posT S x := by
 unfold posT;rw [if_pos hx, if_pos (List.mem_append_left _ hx), find_old hx]
theorem pos_snoc_new {S : List Int} {a : Int} (ha : a ∉ S) : posT (S ++ [a]) a = S.length + 1 := by
 unfold posT;rw [if_pos (by simp), find_new ha]
theorem pos_le {S : List Int} {x : Int} (hx : x ∈ S) : posT S x ≤ S.length := by
 unfold posT;rw [if_pos hx];have := find_lt hx;omega
theorem Ord.nil (n : Nat) (l : List (Int × Int)) : Ord n l [] := ⟨List.nodup_nil, fun a h => (by cases h), fun e _ h => (by cases h), fun e _ h => (by cases h)⟩
theorem Ord.snoc {n : Nat} {l : List (Int × Int)} {S : List Int} {q : Nat} (o : Ord n l S) (hq : q < n) (hf : freeB l S (q : Int) = true) : Ord n l (S ++ [(q : Int)]) := by
 obtain ⟨hn, hp⟩ := free_iff.1 hf;refine ⟨?_, fun a ha => ?_, fun e he hm => ?_, fun e he hm => ?_⟩
 ·rw [List.nodup_append];refine ⟨o.nd, by simp, fun a ha b hb => ?_⟩;simp at hb;subst hb;exact fun e => hn (e ▸ ha)
 ·rcases List.mem_append.1 ha with h | h
  ·exact o.lt a h
  ·simp at h; omega
 ·rcases List.mem_append.1 hm with h | h
  ·rw [pos_snoc_old h, pos_snoc_old (o.inn e he h)];exact o.pre e he h
  ·simp at h;have h1 : e.1 ∈ S := hp e.1 (by rw [← h]; exact he);rw [h, pos_snoc_new hn, pos_snoc_old h1];have := pos_le h1;omega
 ·rcases List.mem_append.1 hm with h | h
  ·exact List.mem_append_left _ (o.inn e he h)
  ·simp at h;exact List.mem_append_left _ (hp e.1 (by rw [← h]; exact he))
theorem order_ord {n : Nat} {l : List (Int × Int)} : ∀ (k : Nat) {S : List Int}, orderT n l k = some S → Ord n l S ∧ S.length = k
 | 0, S, h => by
  have : [] = S := Option.some.inj h;subst this;exact ⟨Ord.nil n l, rfl⟩
 | k + 1, S, h => by
  unfold orderT at h
  cases h0 : orderT n l k with
  | none => rw [h0] at h; cases h
  | some S0 =>
   rw [h0] at h;obtain ⟨o, hl⟩ := order_ord k h0
   cases h1 : nextT n l S0 with
   | none => simp [h1] at h
   | some a =>
    simp [h1] at h;obtain ⟨q, rfl, hq, hf, -⟩ := next_some h1;subst h;exact ⟨o.snoc hq hf, by simp [hl]⟩
theorem left_len {n : Nat} : ∀ (k : Nat) {S : List Int}, S.length = k → S.Nodup → (∀ a ∈ S, 0 ≤ a ∧ a < (n : Int)) → leftK n S + S.length = n
 | 0, S, hk, _, _ => by
  obtain rfl := List.length_eq_zero_iff.1 hk;unfold leftK;rw [List.filter_eq_self.2 (by simp)];simp
 | k + 1, S, hk, hd, hl => by
  obtain ⟨T, a, rfl⟩ : ∃ T a, S = T ++ [a] := by
   rcases List.eq_nil_or_concat S with rfl | ⟨T, a, rfl⟩
   ·simp at hk
   ·exact ⟨T, a, by simp⟩
  have hT : T.length = k := by simp at hk; exact hk
  rw [List.nodup_append] at hd;have ih := left_len k hT hd.1 (fun x hx => hl x (List.mem_append_left _ hx));obtain ⟨q, rfl⟩ : ∃ q : Nat, a = q := ⟨a.toNat, by have := hl a (by simp); omega⟩;have hq : q < n := by have := hl (q : Int) (by simp); omega
  have := leftK_snoc hq (K := T) (fun hm => hd.2.2 _ hm _ (by simp) rfl);rw [List.length_append, List.length_singleton];omega
theorem nodup_cover {n : Nat} {S : List Int} (hd : S.Nodup) (hl : ∀ a ∈ S, 0 ≤ a ∧ a < (n : Int)) (hn : S.length = n) (q : Nat) (hq : q < n) : (q : Int) ∈ S := by
 have h := left_len S.length rfl hd hl;have h0 : leftK n S = 0 := by omega
 unfold leftK at h0;have := List.filter_eq_nil_iff.1 (List.length_eq_zero_iff.1 h0) q (List.mem_range.2 hq)
 simpa using this
theorem not_all {n : Nat} {S : List Int} (hd : S.Nodup) (hl : ∀ a ∈ S, 0 ≤ a ∧ a < (n : Int)) (hn : S.length < n) : ∃ q : Nat, q < n ∧ (q : Int) ∉ S := by
 have h := left_len S.length rfl hd hl;have h0 : 0 < leftK n S := by omega
 unfold leftK at h0;obtain ⟨q, hq⟩ := List.exists_mem_of_length_pos h0;obtain ⟨h1, h2⟩ := List.mem_filter.1 hq;exact ⟨q, List.mem_range.1 h1, by simpa using h2⟩
theorem no_source {n : Nat} {E : Nat → Nat → Prop} (W : Nat → Nat → Bool) (hW : ∀ a b, W a b = true ↔ Way E a b) (hE : ∀ a b, E a b → a < n ∧ b < n) (hr : ∀ a, ¬ Way E a a) (P : Nat → Prop) (hp : ∀ a, P a → ∃ x, E x a ∧ P x) :
  ∀ (m a : Nat), ((List.range n).filter fun c => W c a).length ≤ m → ¬ P a := by
 intro m
 induction m with
 | zero =>
  intro a hm ha;obtain ⟨x, hx, -⟩ := hp a ha;have h1 : x ∈ (List.range n).filter fun c => W c a := List.mem_filter.2 ⟨List.mem_range.2 (hE _ _ hx).1, (hW _ _).2 (.one hx)⟩;have := List.length_pos_of_mem h1;omega
 | succ m ih =>
  intro a hm ha;obtain ⟨x, hx, hpx⟩ := hp a ha;refine ih x ?_ hpx;have : ((List.range n).filter fun c => W c x).length < ((List.range n).filter fun c => W c a).length := by
   refine filter_lt _ (fun c _ hc => ?_) ⟨x, List.mem_range.2 (hE _ _ hx).1, ?_, ?_⟩
   ·rw [hW] at hc ⊢;exact hc.trans (.one hx)
   ·cases hh : W x x
    ·rfl
    ·exact absurd ((hW _ _).1 hh) (hr _)
   ·rw [hW];exact .one hx
  omega
theorem order_all {n : Nat} {l : List (Int × Int)} (w : WfE n l) (hr : roundB n l = false) : ∀ k, k ≤ n → ∃ S, orderT n l k = some S
 | 0, _ => ⟨[], rfl⟩
 | k + 1, hk => by
  obtain ⟨S, hS⟩ := order_all w hr k (by omega);obtain ⟨o, hl⟩ := order_ord k hS
  cases hx : nextT n l S with
  | some a => exact ⟨S ++ [a], by unfold orderT; rw [hS]; simp [hx]⟩
  | none =>
   exfalso
   have hno : ∀ a, ¬ Way (edR l) a a := fun a ha => by
    have := (round_iff w).2 ⟨a, ha⟩;rw [hr] at this
    cases this
   have hnn := next_none hx;obtain ⟨q, hq, hqS⟩ := not_all o.nd o.lt (by omega);refine no_source (n := n) (E := edR l) (wayB n l) (way_iff w) (fun a b e => wf_lt w e) hno (fun q => q < n ∧ (q : Int) ∉ S) (fun a ha => ?_) _ q (Nat.le_refl _) ⟨hq, hqS⟩;have hf := hnn a ha.1;have hn2 : ¬ ((a : Int) ∉ S ∧ ∀ x, (x, (a : Int)) ∈ l → x ∈ S) := fun h => by
    rw [free_iff.2 h] at hf
    cases hf
   by_cases hc : ∃ x, (x, (a : Int)) ∈ l ∧ x ∉ S
   ·obtain ⟨x, hx1, hx2⟩ := hc;obtain ⟨y, z, h1, h2, h3⟩ := w _ hx1;injection h1 with h4 h5;subst h4;exact ⟨y, hx1, h2, hx2⟩
   ·exact absurd ⟨ha.2, fun x hx1 => by
     by_cases h : x ∈ S
     ·exact h
     ·exact absurd ⟨x, hx1, h⟩ hc⟩ hn2
theorem way_pos {n : Nat} {l : List (Int × Int)} {S : List Int} (o : Ord n l S) (hall : ∀ q : Nat, q < n → (q : Int) ∈ S) (w : WfE n l) {a b : Nat} (h : Way (edR l) a b) : posT S (a : Int) < posT S (b : Int) := by
 induction h with
 | @one a b e => exact o.pre _ e (hall _ (wf_lt w e).2)
 | @more a c b e _ ih =>
  have := o.pre _ e (hall _ (wf_lt w e).2);dsimp only at this;omega
theorem least_round {n : Nat} {l : List (Int × Int)} (w : WfE n l) : (leastT n l).isSome = !roundB n l := by
 cases hr : roundB n l with
 | false =>
  obtain ⟨S, hS⟩ := order_all w hr n (Nat.le_refl _);unfold leastT;rw [hS]
  rfl
 | true =>
  cases hS : leastT n l with
  | none => rfl
  | some S =>
   exfalso
   obtain ⟨o, hl⟩ := order_ord n hS;obtain ⟨a, ha⟩ := (round_iff w).1 hr;have := way_pos o (nodup_cover o.nd o.lt hl) w ha;omega
end Go.Proofs.YtlnlppabeddclaaDoor
