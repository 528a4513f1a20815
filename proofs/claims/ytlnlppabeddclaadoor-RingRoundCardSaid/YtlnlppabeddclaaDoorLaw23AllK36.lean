/- Parts. -/
import Derived.Test.YtlnlppabeddclaaDoorLaw23AllK33
set_option maxRecDepth 10000
set_option maxHeartbeats 16000000
set_option linter.unusedVariables false
set_option linter.unusedSimpArgs false
namespace Go.Proofs.YtlnlppabeddclaaDoor
theorem nat_least {P : Nat → Prop} : (∃ k, P k) → ∃ k, P k ∧ ∀ j, P j → k ≤ j := by
 rintro ⟨k, hk⟩
 induction k using Nat.strongRecOn with
 | _ k ih =>
  by_cases h : ∃ j, j < k ∧ P j
  ·obtain ⟨j, hj, hp⟩ := h;exact ih j hj hp
  ·exact ⟨k, hk, fun j hj => Nat.le_of_not_lt fun hl => h ⟨j, hl, hj⟩⟩
theorem nat_last {P : Nat → Prop} (h0 : P 0) {n : Nat} (hn : ¬ P n) : ∃ g, P g ∧ ¬ P (g + 1) := by
 refine Classical.byContradiction fun h => hn ?_;have : ∀ g, P g := fun g => by
  induction g with
  | zero => exact h0
  | succ g ih => exact Classical.byContradiction fun h2 => h ⟨g, ih, h2⟩
 exact this n
section
variable {E : Nat → Nat → Bool} {n : Nat}
def FromG (E : Nat → Nat → Bool) (g : Nat) (x y : Nat) : Prop := E x y = true ∧ g ≤ x ∧ g ≤ y
theorem way_low {g u v : Nat} (h : Way (FromG E g) u v) : g ≤ u ∧ g ≤ v := by
 induction h with
 | one e => exact e.2
 | more e _ ih => exact ⟨e.2.1, ih.2⟩
theorem way_up {g u v : Nat} (h : Way (FromG E g) u v) : Way (FromG E (g + 1)) u v ∨ u = g ∨ v = g ∨ (Way (FromG E g) u g ∧ Way (FromG E g) g v) := by
 induction h with
 | @one a b e =>
  by_cases h1 : a = g
  ·exact .inr (.inl h1)
  ·by_cases h2 : b = g
   ·exact .inr (.inr (.inl h2))
   ·exact .inl (.one ⟨e.1, by have := e.2.1; omega, by have := e.2.2; omega⟩)
 | @more a c b e k ih =>
  by_cases h1 : a = g
  ·exact .inr (.inl h1)
  rcases ih with h | h | h | ⟨h, h2⟩
  ·have hc := (way_low h).1;exact .inl (.more ⟨e.1, by have := e.2.1; omega, hc⟩ h)
  ·subst h;exact .inr (.inr (.inr ⟨.one e, k⟩))
  ·exact .inr (.inr (.inl h))
  ·exact .inr (.inr (.inr ⟨.more e h, h2⟩))
theorem way_stp {g v : Nat} (h : Way (FromG E g) v g) : ∃ k, Stp E g (k + 1) v := by
 generalize hg : g = b at h;have gen : ∀ {a b : Nat}, Way (FromG E g) a b → b = g → ∃ k, Stp E g (k + 1) a := by
  intro a b h
  induction h with
  | one e => intro hb; subst hb; exact ⟨0, .succ e.1 e.2.1 .zero⟩
  | more e _ ih => intro hb; obtain ⟨k, hk⟩ := ih hb; exact ⟨k + 1, .succ e.1 e.2.1 hk⟩
 subst hg;exact gen h rfl
theorem stp_way {a v k : Nat} (h : Stp E a (k + 1) v) : Way (fun x y => E x y = true) v a := by
 have gen : ∀ {j v : Nat}, Stp E a j v → ∀ k, j = k + 1 → Way (fun x y => E x y = true) v a := by
  intro j v h
  induction h with
  | zero => intro k hk; omega
  | @succ i v u e _ hs ih =>
   intro k hk
   cases i with
   | zero =>
    cases hs
    exact .one e
   | succ i => exact .more e (ih i rfl)
 exact gen h k rfl
theorem round_stp (hE : ∀ a b, E a b = true → a < n ∧ b < n) {x : Nat} (h : Way (fun x y => E x y = true) x x) : ∃ a k, a < n ∧ Stp E a (k + 1) a := by
 obtain ⟨g, ⟨u, hu⟩, hg⟩ := nat_last (P := fun g => ∃ u, Way (FromG E g) u u) ⟨x, h.mono fun a b e => ⟨e, Nat.zero_le _, Nat.zero_le _⟩⟩ (n := n) (fun ⟨u, hu⟩ => by
  have h1 := (way_low hu).1;obtain ⟨c, hc⟩ := hu.first;have := (hE _ _ hc.1).1;omega)
 have hgg : Way (FromG E g) g g := by
  rcases way_up hu with h1 | h1 | h1 | ⟨h1, h2⟩
  ·exact absurd ⟨u, h1⟩ hg
  ·exact h1 ▸ hu
  ·exact h1 ▸ hu
  ·exact h2.trans h1
 obtain ⟨c, hc⟩ := hgg.first;obtain ⟨k, hk⟩ := way_stp hgg;exact ⟨g, k, (hE _ _ hc.1).1, hk⟩
open Classical in
noncomputable def farD (E : Nat → Nat → Bool) (a v : Nat) : Int := if h : ∃ k, Stp E a k v then (Classical.choose (nat_least h) : Nat) else -1
theorem farD_far (E : Nat → Nat → Bool) (a : Nat) : FarK E a (farD E a) where
 yes := fun v k h => by
  unfold farD at h
  split at h
  ·rename_i hx
   have := (Classical.choose_spec (nat_least hx)).1;have e : Classical.choose (nat_least hx) = k := by omega
   rwa [e] at this
  ·omega
 least := fun v j h => by
  have hx : ∃ k, Stp E a k v := ⟨j, h⟩;refine ⟨Classical.choose (nat_least hx), (Classical.choose_spec (nat_least hx)).2 j h, ?_⟩;unfold farD;rw [dif_pos hx]
theorem stp_best {a k : Nat} (h : Stp E a (k + 1) a) : ∃ M, Best E a M (farD E a) := by
 have hF := farD_far E a;have hx : ∃ m : Nat, ∃ v, E a v = true ∧ a ≤ v ∧ farD E a v = (m : Int) := by
  cases h with
  | @succ _ _ u e _ hs =>
   obtain ⟨i, -, hi⟩ := hF.least u k hs;exact ⟨i, u, e, hs.ge, hi⟩
 obtain ⟨m, ⟨v, h1, h2, h3⟩, hm⟩ := nat_least hx;refine ⟨m + 1, by omega, fun u hu hau j hj => ?_, v, h1, h2, by simpa using h3⟩;have := hm j ⟨u, hu, hau, hj⟩;omega
theorem ring_some (hE : ∀ a b, E a b = true → a < n ∧ b < n) {a k : Nat} (ha : a < n) (h : Stp E a (k + 1) a) : (ringL E n).isSome = true := by
 obtain ⟨M, hb⟩ := stp_best h;have hF := farD_far E a;have hp := hb.pos;have h1 := on_grd hF hb hE (M - 1) (PH.one (E := E) (D := farD E a) (M := M)) (by simp; omega);obtain ⟨h2, y, h3⟩ := grd_len hF hb hE (M - 1) (PH.one (E := E) (D := farD E a) (M := M)) (by simp; omega);have hl := nodup_len23 (h3.nodup hF) (h3.lt hE ha);rw [h2] at hl
 cases hr : ringL E n with
 | some r => rfl
 | none =>
  unfold ringL at hr;have := List.findSome?_eq_none_iff.1 (List.findSome?_eq_none_iff.1 hr (M - 1) (List.mem_range.2 (by omega))) a (List.mem_range.2 ha);rw [h1] at this
  cases this
theorem ring_on {r : List Nat} (h : ringL E n = some r) : ∃ m a, m < n ∧ a < n ∧ onT E n m [a] = some r := by
 unfold ringL at h;obtain ⟨m, hm, h1⟩ := List.exists_of_findSome?_eq_some h;obtain ⟨a, ha, h2⟩ := List.exists_of_findSome?_eq_some h1;exact ⟨m, a, List.mem_range.1 hm, List.mem_range.1 ha, h2⟩
structure OnR (E : Nat → Nat → Bool) (hd : List Nat) : Prop where
 nd : hd.Nodup
 st : ∀ i, i + 1 < hd.length → E (hd.getD i 0) (hd.getD (i + 1) 0) = true
 lo : ∀ y ∈ hd, hd.headD 0 ≤ y
theorem OnR.one (a : Nat) : OnR E [a] := ⟨by simp, fun i hi => by simp at hi, fun y hy => by simp at hy; simp [hy]⟩
theorem lastD_at (hd : List Nat) (h : 0 < hd.length) : hd.getLastD 0 = hd.getD (hd.length - 1) 0 := by
 rw [List.getLastD_eq_getLast?, List.getLast?_eq_getElem?, List.getD_eq_getElem?_getD]
theorem OnR.snoc {hd : List Nat} {b : Nat} (h : OnR E hd) (hp : 0 < hd.length) (h1 : hd.headD 0 < b) (h2 : E (hd.getLastD 0) b = true) (h3 : b ∉ hd) : OnR E (hd ++ [b]) where
 nd := by
  rw [List.nodup_append];exact ⟨h.nd, by simp, fun x hx y hy => by rw [List.mem_singleton.1 hy]; rintro rfl; exact h3 hx⟩
 st := fun i hi => by
  rw [List.length_append, List.length_singleton] at hi;rw [List.getD_eq_getElem?_getD, List.getD_eq_getElem?_getD]
  by_cases e : i + 1 < hd.length
  ·rw [List.getElem?_append_left (by omega), List.getElem?_append_left e];have := h.st i e
   rwa [List.getD_eq_getElem?_getD, List.getD_eq_getElem?_getD] at this
  ·have e2 : i = hd.length - 1 := by omega
   rw [List.getElem?_append_left (by omega), List.getElem?_append_right (by omega), show i + 1 - hd.length = 0 by omega];rw [lastD_at _ hp, ← e2, List.getD_eq_getElem?_getD] at h2;exact h2
 lo := fun y hy => by
  have e : (hd ++ [b]).headD 0 = hd.headD 0 := by
   cases hd with
   | nil => simp at hp
   | cons x t => rfl
  rw [e];rcases List.mem_append.1 hy with h4 | h4
  ·exact h.lo y h4
  ·rw [List.mem_singleton.1 h4]; omega
theorem on_shape : ∀ (k : Nat) {hd r : List Nat}, onT E n k hd = some r → OnR E hd → 0 < hd.length → OnR E r ∧ 0 < r.length ∧ E (r.getLastD 0) (r.headD 0) = true
 | 0, hd, r, h, hR, hp => by
  unfold onT at h
  split at h
  ·rename_i he
   cases h
   exact ⟨hR, hp, he⟩
  ·cases h
 | k + 1, hd, r, h, hR, hp => by
  unfold onT at h;obtain ⟨b, -, hb⟩ := List.exists_of_findSome?_eq_some h
  split at hb
  ·rename_i hc
   simp only [Bool.and_eq_true, decide_eq_true_eq, Bool.not_eq_true', decide_eq_false_iff_not] at hc;exact on_shape k hb (hR.snoc hp hc.1.1 hc.1.2 hc.2) (by simp)
  ·cases hb
end
theorem ring_round {q : Nat} {l : List (Int × Int)} (wf : WfE q l) : (ringL (edB l) q).isSome = roundB q l := by
 have hE : ∀ a b, edB l a b = true → a < q ∧ b < q := fun a b h => wf_lt wf ((ed_iff l a b).1 h);have hm : ∀ {x : Nat}, Way (edR l) x x ↔ Way (fun a b => edB l a b = true) x x := fun {x} => ⟨fun h => h.mono fun a b e => (ed_iff l a b).2 e, fun h => h.mono fun a b e => (ed_iff l a b).1 e⟩
 cases hr : roundB q l with
 | true =>
  obtain ⟨x, hx⟩ := (round_iff wf).1 hr;obtain ⟨a, k, ha, hs⟩ := round_stp hE (hm.1 hx);exact ring_some hE ha hs
 | false =>
  cases hl : ringL (edB l) q with
  | none => rfl
  | some r =>
   obtain ⟨m, a, -, -, ho⟩ := ring_on hl;have hs := on_stp (a := a) m ho (fun y hy => by rw [List.mem_singleton.1 hy]; exact Nat.le_refl _) rfl (by simp);have : roundB q l = true := (round_iff wf).2 ⟨a, hm.2 (stp_way hs)⟩;rw [hr] at this
   cases this
theorem ring_is {q : Nat} {l : List (Int × Int)} (hmy : mayL (q : Int) l = true) {r : List Nat} (h : ringL (edB l) q = some r) : isRing (q : Int) (r.map fun y : Nat => (y : Int)) l = true := by
 obtain ⟨m, a, -, -, ho⟩ := ring_on h;obtain ⟨hR, hp, hc⟩ := on_shape m ho (.one a) (by simp);have hg : ∀ i, i < r.length → (r.map fun y : Nat => (y : Int)).getD i 0 = ((r.getD i 0 : Nat) : Int) := fun i hi => by
  rw [List.getD_eq_getElem?_getD, List.getD_eq_getElem?_getD, List.getElem?_map, List.getElem?_eq_getElem hi]
  rfl
 have h0 : r.headD 0 = r.getD 0 0 := by cases r <;> rfl
 unfold isRing;rw [hmy, Bool.true_and, Bool.and_eq_true]
 constructor
 ·cases r with
  | nil => simp at hp
  | cons x t => rfl
 ·rw [List.all_eq_true];intro i hi;rw [List.mem_range, List.length_map] at hi;have e1 : (r.map fun y : Nat => (y : Int)).getD i 0 ∉ (r.map fun y : Nat => (y : Int)).take i := by
   rw [hg i hi, ← List.map_take, List.mem_map];rintro ⟨y, hy, e⟩;obtain ⟨j, hj, e2⟩ := List.mem_take_iff_getElem.1 hy;have hj2 : j < i := by omega
   have hij := (List.pairwise_iff_getElem.1 hR.nd) j i (by omega) hi hj2;rw [List.getD_eq_getElem?_getD, List.getElem?_eq_getElem hi, Option.getD_some] at e;exact hij (by omega)
  have e2 : ¬ (r.map fun y : Nat => (y : Int)).getD i 0 < (r.map fun y : Nat => (y : Int)).getD 0 0 := by
   rw [hg i hi, hg 0 hp];have := hR.lo (r.getD i 0) (by rw [List.getD_eq_getElem?_getD, List.getElem?_eq_getElem hi, Option.getD_some]; exact List.getElem_mem _);rw [h0] at this;omega
  have e3 : ((r.map fun y : Nat => (y : Int)).getD i 0, (r.map fun y : Nat => (y : Int)).getD ((i + 1) % (r.map fun y : Nat => (y : Int)).length) 0) ∈ l := by
   rw [List.length_map, hg i hi, hg _ (Nat.mod_lt _ hp)];have hst : edB l (r.getD i 0) (r.getD ((i + 1) % r.length) 0) = true := by
    by_cases e : i + 1 < r.length
    ·rw [Nat.mod_eq_of_lt e]; exact hR.st i e
    ·have e4 : i + 1 = r.length := by omega
     rw [e4, Nat.mod_self, ← h0, show i = r.length - 1 by omega, ← lastD_at _ hp];exact hc
   exact (ed_iff l _ _).1 hst
  unfold badR;rw [decide_eq_false e1, decide_eq_false e2, decide_eq_true e3]
  rfl
end Go.Proofs.YtlnlppabeddclaaDoor
