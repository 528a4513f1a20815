/- Parts. -/
import Derived.Test.YtlemjgjpglmphaaDoorPartOfCardK3
import Derived.Test.YtlemjgjpglmphaaDoorPartOfCardK23
set_option maxRecDepth 10000
set_option maxHeartbeats 16000000
set_option linter.unusedVariables false
set_option linter.unusedSimpArgs false
namespace Go.Proofs.YtlemjgjpglmphaaDoor
def simB (n : Nat) (l : List (Int × Int)) (a b : Nat) : Bool := decide (a = b) || (wayB n l a b && wayB n l b a)
def partL (n : Nat) (l : List (Int × Int)) (a : Nat) : List Int := ((List.range n).filter (simB n l a)).map fun b : Nat => (b : Int)
def leadB (n : Nat) (l : List (Int × Int)) (a : Nat) : Bool := (List.range a).all fun b => !simB n l b a
def partsL (n : Nat) (l : List (Int × Int)) : List (List Int) := ((List.range n).filter (leadB n l)).map (partL n l)
section
variable {n : Nat} {l : List (Int × Int)}
theorem sim_iff (w : WfE n l) (a b : Nat) : simB n l a b = true ↔ To (edR l) a b ∧ To (edR l) b a := by
 unfold simB To;rw [Bool.or_eq_true, decide_eq_true_eq, Bool.and_eq_true, way_iff w, way_iff w]
 constructor
 ·rintro (h | ⟨h1, h2⟩)
  ·exact ⟨.inl h, .inl h.symm⟩
  ·exact ⟨.inr h1, .inr h2⟩
 ·rintro ⟨h1 | h1, h2 | h2⟩
  ·exact .inl h1
  ·exact .inl h1
  ·exact .inl h2.symm
  ·exact .inr ⟨h1, h2⟩
theorem sim_refl (a : Nat) : simB n l a a = true := by simp [simB]
theorem sim_symm (a b : Nat) : simB n l a b = simB n l b a := by
 unfold simB;rw [Bool.and_comm]
 congr 1
 rw [decide_eq_decide];exact eq_comm
theorem sim_trans (w : WfE n l) {a b c : Nat} (h : simB n l a b = true) (k : simB n l b c = true) : simB n l a c = true := by
 rw [sim_iff w] at *;exact ⟨h.1.trans k.1, k.2.trans h.2⟩
theorem sim_congr (w : WfE n l) {a b : Nat} (h : simB n l a b = true) (c : Nat) : simB n l a c = simB n l b c := by
 rw [Bool.eq_iff_iff];exact ⟨fun k => sim_trans w (by rw [sim_symm]; exact h) k, fun k => sim_trans w h k⟩
theorem part_congr (w : WfE n l) {a b : Nat} (h : simB n l a b = true) : partL n l a = partL n l b := by
 unfold partL;rw [show simB n l a = simB n l b from funext fun c => sim_congr w h c]
theorem mem_part {a : Nat} {x : Int} : x ∈ partL n l a ↔ ∃ b : Nat, x = (b : Int) ∧ b < n ∧ simB n l a b = true := by
 unfold partL;rw [List.mem_map]
 constructor
 ·rintro ⟨b, hb, rfl⟩;obtain ⟨h1, h2⟩ := List.mem_filter.1 hb;exact ⟨b, rfl, List.mem_range.1 h1, h2⟩
 ·rintro ⟨b, rfl, h1, h2⟩;exact ⟨b, List.mem_filter.2 ⟨List.mem_range.2 h1, h2⟩, rfl⟩
theorem part_rise (a : Nat) : (partL n l a).Pairwise fun x y => x < y := by
 unfold partL;refine List.pairwise_map.2 ((List.pairwise_lt_range.filter _).imp fun h => ?_);omega
theorem part_len (a : Nat) : (partL n l a).length ≤ n := by
 unfold partL;rw [List.length_map];exact Nat.le_trans (List.length_filter_le _ _) (by simp)
theorem lead_of (w : WfE n l) {a : Nat} (ha : a < n) : ∃ b, b < n ∧ simB n l a b = true ∧ leadB n l b = true := by
 cases hf : (List.range n).find? (simB n l a) with
 | none =>
  have := List.find?_eq_none.1 hf a (List.mem_range.2 ha);rw [sim_refl] at this;exact absurd rfl this
 | some b =>
  obtain ⟨h1, h2, h3⟩ := List.find?_range_eq_some.1 hf;refine ⟨b, List.mem_range.1 h2, h1, ?_⟩;unfold leadB;rw [List.all_eq_true];intro j hj;have hj := List.mem_range.1 hj;have h4 := h3 j hj
  cases hs : simB n l j b
  ·rfl
  ·rw [sim_trans w h1 (by rw [sim_symm]; exact hs)] at h4
   cases h4
theorem lead_lt {a b : Nat} (h : leadB n l a = true) (hb : b < a) : simB n l a b = false := by
 unfold leadB at h;have := List.all_eq_true.1 h b (List.mem_range.2 hb);rw [sim_symm]
 simpa using this
theorem lead_one (w : WfE n l) {a b : Nat} (ha : leadB n l a = true) (hb : leadB n l b = true) (h : simB n l a b = true) : a = b := by
 rcases Nat.lt_trichotomy a b with h1 | h1 | h1
 ·have := lead_lt hb h1;rw [sim_symm, h] at this
  cases this
 ·exact h1
 ·have := lead_lt ha h1;rw [h] at this
  cases this
def headI (p : List Int) : Int := p.headD 0
theorem part_head {a : Nat} (ha : a < n) (h : leadB n l a = true) : headI (partL n l a) = a := by
 unfold headI partL;have hf : (List.range n).find? (simB n l a) = some a := List.find?_range_eq_some.2 ⟨sim_refl a, List.mem_range.2 ha, fun j hj => by rw [lead_lt h hj]; rfl⟩;rw [← List.head?_filter] at hf
 cases hl : (List.range n).filter (simB n l a) with
 | nil => rw [hl] at hf; cases hf
 | cons x r =>
  rw [hl] at hf;have : x = a := Option.some.inj hf;subst this
  rfl
theorem parts_rise : (partsL n l).Pairwise fun p q => headI p < headI q := by
 unfold partsL;refine List.pairwise_map.2 ((List.pairwise_lt_range.filter _).imp_of_mem fun {a b} ha hb h => ?_);obtain ⟨h1, h2⟩ := List.mem_filter.1 ha;obtain ⟨h3, h4⟩ := List.mem_filter.1 hb;rw [part_head (List.mem_range.1 h1) h2, part_head (List.mem_range.1 h3) h4];omega
theorem uniq_sorted {α : Type} {r : α → α → Prop} (hir : ∀ a b, r a b → ¬ r b a) : ∀ {l m : List α}, l.Pairwise r → m.Pairwise r → (∀ x, x ∈ l ↔ x ∈ m) → l = m
 | [], [], _, _, _ => rfl
 | [], y :: m, _, _, h => by have := (h y).2 List.mem_cons_self; cases this
 | x :: l, [], _, _, h => by have := (h x).1 List.mem_cons_self; cases this
 | x :: l, y :: m, hl, hm, h => by
  obtain ⟨hx, hl2⟩ := List.pairwise_cons.1 hl;obtain ⟨hy, hm2⟩ := List.pairwise_cons.1 hm;have exy : x = y := by
   rcases List.mem_cons.1 ((h x).1 List.mem_cons_self) with e | e
   ·exact e
   ·rcases List.mem_cons.1 ((h y).2 List.mem_cons_self) with e2 | e2
    ·exact e2.symm
    ·exact absurd (hx y e2) (hir _ _ (hy x e))
  subst exy;have : l = m := uniq_sorted hir hl2 hm2 fun z => by
   constructor
   ·intro hz;rcases List.mem_cons.1 ((h z).1 (List.mem_cons_of_mem _ hz)) with e | e
    ·subst e; exact absurd (hx z hz) (hir _ _ (hx z hz))
    ·exact e
   ·intro hz;rcases List.mem_cons.1 ((h z).2 (List.mem_cons_of_mem _ hz)) with e | e
    ·subst e; exact absurd (hy z hz) (hir _ _ (hy z hz))
    ·exact e
  rw [this]
theorem part_sorted {a : Nat} {L : List Nat} (hd : L.Nodup) (hm : ∀ x, x ∈ L ↔ x < n ∧ simB n l a x = true) {Z : List Int} (hp : Z.Perm (L.map fun b : Nat => (b : Int))) (hs : Z.Pairwise fun x y => ¬ y < x) : Z = partL n l a := by
 have hz : Z.Nodup := hp.nodup_iff.2 (List.pairwise_map.2 (hd.imp fun {x y} h e => h (by omega)));refine uniq_sorted (r := fun x y : Int => x < y) (fun a b h => by omega) ((hs.and hz).imp fun {x y} h => ?_) (part_rise a) fun x => ?_
 ·have := h.2;have := h.1;omega
 ·rw [hp.mem_iff, List.mem_map, mem_part]
  constructor
  ·rintro ⟨b, hb, rfl⟩;exact ⟨b, rfl, (hm b).1 hb⟩
  ·rintro ⟨b, rfl, h⟩;exact ⟨b, (hm b).2 h, rfl⟩
theorem parts_sorted (w : WfE n l) {R : List Nat} (hR : ∀ r ∈ R, r < n) (hne : R.Pairwise fun a b => simB n l a b = false) (hall : ∀ x, x < n → ∃ r ∈ R, simB n l r x = true) {Q : List (List Int)}
  (hp : Q.Perm (R.map (partL n l))) (hs : Q.Pairwise fun a b => ¬ headI b < headI a) : Q = partsL n l := by
 have hdis : (R.map (partL n l)).Pairwise fun p q => headI p ≠ headI q := by
  refine List.pairwise_map.2 (hne.imp_of_mem fun {a b} ha hb h e => ?_);obtain ⟨c, hc, h1, h2⟩ := lead_of w (hR a ha);obtain ⟨d, hd, h3, h4⟩ := lead_of w (hR b hb);rw [part_congr w h1, part_congr w h3, part_head hc h2, part_head hd h4] at e;obtain rfl : c = d := by omega
  rw [sim_trans w h1 (by rw [sim_symm]; exact h3)] at h
  cases h
 have hdq : Q.Pairwise fun p q => headI p ≠ headI q := (hp.pairwise_iff (fun {x y} h => Ne.symm h)).2 hdis;refine uniq_sorted (r := fun p q => headI p < headI q) (fun a b h => by omega) ((hs.and hdq).imp fun {x y} h => ?_) parts_rise fun x => ?_
 ·have := h.1;have := h.2;omega
 ·rw [hp.mem_iff, List.mem_map];unfold partsL;rw [List.mem_map]
  constructor
  ·rintro ⟨r, hr, rfl⟩;obtain ⟨b, hb, h1, h2⟩ := lead_of w (hR r hr);exact ⟨b, List.mem_filter.2 ⟨List.mem_range.2 hb, h2⟩, (part_congr w h1).symm⟩
  ·rintro ⟨a, ha, rfl⟩;obtain ⟨r, hr, h1⟩ := hall a (List.mem_range.1 (List.mem_filter.1 ha).1);exact ⟨r, hr, part_congr w h1⟩
structure PartK (n : Nat) (l : List (Int × Int)) (D T : List Nat) (X R : List Nat) : Prop where
 dfs : Dfs (fun a b => edR l b a) X []
 all : ∀ x, x ∈ X ↔ x < n ∧ ∃ r ∈ R, simB n l r x = true
 got : ∀ t ∈ T, t ∈ X
 rn : ∀ r ∈ R, r < n
 ne : R.Pairwise fun a b => simB n l a b = false
theorem PartK.start (D : List Nat) : PartK n l D [] [] [] := ⟨Dfs.empty, by simp, by simp, by simp, List.Pairwise.nil⟩
theorem PartK.skip {D T X R : List Nat} {r : Nat} (h : PartK n l D T X R) (hr : r ∈ X) : PartK n l D (T ++ [r]) X R :=
 ⟨h.dfs, h.all, fun t ht => by
  rcases List.mem_append.1 ht with h1 | h1
  ·exact h.got t h1
  ·rw [List.mem_singleton.1 h1]; exact hr, h.rn, h.ne⟩
theorem To.rev {E : Nat → Nat → Prop} {a b : Nat} : To (fun a b => E b a) a b ↔ To E b a := by
 constructor
 ·rintro (h | h)
  ·exact .inl h.symm
  ·exact .inr h.rev
 ·rintro (h | h)
  ·exact .inl h.symm
  ·exact .inr h.rev
theorem PartK.gone (w : WfE n l) {D T D1 X R L : List Nat} {r : Nat} (h : PartK n l D T X R) (hd : DoneP (edR l) D) (hall : ∀ x, x ∈ D ↔ x < n) (hD : D = D1 ++ r :: T.reverse) (hr : r ∉ X) (hg : Gone (fun a b => edR l b a) X r L) :
  PartK n l D (T ++ [r]) (X ++ L) (R ++ [r]) ∧ ∀ x, x ∈ L ↔ x < n ∧ simB n l r x = true := by
 have hrn : r < n := (hall r).1 (by rw [hD]; simp);have key : ∀ x, x ∈ L ↔ x < n ∧ simB n l r x = true := fun x => by
  rw [hg.all x, To.rev, part_of hd hD (fun x y e _ => (hall y).2 (wf_lt w e).2) (X := X) (fun x y e hy => (h.dfs.closed y hy x e).resolve_right (by simp [nodesS])) (fun t ht => h.got t (by simpa using ht)) hr (fun x hx => (hall x).2 (by
   rcases hx with rfl | hx
   ·exact hrn
   ·exact (way_lt w hx).1)) x, sim_iff w]
  constructor
  ·rintro ⟨h1, h2⟩;refine ⟨?_, h2, h1⟩;rcases h1 with rfl | h1
   ·exact hrn
   ·exact (way_lt w h1).1
  ·rintro ⟨_, h1, h2⟩;exact ⟨h2, h1⟩
 refine ⟨⟨hg.dfs, fun x => ?_, fun t ht => ?_, fun t ht => ?_, ?_⟩, key⟩
 ·rw [List.mem_append, h.all, key]
  constructor
  ·rintro (⟨h1, s, hs, h2⟩ | ⟨h1, h2⟩)
   ·exact ⟨h1, s, List.mem_append_left _ hs, h2⟩
   ·exact ⟨h1, r, by simp, h2⟩
  ·rintro ⟨h1, s, hs, h2⟩;rcases List.mem_append.1 hs with h3 | h3
   ·exact .inl ⟨h1, s, h3, h2⟩
   ·rw [List.mem_singleton.1 h3] at h2;exact .inr ⟨h1, h2⟩
 ·rcases List.mem_append.1 ht with h1 | h1
  ·exact List.mem_append_left _ (h.got t h1)
  ·rw [List.mem_singleton.1 h1];exact List.mem_append_right _ ((key r).2 ⟨hrn, sim_refl r⟩)
 ·rcases List.mem_append.1 ht with h1 | h1
  ·exact h.rn t h1
  ·rw [List.mem_singleton.1 h1]; exact hrn
 ·rw [List.pairwise_append];refine ⟨h.ne, List.pairwise_singleton _ _, fun a ha b hb => ?_⟩;rw [List.mem_singleton.1 hb]
  cases hs : simB n l a r
  ·rfl
  ·exact absurd ((h.all r).2 ⟨hrn, a, ha, hs⟩) hr
theorem PartK.end_ {D T X R : List Nat} (h : PartK n l D T X R) (hT : ∀ x, x < n → x ∈ T) : ∀ x, x < n → ∃ r ∈ R, simB n l r x = true := fun x hx => ((h.all x).1 (h.got x (hT x hx))).2
end
end Go.Proofs.YtlemjgjpglmphaaDoor
