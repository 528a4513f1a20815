/- Parts. -/
import Derived.Test.YtoojabllolnhnaaDoorLaw22AllK24
set_option maxRecDepth 10000
set_option maxHeartbeats 16000000
set_option linter.unusedVariables false
set_option linter.unusedSimpArgs false
namespace Go.Proofs.YtoojabllolnhnaaDoor
def maskT (S : List Int) : Nat := S.foldl (fun m a => m ||| 2 ^ a.toNat) 0
theorem maskT_snoc (S : List Int) (a : Int) : maskT (S ++ [a]) = maskT S ||| 2 ^ a.toNat := by unfold maskT; rw [List.foldl_append]; rfl
theorem mask_fold (i : Nat) : ∀ (S : List Int) (m : Nat), (∀ a ∈ S, 0 ≤ a) → (S.foldl (fun m a => m ||| 2 ^ a.toNat) m).testBit i = (m.testBit i || decide ((i : Int) ∈ S))
 | [], m, _ => by simp
 | a :: S, m, h => by
  rw [List.foldl_cons, mask_fold i S _ (fun x hx => h x (List.mem_cons_of_mem _ hx)), Nat.testBit_or, Nat.testBit_two_pow, Bool.or_assoc]
  congr 1
  have := h a List.mem_cons_self
  by_cases e : (i : Int) = a
  ·subst e; simp
  ·have h1 : a.toNat ≠ i := by omega
   simp [h1, e]
theorem mask_bit {S : List Int} (h : ∀ a ∈ S, 0 ≤ a) (i : Nat) : (maskT S).testBit i = decide ((i : Int) ∈ S) := by
 unfold maskT;rw [mask_fold i S 0 h];simp
def freeS (n : Nat) (l : List (Int × Int)) (M v : Nat) : Bool := !M.testBit v && (List.range n).all fun a => !edB l a v || M.testBit a
theorem free_mask {n : Nat} {l : List (Int × Int)} (w : WfE n l) {S : List Int} (h : ∀ a ∈ S, 0 ≤ a) (v : Nat) : freeB l S (v : Int) = freeS n l (maskT S) v := by
 rw [Bool.eq_iff_iff, free_iff];unfold freeS;rw [Bool.and_eq_true, mask_bit h, List.all_eq_true];refine and_congr (by simp) ?_
 constructor
 ·intro k a _;rw [mask_bit h, Bool.or_eq_true, Bool.not_eq_true', decide_eq_true_eq]
  cases he : edB l a v
  ·exact .inl rfl
  ·exact .inr (k a ((ed_iff l a v).1 he))
 ·intro k x hx;obtain ⟨a, b, h1, h2, h3⟩ := w _ hx;injection h1 with h4 h5;subst h4;have := k a (List.mem_range.2 h2);rw [mask_bit h, Bool.or_eq_true, Bool.not_eq_true', decide_eq_true_eq] at this;rcases this with h6 | h6
  ·rw [(ed_iff l a v).2 hx] at h6
   cases h6
  ·exact h6
def seqsT (n : Nat) (l : List (Int × Int)) : Nat → List (List Int)
 | 0 => [[]]
 | k + 1 => (seqsT n l k).flatMap fun S => ((List.range n).filter fun a : Nat => freeB l S (a : Int)).map fun a : Nat => S ++ [(a : Int)]
def extT (n : Nat) (l : List (Int × Int)) : Nat → List Int → Nat
 | 0, _ => 1
 | k + 1, S => (((List.range n).filter fun a : Nat => freeB l S (a : Int)).map fun a : Nat => extT n l k (S ++ [(a : Int)])).sum
theorem sum_flat {α β : Type} (f : α → List β) (g : β → Nat) : ∀ L : List α, ((L.flatMap f).map g).sum = (L.map fun x => ((f x).map g).sum).sum
 | [] => rfl
 | x :: L => by simp only [List.flatMap_cons, List.map_append, List.sum_append, List.map_cons, List.sum_cons, sum_flat f g L]
theorem ext_seqs (n : Nat) (l : List (Int × Int)) : ∀ (k j : Nat), ((seqsT n l j).map (extT n l k)).sum = (seqsT n l (j + k)).length
 | 0, j => by
  have : ∀ L : List (List Int), (L.map (extT n l 0)).sum = L.length := by
   intro L
   induction L with
   | nil => rfl
   | cons x L ih => rw [List.map_cons, List.sum_cons, ih, List.length_cons]; simp [extT]; omega
  exact this _
 | k + 1, j => by
  have ih := ext_seqs n l k (j + 1);rw [show j + (k + 1) = j + 1 + k by omega, ← ih]
  show _ = (((seqsT n l j).flatMap _).map (extT n l k)).sum
  rw [sum_flat]
  congr 1
  refine List.map_congr_left fun S _ => ?_;rw [List.map_map]
  rfl
theorem seqs_ord {n : Nat} {l : List (Int × Int)} : ∀ (k : Nat) {S : List Int}, S ∈ seqsT n l k → Ord n l S ∧ S.length = k
 | 0, S, h => by
  rw [List.mem_singleton.1 h];exact ⟨Ord.nil n l, rfl⟩
 | k + 1, S, h => by
  obtain ⟨T, hT, h1⟩ := List.mem_flatMap.1 h;obtain ⟨a, ha, rfl⟩ := List.mem_map.1 h1;obtain ⟨h2, h3⟩ := List.mem_filter.1 ha;obtain ⟨o, hl⟩ := seqs_ord k hT;exact ⟨o.snoc (List.mem_range.1 h2) h3, by simp [hl]⟩
def cntT (n : Nat) (l : List (Int × Int)) (k M : Nat) : Nat := ((seqsT n l k).filter fun S => decide (maskT S = M)).length
def gTo (n : Nat) (l : List (Int × Int)) (j M M' : Nat) : Nat := ((List.range j).filter fun v => freeS n l M v && decide (M ||| 2 ^ v = M')).length
theorem gTo_succ (n : Nat) (l : List (Int × Int)) (j M M' : Nat) : gTo n l (j + 1) M M' = gTo n l j M M' + if freeS n l M j = true ∧ M ||| 2 ^ j = M' then 1 else 0 := by
 unfold gTo;rw [List.range_succ, List.filter_append, List.length_append]
 congr 1
 by_cases h : freeS n l M j = true ∧ M ||| 2 ^ j = M'
 ·rw [if_pos h]; simp [h.1, h.2]
 ·rw [if_neg h];have : (freeS n l M j && decide (M ||| 2 ^ j = M')) = false := by
   rw [Bool.eq_false_iff];intro hh;rw [Bool.and_eq_true, decide_eq_true_eq] at hh;exact h hh
  simp [this]
theorem cnt_succ {n : Nat} {l : List (Int × Int)} (w : WfE n l) (k M' : Nat) : cntT n l (k + 1) M' = ((seqsT n l k).map fun S => gTo n l n (maskT S) M').sum := by
 unfold cntT
 show (((seqsT n l k).flatMap _).filter _).length = _
 have : ∀ L : List (List Int), (∀ S ∈ L, ∀ a ∈ S, 0 ≤ a) → ((L.flatMap fun S => ((List.range n).filter fun a : Nat => freeB l S (a : Int)).map fun a : Nat => S ++ [(a : Int)]).filter fun S => decide (maskT S = M')).length = (L.map fun S => gTo n l n (maskT S) M').sum := by
  intro L
  induction L with
  | nil => intro _; rfl
  | cons S L ih =>
   intro h;rw [List.flatMap_cons, List.filter_append, List.length_append, List.map_cons, List.sum_cons, ih fun T hT => h T (List.mem_cons_of_mem _ hT)]
   congr 1
   unfold gTo;rw [List.filter_map, List.length_map, List.filter_filter]
   congr 1
   refine List.filter_congr fun a _ => ?_;rw [Bool.and_comm, free_mask w (h S List.mem_cons_self) a]
   congr 1
   simp only [Function.comp, maskT_snoc, Int.toNat_natCast]
 exact this _ fun S hS a ha => ((seqs_ord k hS).1.lt a ha).1
theorem group_sum {α : Type} (m : α → Nat) (f : Nat → Nat) (keys : List Nat) (hd : keys.Nodup) : ∀ L : List α, (∀ x ∈ L, m x ∈ keys) → (L.map fun x => f (m x)).sum = (keys.map fun M => (L.filter fun x => decide (m x = M)).length * f M).sum
 | [], _ => by
  have : ∀ K : List Nat, (K.map fun M => (([] : List α).filter fun x => decide (m x = M)).length * f M).sum = 0 := by
   intro K
   induction K with
   | nil => rfl
   | cons a K ih => rw [List.map_cons, List.sum_cons, ih]; simp
  exact (this keys).symm
 | x :: L, h => by
  rw [List.map_cons, List.sum_cons, group_sum m f keys hd L fun y hy => h y (List.mem_cons_of_mem _ hy)];have hx := h x List.mem_cons_self;have key : ∀ K : List Nat, K.Nodup → (K.map fun M => ((x :: L).filter fun x => decide (m x = M)).length * f M).sum = (K.map fun M => (L.filter fun x => decide (m x = M)).length * f M).sum + if m x ∈ K then f (m x) else 0 := by
   intro K
   induction K with
   | nil => intro _; rfl
   | cons a K ih =>
    intro hK;obtain ⟨h1, h2⟩ := List.nodup_cons.1 hK;rw [List.map_cons, List.sum_cons, List.map_cons, List.sum_cons, ih h2]
    by_cases e : m x = a
    ·subst e;rw [if_neg h1, if_pos List.mem_cons_self, List.filter_cons, if_pos (by simp), List.length_cons, Nat.add_mul, Nat.one_mul];omega
    ·rw [List.filter_cons, if_neg (by simpa using e)];have : (m x ∈ a :: K) ↔ m x ∈ K := by
      rw [List.mem_cons];exact ⟨fun h => h.resolve_left e, .inr⟩
     by_cases hm : m x ∈ K
     ·rw [if_pos hm, if_pos (this.2 hm)]; omega
     ·rw [if_neg hm, if_neg fun h => hm (this.1 h)]; omega
  rw [key keys hd, if_pos hx, Nat.add_comm]
def capT (x : Nat) : Nat := min x 1000000
theorem cap_add (a b : Nat) : capT (capT a + capT b) = capT (a + b) := by unfold capT; omega
def totT (n : Nat) (l : List (Int × Int)) (k : Nat) (P : List Nat) (M' : Nat) : Nat := (P.map fun M => cntT n l k M * gTo n l n M M').sum
theorem tot_all {n : Nat} {l : List (Int × Int)} (w : WfE n l) (k : Nat) {P : List Nat} (hd : P.Nodup) (hc : ∀ M, cntT n l k M ≠ 0 → M ∈ P) (M' : Nat) : totT n l k P M' = cntT n l (k + 1) M' := by
 rw [cnt_succ w, group_sum maskT (fun M => gTo n l n M M') P hd]
 ·rfl
 ·intro S hS;refine hc _ fun h => ?_;unfold cntT at h;have := List.filter_eq_nil_iff.1 (List.length_eq_zero_iff.1 h) S hS;simp at this
theorem cnt_lt {n : Nat} {l : List (Int × Int)} {k M : Nat} (h : cntT n l k M ≠ 0) : M < 2 ^ n := by
 unfold cntT at h;obtain ⟨S, hS⟩ := List.exists_mem_of_length_pos (Nat.pos_of_ne_zero h);obtain ⟨h1, h2⟩ := List.mem_filter.1 hS;have h3 : maskT S = M := by simpa using h2
 have o := (seqs_ord k h1).1;refine Nat.lt_pow_two_of_testBit _ fun i hi => ?_;rw [← h3, mask_bit fun a ha => (o.lt a ha).1, decide_eq_false];intro hm;have := o.lt _ hm;omega
theorem cnt_full {n : Nat} {l : List (Int × Int)} : cntT n l n (2 ^ n - 1) = extT n l n [] := by
 have h := ext_seqs n l n 0;simp only [seqsT, List.map_cons, List.map_nil, List.sum_cons, List.sum_nil, Nat.zero_add, Nat.add_zero] at h;rw [h];unfold cntT;rw [List.filter_eq_self.2];intro S hS;obtain ⟨o, hl⟩ := seqs_ord n hS;rw [decide_eq_true_eq];refine Nat.eq_of_testBit_eq fun i => ?_;rw [mask_bit fun a ha => (o.lt a ha).1, Nat.testBit_two_pow_sub_one]
 by_cases hi : i < n
 ·rw [decide_eq_true hi, decide_eq_true (nodup_cover o.nd o.lt hl i hi)]
 ·rw [decide_eq_false hi, decide_eq_false fun hm => hi (by have := o.lt _ hm; omega)]
theorem cnt_zero (n : Nat) (l : List (Int × Int)) (M : Nat) : cntT n l 0 M = if M = 0 then 1 else 0 := by
 unfold cntT seqsT maskT
 by_cases h : M = 0
 ·subst h; rfl
 ·rw [if_neg h];simp [Ne.symm h]
end Go.Proofs.YtoojabllolnhnaaDoor
