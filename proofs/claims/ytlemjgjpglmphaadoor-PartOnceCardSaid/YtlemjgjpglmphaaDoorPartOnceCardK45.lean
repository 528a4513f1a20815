/- Parts. -/
import Derived.Test.YtlemjgjpglmphaaDoorPartOnceCardK42
import Derived.Test.YtlemjgjpglmphaaDoorPartOnceCardK44
set_option maxRecDepth 10000
set_option maxHeartbeats 16000000
set_option linter.unusedVariables false
set_option linter.unusedSimpArgs false
namespace Go.Proofs.YtlemjgjpglmphaaDoor
def sumL (P : List (List Int)) : Nat := (P.map List.length).sum
theorem sumL_take (P : List (List Int)) (i : Nat) : sumL (P.take i) ≤ sumL P := by
 have h : sumL P = sumL (P.take i) + sumL (P.drop i) := by
  unfold sumL;rw [← List.sum_append_nat, ← List.map_append, List.take_append_drop]
 omega
theorem sumL_succ {P : List (List Int)} {i : Nat} {p : List Int} (h : P[i]? = some p) : sumL (P.take (i + 1)) = sumL (P.take i) + p.length := by
 unfold sumL;rw [List.take_add_one, h, List.map_append, List.sum_append_nat];simp
theorem sum_parts {n : Nat} {l : List (Int × Int)} (w : WfE n l) : sumL (partsL n l) = n := by
 have h := parts_in w;have hnd : (partsL n l).flatten.Nodup := by
  unfold List.Nodup;rw [List.pairwise_flatten];refine ⟨fun p hp => ?_, ?_⟩
  ·unfold partsL at hp;obtain ⟨a, -, rfl⟩ := List.mem_map.1 hp;exact (part_rise a).imp fun {x y} hxy e => by omega
  ·rw [List.pairwise_iff_getElem];intro i j hi hj hij x hx y hy e;subst e;obtain ⟨q, rfl, -⟩ := h.nat _ (List.getElem_mem hi) x hx;have h1 := h.one i _ (List.getElem?_eq_getElem hi) q hx;have h2 := h.one j _ (List.getElem?_eq_getElem hj) q hy;omega
 have hmem : ∀ x, x ∈ (partsL n l).flatten ↔ x ∈ (List.range n).map fun b : Nat => (b : Int) := fun x => by
  rw [List.mem_flatten, List.mem_map]
  constructor
  ·rintro ⟨p, hp, hx⟩;obtain ⟨q, rfl, hq⟩ := h.nat p hp x hx;exact ⟨q, List.mem_range.2 hq, rfl⟩
  ·rintro ⟨q, hq, rfl⟩;have hl := h.got q (List.mem_range.1 hq);refine ⟨_, List.getElem_mem hl, ?_⟩;have h4 : decide ((q : Int) ∈ (partsL n l)[(partsL n l).findIdx fun p => decide ((q : Int) ∈ p)]'(hl)) = true := List.findIdx_getElem (w := hl);exact decide_eq_true_iff.1 h4
 have hr : ((List.range n).map fun b : Nat => (b : Int)).Nodup := List.pairwise_map.2 (List.nodup_range.imp fun {x y} hxy e => hxy (by omega));have := ((List.perm_ext_iff_of_nodup hnd hr).2 hmem).length_eq;rw [List.length_map, List.length_range, List.length_flatten] at this;exact this
def outL (P : List (List Int)) (l : List (Int × Int)) : List (Int × Int) := l.filter fun e => decide ((idxP P e.1.toNat : Int) ≠ (idxP P e.2.toNat : Int))
theorem outL_wf {n : Nat} {P : List (List Int)} {l : List (Int × Int)} (w : WfE n l) : WfE n (outL P l) := fun e he => w e (List.mem_filter.1 he).1
theorem outL_len (P : List (List Int)) (l : List (Int × Int)) : (outL P l).length ≤ l.length := List.length_filter_le _ _
theorem idx_sim {n : Nat} {l : List (Int × Int)} (w : WfE n l) {a b : Nat} (ha : a < n) (hb : b < n) (h : simB n l a b = true) : idxP (partsL n l) a = idxP (partsL n l) b := by
 have hp := parts_in w;have hl := hp.got a ha;have h4 : decide ((a : Int) ∈ (partsL n l)[(partsL n l).findIdx fun p => decide ((a : Int) ∈ p)]'(hl)) = true := List.findIdx_getElem (w := hl);rw [decide_eq_true_iff] at h4;have hmem : (partsL n l)[(partsL n l).findIdx fun p => decide ((a : Int) ∈ p)]'(hl) ∈ partsL n l := List.getElem_mem hl;have hb2 : (b : Int) ∈ (partsL n l)[(partsL n l).findIdx fun p => decide ((a : Int) ∈ p)]'(hl) := by
  generalize (partsL n l)[(partsL n l).findIdx fun p => decide ((a : Int) ∈ p)]'(hl) = p at *;unfold partsL at hmem;obtain ⟨c, -, rfl⟩ := List.mem_map.1 hmem;obtain ⟨d, hd, _, hs⟩ := mem_part.1 h4;obtain rfl : a = d := by omega
  exact mem_part.2 ⟨b, rfl, hb, sim_trans w hs h⟩
 exact (hp.one _ _ (List.getElem?_eq_getElem hl) b hb2).symm
theorem out_no_round {n : Nat} {l : List (Int × Int)} (w : WfE n l) : roundB n (outL (partsL n l) l) = false := by
 cases hr : roundB n (outL (partsL n l) l) with
 | false => rfl
 | true =>
  unfold roundB at hr;obtain ⟨a, ha, hw⟩ := List.any_eq_true.1 hr;rw [way_iff (outL_wf w)] at hw;have hsub : ∀ x y, edR (outL (partsL n l) l) x y → edR l x y ∧ idxP (partsL n l) x ≠ idxP (partsL n l) y := fun x y e => by
   obtain ⟨h1, h2⟩ := List.mem_filter.1 e;refine ⟨h1, ?_⟩;rw [decide_eq_true_iff] at h2;simp only [Int.toNat_natCast] at h2;omega
  have key : ∀ {x y : Nat}, Way (edR (outL (partsL n l) l)) x y → y = x → False := by
   intro x y hxy
   cases hxy with
   | one e => intro h; subst h; exact (hsub _ _ e).2 rfl
   | more e k =>
    rename_i c
    intro h;subst h;obtain ⟨h1, h2⟩ := hsub _ _ e;have hk : Way (edR l) c y := k.mono fun x y e => (hsub x y e).1;exact h2 (idx_sim w (wf_lt w h1).1 (wf_lt w h1).2 ((sim_iff w _ _).2 ⟨.edge h1, .inr hk⟩))
  exact (key hw rfl).elim
end Go.Proofs.YtlemjgjpglmphaaDoor
