/- Parts. -/
import Derived.Test.YtlnlppabeddclaaDoorLaw23AllK21
set_option maxRecDepth 10000
set_option maxHeartbeats 16000000
set_option linter.unusedVariables false
set_option linter.unusedSimpArgs false
namespace Go.Proofs.YtlnlppabeddclaaDoor
open Go.RowKit
theorem row_of_own {w : World} {base : Nat} {e : TypeId} {size n c : Nat} {A : Option Addr} {xs : List Value} (h : w.ownsRow base e size (.slice A n c) n xs) : Row w w.heap.size A xs := by
 obtain ⟨A', c', e1, -, -, -, h3⟩ := own_row h;injection e1 with ea eb ec;subst ea ec;exact h3
def leftK (n : Nat) (K : List Int) : Nat := ((List.range n).filter fun i : Nat => !decide ((i : Int) ∈ K)).length
theorem leftK_le (n : Nat) (K : List Int) : leftK n K ≤ n := Nat.le_trans (List.length_filter_le _ _) (by simp)
theorem leftK_snoc {n : Nat} {K : List Int} {q : Nat} (hq : q < n) (hK : (q : Int) ∉ K) : leftK n (K ++ [(q : Int)]) + 1 = leftK n K := by
 unfold leftK;have gen : ∀ (l : List Nat), l.Nodup → ((l.filter fun i : Nat => !decide ((i : Int) ∈ K ++ [(q : Int)])).length + if q ∈ l then 1 else 0) = (l.filter fun i : Nat => !decide ((i : Int) ∈ K)).length := by
  intro l
  induction l with
  | nil => intro _; simp
  | cons x l ih =>
   intro hd;obtain ⟨h1, h2⟩ := List.nodup_cons.1 hd;have ih := ih h2
   by_cases hx : x = q
   ·subst hx;rw [if_neg h1] at ih;have e1 : (!decide ((x : Int) ∈ K ++ [(x : Int)])) = false := by simp
    have e2 : (!decide ((x : Int) ∈ K)) = true := by simp [hK]
    rw [List.filter_cons, List.filter_cons, e1, e2, if_neg (by decide), if_pos rfl, if_pos List.mem_cons_self, List.length_cons];omega
   ·have e : (!decide ((x : Int) ∈ K ++ [(q : Int)])) = (!decide ((x : Int) ∈ K)) := by
     congr 1
     rw [decide_eq_decide, List.mem_append]
     constructor
     ·rintro (h | h)
      ·exact h
      ·simp at h; omega
     ·exact .inl
    have hm : (q ∈ x :: l) ↔ q ∈ l := by
     rw [List.mem_cons];exact ⟨fun h => h.resolve_left (fun e => hx e.symm), .inr⟩
    by_cases hql : q ∈ l
    ·rw [if_pos (hm.2 hql)];rw [if_pos hql] at ih;rw [List.filter_cons, List.filter_cons, e]
     split
     ·simp only [List.length_cons]; omega
     ·exact ih
    ·rw [if_neg (fun h => hql (hm.1 h))];rw [if_neg hql] at ih;rw [List.filter_cons, List.filter_cons, e]
     split
     ·simp only [List.length_cons]; omega
     ·exact ih
 have := gen (List.range n) List.nodup_range;rw [if_pos (List.mem_range.2 hq)] at this;exact this
structure MarkR (n : Nat) (l : List (Int × Int)) (a : Nat) (K : List Int) : Prop where
 way : ∀ x ∈ K, ∃ q : Nat, x = (q : Int) ∧ q < n ∧ Way (edR l) a q
def ClosedK (l : List (Int × Int)) (a : Nat) (K : List Int) : Prop := (∀ y : Nat, edR l a y → (y : Int) ∈ K) ∧ ∀ x y : Nat, edR l x y → (x : Int) ∈ K → (y : Int) ∈ K
theorem mark_all {n : Nat} {l : List (Int × Int)} (w : WfE n l) {a : Nat} {K : List Int} (h : MarkR n l a K) (hc : ClosedK l a K) : ((List.range n).filter fun b : Nat => decide ((b : Int) ∈ K)) = (List.range n).filter (wayB n l a) := by
 refine List.filter_congr fun b hb => ?_;have h1 := way_iff w a b
 by_cases hk : (b : Int) ∈ K
 ·obtain ⟨q, hq, -, hw⟩ := h.way _ hk;obtain rfl : b = q := by omega
  rw [decide_eq_true hk, h1.2 hw]
 ·rw [decide_eq_false hk]
  cases hx : wayB n l a b
  ·rfl
  ·exfalso
   rw [hx] at h1;exact hk (way_from (m := fun y => (y : Int) ∈ K) (fun y e => hc.1 y e) (fun x y e hx => hc.2 x y e hx) (h1.1 rfl))
theorem mark_snoc {n : Nat} {l : List (Int × Int)} {a : Nat} {K : List Int} (w : WfE n l) (h : MarkR n l a K) {x y : Nat} (e : edR l x y) (hx : x = a ∨ (x : Int) ∈ K) : MarkR n l a (K ++ [(y : Int)]) := ⟨fun z hz => by
 rcases List.mem_append.1 hz with hz | hz
 ·exact h.way z hz
 ·simp at hz;subst hz;refine ⟨y, rfl, (wf_lt w e).2, ?_⟩;rcases hx with rfl | hx
  ·exact .one e
  ·obtain ⟨q, hq, -, hw⟩ := h.way _ hx;obtain rfl : x = q := by omega
   exact hw.trans (.one e)⟩
def FirstK (f : Bool) (l : List (Int × Int)) (a : Nat) (K : List Int) : Prop := f = true → ∀ y : Nat, ((a : Int), (y : Int)) ∈ l → (y : Int) ∈ K
def SameK (more : Bool) (l : List (Int × Int)) (K K' : List Int) : Prop := more = false → K' = K ∧ ∀ x y : Nat, ((x : Int), (y : Int)) ∈ l → (x : Int) ∈ K → (y : Int) ∈ K
def LeftOk (n : Nat) (more : Bool) (K K' : List Int) : Prop := leftK n K' + (if more = true then 1 else 0) ≤ leftK n K
def SuccK (f : Bool) (l : List (Int × Int)) (a : Nat) (K : List Int) : Prop := f = false → ∀ y : Nat, edR l a y → (y : Int) ∈ K
def ClosK (more : Bool) (l : List (Int × Int)) (a : Nat) (K : List Int) : Prop := more = false → ClosedK l a K
def markL (k : Nat) (K : List Int) : List Int := ((List.range k).filter fun b : Nat => decide ((b : Int) ∈ K)).map fun b : Nat => (b : Int)
theorem markL_succ (k : Nat) (K : List Int) : markL (k + 1) K = markL k K ++ if (k : Int) ∈ K then [(k : Int)] else [] := by
 unfold markL;rw [List.range_succ, List.filter_append, List.map_append]
 congr 1
 by_cases h : (k : Int) ∈ K <;> simp [h]
theorem markL_len (k : Nat) (K : List Int) : (markL k K).length ≤ k := by
 unfold markL;rw [List.length_map];exact Nat.le_trans (List.length_filter_le _ _) (by simp)
end Go.Proofs.YtlnlppabeddclaaDoor
