/- Parts. -/
import Derived.Test.YtlnlppabeddclaaDoorLaw23AllK20
set_option maxRecDepth 10000
set_option maxHeartbeats 16000000
set_option linter.unusedVariables false
set_option linter.unusedSimpArgs false
namespace Go.Proofs.YtlnlppabeddclaaDoor
def edR (h : List (Int × Int)) (a b : Nat) : Prop := ((a : Int), (b : Int)) ∈ h
def edB (h : List (Int × Int)) (a b : Nat) : Bool := decide (((a : Int), (b : Int)) ∈ h)
def WfE (n : Nat) (h : List (Int × Int)) : Prop := ∀ e ∈ h, ∃ a b : Nat, e = ((a : Int), (b : Int)) ∧ a < n ∧ b < n
def wayB (n : Nat) (h : List (Int × Int)) (a b : Nat) : Bool := closed (edB h) n a b
def reachL (n : Nat) (h : List (Int × Int)) (a : Nat) : List Int := ((List.range n).filter (wayB n h a)).map fun b : Nat => (b : Int)
def roundB (n : Nat) (h : List (Int × Int)) : Bool := (List.range n).any fun a => wayB n h a a
theorem ed_iff (h : List (Int × Int)) (a b : Nat) : edB h a b = true ↔ edR h a b := by unfold edB edR; exact decide_eq_true_iff
theorem wf_lt {n : Nat} {h : List (Int × Int)} (w : WfE n h) {a b : Nat} (e : edR h a b) : a < n ∧ b < n := by
 obtain ⟨x, y, h1, h2, h3⟩ := w _ e;injection h1 with h4 h5;exact ⟨by omega, by omega⟩
theorem way_iff {n : Nat} {h : List (Int × Int)} (w : WfE n h) (a b : Nat) : wayB n h a b = true ↔ Way (edR h) a b := by
 unfold wayB;rw [closed_iff (fun a b e => (wf_lt w ((ed_iff h a b).1 e)).2)]
 constructor
 ·exact fun k => k.mono fun x y e => (ed_iff h x y).1 e
 ·exact fun k => k.mono fun x y e => (ed_iff h x y).2 e
theorem way_lt {n : Nat} {h : List (Int × Int)} (w : WfE n h) {a b : Nat} (k : Way (edR h) a b) : a < n ∧ b < n := by
 obtain ⟨c, hc⟩ := k.first;obtain ⟨d, hd⟩ := k.last;exact ⟨(wf_lt w hc).1, (wf_lt w hd).2⟩
theorem reach_len (n : Nat) (h : List (Int × Int)) (a : Nat) : (reachL n h a).length ≤ n := by
 unfold reachL;rw [List.length_map];exact Nat.le_trans (List.length_filter_le _ _) (by simp)
theorem mem_reach {n : Nat} {h : List (Int × Int)} {a : Nat} {x : Int} : x ∈ reachL n h a ↔ ∃ b : Nat, x = (b : Int) ∧ b < n ∧ wayB n h a b = true := by
 unfold reachL;rw [List.mem_map]
 constructor
 ·rintro ⟨b, hb, rfl⟩;obtain ⟨h1, h2⟩ := List.mem_filter.1 hb;exact ⟨b, rfl, List.mem_range.1 h1, h2⟩
 ·rintro ⟨b, rfl, h1, h2⟩;exact ⟨b, List.mem_filter.2 ⟨List.mem_range.2 h1, h2⟩, rfl⟩
theorem round_iff {n : Nat} {h : List (Int × Int)} (w : WfE n h) : roundB n h = true ↔ ∃ a, Way (edR h) a a := by
 unfold roundB;rw [List.any_eq_true]
 constructor
 ·rintro ⟨a, -, h1⟩;exact ⟨a, (way_iff w a a).1 h1⟩
 ·rintro ⟨a, h1⟩;exact ⟨a, List.mem_range.2 (way_lt w h1).1, (way_iff w a a).2 h1⟩
open Go.RowKit
def markC (n : Nat) (l : List Int) : Array Value := ((List.range n).map fun i : Nat => Value.bool (decide ((i : Int) ∈ l))).toArray
theorem markC_size (n : Nat) (l : List Int) : (markC n l).size = n := by simp [markC]
theorem markC_at (n : Nat) (l : List Int) (i : Nat) (hi : i < n) : (markC n l)[i]? = some (.bool (decide ((i : Int) ∈ l))) := by simp [markC, hi]
theorem markC_snoc (n : Nat) (l : List Int) (i : Nat) (hi : i < n) : markC n (l ++ [(i : Int)]) = (markC n l).setIfInBounds i (.bool true) := by
 apply Array.ext_getElem?
 intro j
 by_cases hj : j < n
 ·rw [markC_at _ _ _ hj, Array.getElem?_setIfInBounds]
  by_cases hij : i = j
  ·subst hij;rw [if_pos rfl, if_pos (by rw [markC_size]; exact hi)];simp
  ·rw [if_neg hij, markC_at _ _ _ hj];have : (j : Int) ∈ l ++ [(i : Int)] ↔ (j : Int) ∈ l := by
    simp;omega
   simp [this]
 ·rw [Array.getElem?_eq_none (by rw [markC_size]; omega), Array.getElem?_eq_none (by simp [markC_size]; omega)]
theorem made_mark (n : Nat) : madeCells #[.bool false] n = markC n [] := by
 apply Array.ext_getElem?
 intro j
 by_cases hj : j < n <;> simp [madeCells, markC, Nat.mod_one, hj]
theorem info_bool : (Tryd.prog.info? 4).map (fun i => (i.zero, i.size, i.bytes)) = some (some (.bool false), 1, 1) := by kernel_rfl
end Go.Proofs.YtlnlppabeddclaaDoor
