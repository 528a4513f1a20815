/- Parts. -/
import Derived.Test.YtlemjgjpglmphaaDoorPartOnceCardK22
set_option maxRecDepth 10000
set_option maxHeartbeats 16000000
set_option linter.unusedVariables false
set_option linter.unusedSimpArgs false
namespace Go.Proofs.YtlemjgjpglmphaaDoor
open Go.RowKit
attribute [local go_sem ↓] Go.wp_at_zero Go.wp_at_succ
def nextL (N : Nat) (h : List (Int × Int)) (a : Int) : List Int := ((List.range N).filter fun b : Nat => decide ((a, (b : Int)) ∈ h)).map fun b : Nat => (b : Int)
def backL (N : Nat) (h : List (Int × Int)) (b : Int) : List Int := ((List.range N).filter fun a : Nat => decide (((a : Int), b) ∈ h)).map fun a : Nat => (a : Int)
theorem nextL_len (N : Nat) (h : List (Int × Int)) (a : Int) : (nextL N h a).length ≤ N := by
 unfold nextL;rw [List.length_map];exact Nat.le_trans (List.length_filter_le _ _) (by simp)
theorem backL_len (N : Nat) (h : List (Int × Int)) (b : Int) : (backL N h b).length ≤ N := by
 unfold backL;rw [List.length_map];exact Nat.le_trans (List.length_filter_le _ _) (by simp)
def mayL (n : Int) (l : List (Int × Int)) : Bool := decide (0 ≤ n ∧ n ≤ 500) && l.all (goodE n.toNat)
end Go.Proofs.YtlemjgjpglmphaaDoor
namespace Go.Proofs.YtlemjgjpglmphaaDoor
def edR (h : List (Int × Int)) (a b : Nat) : Prop := ((a : Int), (b : Int)) ∈ h
def edB (h : List (Int × Int)) (a b : Nat) : Bool := decide (((a : Int), (b : Int)) ∈ h)
def WfE (n : Nat) (h : List (Int × Int)) : Prop := ∀ e ∈ h, ∃ a b : Nat, e = ((a : Int), (b : Int)) ∧ a < n ∧ b < n
def wayB (n : Nat) (h : List (Int × Int)) (a b : Nat) : Bool := closed (edB h) n a b
def roundB (n : Nat) (h : List (Int × Int)) : Bool := (List.range n).any fun a => wayB n h a a
theorem ed_iff (h : List (Int × Int)) (a b : Nat) : edB h a b = true ↔ edR h a b := by unfold edB edR; exact decide_eq_true_iff
theorem wf_lt {n : Nat} {h : List (Int × Int)} (w : WfE n h) {a b : Nat} (e : edR h a b) : a < n ∧ b < n := by
 obtain ⟨x, y, h1, h2, h3⟩ := w _ e;injection h1 with h4 h5;exact ⟨by omega, by omega⟩
theorem way_iff {n : Nat} {h : List (Int × Int)} (w : WfE n h) (a b : Nat) : wayB n h a b = true ↔ Way (edR h) a b := by
 unfold wayB;rw [closed_iff (fun a b e => (wf_lt w ((ed_iff h a b).1 e)).2)]
 constructor
 ·exact fun k => k.mono fun x y e => (ed_iff h x y).1 e
 ·exact fun k => k.mono fun x y e => (ed_iff h x y).2 e
theorem way_lt {n : Nat} {h : List (Int × Int)} (w : WfE n h) {a b : Nat} (k : Way (edR h) a b) : a < n ∧ b < n := by
 obtain ⟨c, hc⟩ := k.first;obtain ⟨d, hd⟩ := k.last;exact ⟨(wf_lt w hc).1, (wf_lt w hd).2⟩
end Go.Proofs.YtlemjgjpglmphaaDoor
