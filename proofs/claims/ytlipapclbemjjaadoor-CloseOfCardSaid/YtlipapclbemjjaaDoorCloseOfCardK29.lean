/- What is reached, the closure, and what is thin, of a list of edges. Mathematics. -/
import Derived.Test.YtlipapclbemjjaaDoorCloseOfCardK28
import Derived.Test.YtlipapclbemjjaaDoorCloseOfCardK25
set_option linter.unusedVariables false
set_option linter.unusedSimpArgs false
namespace Go.Proofs.YtlipapclbemjjaaDoor
def edR (h : List (Int × Int)) (a b : Nat) : Prop := ((a : Int), (b : Int)) ∈ h
def edB (h : List (Int × Int)) (a b : Nat) : Bool := decide (((a : Int), (b : Int)) ∈ h)
def WfE (n : Nat) (h : List (Int × Int)) : Prop := ∀ e ∈ h, ∃ a b : Nat, e = ((a : Int), (b : Int)) ∧ a < n ∧ b < n
def wayB (n : Nat) (h : List (Int × Int)) (a b : Nat) : Bool := closed (edB h) n a b
def reachL (n : Nat) (h : List (Int × Int)) (a : Nat) : List Int := ((List.range n).filter (wayB n h a)).map fun b : Nat => (b : Int)
def closeTo (n : Nat) (h : List (Int × Int)) (k : Nat) : List (Int × Int) := (List.range k).flatMap fun a : Nat => (reachL n h a).map fun b => ((a : Int), b)
def closeL (n : Nat) (h : List (Int × Int)) : List (Int × Int) := closeTo n h n
def roundB (n : Nat) (h : List (Int × Int)) : Bool := (List.range n).any fun a => wayB n h a a
def otherB (n : Nat) (h : List (Int × Int)) (a b : Nat) : Bool := (List.range n).any fun c => edB h a c && wayB n h c b
def thinL (n : Nat) (h : List (Int × Int)) : List (Int × Int) := if roundB n h = true then redgesTo n h n else (redgesTo n h n).filter fun e => !otherB n h e.1.toNat e.2.toNat
theorem ed_iff (h : List (Int × Int)) (a b : Nat) : edB h a b = true ↔ edR h a b := by unfold edB edR; exact decide_eq_true_iff
theorem wf_lt {n : Nat} {h : List (Int × Int)} (w : WfE n h) {a b : Nat} (e : edR h a b) : a < n ∧ b < n := by
 obtain ⟨x, y, h1, h2, h3⟩ := w _ e
 injection h1 with h4 h5
 exact ⟨by omega, by omega⟩
theorem way_iff {n : Nat} {h : List (Int × Int)} (w : WfE n h) (a b : Nat) : wayB n h a b = true ↔ Way (edR h) a b := by
 unfold wayB
 rw [closed_iff (fun a b e => (wf_lt w ((ed_iff h a b).1 e)).2)]
 constructor
 ·exact fun k => k.mono fun x y e => (ed_iff h x y).1 e
 ·exact fun k => k.mono fun x y e => (ed_iff h x y).2 e
theorem way_lt {n : Nat} {h : List (Int × Int)} (w : WfE n h) {a b : Nat} (k : Way (edR h) a b) : a < n ∧ b < n := by
 obtain ⟨c, hc⟩ := k.first
 obtain ⟨d, hd⟩ := k.last
 exact ⟨(wf_lt w hc).1, (wf_lt w hd).2⟩
theorem closeTo_succ (n : Nat) (h : List (Int × Int)) (k : Nat) : closeTo n h (k + 1) = closeTo n h k ++ (reachL n h k).map fun b => ((k : Int), b) := by
 unfold closeTo
 rw [List.range_succ, List.flatMap_append]
 simp
theorem reach_len (n : Nat) (h : List (Int × Int)) (a : Nat) : (reachL n h a).length ≤ n := by
 unfold reachL
 rw [List.length_map]
 exact Nat.le_trans (List.length_filter_le _ _) (by simp)
theorem closeTo_len (n : Nat) (h : List (Int × Int)) (k : Nat) : (closeTo n h k).length ≤ n * k := by
 induction k with
 | zero => simp [closeTo]
 | succ k ih =>
  rw [closeTo_succ, List.length_append, List.length_map, Nat.mul_add, Nat.mul_one]
  have := reach_len n h k
  omega
theorem mem_redges {n : Nat} {h : List (Int × Int)} (w : WfE n h) {e : Int × Int} : e ∈ redgesTo n h n ↔ e ∈ h := by
 unfold redgesTo rrowE nextL
 rw [List.mem_flatMap]
 constructor
 ·rintro ⟨a, ha, hm⟩
  obtain ⟨y, hy, rfl⟩ := List.mem_map.1 hm
  obtain ⟨b, hb, rfl⟩ := List.mem_map.1 hy
  simpa using (List.mem_filter.1 hb).2
 ·intro he
  obtain ⟨a, b, rfl, h1, h2⟩ := w e he
  exact ⟨a, List.mem_range.2 h1, List.mem_map.2 ⟨(b : Int), List.mem_map.2 ⟨b, List.mem_filter.2 ⟨List.mem_range.2 h2, by simpa using he⟩, rfl⟩, rfl⟩⟩
theorem nodup_redges (n : Nat) (h : List (Int × Int)) : (redgesTo n h n).Nodup := by
 unfold redgesTo
 refine List.pairwise_flatMap.2 ⟨fun a _ => ?_, ?_⟩
 ·unfold rrowE nextL
  refine List.pairwise_map.2 (List.pairwise_map.2 ?_)
  refine (List.nodup_range.filter _).imp fun {x y} hne e => hne ?_
  injection e with _ e2
  omega
 ·refine List.nodup_range.imp fun {x y} hne p hp q hq e => hne ?_
  unfold rrowE at hp hq
  obtain ⟨u, -, rfl⟩ := List.mem_map.1 hp
  obtain ⟨v, -, rfl⟩ := List.mem_map.1 hq
  injection e with e1 _
  omega
end Go.Proofs.YtlipapclbemjjaaDoor
