/- What is reached, the closure, and what is thin, of a list of edges. Mathematics. -/
import Derived.Test.YtlipapclbemjjaaDoorCloseStaysCardK30
import Derived.Test.YtlipapclbemjjaaDoorCloseStaysCardK26
set_option linter.unusedVariables false
set_option linter.unusedSimpArgs false
namespace Go.Proofs.YtlipapclbemjjaaDoor
def edR (h : List (Int × Int)) (a b : Nat) : Prop := ((a : Int), (b : Int)) ∈ h
def edB (h : List (Int × Int)) (a b : Nat) : Bool := decide (((a : Int), (b : Int)) ∈ h)
def WfE (n : Nat) (h : List (Int × Int)) : Prop := ∀ e ∈ h, ∃ a b : Nat, e = ((a : Int), (b : Int)) ∧ a < n ∧ b < n
def wayB (n : Nat) (h : List (Int × Int)) (a b : Nat) : Bool := closed (edB h) n a b
def reachL (n : Nat) (h : List (Int × Int)) (a : Nat) : List Int := ((List.range n).filter (wayB n h a)).map fun b : Nat => (b : Int)
def closeTo (n : Nat) (h : List (Int × Int)) (k : Nat) : List (Int × Int) := (List.range k).flatMap fun a : Nat => (reachL n h a).map fun b => ((a : Int), b)
def closeL (n : Nat) (h : List (Int × Int)) : List (Int × Int) := closeTo n h n
def roundB (n : Nat) (h : List (Int × Int)) : Bool := (List.range n).any fun a => wayB n h a a
def otherB (n : Nat) (h : List (Int × Int)) (a b : Nat) : Bool := (List.range n).any fun c => edB h a c && wayB n h c b
def thinL (n : Nat) (h : List (Int × Int)) : List (Int × Int) := if roundB n h = true then redgesTo n h n else (redgesTo n h n).filter fun e => !otherB n h e.1.toNat e.2.toNat
theorem ed_iff (h : List (Int × Int)) (a b : Nat) : edB h a b = true ↔ edR h a b := by unfold edB edR; exact decide_eq_true_iff
theorem wf_lt {n : Nat} {h : List (Int × Int)} (w : WfE n h) {a b : Nat} (e : edR h a b) : a < n ∧ b < n := by
 obtain ⟨x, y, h1, h2, h3⟩ := w _ e
 injection h1 with h4 h5
 exact ⟨by omega, by omega⟩
theorem way_iff {n : Nat} {h : List (Int × Int)} (w : WfE n h) (a b : Nat) : wayB n h a b = true ↔ Way (edR h) a b := by
 unfold wayB
 rw [closed_iff (fun a b e => (wf_lt w ((ed_iff h a b).1 e)).2)]
 constructor
 ·exact fun k => k.mono fun x y e => (ed_iff h x y).1 e
 ·exact fun k => k.mono fun x y e => (ed_iff h x y).2 e
theorem way_lt {n : Nat} {h : List (Int × Int)} (w : WfE n h) {a b : Nat} (k : Way (edR h) a b) : a < n ∧ b < n := by
 obtain ⟨c, hc⟩ := k.first
 obtain ⟨d, hd⟩ := k.last
 exact ⟨(wf_lt w hc).1, (wf_lt w hd).2⟩
theorem way_same {n : Nat} {h k : List (Int × Int)} (w : WfE n h) (w' : WfE n k) (hs : ∀ a b : Nat, Way (edR h) a b ↔ Way (edR k) a b) : wayB n h = wayB n k := by
 funext a b
 have h1 := way_iff w a b
 have h2 := way_iff w' a b
 cases hx : wayB n h a b <;> cases hy : wayB n k a b
 ·rfl
 ·rw [hx] at h1
  exact absurd (h1.2 ((hs a b).2 (h2.1 hy))) (by decide)
 ·rw [hy] at h2
  exact absurd (h2.2 ((hs a b).1 (h1.1 hx))) (by decide)
 ·rfl
theorem close_same {n : Nat} {h k : List (Int × Int)} (e : wayB n k = wayB n h) : closeL n k = closeL n h := by unfold closeL closeTo reachL; rw [e]
theorem closeTo_succ (n : Nat) (h : List (Int × Int)) (k : Nat) : closeTo n h (k + 1) = closeTo n h k ++ (reachL n h k).map fun b => ((k : Int), b) := by
 unfold closeTo
 rw [List.range_succ, List.flatMap_append]
 simp
theorem reach_len (n : Nat) (h : List (Int × Int)) (a : Nat) : (reachL n h a).length ≤ n := by
 unfold reachL
 rw [List.length_map]
 exact Nat.le_trans (List.length_filter_le _ _) (by simp)
theorem closeTo_len (n : Nat) (h : List (Int × Int)) (k : Nat) : (closeTo n h k).length ≤ n * k := by
 induction k with
 | zero => simp [closeTo]
 | succ k ih =>
  rw [closeTo_succ, List.length_append, List.length_map, Nat.mul_add, Nat.mul_one]
  have := reach_len n h k
  omega
theorem mem_reach {n : Nat} {h : List (Int × Int)} {a : Nat} {x : Int} : x ∈ reachL n h a ↔ ∃ b : Nat, x = (b : Int) ∧ b < n ∧ wayB n h a b = true := by
 unfold reachL
 rw [List.mem_map]
 constructor
 ·rintro ⟨b, hb, rfl⟩
  obtain ⟨h1, h2⟩ := List.mem_filter.1 hb
  exact ⟨b, rfl, List.mem_range.1 h1, h2⟩
 ·rintro ⟨b, rfl, h1, h2⟩
  exact ⟨b, List.mem_filter.2 ⟨List.mem_range.2 h1, h2⟩, rfl⟩
theorem mem_close {n : Nat} {h : List (Int × Int)} {e : Int × Int} : e ∈ closeL n h ↔ ∃ a b : Nat, e = ((a : Int), (b : Int)) ∧ a < n ∧ b < n ∧ wayB n h a b = true := by
 unfold closeL closeTo
 rw [List.mem_flatMap]
 constructor
 ·rintro ⟨a, ha, hm⟩
  obtain ⟨y, hy, rfl⟩ := List.mem_map.1 hm
  obtain ⟨b, rfl, h1, h2⟩ := mem_reach.1 hy
  exact ⟨a, b, rfl, List.mem_range.1 ha, h1, h2⟩
 ·rintro ⟨a, b, rfl, h1, h2, h3⟩
  exact ⟨a, List.mem_range.2 h1, List.mem_map.2 ⟨b, mem_reach.2 ⟨b, rfl, h2, h3⟩, rfl⟩⟩
theorem wf_close {n : Nat} (h : List (Int × Int)) : WfE n (closeL n h) := fun e he => by
 obtain ⟨a, b, h1, h2, h3, -⟩ := mem_close.1 he
 exact ⟨a, b, h1, h2, h3⟩
theorem close_close {n : Nat} {h : List (Int × Int)} (w : WfE n h) : closeL n (closeL n h) = closeL n h := by
 have e : wayB n (closeL n h) = wayB n h := way_same (wf_close h) w (fun a b => by
  constructor
  ·intro k
   refine k.flat fun x y hxy => ?_
   obtain ⟨x', y', h1, -, -, h4⟩ := mem_close.1 hxy
   injection h1 with h5 h6
   obtain rfl : x = x' := by omega
   obtain rfl : y = y' := by omega
   exact (way_iff w _ _).1 h4
  ·intro k
   have := way_lt w k
   exact .one (mem_close.2 ⟨a, b, rfl, this.1, this.2, (way_iff w a b).2 k⟩))
 exact close_same e
theorem mem_redges {n : Nat} {h : List (Int × Int)} (w : WfE n h) {e : Int × Int} : e ∈ redgesTo n h n ↔ e ∈ h := by
 unfold redgesTo rrowE nextL
 rw [List.mem_flatMap]
 constructor
 ·rintro ⟨a, ha, hm⟩
  obtain ⟨y, hy, rfl⟩ := List.mem_map.1 hm
  obtain ⟨b, hb, rfl⟩ := List.mem_map.1 hy
  simpa using (List.mem_filter.1 hb).2
 ·intro he
  obtain ⟨a, b, rfl, h1, h2⟩ := w e he
  exact ⟨a, List.mem_range.2 h1, List.mem_map.2 ⟨(b : Int), List.mem_map.2 ⟨b, List.mem_filter.2 ⟨List.mem_range.2 h2, by simpa using he⟩, rfl⟩, rfl⟩⟩
theorem nodup_redges (n : Nat) (h : List (Int × Int)) : (redgesTo n h n).Nodup := by
 unfold redgesTo
 refine List.pairwise_flatMap.2 ⟨fun a _ => ?_, ?_⟩
 ·unfold rrowE nextL
  refine List.pairwise_map.2 (List.pairwise_map.2 ?_)
  refine (List.nodup_range.filter _).imp fun {x y} hne e => hne ?_
  injection e with _ e2
  omega
 ·refine List.nodup_range.imp fun {x y} hne p hp q hq e => hne ?_
  unfold rrowE at hp hq
  obtain ⟨u, -, rfl⟩ := List.mem_map.1 hp
  obtain ⟨v, -, rfl⟩ := List.mem_map.1 hq
  injection e with e1 _
  omega
theorem round_iff {n : Nat} {h : List (Int × Int)} (w : WfE n h) : roundB n h = true ↔ ∃ a, Way (edR h) a a := by
 unfold roundB
 rw [List.any_eq_true]
 constructor
 ·rintro ⟨a, -, h1⟩
  exact ⟨a, (way_iff w a a).1 h1⟩
 ·rintro ⟨a, h1⟩
  exact ⟨a, List.mem_range.2 (way_lt w h1).1, (way_iff w a a).2 h1⟩
theorem other_iff {n : Nat} {h : List (Int × Int)} (w : WfE n h) (a b : Nat) : otherB n h a b = true ↔ ∃ c, edR h a c ∧ Way (edR h) c b := by
 unfold otherB
 rw [List.any_eq_true]
 constructor
 ·rintro ⟨c, -, h1⟩
  rw [Bool.and_eq_true, ed_iff, way_iff w] at h1
  exact ⟨c, h1⟩
 ·rintro ⟨c, h1, h2⟩
  exact ⟨c, List.mem_range.2 (wf_lt w h1).2, by rw [Bool.and_eq_true, ed_iff, way_iff w]; exact ⟨h1, h2⟩⟩
theorem mem_thin {n : Nat} {h : List (Int × Int)} (w : WfE n h) {a b : Nat} : edR (thinL n h) a b ↔ edR h a b ∧ (roundB n h = true ∨ otherB n h a b = false) := by
 unfold thinL edR
 split
 ·rename_i hr
  rw [mem_redges w]
  exact ⟨fun h => ⟨h, .inl hr⟩, fun h => h.1⟩
 ·rename_i hr
  rw [List.mem_filter, mem_redges w]
  simp only [Int.toNat_natCast, Bool.not_eq_true']
  exact and_congr_right fun _ => ⟨fun h => .inr h, fun h => h.resolve_left hr⟩
theorem wf_thin {n : Nat} {h : List (Int × Int)} (w : WfE n h) : WfE n (thinL n h) := fun e he => by
 refine w e ?_
 unfold thinL at he
 split at he
 ·exact (mem_redges w).1 he
 ·exact (mem_redges w).1 (List.mem_filter.1 he).1
theorem close_thin {n : Nat} {h : List (Int × Int)} (w : WfE n h) : closeL n (thinL n h) = closeL n h := by
 have e : wayB n (thinL n h) = wayB n h := way_same (wf_thin w) w (fun a b => by
  constructor
  ·exact fun k => k.mono fun x y hxy => ((mem_thin w).1 hxy).1
  ·intro k
   cases hr : roundB n h with
   | true => exact k.mono fun x y hxy => (mem_thin w).2 ⟨hxy, .inl hr⟩
   | false =>
    have hno : ∀ a, ¬ Way (edR h) a a := fun a ha => by
     have := (round_iff w).2 ⟨a, ha⟩
     rw [hr] at this
     cases this
    refine k.flat fun x y hxy => thin_ways (n := n) (E := edR h) (T := edR (thinL n h)) (fun a b e => wf_lt w e) hno (fun a b e hc => (mem_thin w).2 ⟨e, .inr ?_⟩) (wayB n h) (way_iff w) _ hxy (Nat.le_refl _)
    cases ho : otherB n h a b
    ·rfl
    ·exact absurd ((other_iff w a b).1 ho) hc)
 exact close_same e
theorem thin_len (n : Nat) (h : List (Int × Int)) : (thinL n h).length ≤ n * n := by
 have := redgesTo_len n h n
 unfold thinL
 split
 ·exact this
 ·exact Nat.le_trans (List.length_filter_le _ _) this
end Go.Proofs.YtlipapclbemjjaaDoor
