/- What is reached, the closure, and what is thin, of a list of edges. Mathematics. -/
import Derived.Test.YtlipapclbemjjaaDoorCloseThinCardK30
import Derived.Test.YtlipapclbemjjaaDoorCloseThinCardK26
set_option linter.unusedVariables false
set_option linter.unusedSimpArgs false
namespace Go.Proofs.YtlipapclbemjjaaDoor
def edR (h : List (Int × Int)) (a b : Nat) : Prop := ((a : Int), (b : Int)) ∈ h
def edB (h : List (Int × Int)) (a b : Nat) : Bool := decide (((a : Int), (b : Int)) ∈ h)
def WfE (n : Nat) (h : List (Int × Int)) : Prop := ∀ e ∈ h, ∃ a b : Nat, e = ((a : Int), (b : Int)) ∧ a < n ∧ b < n
def wayB (n : Nat) (h : List (Int × Int)) (a b : Nat) : Bool := closed (edB h) n a b
def reachL (n : Nat) (h : List (Int × Int)) (a : Nat) : List Int := ((List.range n).filter (wayB n h a)).map fun b : Nat => (b : Int)
def closeTo (n : Nat) (h : List (Int × Int)) (k : Nat) : List (Int × Int) := (List.range k).flatMap fun a : Nat => (reachL n h a).map fun b => ((a : Int), b)
def closeL (n : Nat) (h : List (Int × Int)) : List (Int × Int) := closeTo n h n
def roundB (n : Nat) (h : List (Int × Int)) : Bool := (List.range n).any fun a => wayB n h a a
def otherB (n : Nat) (h : List (Int × Int)) (a b : Nat) : Bool := (List.range n).any fun c => edB h a c && wayB n h c b
def thinL (n : Nat) (h : List (Int × Int)) : List (Int × Int) := if roundB n h = true then redgesTo n h n else (redgesTo n h n).filter fun e => !otherB n h e.1.toNat e.2.toNat
theorem ed_iff (h : List (Int × Int)) (a b : Nat) : edB h a b = true ↔ edR h a b := by unfold edB edR; exact decide_eq_true_iff
theorem wf_lt {n : Nat} {h : List (Int × Int)} (w : WfE n h) {a b : Nat} (e : edR h a b) : a < n ∧ b < n := by
 obtain ⟨x, y, h1, h2, h3⟩ := w _ e
 injection h1 with h4 h5
 exact ⟨by omega, by omega⟩
theorem way_iff {n : Nat} {h : List (Int × Int)} (w : WfE n h) (a b : Nat) : wayB n h a b = true ↔ Way (edR h) a b := by
 unfold wayB
 rw [closed_iff (fun a b e => (wf_lt w ((ed_iff h a b).1 e)).2)]
 constructor
 ·exact fun k => k.mono fun x y e => (ed_iff h x y).1 e
 ·exact fun k => k.mono fun x y e => (ed_iff h x y).2 e
theorem way_lt {n : Nat} {h : List (Int × Int)} (w : WfE n h) {a b : Nat} (k : Way (edR h) a b) : a < n ∧ b < n := by
 obtain ⟨c, hc⟩ := k.first
 obtain ⟨d, hd⟩ := k.last
 exact ⟨(wf_lt w hc).1, (wf_lt w hd).2⟩
theorem closeTo_succ (n : Nat) (h : List (Int × Int)) (k : Nat) : closeTo n h (k + 1) = closeTo n h k ++ (reachL n h k).map fun b => ((k : Int), b) := by
 unfold closeTo
 rw [List.range_succ, List.flatMap_append]
 simp
theorem reach_len (n : Nat) (h : List (Int × Int)) (a : Nat) : (reachL n h a).length ≤ n := by
 unfold reachL
 rw [List.length_map]
 exact Nat.le_trans (List.length_filter_le _ _) (by simp)
theorem closeTo_len (n : Nat) (h : List (Int × Int)) (k : Nat) : (closeTo n h k).length ≤ n * k := by
 induction k with
 | zero => simp [closeTo]
 | succ k ih =>
  rw [closeTo_succ, List.length_append, List.length_map, Nat.mul_add, Nat.mul_one]
  have := reach_len n h k
  omega
theorem mem_reach {n : Nat} {h : List (Int × Int)} {a : Nat} {x : Int} : x ∈ reachL n h a ↔ ∃ b : Nat, x = (b : Int) ∧ b < n ∧ wayB n h a b = true := by
 unfold reachL
 rw [List.mem_map]
 constructor
 ·rintro ⟨b, hb, rfl⟩
  obtain ⟨h1, h2⟩ := List.mem_filter.1 hb
  exact ⟨b, rfl, List.mem_range.1 h1, h2⟩
 ·rintro ⟨b, rfl, h1, h2⟩
  exact ⟨b, List.mem_filter.2 ⟨List.mem_range.2 h1, h2⟩, rfl⟩
theorem mem_redges {n : Nat} {h : List (Int × Int)} (w : WfE n h) {e : Int × Int} : e ∈ redgesTo n h n ↔ e ∈ h := by
 unfold redgesTo rrowE nextL
 rw [List.mem_flatMap]
 constructor
 ·rintro ⟨a, ha, hm⟩
  obtain ⟨y, hy, rfl⟩ := List.mem_map.1 hm
  obtain ⟨b, hb, rfl⟩ := List.mem_map.1 hy
  simpa using (List.mem_filter.1 hb).2
 ·intro he
  obtain ⟨a, b, rfl, h1, h2⟩ := w e he
  exact ⟨a, List.mem_range.2 h1, List.mem_map.2 ⟨(b : Int), List.mem_map.2 ⟨b, List.mem_filter.2 ⟨List.mem_range.2 h2, by simpa using he⟩, rfl⟩, rfl⟩⟩
theorem nodup_redges (n : Nat) (h : List (Int × Int)) : (redgesTo n h n).Nodup := by
 unfold redgesTo
 refine List.pairwise_flatMap.2 ⟨fun a _ => ?_, ?_⟩
 ·unfold rrowE nextL
  refine List.pairwise_map.2 (List.pairwise_map.2 ?_)
  refine (List.nodup_range.filter _).imp fun {x y} hne e => hne ?_
  injection e with _ e2
  omega
 ·refine List.nodup_range.imp fun {x y} hne p hp q hq e => hne ?_
  unfold rrowE at hp hq
  obtain ⟨u, -, rfl⟩ := List.mem_map.1 hp
  obtain ⟨v, -, rfl⟩ := List.mem_map.1 hq
  injection e with e1 _
  omega
theorem round_iff {n : Nat} {h : List (Int × Int)} (w : WfE n h) : roundB n h = true ↔ ∃ a, Way (edR h) a a := by
 unfold roundB
 rw [List.any_eq_true]
 constructor
 ·rintro ⟨a, -, h1⟩
  exact ⟨a, (way_iff w a a).1 h1⟩
 ·rintro ⟨a, h1⟩
  exact ⟨a, List.mem_range.2 (way_lt w h1).1, (way_iff w a a).2 h1⟩
theorem other_iff {n : Nat} {h : List (Int × Int)} (w : WfE n h) (a b : Nat) : otherB n h a b = true ↔ ∃ c, edR h a c ∧ Way (edR h) c b := by
 unfold otherB
 rw [List.any_eq_true]
 constructor
 ·rintro ⟨c, -, h1⟩
  rw [Bool.and_eq_true, ed_iff, way_iff w] at h1
  exact ⟨c, h1⟩
 ·rintro ⟨c, h1, h2⟩
  exact ⟨c, List.mem_range.2 (wf_lt w h1).2, by rw [Bool.and_eq_true, ed_iff, way_iff w]; exact ⟨h1, h2⟩⟩
/-- Without one edge: does another way lead there? -/
theorem rest_way {n : Nat} {h k : List (Int × Int)} (w : WfE n h) (hr : roundB n h = false) {a b : Nat} (hab : edR h a b) (hk : ∀ e, e ∈ k ↔ e ∈ h ∧ e ≠ ((a : Int), (b : Int))) : wayB n k a b = otherB n h a b := by
 have wk : WfE n k := fun e he => w e ((hk e).1 he).1
 have hno : ∀ a, ¬ Way (edR h) a a := fun a ha => by
  have := (round_iff w).2 ⟨a, ha⟩
  rw [hr] at this
  cases this
 have h1 := way_iff wk a b
 have h2 := other_iff w a b
 have h3 : Way (edR k) a b ↔ ∃ c, edR h a c ∧ Way (edR h) c b := by
  rw [← thin_iff hno hab]
  have e : ∀ x y : Nat, edR k x y ↔ edR h x y ∧ ¬ (x = a ∧ y = b) := fun x y => by
   unfold edR
   rw [hk]
   refine and_congr_right fun _ => not_congr ?_
   constructor
   ·intro e
    injection e with e1 e2
    exact ⟨by omega, by omega⟩
   ·rintro ⟨rfl, rfl⟩
    rfl
  exact ⟨fun p => p.mono fun x y q => (e x y).1 q, fun p => p.mono fun x y q => (e x y).2 q⟩
 cases hx : wayB n k a b <;> cases hy : otherB n h a b
 ·rfl
 ·rw [hx] at h1
  exact absurd (h1.2 (h3.2 (h2.1 hy))) (by decide)
 ·rw [hy] at h2
  exact absurd (h2.2 (h3.1 (h1.1 hx))) (by decide)
 ·rfl
theorem mem_but {l : List (Int × Int)} (hd : l.Nodup) {i : Nat} {x : Int × Int} (hx : l[i]? = some x) (e : Int × Int) : e ∈ l.take i ++ l.drop (i + 1) ↔ e ∈ l ∧ e ≠ x := by
 obtain ⟨hi, rfl⟩ := List.getElem?_eq_some_iff.1 hx
 have h1 : l = l.take i ++ l[i] :: l.drop (i + 1) := by rw [List.getElem_cons_drop, List.take_append_drop]
 have hd' : (l.take i ++ l[i] :: l.drop (i + 1)).Nodup := by rw [← h1]; exact hd
 have h2 : l[i] ∉ l.take i ++ l.drop (i + 1) := by
  have := (List.perm_middle (a := l[i]) (l₁ := l.take i) (l₂ := l.drop (i + 1))).nodup_iff.1 hd'
  exact (List.nodup_cons.1 this).1
 have h3 : e ∈ l ↔ e = l[i] ∨ e ∈ l.take i ++ l.drop (i + 1) := by
  conv => lhs; rw [h1]
  rw [List.mem_append, List.mem_cons, List.mem_append]
  constructor
  ·rintro (h | h | h)
   ·exact .inr (.inl h)
   ·exact .inl h
   ·exact .inr (.inr h)
  ·rintro (h | h | h)
   ·exact .inr (.inl h)
   ·exact .inl h
   ·exact .inr (.inr h)
 rw [h3]
 constructor
 ·exact fun h => ⟨.inr h, fun e => h2 (e ▸ h)⟩
 ·rintro ⟨h | h, k⟩
  ·exact absurd h k
  ·exact h
theorem thin_len (n : Nat) (h : List (Int × Int)) : (thinL n h).length ≤ n * n := by
 have := redgesTo_len n h n
 unfold thinL
 split
 ·exact this
 ·exact Nat.le_trans (List.length_filter_le _ _) this
end Go.Proofs.YtlipapclbemjjaaDoor
