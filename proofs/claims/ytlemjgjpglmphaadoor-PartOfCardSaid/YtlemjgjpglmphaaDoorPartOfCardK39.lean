/- Parts. -/
import Derived.Test.YtlemjgjpglmphaaDoorPartOfCardK23
import Derived.Test.YtlemjgjpglmphaaDoorPartOfCardK29
set_option maxRecDepth 10000
set_option maxHeartbeats 16000000
set_option linter.unusedVariables false
set_option linter.unusedSimpArgs false
namespace Go.Proofs.YtlemjgjpglmphaaDoor
theorem good_iff {n : Nat} {e : Int × Int} : goodE n e = true ↔ (0 ≤ e.1 ∧ e.1 < n) ∧ (0 ≤ e.2 ∧ e.2 < n) := by unfold goodE ndN; simp
theorem wf_good {n : Nat} {l : List (Int × Int)} (h : l.all (goodE n) = true) : WfE n l := fun e he => by
 have := good_iff.1 (List.all_eq_true.1 h e he);exact ⟨e.1.toNat, e.2.toNat, Prod.ext (by show e.1 = _; omega) (by show e.2 = _; omega), by omega, by omega⟩
theorem mem_rof {n : Nat} {l : List (Int × Int)} (h : l.all (goodE n) = true) (e : Int × Int) : e ∈ l.foldl (rH n) [] ↔ e ∈ l := by
 have gen : ∀ (l h0 : List (Int × Int)), l.all (goodE n) = true → (e ∈ l.foldl (rH n) h0 ↔ e ∈ h0 ∨ e ∈ l) := by
  intro l
  induction l with
  | nil => intro h0 _; simp
  | cons x l ih =>
   intro h0 hg;rw [List.all_cons, Bool.and_eq_true] at hg;rw [List.foldl_cons, ih _ hg.2];have hx : e ∈ rH n h0 x ↔ e ∈ h0 ∨ e = x := by
    unfold rH rB;have h1 := hg.1;unfold goodE at h1;rw [h1, Bool.true_and]
    by_cases hin : (x.1, x.2) ∈ h0
    ·rw [decide_eq_true hin, if_neg (by decide)]
     constructor
     ·exact .inl
     ·rintro (h | rfl)
      ·exact h
      ·exact hin
    ·rw [decide_eq_false hin, if_pos (by decide), List.mem_append];simp
   rw [hx, List.mem_cons, or_assoc]
 rw [gen l [] h];simp
theorem mem_nextL {n : Nat} {h : List (Int × Int)} {a : Int} {m : Nat} : (m : Int) ∈ nextL n h a ↔ m < n ∧ (a, (m : Int)) ∈ h := by
 unfold nextL;rw [List.mem_map]
 constructor
 ·rintro ⟨b, hb, he⟩;obtain rfl : b = m := by omega
  obtain ⟨h1, h2⟩ := List.mem_filter.1 hb;exact ⟨List.mem_range.1 h1, by simpa using h2⟩
 ·rintro ⟨h1, h2⟩;exact ⟨m, List.mem_filter.2 ⟨List.mem_range.2 h1, by simpa using h2⟩, rfl⟩
theorem mem_backL {n : Nat} {h : List (Int × Int)} {b : Int} {m : Nat} : (m : Int) ∈ backL n h b ↔ m < n ∧ ((m : Int), b) ∈ h := by
 unfold backL;rw [List.mem_map]
 constructor
 ·rintro ⟨a, ha, he⟩;obtain rfl : a = m := by omega
  obtain ⟨h1, h2⟩ := List.mem_filter.1 ha;exact ⟨List.mem_range.1 h1, by simpa using h2⟩
 ·rintro ⟨h1, h2⟩;exact ⟨m, List.mem_filter.2 ⟨List.mem_range.2 h1, by simpa using h2⟩, rfl⟩
theorem nextL_range {n : Nat} {h : List (Int × Int)} {a : Int} : ∀ z ∈ nextL n h a, 0 ≤ z ∧ z < (n : Int) := fun z hz => by
 unfold nextL at hz;obtain ⟨b, hb, rfl⟩ := List.mem_map.1 hz;have := List.mem_range.1 (List.mem_filter.1 hb).1;omega
theorem backL_range {n : Nat} {h : List (Int × Int)} {a : Int} : ∀ z ∈ backL n h a, 0 ≤ z ∧ z < (n : Int) := fun z hz => by
 unfold backL at hz;obtain ⟨b, hb, rfl⟩ := List.mem_map.1 hz;have := List.mem_range.1 (List.mem_filter.1 hb).1;omega
theorem next_ed {n : Nat} {l h : List (Int × Int)} (w : WfE n l) (hs : ∀ e, e ∈ h ↔ e ∈ l) (i m : Nat) : decide ((m : Int) ∈ nextL n h (i : Int)) = edB l i m := by
 unfold edB;rw [decide_eq_decide, mem_nextL, hs];exact ⟨fun h => h.2, fun h => ⟨(wf_lt w h).2, h⟩⟩
theorem back_ed {n : Nat} {l h : List (Int × Int)} (w : WfE n l) (hs : ∀ e, e ∈ h ↔ e ∈ l) (i m : Nat) : decide ((m : Int) ∈ backL n h (i : Int)) = edB l m i := by
 unfold edB;rw [decide_eq_decide, mem_backL, hs];exact ⟨fun h => h.2, fun h => ⟨(wf_lt w h).1, h⟩⟩
theorem may_wf {n : Int} {l : List (Int × Int)} (h : mayL n l = true) : ∃ q : Nat, n = q ∧ q ≤ 500 ∧ WfE q l ∧ l.all (goodE q) = true := by
 unfold mayL at h;rw [Bool.and_eq_true, decide_eq_true_eq] at h;obtain ⟨⟨h1, h2⟩, h3⟩ := h;refine ⟨n.toNat, by omega, by omega, wf_good h3, h3⟩
end Go.Proofs.YtlemjgjpglmphaaDoor
