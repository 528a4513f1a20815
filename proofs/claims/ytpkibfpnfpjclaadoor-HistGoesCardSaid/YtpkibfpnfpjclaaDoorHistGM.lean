/- Mathematics of law 11: being ahead goes on and goes not round; the sessions' transactions are all. -/
import Derived.Test.YtpkibfpnfpjclaaDoorHistF
set_option linter.unusedVariables false
set_option linter.unusedSimpArgs false
namespace Go.Proofs.YtpkibfpnfpjclaaDoor

theorem ahead_iff (h : Hst) (a b : Int) : aheadB h a b = true ↔ mayH h = true ∧ 0 ≤ a ∧ a < b ∧ b < (h.l.length : Int) ∧ h.l[a.toNat]?.map Tx.s = h.l[b.toNat]?.map Tx.s := by
  unfold aheadB
  simp [and_assoc]
theorem ahead_not {h : Hst} {a b : Int} (h1 : aheadB h a b = true) : aheadB h b a = false := by
  have := (ahead_iff h a b).1 h1
  cases hb : aheadB h b a with
  | false => rfl
  | true =>
    have := (ahead_iff h b a).1 hb
    omega
theorem ahead_on {h : Hst} {a b c : Int} (h1 : aheadB h a b = true) (h2 : aheadB h b c = true) : aheadB h a c = true := by
  obtain ⟨m, a0, ab, bl, e⟩ := (ahead_iff h a b).1 h1
  obtain ⟨-, -, bc, cl, e'⟩ := (ahead_iff h b c).1 h2
  exact (ahead_iff h a c).2 ⟨m, a0, by omega, cl, e.trans e'⟩

theorem which_snoc (p : Tx → Bool) (l : List Tx) (t : Tx) : whichL p (l ++ [t]) = whichL p l ++ if p t = true then [(l.length : Int)] else [] := by
  unfold whichL
  rw [List.zipIdx_append, List.filter_append, List.map_append]
  by_cases hp : p t = true <;> simp [hp, List.zipIdx]
theorem which_mem {p : Tx → Bool} : ∀ {l : List Tx} {v : Int}, v ∈ whichL p l → ∃ (j : Nat) (t : Tx), v = j ∧ l[j]? = some t ∧ p t = true := by
  intro l v hv
  unfold whichL at hv
  obtain ⟨⟨t, j⟩, h1, rfl⟩ := List.mem_map.1 hv
  obtain ⟨h2, h3⟩ := List.mem_filter.1 h1
  exact ⟨j, t, rfl, List.mem_zipIdx_iff_getElem?.1 h2, h3⟩
theorem which_rise (p : Tx → Bool) (l : List Tx) : (whichL p l).Pairwise (· < ·) := by
  unfold whichL
  rw [List.pairwise_map]
  refine List.Pairwise.filter _ ?_
  rw [List.pairwise_iff_getElem]
  intro i j hi hj hij
  simp
  omega
theorem which_count (p : Tx → Bool) (l : List Tx) : (whichL p l).length = l.countP p := by
  unfold whichL
  rw [List.length_map, ← List.countP_eq_length_filter]
  have : l.zipIdx.countP (fun x => p x.1) = (l.zipIdx.map Prod.fst).countP p := by rw [List.countP_map]; rfl
  rw [this, List.zipIdx_map_fst]

theorem session_ahead {h : Hst} {s : Int} {i : Nat} {u v : Int} (hm : mayH h = true) (hu : (sesL h s)[i]? = some u) (hv : (sesL h s)[i + 1]? = some v) : aheadB h u v = true := by
  unfold sesL at hu hv
  rw [if_pos hm] at hu hv
  obtain ⟨i1, e1⟩ := List.getElem?_eq_some_iff.1 hu
  obtain ⟨i2, e2⟩ := List.getElem?_eq_some_iff.1 hv
  have hlt : u < v := by
    have := List.pairwise_iff_getElem.1 (which_rise (fun t => decide (t.s = s)) h.l) i (i + 1) i1 i2 (by omega)
    rwa [e1, e2] at this
  obtain ⟨j, t, rfl, hj, hp⟩ := which_mem (List.mem_of_getElem? hu)
  obtain ⟨k, t', rfl, hk, hp'⟩ := which_mem (List.mem_of_getElem? hv)
  have hkl := (List.getElem?_eq_some_iff.1 hk).1
  refine (ahead_iff h j k).2 ⟨hm, by omega, hlt, by omega, ?_⟩
  rw [Int.toNat_natCast, Int.toNat_natCast, hj, hk]
  simp at hp hp' ⊢
  rw [hp, hp']

def sumS (h : Hst) (k : Nat) : Nat := ((List.range k).map fun s : Nat => (sesL h s).length).sum
theorem sumS_succ (h : Hst) (k : Nat) : sumS h (k + 1) = sumS h k + (sesL h k).length := by
  unfold sumS
  rw [List.range_succ, List.map_append, List.sum_append]
  simp
theorem sum_count (n : Nat) : ∀ l : List Tx, (∀ t ∈ l, 0 ≤ t.s ∧ t.s < (n : Int)) → ((List.range n).map fun s : Nat => l.countP fun t => decide (t.s = (s : Int))).sum = l.length
  | [], _ => by
    induction n with
    | zero => rfl
    | succ n ih => rw [List.range_succ, List.map_append, List.sum_append, ih (fun t ht => by cases ht)]; simp
  | t :: l, h => by
    have ih := sum_count n l (fun t ht => h t (by simp [ht]))
    obtain ⟨h1, h2⟩ := h t (by simp)
    have e : ∀ s : Nat, ((t :: l).countP fun t => decide (t.s = (s : Int))) = (l.countP fun t => decide (t.s = (s : Int))) + if s = t.s.toNat then 1 else 0 := fun s => by
      rw [List.countP_cons]
      by_cases hs : t.s = (s : Int)
      · simp [hs]
      · have hk : ¬ s = t.s.toNat := by omega
        simp [hs, hk]
    have e2 : ∀ (m : Nat) (f : Nat → Nat) (k : Nat), k < m → ((List.range m).map fun s => f s + if s = k then 1 else 0).sum = ((List.range m).map f).sum + 1 := by
      intro m f k
      induction m with
      | zero => intro h; omega
      | succ m ihm =>
        intro hk
        rw [List.range_succ, List.map_append, List.map_append, List.sum_append, List.sum_append]
        by_cases hkm : k = m
        · subst hkm
          have : ((List.range k).map fun s => f s + if s = k then 1 else 0) = (List.range k).map f := by
            apply List.map_congr_left
            intro s hs
            rw [if_neg (by have := List.mem_range.1 hs; omega)]
            rfl
          rw [this]
          simp
          omega
        · rw [ihm (by omega)]
          simp [show ¬ m = k from fun e => hkm e.symm]
          omega
    have e3 : (List.range n).map (fun s : Nat => (t :: l).countP fun t => decide (t.s = (s : Int))) = (List.range n).map (fun s : Nat => (l.countP fun t => decide (t.s = (s : Int))) + if s = t.s.toNat then 1 else 0) := List.map_congr_left fun s _ => e s
    rw [e3, e2 _ _ _ (by omega), ih]
    rfl
theorem sumS_all {h : Hst} (hm : mayH h = true) : sumS h h.ss.length = h.l.length := by
  have hb : ∀ t ∈ h.l, 0 ≤ t.s ∧ t.s < (h.ss.length : Int) := by
    unfold mayH txsB at hm
    simp only [Bool.and_eq_true] at hm
    intro t ht
    have := List.all_eq_true.1 hm.2.2.1.2.1 t ht
    unfold txB at this
    simp at this
    omega
  rw [← sum_count h.ss.length h.l hb]
  unfold sumS
  congr 1
  apply List.map_congr_left
  intro s _
  unfold sesL
  rw [if_pos hm, which_count]
theorem ses_le (h : Hst) (s : Int) (hl : h.l.length ≤ 1000) : (sesL h s).length ≤ 1000 := by
  unfold sesL
  split
  · exact Nat.le_trans (which_le _ _) hl
  · exact Nat.zero_le _
theorem sumS_le (h : Hst) (hl : h.l.length ≤ 1000) : ∀ k, sumS h k ≤ k * 1000
  | 0 => by simp [sumS]
  | k + 1 => by
    rw [sumS_succ]
    have := sumS_le h hl k
    have := ses_le h k hl
    omega

end Go.Proofs.YtpkibfpnfpjclaaDoor
