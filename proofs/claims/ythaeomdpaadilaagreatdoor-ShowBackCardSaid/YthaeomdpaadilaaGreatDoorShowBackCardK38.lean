/- Histories read back: mathematics. -/
import Derived.Test.YthaeomdpaadilaaGreatDoorShowBackCardK23
import Derived.Test.YthaeomdpaadilaaGreatDoorShowBackCardK37
set_option linter.unusedVariables false
set_option linter.unusedSimpArgs false
namespace Go.Proofs.YthaeomdpaadilaaGreatDoor
open Go.Lib

theorem tf_ne : ¬ (true = false) := by decide
theorem rise_len : ∀ (m l : List ByteArray), Rising l → Rising m → (∀ x ∈ l, x ∈ m) → l.length ≤ m.length
  | _, [], _, _, _ => Nat.zero_le _
  | [], a :: l, _, _, h => by have := h a (List.mem_cons_self ..); cases this
  | b :: m, a :: l, hl, hm, h => by
    obtain ⟨l1, l2⟩ := List.pairwise_cons.1 hl
    obtain ⟨m1, m2⟩ := List.pairwise_cons.1 hm
    have hrest : ∀ x ∈ l, x ∈ m := fun x hx => by
      rcases List.mem_cons.1 (h x (List.mem_cons_of_mem _ hx)) with rfl | hx'
      · have hab := l1 x hx
        rcases List.mem_cons.1 (h a (List.mem_cons_self ..)) with rfl | ha
        · rw [lessB_irr] at hab; cases hab
        · have := lessB_asym hab; rw [m1 a ha] at this; cases this
      · exact hx'
    have := rise_len m l l2 m2 hrest
    simp only [List.length_cons]
    omega
theorem posB_mem {t : List ByteArray} {s : ByteArray} (ht : tabB t = true) : 0 ≤ posB t s ↔ s ∈ t := by
  unfold posB
  rw [if_pos ht]
  exact idxOfS_nonneg_iff t s
theorem with_sort (l : List ByteArray) (s : ByteArray) : withB (sortB l) s = sortB (l ++ [s]) := by
  unfold withB
  split
  · rename_i h
    rw [posB_mem (tab_sort l)] at h
    have h1 := ((sortB_names l).2 s).1 h
    refine sortB_unique (sortB_names l).1.rise (fun y => ?_)
    rw [(sortB_names l).2, List.mem_append]
    constructor
    · rintro ⟨a, b⟩
      exact ⟨.inl a, b⟩
    · rintro ⟨a | a, b⟩
      · exact ⟨a, b⟩
      · simp at a
        subst a
        exact h1
  · refine sortB_unique (sortB_names _).1.rise (fun y => ?_)
    rw [(sortB_names _).2, List.mem_append, (sortB_names l).2, List.mem_append]
    constructor
    · rintro ⟨⟨a, b⟩ | a, c⟩
      · exact ⟨.inl a, c⟩
      · exact ⟨.inr a, c⟩
    · rintro ⟨a | a, c⟩
      · exact ⟨.inl ⟨a, c⟩, c⟩
      · exact ⟨.inr a, c⟩

def nmT (h : Hst) (t : Tx) : ByteArray := nth h.ss t.s
def kyT (h : Hst) (t : Tx) : List ByteArray := t.ops.map fun o => nth h.ks o.key
def op0 (o : Op4) : Op4 := { o with key := 0 }
structure PFit (h : Hst) (p : Pt) (t : Tx) : Prop where
  s : p.s = nmT h t
  f : p.f = t.f
  ks : p.ks = kyT h t
  ops : p.ops = t.ops.map op0
/-- The maker holds these transactions. -/
structure RInv (h : Hst) (m : Mk) (l : List Tx) : Prop where
  len : m.ps.length = l.length
  fit : ∀ (i : Nat) p t, m.ps[i]? = some p → l[i]? = some t → PFit h p t
  ss : m.ss = sortB (l.map (nmT h))
  ks : m.ks = sortB (l.flatMap (kyT h))

theorem ev_begin {s : ByteArray} (hn : isName s = true) : evOk 1 s ⟨#[]⟩ 0 0 = true := by
  unfold evOk
  rw [hn]
  rfl
theorem ev_end {s : ByteArray} (hn : isName s = true) (f : Int) : evOk (endK f) s ⟨#[]⟩ 0 0 = true := by
  unfold evOk endK
  rw [hn]
  split
  · rfl
  · split <;> rfl
theorem ev_op {s y : ByteArray} {o : Op4} (hn : isName s = true) (hy : isName y = true) (hm : mayB o.vk o.vn = true) (hw : o.wr = true → o.vk = 1) : evOk (kindO o) s y o.vk o.vn = true := by
  unfold evOk kindO
  rw [hn, hy, hm]
  cases hb : o.wr with
  | false => rfl
  | true =>
    rw [if_pos rfl, hw hb]
    rfl
theorem inv_open_none {h : Hst} {m : Mk} {l : List Tx} (I : RInv h m l) (hne : ∀ t ∈ l, t.f ≠ 0) (s : ByteArray) : openI m.ps s = none := by
  unfold openI
  rw [List.findIdx?_eq_none_iff]
  intro p hp
  obtain ⟨i, hi⟩ := List.mem_iff_getElem?.1 hp
  have hlt := (List.getElem?_eq_some_iff.1 hi).1
  rw [I.len] at hlt
  have hf := I.fit i p _ hi (List.getElem?_eq_getElem hlt)
  have h1 := hne _ (List.getElem_mem hlt)
  rw [← hf.f] at h1
  simp [h1]
theorem inv_open_last {h : Hst} {m : Mk} {l : List Tx} {t : Tx} (I : RInv h m (l ++ [t])) (hne : ∀ t ∈ l, t.f ≠ 0) (h0 : t.f = 0) : openI m.ps (nmT h t) = some l.length ∧ ∃ p, m.ps[l.length]? = some p ∧ PFit h p t := by
  have hlen := I.len
  rw [List.length_append, List.length_singleton] at hlen
  obtain ⟨p, hp⟩ : ∃ p, m.ps[l.length]? = some p := ⟨_, List.getElem?_eq_getElem (by omega)⟩
  have hf := I.fit _ p t hp (by simp)
  refine ⟨?_, p, hp, hf⟩
  unfold openI
  rw [List.findIdx?_eq_some_iff_getElem]
  obtain ⟨hlt, he⟩ := List.getElem?_eq_some_iff.1 hp
  refine ⟨hlt, ?_, fun j hj => ?_⟩
  · rw [he, hf.s, hf.f, h0]
    simp
  · have hjl : j < l.length := hj
    have hfj := I.fit j _ _ (List.getElem?_eq_getElem (by omega)) (by rw [List.getElem?_append_left hjl]; exact List.getElem?_eq_getElem hjl)
    have h1 := hne _ (List.getElem_mem hjl)
    rw [← hfj.f] at h1
    simp [h1]
theorem run_begin {h : Hst} {m : Mk} {l : List Tx} (I : RInv h m l) (hne : ∀ t ∈ l, t.f ≠ 0) (hl : l.length < 40) (j ln : Int) (hn : isName (nth h.ss j) = true) (hb : (sortB (l.map (nmT h) ++ [nth h.ss j])).length ≤ 20) :
    takeE m ⟨1, nth h.ss j, ⟨#[]⟩, 0, 0, ln⟩ = 0 ∧ RInv h (takeM m ⟨1, nth h.ss j, ⟨#[]⟩, 0, 0, ln⟩) (l ++ [(⟨j, 0, []⟩ : Tx)]) := by
  have ho := inv_open_none I hne (nth h.ss j)
  have hw : withB m.ss (nth h.ss j) = sortB (l.map (nmT h) ++ [nth h.ss j]) := by rw [I.ss, with_sort]
  have hc : ¬ ((withB m.ss (nth h.ss j)).length > 20 ∨ m.ps.length = 40) := by rw [hw, I.len]; omega
  unfold takeE takeM
  dsimp only
  rw [ev_begin hn, if_neg tf_ne, if_neg tf_ne, ho]
  dsimp only
  rw [if_pos (rfl : (1 : Int) = 1), if_pos (rfl : (1 : Int) = 1)]
  unfold beginE beginM
  dsimp only
  rw [if_neg hc, if_neg hc]
  refine ⟨rfl, ?_, fun i p t hp ht => ?_, ?_, ?_⟩
  · simp [I.len]
  · rcases Nat.lt_or_ge i l.length with hi | hi
    · rw [List.getElem?_append_left (by rw [I.len]; exact hi)] at hp
      rw [List.getElem?_append_left hi] at ht
      exact I.fit i p t hp ht
    · rw [List.getElem?_append_right (by rw [I.len]; exact hi)] at hp
      rw [List.getElem?_append_right hi] at ht
      rw [I.len] at hp
      cases hd : i - l.length with
      | zero =>
        rw [hd] at hp ht
        simp at hp ht
        subst hp ht
        exact ⟨rfl, rfl, rfl, rfl⟩
      | succ k => rw [hd] at ht; simp at ht
  · show withB m.ss (nth h.ss j) = _
    rw [hw, List.map_append]
    rfl
  · show m.ks = _
    rw [I.ks, List.flatMap_append]
    simp [kyT]
theorem fit_set {h : Hst} {ps : List Pt} {l : List Tx} {t t' : Tx} {p' : Pt} (hlen : ps.length = (l ++ [t]).length) (hf : ∀ (i : Nat) p u, ps[i]? = some p → (l ++ [t])[i]? = some u → PFit h p u) (h' : PFit h p' t') :
    ∀ (i : Nat) p u, (ps.set l.length p')[i]? = some p → (l ++ [t'])[i]? = some u → PFit h p u := by
  intro i p u hp hu
  rcases set_mem hp with ⟨rfl, rfl⟩ | ⟨hi, hp⟩
  · simp at hu
    subst hu
    exact h'
  · have hlt := (List.getElem?_eq_some_iff.1 hu).1
    rw [List.length_append, List.length_singleton] at hlt
    have hi2 : i < l.length := by omega
    rw [List.getElem?_append_left hi2] at hu
    exact hf i p u hp (by rw [List.getElem?_append_left hi2]; exact hu)
theorem run_op {h : Hst} {m : Mk} {l : List Tx} {j : Int} {ops : List Op4} (I : RInv h m (l ++ [(⟨j, 0, ops⟩ : Tx)])) (hne : ∀ t ∈ l, t.f ≠ 0) (o : Op4) (ln : Int) (hn : isName (nth h.ss j) = true) (hy : isName (nth h.ks o.key) = true)
    (hm : mayB o.vk o.vn = true) (hw : o.wr = true → o.vk = 1) (h20 : ops.length < 20) (hb : (sortB ((l ++ [(⟨j, 0, ops⟩ : Tx)]).flatMap (kyT h) ++ [nth h.ks o.key])).length ≤ 40) :
    takeE m ⟨kindO o, nth h.ss j, nth h.ks o.key, o.vk, o.vn, ln⟩ = 0 ∧ RInv h (takeM m ⟨kindO o, nth h.ss j, nth h.ks o.key, o.vk, o.vn, ln⟩) (l ++ [(⟨j, 0, ops ++ [o]⟩ : Tx)]) := by
  obtain ⟨ho, p, hp, hf⟩ := inv_open_last I hne rfl
  have ho' : openI m.ps (nth h.ss j) = some l.length := ho
  have hwb : withB m.ks (nth h.ks o.key) = sortB ((l ++ [(⟨j, 0, ops⟩ : Tx)]).flatMap (kyT h) ++ [nth h.ks o.key]) := by rw [I.ks, with_sort]
  have hpl : p.ops.length = ops.length := by rw [hf.ops]; simp
  have hc : ¬ (p.ops.length = 20 ∨ (withB m.ks (nth h.ks o.key)).length > 40) := by rw [hwb, hpl]; omega
  have hk1 : ¬ kindO o = 1 := by unfold kindO; split <;> decide
  have hk2 : kindO o = 2 ∨ kindO o = 3 := by unfold kindO; split <;> simp
  unfold takeE takeM
  dsimp only
  rw [ev_op hn hy hm hw, if_neg tf_ne, if_neg tf_ne, ho']
  dsimp only
  rw [if_neg hk1, if_neg hk1, if_pos hk2, hp]
  dsimp only
  rw [if_pos hk2]
  unfold addE addM
  dsimp only
  rw [if_neg hc, if_neg hc]
  refine ⟨rfl, ?_, ?_, ?_, ?_⟩
  · have := I.len
    simp at this ⊢
    exact this
  · refine fit_set I.len I.fit ⟨hf.s, hf.f, ?_, ?_⟩
    · show p.ks ++ [nth h.ks o.key] = _
      rw [hf.ks]
      simp [kyT]
    · show p.ops ++ [⟨decide (kindO o = 3), 0, o.vk, o.vn⟩] = _
      rw [hf.ops, List.map_append]
      congr 1
      have : decide (kindO o = 3) = o.wr := by unfold kindO; cases o.wr <;> rfl
      rw [this]
      rfl
  · show m.ss = _
    rw [I.ss, List.map_append, List.map_append]
    rfl
  · show withB m.ks (nth h.ks o.key) = _
    rw [hwb]
    congr 1
    simp [kyT]
theorem run_end {h : Hst} {m : Mk} {l : List Tx} {j f : Int} {ops : List Op4} (I : RInv h m (l ++ [(⟨j, 0, ops⟩ : Tx)])) (hne : ∀ t ∈ l, t.f ≠ 0) (ln : Int) (hn : isName (nth h.ss j) = true) (hf3 : fateB f = true) :
    takeE m ⟨endK f, nth h.ss j, ⟨#[]⟩, 0, 0, ln⟩ = 0 ∧ RInv h (takeM m ⟨endK f, nth h.ss j, ⟨#[]⟩, 0, 0, ln⟩) (l ++ [(⟨j, f, ops⟩ : Tx)]) := by
  obtain ⟨ho, p, hp, hf⟩ := inv_open_last I hne rfl
  have ho' : openI m.ps (nth h.ss j) = some l.length := ho
  have hk1 : ¬ endK f = 1 := by unfold endK; split <;> (try split) <;> decide
  have hk2 : ¬ (endK f = 2 ∨ endK f = 3) := by unfold endK; split <;> (try split) <;> decide
  have hff : fateE (endK f) = f := by
    unfold fateB at hf3
    have h1 := of_decide_eq_true hf3
    have h2 : f = 1 ∨ f = 2 ∨ f = 3 := by omega
    rcases h2 with rfl | rfl | rfl <;> rfl
  unfold takeE takeM
  dsimp only
  rw [ev_end hn, if_neg tf_ne, if_neg tf_ne, ho']
  dsimp only
  rw [if_neg hk1, if_neg hk1, if_neg hk2, hp]
  dsimp only
  rw [if_neg hk2]
  refine ⟨rfl, ?_, ?_, ?_, ?_⟩
  · have := I.len
    simp at this ⊢
    exact this
  · exact fit_set I.len I.fit ⟨hf.s, hff, hf.ks, hf.ops⟩
  · show m.ss = _
    rw [I.ss, List.map_append, List.map_append]
    rfl
  · show m.ks = _
    rw [I.ks]
    congr 1
    simp [kyT]
theorem run_snoc {m0 m : Mk} : ∀ {acc : List Ev6} {e : Ev6}, runM m0 acc = (m, 0, 0) → takeE m e = 0 → runM m0 (acc ++ [e]) = (takeM m e, 0, 0)
  | [], e, h, he => by
    simp only [runM, Prod.mk.injEq, and_true] at h
    subst h
    rw [List.nil_append, run_step he]
    rfl
  | a :: acc, e, h, he => by
    by_cases ha : takeE m0 a = 0
    · rw [run_step ha] at h
      rw [List.cons_append, run_step ha]
      exact run_snoc h he
    · rw [run_stop ha] at h
      simp only [Prod.mk.injEq] at h
      exact absurd h.2.2 ha

/-- What a history that may be says of its names. -/
structure HNames (h : Hst) : Prop where
  ss : Rising h.ss
  ks : Rising h.ks
  sn : ∀ z ∈ h.ss, isName z = true
  kn : ∀ z ∈ h.ks, isName z = true
  s20 : h.ss.length ≤ 20
  k40 : h.ks.length ≤ 40
  su : ∀ z ∈ h.ss, ∃ t ∈ h.l, nmT h t = z
  ku : ∀ z ∈ h.ks, ∃ t ∈ h.l, z ∈ kyT h t
theorem nth_mem {l : List ByteArray} {j : Nat} (h : j < l.length) : nth l (j : Int) ∈ l := by
  rw [nth_at (List.getElem?_eq_getElem h)]
  exact List.getElem_mem h
theorem may_names {h : Hst} (he : errH h = 0) : HNames h := by
  obtain ⟨h1, h2, h3, h4⟩ := may_parts he
  have a1 := and2 h1
  have a2 := and2 h2
  have t1 := and2 a1.2
  have t2 := and2 a2.2
  have b3 := and2 h3
  have c3 := and2 b3.2
  have b4 := and2 h4
  refine ⟨rising_of _ t1.2, rising_of _ t2.2, fun z hz => List.all_eq_true.1 t1.1 z hz, fun z hz => List.all_eq_true.1 t2.1 z hz, of_decide_eq_true a1.1, of_decide_eq_true a2.1, fun z hz => ?_, fun z hz => ?_⟩
  · obtain ⟨j, hj⟩ := List.mem_iff_getElem?.1 hz
    have hlt := (List.getElem?_eq_some_iff.1 hj).1
    have := of_decide_eq_true (List.all_eq_true.1 c3.2 j (List.mem_range.2 hlt))
    obtain ⟨t, ht, hts⟩ := List.mem_map.1 this
    exact ⟨t, ht, by unfold nmT; rw [hts]; exact nth_at hj⟩
  · obtain ⟨j, hj⟩ := List.mem_iff_getElem?.1 hz
    have hlt := (List.getElem?_eq_some_iff.1 hj).1
    have := of_decide_eq_true (List.all_eq_true.1 b4.2 j (List.mem_range.2 hlt))
    unfold keysL at this
    obtain ⟨t, ht, hts⟩ := List.mem_flatMap.1 this
    obtain ⟨o, ho, hok⟩ := List.mem_map.1 hts
    exact ⟨t, ht, List.mem_map.2 ⟨o, ho, by rw [hok]; exact nth_at hj⟩⟩
theorem may_op {h : Hst} (he : errH h = 0) {t : Tx} (ht : t ∈ h.l) {x : Op4} (hx : x ∈ t.ops) : mayB x.vk x.vn = true ∧ (x.wr = true → x.vk = 1) := by
  have h1 := and2 (may_parts he).2.2.2
  have h3 := List.all_eq_true.1 (List.all_eq_true.1 h1.1 t ht) x hx
  unfold opB at h3
  have h4 := and2 (and2 h3).2
  refine ⟨h4.1, fun hw => ?_⟩
  rw [hw] at h4
  simpa using h4.2
theorem may_fate2 {h : Hst} (he : errH h = 0) {t : Tx} (ht : t ∈ h.l) : fateB t.f = true := by
  have h1 := and2 (may_parts he).2.2.1
  have h2 := and2 h1.2
  have h3 := List.all_eq_true.1 h2.1 t ht
  unfold txB at h3
  exact (and2 (and2 h3).2).1
theorem fate_ne {f : Int} (h : fateB f = true) : f ≠ 0 := by
  unfold fateB at h
  have := of_decide_eq_true h
  omega
theorem nm_mem {h : Hst} (he : errH h = 0) {t : Tx} (ht : t ∈ h.l) : nmT h t ∈ h.ss := by
  obtain ⟨j, hj, hl⟩ := may_ses he ht
  unfold nmT
  rw [hj]
  exact nth_mem hl
theorem ky_mem {h : Hst} (he : errH h = 0) {t : Tx} (ht : t ∈ h.l) {o : Op4} (ho : o ∈ t.ops) : nth h.ks o.key ∈ h.ks := by
  obtain ⟨j, hj, hl⟩ := may_key he ht ho
  rw [hj]
  exact nth_mem hl
theorem ss_bound {h : Hst} (H : HNames h) {l : List ByteArray} (hl : ∀ z ∈ l, z ∈ h.ss) : (sortB l).length ≤ 20 :=
  Nat.le_trans (rise_len h.ss (sortB l) (sortB_names l).1.rise H.ss (fun x hx => hl x (((sortB_names l).2 x).1 hx).1)) H.s20
theorem ks_bound {h : Hst} (H : HNames h) {l : List ByteArray} (hl : ∀ z ∈ l, z ∈ h.ks) : (sortB l).length ≤ 40 :=
  Nat.le_trans (rise_len h.ks (sortB l) (sortB_names l).1.rise H.ks (fun x hx => hl x (((sortB_names l).2 x).1 hx).1)) H.k40

theorem run_ops {h : Hst} (he : errH h = 0) {l : List Tx} (hne : ∀ t ∈ l, t.f ≠ 0) (hlm : ∀ t ∈ l, t ∈ h.l) {t : Tx} (ht : t ∈ h.l) :
    ∀ (r q : List Op4) (m : Mk) (acc : List Ev6), t.ops = q ++ r → runM mk0 acc = (m, 0, 0) → RInv h m (l ++ [⟨t.s, 0, q⟩]) → ∃ m', runM mk0 (r.foldl (addO h.ks (nmT h t)) acc) = (m', 0, 0) ∧ RInv h m' (l ++ [⟨t.s, 0, t.ops⟩])
  | [], q, m, acc, hq, hr, I => ⟨m, hr, by rw [hq, List.append_nil]; exact I⟩
  | o :: r, q, m, acc, hq, hr, I => by
    have H := may_names he
    have ho : o ∈ t.ops := by rw [hq]; simp
    have hl20 := (may_len he).2 t ht
    have hqs : q.length < 20 := by rw [hq] at hl20; simp at hl20; omega
    obtain ⟨h1, h2⟩ := run_op I hne o ((acc.length : Int) + 1) (H.sn _ (nm_mem he ht)) (H.kn _ (ky_mem he ht ho)) (may_op he ht ho).1 (may_op he ht ho).2 hqs (ks_bound H (fun z hz => by
      rcases List.mem_append.1 hz with hz | hz
      · obtain ⟨u, hu, hz⟩ := List.mem_flatMap.1 hz
        rcases List.mem_append.1 hu with hu | hu
        · obtain ⟨x, hx, rfl⟩ := List.mem_map.1 hz
          exact ky_mem he (hlm u hu) hx
        · simp at hu
          subst hu
          obtain ⟨x, hx, rfl⟩ := List.mem_map.1 hz
          exact ky_mem he ht (by rw [hq]; exact List.mem_append_left _ hx)
      · simp at hz
        subst hz
        exact ky_mem he ht ho))
    rw [List.foldl_cons]
    exact run_ops he hne hlm ht r (q ++ [o]) _ _ (by rw [hq]; simp) (run_snoc hr h1) h2
theorem run_txs {h : Hst} (he : errH h = 0) :
    ∀ (r l : List Tx) (m : Mk) (acc : List Ev6), h.l = l ++ r → runM mk0 acc = (m, 0, 0) → RInv h m l → ∃ m', runM mk0 (r.foldl (addT h.ss h.ks) acc) = (m', 0, 0) ∧ RInv h m' h.l
  | [], l, m, acc, hq, hr, I => ⟨m, hr, by rw [hq, List.append_nil]; exact I⟩
  | t :: r, l, m, acc, hq, hr, I => by
    have H := may_names he
    have ht : t ∈ h.l := by rw [hq]; simp
    have hlm : ∀ u ∈ l, u ∈ h.l := fun u hu => by rw [hq]; exact List.mem_append_left _ hu
    have hne : ∀ u ∈ l, u.f ≠ 0 := fun u hu => fate_ne (may_fate2 he (hlm u hu))
    have hl40 := (may_len he).1
    have hl : l.length < 40 := by rw [hq] at hl40; simp at hl40; omega
    have hn := H.sn _ (nm_mem he ht)
    obtain ⟨h1, h2⟩ := run_begin I hne hl t.s ((acc.length : Int) + 1) hn (ss_bound H (fun z hz => by
      rcases List.mem_append.1 hz with hz | hz
      · obtain ⟨u, hu, rfl⟩ := List.mem_map.1 hz
        exact nm_mem he (hlm u hu)
      · simp at hz
        subst hz
        exact nm_mem he ht))
    obtain ⟨m2, h3, h4⟩ := run_ops he hne hlm ht t.ops [] _ _ rfl (run_snoc hr h1) h2
    obtain ⟨h5, h6⟩ := run_end h4 hne (((t.ops.foldl (addO h.ks (nmT h t)) (acc ++ [⟨1, nth h.ss t.s, ⟨#[]⟩, 0, 0, (acc.length : Int) + 1⟩])).length : Int) + 1) hn (may_fate2 he ht)
    rw [List.foldl_cons]
    exact run_txs he r (l ++ [t]) _ _ (by rw [hq]; simp) (run_snoc h3 h5) h6
theorem pos_nth {l : List ByteArray} (hr : Rising l) (hn : ∀ z ∈ l, isName z = true) {j : Nat} (hj : j < l.length) : posB l (nth l (j : Int)) = j := by
  have ht : tabB l = true := by
    unfold tabB
    rw [of_rising l hr, Bool.and_true, List.all_eq_true]
    exact hn
  unfold posB
  rw [if_pos ht, nth_at (List.getElem?_eq_getElem hj)]
  refine idx_first (List.getElem?_eq_getElem hj) (fun i hi y hy e => ?_)
  obtain ⟨hil, hie⟩ := List.getElem?_eq_some_iff.1 hy
  have := List.pairwise_iff_getElem.1 hr i j hil hj hi
  rw [hie, e, lessB_irr] at this
  cases this
theorem zip_back (h : Hst) (hr : Rising h.ks) (hn : ∀ z ∈ h.ks, isName z = true) : ∀ (ops : List Op4), (∀ o ∈ ops, ∃ j : Nat, o.key = (j : Int) ∧ j < h.ks.length) →
    List.zipWith (fun (o : Op4) k => { o with key := posB h.ks k }) (ops.map op0) (ops.map fun o => nth h.ks o.key) = ops
  | [], _ => rfl
  | o :: ops, ho => by
    obtain ⟨j, hj, hl⟩ := ho o (List.mem_cons_self ..)
    rw [List.map_cons, List.map_cons, List.zipWith_cons_cons, zip_back h hr hn ops (fun x hx => ho x (List.mem_cons_of_mem _ hx)), hj, pos_nth hr hn hl]
    congr 1
    obtain ⟨a, b, c, d⟩ := o
    dsimp only at hj
    subst hj
    rfl
theorem show_pair {h : Hst} (he : errH h = 0) : pairE (evsH h) = 0 ∧ pairL (evsH h) = 0 ∧ pairH (evsH h) = h := by
  have H := may_names he
  obtain ⟨m, hr, I⟩ := run_txs he h.l [] mk0 [] rfl rfl ⟨rfl, fun i p t hp _ => by simp [mk0] at hp, rfl, rfl⟩
  have hr' : runM mk0 (evsH h) = (m, 0, 0) := hr
  have hend : endE m = (0, 0) := by
    unfold endE
    cases hf : m.ps.find? (fun p => decide (p.f = 0)) with
    | none => rfl
    | some p =>
      obtain ⟨i, hi⟩ := List.mem_iff_getElem?.1 (List.mem_of_find?_eq_some hf)
      have hlt := (List.getElem?_eq_some_iff.1 hi).1
      rw [I.len] at hlt
      have h1 := I.fit i p _ hi (List.getElem?_eq_getElem hlt)
      have h2 := fate_ne (may_fate2 he (List.getElem_mem hlt))
      have h3 := List.find?_some hf
      rw [← h1.f] at h2
      exact absurd (of_decide_eq_true h3) h2
  have hfo : followR (evsH h) = (m, 0, 0) := by
    unfold followR
    rw [hr', hend]
    rfl
  have e0 : pairE (evsH h) = 0 := by unfold pairE; rw [hfo]
  refine ⟨e0, by unfold pairL; rw [hfo], ?_⟩
  unfold pairH
  rw [if_pos e0, hfo]
  have hss : m.ss = h.ss := by
    rw [I.ss]
    refine (sortB_unique H.ss (fun y => ⟨fun hy => ?_, fun hy => ?_⟩)).symm
    · obtain ⟨t, ht, hty⟩ := H.su y hy
      exact ⟨List.mem_map.2 ⟨t, ht, hty⟩, H.sn y hy⟩
    · obtain ⟨t, ht, rfl⟩ := List.mem_map.1 hy.1
      exact nm_mem he ht
  have hks : m.ks = h.ks := by
    rw [I.ks]
    refine (sortB_unique H.ks (fun y => ⟨fun hy => ?_, fun hy => ?_⟩)).symm
    · obtain ⟨t, ht, hty⟩ := H.ku y hy
      exact ⟨List.mem_flatMap.2 ⟨t, ht, hty⟩, H.kn y hy⟩
    · obtain ⟨t, ht, hty⟩ := List.mem_flatMap.1 hy.1
      obtain ⟨o, ho, rfl⟩ := List.mem_map.1 hty
      exact ky_mem he ht ho
  have hps : m.ps.map (txOf m) = h.l := by
    apply List.ext_getElem?
    intro i
    rw [List.getElem?_map]
    rcases Nat.lt_or_ge i h.l.length with hlt | hge
    · have hp := List.getElem?_eq_getElem (l := m.ps) (i := i) (by rw [I.len]; exact hlt)
      have ht := List.getElem?_eq_getElem hlt
      have hf := I.fit i _ _ hp ht
      have htm := List.getElem_mem hlt
      rw [hp, ht]
      generalize h.l[i] = t at *
      generalize m.ps[i]'(by rw [I.len]; exact hlt) = p at *
      rw [Option.map_some]
      congr 1
      unfold txOf keyed
      rw [hf.s, hf.f, hf.ks, hf.ops, hss, hks]
      obtain ⟨j, hj, hjl⟩ := may_ses he htm
      unfold nmT kyT
      rw [hj, pos_nth H.ss H.sn hjl, zip_back h H.ks H.kn t.ops (fun o ho => may_key he htm ho)]
      obtain ⟨a, b, c⟩ := t
      dsimp only at hj ⊢
      subst hj
      congr 1
      omega
    · rw [List.getElem?_eq_none (by rw [I.len]; exact hge), List.getElem?_eq_none hge]
      rfl
  unfold histOf
  rw [hss, hks, hps]
theorem numb_lined : ∀ (l : List Ev6) (i : Int), (∀ (j : Nat) x, l[j]? = some x → x.ln = i + (j : Int)) → numb l i = l
  | [], _, _ => rfl
  | x :: l, i, h => by
    rw [numb, numb_lined l (i + 1) (fun j y hy => by
      have := h (j + 1) y (by simpa using hy)
      rw [this]
      push_cast
      omega)]
    have := h 0 x rfl
    obtain ⟨a, b, c, d, e, f⟩ := x
    dsimp only at this ⊢
    rw [this]
    simp
theorem numb_evs (h : Hst) : numb (evsH h) 1 = evsH h := numb_lined _ 1 (fun j x hx => by
  rw [evs_lined] at hx
  unfold lined at hx
  rw [List.getElem?_mapIdx] at hx
  cases hz : (evsZ h)[j]? with
  | none => rw [hz] at hx; cases hx
  | some z =>
    rw [hz] at hx
    simp at hx
    subst hx
    show (j : Int) + 1 = 1 + (j : Int)
    omega)
theorem run_ok : ∀ (l : List Ev6) (m m' : Mk), runM m l = (m', 0, 0) → ∀ x ∈ l, okE x = true
  | [], _, _, _, x, hx => by cases hx
  | a :: l, m, m', h, x, hx => by
    by_cases ha : takeE m a = 0
    · rw [run_step ha] at h
      rcases List.mem_cons.1 hx with rfl | hx
      · cases hk : okE x with
        | true => rfl
        | false =>
          unfold okE at hk
          unfold takeE at ha
          rw [if_pos hk] at ha
          cases ha
      · exact run_ok l _ _ h x hx
    · rw [run_stop ha] at h
      simp only [Prod.mk.injEq] at h
      exact absurd h.2.2 ha
theorem evs_ok {h : Hst} (he : errH h = 0) : (evsH h).all okE = true := by
  obtain ⟨m, hr, I⟩ := run_txs he h.l [] mk0 [] rfl rfl ⟨rfl, fun i p t hp _ => by simp [mk0] at hp, rfl, rfl⟩
  rw [List.all_eq_true]
  exact run_ok (evsH h) mk0 m hr
theorem evs_len {h : Hst} (he : errH h = 0) : (evsH h).length ≤ 880 := by
  obtain ⟨h1, h2⟩ := may_len he
  have := fold_len h.ss h.ks h.l h2 []
  simp at this
  show (h.l.foldl (addT h.ss h.ks) []).length ≤ _
  omega
/-- What a history that may be is printed as is read as it; or it is too long. -/
theorem show_back {h : Hst} (he : errH h = 0) (hb : ∀ x ∈ evsH h, EvB x) : (showP h = (⟨#[]⟩, 6)) ∨ ((showP h).2 = 0 ∧ showR (showP h).1 = (h, 0, 0) ∧ (showP h).1.size ≤ 65536 ∧ (∀ x ∈ linesOf (by_ (showP h).1), x.length ≤ 65535) ∧ logParse (showP h).1 = (evsH h, 0, 0)) := by
  unfold showP
  rw [if_pos he]
  cases hp : printOf (evsH h) [] with
  | none =>
    left
    unfold logPrint
    rw [if_pos (evs_ok he), hp]
  | some t =>
    right
    have h0 : (logPrint (evsH h)).2 = 0 := by
      unfold logPrint
      rw [if_pos (evs_ok he), hp]
    obtain ⟨h1, h2, h3⟩ := log_back hb (by have := evs_len he; omega) h0
    rw [numb_evs] at h1
    obtain ⟨p1, p2, p3⟩ := show_pair he
    refine ⟨h0, ?_, h2, h3, h1⟩
    unfold showR
    rw [h1]
    dsimp only
    rw [if_pos rfl, p1, p2, p3]
end Go.Proofs.YthaeomdpaadilaaGreatDoor
