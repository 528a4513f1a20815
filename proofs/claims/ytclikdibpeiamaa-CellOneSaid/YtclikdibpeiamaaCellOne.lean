/- The law CellOne: of two cells that are not the same just one is ahead; three never stand in a ring. -/
import Derived.Test.YtclikdibpeiamaaCellD
import Derived.Test.YtclikdibpeiamaaSpread
set_option linter.unusedVariables false
set_option linter.unusedSimpArgs false
namespace Go.Proofs.Ytclikdibpeiamaa
open Go.RowKit

/-- a block of one cell, made meanwhile -/
def Mk (w1 : World) (b : Bool) (x : Value) (w : World) : Prop := b = true → ∃ p, x = .pointer (some ⟨p, 0, none⟩) ∧ w1.heap.size ≤ p ∧ Blk w p 30 #[.nilIface]
theorem Mk.only {w1 : World} {b : Bool} {x : Value} {w w' : World} (h : Mk w1 b x w) (o : Only [] w w') : Mk w1 b x w' := fun hb => by
  obtain ⟨p, e, hp, hB⟩ := h hb
  exact ⟨p, e, hp, o.blk hB (by simp)⟩
theorem Mk.no {w1 : World} {x : Value} {w : World} : Mk w1 false x w := fun h => by cases h
theorem Mk.new {w1 : World} {w : World} (h : w1.heap.size ≤ w.heap.size) : Mk w1 true (.pointer (some ⟨w.heap.size, 0, none⟩)) (w.alloc (.cells #[.nilIface] 30)) := fun _ => ⟨_, rfl, h, Blk.made _ _ _⟩
theorem Mk.other {w1 : World} {b : Bool} {x : Value} {w : World} (h : Mk w1 b x w) (hb : b = true) : x ≠ .pointer (some ⟨w.heap.size, 0, none⟩) := fun e => by
  obtain ⟨p, e', hp, hB⟩ := h hb
  rw [e] at e'
  have := hB.lt
  simp only [Value.pointer.injEq, Option.some.injEq, Addr.mk.injEq] at e'
  omega

/-- the state of the middle region, whichever of the six are done -/
def mkAct (A B C P0 P1 P2 x1 x3 x5 x6 x7 x8 : Value) : Act :=
  { tmps := #[A, B, C, P0, P1, P2, Value.bool false, x6, x7, x8, undef, undef, Value.bool true, Value.bool false, A, x1, B, x3, C, x5, undef, undef, undef, undef, undef, undef, undef, undef, undef, undef, undef, undef, undef, undef, undef, undef, undef, undef, undef, undef, undef, undef, undef, undef, undef, undef, undef, undef, undef, undef, undef, undef, undef, undef, undef, undef, undef, undef], defers := [] }
def Mid (A B C P0 P1 P2 V1 V3 V5 : Value) (w1 : World) (b1 b3 b5 b6 b7 b8 : Bool) (a : Act) (w : World) : Prop :=
  ∃ x1 x3 x5 x6 x7 x8, a = mkAct A B C P0 P1 P2 x1 x3 x5 x6 x7 x8 ∧ Only [] w1 w ∧ (b1 = true → x1 = V1) ∧ (b3 = true → x3 = V3) ∧ (b5 = true → x5 = V5 ∧ b3 = true) ∧ Mk w1 b6 x6 w ∧ Mk w1 b7 x7 w ∧ Mk w1 b8 x8 w ∧
    (b6 = true → b7 = true → x6 ≠ x7) ∧ (b6 = true → b8 = true → x6 ≠ x8) ∧ (b7 = true → b8 = true → x7 ≠ x8)

theorem cK_of (k : Int) : cK k = 0 ∨ cK k = 1 ∨ cK k = 2 := by
  unfold cK; by_cases h : k = 1 <;> by_cases h' : k = 2 <;> simp [h, h']
theorem cN_of (k n : Int) : cK k ≠ 1 → cN k n = 0 := by
  unfold cK cN; by_cases h : k = 1 <;> by_cases h' : k = 2 <;> simp [h, h']

theorem ifc_one (t n : Int) : (ifc t n).oneCell' = true := by
  unfold ifc
  by_cases h0 : t = 0
  · simp [h0, Value.oneCell']
  by_cases h1 : t = 1
  · simp [h1, Value.oneCell']
  by_cases h2 : t = 2
  · simp [h2, Value.oneCell']
  by_cases h3 : t = 3
  · simp [h3, Value.oneCell']
  simp [h0, h1, h2, h3, Value.oneCell']

/-- less, more and the same of two; and three in a ring -/
theorem one_math {k m k' m' k2 m2 : Int} (h1 : k ≠ 1 → m = 0) (h2 : k' ≠ 1 → m' = 0) (h3 : k2 ≠ 1 → m2 = 0) :
    (lessB k m k' m' = true ∧ lessB k' m' k m = false ∧ sameB 0 0 k m k' m' = false ∧ (lessB k' m' k2 m2 = true → lessB k m k2 m2 = true)) ∨
    (lessB k m k' m' = false ∧ lessB k' m' k m = true ∧ sameB 0 0 k m k' m' = false) ∨
    (lessB k m k' m' = false ∧ lessB k' m' k m = false ∧ sameB 0 0 k m k' m' = true) := by
  unfold lessB sameB
  rcases Int.lt_trichotomy k k' with h | h | h
  · refine .inl ⟨?_, ?_, ?_, ?_⟩
    · rw [if_neg (by omega)]; simpa using h
    · rw [if_neg (by omega)]; simp; omega
    · simp; omega
    · intro hh
      by_cases e : k' = k2
      · subst e; rw [if_neg (by omega)]; simpa using h
      · rw [if_neg e] at hh; simp at hh; rw [if_neg (by omega)]; simp; omega
  · subst h
    by_cases e1 : k = 1
    · subst e1
      rcases Int.lt_trichotomy m m' with g | g | g
      · refine .inl ⟨?_, ?_, ?_, ?_⟩
        · rw [if_pos rfl]; simpa using g
        · rw [if_pos rfl]; simp; omega
        · simp; omega
        · intro hh
          by_cases e : (1 : Int) = k2
          · rw [if_pos e] at hh ⊢; simp at hh ⊢; omega
          · rw [if_neg e] at hh ⊢; exact hh
      · subst g; exact .inr (.inr (by simp))
      · refine .inr (.inl ⟨?_, ?_, ?_⟩)
        · rw [if_pos rfl]; simp; omega
        · rw [if_pos rfl]; simp; omega
        · simp; omega
    · have a := h1 e1
      have b := h2 e1
      subst a b
      exact .inr (.inr (by simp))
  · refine .inr (.inl ⟨?_, ?_, ?_⟩)
    · rw [if_neg (by omega)]; simp; omega
    · rw [if_neg (by omega)]; simpa using h
    · simp; omega

theorem less_of (k n k' n' : Int) (w : World) : Calls Try.prog 19 #[.agg #[ifc (oT k) n], .agg #[ifc (oT k') n']] w fun e w' => e = .returned (.bool (lessB (cK k) (cN k n) (cK k') (cN k' n'))) ∧ Only [] w w' := by
  have h := Less_any (oT k) n (oT k') n' w
  obtain ⟨e1, e2, e3⟩ := of_words k n
  obtain ⟨f1, f2, f3⟩ := of_words k' n'
  rw [e1, e2, e3, f1, f2, f3] at h
  simpa using h
theorem same_of (k n k' n' : Int) (w : World) : Calls Try.prog 18 #[.agg #[ifc (oT k) n], .agg #[ifc (oT k') n']] w fun e w' => e = .returned (.bool (sameB 0 0 (cK k) (cN k n) (cK k') (cN k' n'))) ∧ Only [] w w' := by
  have h := Same_any (oT k) n (oT k') n' w
  obtain ⟨e1, e2, e3⟩ := of_words k n
  obtain ⟨f1, f2, f3⟩ := of_words k' n'
  rw [e1, e2, e3, f1, f2, f3] at h
  exact h

set_option maxHeartbeats 3200000 in
theorem cellOne_walk (k n k' n' k2 n2 : Int) (w : World) : Calls Try.prog 6 #[.agg #[.int .i64 k, .int .i64 n], .agg #[.int .i64 k', .int .i64 n'], .agg #[.int .i64 k2, .int .i64 n2]] w fun e w' => e = .returned (.bool true) ∧ Only [] w w' := by
  have hA := fun w => Of_any k n w
  have hB := fun w => Of_any k' n' w
  have hC := fun w => Of_any k2 n2 w
  have hLab := fun w => less_of k n k' n' w
  have hLba := fun w => less_of k' n' k n w
  have hLbc := fun w => less_of k' n' k2 n2 w
  have hLac := fun w => less_of k n k2 n2 w
  have hSab := fun w => same_of k n k' n' w
  have hm := one_math (cN_of k n) (cN_of k' n') (cN_of k2 n2)
  have oa := ifc_one (oT k) n
  have ob := ifc_one (oT k') n'
  have oc := ifc_one (oT k2) n2
  generalize ifc (oT k) n = va at *
  generalize ifc (oT k') n' = vb at *
  generalize ifc (oT k2) n2 = vc at *
  generalize lessB (cK k) (cN k n) (cK k') (cN k' n') = lab at *
  generalize lessB (cK k') (cN k' n') (cK k) (cN k n) = lba at *
  generalize lessB (cK k') (cN k' n') (cK k2) (cN k2 n2) = lbc at *
  generalize lessB (cK k) (cN k n) (cK k2) (cN k2 n2) = lac at *
  generalize sameB 0 0 (cK k) (cN k n) (cK k') (cN k' n') = sab at *
  have HA := Lib.hid hA
  have HB := Lib.hid hB
  have HC := Lib.hid hC
  have HLab := Lib.hid hLab
  have HLba := Lib.hid hLba
  have HLbc := Lib.hid hLbc
  have HLac := Lib.hid hLac
  have HSab := Lib.hid hSab
  have HM := Lib.hid hm
  clear hA hB hC hLab hLba hLbc hLac hSab hm
  go_enter Try.func6, Try.ntmps6
  go_wp2_with fail
  refine (cworks_any _).mono ?_
  rintro e w1 ⟨rfl, O1⟩
  have bA := O1.blk (((made2 w 25 k n).alloc (.cells #[.int .i64 k', .int .i64 n'] 25)).alloc (.cells #[.int .i64 k2, .int .i64 n2] 25)) (by simp)
  have bB := O1.blk ((made2 (w.alloc (.cells #[.int .i64 k, .int .i64 n] 25)) 25 k' n').alloc (.cells #[.int .i64 k2, .int .i64 n2] 25)) (by simp)
  have bC := O1.blk (made2 ((w.alloc (.cells #[.int .i64 k, .int .i64 n] 25)).alloc (.cells #[.int .i64 k', .int .i64 n'] 25)) 25 k2 n2) (by simp)
  simp only [World.size_alloc] at bA bB bC
  have HP := Lib.hid (((((Only.refl [] w).alloc (.cells #[.int .i64 k, .int .i64 n] 25)).alloc (.cells #[.int .i64 k', .int .i64 n'] 25)).alloc (.cells #[.int .i64 k2, .int .i64 n2] 25)).trans O1)
  clear O1
  go_wp2_with fail
  have lA := bA.lt
  have lB := bB.lt
  have lC := bC.lt
  have a0 := bA.at_ 0
  have a1 := bA.at_ 1
  have b0 := bB.at_ 0
  have b1 := bB.at_ 1
  have c0 := bC.at_ 0
  have c1 := bC.at_ 1
  simp at a0 a1 b0 b1 c0 c1
  refine wp_region_noPanic ?_
  refine wp_region_timed (F := [⟨[], [], fun w' => Only [] w1 w'⟩]) (by kernel_rfl) (timed_holds ((Only.refl [] w1).drew) (timed_nil)) ?_
  refine timed_read (i := 0) (v := ?_) 0 rfl (by kernel_rfl) (by kernel_rfl) (by kernel_rfl) (fun _ _ _ h => h) (by kernel_rfl) (by kernel_rfl) rfl (by kernel_rfl) ?_ ?_
  rotate_left
  · (intro wq hSw; (try dsimp only at hSw); have hqa0 := (hSw.cell (p := ⟨w.heap.size, 0, none⟩) lA (by simp)).trans a0; have hqa1 := (hSw.cell (p := ⟨w.heap.size, 1, none⟩) lA (by simp)).trans a1; have hqb0 := (hSw.cell (p := ⟨w.heap.size + 1, 0, none⟩) lB (by simp)).trans b0; have hqb1 := (hSw.cell (p := ⟨w.heap.size + 1, 1, none⟩) lB (by simp)).trans b1; have hqc0 := (hSw.cell (p := ⟨w.heap.size + 1 + 1, 0, none⟩) lC (by simp)).trans c0; have hqc1 := (hSw.cell (p := ⟨w.heap.size + 1 + 1, 1, none⟩) lC (by simp)).trans c1; clear hSw; go_simp; try with_reducible rfl)
  try simp only [Act.put, List.getElem_toArray, List.getElem_cons_zero, List.getElem_cons_succ, List.setIfInBounds_toArray, List.set_cons_zero, List.set_cons_succ]
  refine timed_read (i := 2) (v := ?_) 0 rfl (by kernel_rfl) (by kernel_rfl) (by kernel_rfl) (fun _ _ _ h => h) (by kernel_rfl) (by kernel_rfl) rfl (by kernel_rfl) ?_ ?_
  rotate_left
  · (intro wq hSw; (try dsimp only at hSw); have hqa0 := (hSw.cell (p := ⟨w.heap.size, 0, none⟩) lA (by simp)).trans a0; have hqa1 := (hSw.cell (p := ⟨w.heap.size, 1, none⟩) lA (by simp)).trans a1; have hqb0 := (hSw.cell (p := ⟨w.heap.size + 1, 0, none⟩) lB (by simp)).trans b0; have hqb1 := (hSw.cell (p := ⟨w.heap.size + 1, 1, none⟩) lB (by simp)).trans b1; have hqc0 := (hSw.cell (p := ⟨w.heap.size + 1 + 1, 0, none⟩) lC (by simp)).trans c0; have hqc1 := (hSw.cell (p := ⟨w.heap.size + 1 + 1, 1, none⟩) lC (by simp)).trans c1; clear hSw; go_simp; try with_reducible rfl)
  try simp only [Act.put, List.getElem_toArray, List.getElem_cons_zero, List.getElem_cons_succ, List.setIfInBounds_toArray, List.set_cons_zero, List.set_cons_succ]
  refine timed_read (i := 4) (v := ?_) 0 rfl (by kernel_rfl) (by kernel_rfl) (by kernel_rfl) (fun _ _ _ h => h) (by kernel_rfl) (by kernel_rfl) rfl (by kernel_rfl) ?_ ?_
  rotate_left
  · (intro wq hSw; (try dsimp only at hSw); have hqa0 := (hSw.cell (p := ⟨w.heap.size, 0, none⟩) lA (by simp)).trans a0; have hqa1 := (hSw.cell (p := ⟨w.heap.size, 1, none⟩) lA (by simp)).trans a1; have hqb0 := (hSw.cell (p := ⟨w.heap.size + 1, 0, none⟩) lB (by simp)).trans b0; have hqb1 := (hSw.cell (p := ⟨w.heap.size + 1, 1, none⟩) lB (by simp)).trans b1; have hqc0 := (hSw.cell (p := ⟨w.heap.size + 1 + 1, 0, none⟩) lC (by simp)).trans c0; have hqc1 := (hSw.cell (p := ⟨w.heap.size + 1 + 1, 1, none⟩) lC (by simp)).trans c1; clear hSw; go_simp; try with_reducible rfl)
  try simp only [Act.put, List.getElem_toArray, List.getElem_cons_zero, List.getElem_cons_succ, List.setIfInBounds_toArray, List.set_cons_zero, List.set_cons_succ]
  clear a0 a1 b0 b1 c0 c1 lA lB lC bA bB bC
  intro _
  refine spread3 (Mid (Value.agg #[Value.int IntKind.i64 k, Value.int IntKind.i64 n]) (Value.agg #[Value.int IntKind.i64 k', Value.int IntKind.i64 n']) (Value.agg #[Value.int IntKind.i64 k2, Value.int IntKind.i64 n2]) (Value.pointer (some ⟨w.heap.size, 0, none⟩)) (Value.pointer (some ⟨w.heap.size + 1, 0, none⟩)) (Value.pointer (some ⟨w.heap.size + 1 + 1, 0, none⟩)) (.agg #[va]) (.agg #[vb]) (.agg #[vc]) w1) 3 ?_ ?_ ?_ ?_ ?_ ?_ ?_ ?_ ?_ ?_ 6 false false false false false false _ _ rfl ?_
  · intro b1 b3 b5 b6 b7 b8
    cases b1 <;> cases b3 <;> cases b5 <;> cases b6 <;> cases b7 <;> cases b8 <;> kernel_rfl
  · rintro b1 b3 b5 b6 b7 b8 a w' ⟨x1, x3, x5, x6, x7, x8, rfl, O, -⟩
    exact timed_holds O timed_nil
  · rintro b1 b3 b5 b6 b7 b8 a w' ⟨x1, x3, x5, x6, x7, x8, rfl, O, -, -, h5, -⟩ h
    exact (h5 h).2
  · rintro b3 b5 b6 b7 b8 a w' ⟨x1, x3, x5, x6, x7, x8, rfl, O, -, h3, h5, m6, m7, m8, d67, d68, d78⟩
    have HH := Lib.hid (And.intro O (And.intro h3 (And.intro h5 (And.intro m6 (And.intro m7 (And.intro m8 (And.intro d67 (And.intro d68 d78))))))))
    clear O h3 h5 m6 m7 m8 d67 d68 d78
    refine wpOp_step (i := 1) rfl (fun K hK => ?_)
    have HK := Lib.hid hK
    clear hK
    unfold mkAct
    go_simp
    refine (HA.out _).mono ?_
    rintro e w2 ⟨rfl, O2⟩
    obtain ⟨O, h3, h5, m6, m7, m8, d67, d68, d78⟩ := HH.out
    exact HK.out _ _ ⟨_, x3, x5, x6, x7, x8, rfl, O.trans O2, fun _ => rfl, h3, h5, m6.only O2, m7.only O2, m8.only O2, d67, d68, d78⟩
  · rintro b1 b5 b6 b7 b8 a w' ⟨x1, x3, x5, x6, x7, x8, rfl, O, h1, -, h5, m6, m7, m8, d67, d68, d78⟩
    have HH := Lib.hid (And.intro O (And.intro h1 (And.intro h5 (And.intro m6 (And.intro m7 (And.intro m8 (And.intro d67 (And.intro d68 d78))))))))
    clear O h1 h5 m6 m7 m8 d67 d68 d78
    refine wpOp_step (i := 3) rfl (fun K hK => ?_)
    have HK := Lib.hid hK
    clear hK
    unfold mkAct
    go_simp
    refine (HB.out _).mono ?_
    rintro e w2 ⟨rfl, O2⟩
    obtain ⟨O, h1, h5, m6, m7, m8, d67, d68, d78⟩ := HH.out
    exact HK.out _ _ ⟨x1, _, x5, x6, x7, x8, rfl, O.trans O2, h1, fun _ => rfl, fun h => ⟨(h5 h).1, rfl⟩, m6.only O2, m7.only O2, m8.only O2, d67, d68, d78⟩
  · rintro b1 b6 b7 b8 a w' ⟨x1, x3, x5, x6, x7, x8, rfl, O, h1, h3, -, m6, m7, m8, d67, d68, d78⟩
    have HH := Lib.hid (And.intro O (And.intro h1 (And.intro h3 (And.intro m6 (And.intro m7 (And.intro m8 (And.intro d67 (And.intro d68 d78))))))))
    clear O h1 h3 m6 m7 m8 d67 d68 d78
    refine wpOp_step (i := 5) rfl (fun K hK => ?_)
    have HK := Lib.hid hK
    clear hK
    unfold mkAct
    go_simp
    refine (HC.out _).mono ?_
    rintro e w2 ⟨rfl, O2⟩
    obtain ⟨O, h1, h3, m6, m7, m8, d67, d68, d78⟩ := HH.out
    exact HK.out _ _ ⟨x1, x3, _, x6, x7, x8, rfl, O.trans O2, h1, h3, fun _ => ⟨rfl, rfl⟩, m6.only O2, m7.only O2, m8.only O2, d67, d68, d78⟩
  · rintro b1 b3 b5 b7 b8 a w' ⟨x1, x3, x5, x6, x7, x8, rfl, O, h1, h3, h5, -, m7, m8, -, -, d78⟩
    have HH := Lib.hid (And.intro O (And.intro h1 (And.intro h3 (And.intro h5 (And.intro m7 (And.intro m8 (d78)))))))
    clear O h1 h3 h5 m7 m8 d78
    refine wpOp_step (i := 6) rfl (fun K hK => ?_)
    have HK := Lib.hid hK
    clear hK
    unfold mkAct
    go_simp
    obtain ⟨O, h1, h3, h5, m7, m8, d78⟩ := HH.out
    exact HK.out _ _ ⟨x1, x3, x5, _, x7, x8, rfl, O.alloc _, h1, h3, h5, Mk.new O.size, m7.only ((Only.refl [] w').alloc _), m8.only ((Only.refl [] w').alloc _), (fun _ h e => m7.other h e.symm), (fun _ h e => m8.other h e.symm), d78⟩
  · rintro b1 b3 b5 b6 b8 a w' ⟨x1, x3, x5, x6, x7, x8, rfl, O, h1, h3, h5, m6, -, m8, -, d68, -⟩
    have HH := Lib.hid (And.intro O (And.intro h1 (And.intro h3 (And.intro h5 (And.intro m6 (And.intro m8 (d68)))))))
    clear O h1 h3 h5 m6 m8 d68
    refine wpOp_step (i := 7) rfl (fun K hK => ?_)
    have HK := Lib.hid hK
    clear hK
    unfold mkAct
    go_simp
    obtain ⟨O, h1, h3, h5, m6, m8, d68⟩ := HH.out
    exact HK.out _ _ ⟨x1, x3, x5, x6, _, x8, rfl, O.alloc _, h1, h3, h5, m6.only ((Only.refl [] w').alloc _), Mk.new O.size, m8.only ((Only.refl [] w').alloc _), (fun h _ e => m6.other h e), d68, (fun _ h e => m8.other h e.symm)⟩
  · rintro b1 b3 b5 b6 b7 a w' ⟨x1, x3, x5, x6, x7, x8, rfl, O, h1, h3, h5, m6, m7, -, d67, -, -⟩
    have HH := Lib.hid (And.intro O (And.intro h1 (And.intro h3 (And.intro h5 (And.intro m6 (And.intro m7 (d67)))))))
    clear O h1 h3 h5 m6 m7 d67
    refine wpOp_step (i := 8) rfl (fun K hK => ?_)
    have HK := Lib.hid hK
    clear hK
    unfold mkAct
    go_simp
    obtain ⟨O, h1, h3, h5, m6, m7, d67⟩ := HH.out
    exact HK.out _ _ ⟨x1, x3, x5, x6, x7, _, rfl, O.alloc _, h1, h3, h5, m6.only ((Only.refl [] w').alloc _), m7.only ((Only.refl [] w').alloc _), Mk.new O.size, d67, (fun h _ e => m6.other h e), (fun h _ e => m7.other h e)⟩
  · rintro a w' ⟨x1, x3, x5, x6, x7, x8, rfl, O, h1, h3, h5, m6, m7, m8, d67, d68, d78⟩
    obtain rfl := h1 rfl
    obtain rfl := h3 rfl
    obtain rfl := (h5 rfl).1
    obtain ⟨p, rfl, lp, bP⟩ := m6 rfl
    obtain ⟨q, rfl, lq, bQ⟩ := m7 rfl
    obtain ⟨r, rfl, lr, bR⟩ := m8 rfl
    have hpq : p ≠ q := fun e => d67 rfl rfl (by rw [e])
    have hpr : p ≠ r := fun e => d68 rfl rfl (by rw [e])
    have hqr : q ≠ r := fun e => d78 rfl rfl (by rw [e])
    clear h1 h3 h5 m6 m7 m8 d67 d68 d78
    have hT := timed_holds (x := ⟨[], [], fun w' => Only [] w1 w'⟩) (L := bd3 true true true true true true) O timed_nil
    revert hT
    unfold mkAct bd3
    have HO := Lib.hid O
    clear O
    have l1 := bP.lt
    have c1 := bP.at_ 0
    have f1 := bP.free 0
    simp at c1 f1 l1
    refine timed_step (i := 9) (by kernel_rfl) rfl (fun K hK => ?_)
    go_simp
    rw [run_store _ _ _ _ _ oa]
    go_simp
    have nP := bP.put 0 va
    have nQ := bQ.far (p := ⟨p, 0, none⟩) (Ne.symm hpq) va
    have nR := bR.far (p := ⟨p, 0, none⟩) (Ne.symm hpr) va
    have O1 := HO.out.put (p := ⟨p, 0, none⟩) (fun h => absurd h (Nat.not_lt.2 lp)) va
    refine hK.out _ _ (timed_holds O1 timed_nil) ?_
    clear hK K HO l1 c1 f1 bP bQ bR
    generalize w'.setCell ⟨p, 0, none⟩ va = w3 at *
    try simp only [Act.put, List.getElem_toArray, List.getElem_cons_zero, List.getElem_cons_succ, List.setIfInBounds_toArray, List.set_cons_zero, List.set_cons_succ]
    have bP := nP
    have bQ := nQ
    have bR := nR
    have HO := Lib.hid O1
    clear nP nQ nR O1
    have l1 := bQ.lt
    have c1 := bQ.at_ 0
    have f1 := bQ.free 0
    simp at c1 f1 l1
    refine timed_step (i := 10) (by kernel_rfl) rfl (fun K hK => ?_)
    go_simp
    rw [run_store _ _ _ _ _ ob]
    go_simp
    have nQ := bQ.put 0 vb
    have nP := bP.far (p := ⟨q, 0, none⟩) hpq vb
    have nR := bR.far (p := ⟨q, 0, none⟩) (Ne.symm hqr) vb
    have O1 := HO.out.put (p := ⟨q, 0, none⟩) (fun h => absurd h (Nat.not_lt.2 lq)) vb
    refine hK.out _ _ (timed_holds O1 timed_nil) ?_
    clear hK K HO l1 c1 f1 bP bQ bR
    generalize w3.setCell ⟨q, 0, none⟩ vb = w4 at *
    try simp only [Act.put, List.getElem_toArray, List.getElem_cons_zero, List.getElem_cons_succ, List.setIfInBounds_toArray, List.set_cons_zero, List.set_cons_succ]
    have bP := nP
    have bQ := nQ
    have bR := nR
    have HO := Lib.hid O1
    clear nP nQ nR O1
    have l1 := bR.lt
    have c1 := bR.at_ 0
    have f1 := bR.free 0
    simp at c1 f1 l1
    refine timed_step (i := 11) (by kernel_rfl) rfl (fun K hK => ?_)
    go_simp
    rw [run_store _ _ _ _ _ oc]
    go_simp
    have nR := bR.put 0 vc
    have nP := bP.far (p := ⟨r, 0, none⟩) hpr vc
    have nQ := bQ.far (p := ⟨r, 0, none⟩) hqr vc
    have O1 := HO.out.put (p := ⟨r, 0, none⟩) (fun h => absurd h (Nat.not_lt.2 lr)) vc
    refine hK.out _ _ (timed_holds O1 timed_nil) ?_
    clear hK K HO l1 c1 f1 bP bQ bR
    generalize w4.setCell ⟨r, 0, none⟩ vc = w5 at *
    try simp only [Act.put, List.getElem_toArray, List.getElem_cons_zero, List.getElem_cons_succ, List.setIfInBounds_toArray, List.set_cons_zero, List.set_cons_succ]
    have bP := nP
    have bQ := nQ
    have bR := nR
    have HO := Lib.hid O1
    clear nP nQ nR O1
    refine timed_done (by kernel_rfl) ?_ _
    refine NoPanic.normal ?_
    replace bP : Blk w5 p 30 #[va] := bP
    replace bQ : Blk w5 q 30 #[vb] := bQ
    replace bR : Blk w5 r 30 #[vc] := bR
    go_wp2_with fail
    have lP := bP.lt
    have lQ := bQ.lt
    have lR := bR.lt
    have p0 := bP.at_ 0
    have q0 := bQ.at_ 0
    have r0 := bR.at_ 0
    simp at p0 q0 r0
    refine wp_region_noPanic ?_
    refine wp_region_timed (F := [⟨[], [], fun w' => Only [] w5 w'⟩]) (by kernel_rfl) (timed_holds ((Only.refl [] w5).drew) (timed_nil)) ?_
    refine timed_read (i := 0) (v := ?_) 0 rfl (by kernel_rfl) (by kernel_rfl) (by kernel_rfl) (fun _ _ _ h => h) (by kernel_rfl) (by kernel_rfl) rfl (by kernel_rfl) ?_ ?_
    rotate_left
    · (intro wq hSw; (try dsimp only at hSw); have hqp := (hSw.cell (p := ⟨p, 0, none⟩) lP (by simp)).trans p0; have hqq := (hSw.cell (p := ⟨q, 0, none⟩) lQ (by simp)).trans q0; have hqr := (hSw.cell (p := ⟨r, 0, none⟩) lR (by simp)).trans r0; clear hSw; go_simp; try with_reducible rfl)
    try simp only [Act.put, List.getElem_toArray, List.getElem_cons_zero, List.getElem_cons_succ, List.setIfInBounds_toArray, List.set_cons_zero, List.set_cons_succ]
    refine timed_read (i := 1) (v := ?_) 0 rfl (by kernel_rfl) (by kernel_rfl) (by kernel_rfl) (fun _ _ _ h => h) (by kernel_rfl) (by kernel_rfl) rfl (by kernel_rfl) ?_ ?_
    rotate_left
    · (intro wq hSw; (try dsimp only at hSw); have hqp := (hSw.cell (p := ⟨p, 0, none⟩) lP (by simp)).trans p0; have hqq := (hSw.cell (p := ⟨q, 0, none⟩) lQ (by simp)).trans q0; have hqr := (hSw.cell (p := ⟨r, 0, none⟩) lR (by simp)).trans r0; clear hSw; go_simp; try with_reducible rfl)
    try simp only [Act.put, List.getElem_toArray, List.getElem_cons_zero, List.getElem_cons_succ, List.setIfInBounds_toArray, List.set_cons_zero, List.set_cons_succ]
    refine timed_read (i := 3) (v := ?_) 0 rfl (by kernel_rfl) (by kernel_rfl) (by kernel_rfl) (fun _ _ _ h => h) (by kernel_rfl) (by kernel_rfl) rfl (by kernel_rfl) ?_ ?_
    rotate_left
    · (intro wq hSw; (try dsimp only at hSw); have hqp := (hSw.cell (p := ⟨p, 0, none⟩) lP (by simp)).trans p0; have hqq := (hSw.cell (p := ⟨q, 0, none⟩) lQ (by simp)).trans q0; have hqr := (hSw.cell (p := ⟨r, 0, none⟩) lR (by simp)).trans r0; clear hSw; go_simp; try with_reducible rfl)
    try simp only [Act.put, List.getElem_toArray, List.getElem_cons_zero, List.getElem_cons_succ, List.setIfInBounds_toArray, List.set_cons_zero, List.set_cons_succ]
    refine timed_read (i := 4) (v := ?_) 0 rfl (by kernel_rfl) (by kernel_rfl) (by kernel_rfl) (fun _ _ _ h => h) (by kernel_rfl) (by kernel_rfl) rfl (by kernel_rfl) ?_ ?_
    rotate_left
    · (intro wq hSw; (try dsimp only at hSw); have hqp := (hSw.cell (p := ⟨p, 0, none⟩) lP (by simp)).trans p0; have hqq := (hSw.cell (p := ⟨q, 0, none⟩) lQ (by simp)).trans q0; have hqr := (hSw.cell (p := ⟨r, 0, none⟩) lR (by simp)).trans r0; clear hSw; go_simp; try with_reducible rfl)
    try simp only [Act.put, List.getElem_toArray, List.getElem_cons_zero, List.getElem_cons_succ, List.setIfInBounds_toArray, List.set_cons_zero, List.set_cons_succ]
    refine timed_step (i := 2) (by kernel_rfl) rfl (fun K hK => ?_)
    go_simp
    refine (HLab.out _).mono ?_
    rintro e wX1 ⟨rfl, OX1⟩
    refine hK.out _ _ (timed_holds (((Only.refl [] w5).drew).trans OX1) (timed_nil)) ?_
    clear hK K
    try simp only [Act.put, List.getElem_toArray, List.getElem_cons_zero, List.getElem_cons_succ, List.setIfInBounds_toArray, List.set_cons_zero, List.set_cons_succ]
    refine timed_step (i := 5) (by kernel_rfl) rfl (fun K hK => ?_)
    go_simp
    refine (HLba.out _).mono ?_
    rintro e wX2 ⟨rfl, OX2⟩
    refine hK.out _ _ (timed_holds ((((Only.refl [] w5).drew).trans OX1).trans OX2) (timed_nil)) ?_
    clear hK K
    try simp only [Act.put, List.getElem_toArray, List.getElem_cons_zero, List.getElem_cons_succ, List.setIfInBounds_toArray, List.set_cons_zero, List.set_cons_succ]
    refine timed_pure (i := 6) (v := ?_) rfl (by kernel_rfl) (by kernel_rfl) (by kernel_rfl) (fun _ _ _ h => h) (by kernel_rfl) (by kernel_rfl) ?_ ?_
    rotate_left
    · (intro w; go_simp; try with_reducible rfl)
    try simp only [Act.put, List.getElem_toArray, List.getElem_cons_zero, List.getElem_cons_succ, List.setIfInBounds_toArray, List.set_cons_zero, List.set_cons_succ]
    refine timed_pure (i := 7) (v := ?_) rfl (by kernel_rfl) (by kernel_rfl) (by kernel_rfl) (fun _ _ _ h => h) (by kernel_rfl) (by kernel_rfl) ?_ ?_
    rotate_left
    · (intro w; go_simp; try with_reducible rfl)
    try simp only [Act.put, List.getElem_toArray, List.getElem_cons_zero, List.getElem_cons_succ, List.setIfInBounds_toArray, List.set_cons_zero, List.set_cons_succ]
    refine timed_done (by kernel_rfl) ?_ _
    refine NoPanic.normal ?_
    have HX := Lib.hid (HO.out.trans ((((Only.refl [] w5).drew).trans OX1).trans OX2))
    replace bP := ((((Only.refl [] w5).drew).trans OX1).trans OX2).blk bP (by simp)
    replace bQ := ((((Only.refl [] w5).drew).trans OX1).trans OX2).blk bQ (by simp)
    replace bR := ((((Only.refl [] w5).drew).trans OX1).trans OX2).blk bR (by simp)
    clear p0 q0 r0 lP lQ lR
    have lP := bP.lt
    have lQ := bQ.lt
    have lR := bR.lt
    have p0 := bP.at_ 0
    have q0 := bQ.at_ 0
    have r0 := bR.at_ 0
    simp at p0 q0 r0
    clear OX1 OX2 HO
    rcases HM.out with ⟨e1, e2, e3, e4⟩ | ⟨e1, e2, e3⟩ | ⟨e1, e2, e3⟩
    · subst e1 e2 e3
      have hl : lbc = false ∨ lbc = true := by cases lbc <;> simp
      rcases hl with rfl | rfl
      · clear e4 HM
        go_wp2_with fail
        refine (HSab.out _).mono ?_
        rintro e wX3 ⟨rfl, OwX3⟩
        replace bP := OwX3.blk bP (by simp)
        replace bQ := OwX3.blk bQ (by simp)
        replace bR := OwX3.blk bR (by simp)
        clear p0 q0 r0 lP lQ lR
        have lP := bP.lt
        have lQ := bQ.lt
        have lR := bR.lt
        have p0 := bP.at_ 0
        have q0 := bQ.at_ 0
        have r0 := bR.at_ 0
        simp at p0 q0 r0
        have HY := Lib.hid (HX.out.trans OwX3)
        clear HX OwX3
        have HX := HY
        clear HY
        go_wp2_with fail
        refine (HLbc.out _).mono ?_
        rintro e wX4 ⟨rfl, OwX4⟩
        replace bP := OwX4.blk bP (by simp)
        replace bQ := OwX4.blk bQ (by simp)
        replace bR := OwX4.blk bR (by simp)
        clear p0 q0 r0 lP lQ lR
        have lP := bP.lt
        have lQ := bQ.lt
        have lR := bR.lt
        have p0 := bP.at_ 0
        have q0 := bQ.at_ 0
        have r0 := bR.at_ 0
        simp at p0 q0 r0
        have HY := Lib.hid (HX.out.trans OwX4)
        clear HX OwX4
        have HX := HY
        clear HY
        go_wp2
        go_ret
        exact ⟨rfl, HP.out.trans HX.out⟩
      · have e5 : lac = true := e4 rfl
        clear e4 HM
        subst e5
        go_wp2_with fail
        refine (HSab.out _).mono ?_
        rintro e wX3 ⟨rfl, OwX3⟩
        replace bP := OwX3.blk bP (by simp)
        replace bQ := OwX3.blk bQ (by simp)
        replace bR := OwX3.blk bR (by simp)
        clear p0 q0 r0 lP lQ lR
        have lP := bP.lt
        have lQ := bQ.lt
        have lR := bR.lt
        have p0 := bP.at_ 0
        have q0 := bQ.at_ 0
        have r0 := bR.at_ 0
        simp at p0 q0 r0
        have HY := Lib.hid (HX.out.trans OwX3)
        clear HX OwX3
        have HX := HY
        clear HY
        go_wp2_with fail
        refine (HLbc.out _).mono ?_
        rintro e wX4 ⟨rfl, OwX4⟩
        replace bP := OwX4.blk bP (by simp)
        replace bQ := OwX4.blk bQ (by simp)
        replace bR := OwX4.blk bR (by simp)
        clear p0 q0 r0 lP lQ lR
        have lP := bP.lt
        have lQ := bQ.lt
        have lR := bR.lt
        have p0 := bP.at_ 0
        have q0 := bQ.at_ 0
        have r0 := bR.at_ 0
        simp at p0 q0 r0
        have HY := Lib.hid (HX.out.trans OwX4)
        clear HX OwX4
        have HX := HY
        clear HY
        go_wp2_with fail
        refine (HLac.out _).mono ?_
        rintro e wX5 ⟨rfl, OwX5⟩
        replace bP := OwX5.blk bP (by simp)
        replace bQ := OwX5.blk bQ (by simp)
        replace bR := OwX5.blk bR (by simp)
        clear p0 q0 r0 lP lQ lR
        have lP := bP.lt
        have lQ := bQ.lt
        have lR := bR.lt
        have p0 := bP.at_ 0
        have q0 := bQ.at_ 0
        have r0 := bR.at_ 0
        simp at p0 q0 r0
        have HY := Lib.hid (HX.out.trans OwX5)
        clear HX OwX5
        have HX := HY
        clear HY
        go_wp2
        go_ret
        exact ⟨rfl, HP.out.trans HX.out⟩
    · subst e1 e2 e3
      clear HM
      go_wp2_with fail
      refine (HSab.out _).mono ?_
      rintro e wX3 ⟨rfl, OwX3⟩
      replace bP := OwX3.blk bP (by simp)
      replace bQ := OwX3.blk bQ (by simp)
      replace bR := OwX3.blk bR (by simp)
      clear p0 q0 r0 lP lQ lR
      have lP := bP.lt
      have lQ := bQ.lt
      have lR := bR.lt
      have p0 := bP.at_ 0
      have q0 := bQ.at_ 0
      have r0 := bR.at_ 0
      simp at p0 q0 r0
      have HY := Lib.hid (HX.out.trans OwX3)
      clear HX OwX3
      have HX := HY
      clear HY
      go_wp2
      go_ret
      exact ⟨rfl, HP.out.trans HX.out⟩
    · subst e1 e2 e3
      clear HM
      go_wp2_with fail
      refine (HSab.out _).mono ?_
      rintro e wX3 ⟨rfl, OwX3⟩
      replace bP := OwX3.blk bP (by simp)
      replace bQ := OwX3.blk bQ (by simp)
      replace bR := OwX3.blk bR (by simp)
      clear p0 q0 r0 lP lQ lR
      have lP := bP.lt
      have lQ := bQ.lt
      have lR := bR.lt
      have p0 := bP.at_ 0
      have q0 := bQ.at_ 0
      have r0 := bR.at_ 0
      simp at p0 q0 r0
      have HY := Lib.hid (HX.out.trans OwX3)
      clear HX OwX3
      have HX := HY
      clear HY
      go_wp2
      go_ret
      exact ⟨rfl, HP.out.trans HX.out⟩
  · exact ⟨undef, undef, undef, undef, undef, undef, rfl, (Only.refl [] w1).drew, (fun h => by cases h), (fun h => by cases h), (fun h => by cases h), Mk.no, Mk.no, Mk.no, (fun h => by cases h), (fun h => by cases h), (fun h => by cases h)⟩

end Go.Proofs.Ytclikdibpeiamaa
