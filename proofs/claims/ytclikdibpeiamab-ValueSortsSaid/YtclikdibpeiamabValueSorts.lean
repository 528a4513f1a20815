/- The law ValueSorts: its walk. -/
import Derived.Test.YtclikdibpeiamabRVSorted
import Derived.Test.YtclikdibpeiamabVSortedW
import Derived.Test.YtclikdibpeiamabVWorksW
import Derived.Test.YtclikdibpeiamabRVLess
set_option linter.unusedVariables false
set_option linter.unusedSimpArgs false
namespace Go.Proofs.Ytclikdibpeiamab
open Go.RowKit

attribute [local go_sem ↓] Go.wp_at_zero Go.wp_at_succ

theorem vown_add0 {A : Option Addr} {c : Nat} : (if c = 0 then A else A.map (·.add (0 * 2))) = A := by
  split
  · rfl
  · cases A with
    | none => rfl
    | some a => simp [Addr.add]
theorem vslice_to (A : Option Addr) (len c m : Nat) (hm : m ≤ c) (W : World) : (Instr.slice 22 (.slice A len c) none (some (.int .i64 (m : Int))) none).run Try.prog W = .ok (.slice A m c) W := by
  rw [run_slice_h (P := Try.prog) W 22 A len c (by kernel_rfl) .i64 (m : Int) (by omega) (by omega)]
  have hs : (sizeOf (Try.prog.elem 22)).run Try.prog W = .ok 2 W := by kernel_rfl
  rw [hs]
  simp only [Result.andThen, sliced, Int.toNat_natCast, Nat.sub_zero]
  rw [vown_add0]

theorem sortV_len (l : List (Int × Int)) : (sortV l).length ≤ l.length := by
  have : ∀ (l out : List (Int × Int)), (l.foldl insV out).length ≤ out.length + l.length := by
    intro l
    induction l with
    | nil => intro out; exact Nat.le_refl _
    | cons x l ih =>
      intro out
      rw [List.foldl_cons]
      have h1 := ih (insV out x)
      have h2 : (insV out x).length ≤ out.length + 1 := by
        unfold insV
        split
        · split
          · omega
          · rw [List.length_append, List.length_cons, List.length_take, List.length_drop]
            omega
        · omega
      simp only [List.length_cons]
      omega
  have := this l []
  simpa [sortV] using this

/-- What is known behind the first append. -/
theorem vsorts_made {w w3 : World} {x y p q : Int} {m B : Nat} {xs : List Value} {v3 : Value} (hB : B = w.heap.size + 1 + 1)
    (hown : w3.ownsRow w.heap.size 24 2 v3 (0 + m) ([] ++ xs))
    (hg : (((w.alloc (.cells #[.int .i64 x, .int .i64 y] 24)).alloc (.cells #[.int .i64 p, .int .i64 q] 24)).alloc (.cells #[] 24)).grownBy w3 (Value.slice (some ⟨B, 0, none⟩) 0 0).ownBlock) :
    ∃ A3 c3, v3 = .slice A3 m c3 ∧ m ≤ c3 ∧ Only [] w w3 ∧ Blk w3 w.heap.size 24 #[.int .i64 x, .int .i64 y] ∧ Blk w3 (w.heap.size + 1) 24 #[.int .i64 p, .int .i64 q] ∧ Row w3 w3.heap.size A3 xs := by
  subst hB
  obtain ⟨A3, c3, rfl, hc31, hc32, -, hrow3⟩ := own_row hown
  rw [Nat.zero_add, List.nil_append] at *
  have bA := ((made2 w 24 x y).alloc (.cells #[.int .i64 p, .int .i64 q] 24)).alloc (.cells #[] 24)
  have bB := (made2 (w.alloc (.cells #[.int .i64 x, .int .i64 y] 24)) 24 p q).alloc (.cells #[] 24)
  have hO0 := (((Only.refl [] w).alloc (.cells #[.int .i64 x, .int .i64 y] 24)).alloc (.cells #[.int .i64 p, .int .i64 q] 24)).alloc (.cells #[] 24)
  refine ⟨A3, c3, rfl, hc31, hO0.step (only_grown hg) (fun j hj hl => by simp [Value.ownBlock] at hj; omega), (only_grown hg).blk bA (by simp [Value.ownBlock]; omega), ?_, hrow3⟩
  have := (only_grown hg).blk bB (by simp [Value.ownBlock])
  simpa using this

attribute [-go_sem] Go.run_slice_l Go.run_slice_h Go.run_slice_any Go.run_slice_lh in
set_option maxRecDepth 10000 in
set_option maxHeartbeats 8000000 in
theorem valueSorts_walk (A : Option Addr) (n c : Nat) (zs : List (Int × Int)) (a b : Int × Int) (w : World) (hn : zs.length = n) (hc : n ≤ c) (hcm : c ≤ maxLen) (hA : Row w w.heap.size A (edgeC zs)) :
    Calls Try.prog 3 #[.slice A n c, .agg #[.int .i64 a.1, .int .i64 a.2], .agg #[.int .i64 b.1, .int .i64 b.2]] w fun e w' => e = .returned (.bool true) ∧ Only [] w w' := by
  obtain ⟨i0, hi, hz0, hz1, hz2⟩ := info_parts vinfo
  have HW := Lib.hid (fun (w' : World) => vworks_any w')
  have HLE := Lib.hid (fun w' => vless_ex a b w')
  have HRL := Lib.hid (fun w' => rvless_any a b w')
  obtain ⟨x, y⟩ := a
  obtain ⟨p, q⟩ := b
  dsimp only at HLE HRL
  generalize lessV (x, y) (p, q) = lv at *
  have HZ : ∀ j, j = min n 50 → Hid (∃ xs : List (Int × Int), xs.length = j ∧ Row w w.heap.size A (edgeC xs)) := fun j hj => Lib.hid ⟨zs.take j, by rw [List.length_take]; omega, by rw [edgeC_take]; exact hA.take _⟩
  have hmm : n ≤ 9223372036854775807 ∧ c ≤ 9223372036854775807 := by unfold maxLen at hcm; omega
  obtain ⟨hmn, hmc⟩ := hmm
  clear hA hn hcm
  obtain ⟨m, hm, hmin⟩ : ∃ m, m = min n 50 ∧ ((n ≤ 50 ∧ m = n) ∨ (50 < n ∧ m = 50)) := ⟨min n 50, rfl, by omega⟩
  obtain ⟨xs, hxl, hrow⟩ := (HZ m hm).out
  have hm50 : m ≤ 50 := by omega
  have hmc2 : m ≤ c := by omega
  clear HZ hm
  have HROW := Lib.hid hrow
  have hsrt := sortV_len xs
  have HJ := Lib.hid (fun A' c' B' w' hA' => vsorted_any A' m c' B' xs w' hxl (by omega) hA')
  have HRJ := Lib.hid (fun A' c' B' w' hA' => rvsorted_any A' m c' B' xs w' hxl (by omega) hA')
  have HST := Lib.hid (fun A A' n c d w' B B' hA hA' hn hnm => sameList_eq A A' n c d (sortV xs) w' B B' hA hA' hn hnm)
  have hsm : (sortV xs).length ≤ 9223372036854775807 := by omega
  have HSM := Lib.hid hsm
  have HSX : Hid ((edgeC xs).length = m * 2) := Lib.hid (by rw [edgeC_len, hxl])
  clear hsrt hsm hrow hxl
  have bA := made2 w 24 x y
  have bB := made2 (w.alloc (.cells #[.int .i64 x, .int .i64 y] 24)) 24 p q
  replace bA := bA.alloc (.cells #[.int .i64 p, .int .i64 q] 24)
  have HB0 := Lib.hid (And.intro bA bB)
  have HO0 := Lib.hid (((Only.refl [] w).alloc (.cells #[.int .i64 x, .int .i64 y] 24)).alloc (.cells #[.int .i64 p, .int .i64 q] 24))
  clear bA bB
  go_enter Try.func3, Try.ntmps3
  have HSL : Hid ((n ≤ 50 ∧ ∀ W, (Instr.slice 22 (.slice A n c) none (some (.int .i64 (n : Int))) none).run Try.prog W = .ok (.slice A m c) W) ∨ (50 < n ∧ ∀ W, (Instr.slice 22 (.slice A n c) none (some (.int .i64 50)) none).run Try.prog W = .ok (.slice A m c) W)) := Lib.hid (by
    rcases hmin with ⟨h1, e⟩ | ⟨h1, e⟩
    · exact .inl ⟨h1, fun W => by rw [e]; exact vslice_to A n c n (by omega) W⟩
    · exact .inr ⟨h1, fun W => by rw [e]; exact vslice_to A n c 50 (by omega) W⟩)
  have hslm : ∀ W, (Instr.slice 22 (.slice A n c) none (some (.int .i64 (min (n : Int) 50))) none).run Try.prog W = .ok (.slice A m c) W := fun W => by
    rw [show min (n : Int) 50 = (m : Int) by omega]
    exact vslice_to A n c m hmc2 W
  clear hmin hmc2
  rcases HSL.out with ⟨h1, hsl⟩ | ⟨h1, hsl⟩
  all_goals
    clear HSL
    go_wp2_with (
      at_builtin
      refine wpList_append_row _ rfl (.tmp 7) (.tmp 12) _ rfl w.heap.size 24 i0 _ 2 16 Try.underlying22 hi hz0 hz1 hz2 rfl (by omega) _ 0 [] rfl (by have h := World.ownsRow_lit (e := 24) (size := 2) _ #[] 0 HO0.out.size (by unfold maxLen; omega) rfl; simp only [World.size_alloc] at h; exact h) w.heap.size A _ c (edgeC xs) (by rfl) HSX.out (HROW.out.only (HO0.out.alloc _) (by simp)) (one_edgeC _) (by unfold maxLen; omega) (by omega) (by rw [World.size_alloc]; have := HO0.out.size; omega) ?_
      intro v3 w3 hown3 hgrow hat
      obtain ⟨A3, c3, rfl, hc3, h31, h32, h33, h34⟩ := vsorts_made rfl hown3 hgrow
      have HR3 := Lib.hid h34
      have HB3 := Lib.hid (And.intro h32 h33)
      have HO3 := Lib.hid h31
      have HMADE := Lib.hid (World.ownsRow_lit (e := 24) (size := 2) w3 #[] 0 (Nat.le_refl _) (by unfold maxLen; omega) rfl)
      clear hown3 hgrow hat h31 h32 h33 h34)
    have hwsz := HO3.out.size
    clear hsl hslm
    refine wp_region_noPanic ?_
    refine wp_region_timed (F := [⟨[], [], fun w' => Only [] w3 w'⟩]) (by kernel_rfl) (timed_holds ((Only.refl [] w3).drew) (timed_nil)) ?_
    refine timed_pure (i := 1) (v := ?_) rfl (by kernel_rfl) (by kernel_rfl) (by kernel_rfl) (fun _ _ _ h => h) (by kernel_rfl) (by kernel_rfl) ?_ ?_
    rotate_left
    · (intro w; go_simp; try with_reducible rfl)
    try simp only [Act.put, List.getElem_toArray, List.getElem_cons_zero, List.getElem_cons_succ, List.setIfInBounds_toArray, List.set_cons_zero, List.set_cons_succ]
    refine timed_pure (i := 4) (v := ?_) rfl (by kernel_rfl) (by kernel_rfl) (by kernel_rfl) (fun _ _ _ h => h) (by kernel_rfl) (by kernel_rfl) ?_ ?_
    rotate_left
    · (intro w; go_simp; try with_reducible rfl)
    try simp only [Act.put, List.getElem_toArray, List.getElem_cons_zero, List.getElem_cons_succ, List.setIfInBounds_toArray, List.set_cons_zero, List.set_cons_succ]
    refine timed_step (i := 0) (by kernel_rfl) rfl (fun K hK => ?_)
    go_simp
    refine hK.out _ _ (timed_holds (((Only.refl [] w3).drew).alloc _) (timed_nil)) ?_
    clear hK K
    try simp only [Act.put, List.getElem_toArray, List.getElem_cons_zero, List.getElem_cons_succ, List.setIfInBounds_toArray, List.set_cons_zero, List.set_cons_succ]
    refine timed_step (i := 2) (by kernel_rfl) rfl (fun K hK => ?_)
    refine step_append_row _ rfl (.tmp 14) (.tmp 15) 22 rfl w3.heap.size 24 i0 _ 2 16 Try.underlying22 hi hz0 hz1 hz2 rfl (by omega) _ 0 [] (by rfl) (own_only HMADE.out ((Only.refl [] _).drew) (by simp)) w3.heap.size A3 m c3 (edgeC xs) (by rfl) HSX.out (HR3.out.only (((Only.refl [] w3).alloc _).drew) (by simp)) (one_edgeC _) (by unfold maxLen; omega) (by omega) (by have := ((Only.refl [] w3).alloc (.cells #[] 24)).drew.size; omega) ?_
    intro v4 w4 hown4 hgrow hat
    have h4 : Only [] w3 w4 := (((Only.refl [] w3).alloc (.cells #[] 24)).drew).step (only_grown hgrow) (fun j hj hl => by simp [Value.ownBlock] at hj; omega)
    obtain ⟨A4, c4, rfl, hc41, hc42, -, hrow4⟩ := own_row hown4
    rw [Nat.zero_add, List.nil_append] at *
    have HO4 := Lib.hid h4
    have HR4 := Lib.hid (row_up hrow4)
    clear hown4 hgrow hat hrow4 h4
    refine hK.out _ _ (timed_holds (HO4.out) (timed_nil)) ?_
    clear hK K
    try simp only [Act.put, List.getElem_toArray, List.getElem_cons_zero, List.getElem_cons_succ, List.setIfInBounds_toArray, List.set_cons_zero, List.set_cons_succ]
    refine timed_step (i := 3) (by kernel_rfl) rfl (fun K hK => ?_)
    go_simp
    refine (HJ.out A4 c4 _ _ HR4.out).mono ?_
    rintro e w5 ⟨hO5, A5, m5, c5, rfl, rfl, hrow5⟩
    have HO5 := Lib.hid (HO4.out.trans hO5)
    have HR5 := Lib.hid hrow5
    clear hO5 hrow5
    refine hK.out _ _ (timed_holds (HO5.out) (timed_nil)) ?_
    clear hK K
    try simp only [Act.put, List.getElem_toArray, List.getElem_cons_zero, List.getElem_cons_succ, List.setIfInBounds_toArray, List.set_cons_zero, List.set_cons_succ]
    refine timed_step (i := 5) (by kernel_rfl) rfl (fun K hK => ?_)
    go_simp
    refine (HRJ.out A3 c3 _ _ (HR3.out.only HO5.out (by simp))).mono ?_
    rintro e w6 ⟨hO6, V6, rfl, hown6⟩
    have HO6 := Lib.hid (HO5.out.trans hO6)
    have HR56 := Lib.hid (HR5.out.only hO6 (by simp))
    obtain ⟨A6, c6, rfl, -, -, -, hrow6⟩ := own_row hown6
    have HST6 := Lib.hid (HST.out A5 A6 _ c5 c6 w6 _ _ HR56.out hrow6 rfl HSM.out)
    clear hO6 hown6 hrow6
    refine hK.out _ _ (timed_holds (HO6.out) (timed_nil)) ?_
    clear hK K
    try simp only [Act.put, List.getElem_toArray, List.getElem_cons_zero, List.getElem_cons_succ, List.setIfInBounds_toArray, List.set_cons_zero, List.set_cons_succ]
    refine timed_step (i := 6) (by kernel_rfl) rfl (fun K hK => ?_)
    go_simp
    refine (HST6.out).mono ?_
    rintro e w7 ⟨rfl, q7, rfl⟩
    refine hK.out _ _ (timed_holds (HO6.out.drewN q7) (timed_nil)) ?_
    clear hK K
    try simp only [Act.put, List.getElem_toArray, List.getElem_cons_zero, List.getElem_cons_succ, List.setIfInBounds_toArray, List.set_cons_zero, List.set_cons_succ]
    refine timed_pure (i := 7) (v := ?_) rfl (by kernel_rfl) (by kernel_rfl) (by kernel_rfl) (fun _ _ _ h => h) (by kernel_rfl) (by kernel_rfl) ?_ ?_
    rotate_left
    · (intro w; go_simp; try with_reducible rfl)
    try simp only [Act.put, List.getElem_toArray, List.getElem_cons_zero, List.getElem_cons_succ, List.setIfInBounds_toArray, List.set_cons_zero, List.set_cons_succ]
    refine timed_read (i := 8) (v := ?_) 0 rfl (by kernel_rfl) (by kernel_rfl) (by kernel_rfl) (fun _ _ _ h => h) (by kernel_rfl) (by kernel_rfl) rfl (by kernel_rfl) ?_ ?_
    rotate_left
    · (intro wq hSw; (try dsimp only at hSw); have hx0 := (hSw.blk HB3.out.1 (by simp)).at_ 0; have hx1 := (hSw.blk HB3.out.1 (by simp)).at_ 1; have hy0 := (hSw.blk HB3.out.2 (by simp)).at_ 0; have hy1 := (hSw.blk HB3.out.2 (by simp)).at_ 1; simp at hx0 hx1 hy0 hy1; clear hSw; go_simp; try with_reducible rfl)
    try simp only [Act.put, List.getElem_toArray, List.getElem_cons_zero, List.getElem_cons_succ, List.setIfInBounds_toArray, List.set_cons_zero, List.set_cons_succ]
    refine timed_read (i := 9) (v := ?_) 0 rfl (by kernel_rfl) (by kernel_rfl) (by kernel_rfl) (fun _ _ _ h => h) (by kernel_rfl) (by kernel_rfl) rfl (by kernel_rfl) ?_ ?_
    rotate_left
    · (intro wq hSw; (try dsimp only at hSw); have hx0 := (hSw.blk HB3.out.1 (by simp)).at_ 0; have hx1 := (hSw.blk HB3.out.1 (by simp)).at_ 1; have hy0 := (hSw.blk HB3.out.2 (by simp)).at_ 0; have hy1 := (hSw.blk HB3.out.2 (by simp)).at_ 1; simp at hx0 hx1 hy0 hy1; clear hSw; go_simp; try with_reducible rfl)
    try simp only [Act.put, List.getElem_toArray, List.getElem_cons_zero, List.getElem_cons_succ, List.setIfInBounds_toArray, List.set_cons_zero, List.set_cons_succ]
    refine timed_read (i := 11) (v := ?_) 0 rfl (by kernel_rfl) (by kernel_rfl) (by kernel_rfl) (fun _ _ _ h => h) (by kernel_rfl) (by kernel_rfl) rfl (by kernel_rfl) ?_ ?_
    rotate_left
    · (intro wq hSw; (try dsimp only at hSw); have hx0 := (hSw.blk HB3.out.1 (by simp)).at_ 0; have hx1 := (hSw.blk HB3.out.1 (by simp)).at_ 1; have hy0 := (hSw.blk HB3.out.2 (by simp)).at_ 0; have hy1 := (hSw.blk HB3.out.2 (by simp)).at_ 1; simp at hx0 hx1 hy0 hy1; clear hSw; go_simp; try with_reducible rfl)
    try simp only [Act.put, List.getElem_toArray, List.getElem_cons_zero, List.getElem_cons_succ, List.setIfInBounds_toArray, List.set_cons_zero, List.set_cons_succ]
    refine timed_read (i := 12) (v := ?_) 0 rfl (by kernel_rfl) (by kernel_rfl) (by kernel_rfl) (fun _ _ _ h => h) (by kernel_rfl) (by kernel_rfl) rfl (by kernel_rfl) ?_ ?_
    rotate_left
    · (intro wq hSw; (try dsimp only at hSw); have hx0 := (hSw.blk HB3.out.1 (by simp)).at_ 0; have hx1 := (hSw.blk HB3.out.1 (by simp)).at_ 1; have hy0 := (hSw.blk HB3.out.2 (by simp)).at_ 0; have hy1 := (hSw.blk HB3.out.2 (by simp)).at_ 1; simp at hx0 hx1 hy0 hy1; clear hSw; go_simp; try with_reducible rfl)
    try simp only [Act.put, List.getElem_toArray, List.getElem_cons_zero, List.getElem_cons_succ, List.setIfInBounds_toArray, List.set_cons_zero, List.set_cons_succ]
    refine timed_step (i := 10) (by kernel_rfl) rfl (fun K hK => ?_)
    go_simp
    refine (HLE.out _).mono ?_
    rintro e w8 ⟨rfl, O8⟩
    have HO8 := Lib.hid ((HO6.out.drewN q7).trans O8.only)
    clear O8
    refine hK.out _ _ (timed_holds (HO8.out) (timed_nil)) ?_
    clear hK K
    try simp only [Act.put, List.getElem_toArray, List.getElem_cons_zero, List.getElem_cons_succ, List.setIfInBounds_toArray, List.set_cons_zero, List.set_cons_succ]
    refine timed_step (i := 13) (by kernel_rfl) rfl (fun K hK => ?_)
    go_simp
    refine (HRL.out _).mono ?_
    rintro e w9 ⟨rfl, O9⟩
    have HO9 := Lib.hid (HO8.out.trans O9)
    clear O9
    refine hK.out _ _ (timed_holds (HO9.out) (timed_nil)) ?_
    clear hK K
    try simp only [Act.put, List.getElem_toArray, List.getElem_cons_zero, List.getElem_cons_succ, List.setIfInBounds_toArray, List.set_cons_zero, List.set_cons_succ]
    refine timed_pure (i := 14) (v := ?_) rfl (by kernel_rfl) (by kernel_rfl) (by kernel_rfl) (fun _ _ _ h => h) (by kernel_rfl) (by kernel_rfl) ?_ ?_
    rotate_left
    · (intro w; go_simp; try with_reducible rfl)
    try simp only [Act.put, List.getElem_toArray, List.getElem_cons_zero, List.getElem_cons_succ, List.setIfInBounds_toArray, List.set_cons_zero, List.set_cons_succ]
    refine timed_pure (i := 15) (v := ?_) rfl (by kernel_rfl) (by kernel_rfl) (by kernel_rfl) (fun _ _ _ h => h) (by kernel_rfl) (by kernel_rfl) ?_ ?_
    rotate_left
    · (intro w; go_simp; try with_reducible rfl)
    try simp only [Act.put, List.getElem_toArray, List.getElem_cons_zero, List.getElem_cons_succ, List.setIfInBounds_toArray, List.set_cons_zero, List.set_cons_succ]
    refine timed_pure (i := 16) (v := ?_) rfl (by kernel_rfl) (by kernel_rfl) (by kernel_rfl) (fun _ _ _ h => h) (by kernel_rfl) (by kernel_rfl) ?_ ?_
    rotate_left
    · (intro w; go_simp; try with_reducible rfl)
    try simp only [Act.put, List.getElem_toArray, List.getElem_cons_zero, List.getElem_cons_succ, List.setIfInBounds_toArray, List.set_cons_zero, List.set_cons_succ]
    refine timed_step (i := 17) (by kernel_rfl) rfl (fun K hK => ?_)
    go_simp
    refine (HW.out _).mono ?_
    rintro e w10 ⟨rfl, O10⟩
    have HF := Lib.hid (HO9.out.trans O10)
    clear O10
    refine hK.out _ _ (timed_holds (HF.out) (timed_nil)) ?_
    clear hK K
    try simp only [Act.put, List.getElem_toArray, List.getElem_cons_zero, List.getElem_cons_succ, List.setIfInBounds_toArray, List.set_cons_zero, List.set_cons_succ]
    refine timed_pure (i := 18) (v := ?_) rfl (by kernel_rfl) (by kernel_rfl) (by kernel_rfl) (fun _ _ _ h => h) (by kernel_rfl) (by kernel_rfl) ?_ ?_
    rotate_left
    · (intro w; go_simp; try with_reducible rfl)
    try simp only [Act.put, List.getElem_toArray, List.getElem_cons_zero, List.getElem_cons_succ, List.setIfInBounds_toArray, List.set_cons_zero, List.set_cons_succ]
    refine timed_pure (i := 19) (v := ?_) rfl (by kernel_rfl) (by kernel_rfl) (by kernel_rfl) (fun _ _ _ h => h) (by kernel_rfl) (by kernel_rfl) ?_ ?_
    rotate_left
    · (intro w; go_simp; try with_reducible rfl)
    try simp only [Act.put, List.getElem_toArray, List.getElem_cons_zero, List.getElem_cons_succ, List.setIfInBounds_toArray, List.set_cons_zero, List.set_cons_succ]
    refine timed_done (by kernel_rfl) ?_ _
    refine NoPanic.normal ?_
    go_wp2
    go_ret
    exact ⟨rfl, HO3.out.trans HF.out⟩

end Go.Proofs.Ytclikdibpeiamab
