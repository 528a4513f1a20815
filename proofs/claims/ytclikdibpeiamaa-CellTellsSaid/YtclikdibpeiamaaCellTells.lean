/- The law CellTells. -/
import Derived.Test.YtclikdibpeiamaaCellD
import Derived.Test.YtclikdibpeiamaaTimed
set_option linter.unusedVariables false
set_option linter.unusedSimpArgs false
namespace Go.Proofs.Ytclikdibpeiamaa
open Go.RowKit
attribute [local go_sem ↓] Go.wp_at_zero Go.wp_at_succ

set_option maxHeartbeats 1600000 in
theorem cellTells_walk (t n : Int) (w : World) : Calls Try.prog 3 #[.agg #[.int .i64 t, .int .i64 n]] w fun e w' => e = .returned (.bool true) ∧ Only [] w w' := by
  have hm := fun w => made_any t n w
  have hb := fun w => Back_any t n w
  have hi := fun w => Int_any t n w
  have hrb := fun w => rBack_any t n w
  have hri := fun w => rInt_any t n w
  have hmu := fun (h1 : t = 1) w => Must_any n w
  have hv : t = 1 → ifc t n = ifc 1 n := fun h => by rw [h]
  generalize ifc t n = v at *
  generalize bK t = k' at *
  generalize bN t n = n' at *
  generalize bE t = x' at *
  generalize nN t n = q at *
  generalize nE t = y at *
  have HM := Lib.hid hm
  have HB := Lib.hid hb
  have HI := Lib.hid hi
  have HRB := Lib.hid hrb
  have HRI := Lib.hid hri
  have HMU := Lib.hid hmu
  have HV := Lib.hid hv
  clear hm hb hi hrb hri hmu hv
  go_enter Try.func3, Try.ntmps3
  go_wp2_with fail
  refine (HM.out _).mono ?_
  rintro e w1 ⟨rfl, O1⟩
  go_wp2_with fail
  refine (HB.out _).mono ?_
  rintro e w2 ⟨rfl, O2⟩
  have OA := O1.trans O2
  have bA := OA.blk (made2 w 23 t n) (by simp)
  have P2 := ((Only.refl [] w).alloc (.cells #[.int .i64 t, .int .i64 n] 23)).trans OA
  have lA := bA.lt
  have c0 := bA.at_ 0
  have c1 := bA.at_ 1
  simp at c0 c1
  have HbA := Lib.hid bA
  clear bA OA O1 O2
  go_wp2_with fail
  refine (HRB.out _).mono ?_
  rintro e w3 ⟨rfl, O3⟩
  have b3 := O3.blk (made2 w2 25 k' n') (by simp)
  have bA3 := O3.blk (HbA.out.alloc (.cells #[.int .i64 k', .int .i64 n'] 25)) (by simp)
  have P3 := (P2.alloc (.cells #[.int .i64 k', .int .i64 n'] 25)).trans O3
  have l3 : w2.heap.size + 1 ≤ w3.heap.size := by have := O3.size; simpa using this
  clear c0 c1 O3 P2 HbA
  have lA3 := bA3.lt
  have c0 := bA3.at_ 0
  have c1 := bA3.at_ 1
  simp at c0 c1
  go_wp2_with fail
  refine (HM.out _).mono ?_
  rintro e w4 ⟨rfl, O4⟩
  go_wp2_with fail
  refine (HI.out _).mono ?_
  rintro e w5 ⟨rfl, O5⟩
  have O45 := O4.trans O5
  have bA5 := O45.blk (bA3.alloc (.cells #[.int .i64 k', .int .i64 n'] 25)) (by simp)
  have b35 := O45.blk (b3.alloc (.cells #[.int .i64 k', .int .i64 n'] 25)) (by simp)
  have b5 := O45.blk (made2 w3 25 k' n') (by simp)
  have P5 := (P3.alloc (.cells #[.int .i64 k', .int .i64 n'] 25)).trans O45
  have l5 : w3.heap.size + 1 ≤ w5.heap.size := by have := O45.size; simpa using this
  clear c0 c1 O4 O5 O45 bA3 b3 P3
  have lA5 := bA5.lt
  have c0 := bA5.at_ 0
  have c1 := bA5.at_ 1
  simp at c0 c1
  go_wp2_with fail
  refine (HRI.out _).mono ?_
  rintro e w6 ⟨rfl, O6⟩
  have bA6 := O6.blk bA5 (by simp)
  have b36 := O6.blk b35 (by simp)
  have b6 := O6.blk b5 (by simp)
  have HP := Lib.hid (P5.trans O6)
  have l6 : w5.heap.size ≤ w6.heap.size := O6.size
  clear c0 c1 bA5 b35 b5 P5 O6
  have lA6 := bA6.lt
  have lB6 := b36.lt
  have lC6 := b6.lt
  have c0 := bA6.at_ 0
  have c1 := bA6.at_ 1
  have d0 := b36.at_ 0
  have d1 := b36.at_ 1
  have e0 := b6.at_ 0
  have e1 := b6.at_ 1
  simp at c0 c1 d0 d1 e0 e1
  clear bA6 b36 b6
  go_wp2_with fail
  clear d0 d1 e0 e1
  by_cases h1 : t = 1
  · have h1' : (t != 1) = false := by simp [h1]
    have H1 := Lib.hid h1
    have hmu : ∀ w, Calls Try.prog 14 #[.agg #[v]] w fun e w' => e = .returned (.int .i64 n) ∧ Only [] w w' := by
      rw [HV.out h1]; exact HMU.out h1
    have HMM := Lib.hid hmu
    clear h1 hmu
    go_region_held3 (fun w' => w'.cell? ⟨w.heap.size, 0, none⟩ = some (.int .i64 t) ∧ w'.cell? ⟨w.heap.size, 1, none⟩ = some (.int .i64 n))
      (first
        | go_keep
        | (go_split_ands
           refine ⟨?_, ?_⟩
           · (first | (rw [OZ.cell (by first | (simp; done) | (simp; omega)) (by simp)]; assumption) | (rw [OY.cell (by first | (simp; done) | (simp; omega)) (by simp)]; assumption) | (rw [OX.cell (by first | (simp; done) | (simp; omega)) (by simp)]; assumption))
           · (first | (rw [OZ.cell (by first | (simp; done) | (simp; omega)) (by simp)]; assumption) | (rw [OY.cell (by first | (simp; done) | (simp; omega)) (by simp)]; assumption) | (rw [OX.cell (by first | (simp; done) | (simp; omega)) (by simp)]; assumption))))
      (first
        | (go_at_call 10; refine (HM.out _).mono ?_; rintro e wX ⟨rfl, OX⟩; have lX : w6.heap.size ≤ wX.heap.size := by (have := OX.size; simpa using this))
        | (go_at_call 14; refine (HMM.out _).mono ?_; rintro e wY ⟨rfl, OY⟩; have lY : wX.heap.size ≤ wY.heap.size := by (have := OY.size; simpa using this))
        | (go_at_call 15; refine (cworks_any _).mono ?_; rintro e wZ ⟨rfl, OZ⟩))
    go_wp2
    go_ret
    exact ⟨rfl, HP.out.drew.trans (OX.trans (OY.trans OZ))⟩
  · have h1' : (t != 1) = true := by simp [h1]
    clear h1
    refine wp_region_noPanic ?_
    refine wp_region_timed (F := [⟨[], [], fun w' => Only [] w6 w'⟩]) (by kernel_rfl) (timed_holds ((Only.refl [] w6).drew) (timed_nil)) ?_
    refine timed_pure (i := 0) (v := ?_) rfl (by kernel_rfl) (by kernel_rfl) (by kernel_rfl) (fun _ _ _ h => h) (by kernel_rfl) (by kernel_rfl) ?_ ?_
    rotate_left
    · (intro w; go_simp; try with_reducible rfl)
    try simp only [Act.put, List.getElem_toArray, List.getElem_cons_zero, List.getElem_cons_succ, List.setIfInBounds_toArray, List.set_cons_zero, List.set_cons_succ]
    refine timed_read (i := 1) (v := ?_) 0 rfl (by kernel_rfl) (by kernel_rfl) (by kernel_rfl) (fun _ _ _ h => h) (by kernel_rfl) (by kernel_rfl) rfl (by kernel_rfl) ?_ ?_
    rotate_left
    · (intro wq hSw; (try dsimp only at hSw); have hq0 := (hSw.cell (p := ⟨w.heap.size, 0, none⟩) lA6 (by simp)).trans c0; have hq1 := (hSw.cell (p := ⟨w.heap.size, 1, none⟩) lA6 (by simp)).trans c1; clear hSw; go_simp; try with_reducible rfl)
    try simp only [Act.put, List.getElem_toArray, List.getElem_cons_zero, List.getElem_cons_succ, List.setIfInBounds_toArray, List.set_cons_zero, List.set_cons_succ]
    refine timed_pure (i := 2) (v := ?_) rfl (by kernel_rfl) (by kernel_rfl) (by kernel_rfl) (fun _ _ _ h => h) (by kernel_rfl) (by kernel_rfl) ?_ ?_
    rotate_left
    · (intro w; go_simp; try with_reducible rfl)
    try simp only [Act.put, List.getElem_toArray, List.getElem_cons_zero, List.getElem_cons_succ, List.setIfInBounds_toArray, List.set_cons_zero, List.set_cons_succ]
    refine timed_pure (i := 3) (v := ?_) rfl (by kernel_rfl) (by kernel_rfl) (by kernel_rfl) (fun _ _ _ h => h) (by kernel_rfl) (by kernel_rfl) ?_ ?_
    rotate_left
    · (intro w; go_simp; try with_reducible rfl)
    try simp only [Act.put, List.getElem_toArray, List.getElem_cons_zero, List.getElem_cons_succ, List.setIfInBounds_toArray, List.set_cons_zero, List.set_cons_succ]
    refine timed_idle (i := 4) rfl (by kernel_rfl) (by kernel_rfl) (by kernel_rfl) (fun _ _ _ h => h) (by kernel_rfl) (by kernel_rfl) ?_
    try simp only [Act.put, List.getElem_toArray, List.getElem_cons_zero, List.getElem_cons_succ, List.setIfInBounds_toArray, List.set_cons_zero, List.set_cons_succ]
    refine timed_idle (i := 5) rfl (by kernel_rfl) (by kernel_rfl) (by kernel_rfl) (fun _ _ _ h => h) (by kernel_rfl) (by kernel_rfl) ?_
    try simp only [Act.put, List.getElem_toArray, List.getElem_cons_zero, List.getElem_cons_succ, List.setIfInBounds_toArray, List.set_cons_zero, List.set_cons_succ]
    refine timed_idle (i := 6) rfl (by kernel_rfl) (by kernel_rfl) (by kernel_rfl) (fun _ _ _ h => h) (by kernel_rfl) (by kernel_rfl) ?_
    try simp only [Act.put, List.getElem_toArray, List.getElem_cons_zero, List.getElem_cons_succ, List.setIfInBounds_toArray, List.set_cons_zero, List.set_cons_succ]
    refine timed_idle (i := 7) rfl (by kernel_rfl) (by kernel_rfl) (by kernel_rfl) (fun _ _ _ h => h) (by kernel_rfl) (by kernel_rfl) ?_
    try simp only [Act.put, List.getElem_toArray, List.getElem_cons_zero, List.getElem_cons_succ, List.setIfInBounds_toArray, List.set_cons_zero, List.set_cons_succ]
    refine timed_idle (i := 8) rfl (by kernel_rfl) (by kernel_rfl) (by kernel_rfl) (fun _ _ _ h => h) (by kernel_rfl) (by kernel_rfl) ?_
    try simp only [Act.put, List.getElem_toArray, List.getElem_cons_zero, List.getElem_cons_succ, List.setIfInBounds_toArray, List.set_cons_zero, List.set_cons_succ]
    refine timed_idle (i := 9) rfl (by kernel_rfl) (by kernel_rfl) (by kernel_rfl) (fun _ _ _ h => h) (by kernel_rfl) (by kernel_rfl) ?_
    try simp only [Act.put, List.getElem_toArray, List.getElem_cons_zero, List.getElem_cons_succ, List.setIfInBounds_toArray, List.set_cons_zero, List.set_cons_succ]
    refine timed_pure (i := 10) (v := ?_) rfl (by kernel_rfl) (by kernel_rfl) (by kernel_rfl) (fun _ _ _ h => h) (by kernel_rfl) (by kernel_rfl) ?_ ?_
    rotate_left
    · (intro w; go_simp; try with_reducible rfl)
    try simp only [Act.put, List.getElem_toArray, List.getElem_cons_zero, List.getElem_cons_succ, List.setIfInBounds_toArray, List.set_cons_zero, List.set_cons_succ]
    refine timed_pure (i := 11) (v := ?_) rfl (by kernel_rfl) (by kernel_rfl) (by kernel_rfl) (fun _ _ _ h => h) (by kernel_rfl) (by kernel_rfl) ?_ ?_
    rotate_left
    · (intro w; go_simp; try with_reducible rfl)
    try simp only [Act.put, List.getElem_toArray, List.getElem_cons_zero, List.getElem_cons_succ, List.setIfInBounds_toArray, List.set_cons_zero, List.set_cons_succ]
    refine timed_step (i := 12) (by kernel_rfl) rfl (fun K hK => ?_)
    go_simp
    refine (cworks_any _).mono ?_
    rintro e wZ ⟨rfl, OZ⟩
    refine hK.out _ _ (timed_holds (((Only.refl [] w6).drew).trans OZ) (timed_nil)) ?_
    clear hK K
    try simp only [Act.put, List.getElem_toArray, List.getElem_cons_zero, List.getElem_cons_succ, List.setIfInBounds_toArray, List.set_cons_zero, List.set_cons_succ]
    refine timed_pure (i := 13) (v := ?_) rfl (by kernel_rfl) (by kernel_rfl) (by kernel_rfl) (fun _ _ _ h => h) (by kernel_rfl) (by kernel_rfl) ?_ ?_
    rotate_left
    · (intro w; go_simp; try with_reducible rfl)
    try simp only [Act.put, List.getElem_toArray, List.getElem_cons_zero, List.getElem_cons_succ, List.setIfInBounds_toArray, List.set_cons_zero, List.set_cons_succ]
    refine timed_pure (i := 14) (v := ?_) rfl (by kernel_rfl) (by kernel_rfl) (by kernel_rfl) (fun _ _ _ h => h) (by kernel_rfl) (by kernel_rfl) ?_ ?_
    rotate_left
    · (intro w; go_simp; try with_reducible rfl)
    try simp only [Act.put, List.getElem_toArray, List.getElem_cons_zero, List.getElem_cons_succ, List.setIfInBounds_toArray, List.set_cons_zero, List.set_cons_succ]
    refine timed_done (by kernel_rfl) ?_ _
    refine NoPanic.normal ?_
    go_wp2
    go_ret
    exact ⟨rfl, HP.out.trans (((Only.refl [] w6).drew).trans OZ)⟩

end Go.Proofs.Ytclikdibpeiamaa
