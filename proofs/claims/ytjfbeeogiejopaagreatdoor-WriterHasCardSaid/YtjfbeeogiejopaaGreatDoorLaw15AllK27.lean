/- value.Less and value.compare, with the world to the draw. -/
import Derived.Test.YtjfbeeogiejopaaGreatDoorLaw15AllK26
import Derived.Test.YtjfbeeogiejopaaGreatDoorLaw15AllK8
set_option linter.unusedVariables false
set_option linter.unusedSimpArgs false
namespace Go.Proofs.YtjfbeeogiejopaaGreatDoor
open Go.RowKit
theorem cless_of (k n k' n' : Int) (w : World) : Calls Tryz.prog 137 #[.agg #[ifc (oT k) n], .agg #[ifc (oT k') n']] w fun e w' => e = .returned (.bool (lessBV (cK k) (cN k n) (cK k') (cN k' n'))) ∧ ExV w w' := by
 have h := Less_any (oT k) n (oT k') n' w
 obtain ⟨e1, e2, e3⟩ := of_words k n
 obtain ⟨f1, f2, f3⟩ := of_words k' n'
 rw [e1, e2, e3, f1, f2, f3] at h
 simpa using h
/-- Which one of two values is ahead. -/
def lessV (a b : Int × Int) : Bool := mayB a.1 a.2 && mayB b.1 b.2 && lessBV (cK a.1) (cN a.1 a.2) (cK b.1) (cN b.1 b.2)
def cmpV (a b : Int × Int) : Int := if lessV a b = true then -1 else if lessV b a = true then 1 else 0
set_option maxHeartbeats 1600000 in
theorem vless_ex (a b : Int × Int) (w : World) : Calls Tryz.prog 113 #[.agg #[.int .i64 a.1, .int .i64 a.2], .agg #[.int .i64 b.1, .int .i64 b.2]] w fun e w' => e = .returned (.bool (lessV a b)) ∧ ExV w w' := by
 obtain ⟨k, n⟩ := a
 obtain ⟨k', n'⟩ := b
 have hma := fun w => may_anyV k n w
 have hmb := fun w => may_anyV k' n' w
 have hoa := fun w => Of_any k n w
 have hob := fun w => Of_any k' n' w
 have hl := fun w => cless_of k n k' n' w
 have hr : lessV (k, n) (k', n') = (mayB k n && mayB k' n' && lessBV (cK k) (cN k n) (cK k') (cN k' n')) := rfl
 rw [hr]
 clear hr
 dsimp only
 generalize mayB k n = va at *
 generalize mayB k' n' = vb at *
 generalize lessBV (cK k) (cN k n) (cK k') (cN k' n') = lb at *
 generalize ifc (oT k) n = ca at *
 generalize ifc (oT k') n' = cb at *
 have HMA := Lib.hid hma
 have HMB := Lib.hid hmb
 have HOA := Lib.hid hoa
 have HOB := Lib.hid hob
 have HL := Lib.hid hl
 clear hma hmb hoa hob hl
 go_enter Tryz.func113, Tryz.ntmps113
 go_wp2_with fail
 have bA := (made2 w 38 k n).alloc (.cells #[.int .i64 k', .int .i64 n'] 38)
 have bB := made2 (w.alloc (.cells #[.int .i64 k, .int .i64 n] 38)) 38 k' n'
 simp only [World.size_alloc] at bB
 have HP := Lib.hid (((ExV.refl w).alloc (.cells #[.int .i64 k, .int .i64 n] 38)).alloc (.cells #[.int .i64 k', .int .i64 n'] 38))
 generalize (w.alloc (.cells #[.int .i64 k, .int .i64 n] 38)).alloc (.cells #[.int .i64 k', .int .i64 n'] 38) = w1 at *
 have lA := bA.lt
 have lB := bB.lt
 have a0 := bA.at_ 0
 have a1 := bA.at_ 1
 have b0 := bB.at_ 0
 have b1 := bB.at_ 1
 simp at a0 a1 b0 b1
 clear bA bB
 cases va with
 | false =>
  refine wp_region_noPanic ?_
  refine wp_region_timed (F := [⟨[], [], fun w' => ExV w1 w'⟩]) (by kernel_rfl) (timed_holds ((ExV.refl w1).drew) (timed_nil)) ?_
  refine trd (i := 0) (v := ?_) 0 ?_ ?_
  rotate_left
  ·(intro wq hSw; (try dsimp only at hSw); have hqa0 := (hSw.only.cell (p := ⟨w.heap.size, 0, none⟩) lA (by simp)).trans a0; have hqa1 := (hSw.only.cell (p := ⟨w.heap.size, 1, none⟩) lA (by simp)).trans a1; have hqb0 := (hSw.only.cell (p := ⟨w.heap.size + 1, 0, none⟩) lB (by simp)).trans b0; have hqb1 := (hSw.only.cell (p := ⟨w.heap.size + 1, 1, none⟩) lB (by simp)).trans b1; clear hSw; go_simp; try with_reducible rfl)
  try simp only [Act.put, tdy]
  refine timed_step (i := 1) (by kernel_rfl) rfl (fun K hK => ?_)
  go_simp
  refine (HMA.out _).mono ?_
  rintro e wX1 ⟨rfl, OX1⟩
  refine hK.out _ _ (timed_holds (((ExV.refl w1).drew).trans OX1) (timed_nil)) ?_
  clear hK K
  try simp only [Act.put, tdy]
  refine tpu (i := 2) (v := ?_) ?_ ?_
  rotate_left
  ·(intro w; go_simp; try with_reducible rfl)
  try simp only [Act.put, tdy]
  refine tid (i := 3) ?_
  try simp only [Act.put, tdy]
  refine tid (i := 4) ?_
  try simp only [Act.put, tdy]
  refine tpu (i := 5) (v := ?_) ?_ ?_
  rotate_left
  ·(intro w; go_simp; try with_reducible rfl)
  try simp only [Act.put, tdy]
  refine tpu (i := 6) (v := ?_) ?_ ?_
  rotate_left
  ·(intro w; go_simp; try with_reducible rfl)
  try simp only [Act.put, tdy]
  refine tid (i := 7) ?_
  try simp only [Act.put, tdy]
  refine tid (i := 8) ?_
  try simp only [Act.put, tdy]
  refine tid (i := 9) ?_
  try simp only [Act.put, tdy]
  refine tid (i := 10) ?_
  try simp only [Act.put, tdy]
  refine tid (i := 11) ?_
  try simp only [Act.put, tdy]
  refine tpu (i := 12) (v := ?_) ?_ ?_
  rotate_left
  ·(intro w; go_simp; try with_reducible rfl)
  try simp only [Act.put, tdy]
  refine tpu (i := 13) (v := ?_) ?_ ?_
  rotate_left
  ·(intro w; go_simp; try with_reducible rfl)
  try simp only [Act.put, tdy]
  refine timed_done (by kernel_rfl) ?_ _
  refine NoPanic.normal ?_
  go_wp2
  go_ret
  exact ⟨rfl, HP.out.trans (((ExV.refl w1).drew).trans OX1)⟩
 | true =>
  cases vb with
  | false =>
   refine wp_region_noPanic ?_
   refine wp_region_timed (F := [⟨[], [], fun w' => ExV w1 w'⟩]) (by kernel_rfl) (timed_holds ((ExV.refl w1).drew) (timed_nil)) ?_
   refine trd (i := 0) (v := ?_) 0 ?_ ?_
   rotate_left
   ·(intro wq hSw; (try dsimp only at hSw); have hqa0 := (hSw.only.cell (p := ⟨w.heap.size, 0, none⟩) lA (by simp)).trans a0; have hqa1 := (hSw.only.cell (p := ⟨w.heap.size, 1, none⟩) lA (by simp)).trans a1; have hqb0 := (hSw.only.cell (p := ⟨w.heap.size + 1, 0, none⟩) lB (by simp)).trans b0; have hqb1 := (hSw.only.cell (p := ⟨w.heap.size + 1, 1, none⟩) lB (by simp)).trans b1; clear hSw; go_simp; try with_reducible rfl)
   try simp only [Act.put, tdy]
   refine timed_step (i := 1) (by kernel_rfl) rfl (fun K hK => ?_)
   go_simp
   refine (HMA.out _).mono ?_
   rintro e wX1 ⟨rfl, OX1⟩
   refine hK.out _ _ (timed_holds (((ExV.refl w1).drew).trans OX1) (timed_nil)) ?_
   clear hK K
   try simp only [Act.put, tdy]
   refine tpu (i := 2) (v := ?_) ?_ ?_
   rotate_left
   ·(intro w; go_simp; try with_reducible rfl)
   try simp only [Act.put, tdy]
   refine trd (i := 3) (v := ?_) 0 ?_ ?_
   rotate_left
   ·(intro wq hSw; (try dsimp only at hSw); have hqa0 := (hSw.only.cell (p := ⟨w.heap.size, 0, none⟩) lA (by simp)).trans a0; have hqa1 := (hSw.only.cell (p := ⟨w.heap.size, 1, none⟩) lA (by simp)).trans a1; have hqb0 := (hSw.only.cell (p := ⟨w.heap.size + 1, 0, none⟩) lB (by simp)).trans b0; have hqb1 := (hSw.only.cell (p := ⟨w.heap.size + 1, 1, none⟩) lB (by simp)).trans b1; clear hSw; go_simp; try with_reducible rfl)
   try simp only [Act.put, tdy]
   refine timed_step (i := 4) (by kernel_rfl) rfl (fun K hK => ?_)
   go_simp
   refine (HMB.out _).mono ?_
   rintro e wX2 ⟨rfl, OX2⟩
   refine hK.out _ _ (timed_holds ((((ExV.refl w1).drew).trans OX1).trans OX2) (timed_nil)) ?_
   clear hK K
   try simp only [Act.put, tdy]
   refine tpu (i := 5) (v := ?_) ?_ ?_
   rotate_left
   ·(intro w; go_simp; try with_reducible rfl)
   try simp only [Act.put, tdy]
   refine tpu (i := 6) (v := ?_) ?_ ?_
   rotate_left
   ·(intro w; go_simp; try with_reducible rfl)
   try simp only [Act.put, tdy]
   refine tid (i := 7) ?_
   try simp only [Act.put, tdy]
   refine tid (i := 8) ?_
   try simp only [Act.put, tdy]
   refine tid (i := 9) ?_
   try simp only [Act.put, tdy]
   refine tid (i := 10) ?_
   try simp only [Act.put, tdy]
   refine tid (i := 11) ?_
   try simp only [Act.put, tdy]
   refine tpu (i := 12) (v := ?_) ?_ ?_
   rotate_left
   ·(intro w; go_simp; try with_reducible rfl)
   try simp only [Act.put, tdy]
   refine tpu (i := 13) (v := ?_) ?_ ?_
   rotate_left
   ·(intro w; go_simp; try with_reducible rfl)
   try simp only [Act.put, tdy]
   refine timed_done (by kernel_rfl) ?_ _
   refine NoPanic.normal ?_
   go_wp2
   go_ret
   exact ⟨rfl, HP.out.trans ((((ExV.refl w1).drew).trans OX1).trans OX2)⟩
  | true =>
   refine wp_region_noPanic ?_
   refine wp_region_timed (F := [⟨[], [], fun w' => ExV w1 w'⟩]) (by kernel_rfl) (timed_holds ((ExV.refl w1).drew) (timed_nil)) ?_
   refine trd (i := 0) (v := ?_) 0 ?_ ?_
   rotate_left
   ·(intro wq hSw; (try dsimp only at hSw); have hqa0 := (hSw.only.cell (p := ⟨w.heap.size, 0, none⟩) lA (by simp)).trans a0; have hqa1 := (hSw.only.cell (p := ⟨w.heap.size, 1, none⟩) lA (by simp)).trans a1; have hqb0 := (hSw.only.cell (p := ⟨w.heap.size + 1, 0, none⟩) lB (by simp)).trans b0; have hqb1 := (hSw.only.cell (p := ⟨w.heap.size + 1, 1, none⟩) lB (by simp)).trans b1; clear hSw; go_simp; try with_reducible rfl)
   try simp only [Act.put, tdy]
   refine timed_step (i := 1) (by kernel_rfl) rfl (fun K hK => ?_)
   go_simp
   refine (HMA.out _).mono ?_
   rintro e wX1 ⟨rfl, OX1⟩
   refine hK.out _ _ (timed_holds (((ExV.refl w1).drew).trans OX1) (timed_nil)) ?_
   clear hK K
   try simp only [Act.put, tdy]
   refine tpu (i := 2) (v := ?_) ?_ ?_
   rotate_left
   ·(intro w; go_simp; try with_reducible rfl)
   try simp only [Act.put, tdy]
   refine trd (i := 3) (v := ?_) 0 ?_ ?_
   rotate_left
   ·(intro wq hSw; (try dsimp only at hSw); have hqa0 := (hSw.only.cell (p := ⟨w.heap.size, 0, none⟩) lA (by simp)).trans a0; have hqa1 := (hSw.only.cell (p := ⟨w.heap.size, 1, none⟩) lA (by simp)).trans a1; have hqb0 := (hSw.only.cell (p := ⟨w.heap.size + 1, 0, none⟩) lB (by simp)).trans b0; have hqb1 := (hSw.only.cell (p := ⟨w.heap.size + 1, 1, none⟩) lB (by simp)).trans b1; clear hSw; go_simp; try with_reducible rfl)
   try simp only [Act.put, tdy]
   refine timed_step (i := 4) (by kernel_rfl) rfl (fun K hK => ?_)
   go_simp
   refine (HMB.out _).mono ?_
   rintro e wX2 ⟨rfl, OX2⟩
   refine hK.out _ _ (timed_holds ((((ExV.refl w1).drew).trans OX1).trans OX2) (timed_nil)) ?_
   clear hK K
   try simp only [Act.put, tdy]
   refine tpu (i := 5) (v := ?_) ?_ ?_
   rotate_left
   ·(intro w; go_simp; try with_reducible rfl)
   try simp only [Act.put, tdy]
   refine tpu (i := 6) (v := ?_) ?_ ?_
   rotate_left
   ·(intro w; go_simp; try with_reducible rfl)
   try simp only [Act.put, tdy]
   refine trd (i := 7) (v := ?_) 0 ?_ ?_
   rotate_left
   ·(intro wq hSw; (try dsimp only at hSw); have hqa0 := (hSw.only.cell (p := ⟨w.heap.size, 0, none⟩) lA (by simp)).trans a0; have hqa1 := (hSw.only.cell (p := ⟨w.heap.size, 1, none⟩) lA (by simp)).trans a1; have hqb0 := (hSw.only.cell (p := ⟨w.heap.size + 1, 0, none⟩) lB (by simp)).trans b0; have hqb1 := (hSw.only.cell (p := ⟨w.heap.size + 1, 1, none⟩) lB (by simp)).trans b1; clear hSw; go_simp; try with_reducible rfl)
   try simp only [Act.put, tdy]
   refine trd (i := 9) (v := ?_) 0 ?_ ?_
   rotate_left
   ·(intro wq hSw; (try dsimp only at hSw); have hqa0 := (hSw.only.cell (p := ⟨w.heap.size, 0, none⟩) lA (by simp)).trans a0; have hqa1 := (hSw.only.cell (p := ⟨w.heap.size, 1, none⟩) lA (by simp)).trans a1; have hqb0 := (hSw.only.cell (p := ⟨w.heap.size + 1, 0, none⟩) lB (by simp)).trans b0; have hqb1 := (hSw.only.cell (p := ⟨w.heap.size + 1, 1, none⟩) lB (by simp)).trans b1; clear hSw; go_simp; try with_reducible rfl)
   try simp only [Act.put, tdy]
   refine timed_step (i := 8) (by kernel_rfl) rfl (fun K hK => ?_)
   go_simp
   refine (HOA.out _).mono ?_
   rintro e wX3 ⟨rfl, OX3⟩
   refine hK.out _ _ (timed_holds (((((ExV.refl w1).drew).trans OX1).trans OX2).trans OX3) (timed_nil)) ?_
   clear hK K
   try simp only [Act.put, tdy]
   refine timed_step (i := 10) (by kernel_rfl) rfl (fun K hK => ?_)
   go_simp
   refine (HOB.out _).mono ?_
   rintro e wX4 ⟨rfl, OX4⟩
   refine hK.out _ _ (timed_holds ((((((ExV.refl w1).drew).trans OX1).trans OX2).trans OX3).trans OX4) (timed_nil)) ?_
   clear hK K
   try simp only [Act.put, tdy]
   refine timed_step (i := 11) (by kernel_rfl) rfl (fun K hK => ?_)
   go_simp
   refine (HL.out _).mono ?_
   rintro e wX5 ⟨rfl, OX5⟩
   refine hK.out _ _ (timed_holds (((((((ExV.refl w1).drew).trans OX1).trans OX2).trans OX3).trans OX4).trans OX5) (timed_nil)) ?_
   clear hK K
   try simp only [Act.put, tdy]
   refine tpu (i := 12) (v := ?_) ?_ ?_
   rotate_left
   ·(intro w; go_simp; try with_reducible rfl)
   try simp only [Act.put, tdy]
   refine tpu (i := 13) (v := ?_) ?_ ?_
   rotate_left
   ·(intro w; go_simp; try with_reducible rfl)
   try simp only [Act.put, tdy]
   refine timed_done (by kernel_rfl) ?_ _
   refine NoPanic.normal ?_
   go_wp2
   go_ret
   exact ⟨rfl, HP.out.trans (((((((ExV.refl w1).drew).trans OX1).trans OX2).trans OX3).trans OX4).trans OX5)⟩
set_option maxHeartbeats 1600000 in
theorem vcompare_ex (a b : Int × Int) (w : World) : Calls Tryz.prog 96 #[.agg #[.int .i64 a.1, .int .i64 a.2], .agg #[.int .i64 b.1, .int .i64 b.2]] w fun e w' => e = .returned (.int .i64 (cmpV a b)) ∧ ExV w w' := by
 have h1 := fun w => vless_ex a b w
 have h2 := fun w => vless_ex b a w
 unfold cmpV
 generalize lessV a b = x at *
 generalize lessV b a = y at *
 obtain ⟨k, n⟩ := a
 obtain ⟨k', n'⟩ := b
 dsimp only at *
 have H1 := Lib.hid h1
 have H2 := Lib.hid h2
 clear h1 h2
 go_enter Tryz.func96, Tryz.ntmps96
 go_wp2_with fail
 refine (H1.out _).mono ?_
 rintro e w2 ⟨rfl, O2⟩
 have bA := O2.blk ((made2 w 38 k n).alloc (.cells #[.int .i64 k', .int .i64 n'] 38)) (by simp)
 have bB := O2.blk (made2 (w.alloc (.cells #[.int .i64 k, .int .i64 n] 38)) 38 k' n') (by simp)
 simp only [World.size_alloc] at bB
 have HP := Lib.hid ((((ExV.refl w).alloc (.cells #[.int .i64 k, .int .i64 n] 38)).alloc (.cells #[.int .i64 k', .int .i64 n'] 38)).trans O2)
 have lA := bA.lt
 have lB := bB.lt
 have a0 := bA.at_ 0
 have a1 := bA.at_ 1
 have b0 := bB.at_ 0
 have b1 := bB.at_ 1
 simp at a0 a1 b0 b1
 clear bA bB O2
 cases x with
 | true =>
  go_wp2
  go_ret
  exact ⟨rfl, HP.out⟩
 | false =>
  go_wp2_with fail
  refine (H2.out _).mono ?_
  rintro e w3 ⟨rfl, O3⟩
  have HQ := Lib.hid (HP.out.trans O3)
  clear O3 a0 a1 b0 b1 lA lB
  cases y with
  | true =>
   go_wp2
   go_ret
   exact ⟨rfl, HQ.out⟩
  | false =>
   go_wp2
   go_ret
   exact ⟨rfl, HQ.out⟩
end Go.Proofs.YtjfbeeogiejopaaGreatDoor
