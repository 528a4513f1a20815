/- The law CellOrders. -/
import Derived.Test.YtclikdibpeiamaaCellD
import Derived.Test.YtclikdibpeiamaaTimed
set_option linter.unusedVariables false
set_option linter.unusedSimpArgs false
namespace Go.Proofs.Ytclikdibpeiamaa
open Go.RowKit
attribute [local go_sem ↓] Go.wp_at_zero Go.wp_at_succ

set_option maxHeartbeats 3200000 in
theorem cellOrders_A1 (t n t' n' : Int) (w : World) (hf : ¬ bE t = 0) : Calls Try.prog 5 #[.agg #[.int .i64 t, .int .i64 n], .agg #[.int .i64 t', .int .i64 n']] w fun e w' => e = .returned (.bool true) ∧ Only [] w w' := by
  have hm := fun w => made_any t n w
  have hm' := fun w => made_any t' n' w
  have hs := fun w => Same_any t n t' n' w
  have hl := fun w => Less_any t n t' n' w
  have hrb := fun w => rBack_any t n w
  have hrb' := fun w => rBack_any t' n' w
  have hr := fun w => rLess_any (bK t) (bN t n) (bK t') (bN t' n') w
  generalize ifc t n = v at *
  generalize ifc t' n' = v' at *
  generalize bK t = k at *
  generalize bN t n = m at *
  generalize bE t = x at *
  generalize bK t' = k' at *
  generalize bN t' n' = m' at *
  generalize bE t' = x' at *
  have hff : ¬ (x = 0 ∧ x' = 0) := fun h => hf h.1
  have e1 : sameB x x' k m k' m' = false := by unfold sameB; simp; intro a b; exact absurd ⟨a, b⟩ hff
  have e2 : (decide (x = 0) && decide (x' = 0) && lessB k m k' m') = false := by simp; intro a b; exact absurd ⟨a, b⟩ hff
  rw [e1] at hs
  rw [e2] at hl
  have hx : (x == 0) = false := by simp [hf]
  clear e1 e2 hf hff
  have HM := Lib.hid hm
  have HM' := Lib.hid hm'
  have HS := Lib.hid hs
  have HL := Lib.hid hl
  have HRB := Lib.hid hrb
  have HRB' := Lib.hid hrb'
  have HR := Lib.hid hr
  clear hm hm' hs hl hrb hrb' hr
  go_enter Try.func5, Try.ntmps5
  go_wp2_with fail
  refine (HRB.out _).mono ?_
  rintro e w1 ⟨rfl, O1⟩
  have bT := O1.blk ((made2 w 23 t n).alloc (.cells #[.int .i64 t', .int .i64 n'] 23)) (by simp)
  have bU := O1.blk (made2 (w.alloc (.cells #[.int .i64 t, .int .i64 n] 23)) 23 t' n') (by simp)
  simp only [World.size_alloc] at bU
  have P1 := (((Only.refl [] w).alloc (.cells #[.int .i64 t, .int .i64 n] 23)).alloc (.cells #[.int .i64 t', .int .i64 n'] 23)).trans O1
  have lU := bU.lt
  have lT := bT.lt
  have u0 := bU.at_ 0
  have u1 := bU.at_ 1
  simp at u0 u1
  clear O1
  go_wp2_with fail
  refine (HRB'.out _).mono ?_
  rintro e w2 ⟨rfl, O2⟩
  have bT2 := O2.blk (bT.alloc (.cells #[.int .i64 k, .int .i64 m] 25)) (by simp)
  have bU2 := O2.blk (bU.alloc (.cells #[.int .i64 k, .int .i64 m] 25)) (by simp)
  have bK2 := O2.blk (made2 w1 25 k m) (by simp)
  have P2 := (P1.alloc (.cells #[.int .i64 k, .int .i64 m] 25)).trans O2
  clear O2 P1 bT bU u0 u1 lU lT
  have lT2 := bT2.lt
  have lU2 := bU2.lt
  have lK2 := bK2.lt
  go_wp2_with fail
  have bT3 := bT2.alloc (.cells #[.int .i64 k', .int .i64 m'] 25)
  have bU3 := bU2.alloc (.cells #[.int .i64 k', .int .i64 m'] 25)
  have bK3 := bK2.alloc (.cells #[.int .i64 k', .int .i64 m'] 25)
  have bJ3 := made2 w2 25 k' m'
  have P3 := P2.alloc (.cells #[.int .i64 k', .int .i64 m'] 25)
  clear bT2 bU2 bK2 P2 lT2 lU2 lK2
  generalize w2.alloc (.cells #[.int .i64 k', .int .i64 m'] 25) = w3 at *
  have lT3 := bT3.lt
  have lU3 := bU3.lt
  have lK3 := bK3.lt
  have lJ3 := bJ3.lt
  have t0 := bT3.at_ 0
  have t1 := bT3.at_ 1
  have u0 := bU3.at_ 0
  have u1 := bU3.at_ 1
  have k0 := bK3.at_ 0
  have k1 := bK3.at_ 1
  have j0 := bJ3.at_ 0
  have j1 := bJ3.at_ 1
  simp at t0 t1 u0 u1 k0 k1 j0 j1
  have HP := Lib.hid P3
  clear bT3 bU3 bK3 bJ3 P3
  refine wp_region_noPanic ?_
  refine wp_region_timed (F := [⟨[], [], fun w' => Only [] w3 w'⟩]) (by kernel_rfl) (timed_holds ((Only.refl [] w3).drew) (timed_nil)) ?_
  refine timed_read (i := 0) (v := ?_) 0 rfl (by kernel_rfl) (by kernel_rfl) (by kernel_rfl) (fun _ _ _ h => h) (by kernel_rfl) (by kernel_rfl) rfl (by kernel_rfl) ?_ ?_
  rotate_left
  · (intro wq hSw; (try dsimp only at hSw); have hqt0 := (hSw.cell (p := ⟨w.heap.size, 0, none⟩) lT3 (by simp)).trans t0; have hqt1 := (hSw.cell (p := ⟨w.heap.size, 1, none⟩) lT3 (by simp)).trans t1; have hqu0 := (hSw.cell (p := ⟨w.heap.size + 1, 0, none⟩) lU3 (by simp)).trans u0; have hqu1 := (hSw.cell (p := ⟨w.heap.size + 1, 1, none⟩) lU3 (by simp)).trans u1; have hqk0 := (hSw.cell (p := ⟨w1.heap.size, 0, none⟩) lK3 (by simp)).trans k0; have hqk1 := (hSw.cell (p := ⟨w1.heap.size, 1, none⟩) lK3 (by simp)).trans k1; have hqj0 := (hSw.cell (p := ⟨w2.heap.size, 0, none⟩) lJ3 (by simp)).trans j0; have hqj1 := (hSw.cell (p := ⟨w2.heap.size, 1, none⟩) lJ3 (by simp)).trans j1; clear hSw; go_simp; try with_reducible rfl)
  try simp only [Act.put, List.getElem_toArray, List.getElem_cons_zero, List.getElem_cons_succ, List.setIfInBounds_toArray, List.set_cons_zero, List.set_cons_succ]
  refine timed_read (i := 2) (v := ?_) 0 rfl (by kernel_rfl) (by kernel_rfl) (by kernel_rfl) (fun _ _ _ h => h) (by kernel_rfl) (by kernel_rfl) rfl (by kernel_rfl) ?_ ?_
  rotate_left
  · (intro wq hSw; (try dsimp only at hSw); have hqt0 := (hSw.cell (p := ⟨w.heap.size, 0, none⟩) lT3 (by simp)).trans t0; have hqt1 := (hSw.cell (p := ⟨w.heap.size, 1, none⟩) lT3 (by simp)).trans t1; have hqu0 := (hSw.cell (p := ⟨w.heap.size + 1, 0, none⟩) lU3 (by simp)).trans u0; have hqu1 := (hSw.cell (p := ⟨w.heap.size + 1, 1, none⟩) lU3 (by simp)).trans u1; have hqk0 := (hSw.cell (p := ⟨w1.heap.size, 0, none⟩) lK3 (by simp)).trans k0; have hqk1 := (hSw.cell (p := ⟨w1.heap.size, 1, none⟩) lK3 (by simp)).trans k1; have hqj0 := (hSw.cell (p := ⟨w2.heap.size, 0, none⟩) lJ3 (by simp)).trans j0; have hqj1 := (hSw.cell (p := ⟨w2.heap.size, 1, none⟩) lJ3 (by simp)).trans j1; clear hSw; go_simp; try with_reducible rfl)
  try simp only [Act.put, List.getElem_toArray, List.getElem_cons_zero, List.getElem_cons_succ, List.setIfInBounds_toArray, List.set_cons_zero, List.set_cons_succ]
  refine timed_pure (i := 5) (v := ?_) rfl (by kernel_rfl) (by kernel_rfl) (by kernel_rfl) (fun _ _ _ h => h) (by kernel_rfl) (by kernel_rfl) ?_ ?_
  rotate_left
  · (intro w; go_simp; try with_reducible rfl)
  try simp only [Act.put, List.getElem_toArray, List.getElem_cons_zero, List.getElem_cons_succ, List.setIfInBounds_toArray, List.set_cons_zero, List.set_cons_succ]
  refine timed_step (i := 1) (by kernel_rfl) rfl (fun K hK => ?_)
  go_simp
  refine (HM.out _).mono ?_
  rintro e wX1 ⟨rfl, OX1⟩
  refine hK.out _ _ (timed_holds (((Only.refl [] w3).drew).trans OX1) (timed_nil)) ?_
  clear hK K
  try simp only [Act.put, List.getElem_toArray, List.getElem_cons_zero, List.getElem_cons_succ, List.setIfInBounds_toArray, List.set_cons_zero, List.set_cons_succ]
  refine timed_step (i := 3) (by kernel_rfl) rfl (fun K hK => ?_)
  go_simp
  refine (HM'.out _).mono ?_
  rintro e wX2 ⟨rfl, OX2⟩
  refine hK.out _ _ (timed_holds ((((Only.refl [] w3).drew).trans OX1).trans OX2) (timed_nil)) ?_
  clear hK K
  try simp only [Act.put, List.getElem_toArray, List.getElem_cons_zero, List.getElem_cons_succ, List.setIfInBounds_toArray, List.set_cons_zero, List.set_cons_succ]
  refine timed_step (i := 4) (by kernel_rfl) rfl (fun K hK => ?_)
  go_simp
  refine (HS.out _).mono ?_
  rintro e wX3 ⟨rfl, OX3⟩
  refine hK.out _ _ (timed_holds (((((Only.refl [] w3).drew).trans OX1).trans OX2).trans OX3) (timed_nil)) ?_
  clear hK K
  try simp only [Act.put, List.getElem_toArray, List.getElem_cons_zero, List.getElem_cons_succ, List.setIfInBounds_toArray, List.set_cons_zero, List.set_cons_succ]
  refine timed_pure (i := 6) (v := ?_) rfl (by kernel_rfl) (by kernel_rfl) (by kernel_rfl) (fun _ _ _ h => h) (by kernel_rfl) (by kernel_rfl) ?_ ?_
  rotate_left
  · (intro w; go_simp; try with_reducible rfl)
  try simp only [Act.put, List.getElem_toArray, List.getElem_cons_zero, List.getElem_cons_succ, List.setIfInBounds_toArray, List.set_cons_zero, List.set_cons_succ]
  refine timed_idle (i := 7) rfl (by kernel_rfl) (by kernel_rfl) (by kernel_rfl) (fun _ _ _ h => h) (by kernel_rfl) (by kernel_rfl) ?_
  try simp only [Act.put, List.getElem_toArray, List.getElem_cons_zero, List.getElem_cons_succ, List.setIfInBounds_toArray, List.set_cons_zero, List.set_cons_succ]
  refine timed_idle (i := 8) rfl (by kernel_rfl) (by kernel_rfl) (by kernel_rfl) (fun _ _ _ h => h) (by kernel_rfl) (by kernel_rfl) ?_
  try simp only [Act.put, List.getElem_toArray, List.getElem_cons_zero, List.getElem_cons_succ, List.setIfInBounds_toArray, List.set_cons_zero, List.set_cons_succ]
  refine timed_idle (i := 9) rfl (by kernel_rfl) (by kernel_rfl) (by kernel_rfl) (fun _ _ _ h => h) (by kernel_rfl) (by kernel_rfl) ?_
  try simp only [Act.put, List.getElem_toArray, List.getElem_cons_zero, List.getElem_cons_succ, List.setIfInBounds_toArray, List.set_cons_zero, List.set_cons_succ]
  refine timed_pure (i := 10) (v := ?_) rfl (by kernel_rfl) (by kernel_rfl) (by kernel_rfl) (fun _ _ _ h => h) (by kernel_rfl) (by kernel_rfl) ?_ ?_
  rotate_left
  · (intro w; go_simp; try with_reducible rfl)
  try simp only [Act.put, List.getElem_toArray, List.getElem_cons_zero, List.getElem_cons_succ, List.setIfInBounds_toArray, List.set_cons_zero, List.set_cons_succ]
  refine timed_pure (i := 11) (v := ?_) rfl (by kernel_rfl) (by kernel_rfl) (by kernel_rfl) (fun _ _ _ h => h) (by kernel_rfl) (by kernel_rfl) ?_ ?_
  rotate_left
  · (intro w; go_simp; try with_reducible rfl)
  try simp only [Act.put, List.getElem_toArray, List.getElem_cons_zero, List.getElem_cons_succ, List.setIfInBounds_toArray, List.set_cons_zero, List.set_cons_succ]
  refine timed_pure (i := 12) (v := ?_) rfl (by kernel_rfl) (by kernel_rfl) (by kernel_rfl) (fun _ _ _ h => h) (by kernel_rfl) (by kernel_rfl) ?_ ?_
  rotate_left
  · (intro w; go_simp; try with_reducible rfl)
  try simp only [Act.put, List.getElem_toArray, List.getElem_cons_zero, List.getElem_cons_succ, List.setIfInBounds_toArray, List.set_cons_zero, List.set_cons_succ]
  refine timed_read (i := 13) (v := ?_) 0 rfl (by kernel_rfl) (by kernel_rfl) (by kernel_rfl) (fun _ _ _ h => h) (by kernel_rfl) (by kernel_rfl) rfl (by kernel_rfl) ?_ ?_
  rotate_left
  · (intro wq hSw; (try dsimp only at hSw); have hqt0 := (hSw.cell (p := ⟨w.heap.size, 0, none⟩) lT3 (by simp)).trans t0; have hqt1 := (hSw.cell (p := ⟨w.heap.size, 1, none⟩) lT3 (by simp)).trans t1; have hqu0 := (hSw.cell (p := ⟨w.heap.size + 1, 0, none⟩) lU3 (by simp)).trans u0; have hqu1 := (hSw.cell (p := ⟨w.heap.size + 1, 1, none⟩) lU3 (by simp)).trans u1; have hqk0 := (hSw.cell (p := ⟨w1.heap.size, 0, none⟩) lK3 (by simp)).trans k0; have hqk1 := (hSw.cell (p := ⟨w1.heap.size, 1, none⟩) lK3 (by simp)).trans k1; have hqj0 := (hSw.cell (p := ⟨w2.heap.size, 0, none⟩) lJ3 (by simp)).trans j0; have hqj1 := (hSw.cell (p := ⟨w2.heap.size, 1, none⟩) lJ3 (by simp)).trans j1; clear hSw; go_simp; try with_reducible rfl)
  try simp only [Act.put, List.getElem_toArray, List.getElem_cons_zero, List.getElem_cons_succ, List.setIfInBounds_toArray, List.set_cons_zero, List.set_cons_succ]
  refine timed_read (i := 15) (v := ?_) 0 rfl (by kernel_rfl) (by kernel_rfl) (by kernel_rfl) (fun _ _ _ h => h) (by kernel_rfl) (by kernel_rfl) rfl (by kernel_rfl) ?_ ?_
  rotate_left
  · (intro wq hSw; (try dsimp only at hSw); have hqt0 := (hSw.cell (p := ⟨w.heap.size, 0, none⟩) lT3 (by simp)).trans t0; have hqt1 := (hSw.cell (p := ⟨w.heap.size, 1, none⟩) lT3 (by simp)).trans t1; have hqu0 := (hSw.cell (p := ⟨w.heap.size + 1, 0, none⟩) lU3 (by simp)).trans u0; have hqu1 := (hSw.cell (p := ⟨w.heap.size + 1, 1, none⟩) lU3 (by simp)).trans u1; have hqk0 := (hSw.cell (p := ⟨w1.heap.size, 0, none⟩) lK3 (by simp)).trans k0; have hqk1 := (hSw.cell (p := ⟨w1.heap.size, 1, none⟩) lK3 (by simp)).trans k1; have hqj0 := (hSw.cell (p := ⟨w2.heap.size, 0, none⟩) lJ3 (by simp)).trans j0; have hqj1 := (hSw.cell (p := ⟨w2.heap.size, 1, none⟩) lJ3 (by simp)).trans j1; clear hSw; go_simp; try with_reducible rfl)
  try simp only [Act.put, List.getElem_toArray, List.getElem_cons_zero, List.getElem_cons_succ, List.setIfInBounds_toArray, List.set_cons_zero, List.set_cons_succ]
  refine timed_pure (i := 18) (v := ?_) rfl (by kernel_rfl) (by kernel_rfl) (by kernel_rfl) (fun _ _ _ h => h) (by kernel_rfl) (by kernel_rfl) ?_ ?_
  rotate_left
  · (intro w; go_simp; try with_reducible rfl)
  try simp only [Act.put, List.getElem_toArray, List.getElem_cons_zero, List.getElem_cons_succ, List.setIfInBounds_toArray, List.set_cons_zero, List.set_cons_succ]
  refine timed_step (i := 14) (by kernel_rfl) rfl (fun K hK => ?_)
  go_simp
  refine (HM.out _).mono ?_
  rintro e wX4 ⟨rfl, OX4⟩
  refine hK.out _ _ (timed_holds ((((((Only.refl [] w3).drew).trans OX1).trans OX2).trans OX3).trans OX4) (timed_nil)) ?_
  clear hK K
  try simp only [Act.put, List.getElem_toArray, List.getElem_cons_zero, List.getElem_cons_succ, List.setIfInBounds_toArray, List.set_cons_zero, List.set_cons_succ]
  refine timed_step (i := 16) (by kernel_rfl) rfl (fun K hK => ?_)
  go_simp
  refine (HM'.out _).mono ?_
  rintro e wX5 ⟨rfl, OX5⟩
  refine hK.out _ _ (timed_holds (((((((Only.refl [] w3).drew).trans OX1).trans OX2).trans OX3).trans OX4).trans OX5) (timed_nil)) ?_
  clear hK K
  try simp only [Act.put, List.getElem_toArray, List.getElem_cons_zero, List.getElem_cons_succ, List.setIfInBounds_toArray, List.set_cons_zero, List.set_cons_succ]
  refine timed_step (i := 17) (by kernel_rfl) rfl (fun K hK => ?_)
  go_simp
  refine (HL.out _).mono ?_
  rintro e wX6 ⟨rfl, OX6⟩
  refine hK.out _ _ (timed_holds ((((((((Only.refl [] w3).drew).trans OX1).trans OX2).trans OX3).trans OX4).trans OX5).trans OX6) (timed_nil)) ?_
  clear hK K
  try simp only [Act.put, List.getElem_toArray, List.getElem_cons_zero, List.getElem_cons_succ, List.setIfInBounds_toArray, List.set_cons_zero, List.set_cons_succ]
  refine timed_pure (i := 19) (v := ?_) rfl (by kernel_rfl) (by kernel_rfl) (by kernel_rfl) (fun _ _ _ h => h) (by kernel_rfl) (by kernel_rfl) ?_ ?_
  rotate_left
  · (intro w; go_simp; try with_reducible rfl)
  try simp only [Act.put, List.getElem_toArray, List.getElem_cons_zero, List.getElem_cons_succ, List.setIfInBounds_toArray, List.set_cons_zero, List.set_cons_succ]
  refine timed_idle (i := 20) rfl (by kernel_rfl) (by kernel_rfl) (by kernel_rfl) (fun _ _ _ h => h) (by kernel_rfl) (by kernel_rfl) ?_
  try simp only [Act.put, List.getElem_toArray, List.getElem_cons_zero, List.getElem_cons_succ, List.setIfInBounds_toArray, List.set_cons_zero, List.set_cons_succ]
  refine timed_idle (i := 21) rfl (by kernel_rfl) (by kernel_rfl) (by kernel_rfl) (fun _ _ _ h => h) (by kernel_rfl) (by kernel_rfl) ?_
  try simp only [Act.put, List.getElem_toArray, List.getElem_cons_zero, List.getElem_cons_succ, List.setIfInBounds_toArray, List.set_cons_zero, List.set_cons_succ]
  refine timed_idle (i := 22) rfl (by kernel_rfl) (by kernel_rfl) (by kernel_rfl) (fun _ _ _ h => h) (by kernel_rfl) (by kernel_rfl) ?_
  try simp only [Act.put, List.getElem_toArray, List.getElem_cons_zero, List.getElem_cons_succ, List.setIfInBounds_toArray, List.set_cons_zero, List.set_cons_succ]
  refine timed_pure (i := 23) (v := ?_) rfl (by kernel_rfl) (by kernel_rfl) (by kernel_rfl) (fun _ _ _ h => h) (by kernel_rfl) (by kernel_rfl) ?_ ?_
  rotate_left
  · (intro w; go_simp; try with_reducible rfl)
  try simp only [Act.put, List.getElem_toArray, List.getElem_cons_zero, List.getElem_cons_succ, List.setIfInBounds_toArray, List.set_cons_zero, List.set_cons_succ]
  refine timed_pure (i := 24) (v := ?_) rfl (by kernel_rfl) (by kernel_rfl) (by kernel_rfl) (fun _ _ _ h => h) (by kernel_rfl) (by kernel_rfl) ?_ ?_
  rotate_left
  · (intro w; go_simp; try with_reducible rfl)
  try simp only [Act.put, List.getElem_toArray, List.getElem_cons_zero, List.getElem_cons_succ, List.setIfInBounds_toArray, List.set_cons_zero, List.set_cons_succ]
  refine timed_pure (i := 25) (v := ?_) rfl (by kernel_rfl) (by kernel_rfl) (by kernel_rfl) (fun _ _ _ h => h) (by kernel_rfl) (by kernel_rfl) ?_ ?_
  rotate_left
  · (intro w; go_simp; try with_reducible rfl)
  try simp only [Act.put, List.getElem_toArray, List.getElem_cons_zero, List.getElem_cons_succ, List.setIfInBounds_toArray, List.set_cons_zero, List.set_cons_succ]
  refine timed_pure (i := 26) (v := ?_) rfl (by kernel_rfl) (by kernel_rfl) (by kernel_rfl) (fun _ _ _ h => h) (by kernel_rfl) (by kernel_rfl) ?_ ?_
  rotate_left
  · (intro w; go_simp; try with_reducible rfl)
  try simp only [Act.put, List.getElem_toArray, List.getElem_cons_zero, List.getElem_cons_succ, List.setIfInBounds_toArray, List.set_cons_zero, List.set_cons_succ]
  refine timed_step (i := 27) (by kernel_rfl) rfl (fun K hK => ?_)
  go_simp
  refine (cworks_any _).mono ?_
  rintro e wZ ⟨rfl, OZ⟩
  refine hK.out _ _ (timed_holds (((((((((Only.refl [] w3).drew).trans OX1).trans OX2).trans OX3).trans OX4).trans OX5).trans OX6).trans OZ) (timed_nil)) ?_
  clear hK K
  try simp only [Act.put, List.getElem_toArray, List.getElem_cons_zero, List.getElem_cons_succ, List.setIfInBounds_toArray, List.set_cons_zero, List.set_cons_succ]
  refine timed_pure (i := 28) (v := ?_) rfl (by kernel_rfl) (by kernel_rfl) (by kernel_rfl) (fun _ _ _ h => h) (by kernel_rfl) (by kernel_rfl) ?_ ?_
  rotate_left
  · (intro w; go_simp; try with_reducible rfl)
  try simp only [Act.put, List.getElem_toArray, List.getElem_cons_zero, List.getElem_cons_succ, List.setIfInBounds_toArray, List.set_cons_zero, List.set_cons_succ]
  refine timed_pure (i := 29) (v := ?_) rfl (by kernel_rfl) (by kernel_rfl) (by kernel_rfl) (fun _ _ _ h => h) (by kernel_rfl) (by kernel_rfl) ?_ ?_
  rotate_left
  · (intro w; go_simp; try with_reducible rfl)
  try simp only [Act.put, List.getElem_toArray, List.getElem_cons_zero, List.getElem_cons_succ, List.setIfInBounds_toArray, List.set_cons_zero, List.set_cons_succ]
  refine timed_done (by kernel_rfl) ?_ _
  refine NoPanic.normal ?_
  go_wp2
  go_ret
  exact ⟨rfl, HP.out.trans (((((((((Only.refl [] w3).drew).trans OX1).trans OX2).trans OX3).trans OX4).trans OX5).trans OX6).trans OZ)⟩

set_option maxHeartbeats 3200000 in
theorem cellOrders_A2 (t n t' n' : Int) (w : World) (hg : bE t = 0) (hf : ¬ bE t' = 0) : Calls Try.prog 5 #[.agg #[.int .i64 t, .int .i64 n], .agg #[.int .i64 t', .int .i64 n']] w fun e w' => e = .returned (.bool true) ∧ Only [] w w' := by
  have hm := fun w => made_any t n w
  have hm' := fun w => made_any t' n' w
  have hs := fun w => Same_any t n t' n' w
  have hl := fun w => Less_any t n t' n' w
  have hrb := fun w => rBack_any t n w
  have hrb' := fun w => rBack_any t' n' w
  have hr := fun w => rLess_any (bK t) (bN t n) (bK t') (bN t' n') w
  generalize ifc t n = v at *
  generalize ifc t' n' = v' at *
  generalize bK t = k at *
  generalize bN t n = m at *
  generalize bE t = x at *
  generalize bK t' = k' at *
  generalize bN t' n' = m' at *
  generalize bE t' = x' at *
  have hff : ¬ (x = 0 ∧ x' = 0) := fun h => hf h.2
  have e1 : sameB x x' k m k' m' = false := by unfold sameB; simp; intro a b; exact absurd ⟨a, b⟩ hff
  have e2 : (decide (x = 0) && decide (x' = 0) && lessB k m k' m') = false := by simp; intro a b; exact absurd ⟨a, b⟩ hff
  rw [e1] at hs
  rw [e2] at hl
  have hx' : (x' == 0) = false := by simp [hf]
  have hx : (x == 0) = true := by simp [hg]
  clear e1 e2 hf hff hg
  have HM := Lib.hid hm
  have HM' := Lib.hid hm'
  have HS := Lib.hid hs
  have HL := Lib.hid hl
  have HRB := Lib.hid hrb
  have HRB' := Lib.hid hrb'
  have HR := Lib.hid hr
  clear hm hm' hs hl hrb hrb' hr
  go_enter Try.func5, Try.ntmps5
  go_wp2_with fail
  refine (HRB.out _).mono ?_
  rintro e w1 ⟨rfl, O1⟩
  have bT := O1.blk ((made2 w 23 t n).alloc (.cells #[.int .i64 t', .int .i64 n'] 23)) (by simp)
  have bU := O1.blk (made2 (w.alloc (.cells #[.int .i64 t, .int .i64 n] 23)) 23 t' n') (by simp)
  simp only [World.size_alloc] at bU
  have P1 := (((Only.refl [] w).alloc (.cells #[.int .i64 t, .int .i64 n] 23)).alloc (.cells #[.int .i64 t', .int .i64 n'] 23)).trans O1
  have lU := bU.lt
  have lT := bT.lt
  have u0 := bU.at_ 0
  have u1 := bU.at_ 1
  simp at u0 u1
  clear O1
  go_wp2_with fail
  refine (HRB'.out _).mono ?_
  rintro e w2 ⟨rfl, O2⟩
  have bT2 := O2.blk (bT.alloc (.cells #[.int .i64 k, .int .i64 m] 25)) (by simp)
  have bU2 := O2.blk (bU.alloc (.cells #[.int .i64 k, .int .i64 m] 25)) (by simp)
  have bK2 := O2.blk (made2 w1 25 k m) (by simp)
  have P2 := (P1.alloc (.cells #[.int .i64 k, .int .i64 m] 25)).trans O2
  clear O2 P1 bT bU u0 u1 lU lT
  have lT2 := bT2.lt
  have lU2 := bU2.lt
  have lK2 := bK2.lt
  go_wp2_with fail
  have bT3 := bT2.alloc (.cells #[.int .i64 k', .int .i64 m'] 25)
  have bU3 := bU2.alloc (.cells #[.int .i64 k', .int .i64 m'] 25)
  have bK3 := bK2.alloc (.cells #[.int .i64 k', .int .i64 m'] 25)
  have bJ3 := made2 w2 25 k' m'
  have P3 := P2.alloc (.cells #[.int .i64 k', .int .i64 m'] 25)
  clear bT2 bU2 bK2 P2 lT2 lU2 lK2
  generalize w2.alloc (.cells #[.int .i64 k', .int .i64 m'] 25) = w3 at *
  have lT3 := bT3.lt
  have lU3 := bU3.lt
  have lK3 := bK3.lt
  have lJ3 := bJ3.lt
  have t0 := bT3.at_ 0
  have t1 := bT3.at_ 1
  have u0 := bU3.at_ 0
  have u1 := bU3.at_ 1
  have k0 := bK3.at_ 0
  have k1 := bK3.at_ 1
  have j0 := bJ3.at_ 0
  have j1 := bJ3.at_ 1
  simp at t0 t1 u0 u1 k0 k1 j0 j1
  have HP := Lib.hid P3
  clear bT3 bU3 bK3 bJ3 P3
  refine wp_region_noPanic ?_
  refine wp_region_timed (F := [⟨[], [], fun w' => Only [] w3 w'⟩]) (by kernel_rfl) (timed_holds ((Only.refl [] w3).drew) (timed_nil)) ?_
  refine timed_read (i := 0) (v := ?_) 0 rfl (by kernel_rfl) (by kernel_rfl) (by kernel_rfl) (fun _ _ _ h => h) (by kernel_rfl) (by kernel_rfl) rfl (by kernel_rfl) ?_ ?_
  rotate_left
  · (intro wq hSw; (try dsimp only at hSw); have hqt0 := (hSw.cell (p := ⟨w.heap.size, 0, none⟩) lT3 (by simp)).trans t0; have hqt1 := (hSw.cell (p := ⟨w.heap.size, 1, none⟩) lT3 (by simp)).trans t1; have hqu0 := (hSw.cell (p := ⟨w.heap.size + 1, 0, none⟩) lU3 (by simp)).trans u0; have hqu1 := (hSw.cell (p := ⟨w.heap.size + 1, 1, none⟩) lU3 (by simp)).trans u1; have hqk0 := (hSw.cell (p := ⟨w1.heap.size, 0, none⟩) lK3 (by simp)).trans k0; have hqk1 := (hSw.cell (p := ⟨w1.heap.size, 1, none⟩) lK3 (by simp)).trans k1; have hqj0 := (hSw.cell (p := ⟨w2.heap.size, 0, none⟩) lJ3 (by simp)).trans j0; have hqj1 := (hSw.cell (p := ⟨w2.heap.size, 1, none⟩) lJ3 (by simp)).trans j1; clear hSw; go_simp; try with_reducible rfl)
  try simp only [Act.put, List.getElem_toArray, List.getElem_cons_zero, List.getElem_cons_succ, List.setIfInBounds_toArray, List.set_cons_zero, List.set_cons_succ]
  refine timed_read (i := 2) (v := ?_) 0 rfl (by kernel_rfl) (by kernel_rfl) (by kernel_rfl) (fun _ _ _ h => h) (by kernel_rfl) (by kernel_rfl) rfl (by kernel_rfl) ?_ ?_
  rotate_left
  · (intro wq hSw; (try dsimp only at hSw); have hqt0 := (hSw.cell (p := ⟨w.heap.size, 0, none⟩) lT3 (by simp)).trans t0; have hqt1 := (hSw.cell (p := ⟨w.heap.size, 1, none⟩) lT3 (by simp)).trans t1; have hqu0 := (hSw.cell (p := ⟨w.heap.size + 1, 0, none⟩) lU3 (by simp)).trans u0; have hqu1 := (hSw.cell (p := ⟨w.heap.size + 1, 1, none⟩) lU3 (by simp)).trans u1; have hqk0 := (hSw.cell (p := ⟨w1.heap.size, 0, none⟩) lK3 (by simp)).trans k0; have hqk1 := (hSw.cell (p := ⟨w1.heap.size, 1, none⟩) lK3 (by simp)).trans k1; have hqj0 := (hSw.cell (p := ⟨w2.heap.size, 0, none⟩) lJ3 (by simp)).trans j0; have hqj1 := (hSw.cell (p := ⟨w2.heap.size, 1, none⟩) lJ3 (by simp)).trans j1; clear hSw; go_simp; try with_reducible rfl)
  try simp only [Act.put, List.getElem_toArray, List.getElem_cons_zero, List.getElem_cons_succ, List.setIfInBounds_toArray, List.set_cons_zero, List.set_cons_succ]
  refine timed_pure (i := 5) (v := ?_) rfl (by kernel_rfl) (by kernel_rfl) (by kernel_rfl) (fun _ _ _ h => h) (by kernel_rfl) (by kernel_rfl) ?_ ?_
  rotate_left
  · (intro w; go_simp; try with_reducible rfl)
  try simp only [Act.put, List.getElem_toArray, List.getElem_cons_zero, List.getElem_cons_succ, List.setIfInBounds_toArray, List.set_cons_zero, List.set_cons_succ]
  refine timed_step (i := 1) (by kernel_rfl) rfl (fun K hK => ?_)
  go_simp
  refine (HM.out _).mono ?_
  rintro e wX1 ⟨rfl, OX1⟩
  refine hK.out _ _ (timed_holds (((Only.refl [] w3).drew).trans OX1) (timed_nil)) ?_
  clear hK K
  try simp only [Act.put, List.getElem_toArray, List.getElem_cons_zero, List.getElem_cons_succ, List.setIfInBounds_toArray, List.set_cons_zero, List.set_cons_succ]
  refine timed_step (i := 3) (by kernel_rfl) rfl (fun K hK => ?_)
  go_simp
  refine (HM'.out _).mono ?_
  rintro e wX2 ⟨rfl, OX2⟩
  refine hK.out _ _ (timed_holds ((((Only.refl [] w3).drew).trans OX1).trans OX2) (timed_nil)) ?_
  clear hK K
  try simp only [Act.put, List.getElem_toArray, List.getElem_cons_zero, List.getElem_cons_succ, List.setIfInBounds_toArray, List.set_cons_zero, List.set_cons_succ]
  refine timed_step (i := 4) (by kernel_rfl) rfl (fun K hK => ?_)
  go_simp
  refine (HS.out _).mono ?_
  rintro e wX3 ⟨rfl, OX3⟩
  refine hK.out _ _ (timed_holds (((((Only.refl [] w3).drew).trans OX1).trans OX2).trans OX3) (timed_nil)) ?_
  clear hK K
  try simp only [Act.put, List.getElem_toArray, List.getElem_cons_zero, List.getElem_cons_succ, List.setIfInBounds_toArray, List.set_cons_zero, List.set_cons_succ]
  refine timed_pure (i := 6) (v := ?_) rfl (by kernel_rfl) (by kernel_rfl) (by kernel_rfl) (fun _ _ _ h => h) (by kernel_rfl) (by kernel_rfl) ?_ ?_
  rotate_left
  · (intro w; go_simp; try with_reducible rfl)
  try simp only [Act.put, List.getElem_toArray, List.getElem_cons_zero, List.getElem_cons_succ, List.setIfInBounds_toArray, List.set_cons_zero, List.set_cons_succ]
  refine timed_idle (i := 7) rfl (by kernel_rfl) (by kernel_rfl) (by kernel_rfl) (fun _ _ _ h => h) (by kernel_rfl) (by kernel_rfl) ?_
  try simp only [Act.put, List.getElem_toArray, List.getElem_cons_zero, List.getElem_cons_succ, List.setIfInBounds_toArray, List.set_cons_zero, List.set_cons_succ]
  refine timed_idle (i := 8) rfl (by kernel_rfl) (by kernel_rfl) (by kernel_rfl) (fun _ _ _ h => h) (by kernel_rfl) (by kernel_rfl) ?_
  try simp only [Act.put, List.getElem_toArray, List.getElem_cons_zero, List.getElem_cons_succ, List.setIfInBounds_toArray, List.set_cons_zero, List.set_cons_succ]
  refine timed_idle (i := 9) rfl (by kernel_rfl) (by kernel_rfl) (by kernel_rfl) (fun _ _ _ h => h) (by kernel_rfl) (by kernel_rfl) ?_
  try simp only [Act.put, List.getElem_toArray, List.getElem_cons_zero, List.getElem_cons_succ, List.setIfInBounds_toArray, List.set_cons_zero, List.set_cons_succ]
  refine timed_pure (i := 10) (v := ?_) rfl (by kernel_rfl) (by kernel_rfl) (by kernel_rfl) (fun _ _ _ h => h) (by kernel_rfl) (by kernel_rfl) ?_ ?_
  rotate_left
  · (intro w; go_simp; try with_reducible rfl)
  try simp only [Act.put, List.getElem_toArray, List.getElem_cons_zero, List.getElem_cons_succ, List.setIfInBounds_toArray, List.set_cons_zero, List.set_cons_succ]
  refine timed_pure (i := 11) (v := ?_) rfl (by kernel_rfl) (by kernel_rfl) (by kernel_rfl) (fun _ _ _ h => h) (by kernel_rfl) (by kernel_rfl) ?_ ?_
  rotate_left
  · (intro w; go_simp; try with_reducible rfl)
  try simp only [Act.put, List.getElem_toArray, List.getElem_cons_zero, List.getElem_cons_succ, List.setIfInBounds_toArray, List.set_cons_zero, List.set_cons_succ]
  refine timed_pure (i := 12) (v := ?_) rfl (by kernel_rfl) (by kernel_rfl) (by kernel_rfl) (fun _ _ _ h => h) (by kernel_rfl) (by kernel_rfl) ?_ ?_
  rotate_left
  · (intro w; go_simp; try with_reducible rfl)
  try simp only [Act.put, List.getElem_toArray, List.getElem_cons_zero, List.getElem_cons_succ, List.setIfInBounds_toArray, List.set_cons_zero, List.set_cons_succ]
  refine timed_read (i := 13) (v := ?_) 0 rfl (by kernel_rfl) (by kernel_rfl) (by kernel_rfl) (fun _ _ _ h => h) (by kernel_rfl) (by kernel_rfl) rfl (by kernel_rfl) ?_ ?_
  rotate_left
  · (intro wq hSw; (try dsimp only at hSw); have hqt0 := (hSw.cell (p := ⟨w.heap.size, 0, none⟩) lT3 (by simp)).trans t0; have hqt1 := (hSw.cell (p := ⟨w.heap.size, 1, none⟩) lT3 (by simp)).trans t1; have hqu0 := (hSw.cell (p := ⟨w.heap.size + 1, 0, none⟩) lU3 (by simp)).trans u0; have hqu1 := (hSw.cell (p := ⟨w.heap.size + 1, 1, none⟩) lU3 (by simp)).trans u1; have hqk0 := (hSw.cell (p := ⟨w1.heap.size, 0, none⟩) lK3 (by simp)).trans k0; have hqk1 := (hSw.cell (p := ⟨w1.heap.size, 1, none⟩) lK3 (by simp)).trans k1; have hqj0 := (hSw.cell (p := ⟨w2.heap.size, 0, none⟩) lJ3 (by simp)).trans j0; have hqj1 := (hSw.cell (p := ⟨w2.heap.size, 1, none⟩) lJ3 (by simp)).trans j1; clear hSw; go_simp; try with_reducible rfl)
  try simp only [Act.put, List.getElem_toArray, List.getElem_cons_zero, List.getElem_cons_succ, List.setIfInBounds_toArray, List.set_cons_zero, List.set_cons_succ]
  refine timed_read (i := 15) (v := ?_) 0 rfl (by kernel_rfl) (by kernel_rfl) (by kernel_rfl) (fun _ _ _ h => h) (by kernel_rfl) (by kernel_rfl) rfl (by kernel_rfl) ?_ ?_
  rotate_left
  · (intro wq hSw; (try dsimp only at hSw); have hqt0 := (hSw.cell (p := ⟨w.heap.size, 0, none⟩) lT3 (by simp)).trans t0; have hqt1 := (hSw.cell (p := ⟨w.heap.size, 1, none⟩) lT3 (by simp)).trans t1; have hqu0 := (hSw.cell (p := ⟨w.heap.size + 1, 0, none⟩) lU3 (by simp)).trans u0; have hqu1 := (hSw.cell (p := ⟨w.heap.size + 1, 1, none⟩) lU3 (by simp)).trans u1; have hqk0 := (hSw.cell (p := ⟨w1.heap.size, 0, none⟩) lK3 (by simp)).trans k0; have hqk1 := (hSw.cell (p := ⟨w1.heap.size, 1, none⟩) lK3 (by simp)).trans k1; have hqj0 := (hSw.cell (p := ⟨w2.heap.size, 0, none⟩) lJ3 (by simp)).trans j0; have hqj1 := (hSw.cell (p := ⟨w2.heap.size, 1, none⟩) lJ3 (by simp)).trans j1; clear hSw; go_simp; try with_reducible rfl)
  try simp only [Act.put, List.getElem_toArray, List.getElem_cons_zero, List.getElem_cons_succ, List.setIfInBounds_toArray, List.set_cons_zero, List.set_cons_succ]
  refine timed_pure (i := 18) (v := ?_) rfl (by kernel_rfl) (by kernel_rfl) (by kernel_rfl) (fun _ _ _ h => h) (by kernel_rfl) (by kernel_rfl) ?_ ?_
  rotate_left
  · (intro w; go_simp; try with_reducible rfl)
  try simp only [Act.put, List.getElem_toArray, List.getElem_cons_zero, List.getElem_cons_succ, List.setIfInBounds_toArray, List.set_cons_zero, List.set_cons_succ]
  refine timed_step (i := 14) (by kernel_rfl) rfl (fun K hK => ?_)
  go_simp
  refine (HM.out _).mono ?_
  rintro e wX4 ⟨rfl, OX4⟩
  refine hK.out _ _ (timed_holds ((((((Only.refl [] w3).drew).trans OX1).trans OX2).trans OX3).trans OX4) (timed_nil)) ?_
  clear hK K
  try simp only [Act.put, List.getElem_toArray, List.getElem_cons_zero, List.getElem_cons_succ, List.setIfInBounds_toArray, List.set_cons_zero, List.set_cons_succ]
  refine timed_step (i := 16) (by kernel_rfl) rfl (fun K hK => ?_)
  go_simp
  refine (HM'.out _).mono ?_
  rintro e wX5 ⟨rfl, OX5⟩
  refine hK.out _ _ (timed_holds (((((((Only.refl [] w3).drew).trans OX1).trans OX2).trans OX3).trans OX4).trans OX5) (timed_nil)) ?_
  clear hK K
  try simp only [Act.put, List.getElem_toArray, List.getElem_cons_zero, List.getElem_cons_succ, List.setIfInBounds_toArray, List.set_cons_zero, List.set_cons_succ]
  refine timed_step (i := 17) (by kernel_rfl) rfl (fun K hK => ?_)
  go_simp
  refine (HL.out _).mono ?_
  rintro e wX6 ⟨rfl, OX6⟩
  refine hK.out _ _ (timed_holds ((((((((Only.refl [] w3).drew).trans OX1).trans OX2).trans OX3).trans OX4).trans OX5).trans OX6) (timed_nil)) ?_
  clear hK K
  try simp only [Act.put, List.getElem_toArray, List.getElem_cons_zero, List.getElem_cons_succ, List.setIfInBounds_toArray, List.set_cons_zero, List.set_cons_succ]
  refine timed_pure (i := 19) (v := ?_) rfl (by kernel_rfl) (by kernel_rfl) (by kernel_rfl) (fun _ _ _ h => h) (by kernel_rfl) (by kernel_rfl) ?_ ?_
  rotate_left
  · (intro w; go_simp; try with_reducible rfl)
  try simp only [Act.put, List.getElem_toArray, List.getElem_cons_zero, List.getElem_cons_succ, List.setIfInBounds_toArray, List.set_cons_zero, List.set_cons_succ]
  refine timed_idle (i := 20) rfl (by kernel_rfl) (by kernel_rfl) (by kernel_rfl) (fun _ _ _ h => h) (by kernel_rfl) (by kernel_rfl) ?_
  try simp only [Act.put, List.getElem_toArray, List.getElem_cons_zero, List.getElem_cons_succ, List.setIfInBounds_toArray, List.set_cons_zero, List.set_cons_succ]
  refine timed_idle (i := 21) rfl (by kernel_rfl) (by kernel_rfl) (by kernel_rfl) (fun _ _ _ h => h) (by kernel_rfl) (by kernel_rfl) ?_
  try simp only [Act.put, List.getElem_toArray, List.getElem_cons_zero, List.getElem_cons_succ, List.setIfInBounds_toArray, List.set_cons_zero, List.set_cons_succ]
  refine timed_idle (i := 22) rfl (by kernel_rfl) (by kernel_rfl) (by kernel_rfl) (fun _ _ _ h => h) (by kernel_rfl) (by kernel_rfl) ?_
  try simp only [Act.put, List.getElem_toArray, List.getElem_cons_zero, List.getElem_cons_succ, List.setIfInBounds_toArray, List.set_cons_zero, List.set_cons_succ]
  refine timed_pure (i := 23) (v := ?_) rfl (by kernel_rfl) (by kernel_rfl) (by kernel_rfl) (fun _ _ _ h => h) (by kernel_rfl) (by kernel_rfl) ?_ ?_
  rotate_left
  · (intro w; go_simp; try with_reducible rfl)
  try simp only [Act.put, List.getElem_toArray, List.getElem_cons_zero, List.getElem_cons_succ, List.setIfInBounds_toArray, List.set_cons_zero, List.set_cons_succ]
  refine timed_pure (i := 24) (v := ?_) rfl (by kernel_rfl) (by kernel_rfl) (by kernel_rfl) (fun _ _ _ h => h) (by kernel_rfl) (by kernel_rfl) ?_ ?_
  rotate_left
  · (intro w; go_simp; try with_reducible rfl)
  try simp only [Act.put, List.getElem_toArray, List.getElem_cons_zero, List.getElem_cons_succ, List.setIfInBounds_toArray, List.set_cons_zero, List.set_cons_succ]
  refine timed_pure (i := 25) (v := ?_) rfl (by kernel_rfl) (by kernel_rfl) (by kernel_rfl) (fun _ _ _ h => h) (by kernel_rfl) (by kernel_rfl) ?_ ?_
  rotate_left
  · (intro w; go_simp; try with_reducible rfl)
  try simp only [Act.put, List.getElem_toArray, List.getElem_cons_zero, List.getElem_cons_succ, List.setIfInBounds_toArray, List.set_cons_zero, List.set_cons_succ]
  refine timed_pure (i := 26) (v := ?_) rfl (by kernel_rfl) (by kernel_rfl) (by kernel_rfl) (fun _ _ _ h => h) (by kernel_rfl) (by kernel_rfl) ?_ ?_
  rotate_left
  · (intro w; go_simp; try with_reducible rfl)
  try simp only [Act.put, List.getElem_toArray, List.getElem_cons_zero, List.getElem_cons_succ, List.setIfInBounds_toArray, List.set_cons_zero, List.set_cons_succ]
  refine timed_step (i := 27) (by kernel_rfl) rfl (fun K hK => ?_)
  go_simp
  refine (cworks_any _).mono ?_
  rintro e wZ ⟨rfl, OZ⟩
  refine hK.out _ _ (timed_holds (((((((((Only.refl [] w3).drew).trans OX1).trans OX2).trans OX3).trans OX4).trans OX5).trans OX6).trans OZ) (timed_nil)) ?_
  clear hK K
  try simp only [Act.put, List.getElem_toArray, List.getElem_cons_zero, List.getElem_cons_succ, List.setIfInBounds_toArray, List.set_cons_zero, List.set_cons_succ]
  refine timed_pure (i := 28) (v := ?_) rfl (by kernel_rfl) (by kernel_rfl) (by kernel_rfl) (fun _ _ _ h => h) (by kernel_rfl) (by kernel_rfl) ?_ ?_
  rotate_left
  · (intro w; go_simp; try with_reducible rfl)
  try simp only [Act.put, List.getElem_toArray, List.getElem_cons_zero, List.getElem_cons_succ, List.setIfInBounds_toArray, List.set_cons_zero, List.set_cons_succ]
  refine timed_pure (i := 29) (v := ?_) rfl (by kernel_rfl) (by kernel_rfl) (by kernel_rfl) (fun _ _ _ h => h) (by kernel_rfl) (by kernel_rfl) ?_ ?_
  rotate_left
  · (intro w; go_simp; try with_reducible rfl)
  try simp only [Act.put, List.getElem_toArray, List.getElem_cons_zero, List.getElem_cons_succ, List.setIfInBounds_toArray, List.set_cons_zero, List.set_cons_succ]
  refine timed_done (by kernel_rfl) ?_ _
  refine NoPanic.normal ?_
  go_wp2
  go_ret
  exact ⟨rfl, HP.out.trans (((((((((Only.refl [] w3).drew).trans OX1).trans OX2).trans OX3).trans OX4).trans OX5).trans OX6).trans OZ)⟩

set_option maxHeartbeats 3200000 in
theorem cellOrders_B (t n t' n' : Int) (w : World) (hf : bE t = 0 ∧ bE t' = 0) (hk : bK t = bK t' ∧ bN t n = bN t' n') : Calls Try.prog 5 #[.agg #[.int .i64 t, .int .i64 n], .agg #[.int .i64 t', .int .i64 n']] w fun e w' => e = .returned (.bool true) ∧ Only [] w w' := by
  have hm := fun w => made_any t n w
  have hm' := fun w => made_any t' n' w
  have hs := fun w => Same_any t n t' n' w
  have hl := fun w => Less_any t n t' n' w
  have hrb := fun w => rBack_any t n w
  have hrb' := fun w => rBack_any t' n' w
  have hr := fun w => rLess_any (bK t) (bN t n) (bK t') (bN t' n') w
  generalize ifc t n = v at *
  generalize ifc t' n' = v' at *
  generalize bK t = k at *
  generalize bN t n = m at *
  generalize bE t = x at *
  generalize bK t' = k' at *
  generalize bN t' n' = m' at *
  generalize bE t' = x' at *
  obtain ⟨hx0, hx1⟩ := hf
  subst hx0 hx1
  have e2 : (decide ((0 : Int) = 0) && decide ((0 : Int) = 0) && lessB k m k' m') = lessB k m k' m' := by simp
  rw [e2] at hl
  clear e2
  generalize lessB k m k' m' = lb at *
  obtain ⟨ha, hb⟩ := hk
  subst ha hb
  have e1 : sameB 0 0 k m k m = true := by simp [sameB]
  rw [e1] at hs
  clear e1
  have HM := Lib.hid hm
  have HM' := Lib.hid hm'
  have HS := Lib.hid hs
  have HL := Lib.hid hl
  have HRB := Lib.hid hrb
  have HRB' := Lib.hid hrb'
  have HR := Lib.hid hr
  clear hm hm' hs hl hrb hrb' hr
  go_enter Try.func5, Try.ntmps5
  go_wp2_with fail
  refine (HRB.out _).mono ?_
  rintro e w1 ⟨rfl, O1⟩
  have bT := O1.blk ((made2 w 23 t n).alloc (.cells #[.int .i64 t', .int .i64 n'] 23)) (by simp)
  have bU := O1.blk (made2 (w.alloc (.cells #[.int .i64 t, .int .i64 n] 23)) 23 t' n') (by simp)
  simp only [World.size_alloc] at bU
  have P1 := (((Only.refl [] w).alloc (.cells #[.int .i64 t, .int .i64 n] 23)).alloc (.cells #[.int .i64 t', .int .i64 n'] 23)).trans O1
  have lU := bU.lt
  have lT := bT.lt
  have u0 := bU.at_ 0
  have u1 := bU.at_ 1
  simp at u0 u1
  clear O1
  go_wp2_with fail
  refine (HRB'.out _).mono ?_
  rintro e w2 ⟨rfl, O2⟩
  have bT2 := O2.blk (bT.alloc (.cells #[.int .i64 k, .int .i64 m] 25)) (by simp)
  have bU2 := O2.blk (bU.alloc (.cells #[.int .i64 k, .int .i64 m] 25)) (by simp)
  have bK2 := O2.blk (made2 w1 25 k m) (by simp)
  have P2 := (P1.alloc (.cells #[.int .i64 k, .int .i64 m] 25)).trans O2
  clear O2 P1 bT bU u0 u1 lU lT
  have lT2 := bT2.lt
  have lU2 := bU2.lt
  have lK2 := bK2.lt
  go_wp2_with fail
  have bT3 := bT2.alloc (.cells #[.int .i64 k, .int .i64 m] 25)
  have bU3 := bU2.alloc (.cells #[.int .i64 k, .int .i64 m] 25)
  have bK3 := bK2.alloc (.cells #[.int .i64 k, .int .i64 m] 25)
  have bJ3 := made2 w2 25 k m
  have P3 := P2.alloc (.cells #[.int .i64 k, .int .i64 m] 25)
  clear bT2 bU2 bK2 P2 lT2 lU2 lK2
  generalize w2.alloc (.cells #[.int .i64 k, .int .i64 m] 25) = w3 at *
  have lT3 := bT3.lt
  have lU3 := bU3.lt
  have lK3 := bK3.lt
  have lJ3 := bJ3.lt
  have t0 := bT3.at_ 0
  have t1 := bT3.at_ 1
  have u0 := bU3.at_ 0
  have u1 := bU3.at_ 1
  have k0 := bK3.at_ 0
  have k1 := bK3.at_ 1
  have j0 := bJ3.at_ 0
  have j1 := bJ3.at_ 1
  simp at t0 t1 u0 u1 k0 k1 j0 j1
  have HP := Lib.hid P3
  clear bT3 bU3 bK3 bJ3 P3
  refine wp_region_noPanic ?_
  refine wp_region_timed (F := [⟨[], [], fun w' => Only [] w3 w'⟩]) (by kernel_rfl) (timed_holds ((Only.refl [] w3).drew) (timed_nil)) ?_
  refine timed_read (i := 0) (v := ?_) 0 rfl (by kernel_rfl) (by kernel_rfl) (by kernel_rfl) (fun _ _ _ h => h) (by kernel_rfl) (by kernel_rfl) rfl (by kernel_rfl) ?_ ?_
  rotate_left
  · (intro wq hSw; (try dsimp only at hSw); have hqt0 := (hSw.cell (p := ⟨w.heap.size, 0, none⟩) lT3 (by simp)).trans t0; have hqt1 := (hSw.cell (p := ⟨w.heap.size, 1, none⟩) lT3 (by simp)).trans t1; have hqu0 := (hSw.cell (p := ⟨w.heap.size + 1, 0, none⟩) lU3 (by simp)).trans u0; have hqu1 := (hSw.cell (p := ⟨w.heap.size + 1, 1, none⟩) lU3 (by simp)).trans u1; have hqk0 := (hSw.cell (p := ⟨w1.heap.size, 0, none⟩) lK3 (by simp)).trans k0; have hqk1 := (hSw.cell (p := ⟨w1.heap.size, 1, none⟩) lK3 (by simp)).trans k1; have hqj0 := (hSw.cell (p := ⟨w2.heap.size, 0, none⟩) lJ3 (by simp)).trans j0; have hqj1 := (hSw.cell (p := ⟨w2.heap.size, 1, none⟩) lJ3 (by simp)).trans j1; clear hSw; go_simp; try with_reducible rfl)
  try simp only [Act.put, List.getElem_toArray, List.getElem_cons_zero, List.getElem_cons_succ, List.setIfInBounds_toArray, List.set_cons_zero, List.set_cons_succ]
  refine timed_read (i := 2) (v := ?_) 0 rfl (by kernel_rfl) (by kernel_rfl) (by kernel_rfl) (fun _ _ _ h => h) (by kernel_rfl) (by kernel_rfl) rfl (by kernel_rfl) ?_ ?_
  rotate_left
  · (intro wq hSw; (try dsimp only at hSw); have hqt0 := (hSw.cell (p := ⟨w.heap.size, 0, none⟩) lT3 (by simp)).trans t0; have hqt1 := (hSw.cell (p := ⟨w.heap.size, 1, none⟩) lT3 (by simp)).trans t1; have hqu0 := (hSw.cell (p := ⟨w.heap.size + 1, 0, none⟩) lU3 (by simp)).trans u0; have hqu1 := (hSw.cell (p := ⟨w.heap.size + 1, 1, none⟩) lU3 (by simp)).trans u1; have hqk0 := (hSw.cell (p := ⟨w1.heap.size, 0, none⟩) lK3 (by simp)).trans k0; have hqk1 := (hSw.cell (p := ⟨w1.heap.size, 1, none⟩) lK3 (by simp)).trans k1; have hqj0 := (hSw.cell (p := ⟨w2.heap.size, 0, none⟩) lJ3 (by simp)).trans j0; have hqj1 := (hSw.cell (p := ⟨w2.heap.size, 1, none⟩) lJ3 (by simp)).trans j1; clear hSw; go_simp; try with_reducible rfl)
  try simp only [Act.put, List.getElem_toArray, List.getElem_cons_zero, List.getElem_cons_succ, List.setIfInBounds_toArray, List.set_cons_zero, List.set_cons_succ]
  refine timed_pure (i := 5) (v := ?_) rfl (by kernel_rfl) (by kernel_rfl) (by kernel_rfl) (fun _ _ _ h => h) (by kernel_rfl) (by kernel_rfl) ?_ ?_
  rotate_left
  · (intro w; go_simp; try with_reducible rfl)
  try simp only [Act.put, List.getElem_toArray, List.getElem_cons_zero, List.getElem_cons_succ, List.setIfInBounds_toArray, List.set_cons_zero, List.set_cons_succ]
  refine timed_step (i := 1) (by kernel_rfl) rfl (fun K hK => ?_)
  go_simp
  refine (HM.out _).mono ?_
  rintro e wX1 ⟨rfl, OX1⟩
  refine hK.out _ _ (timed_holds (((Only.refl [] w3).drew).trans OX1) (timed_nil)) ?_
  clear hK K
  try simp only [Act.put, List.getElem_toArray, List.getElem_cons_zero, List.getElem_cons_succ, List.setIfInBounds_toArray, List.set_cons_zero, List.set_cons_succ]
  refine timed_step (i := 3) (by kernel_rfl) rfl (fun K hK => ?_)
  go_simp
  refine (HM'.out _).mono ?_
  rintro e wX2 ⟨rfl, OX2⟩
  refine hK.out _ _ (timed_holds ((((Only.refl [] w3).drew).trans OX1).trans OX2) (timed_nil)) ?_
  clear hK K
  try simp only [Act.put, List.getElem_toArray, List.getElem_cons_zero, List.getElem_cons_succ, List.setIfInBounds_toArray, List.set_cons_zero, List.set_cons_succ]
  refine timed_step (i := 4) (by kernel_rfl) rfl (fun K hK => ?_)
  go_simp
  refine (HS.out _).mono ?_
  rintro e wX3 ⟨rfl, OX3⟩
  refine hK.out _ _ (timed_holds (((((Only.refl [] w3).drew).trans OX1).trans OX2).trans OX3) (timed_nil)) ?_
  clear hK K
  try simp only [Act.put, List.getElem_toArray, List.getElem_cons_zero, List.getElem_cons_succ, List.setIfInBounds_toArray, List.set_cons_zero, List.set_cons_succ]
  refine timed_pure (i := 6) (v := ?_) rfl (by kernel_rfl) (by kernel_rfl) (by kernel_rfl) (fun _ _ _ h => h) (by kernel_rfl) (by kernel_rfl) ?_ ?_
  rotate_left
  · (intro w; go_simp; try with_reducible rfl)
  try simp only [Act.put, List.getElem_toArray, List.getElem_cons_zero, List.getElem_cons_succ, List.setIfInBounds_toArray, List.set_cons_zero, List.set_cons_succ]
  refine timed_read (i := 7) (v := ?_) 0 rfl (by kernel_rfl) (by kernel_rfl) (by kernel_rfl) (fun _ _ _ h => h) (by kernel_rfl) (by kernel_rfl) rfl (by kernel_rfl) ?_ ?_
  rotate_left
  · (intro wq hSw; (try dsimp only at hSw); have hqt0 := (hSw.cell (p := ⟨w.heap.size, 0, none⟩) lT3 (by simp)).trans t0; have hqt1 := (hSw.cell (p := ⟨w.heap.size, 1, none⟩) lT3 (by simp)).trans t1; have hqu0 := (hSw.cell (p := ⟨w.heap.size + 1, 0, none⟩) lU3 (by simp)).trans u0; have hqu1 := (hSw.cell (p := ⟨w.heap.size + 1, 1, none⟩) lU3 (by simp)).trans u1; have hqk0 := (hSw.cell (p := ⟨w1.heap.size, 0, none⟩) lK3 (by simp)).trans k0; have hqk1 := (hSw.cell (p := ⟨w1.heap.size, 1, none⟩) lK3 (by simp)).trans k1; have hqj0 := (hSw.cell (p := ⟨w2.heap.size, 0, none⟩) lJ3 (by simp)).trans j0; have hqj1 := (hSw.cell (p := ⟨w2.heap.size, 1, none⟩) lJ3 (by simp)).trans j1; clear hSw; go_simp; try with_reducible rfl)
  try simp only [Act.put, List.getElem_toArray, List.getElem_cons_zero, List.getElem_cons_succ, List.setIfInBounds_toArray, List.set_cons_zero, List.set_cons_succ]
  refine timed_read (i := 8) (v := ?_) 0 rfl (by kernel_rfl) (by kernel_rfl) (by kernel_rfl) (fun _ _ _ h => h) (by kernel_rfl) (by kernel_rfl) rfl (by kernel_rfl) ?_ ?_
  rotate_left
  · (intro wq hSw; (try dsimp only at hSw); have hqt0 := (hSw.cell (p := ⟨w.heap.size, 0, none⟩) lT3 (by simp)).trans t0; have hqt1 := (hSw.cell (p := ⟨w.heap.size, 1, none⟩) lT3 (by simp)).trans t1; have hqu0 := (hSw.cell (p := ⟨w.heap.size + 1, 0, none⟩) lU3 (by simp)).trans u0; have hqu1 := (hSw.cell (p := ⟨w.heap.size + 1, 1, none⟩) lU3 (by simp)).trans u1; have hqk0 := (hSw.cell (p := ⟨w1.heap.size, 0, none⟩) lK3 (by simp)).trans k0; have hqk1 := (hSw.cell (p := ⟨w1.heap.size, 1, none⟩) lK3 (by simp)).trans k1; have hqj0 := (hSw.cell (p := ⟨w2.heap.size, 0, none⟩) lJ3 (by simp)).trans j0; have hqj1 := (hSw.cell (p := ⟨w2.heap.size, 1, none⟩) lJ3 (by simp)).trans j1; clear hSw; go_simp; try with_reducible rfl)
  try simp only [Act.put, List.getElem_toArray, List.getElem_cons_zero, List.getElem_cons_succ, List.setIfInBounds_toArray, List.set_cons_zero, List.set_cons_succ]
  refine timed_pure (i := 9) (v := ?_) rfl (by kernel_rfl) (by kernel_rfl) (by kernel_rfl) (fun _ _ _ h => h) (by kernel_rfl) (by kernel_rfl) ?_ ?_
  rotate_left
  · (intro w; go_simp; try with_reducible rfl)
  try simp only [Act.put, List.getElem_toArray, List.getElem_cons_zero, List.getElem_cons_succ, List.setIfInBounds_toArray, List.set_cons_zero, List.set_cons_succ]
  refine timed_pure (i := 10) (v := ?_) rfl (by kernel_rfl) (by kernel_rfl) (by kernel_rfl) (fun _ _ _ h => h) (by kernel_rfl) (by kernel_rfl) ?_ ?_
  rotate_left
  · (intro w; go_simp; try with_reducible rfl)
  try simp only [Act.put, List.getElem_toArray, List.getElem_cons_zero, List.getElem_cons_succ, List.setIfInBounds_toArray, List.set_cons_zero, List.set_cons_succ]
  refine timed_pure (i := 11) (v := ?_) rfl (by kernel_rfl) (by kernel_rfl) (by kernel_rfl) (fun _ _ _ h => h) (by kernel_rfl) (by kernel_rfl) ?_ ?_
  rotate_left
  · (intro w; go_simp; try with_reducible rfl)
  try simp only [Act.put, List.getElem_toArray, List.getElem_cons_zero, List.getElem_cons_succ, List.setIfInBounds_toArray, List.set_cons_zero, List.set_cons_succ]
  refine timed_pure (i := 12) (v := ?_) rfl (by kernel_rfl) (by kernel_rfl) (by kernel_rfl) (fun _ _ _ h => h) (by kernel_rfl) (by kernel_rfl) ?_ ?_
  rotate_left
  · (intro w; go_simp; try with_reducible rfl)
  try simp only [Act.put, List.getElem_toArray, List.getElem_cons_zero, List.getElem_cons_succ, List.setIfInBounds_toArray, List.set_cons_zero, List.set_cons_succ]
  refine timed_read (i := 13) (v := ?_) 0 rfl (by kernel_rfl) (by kernel_rfl) (by kernel_rfl) (fun _ _ _ h => h) (by kernel_rfl) (by kernel_rfl) rfl (by kernel_rfl) ?_ ?_
  rotate_left
  · (intro wq hSw; (try dsimp only at hSw); have hqt0 := (hSw.cell (p := ⟨w.heap.size, 0, none⟩) lT3 (by simp)).trans t0; have hqt1 := (hSw.cell (p := ⟨w.heap.size, 1, none⟩) lT3 (by simp)).trans t1; have hqu0 := (hSw.cell (p := ⟨w.heap.size + 1, 0, none⟩) lU3 (by simp)).trans u0; have hqu1 := (hSw.cell (p := ⟨w.heap.size + 1, 1, none⟩) lU3 (by simp)).trans u1; have hqk0 := (hSw.cell (p := ⟨w1.heap.size, 0, none⟩) lK3 (by simp)).trans k0; have hqk1 := (hSw.cell (p := ⟨w1.heap.size, 1, none⟩) lK3 (by simp)).trans k1; have hqj0 := (hSw.cell (p := ⟨w2.heap.size, 0, none⟩) lJ3 (by simp)).trans j0; have hqj1 := (hSw.cell (p := ⟨w2.heap.size, 1, none⟩) lJ3 (by simp)).trans j1; clear hSw; go_simp; try with_reducible rfl)
  try simp only [Act.put, List.getElem_toArray, List.getElem_cons_zero, List.getElem_cons_succ, List.setIfInBounds_toArray, List.set_cons_zero, List.set_cons_succ]
  refine timed_read (i := 15) (v := ?_) 0 rfl (by kernel_rfl) (by kernel_rfl) (by kernel_rfl) (fun _ _ _ h => h) (by kernel_rfl) (by kernel_rfl) rfl (by kernel_rfl) ?_ ?_
  rotate_left
  · (intro wq hSw; (try dsimp only at hSw); have hqt0 := (hSw.cell (p := ⟨w.heap.size, 0, none⟩) lT3 (by simp)).trans t0; have hqt1 := (hSw.cell (p := ⟨w.heap.size, 1, none⟩) lT3 (by simp)).trans t1; have hqu0 := (hSw.cell (p := ⟨w.heap.size + 1, 0, none⟩) lU3 (by simp)).trans u0; have hqu1 := (hSw.cell (p := ⟨w.heap.size + 1, 1, none⟩) lU3 (by simp)).trans u1; have hqk0 := (hSw.cell (p := ⟨w1.heap.size, 0, none⟩) lK3 (by simp)).trans k0; have hqk1 := (hSw.cell (p := ⟨w1.heap.size, 1, none⟩) lK3 (by simp)).trans k1; have hqj0 := (hSw.cell (p := ⟨w2.heap.size, 0, none⟩) lJ3 (by simp)).trans j0; have hqj1 := (hSw.cell (p := ⟨w2.heap.size, 1, none⟩) lJ3 (by simp)).trans j1; clear hSw; go_simp; try with_reducible rfl)
  try simp only [Act.put, List.getElem_toArray, List.getElem_cons_zero, List.getElem_cons_succ, List.setIfInBounds_toArray, List.set_cons_zero, List.set_cons_succ]
  refine timed_pure (i := 18) (v := ?_) rfl (by kernel_rfl) (by kernel_rfl) (by kernel_rfl) (fun _ _ _ h => h) (by kernel_rfl) (by kernel_rfl) ?_ ?_
  rotate_left
  · (intro w; go_simp; try with_reducible rfl)
  try simp only [Act.put, List.getElem_toArray, List.getElem_cons_zero, List.getElem_cons_succ, List.setIfInBounds_toArray, List.set_cons_zero, List.set_cons_succ]
  refine timed_step (i := 14) (by kernel_rfl) rfl (fun K hK => ?_)
  go_simp
  refine (HM.out _).mono ?_
  rintro e wX4 ⟨rfl, OX4⟩
  refine hK.out _ _ (timed_holds ((((((Only.refl [] w3).drew).trans OX1).trans OX2).trans OX3).trans OX4) (timed_nil)) ?_
  clear hK K
  try simp only [Act.put, List.getElem_toArray, List.getElem_cons_zero, List.getElem_cons_succ, List.setIfInBounds_toArray, List.set_cons_zero, List.set_cons_succ]
  refine timed_step (i := 16) (by kernel_rfl) rfl (fun K hK => ?_)
  go_simp
  refine (HM'.out _).mono ?_
  rintro e wX5 ⟨rfl, OX5⟩
  refine hK.out _ _ (timed_holds (((((((Only.refl [] w3).drew).trans OX1).trans OX2).trans OX3).trans OX4).trans OX5) (timed_nil)) ?_
  clear hK K
  try simp only [Act.put, List.getElem_toArray, List.getElem_cons_zero, List.getElem_cons_succ, List.setIfInBounds_toArray, List.set_cons_zero, List.set_cons_succ]
  refine timed_step (i := 17) (by kernel_rfl) rfl (fun K hK => ?_)
  go_simp
  refine (HL.out _).mono ?_
  rintro e wX6 ⟨rfl, OX6⟩
  refine hK.out _ _ (timed_holds ((((((((Only.refl [] w3).drew).trans OX1).trans OX2).trans OX3).trans OX4).trans OX5).trans OX6) (timed_nil)) ?_
  clear hK K
  try simp only [Act.put, List.getElem_toArray, List.getElem_cons_zero, List.getElem_cons_succ, List.setIfInBounds_toArray, List.set_cons_zero, List.set_cons_succ]
  refine timed_pure (i := 19) (v := ?_) rfl (by kernel_rfl) (by kernel_rfl) (by kernel_rfl) (fun _ _ _ h => h) (by kernel_rfl) (by kernel_rfl) ?_ ?_
  rotate_left
  · (intro w; go_simp; try with_reducible rfl)
  try simp only [Act.put, List.getElem_toArray, List.getElem_cons_zero, List.getElem_cons_succ, List.setIfInBounds_toArray, List.set_cons_zero, List.set_cons_succ]
  refine timed_read (i := 20) (v := ?_) 0 rfl (by kernel_rfl) (by kernel_rfl) (by kernel_rfl) (fun _ _ _ h => h) (by kernel_rfl) (by kernel_rfl) rfl (by kernel_rfl) ?_ ?_
  rotate_left
  · (intro wq hSw; (try dsimp only at hSw); have hqt0 := (hSw.cell (p := ⟨w.heap.size, 0, none⟩) lT3 (by simp)).trans t0; have hqt1 := (hSw.cell (p := ⟨w.heap.size, 1, none⟩) lT3 (by simp)).trans t1; have hqu0 := (hSw.cell (p := ⟨w.heap.size + 1, 0, none⟩) lU3 (by simp)).trans u0; have hqu1 := (hSw.cell (p := ⟨w.heap.size + 1, 1, none⟩) lU3 (by simp)).trans u1; have hqk0 := (hSw.cell (p := ⟨w1.heap.size, 0, none⟩) lK3 (by simp)).trans k0; have hqk1 := (hSw.cell (p := ⟨w1.heap.size, 1, none⟩) lK3 (by simp)).trans k1; have hqj0 := (hSw.cell (p := ⟨w2.heap.size, 0, none⟩) lJ3 (by simp)).trans j0; have hqj1 := (hSw.cell (p := ⟨w2.heap.size, 1, none⟩) lJ3 (by simp)).trans j1; clear hSw; go_simp; try with_reducible rfl)
  try simp only [Act.put, List.getElem_toArray, List.getElem_cons_zero, List.getElem_cons_succ, List.setIfInBounds_toArray, List.set_cons_zero, List.set_cons_succ]
  refine timed_read (i := 21) (v := ?_) 0 rfl (by kernel_rfl) (by kernel_rfl) (by kernel_rfl) (fun _ _ _ h => h) (by kernel_rfl) (by kernel_rfl) rfl (by kernel_rfl) ?_ ?_
  rotate_left
  · (intro wq hSw; (try dsimp only at hSw); have hqt0 := (hSw.cell (p := ⟨w.heap.size, 0, none⟩) lT3 (by simp)).trans t0; have hqt1 := (hSw.cell (p := ⟨w.heap.size, 1, none⟩) lT3 (by simp)).trans t1; have hqu0 := (hSw.cell (p := ⟨w.heap.size + 1, 0, none⟩) lU3 (by simp)).trans u0; have hqu1 := (hSw.cell (p := ⟨w.heap.size + 1, 1, none⟩) lU3 (by simp)).trans u1; have hqk0 := (hSw.cell (p := ⟨w1.heap.size, 0, none⟩) lK3 (by simp)).trans k0; have hqk1 := (hSw.cell (p := ⟨w1.heap.size, 1, none⟩) lK3 (by simp)).trans k1; have hqj0 := (hSw.cell (p := ⟨w2.heap.size, 0, none⟩) lJ3 (by simp)).trans j0; have hqj1 := (hSw.cell (p := ⟨w2.heap.size, 1, none⟩) lJ3 (by simp)).trans j1; clear hSw; go_simp; try with_reducible rfl)
  try simp only [Act.put, List.getElem_toArray, List.getElem_cons_zero, List.getElem_cons_succ, List.setIfInBounds_toArray, List.set_cons_zero, List.set_cons_succ]
  refine timed_step (i := 22) (by kernel_rfl) rfl (fun K hK => ?_)
  go_simp
  refine (HR.out _).mono ?_
  rintro e wY ⟨rfl, OY⟩
  refine hK.out _ _ (timed_holds (((((((((Only.refl [] w3).drew).trans OX1).trans OX2).trans OX3).trans OX4).trans OX5).trans OX6).trans OY) (timed_nil)) ?_
  clear hK K
  try simp only [Act.put, List.getElem_toArray, List.getElem_cons_zero, List.getElem_cons_succ, List.setIfInBounds_toArray, List.set_cons_zero, List.set_cons_succ]
  refine timed_pure (i := 23) (v := ?_) rfl (by kernel_rfl) (by kernel_rfl) (by kernel_rfl) (fun _ _ _ h => h) (by kernel_rfl) (by kernel_rfl) ?_ ?_
  rotate_left
  · (intro w; go_simp; try with_reducible rfl)
  try simp only [Act.put, List.getElem_toArray, List.getElem_cons_zero, List.getElem_cons_succ, List.setIfInBounds_toArray, List.set_cons_zero, List.set_cons_succ]
  refine timed_pure (i := 24) (v := ?_) rfl (by kernel_rfl) (by kernel_rfl) (by kernel_rfl) (fun _ _ _ h => h) (by kernel_rfl) (by kernel_rfl) ?_ ?_
  rotate_left
  · (intro w; go_simp; try with_reducible rfl)
  try simp only [Act.put, List.getElem_toArray, List.getElem_cons_zero, List.getElem_cons_succ, List.setIfInBounds_toArray, List.set_cons_zero, List.set_cons_succ]
  refine timed_pure (i := 25) (v := ?_) rfl (by kernel_rfl) (by kernel_rfl) (by kernel_rfl) (fun _ _ _ h => h) (by kernel_rfl) (by kernel_rfl) ?_ ?_
  rotate_left
  · (intro w; go_simp; try with_reducible rfl)
  try simp only [Act.put, List.getElem_toArray, List.getElem_cons_zero, List.getElem_cons_succ, List.setIfInBounds_toArray, List.set_cons_zero, List.set_cons_succ]
  refine timed_pure (i := 26) (v := ?_) rfl (by kernel_rfl) (by kernel_rfl) (by kernel_rfl) (fun _ _ _ h => h) (by kernel_rfl) (by kernel_rfl) ?_ ?_
  rotate_left
  · (intro w; go_simp; try with_reducible rfl)
  try simp only [Act.put, List.getElem_toArray, List.getElem_cons_zero, List.getElem_cons_succ, List.setIfInBounds_toArray, List.set_cons_zero, List.set_cons_succ]
  refine timed_step (i := 27) (by kernel_rfl) rfl (fun K hK => ?_)
  go_simp
  refine (cworks_any _).mono ?_
  rintro e wZ ⟨rfl, OZ⟩
  refine hK.out _ _ (timed_holds ((((((((((Only.refl [] w3).drew).trans OX1).trans OX2).trans OX3).trans OX4).trans OX5).trans OX6).trans OY).trans OZ) (timed_nil)) ?_
  clear hK K
  try simp only [Act.put, List.getElem_toArray, List.getElem_cons_zero, List.getElem_cons_succ, List.setIfInBounds_toArray, List.set_cons_zero, List.set_cons_succ]
  refine timed_pure (i := 28) (v := ?_) rfl (by kernel_rfl) (by kernel_rfl) (by kernel_rfl) (fun _ _ _ h => h) (by kernel_rfl) (by kernel_rfl) ?_ ?_
  rotate_left
  · (intro w; go_simp; try with_reducible rfl)
  try simp only [Act.put, List.getElem_toArray, List.getElem_cons_zero, List.getElem_cons_succ, List.setIfInBounds_toArray, List.set_cons_zero, List.set_cons_succ]
  refine timed_pure (i := 29) (v := ?_) rfl (by kernel_rfl) (by kernel_rfl) (by kernel_rfl) (fun _ _ _ h => h) (by kernel_rfl) (by kernel_rfl) ?_ ?_
  rotate_left
  · (intro w; go_simp; try with_reducible rfl)
  try simp only [Act.put, List.getElem_toArray, List.getElem_cons_zero, List.getElem_cons_succ, List.setIfInBounds_toArray, List.set_cons_zero, List.set_cons_succ]
  refine timed_done (by kernel_rfl) ?_ _
  refine NoPanic.normal ?_
  go_wp2
  go_ret
  exact ⟨rfl, HP.out.trans ((((((((((Only.refl [] w3).drew).trans OX1).trans OX2).trans OX3).trans OX4).trans OX5).trans OX6).trans OY).trans OZ)⟩

set_option maxHeartbeats 3200000 in
theorem cellOrders_C (t n t' n' : Int) (w : World) (hf : bE t = 0 ∧ bE t' = 0) (hk : bK t = bK t' ∧ ¬ bN t n = bN t' n') : Calls Try.prog 5 #[.agg #[.int .i64 t, .int .i64 n], .agg #[.int .i64 t', .int .i64 n']] w fun e w' => e = .returned (.bool true) ∧ Only [] w w' := by
  have hm := fun w => made_any t n w
  have hm' := fun w => made_any t' n' w
  have hs := fun w => Same_any t n t' n' w
  have hl := fun w => Less_any t n t' n' w
  have hrb := fun w => rBack_any t n w
  have hrb' := fun w => rBack_any t' n' w
  have hr := fun w => rLess_any (bK t) (bN t n) (bK t') (bN t' n') w
  generalize ifc t n = v at *
  generalize ifc t' n' = v' at *
  generalize bK t = k at *
  generalize bN t n = m at *
  generalize bE t = x at *
  generalize bK t' = k' at *
  generalize bN t' n' = m' at *
  generalize bE t' = x' at *
  obtain ⟨hx0, hx1⟩ := hf
  subst hx0 hx1
  have e2 : (decide ((0 : Int) = 0) && decide ((0 : Int) = 0) && lessB k m k' m') = lessB k m k' m' := by simp
  rw [e2] at hl
  clear e2
  generalize lessB k m k' m' = lb at *
  obtain ⟨ha, hb⟩ := hk
  subst ha
  have e1 : sameB 0 0 k m k m' = false := by simp [sameB, hb]
  rw [e1] at hs
  clear e1
  have HM := Lib.hid hm
  have HM' := Lib.hid hm'
  have HS := Lib.hid hs
  have HL := Lib.hid hl
  have HRB := Lib.hid hrb
  have HRB' := Lib.hid hrb'
  have HR := Lib.hid hr
  clear hm hm' hs hl hrb hrb' hr
  go_enter Try.func5, Try.ntmps5
  go_wp2_with fail
  refine (HRB.out _).mono ?_
  rintro e w1 ⟨rfl, O1⟩
  have bT := O1.blk ((made2 w 23 t n).alloc (.cells #[.int .i64 t', .int .i64 n'] 23)) (by simp)
  have bU := O1.blk (made2 (w.alloc (.cells #[.int .i64 t, .int .i64 n] 23)) 23 t' n') (by simp)
  simp only [World.size_alloc] at bU
  have P1 := (((Only.refl [] w).alloc (.cells #[.int .i64 t, .int .i64 n] 23)).alloc (.cells #[.int .i64 t', .int .i64 n'] 23)).trans O1
  have lU := bU.lt
  have lT := bT.lt
  have u0 := bU.at_ 0
  have u1 := bU.at_ 1
  simp at u0 u1
  clear O1
  go_wp2_with fail
  refine (HRB'.out _).mono ?_
  rintro e w2 ⟨rfl, O2⟩
  have bT2 := O2.blk (bT.alloc (.cells #[.int .i64 k, .int .i64 m] 25)) (by simp)
  have bU2 := O2.blk (bU.alloc (.cells #[.int .i64 k, .int .i64 m] 25)) (by simp)
  have bK2 := O2.blk (made2 w1 25 k m) (by simp)
  have P2 := (P1.alloc (.cells #[.int .i64 k, .int .i64 m] 25)).trans O2
  clear O2 P1 bT bU u0 u1 lU lT
  have lT2 := bT2.lt
  have lU2 := bU2.lt
  have lK2 := bK2.lt
  go_wp2_with fail
  have bT3 := bT2.alloc (.cells #[.int .i64 k, .int .i64 m'] 25)
  have bU3 := bU2.alloc (.cells #[.int .i64 k, .int .i64 m'] 25)
  have bK3 := bK2.alloc (.cells #[.int .i64 k, .int .i64 m'] 25)
  have bJ3 := made2 w2 25 k m'
  have P3 := P2.alloc (.cells #[.int .i64 k, .int .i64 m'] 25)
  clear bT2 bU2 bK2 P2 lT2 lU2 lK2
  generalize w2.alloc (.cells #[.int .i64 k, .int .i64 m'] 25) = w3 at *
  have lT3 := bT3.lt
  have lU3 := bU3.lt
  have lK3 := bK3.lt
  have lJ3 := bJ3.lt
  have t0 := bT3.at_ 0
  have t1 := bT3.at_ 1
  have u0 := bU3.at_ 0
  have u1 := bU3.at_ 1
  have k0 := bK3.at_ 0
  have k1 := bK3.at_ 1
  have j0 := bJ3.at_ 0
  have j1 := bJ3.at_ 1
  simp at t0 t1 u0 u1 k0 k1 j0 j1
  have HP := Lib.hid P3
  clear bT3 bU3 bK3 bJ3 P3
  refine wp_region_noPanic ?_
  refine wp_region_timed (F := [⟨[], [], fun w' => Only [] w3 w'⟩]) (by kernel_rfl) (timed_holds ((Only.refl [] w3).drew) (timed_nil)) ?_
  refine timed_read (i := 0) (v := ?_) 0 rfl (by kernel_rfl) (by kernel_rfl) (by kernel_rfl) (fun _ _ _ h => h) (by kernel_rfl) (by kernel_rfl) rfl (by kernel_rfl) ?_ ?_
  rotate_left
  · (intro wq hSw; (try dsimp only at hSw); have hqt0 := (hSw.cell (p := ⟨w.heap.size, 0, none⟩) lT3 (by simp)).trans t0; have hqt1 := (hSw.cell (p := ⟨w.heap.size, 1, none⟩) lT3 (by simp)).trans t1; have hqu0 := (hSw.cell (p := ⟨w.heap.size + 1, 0, none⟩) lU3 (by simp)).trans u0; have hqu1 := (hSw.cell (p := ⟨w.heap.size + 1, 1, none⟩) lU3 (by simp)).trans u1; have hqk0 := (hSw.cell (p := ⟨w1.heap.size, 0, none⟩) lK3 (by simp)).trans k0; have hqk1 := (hSw.cell (p := ⟨w1.heap.size, 1, none⟩) lK3 (by simp)).trans k1; have hqj0 := (hSw.cell (p := ⟨w2.heap.size, 0, none⟩) lJ3 (by simp)).trans j0; have hqj1 := (hSw.cell (p := ⟨w2.heap.size, 1, none⟩) lJ3 (by simp)).trans j1; clear hSw; go_simp; try with_reducible rfl)
  try simp only [Act.put, List.getElem_toArray, List.getElem_cons_zero, List.getElem_cons_succ, List.setIfInBounds_toArray, List.set_cons_zero, List.set_cons_succ]
  refine timed_read (i := 2) (v := ?_) 0 rfl (by kernel_rfl) (by kernel_rfl) (by kernel_rfl) (fun _ _ _ h => h) (by kernel_rfl) (by kernel_rfl) rfl (by kernel_rfl) ?_ ?_
  rotate_left
  · (intro wq hSw; (try dsimp only at hSw); have hqt0 := (hSw.cell (p := ⟨w.heap.size, 0, none⟩) lT3 (by simp)).trans t0; have hqt1 := (hSw.cell (p := ⟨w.heap.size, 1, none⟩) lT3 (by simp)).trans t1; have hqu0 := (hSw.cell (p := ⟨w.heap.size + 1, 0, none⟩) lU3 (by simp)).trans u0; have hqu1 := (hSw.cell (p := ⟨w.heap.size + 1, 1, none⟩) lU3 (by simp)).trans u1; have hqk0 := (hSw.cell (p := ⟨w1.heap.size, 0, none⟩) lK3 (by simp)).trans k0; have hqk1 := (hSw.cell (p := ⟨w1.heap.size, 1, none⟩) lK3 (by simp)).trans k1; have hqj0 := (hSw.cell (p := ⟨w2.heap.size, 0, none⟩) lJ3 (by simp)).trans j0; have hqj1 := (hSw.cell (p := ⟨w2.heap.size, 1, none⟩) lJ3 (by simp)).trans j1; clear hSw; go_simp; try with_reducible rfl)
  try simp only [Act.put, List.getElem_toArray, List.getElem_cons_zero, List.getElem_cons_succ, List.setIfInBounds_toArray, List.set_cons_zero, List.set_cons_succ]
  refine timed_pure (i := 5) (v := ?_) rfl (by kernel_rfl) (by kernel_rfl) (by kernel_rfl) (fun _ _ _ h => h) (by kernel_rfl) (by kernel_rfl) ?_ ?_
  rotate_left
  · (intro w; go_simp; try with_reducible rfl)
  try simp only [Act.put, List.getElem_toArray, List.getElem_cons_zero, List.getElem_cons_succ, List.setIfInBounds_toArray, List.set_cons_zero, List.set_cons_succ]
  refine timed_step (i := 1) (by kernel_rfl) rfl (fun K hK => ?_)
  go_simp
  refine (HM.out _).mono ?_
  rintro e wX1 ⟨rfl, OX1⟩
  refine hK.out _ _ (timed_holds (((Only.refl [] w3).drew).trans OX1) (timed_nil)) ?_
  clear hK K
  try simp only [Act.put, List.getElem_toArray, List.getElem_cons_zero, List.getElem_cons_succ, List.setIfInBounds_toArray, List.set_cons_zero, List.set_cons_succ]
  refine timed_step (i := 3) (by kernel_rfl) rfl (fun K hK => ?_)
  go_simp
  refine (HM'.out _).mono ?_
  rintro e wX2 ⟨rfl, OX2⟩
  refine hK.out _ _ (timed_holds ((((Only.refl [] w3).drew).trans OX1).trans OX2) (timed_nil)) ?_
  clear hK K
  try simp only [Act.put, List.getElem_toArray, List.getElem_cons_zero, List.getElem_cons_succ, List.setIfInBounds_toArray, List.set_cons_zero, List.set_cons_succ]
  refine timed_step (i := 4) (by kernel_rfl) rfl (fun K hK => ?_)
  go_simp
  refine (HS.out _).mono ?_
  rintro e wX3 ⟨rfl, OX3⟩
  refine hK.out _ _ (timed_holds (((((Only.refl [] w3).drew).trans OX1).trans OX2).trans OX3) (timed_nil)) ?_
  clear hK K
  try simp only [Act.put, List.getElem_toArray, List.getElem_cons_zero, List.getElem_cons_succ, List.setIfInBounds_toArray, List.set_cons_zero, List.set_cons_succ]
  refine timed_pure (i := 6) (v := ?_) rfl (by kernel_rfl) (by kernel_rfl) (by kernel_rfl) (fun _ _ _ h => h) (by kernel_rfl) (by kernel_rfl) ?_ ?_
  rotate_left
  · (intro w; go_simp; try with_reducible rfl)
  try simp only [Act.put, List.getElem_toArray, List.getElem_cons_zero, List.getElem_cons_succ, List.setIfInBounds_toArray, List.set_cons_zero, List.set_cons_succ]
  refine timed_read (i := 7) (v := ?_) 0 rfl (by kernel_rfl) (by kernel_rfl) (by kernel_rfl) (fun _ _ _ h => h) (by kernel_rfl) (by kernel_rfl) rfl (by kernel_rfl) ?_ ?_
  rotate_left
  · (intro wq hSw; (try dsimp only at hSw); have hqt0 := (hSw.cell (p := ⟨w.heap.size, 0, none⟩) lT3 (by simp)).trans t0; have hqt1 := (hSw.cell (p := ⟨w.heap.size, 1, none⟩) lT3 (by simp)).trans t1; have hqu0 := (hSw.cell (p := ⟨w.heap.size + 1, 0, none⟩) lU3 (by simp)).trans u0; have hqu1 := (hSw.cell (p := ⟨w.heap.size + 1, 1, none⟩) lU3 (by simp)).trans u1; have hqk0 := (hSw.cell (p := ⟨w1.heap.size, 0, none⟩) lK3 (by simp)).trans k0; have hqk1 := (hSw.cell (p := ⟨w1.heap.size, 1, none⟩) lK3 (by simp)).trans k1; have hqj0 := (hSw.cell (p := ⟨w2.heap.size, 0, none⟩) lJ3 (by simp)).trans j0; have hqj1 := (hSw.cell (p := ⟨w2.heap.size, 1, none⟩) lJ3 (by simp)).trans j1; clear hSw; go_simp; try with_reducible rfl)
  try simp only [Act.put, List.getElem_toArray, List.getElem_cons_zero, List.getElem_cons_succ, List.setIfInBounds_toArray, List.set_cons_zero, List.set_cons_succ]
  refine timed_read (i := 8) (v := ?_) 0 rfl (by kernel_rfl) (by kernel_rfl) (by kernel_rfl) (fun _ _ _ h => h) (by kernel_rfl) (by kernel_rfl) rfl (by kernel_rfl) ?_ ?_
  rotate_left
  · (intro wq hSw; (try dsimp only at hSw); have hqt0 := (hSw.cell (p := ⟨w.heap.size, 0, none⟩) lT3 (by simp)).trans t0; have hqt1 := (hSw.cell (p := ⟨w.heap.size, 1, none⟩) lT3 (by simp)).trans t1; have hqu0 := (hSw.cell (p := ⟨w.heap.size + 1, 0, none⟩) lU3 (by simp)).trans u0; have hqu1 := (hSw.cell (p := ⟨w.heap.size + 1, 1, none⟩) lU3 (by simp)).trans u1; have hqk0 := (hSw.cell (p := ⟨w1.heap.size, 0, none⟩) lK3 (by simp)).trans k0; have hqk1 := (hSw.cell (p := ⟨w1.heap.size, 1, none⟩) lK3 (by simp)).trans k1; have hqj0 := (hSw.cell (p := ⟨w2.heap.size, 0, none⟩) lJ3 (by simp)).trans j0; have hqj1 := (hSw.cell (p := ⟨w2.heap.size, 1, none⟩) lJ3 (by simp)).trans j1; clear hSw; go_simp; try with_reducible rfl)
  try simp only [Act.put, List.getElem_toArray, List.getElem_cons_zero, List.getElem_cons_succ, List.setIfInBounds_toArray, List.set_cons_zero, List.set_cons_succ]
  refine timed_pure (i := 9) (v := ?_) rfl (by kernel_rfl) (by kernel_rfl) (by kernel_rfl) (fun _ _ _ h => h) (by kernel_rfl) (by kernel_rfl) ?_ ?_
  rotate_left
  · (intro w; go_simp; try with_reducible rfl)
  try simp only [Act.put, List.getElem_toArray, List.getElem_cons_zero, List.getElem_cons_succ, List.setIfInBounds_toArray, List.set_cons_zero, List.set_cons_succ]
  refine timed_pure (i := 10) (v := ?_) rfl (by kernel_rfl) (by kernel_rfl) (by kernel_rfl) (fun _ _ _ h => h) (by kernel_rfl) (by kernel_rfl) ?_ ?_
  rotate_left
  · (intro w; go_simp; try with_reducible rfl)
  try simp only [Act.put, List.getElem_toArray, List.getElem_cons_zero, List.getElem_cons_succ, List.setIfInBounds_toArray, List.set_cons_zero, List.set_cons_succ]
  refine timed_pure (i := 11) (v := ?_) rfl (by kernel_rfl) (by kernel_rfl) (by kernel_rfl) (fun _ _ _ h => h) (by kernel_rfl) (by kernel_rfl) ?_ ?_
  rotate_left
  · (intro w; go_simp; try with_reducible rfl)
  try simp only [Act.put, List.getElem_toArray, List.getElem_cons_zero, List.getElem_cons_succ, List.setIfInBounds_toArray, List.set_cons_zero, List.set_cons_succ]
  refine timed_pure (i := 12) (v := ?_) rfl (by kernel_rfl) (by kernel_rfl) (by kernel_rfl) (fun _ _ _ h => h) (by kernel_rfl) (by kernel_rfl) ?_ ?_
  rotate_left
  · (intro w; go_simp; try with_reducible rfl)
  try simp only [Act.put, List.getElem_toArray, List.getElem_cons_zero, List.getElem_cons_succ, List.setIfInBounds_toArray, List.set_cons_zero, List.set_cons_succ]
  refine timed_read (i := 13) (v := ?_) 0 rfl (by kernel_rfl) (by kernel_rfl) (by kernel_rfl) (fun _ _ _ h => h) (by kernel_rfl) (by kernel_rfl) rfl (by kernel_rfl) ?_ ?_
  rotate_left
  · (intro wq hSw; (try dsimp only at hSw); have hqt0 := (hSw.cell (p := ⟨w.heap.size, 0, none⟩) lT3 (by simp)).trans t0; have hqt1 := (hSw.cell (p := ⟨w.heap.size, 1, none⟩) lT3 (by simp)).trans t1; have hqu0 := (hSw.cell (p := ⟨w.heap.size + 1, 0, none⟩) lU3 (by simp)).trans u0; have hqu1 := (hSw.cell (p := ⟨w.heap.size + 1, 1, none⟩) lU3 (by simp)).trans u1; have hqk0 := (hSw.cell (p := ⟨w1.heap.size, 0, none⟩) lK3 (by simp)).trans k0; have hqk1 := (hSw.cell (p := ⟨w1.heap.size, 1, none⟩) lK3 (by simp)).trans k1; have hqj0 := (hSw.cell (p := ⟨w2.heap.size, 0, none⟩) lJ3 (by simp)).trans j0; have hqj1 := (hSw.cell (p := ⟨w2.heap.size, 1, none⟩) lJ3 (by simp)).trans j1; clear hSw; go_simp; try with_reducible rfl)
  try simp only [Act.put, List.getElem_toArray, List.getElem_cons_zero, List.getElem_cons_succ, List.setIfInBounds_toArray, List.set_cons_zero, List.set_cons_succ]
  refine timed_read (i := 15) (v := ?_) 0 rfl (by kernel_rfl) (by kernel_rfl) (by kernel_rfl) (fun _ _ _ h => h) (by kernel_rfl) (by kernel_rfl) rfl (by kernel_rfl) ?_ ?_
  rotate_left
  · (intro wq hSw; (try dsimp only at hSw); have hqt0 := (hSw.cell (p := ⟨w.heap.size, 0, none⟩) lT3 (by simp)).trans t0; have hqt1 := (hSw.cell (p := ⟨w.heap.size, 1, none⟩) lT3 (by simp)).trans t1; have hqu0 := (hSw.cell (p := ⟨w.heap.size + 1, 0, none⟩) lU3 (by simp)).trans u0; have hqu1 := (hSw.cell (p := ⟨w.heap.size + 1, 1, none⟩) lU3 (by simp)).trans u1; have hqk0 := (hSw.cell (p := ⟨w1.heap.size, 0, none⟩) lK3 (by simp)).trans k0; have hqk1 := (hSw.cell (p := ⟨w1.heap.size, 1, none⟩) lK3 (by simp)).trans k1; have hqj0 := (hSw.cell (p := ⟨w2.heap.size, 0, none⟩) lJ3 (by simp)).trans j0; have hqj1 := (hSw.cell (p := ⟨w2.heap.size, 1, none⟩) lJ3 (by simp)).trans j1; clear hSw; go_simp; try with_reducible rfl)
  try simp only [Act.put, List.getElem_toArray, List.getElem_cons_zero, List.getElem_cons_succ, List.setIfInBounds_toArray, List.set_cons_zero, List.set_cons_succ]
  refine timed_pure (i := 18) (v := ?_) rfl (by kernel_rfl) (by kernel_rfl) (by kernel_rfl) (fun _ _ _ h => h) (by kernel_rfl) (by kernel_rfl) ?_ ?_
  rotate_left
  · (intro w; go_simp; try with_reducible rfl)
  try simp only [Act.put, List.getElem_toArray, List.getElem_cons_zero, List.getElem_cons_succ, List.setIfInBounds_toArray, List.set_cons_zero, List.set_cons_succ]
  refine timed_step (i := 14) (by kernel_rfl) rfl (fun K hK => ?_)
  go_simp
  refine (HM.out _).mono ?_
  rintro e wX4 ⟨rfl, OX4⟩
  refine hK.out _ _ (timed_holds ((((((Only.refl [] w3).drew).trans OX1).trans OX2).trans OX3).trans OX4) (timed_nil)) ?_
  clear hK K
  try simp only [Act.put, List.getElem_toArray, List.getElem_cons_zero, List.getElem_cons_succ, List.setIfInBounds_toArray, List.set_cons_zero, List.set_cons_succ]
  refine timed_step (i := 16) (by kernel_rfl) rfl (fun K hK => ?_)
  go_simp
  refine (HM'.out _).mono ?_
  rintro e wX5 ⟨rfl, OX5⟩
  refine hK.out _ _ (timed_holds (((((((Only.refl [] w3).drew).trans OX1).trans OX2).trans OX3).trans OX4).trans OX5) (timed_nil)) ?_
  clear hK K
  try simp only [Act.put, List.getElem_toArray, List.getElem_cons_zero, List.getElem_cons_succ, List.setIfInBounds_toArray, List.set_cons_zero, List.set_cons_succ]
  refine timed_step (i := 17) (by kernel_rfl) rfl (fun K hK => ?_)
  go_simp
  refine (HL.out _).mono ?_
  rintro e wX6 ⟨rfl, OX6⟩
  refine hK.out _ _ (timed_holds ((((((((Only.refl [] w3).drew).trans OX1).trans OX2).trans OX3).trans OX4).trans OX5).trans OX6) (timed_nil)) ?_
  clear hK K
  try simp only [Act.put, List.getElem_toArray, List.getElem_cons_zero, List.getElem_cons_succ, List.setIfInBounds_toArray, List.set_cons_zero, List.set_cons_succ]
  refine timed_pure (i := 19) (v := ?_) rfl (by kernel_rfl) (by kernel_rfl) (by kernel_rfl) (fun _ _ _ h => h) (by kernel_rfl) (by kernel_rfl) ?_ ?_
  rotate_left
  · (intro w; go_simp; try with_reducible rfl)
  try simp only [Act.put, List.getElem_toArray, List.getElem_cons_zero, List.getElem_cons_succ, List.setIfInBounds_toArray, List.set_cons_zero, List.set_cons_succ]
  refine timed_read (i := 20) (v := ?_) 0 rfl (by kernel_rfl) (by kernel_rfl) (by kernel_rfl) (fun _ _ _ h => h) (by kernel_rfl) (by kernel_rfl) rfl (by kernel_rfl) ?_ ?_
  rotate_left
  · (intro wq hSw; (try dsimp only at hSw); have hqt0 := (hSw.cell (p := ⟨w.heap.size, 0, none⟩) lT3 (by simp)).trans t0; have hqt1 := (hSw.cell (p := ⟨w.heap.size, 1, none⟩) lT3 (by simp)).trans t1; have hqu0 := (hSw.cell (p := ⟨w.heap.size + 1, 0, none⟩) lU3 (by simp)).trans u0; have hqu1 := (hSw.cell (p := ⟨w.heap.size + 1, 1, none⟩) lU3 (by simp)).trans u1; have hqk0 := (hSw.cell (p := ⟨w1.heap.size, 0, none⟩) lK3 (by simp)).trans k0; have hqk1 := (hSw.cell (p := ⟨w1.heap.size, 1, none⟩) lK3 (by simp)).trans k1; have hqj0 := (hSw.cell (p := ⟨w2.heap.size, 0, none⟩) lJ3 (by simp)).trans j0; have hqj1 := (hSw.cell (p := ⟨w2.heap.size, 1, none⟩) lJ3 (by simp)).trans j1; clear hSw; go_simp; try with_reducible rfl)
  try simp only [Act.put, List.getElem_toArray, List.getElem_cons_zero, List.getElem_cons_succ, List.setIfInBounds_toArray, List.set_cons_zero, List.set_cons_succ]
  refine timed_read (i := 21) (v := ?_) 0 rfl (by kernel_rfl) (by kernel_rfl) (by kernel_rfl) (fun _ _ _ h => h) (by kernel_rfl) (by kernel_rfl) rfl (by kernel_rfl) ?_ ?_
  rotate_left
  · (intro wq hSw; (try dsimp only at hSw); have hqt0 := (hSw.cell (p := ⟨w.heap.size, 0, none⟩) lT3 (by simp)).trans t0; have hqt1 := (hSw.cell (p := ⟨w.heap.size, 1, none⟩) lT3 (by simp)).trans t1; have hqu0 := (hSw.cell (p := ⟨w.heap.size + 1, 0, none⟩) lU3 (by simp)).trans u0; have hqu1 := (hSw.cell (p := ⟨w.heap.size + 1, 1, none⟩) lU3 (by simp)).trans u1; have hqk0 := (hSw.cell (p := ⟨w1.heap.size, 0, none⟩) lK3 (by simp)).trans k0; have hqk1 := (hSw.cell (p := ⟨w1.heap.size, 1, none⟩) lK3 (by simp)).trans k1; have hqj0 := (hSw.cell (p := ⟨w2.heap.size, 0, none⟩) lJ3 (by simp)).trans j0; have hqj1 := (hSw.cell (p := ⟨w2.heap.size, 1, none⟩) lJ3 (by simp)).trans j1; clear hSw; go_simp; try with_reducible rfl)
  try simp only [Act.put, List.getElem_toArray, List.getElem_cons_zero, List.getElem_cons_succ, List.setIfInBounds_toArray, List.set_cons_zero, List.set_cons_succ]
  refine timed_step (i := 22) (by kernel_rfl) rfl (fun K hK => ?_)
  go_simp
  refine (HR.out _).mono ?_
  rintro e wY ⟨rfl, OY⟩
  refine hK.out _ _ (timed_holds (((((((((Only.refl [] w3).drew).trans OX1).trans OX2).trans OX3).trans OX4).trans OX5).trans OX6).trans OY) (timed_nil)) ?_
  clear hK K
  try simp only [Act.put, List.getElem_toArray, List.getElem_cons_zero, List.getElem_cons_succ, List.setIfInBounds_toArray, List.set_cons_zero, List.set_cons_succ]
  refine timed_pure (i := 23) (v := ?_) rfl (by kernel_rfl) (by kernel_rfl) (by kernel_rfl) (fun _ _ _ h => h) (by kernel_rfl) (by kernel_rfl) ?_ ?_
  rotate_left
  · (intro w; go_simp; try with_reducible rfl)
  try simp only [Act.put, List.getElem_toArray, List.getElem_cons_zero, List.getElem_cons_succ, List.setIfInBounds_toArray, List.set_cons_zero, List.set_cons_succ]
  refine timed_pure (i := 24) (v := ?_) rfl (by kernel_rfl) (by kernel_rfl) (by kernel_rfl) (fun _ _ _ h => h) (by kernel_rfl) (by kernel_rfl) ?_ ?_
  rotate_left
  · (intro w; go_simp; try with_reducible rfl)
  try simp only [Act.put, List.getElem_toArray, List.getElem_cons_zero, List.getElem_cons_succ, List.setIfInBounds_toArray, List.set_cons_zero, List.set_cons_succ]
  refine timed_pure (i := 25) (v := ?_) rfl (by kernel_rfl) (by kernel_rfl) (by kernel_rfl) (fun _ _ _ h => h) (by kernel_rfl) (by kernel_rfl) ?_ ?_
  rotate_left
  · (intro w; go_simp; try with_reducible rfl)
  try simp only [Act.put, List.getElem_toArray, List.getElem_cons_zero, List.getElem_cons_succ, List.setIfInBounds_toArray, List.set_cons_zero, List.set_cons_succ]
  refine timed_pure (i := 26) (v := ?_) rfl (by kernel_rfl) (by kernel_rfl) (by kernel_rfl) (fun _ _ _ h => h) (by kernel_rfl) (by kernel_rfl) ?_ ?_
  rotate_left
  · (intro w; go_simp; try with_reducible rfl)
  try simp only [Act.put, List.getElem_toArray, List.getElem_cons_zero, List.getElem_cons_succ, List.setIfInBounds_toArray, List.set_cons_zero, List.set_cons_succ]
  refine timed_step (i := 27) (by kernel_rfl) rfl (fun K hK => ?_)
  go_simp
  refine (cworks_any _).mono ?_
  rintro e wZ ⟨rfl, OZ⟩
  refine hK.out _ _ (timed_holds ((((((((((Only.refl [] w3).drew).trans OX1).trans OX2).trans OX3).trans OX4).trans OX5).trans OX6).trans OY).trans OZ) (timed_nil)) ?_
  clear hK K
  try simp only [Act.put, List.getElem_toArray, List.getElem_cons_zero, List.getElem_cons_succ, List.setIfInBounds_toArray, List.set_cons_zero, List.set_cons_succ]
  refine timed_pure (i := 28) (v := ?_) rfl (by kernel_rfl) (by kernel_rfl) (by kernel_rfl) (fun _ _ _ h => h) (by kernel_rfl) (by kernel_rfl) ?_ ?_
  rotate_left
  · (intro w; go_simp; try with_reducible rfl)
  try simp only [Act.put, List.getElem_toArray, List.getElem_cons_zero, List.getElem_cons_succ, List.setIfInBounds_toArray, List.set_cons_zero, List.set_cons_succ]
  refine timed_pure (i := 29) (v := ?_) rfl (by kernel_rfl) (by kernel_rfl) (by kernel_rfl) (fun _ _ _ h => h) (by kernel_rfl) (by kernel_rfl) ?_ ?_
  rotate_left
  · (intro w; go_simp; try with_reducible rfl)
  try simp only [Act.put, List.getElem_toArray, List.getElem_cons_zero, List.getElem_cons_succ, List.setIfInBounds_toArray, List.set_cons_zero, List.set_cons_succ]
  refine timed_done (by kernel_rfl) ?_ _
  refine NoPanic.normal ?_
  go_wp2
  go_ret
  exact ⟨rfl, HP.out.trans ((((((((((Only.refl [] w3).drew).trans OX1).trans OX2).trans OX3).trans OX4).trans OX5).trans OX6).trans OY).trans OZ)⟩

set_option maxHeartbeats 3200000 in
theorem cellOrders_D (t n t' n' : Int) (w : World) (hf : bE t = 0 ∧ bE t' = 0) (hk : ¬ bK t = bK t') : Calls Try.prog 5 #[.agg #[.int .i64 t, .int .i64 n], .agg #[.int .i64 t', .int .i64 n']] w fun e w' => e = .returned (.bool true) ∧ Only [] w w' := by
  have hm := fun w => made_any t n w
  have hm' := fun w => made_any t' n' w
  have hs := fun w => Same_any t n t' n' w
  have hl := fun w => Less_any t n t' n' w
  have hrb := fun w => rBack_any t n w
  have hrb' := fun w => rBack_any t' n' w
  have hr := fun w => rLess_any (bK t) (bN t n) (bK t') (bN t' n') w
  generalize ifc t n = v at *
  generalize ifc t' n' = v' at *
  generalize bK t = k at *
  generalize bN t n = m at *
  generalize bE t = x at *
  generalize bK t' = k' at *
  generalize bN t' n' = m' at *
  generalize bE t' = x' at *
  obtain ⟨hx0, hx1⟩ := hf
  subst hx0 hx1
  have e2 : (decide ((0 : Int) = 0) && decide ((0 : Int) = 0) && lessB k m k' m') = lessB k m k' m' := by simp
  rw [e2] at hl
  clear e2
  generalize lessB k m k' m' = lb at *
  have e1 : sameB 0 0 k m k' m' = false := by simp [sameB, hk]
  rw [e1] at hs
  clear e1
  have HM := Lib.hid hm
  have HM' := Lib.hid hm'
  have HS := Lib.hid hs
  have HL := Lib.hid hl
  have HRB := Lib.hid hrb
  have HRB' := Lib.hid hrb'
  have HR := Lib.hid hr
  clear hm hm' hs hl hrb hrb' hr
  go_enter Try.func5, Try.ntmps5
  go_wp2_with fail
  refine (HRB.out _).mono ?_
  rintro e w1 ⟨rfl, O1⟩
  have bT := O1.blk ((made2 w 23 t n).alloc (.cells #[.int .i64 t', .int .i64 n'] 23)) (by simp)
  have bU := O1.blk (made2 (w.alloc (.cells #[.int .i64 t, .int .i64 n] 23)) 23 t' n') (by simp)
  simp only [World.size_alloc] at bU
  have P1 := (((Only.refl [] w).alloc (.cells #[.int .i64 t, .int .i64 n] 23)).alloc (.cells #[.int .i64 t', .int .i64 n'] 23)).trans O1
  have lU := bU.lt
  have lT := bT.lt
  have u0 := bU.at_ 0
  have u1 := bU.at_ 1
  simp at u0 u1
  clear O1
  go_wp2_with fail
  refine (HRB'.out _).mono ?_
  rintro e w2 ⟨rfl, O2⟩
  have bT2 := O2.blk (bT.alloc (.cells #[.int .i64 k, .int .i64 m] 25)) (by simp)
  have bU2 := O2.blk (bU.alloc (.cells #[.int .i64 k, .int .i64 m] 25)) (by simp)
  have bK2 := O2.blk (made2 w1 25 k m) (by simp)
  have P2 := (P1.alloc (.cells #[.int .i64 k, .int .i64 m] 25)).trans O2
  clear O2 P1 bT bU u0 u1 lU lT
  have lT2 := bT2.lt
  have lU2 := bU2.lt
  have lK2 := bK2.lt
  go_wp2_with fail
  have bT3 := bT2.alloc (.cells #[.int .i64 k', .int .i64 m'] 25)
  have bU3 := bU2.alloc (.cells #[.int .i64 k', .int .i64 m'] 25)
  have bK3 := bK2.alloc (.cells #[.int .i64 k', .int .i64 m'] 25)
  have bJ3 := made2 w2 25 k' m'
  have P3 := P2.alloc (.cells #[.int .i64 k', .int .i64 m'] 25)
  clear bT2 bU2 bK2 P2 lT2 lU2 lK2
  generalize w2.alloc (.cells #[.int .i64 k', .int .i64 m'] 25) = w3 at *
  have lT3 := bT3.lt
  have lU3 := bU3.lt
  have lK3 := bK3.lt
  have lJ3 := bJ3.lt
  have t0 := bT3.at_ 0
  have t1 := bT3.at_ 1
  have u0 := bU3.at_ 0
  have u1 := bU3.at_ 1
  have k0 := bK3.at_ 0
  have k1 := bK3.at_ 1
  have j0 := bJ3.at_ 0
  have j1 := bJ3.at_ 1
  simp at t0 t1 u0 u1 k0 k1 j0 j1
  have HP := Lib.hid P3
  clear bT3 bU3 bK3 bJ3 P3
  refine wp_region_noPanic ?_
  refine wp_region_timed (F := [⟨[], [], fun w' => Only [] w3 w'⟩]) (by kernel_rfl) (timed_holds ((Only.refl [] w3).drew) (timed_nil)) ?_
  refine timed_read (i := 0) (v := ?_) 0 rfl (by kernel_rfl) (by kernel_rfl) (by kernel_rfl) (fun _ _ _ h => h) (by kernel_rfl) (by kernel_rfl) rfl (by kernel_rfl) ?_ ?_
  rotate_left
  · (intro wq hSw; (try dsimp only at hSw); have hqt0 := (hSw.cell (p := ⟨w.heap.size, 0, none⟩) lT3 (by simp)).trans t0; have hqt1 := (hSw.cell (p := ⟨w.heap.size, 1, none⟩) lT3 (by simp)).trans t1; have hqu0 := (hSw.cell (p := ⟨w.heap.size + 1, 0, none⟩) lU3 (by simp)).trans u0; have hqu1 := (hSw.cell (p := ⟨w.heap.size + 1, 1, none⟩) lU3 (by simp)).trans u1; have hqk0 := (hSw.cell (p := ⟨w1.heap.size, 0, none⟩) lK3 (by simp)).trans k0; have hqk1 := (hSw.cell (p := ⟨w1.heap.size, 1, none⟩) lK3 (by simp)).trans k1; have hqj0 := (hSw.cell (p := ⟨w2.heap.size, 0, none⟩) lJ3 (by simp)).trans j0; have hqj1 := (hSw.cell (p := ⟨w2.heap.size, 1, none⟩) lJ3 (by simp)).trans j1; clear hSw; go_simp; try with_reducible rfl)
  try simp only [Act.put, List.getElem_toArray, List.getElem_cons_zero, List.getElem_cons_succ, List.setIfInBounds_toArray, List.set_cons_zero, List.set_cons_succ]
  refine timed_read (i := 2) (v := ?_) 0 rfl (by kernel_rfl) (by kernel_rfl) (by kernel_rfl) (fun _ _ _ h => h) (by kernel_rfl) (by kernel_rfl) rfl (by kernel_rfl) ?_ ?_
  rotate_left
  · (intro wq hSw; (try dsimp only at hSw); have hqt0 := (hSw.cell (p := ⟨w.heap.size, 0, none⟩) lT3 (by simp)).trans t0; have hqt1 := (hSw.cell (p := ⟨w.heap.size, 1, none⟩) lT3 (by simp)).trans t1; have hqu0 := (hSw.cell (p := ⟨w.heap.size + 1, 0, none⟩) lU3 (by simp)).trans u0; have hqu1 := (hSw.cell (p := ⟨w.heap.size + 1, 1, none⟩) lU3 (by simp)).trans u1; have hqk0 := (hSw.cell (p := ⟨w1.heap.size, 0, none⟩) lK3 (by simp)).trans k0; have hqk1 := (hSw.cell (p := ⟨w1.heap.size, 1, none⟩) lK3 (by simp)).trans k1; have hqj0 := (hSw.cell (p := ⟨w2.heap.size, 0, none⟩) lJ3 (by simp)).trans j0; have hqj1 := (hSw.cell (p := ⟨w2.heap.size, 1, none⟩) lJ3 (by simp)).trans j1; clear hSw; go_simp; try with_reducible rfl)
  try simp only [Act.put, List.getElem_toArray, List.getElem_cons_zero, List.getElem_cons_succ, List.setIfInBounds_toArray, List.set_cons_zero, List.set_cons_succ]
  refine timed_pure (i := 5) (v := ?_) rfl (by kernel_rfl) (by kernel_rfl) (by kernel_rfl) (fun _ _ _ h => h) (by kernel_rfl) (by kernel_rfl) ?_ ?_
  rotate_left
  · (intro w; go_simp; try with_reducible rfl)
  try simp only [Act.put, List.getElem_toArray, List.getElem_cons_zero, List.getElem_cons_succ, List.setIfInBounds_toArray, List.set_cons_zero, List.set_cons_succ]
  refine timed_step (i := 1) (by kernel_rfl) rfl (fun K hK => ?_)
  go_simp
  refine (HM.out _).mono ?_
  rintro e wX1 ⟨rfl, OX1⟩
  refine hK.out _ _ (timed_holds (((Only.refl [] w3).drew).trans OX1) (timed_nil)) ?_
  clear hK K
  try simp only [Act.put, List.getElem_toArray, List.getElem_cons_zero, List.getElem_cons_succ, List.setIfInBounds_toArray, List.set_cons_zero, List.set_cons_succ]
  refine timed_step (i := 3) (by kernel_rfl) rfl (fun K hK => ?_)
  go_simp
  refine (HM'.out _).mono ?_
  rintro e wX2 ⟨rfl, OX2⟩
  refine hK.out _ _ (timed_holds ((((Only.refl [] w3).drew).trans OX1).trans OX2) (timed_nil)) ?_
  clear hK K
  try simp only [Act.put, List.getElem_toArray, List.getElem_cons_zero, List.getElem_cons_succ, List.setIfInBounds_toArray, List.set_cons_zero, List.set_cons_succ]
  refine timed_step (i := 4) (by kernel_rfl) rfl (fun K hK => ?_)
  go_simp
  refine (HS.out _).mono ?_
  rintro e wX3 ⟨rfl, OX3⟩
  refine hK.out _ _ (timed_holds (((((Only.refl [] w3).drew).trans OX1).trans OX2).trans OX3) (timed_nil)) ?_
  clear hK K
  try simp only [Act.put, List.getElem_toArray, List.getElem_cons_zero, List.getElem_cons_succ, List.setIfInBounds_toArray, List.set_cons_zero, List.set_cons_succ]
  refine timed_pure (i := 6) (v := ?_) rfl (by kernel_rfl) (by kernel_rfl) (by kernel_rfl) (fun _ _ _ h => h) (by kernel_rfl) (by kernel_rfl) ?_ ?_
  rotate_left
  · (intro w; go_simp; try with_reducible rfl)
  try simp only [Act.put, List.getElem_toArray, List.getElem_cons_zero, List.getElem_cons_succ, List.setIfInBounds_toArray, List.set_cons_zero, List.set_cons_succ]
  refine timed_read (i := 7) (v := ?_) 0 rfl (by kernel_rfl) (by kernel_rfl) (by kernel_rfl) (fun _ _ _ h => h) (by kernel_rfl) (by kernel_rfl) rfl (by kernel_rfl) ?_ ?_
  rotate_left
  · (intro wq hSw; (try dsimp only at hSw); have hqt0 := (hSw.cell (p := ⟨w.heap.size, 0, none⟩) lT3 (by simp)).trans t0; have hqt1 := (hSw.cell (p := ⟨w.heap.size, 1, none⟩) lT3 (by simp)).trans t1; have hqu0 := (hSw.cell (p := ⟨w.heap.size + 1, 0, none⟩) lU3 (by simp)).trans u0; have hqu1 := (hSw.cell (p := ⟨w.heap.size + 1, 1, none⟩) lU3 (by simp)).trans u1; have hqk0 := (hSw.cell (p := ⟨w1.heap.size, 0, none⟩) lK3 (by simp)).trans k0; have hqk1 := (hSw.cell (p := ⟨w1.heap.size, 1, none⟩) lK3 (by simp)).trans k1; have hqj0 := (hSw.cell (p := ⟨w2.heap.size, 0, none⟩) lJ3 (by simp)).trans j0; have hqj1 := (hSw.cell (p := ⟨w2.heap.size, 1, none⟩) lJ3 (by simp)).trans j1; clear hSw; go_simp; try with_reducible rfl)
  try simp only [Act.put, List.getElem_toArray, List.getElem_cons_zero, List.getElem_cons_succ, List.setIfInBounds_toArray, List.set_cons_zero, List.set_cons_succ]
  refine timed_read (i := 8) (v := ?_) 0 rfl (by kernel_rfl) (by kernel_rfl) (by kernel_rfl) (fun _ _ _ h => h) (by kernel_rfl) (by kernel_rfl) rfl (by kernel_rfl) ?_ ?_
  rotate_left
  · (intro wq hSw; (try dsimp only at hSw); have hqt0 := (hSw.cell (p := ⟨w.heap.size, 0, none⟩) lT3 (by simp)).trans t0; have hqt1 := (hSw.cell (p := ⟨w.heap.size, 1, none⟩) lT3 (by simp)).trans t1; have hqu0 := (hSw.cell (p := ⟨w.heap.size + 1, 0, none⟩) lU3 (by simp)).trans u0; have hqu1 := (hSw.cell (p := ⟨w.heap.size + 1, 1, none⟩) lU3 (by simp)).trans u1; have hqk0 := (hSw.cell (p := ⟨w1.heap.size, 0, none⟩) lK3 (by simp)).trans k0; have hqk1 := (hSw.cell (p := ⟨w1.heap.size, 1, none⟩) lK3 (by simp)).trans k1; have hqj0 := (hSw.cell (p := ⟨w2.heap.size, 0, none⟩) lJ3 (by simp)).trans j0; have hqj1 := (hSw.cell (p := ⟨w2.heap.size, 1, none⟩) lJ3 (by simp)).trans j1; clear hSw; go_simp; try with_reducible rfl)
  try simp only [Act.put, List.getElem_toArray, List.getElem_cons_zero, List.getElem_cons_succ, List.setIfInBounds_toArray, List.set_cons_zero, List.set_cons_succ]
  refine timed_pure (i := 9) (v := ?_) rfl (by kernel_rfl) (by kernel_rfl) (by kernel_rfl) (fun _ _ _ h => h) (by kernel_rfl) (by kernel_rfl) ?_ ?_
  rotate_left
  · (intro w; go_simp; try with_reducible rfl)
  try simp only [Act.put, List.getElem_toArray, List.getElem_cons_zero, List.getElem_cons_succ, List.setIfInBounds_toArray, List.set_cons_zero, List.set_cons_succ]
  refine timed_pure (i := 10) (v := ?_) rfl (by kernel_rfl) (by kernel_rfl) (by kernel_rfl) (fun _ _ _ h => h) (by kernel_rfl) (by kernel_rfl) ?_ ?_
  rotate_left
  · (intro w; go_simp; try with_reducible rfl)
  try simp only [Act.put, List.getElem_toArray, List.getElem_cons_zero, List.getElem_cons_succ, List.setIfInBounds_toArray, List.set_cons_zero, List.set_cons_succ]
  refine timed_pure (i := 11) (v := ?_) rfl (by kernel_rfl) (by kernel_rfl) (by kernel_rfl) (fun _ _ _ h => h) (by kernel_rfl) (by kernel_rfl) ?_ ?_
  rotate_left
  · (intro w; go_simp; try with_reducible rfl)
  try simp only [Act.put, List.getElem_toArray, List.getElem_cons_zero, List.getElem_cons_succ, List.setIfInBounds_toArray, List.set_cons_zero, List.set_cons_succ]
  refine timed_pure (i := 12) (v := ?_) rfl (by kernel_rfl) (by kernel_rfl) (by kernel_rfl) (fun _ _ _ h => h) (by kernel_rfl) (by kernel_rfl) ?_ ?_
  rotate_left
  · (intro w; go_simp; try with_reducible rfl)
  try simp only [Act.put, List.getElem_toArray, List.getElem_cons_zero, List.getElem_cons_succ, List.setIfInBounds_toArray, List.set_cons_zero, List.set_cons_succ]
  refine timed_read (i := 13) (v := ?_) 0 rfl (by kernel_rfl) (by kernel_rfl) (by kernel_rfl) (fun _ _ _ h => h) (by kernel_rfl) (by kernel_rfl) rfl (by kernel_rfl) ?_ ?_
  rotate_left
  · (intro wq hSw; (try dsimp only at hSw); have hqt0 := (hSw.cell (p := ⟨w.heap.size, 0, none⟩) lT3 (by simp)).trans t0; have hqt1 := (hSw.cell (p := ⟨w.heap.size, 1, none⟩) lT3 (by simp)).trans t1; have hqu0 := (hSw.cell (p := ⟨w.heap.size + 1, 0, none⟩) lU3 (by simp)).trans u0; have hqu1 := (hSw.cell (p := ⟨w.heap.size + 1, 1, none⟩) lU3 (by simp)).trans u1; have hqk0 := (hSw.cell (p := ⟨w1.heap.size, 0, none⟩) lK3 (by simp)).trans k0; have hqk1 := (hSw.cell (p := ⟨w1.heap.size, 1, none⟩) lK3 (by simp)).trans k1; have hqj0 := (hSw.cell (p := ⟨w2.heap.size, 0, none⟩) lJ3 (by simp)).trans j0; have hqj1 := (hSw.cell (p := ⟨w2.heap.size, 1, none⟩) lJ3 (by simp)).trans j1; clear hSw; go_simp; try with_reducible rfl)
  try simp only [Act.put, List.getElem_toArray, List.getElem_cons_zero, List.getElem_cons_succ, List.setIfInBounds_toArray, List.set_cons_zero, List.set_cons_succ]
  refine timed_read (i := 15) (v := ?_) 0 rfl (by kernel_rfl) (by kernel_rfl) (by kernel_rfl) (fun _ _ _ h => h) (by kernel_rfl) (by kernel_rfl) rfl (by kernel_rfl) ?_ ?_
  rotate_left
  · (intro wq hSw; (try dsimp only at hSw); have hqt0 := (hSw.cell (p := ⟨w.heap.size, 0, none⟩) lT3 (by simp)).trans t0; have hqt1 := (hSw.cell (p := ⟨w.heap.size, 1, none⟩) lT3 (by simp)).trans t1; have hqu0 := (hSw.cell (p := ⟨w.heap.size + 1, 0, none⟩) lU3 (by simp)).trans u0; have hqu1 := (hSw.cell (p := ⟨w.heap.size + 1, 1, none⟩) lU3 (by simp)).trans u1; have hqk0 := (hSw.cell (p := ⟨w1.heap.size, 0, none⟩) lK3 (by simp)).trans k0; have hqk1 := (hSw.cell (p := ⟨w1.heap.size, 1, none⟩) lK3 (by simp)).trans k1; have hqj0 := (hSw.cell (p := ⟨w2.heap.size, 0, none⟩) lJ3 (by simp)).trans j0; have hqj1 := (hSw.cell (p := ⟨w2.heap.size, 1, none⟩) lJ3 (by simp)).trans j1; clear hSw; go_simp; try with_reducible rfl)
  try simp only [Act.put, List.getElem_toArray, List.getElem_cons_zero, List.getElem_cons_succ, List.setIfInBounds_toArray, List.set_cons_zero, List.set_cons_succ]
  refine timed_pure (i := 18) (v := ?_) rfl (by kernel_rfl) (by kernel_rfl) (by kernel_rfl) (fun _ _ _ h => h) (by kernel_rfl) (by kernel_rfl) ?_ ?_
  rotate_left
  · (intro w; go_simp; try with_reducible rfl)
  try simp only [Act.put, List.getElem_toArray, List.getElem_cons_zero, List.getElem_cons_succ, List.setIfInBounds_toArray, List.set_cons_zero, List.set_cons_succ]
  refine timed_step (i := 14) (by kernel_rfl) rfl (fun K hK => ?_)
  go_simp
  refine (HM.out _).mono ?_
  rintro e wX4 ⟨rfl, OX4⟩
  refine hK.out _ _ (timed_holds ((((((Only.refl [] w3).drew).trans OX1).trans OX2).trans OX3).trans OX4) (timed_nil)) ?_
  clear hK K
  try simp only [Act.put, List.getElem_toArray, List.getElem_cons_zero, List.getElem_cons_succ, List.setIfInBounds_toArray, List.set_cons_zero, List.set_cons_succ]
  refine timed_step (i := 16) (by kernel_rfl) rfl (fun K hK => ?_)
  go_simp
  refine (HM'.out _).mono ?_
  rintro e wX5 ⟨rfl, OX5⟩
  refine hK.out _ _ (timed_holds (((((((Only.refl [] w3).drew).trans OX1).trans OX2).trans OX3).trans OX4).trans OX5) (timed_nil)) ?_
  clear hK K
  try simp only [Act.put, List.getElem_toArray, List.getElem_cons_zero, List.getElem_cons_succ, List.setIfInBounds_toArray, List.set_cons_zero, List.set_cons_succ]
  refine timed_step (i := 17) (by kernel_rfl) rfl (fun K hK => ?_)
  go_simp
  refine (HL.out _).mono ?_
  rintro e wX6 ⟨rfl, OX6⟩
  refine hK.out _ _ (timed_holds ((((((((Only.refl [] w3).drew).trans OX1).trans OX2).trans OX3).trans OX4).trans OX5).trans OX6) (timed_nil)) ?_
  clear hK K
  try simp only [Act.put, List.getElem_toArray, List.getElem_cons_zero, List.getElem_cons_succ, List.setIfInBounds_toArray, List.set_cons_zero, List.set_cons_succ]
  refine timed_pure (i := 19) (v := ?_) rfl (by kernel_rfl) (by kernel_rfl) (by kernel_rfl) (fun _ _ _ h => h) (by kernel_rfl) (by kernel_rfl) ?_ ?_
  rotate_left
  · (intro w; go_simp; try with_reducible rfl)
  try simp only [Act.put, List.getElem_toArray, List.getElem_cons_zero, List.getElem_cons_succ, List.setIfInBounds_toArray, List.set_cons_zero, List.set_cons_succ]
  refine timed_read (i := 20) (v := ?_) 0 rfl (by kernel_rfl) (by kernel_rfl) (by kernel_rfl) (fun _ _ _ h => h) (by kernel_rfl) (by kernel_rfl) rfl (by kernel_rfl) ?_ ?_
  rotate_left
  · (intro wq hSw; (try dsimp only at hSw); have hqt0 := (hSw.cell (p := ⟨w.heap.size, 0, none⟩) lT3 (by simp)).trans t0; have hqt1 := (hSw.cell (p := ⟨w.heap.size, 1, none⟩) lT3 (by simp)).trans t1; have hqu0 := (hSw.cell (p := ⟨w.heap.size + 1, 0, none⟩) lU3 (by simp)).trans u0; have hqu1 := (hSw.cell (p := ⟨w.heap.size + 1, 1, none⟩) lU3 (by simp)).trans u1; have hqk0 := (hSw.cell (p := ⟨w1.heap.size, 0, none⟩) lK3 (by simp)).trans k0; have hqk1 := (hSw.cell (p := ⟨w1.heap.size, 1, none⟩) lK3 (by simp)).trans k1; have hqj0 := (hSw.cell (p := ⟨w2.heap.size, 0, none⟩) lJ3 (by simp)).trans j0; have hqj1 := (hSw.cell (p := ⟨w2.heap.size, 1, none⟩) lJ3 (by simp)).trans j1; clear hSw; go_simp; try with_reducible rfl)
  try simp only [Act.put, List.getElem_toArray, List.getElem_cons_zero, List.getElem_cons_succ, List.setIfInBounds_toArray, List.set_cons_zero, List.set_cons_succ]
  refine timed_read (i := 21) (v := ?_) 0 rfl (by kernel_rfl) (by kernel_rfl) (by kernel_rfl) (fun _ _ _ h => h) (by kernel_rfl) (by kernel_rfl) rfl (by kernel_rfl) ?_ ?_
  rotate_left
  · (intro wq hSw; (try dsimp only at hSw); have hqt0 := (hSw.cell (p := ⟨w.heap.size, 0, none⟩) lT3 (by simp)).trans t0; have hqt1 := (hSw.cell (p := ⟨w.heap.size, 1, none⟩) lT3 (by simp)).trans t1; have hqu0 := (hSw.cell (p := ⟨w.heap.size + 1, 0, none⟩) lU3 (by simp)).trans u0; have hqu1 := (hSw.cell (p := ⟨w.heap.size + 1, 1, none⟩) lU3 (by simp)).trans u1; have hqk0 := (hSw.cell (p := ⟨w1.heap.size, 0, none⟩) lK3 (by simp)).trans k0; have hqk1 := (hSw.cell (p := ⟨w1.heap.size, 1, none⟩) lK3 (by simp)).trans k1; have hqj0 := (hSw.cell (p := ⟨w2.heap.size, 0, none⟩) lJ3 (by simp)).trans j0; have hqj1 := (hSw.cell (p := ⟨w2.heap.size, 1, none⟩) lJ3 (by simp)).trans j1; clear hSw; go_simp; try with_reducible rfl)
  try simp only [Act.put, List.getElem_toArray, List.getElem_cons_zero, List.getElem_cons_succ, List.setIfInBounds_toArray, List.set_cons_zero, List.set_cons_succ]
  refine timed_step (i := 22) (by kernel_rfl) rfl (fun K hK => ?_)
  go_simp
  refine (HR.out _).mono ?_
  rintro e wY ⟨rfl, OY⟩
  refine hK.out _ _ (timed_holds (((((((((Only.refl [] w3).drew).trans OX1).trans OX2).trans OX3).trans OX4).trans OX5).trans OX6).trans OY) (timed_nil)) ?_
  clear hK K
  try simp only [Act.put, List.getElem_toArray, List.getElem_cons_zero, List.getElem_cons_succ, List.setIfInBounds_toArray, List.set_cons_zero, List.set_cons_succ]
  refine timed_pure (i := 23) (v := ?_) rfl (by kernel_rfl) (by kernel_rfl) (by kernel_rfl) (fun _ _ _ h => h) (by kernel_rfl) (by kernel_rfl) ?_ ?_
  rotate_left
  · (intro w; go_simp; try with_reducible rfl)
  try simp only [Act.put, List.getElem_toArray, List.getElem_cons_zero, List.getElem_cons_succ, List.setIfInBounds_toArray, List.set_cons_zero, List.set_cons_succ]
  refine timed_pure (i := 24) (v := ?_) rfl (by kernel_rfl) (by kernel_rfl) (by kernel_rfl) (fun _ _ _ h => h) (by kernel_rfl) (by kernel_rfl) ?_ ?_
  rotate_left
  · (intro w; go_simp; try with_reducible rfl)
  try simp only [Act.put, List.getElem_toArray, List.getElem_cons_zero, List.getElem_cons_succ, List.setIfInBounds_toArray, List.set_cons_zero, List.set_cons_succ]
  refine timed_pure (i := 25) (v := ?_) rfl (by kernel_rfl) (by kernel_rfl) (by kernel_rfl) (fun _ _ _ h => h) (by kernel_rfl) (by kernel_rfl) ?_ ?_
  rotate_left
  · (intro w; go_simp; try with_reducible rfl)
  try simp only [Act.put, List.getElem_toArray, List.getElem_cons_zero, List.getElem_cons_succ, List.setIfInBounds_toArray, List.set_cons_zero, List.set_cons_succ]
  refine timed_pure (i := 26) (v := ?_) rfl (by kernel_rfl) (by kernel_rfl) (by kernel_rfl) (fun _ _ _ h => h) (by kernel_rfl) (by kernel_rfl) ?_ ?_
  rotate_left
  · (intro w; go_simp; try with_reducible rfl)
  try simp only [Act.put, List.getElem_toArray, List.getElem_cons_zero, List.getElem_cons_succ, List.setIfInBounds_toArray, List.set_cons_zero, List.set_cons_succ]
  refine timed_step (i := 27) (by kernel_rfl) rfl (fun K hK => ?_)
  go_simp
  refine (cworks_any _).mono ?_
  rintro e wZ ⟨rfl, OZ⟩
  refine hK.out _ _ (timed_holds ((((((((((Only.refl [] w3).drew).trans OX1).trans OX2).trans OX3).trans OX4).trans OX5).trans OX6).trans OY).trans OZ) (timed_nil)) ?_
  clear hK K
  try simp only [Act.put, List.getElem_toArray, List.getElem_cons_zero, List.getElem_cons_succ, List.setIfInBounds_toArray, List.set_cons_zero, List.set_cons_succ]
  refine timed_pure (i := 28) (v := ?_) rfl (by kernel_rfl) (by kernel_rfl) (by kernel_rfl) (fun _ _ _ h => h) (by kernel_rfl) (by kernel_rfl) ?_ ?_
  rotate_left
  · (intro w; go_simp; try with_reducible rfl)
  try simp only [Act.put, List.getElem_toArray, List.getElem_cons_zero, List.getElem_cons_succ, List.setIfInBounds_toArray, List.set_cons_zero, List.set_cons_succ]
  refine timed_pure (i := 29) (v := ?_) rfl (by kernel_rfl) (by kernel_rfl) (by kernel_rfl) (fun _ _ _ h => h) (by kernel_rfl) (by kernel_rfl) ?_ ?_
  rotate_left
  · (intro w; go_simp; try with_reducible rfl)
  try simp only [Act.put, List.getElem_toArray, List.getElem_cons_zero, List.getElem_cons_succ, List.setIfInBounds_toArray, List.set_cons_zero, List.set_cons_succ]
  refine timed_done (by kernel_rfl) ?_ _
  refine NoPanic.normal ?_
  go_wp2
  go_ret
  exact ⟨rfl, HP.out.trans ((((((((((Only.refl [] w3).drew).trans OX1).trans OX2).trans OX3).trans OX4).trans OX5).trans OX6).trans OY).trans OZ)⟩

theorem cellOrders_walk (t n t' n' : Int) (w : World) : Calls Try.prog 5 #[.agg #[.int .i64 t, .int .i64 n], .agg #[.int .i64 t', .int .i64 n']] w fun e w' => e = .returned (.bool true) ∧ Only [] w w' := by
  by_cases hf : bE t = 0
  · by_cases hg : bE t' = 0
    · by_cases h1 : bK t = bK t'
      · by_cases h2 : bN t n = bN t' n'
        · exact cellOrders_B t n t' n' w ⟨hf, hg⟩ ⟨h1, h2⟩
        · exact cellOrders_C t n t' n' w ⟨hf, hg⟩ ⟨h1, h2⟩
      · exact cellOrders_D t n t' n' w ⟨hf, hg⟩ h1
    · exact cellOrders_A2 t n t' n' w hf hg
  · exact cellOrders_A1 t n t' n' w hf

end Go.Proofs.Ytclikdibpeiamaa
