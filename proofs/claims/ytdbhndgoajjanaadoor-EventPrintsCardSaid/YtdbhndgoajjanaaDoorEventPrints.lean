/- The law EventPrints: its walk. -/
import Derived.Test.YtdbhndgoajjanaaDoorEvW
import Derived.Test.YtdbhndgoajjanaaDoorREv
set_option linter.unusedVariables false
set_option linter.unusedSimpArgs false
namespace Go.Proofs.YtdbhndgoajjanaaDoor
open Go.RowKit
open Go.Lib hiding intOf
attribute [local go_sem ↓] Go.wp_at_zero Go.wp_at_succ

set_option maxRecDepth 10000 in
set_option maxHeartbeats 4000000 in
theorem eventPrints_walk (k : Int) (s y : ByteArray) (vk vn ln : Int) (w : World) (hs : s.size ≤ 9223372036854775807) (hy : y.size ≤ 9223372036854775807) (h1 : -9223372036854775808 ≤ vn) (h2 : vn ≤ 9223372036854775807) (hT : UTabs w) (hM : MLen w) (hV : Verbs w) :
    Calls Tryd.prog 3 #[.agg #[.int .i64 k, .string s, .string y, .int .i64 vk, .int .i64 vn, .int .i64 ln]] w fun e w' => e = .returned (.bool true) ∧ Only [] w w' := by
  have HSS := Lib.hid (fun w' => short7_any s w' hs)
  have HSY := Lib.hid (fun w' => short7_any y w' hy)
  have hss := short7_size s
  have hsy := short7_size y
  have HPR := Lib.hid (fun w' (hO : Only [] w w') => evprint_any k (short7 s) (short7 y) vk vn ln w' (by omega) (by omega) h1 h2 (hT.only hO) (hV.only hO))
  have HRP := Lib.hid (fun w' => revprint_any k (short7 s) (short7 y) vk vn ln w' (by omega) (by omega) h1 h2)
  have HMY := Lib.hid (fun w' (hO : Only [] w w') => evmay_any k (short7 s) (short7 y) vk vn ln w' (by omega) (by omega) (hT.only hO) (hV.only hO))
  have HRM := Lib.hid (fun w' => revmay_any k (short7 s) (short7 y) vk vn ln w' (by omega) (by omega))
  have HW := Lib.hid (fun w' (hO : Only [] w w') => works07_any w' (hT.only hO) (hM.only hO) (hV.only hO))
  generalize short7 s = s' at *
  generalize short7 y = y' at *
  generalize evText k s' y' vk vn = T at *
  generalize evErr k s' y' vk vn = E at *
  generalize evOk k s' y' vk vn = ok at *
  clear hss hsy hs hy h1 h2 hT hM hV
  have HTT : (T.toList == T.toList) = true := by simp
  have HB0 := Lib.hid (Blk.made w 25 #[.int .i64 k, .string s, .string y, .int .i64 vk, .int .i64 vn, .int .i64 ln])
  go_enter Tryd.func3, Tryd.ntmps3
  go_upto_region 1 with (fail)
  have O0 : Only [] w (w.alloc (.cells #[.int .i64 k, .string s, .string y, .int .i64 vk, .int .i64 vn, .int .i64 ln] 25)) := (Only.refl [] w).alloc _
  have HO0 := Lib.hid O0
  clear O0
  generalize hw0 : (w.alloc (.cells #[.int .i64 k, .string s, .string y, .int .i64 vk, .int .i64 vn, .int .i64 ln] 25)) = w0 at *
  clear hw0
  have b0 := HB0.out
  have l0 := b0.lt
  have f1 := b0.at_ 1
  have f2 := b0.at_ 2
  have g1 := b0.free 1
  have g2 := b0.free 2
  simp at f1 f2
  refine wp_region_noPanic ?_
  refine wp_region_timed (F := [⟨[], [7, 9], fun w' => Only [] w0 w'⟩]) (by kernel_rfl) (timed_holds ((Only.refl [] w0).drew) (timed_nil)) ?_
  refine timed_pure (i := 0) (v := ?_) rfl (by kernel_rfl) (by kernel_rfl) (by kernel_rfl) (fun _ _ _ h => h) (by kernel_rfl) (by kernel_rfl) ?_ ?_
  rotate_left
  · (intro w; go_simp; try with_reducible rfl)
  try simp only [Act.put, List.getElem_toArray, List.getElem_cons_zero, List.getElem_cons_succ, List.setIfInBounds_toArray, List.set_cons_zero, List.set_cons_succ]
  refine timed_read (i := 1) (v := ?_) 0 rfl (by kernel_rfl) (by kernel_rfl) (by kernel_rfl) (fun _ _ _ h => h) (by kernel_rfl) (by kernel_rfl) rfl (by kernel_rfl) ?_ ?_
  rotate_left
  · (intro wq hSw; (try dsimp only at hSw); have hq1 := (hSw.blk HB0.out (by simp)).at_ 1; have hq2 := (hSw.blk HB0.out (by simp)).at_ 2; simp at hq1 hq2; clear hSw; go_simp; try with_reducible rfl)
  try simp only [Act.put, List.getElem_toArray, List.getElem_cons_zero, List.getElem_cons_succ, List.setIfInBounds_toArray, List.set_cons_zero, List.set_cons_succ]
  refine timed_pure (i := 3) (v := ?_) rfl (by kernel_rfl) (by kernel_rfl) (by kernel_rfl) (fun _ _ _ h => h) (by kernel_rfl) (by kernel_rfl) ?_ ?_
  rotate_left
  · (intro w; go_simp; try with_reducible rfl)
  try simp only [Act.put, List.getElem_toArray, List.getElem_cons_zero, List.getElem_cons_succ, List.setIfInBounds_toArray, List.set_cons_zero, List.set_cons_succ]
  refine timed_read (i := 4) (v := ?_) 0 rfl (by kernel_rfl) (by kernel_rfl) (by kernel_rfl) (fun _ _ _ h => h) (by kernel_rfl) (by kernel_rfl) rfl (by kernel_rfl) ?_ ?_
  rotate_left
  · (intro wq hSw; (try dsimp only at hSw); have hq1 := (hSw.blk HB0.out (by simp)).at_ 1; have hq2 := (hSw.blk HB0.out (by simp)).at_ 2; simp at hq1 hq2; clear hSw; go_simp; try with_reducible rfl)
  try simp only [Act.put, List.getElem_toArray, List.getElem_cons_zero, List.getElem_cons_succ, List.setIfInBounds_toArray, List.set_cons_zero, List.set_cons_succ]
  refine timed_step (i := 2) (by kernel_rfl) rfl (fun K hK => ?_)
  go_simp
  refine (HSS.out _).mono ?_
  rintro e wx ⟨rfl, rfl⟩
  refine hK.out _ _ (timed_holds ((Only.refl [] w0).drew) (timed_nil)) ?_
  clear hK K
  try simp only [Act.put, List.getElem_toArray, List.getElem_cons_zero, List.getElem_cons_succ, List.setIfInBounds_toArray, List.set_cons_zero, List.set_cons_succ]
  refine timed_pure (i := 6) (v := ?_) rfl (by kernel_rfl) (by kernel_rfl) (by kernel_rfl) (fun _ _ _ h => h) (by kernel_rfl) (by kernel_rfl) ?_ ?_
  rotate_left
  · (intro w; go_simp; try with_reducible rfl)
  try simp only [Act.put, List.getElem_toArray, List.getElem_cons_zero, List.getElem_cons_succ, List.setIfInBounds_toArray, List.set_cons_zero, List.set_cons_succ]
  refine timed_step (i := 5) (by kernel_rfl) rfl (fun K hK => ?_)
  go_simp
  refine (HSY.out _).mono ?_
  rintro e wx ⟨rfl, rfl⟩
  refine hK.out _ _ (timed_holds ((Only.refl [] w0).drew) (timed_nil)) ?_
  clear hK K
  try simp only [Act.put, List.getElem_toArray, List.getElem_cons_zero, List.getElem_cons_succ, List.setIfInBounds_toArray, List.set_cons_zero, List.set_cons_succ]
  refine timed_step (i := 7) (by kernel_rfl) rfl (fun K hK => ?_)
  go_simp
  refine hK.out _ _ (timed_over (by kernel_rfl) (timed_nil)) ?_
  clear hK K
  try simp only [Act.put, List.getElem_toArray, List.getElem_cons_zero, List.getElem_cons_succ, List.setIfInBounds_toArray, List.set_cons_zero, List.set_cons_succ]
  refine timed_pure (i := 8) (v := ?_) rfl (by kernel_rfl) (by kernel_rfl) (by kernel_rfl) (fun _ _ _ h => h) (by kernel_rfl) (by kernel_rfl) ?_ ?_
  rotate_left
  · (intro w; go_simp; try with_reducible rfl)
  try simp only [Act.put, List.getElem_toArray, List.getElem_cons_zero, List.getElem_cons_succ, List.setIfInBounds_toArray, List.set_cons_zero, List.set_cons_succ]
  refine timed_step (i := 9) (by kernel_rfl) rfl (fun K hK => ?_)
  go_simp
  refine hK.out _ _ (timed_over (by kernel_rfl) (timed_nil)) ?_
  clear hK K
  try simp only [Act.put, List.getElem_toArray, List.getElem_cons_zero, List.getElem_cons_succ, List.setIfInBounds_toArray, List.set_cons_zero, List.set_cons_succ]
  refine timed_done (by kernel_rfl) ?_ _
  refine NoPanic.normal ?_
  have bE : Blk ((w0.setCell ⟨w.heap.size, 1, none⟩ (.string s')).setCell ⟨w.heap.size, 2, none⟩ (.string y')).drew w.heap.size 25 #[.int .i64 k, .string s', .string y', .int .i64 vk, .int .i64 vn, .int .i64 ln] := (b0.put 1 (.string s')).put 2 (.string y')
  have hO1 : Only [] w ((w0.setCell ⟨w.heap.size, 1, none⟩ (.string s')).setCell ⟨w.heap.size, 2, none⟩ (.string y')).drew := ((HO0.out.put (p := ⟨w.heap.size, 1, none⟩) (fun h => by simp only at h; omega) (.string s')).put (p := ⟨w.heap.size, 2, none⟩) (fun h => by simp only at h; omega) (.string y')).drew
  have HO1 := Lib.hid hO1
  clear b0 l0 f1 f2 g1 g2 HB0 HO0 hO1
  generalize ((w0.setCell ⟨w.heap.size, 1, none⟩ (.string s')).setCell ⟨w.heap.size, 2, none⟩ (.string y')).drew = w1 at *
  have lE := bE.lt
  have f0 := bE.at_ 0
  have f1 := bE.at_ 1
  have f2 := bE.at_ 2
  have f3 := bE.at_ 3
  have f4 := bE.at_ 4
  have f5 := bE.at_ 5
  simp at f0 f1 f2 f3 f4 f5
  go_wp2_with fail
  refine (HPR.out _ HO1.out).mono ?_
  rintro e w2 ⟨rfl, O2⟩
  have HO2 := Lib.hid (HO1.out.trans O2)
  have bE2 := O2.blk bE (by simp)
  clear lE f0 f1 f2 f3 f4 f5 bE O2
  have lE := bE2.lt
  have f0 := bE2.at_ 0
  have f1 := bE2.at_ 1
  have f2 := bE2.at_ 2
  have f3 := bE2.at_ 3
  have f4 := bE2.at_ 4
  have f5 := bE2.at_ 5
  simp at f0 f1 f2 f3 f4 f5
  go_wp2_with fail
  refine (HRP.out _).mono ?_
  rintro e w3 ⟨rfl, O3⟩
  have HO3 := Lib.hid (HO2.out.trans O3)
  have bE3 := Lib.hid (O3.blk bE2 (by simp))
  clear lE f0 f1 f2 f3 f4 f5 bE2 O3
  go_upto_region 4 with (fail)
  refine wp_region_noPanic ?_
  refine wp_region_timed (F := [⟨[], [], fun w' => Only [] w3 w'⟩]) (by kernel_rfl) (timed_holds ((Only.refl [] w3).drew) (timed_nil)) ?_
  refine timed_pure (i := 0) (v := ?_) rfl (by kernel_rfl) (by kernel_rfl) (by kernel_rfl) (fun _ _ _ h => h) (by kernel_rfl) (by kernel_rfl) ?_ ?_
  rotate_left
  · (intro w; go_simp; try with_reducible rfl)
  try simp only [Act.put, List.getElem_toArray, List.getElem_cons_zero, List.getElem_cons_succ, List.setIfInBounds_toArray, List.set_cons_zero, List.set_cons_succ]
  refine timed_pure (i := 1) (v := ?_) rfl (by kernel_rfl) (by kernel_rfl) (by kernel_rfl) (fun _ _ _ h => h) (by kernel_rfl) (by kernel_rfl) ?_ ?_
  rotate_left
  · (intro w; go_simp; try with_reducible rfl)
  try simp only [Act.put, List.getElem_toArray, List.getElem_cons_zero, List.getElem_cons_succ, List.setIfInBounds_toArray, List.set_cons_zero, List.set_cons_succ]
  refine timed_pure (i := 2) (v := ?_) rfl (by kernel_rfl) (by kernel_rfl) (by kernel_rfl) (fun _ _ _ h => h) (by kernel_rfl) (by kernel_rfl) ?_ ?_
  rotate_left
  · (intro w; go_simp; try with_reducible rfl)
  try simp only [Act.put, List.getElem_toArray, List.getElem_cons_zero, List.getElem_cons_succ, List.setIfInBounds_toArray, List.set_cons_zero, List.set_cons_succ]
  refine timed_pure (i := 3) (v := ?_) rfl (by kernel_rfl) (by kernel_rfl) (by kernel_rfl) (fun _ _ _ h => h) (by kernel_rfl) (by kernel_rfl) ?_ ?_
  rotate_left
  · (intro w; go_simp; try with_reducible rfl)
  try simp only [Act.put, List.getElem_toArray, List.getElem_cons_zero, List.getElem_cons_succ, List.setIfInBounds_toArray, List.set_cons_zero, List.set_cons_succ]
  refine timed_pure (i := 4) (v := ?_) rfl (by kernel_rfl) (by kernel_rfl) (by kernel_rfl) (fun _ _ _ h => h) (by kernel_rfl) (by kernel_rfl) ?_ ?_
  rotate_left
  · (intro w; go_simp; try with_reducible rfl)
  try simp only [Act.put, List.getElem_toArray, List.getElem_cons_zero, List.getElem_cons_succ, List.setIfInBounds_toArray, List.set_cons_zero, List.set_cons_succ]
  refine timed_pure (i := 5) (v := ?_) rfl (by kernel_rfl) (by kernel_rfl) (by kernel_rfl) (fun _ _ _ h => h) (by kernel_rfl) (by kernel_rfl) ?_ ?_
  rotate_left
  · (intro w; go_simp; try with_reducible rfl)
  try simp only [Act.put, List.getElem_toArray, List.getElem_cons_zero, List.getElem_cons_succ, List.setIfInBounds_toArray, List.set_cons_zero, List.set_cons_succ]
  refine timed_pure (i := 6) (v := ?_) rfl (by kernel_rfl) (by kernel_rfl) (by kernel_rfl) (fun _ _ _ h => h) (by kernel_rfl) (by kernel_rfl) ?_ ?_
  rotate_left
  · (intro w; go_simp; try with_reducible rfl)
  try simp only [Act.put, List.getElem_toArray, List.getElem_cons_zero, List.getElem_cons_succ, List.setIfInBounds_toArray, List.set_cons_zero, List.set_cons_succ]
  refine timed_pure (i := 7) (v := ?_) rfl (by kernel_rfl) (by kernel_rfl) (by kernel_rfl) (fun _ _ _ h => h) (by kernel_rfl) (by kernel_rfl) ?_ ?_
  rotate_left
  · (intro w; go_simp; try with_reducible rfl)
  try simp only [Act.put, List.getElem_toArray, List.getElem_cons_zero, List.getElem_cons_succ, List.setIfInBounds_toArray, List.set_cons_zero, List.set_cons_succ]
  refine timed_pure (i := 8) (v := ?_) rfl (by kernel_rfl) (by kernel_rfl) (by kernel_rfl) (fun _ _ _ h => h) (by kernel_rfl) (by kernel_rfl) ?_ ?_
  rotate_left
  · (intro w; go_simp; try with_reducible rfl)
  try simp only [Act.put, List.getElem_toArray, List.getElem_cons_zero, List.getElem_cons_succ, List.setIfInBounds_toArray, List.set_cons_zero, List.set_cons_succ]
  refine timed_read (i := 9) (v := ?_) 0 rfl (by kernel_rfl) (by kernel_rfl) (by kernel_rfl) (fun _ _ _ h => h) (by kernel_rfl) (by kernel_rfl) rfl (by kernel_rfl) ?_ ?_
  rotate_left
  · (intro wq hSw; (try dsimp only at hSw); have hb := hSw.blk bE3.out (by simp); have hl := hb.lt; have hq0 := hb.at_ 0; have hq1 := hb.at_ 1; have hq2 := hb.at_ 2; have hq3 := hb.at_ 3; have hq4 := hb.at_ 4; have hq5 := hb.at_ 5; simp at hq0 hq1 hq2 hq3 hq4 hq5; clear hb; clear hSw; go_simp; try with_reducible rfl)
  try simp only [Act.put, List.getElem_toArray, List.getElem_cons_zero, List.getElem_cons_succ, List.setIfInBounds_toArray, List.set_cons_zero, List.set_cons_succ]
  refine timed_read (i := 11) (v := ?_) 0 rfl (by kernel_rfl) (by kernel_rfl) (by kernel_rfl) (fun _ _ _ h => h) (by kernel_rfl) (by kernel_rfl) rfl (by kernel_rfl) ?_ ?_
  rotate_left
  · (intro wq hSw; (try dsimp only at hSw); have hb := hSw.blk bE3.out (by simp); have hl := hb.lt; have hq0 := hb.at_ 0; have hq1 := hb.at_ 1; have hq2 := hb.at_ 2; have hq3 := hb.at_ 3; have hq4 := hb.at_ 4; have hq5 := hb.at_ 5; simp at hq0 hq1 hq2 hq3 hq4 hq5; clear hb; clear hSw; go_simp; try with_reducible rfl)
  try simp only [Act.put, List.getElem_toArray, List.getElem_cons_zero, List.getElem_cons_succ, List.setIfInBounds_toArray, List.set_cons_zero, List.set_cons_succ]
  refine timed_step (i := 10) (by kernel_rfl) rfl (fun K hK => ?_)
  go_simp
  refine (HMY.out _ (HO3.out.drew)).mono ?_
  rintro e w4 ⟨rfl, O4⟩
  have HO4 := Lib.hid (((Only.refl [] w3).drew).trans O4)
  clear O4
  refine hK.out _ _ (timed_holds (HO4.out) (timed_nil)) ?_
  clear hK K
  try simp only [Act.put, List.getElem_toArray, List.getElem_cons_zero, List.getElem_cons_succ, List.setIfInBounds_toArray, List.set_cons_zero, List.set_cons_succ]
  refine timed_step (i := 12) (by kernel_rfl) rfl (fun K hK => ?_)
  go_simp
  refine (HRM.out _).mono ?_
  rintro e w5 ⟨rfl, O5⟩
  have HO5 := Lib.hid (HO4.out.trans O5)
  clear O5
  refine hK.out _ _ (timed_holds (HO5.out) (timed_nil)) ?_
  clear hK K
  try simp only [Act.put, List.getElem_toArray, List.getElem_cons_zero, List.getElem_cons_succ, List.setIfInBounds_toArray, List.set_cons_zero, List.set_cons_succ]
  refine timed_pure (i := 13) (v := ?_) rfl (by kernel_rfl) (by kernel_rfl) (by kernel_rfl) (fun _ _ _ h => h) (by kernel_rfl) (by kernel_rfl) ?_ ?_
  rotate_left
  · (intro w; go_simp; try with_reducible rfl)
  try simp only [Act.put, List.getElem_toArray, List.getElem_cons_zero, List.getElem_cons_succ, List.setIfInBounds_toArray, List.set_cons_zero, List.set_cons_succ]
  refine timed_pure (i := 14) (v := ?_) rfl (by kernel_rfl) (by kernel_rfl) (by kernel_rfl) (fun _ _ _ h => h) (by kernel_rfl) (by kernel_rfl) ?_ ?_
  rotate_left
  · (intro w; go_simp; try with_reducible rfl)
  try simp only [Act.put, List.getElem_toArray, List.getElem_cons_zero, List.getElem_cons_succ, List.setIfInBounds_toArray, List.set_cons_zero, List.set_cons_succ]
  refine timed_pure (i := 15) (v := ?_) rfl (by kernel_rfl) (by kernel_rfl) (by kernel_rfl) (fun _ _ _ h => h) (by kernel_rfl) (by kernel_rfl) ?_ ?_
  rotate_left
  · (intro w; go_simp; try with_reducible rfl)
  try simp only [Act.put, List.getElem_toArray, List.getElem_cons_zero, List.getElem_cons_succ, List.setIfInBounds_toArray, List.set_cons_zero, List.set_cons_succ]
  refine timed_step (i := 16) (by kernel_rfl) rfl (fun K hK => ?_)
  go_simp
  refine (HW.out _ (HO3.out.trans HO5.out)).mono ?_
  rintro e w6 ⟨rfl, O6⟩
  have HF := Lib.hid ((HO3.out.trans HO5.out).trans O6)
  have HF6 := Lib.hid (HO5.out.trans O6)
  clear O6
  refine hK.out _ _ (timed_holds (HF6.out) (timed_nil)) ?_
  clear hK K
  try simp only [Act.put, List.getElem_toArray, List.getElem_cons_zero, List.getElem_cons_succ, List.setIfInBounds_toArray, List.set_cons_zero, List.set_cons_succ]
  refine timed_pure (i := 17) (v := ?_) rfl (by kernel_rfl) (by kernel_rfl) (by kernel_rfl) (fun _ _ _ h => h) (by kernel_rfl) (by kernel_rfl) ?_ ?_
  rotate_left
  · (intro w; go_simp; try with_reducible rfl)
  try simp only [Act.put, List.getElem_toArray, List.getElem_cons_zero, List.getElem_cons_succ, List.setIfInBounds_toArray, List.set_cons_zero, List.set_cons_succ]
  refine timed_pure (i := 18) (v := ?_) rfl (by kernel_rfl) (by kernel_rfl) (by kernel_rfl) (fun _ _ _ h => h) (by kernel_rfl) (by kernel_rfl) ?_ ?_
  rotate_left
  · (intro w; go_simp; try with_reducible rfl)
  try simp only [Act.put, List.getElem_toArray, List.getElem_cons_zero, List.getElem_cons_succ, List.setIfInBounds_toArray, List.set_cons_zero, List.set_cons_succ]
  refine timed_done (by kernel_rfl) ?_ _
  refine NoPanic.normal ?_
  go_wp2
  go_ret
  exact ⟨rfl, HF.out⟩

end Go.Proofs.YtdbhndgoajjanaaDoor
