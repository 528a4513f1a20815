/- The law EventBack: its walk. -/
import Derived.Test.YtdbhndgoajjanaaDoorEvW
import Derived.Test.YtdbhndgoajjanaaDoorEvBack
set_option linter.unusedVariables false
set_option linter.unusedSimpArgs false
namespace Go.Proofs.YtdbhndgoajjanaaDoor
open Go.RowKit
open Go.Lib hiding intOf
attribute [local go_sem ↓] Go.wp_at_zero Go.wp_at_succ

theorem evText_size (k : Int) (s y : ByteArray) (vk vn : Int) (h1 : -9223372036854775808 ≤ vn) (h2 : vn ≤ 9223372036854775807) (hs : s.size ≤ 2000) (hy : y.size ≤ 2000) : (evText k s y vk vn).size ≤ 5000 := by
  have := evWords_len k s y vk vn h1 h2 hs hy
  unfold evText
  split
  · simpa [ByteArray.size] using this
  · simp [ByteArray.size]

set_option maxRecDepth 10000 in
set_option maxHeartbeats 8000000 in
theorem eventBack_walk (k : Int) (s y : ByteArray) (vk vn ln : Int) (q : ByteArray) (w : World) (hs : s.size ≤ 9223372036854775807) (hy : y.size ≤ 9223372036854775807) (hq : q.size ≤ 9223372036854775807) (h1 : -9223372036854775808 ≤ vn) (h2 : vn ≤ 9223372036854775807) (hT : UTabs w) (hM : MLen w) (hV : Verbs w) :
    Calls Tryd.prog 4 #[.agg #[.int .i64 k, .string s, .string y, .int .i64 vk, .int .i64 vn, .int .i64 ln], .string q] w fun e w' => e = .returned (.bool true) ∧ Only [] w w' := by
  have HSS := Lib.hid (fun w' => short7_any s w' hs)
  have HSY := Lib.hid (fun w' => short7_any y w' hy)
  have HSQ := Lib.hid (fun w' => short7_any q w' hq)
  have hss := short7_size s
  have hsy := short7_size y
  have hsq := short7_size q
  have HPR := Lib.hid (fun w' (hO : Only [] w w') => evprint_any k (short7 s) (short7 y) vk vn ln w' (by omega) (by omega) h1 h2 (hT.only hO) (hV.only hO))
  have HPT := Lib.hid (fun w' (hO : Only [] w w') => evparse_any (evText k (short7 s) (short7 y) vk vn) w' (by have := evText_size k (short7 s) (short7 y) vk vn h1 h2 (by omega) (by omega); omega) (hT.only hO) (hM.only hO) (hV.only hO))
  have HPQ := Lib.hid (fun w' (hO : Only [] w w') => evparse_any (short7 q) w' (by omega) (hT.only hO) (hM.only hO) (hV.only hO))
  have HW := Lib.hid (fun w' (hO : Only [] w w') => works07_any w' (hT.only hO) (hM.only hO) (hV.only hO))
  have HBK : Hid ((evErr k (short7 s) (short7 y) vk vn = 0 ∧ evParse (evText k (short7 s) (short7 y) vk vn) = ⟨k, short7 s, short7 y, vk, vn, true, 0⟩) ∨ evErr k (short7 s) (short7 y) vk vn = 4) := Lib.hid (by
    cases ho : evOk k (short7 s) (short7 y) vk vn with
    | true => exact .inl ⟨if_pos ho, ev_back ho h1 h2⟩
    | false => exact .inr (if_neg (by rw [ho]; simp)))
  have HMQ := Lib.hid (ev_may (short7 q))
  have hys : (evParse (short7 q)).s.size ≤ 9223372036854775807 ∧ (evParse (short7 q)).y.size ≤ 9223372036854775807 := ev_sizes (short7 q) (by omega)
  have HMY := Lib.hid (fun w' ln (hO : Only [] w w') => evmay_any (evParse (short7 q)).k (evParse (short7 q)).s (evParse (short7 q)).y (evParse (short7 q)).vk (evParse (short7 q)).vn ln w' hys.1 hys.2 (hT.only hO) (hV.only hO))
  clear hys
  unfold evRV at HPT HPQ
  generalize evParse (short7 q) = r2 at *
  generalize evParse (evText k (short7 s) (short7 y) vk vn) = r1 at *
  generalize evText k (short7 s) (short7 y) vk vn = T at *
  generalize short7 s = s' at *
  generalize short7 y = y' at *
  generalize short7 q = q' at *
  generalize evErr k s' y' vk vn = E at *
  obtain ⟨k1, s1, y1, vk1, vn1, is1, e1⟩ := r1
  obtain ⟨k2, s2, y2, vk2, vn2, is2, e2⟩ := r2
  dsimp only at HPT HPQ HMQ HMY
  generalize evOk k2 s2 y2 vk2 vn2 = mo at *
  clear hss hsy hsq hs hy hq h1 h2 hT hM hV
  have HB0 := Lib.hid (Blk.made w 25 #[.int .i64 k, .string s, .string y, .int .i64 vk, .int .i64 vn, .int .i64 ln])
  have HO0 := Lib.hid ((Only.refl [] w).alloc (.cells #[.int .i64 k, .string s, .string y, .int .i64 vk, .int .i64 vn, .int .i64 ln] 25))
  go_enter Tryd.func4, Tryd.ntmps4
  go_wp2_with fail
  refine (HW.out _ HO0.out).mono ?_
  rintro e w0 ⟨rfl, O0⟩
  have HO1 := Lib.hid (HO0.out.trans O0)
  have b0 := O0.blk HB0.out (by simp)
  have HB1 := Lib.hid b0
  have l0 := b0.lt
  have f1 := b0.at_ 1
  have f2 := b0.at_ 2
  have g1 := b0.free 1
  have g2 := b0.free 2
  simp at f1 f2
  clear O0 HB0 HO0
  go_upto_region 3 with (fail)
  have HB0 := HB1
  refine wp_region_noPanic ?_
  refine wp_region_timed (F := [⟨[], [7, 9], fun w' => Only [] w0 w'⟩]) (by kernel_rfl) (timed_holds ((Only.refl [] w0).drew) (timed_nil)) ?_
  refine timed_pure (i := 0) (v := ?_) rfl (by kernel_rfl) (by kernel_rfl) (by kernel_rfl) (fun _ _ _ h => h) (by kernel_rfl) (by kernel_rfl) ?_ ?_
  rotate_left
  · (intro w; go_simp; try with_reducible rfl)
  try simp only [Act.put, List.getElem_toArray, List.getElem_cons_zero, List.getElem_cons_succ, List.setIfInBounds_toArray, List.set_cons_zero, List.set_cons_succ]
  refine timed_read (i := 1) (v := ?_) 0 rfl (by kernel_rfl) (by kernel_rfl) (by kernel_rfl) (fun _ _ _ h => h) (by kernel_rfl) (by kernel_rfl) rfl (by kernel_rfl) ?_ ?_
  rotate_left
  · (intro wq hSw; (try dsimp only at hSw); have hq1 := (hSw.blk HB0.out (by simp)).at_ 1; have hq2 := (hSw.blk HB0.out (by simp)).at_ 2; simp at hq1 hq2; clear hSw; go_simp; try with_reducible rfl)
  try simp only [Act.put, List.getElem_toArray, List.getElem_cons_zero, List.getElem_cons_succ, List.setIfInBounds_toArray, List.set_cons_zero, List.set_cons_succ]
  refine timed_pure (i := 3) (v := ?_) rfl (by kernel_rfl) (by kernel_rfl) (by kernel_rfl) (fun _ _ _ h => h) (by kernel_rfl) (by kernel_rfl) ?_ ?_
  rotate_left
  · (intro w; go_simp; try with_reducible rfl)
  try simp only [Act.put, List.getElem_toArray, List.getElem_cons_zero, List.getElem_cons_succ, List.setIfInBounds_toArray, List.set_cons_zero, List.set_cons_succ]
  refine timed_read (i := 4) (v := ?_) 0 rfl (by kernel_rfl) (by kernel_rfl) (by kernel_rfl) (fun _ _ _ h => h) (by kernel_rfl) (by kernel_rfl) rfl (by kernel_rfl) ?_ ?_
  rotate_left
  · (intro wq hSw; (try dsimp only at hSw); have hq1 := (hSw.blk HB0.out (by simp)).at_ 1; have hq2 := (hSw.blk HB0.out (by simp)).at_ 2; simp at hq1 hq2; clear hSw; go_simp; try with_reducible rfl)
  try simp only [Act.put, List.getElem_toArray, List.getElem_cons_zero, List.getElem_cons_succ, List.setIfInBounds_toArray, List.set_cons_zero, List.set_cons_succ]
  refine timed_step (i := 2) (by kernel_rfl) rfl (fun K hK => ?_)
  go_simp
  refine (HSS.out _).mono ?_
  rintro e wx ⟨rfl, rfl⟩
  refine hK.out _ _ (timed_holds ((Only.refl [] w0).drew) (timed_nil)) ?_
  clear hK K
  try simp only [Act.put, List.getElem_toArray, List.getElem_cons_zero, List.getElem_cons_succ, List.setIfInBounds_toArray, List.set_cons_zero, List.set_cons_succ]
  refine timed_pure (i := 6) (v := ?_) rfl (by kernel_rfl) (by kernel_rfl) (by kernel_rfl) (fun _ _ _ h => h) (by kernel_rfl) (by kernel_rfl) ?_ ?_
  rotate_left
  · (intro w; go_simp; try with_reducible rfl)
  try simp only [Act.put, List.getElem_toArray, List.getElem_cons_zero, List.getElem_cons_succ, List.setIfInBounds_toArray, List.set_cons_zero, List.set_cons_succ]
  refine timed_step (i := 5) (by kernel_rfl) rfl (fun K hK => ?_)
  go_simp
  refine (HSY.out _).mono ?_
  rintro e wx ⟨rfl, rfl⟩
  refine hK.out _ _ (timed_holds ((Only.refl [] w0).drew) (timed_nil)) ?_
  clear hK K
  try simp only [Act.put, List.getElem_toArray, List.getElem_cons_zero, List.getElem_cons_succ, List.setIfInBounds_toArray, List.set_cons_zero, List.set_cons_succ]
  refine timed_step (i := 7) (by kernel_rfl) rfl (fun K hK => ?_)
  go_simp
  refine hK.out _ _ (timed_over (by kernel_rfl) (timed_nil)) ?_
  clear hK K
  try simp only [Act.put, List.getElem_toArray, List.getElem_cons_zero, List.getElem_cons_succ, List.setIfInBounds_toArray, List.set_cons_zero, List.set_cons_succ]
  refine timed_pure (i := 8) (v := ?_) rfl (by kernel_rfl) (by kernel_rfl) (by kernel_rfl) (fun _ _ _ h => h) (by kernel_rfl) (by kernel_rfl) ?_ ?_
  rotate_left
  · (intro w; go_simp; try with_reducible rfl)
  try simp only [Act.put, List.getElem_toArray, List.getElem_cons_zero, List.getElem_cons_succ, List.setIfInBounds_toArray, List.set_cons_zero, List.set_cons_succ]
  refine timed_step (i := 9) (by kernel_rfl) rfl (fun K hK => ?_)
  go_simp
  refine hK.out _ _ (timed_over (by kernel_rfl) (timed_nil)) ?_
  clear hK K
  try simp only [Act.put, List.getElem_toArray, List.getElem_cons_zero, List.getElem_cons_succ, List.setIfInBounds_toArray, List.set_cons_zero, List.set_cons_succ]
  refine timed_done (by kernel_rfl) ?_ _
  refine NoPanic.normal ?_
  have bE : Blk ((w0.setCell ⟨w.heap.size, 1, none⟩ (.string s')).setCell ⟨w.heap.size, 2, none⟩ (.string y')).drew w.heap.size 25 #[.int .i64 k, .string s', .string y', .int .i64 vk, .int .i64 vn, .int .i64 ln] := (b0.put 1 (.string s')).put 2 (.string y')
  have hO1 : Only [] w ((w0.setCell ⟨w.heap.size, 1, none⟩ (.string s')).setCell ⟨w.heap.size, 2, none⟩ (.string y')).drew := ((HO1.out.put (p := ⟨w.heap.size, 1, none⟩) (fun h => by simp only at h; omega) (.string s')).put (p := ⟨w.heap.size, 2, none⟩) (fun h => by simp only at h; omega) (.string y')).drew
  have HO2 := Lib.hid hO1
  clear b0 l0 f1 f2 g1 g2 HB0 HB1 HO1 hO1
  generalize ((w0.setCell ⟨w.heap.size, 1, none⟩ (.string s')).setCell ⟨w.heap.size, 2, none⟩ (.string y')).drew = w1 at *
  have lE := bE.lt
  have f0 := bE.at_ 0
  have f1 := bE.at_ 1
  have f2 := bE.at_ 2
  have f3 := bE.at_ 3
  have f4 := bE.at_ 4
  have f5 := bE.at_ 5
  simp at f0 f1 f2 f3 f4 f5
  go_wp2_with fail
  refine (HPR.out _ HO2.out).mono ?_
  rintro e w2 ⟨rfl, O2⟩
  have HO3 := Lib.hid (HO2.out.trans O2)
  have bE2 := O2.blk bE (by simp)
  clear lE f0 f1 f2 f3 f4 f5 bE O2
  go_wp2_with fail
  refine (HPT.out _ HO3.out).mono ?_
  rintro e w3 ⟨rfl, O3⟩
  have c0 := O3.blk bE2 (by simp)
  have lE3 := c0.lt
  have f5 := c0.at_ 5
  have g5 := c0.free 5
  simp at f5
  have HC0 := Lib.hid c0
  have HOC := Lib.hid (HO3.out.trans O3)
  clear bE2 O3 c0
  go_upto_region 7 with (fail)
  have bE4 : Blk ((w3.setCell ⟨w.heap.size, 5, none⟩ (.int .i64 0)).alloc (.cells #[.int .i64 k1, .string s1, .string y1, .int .i64 vk1, .int .i64 vn1, .int .i64 0] 25)) w.heap.size 25 #[.int .i64 k, .string s', .string y', .int .i64 vk, .int .i64 vn, .int .i64 0] := (HC0.out.put 5 (.int .i64 0)).alloc _
  have bY4 := Blk.made (w3.setCell ⟨w.heap.size, 5, none⟩ (.int .i64 0)) 25 #[.int .i64 k1, .string s1, .string y1, .int .i64 vk1, .int .i64 vn1, .int .i64 0]
  have hsz : (w3.setCell ⟨w.heap.size, 5, none⟩ (.int .i64 0)).heap.size = w3.heap.size := by simp
  rw [hsz] at bY4
  have hO4 : Only [] w ((w3.setCell ⟨w.heap.size, 5, none⟩ (.int .i64 0)).alloc (.cells #[.int .i64 k1, .string s1, .string y1, .int .i64 vk1, .int .i64 vn1, .int .i64 0] 25)) := (HOC.out.put (fun h => by simp only at h; omega) _).alloc _
  have HO4 := Lib.hid hO4
  clear hO4 lE3 f5 g5 HC0 HOC hsz
  generalize ((w3.setCell ⟨w.heap.size, 5, none⟩ (.int .i64 0)).alloc (.cells #[.int .i64 k1, .string s1, .string y1, .int .i64 vk1, .int .i64 vn1, .int .i64 0] 25)) = w4 at *
  generalize w3.heap.size = gy at *
  have lE := bE4.lt
  have lY := bY4.lt
  have a0 := bE4.at_ 0
  have a1 := bE4.at_ 1
  have a2 := bE4.at_ 2
  have a3 := bE4.at_ 3
  have a4 := bE4.at_ 4
  have a5 := bE4.at_ 5
  have d0 := bY4.at_ 0
  have d1 := bY4.at_ 1
  have d2 := bY4.at_ 2
  have d3 := bY4.at_ 3
  have d4 := bY4.at_ 4
  have d5 := bY4.at_ 5
  simp at a0 a1 a2 a3 a4 a5 d0 d1 d2 d3 d4 d5
  have hb := HBK.out
  clear HBK
  rcases hb with ⟨rfl, hr1⟩ | rfl
  · injection hr1 with r1 r2 r3 r4 r5 r6 r7
    subst r1 r2 r3 r4 r5 r6 r7
    have hss : (s1.toList == s1.toList) = true := by simp
    have hyy : (y1.toList == y1.toList) = true := by simp
    go_wp2_with fail
    clear a0 a1 a2 a3 a4 a5 d0 d1 d2 d3 d4 d5 lE lY bE4 bY4
    refine (HSQ.out _).mono ?_
    rintro e w5 ⟨rfl, rfl⟩
    go_wp2_with fail
    refine (HPQ.out _ HO4.out).mono ?_
    rintro e w6 ⟨rfl, O6⟩
    have HO6 := Lib.hid ((HO4.out.trans O6).alloc (.cells #[.int .i64 k2, .string s2, .string y2, .int .i64 vk2, .int .i64 vn2, .int .i64 0] 25))
    clear O6
    cases is2 with
    | false =>
      go_wp2
      go_ret
      exact ⟨rfl, HO6.out⟩
    | true =>
      obtain ⟨rfl, rfl⟩ := HMQ.out rfl
      go_wp2_with fail
      refine (HMY.out _ 0 HO6.out).mono ?_
      rintro e w7 ⟨rfl, O7⟩
      have HO7 := Lib.hid (HO6.out.trans O7)
      clear O7
      go_wp2
      go_ret
      exact ⟨rfl, HO7.out⟩
  · clear a0 a1 a2 a3 a4 a5 d0 d1 d2 d3 d4 d5
    go_wp2_with fail
    clear lE lY bE4 bY4
    refine (HSQ.out _).mono ?_
    rintro e w5 ⟨rfl, rfl⟩
    go_wp2_with fail
    refine (HPQ.out _ HO4.out).mono ?_
    rintro e w6 ⟨rfl, O6⟩
    have HO6 := Lib.hid ((HO4.out.trans O6).alloc (.cells #[.int .i64 k2, .string s2, .string y2, .int .i64 vk2, .int .i64 vn2, .int .i64 0] 25))
    clear O6
    cases is2 with
    | false =>
      go_wp2
      go_ret
      exact ⟨rfl, HO6.out⟩
    | true =>
      obtain ⟨rfl, rfl⟩ := HMQ.out rfl
      go_wp2_with fail
      refine (HMY.out _ 0 HO6.out).mono ?_
      rintro e w7 ⟨rfl, O7⟩
      have HO7 := Lib.hid (HO6.out.trans O7)
      clear O7
      go_wp2
      go_ret
      exact ⟨rfl, HO7.out⟩

end Go.Proofs.YtdbhndgoajjanaaDoor
