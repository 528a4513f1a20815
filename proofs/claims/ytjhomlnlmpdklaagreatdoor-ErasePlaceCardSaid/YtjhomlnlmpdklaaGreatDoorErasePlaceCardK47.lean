/- The document's erase: Place. -/
import Derived.Test.YtjhomlnlmpdklaaGreatDoorErasePlaceCardK38
import Derived.Test.YtjhomlnlmpdklaaGreatDoorErasePlaceCardK46
import Derived.Test.YtjhomlnlmpdklaaGreatDoorErasePlaceCardK11
set_option linter.unusedVariables false
set_option linter.unusedSimpArgs false
namespace Go.Proofs.YtjhomlnlmpdklaaGreatDoor
open Go.RowKit
open Go.Lib hiding intOf
attribute [local go_sem ↓] Go.wp_at_zero Go.wp_at_succ
set_option maxRecDepth 10000 in
set_option maxHeartbeats 8000000 in
theorem rplace_any (A0 A1 A2 : Option Addr) (n0 n1 n2 c0 c1 c2 B : Nat) (h : Hst) (a b : Int) (w : World) (hg : HIn w B A0 A1 A2 n0 n1 n2 h) :
  Calls Tryz.prog 30 #[hval A0 A1 A2 n0 n1 n2 c0 c1 c2, .agg #[.int .i64 a, .int .i64 b]] w fun e w' => e = .returned (optT (placeO h a b)) ∧ Only [] w w' := by
 have HO1 : Hid (Only [] w (((w.alloc (.cells #[.slice A0 n0 c0, .slice A1 n1 c1, .slice A2 n2 c2] 25)).alloc (.cells #[.int .i64 a, .int .i64 b] 27)).alloc (.cells #[.int .i64 0, .int .i64 0] 27))) := Lib.hid ((((Only.refl [] w).alloc _).alloc _).alloc _)
 have HF := Lib.hid (fun w' (O : Only [] w w') => refmay_any A0 A1 A2 n0 n1 n2 c0 c1 c2 B h w' (hg.same O))
 have HL := Lib.hid hg.at_.r2
 have HN2 := Lib.hid hg.n2
 have HNO := Lib.hid hg.sm.no
 unfold hval at HF ⊢
 clear hg
 have HB1 : Hid (Blk (((w.alloc (.cells #[.slice A0 n0 c0, .slice A1 n1 c1, .slice A2 n2 c2] 25)).alloc (.cells #[.int .i64 a, .int .i64 b] 27)).alloc (.cells #[.int .i64 0, .int .i64 0] 27)) w.heap.size 25 #[.slice A0 n0 c0, .slice A1 n1 c1, .slice A2 n2 c2]) := Lib.hid (((Blk.made w 25 #[.slice A0 n0 c0, .slice A1 n1 c1, .slice A2 n2 c2]).alloc _).alloc _)
 have HP1 : Hid (Blk (((w.alloc (.cells #[.slice A0 n0 c0, .slice A1 n1 c1, .slice A2 n2 c2] 25)).alloc (.cells #[.int .i64 a, .int .i64 b] 27)).alloc (.cells #[.int .i64 0, .int .i64 0] 27)) (w.heap.size + 1) 27 #[.int .i64 a, .int .i64 b]) := Lib.hid (by
  have := Blk.made (w.alloc (.cells #[.slice A0 n0 c0, .slice A1 n1 c1, .slice A2 n2 c2] 25)) 27 #[.int .i64 a, .int .i64 b]
  rw [World.size_alloc] at this
  exact this.alloc _)
 have HR1 : Hid (Blk (((w.alloc (.cells #[.slice A0 n0 c0, .slice A1 n1 c1, .slice A2 n2 c2] 25)).alloc (.cells #[.int .i64 a, .int .i64 b] 27)).alloc (.cells #[.int .i64 0, .int .i64 0] 27)) (w.heap.size + 1 + 1) 27 #[.int .i64 0, .int .i64 0]) := Lib.hid (by
  have := Blk.made ((w.alloc (.cells #[.slice A0 n0 c0, .slice A1 n1 c1, .slice A2 n2 c2] 25)).alloc (.cells #[.int .i64 a, .int .i64 b] 27)) 27 #[.int .i64 0, .int .i64 0]
  simpa only [World.size_alloc] using this)
 cases hm : mayH h with
 | false =>
  rw [place_none (opAt_none (txAt_no hm))]
  rw [mayH_errn2 hm] at HF
  clear hm HL HN2 HNO
  go_enter Tryz.func30, Tryz.ntmps30
  go_wp2_with fail
  generalize (((w.alloc (.cells #[.slice A0 n0 c0, .slice A1 n1 c1, .slice A2 n2 c2] 25)).alloc (.cells #[.int .i64 a, .int .i64 b] 27)).alloc (.cells #[.int .i64 0, .int .i64 0] 27)) = w1 at *
  generalize hgr : w.heap.size + 1 + 1 = gr at *
  generalize hgp : w.heap.size + 1 = gp at *
  generalize hgg : w.heap.size = g at *
  have hsz : g ≤ w1.heap.size := by have := HO1.out.size; omega
  refine wp_region_noPanic ?_
  refine wp_region_timed (F := [⟨[], [], fun w' => Only [] w1 w'⟩]) (by kernel_rfl) (timed_holds ((Only.refl [] w1).drew) (timed_nil)) ?_
  refine timed_read (i := 0) (v := ?_) 0 rfl (by kernel_rfl) (by kernel_rfl) (by kernel_rfl) (fun _ _ _ h => h) (by kernel_rfl) (by kernel_rfl) rfl (by kernel_rfl) ?_ ?_
  rotate_left
  ·(intro wq hSw; (try dsimp only at hSw); have hb_H := hSw.blk HB1.out (by simp); have lb_H := hb_H.lt; have y0 := hb_H.at_ 0; have y1 := hb_H.at_ 1; have y2 := hb_H.at_ 2; simp at y0 y1 y2; clear hb_H; have hb_P := hSw.blk HP1.out (by simp); have lb_P := hb_P.lt; have p0 := hb_P.at_ 0; have p1 := hb_P.at_ 1; simp at p0 p1; clear hb_P; clear hSw; go_simp; try with_reducible rfl)
  try simp only [Act.put, tdy]
  refine timed_step (i := 1) (by kernel_rfl) rfl (fun K hK => ?_)
  go_simp
  refine (HF.out _ (HO1.out.trans (Only.refl [] w1).drew)).mono ?_
  rintro e w3 ⟨rfl, O3⟩
  refine hK.out _ _ (timed_holds (((Only.refl [] w1).drew).trans O3) (timed_nil)) ?_
  clear hK K
  try simp only [Act.put, tdy]
  refine timed_pure (i := 2) (v := ?_) rfl (by kernel_rfl) (by kernel_rfl) (by kernel_rfl) (fun _ _ _ h => h) (by kernel_rfl) (by kernel_rfl) ?_ ?_
  rotate_left
  ·(intro w; go_simp; try with_reducible rfl)
  try simp only [Act.put, tdy]
  refine timed_pure (i := 3) (v := ?_) rfl (by kernel_rfl) (by kernel_rfl) (by kernel_rfl) (fun _ _ _ h => h) (by kernel_rfl) (by kernel_rfl) ?_ ?_
  rotate_left
  ·(intro w; go_simp; try with_reducible rfl)
  try simp only [Act.put, tdy]
  refine timed_idle (i := 4) rfl (by kernel_rfl) (by kernel_rfl) (by kernel_rfl) (fun _ _ _ h => h) (by kernel_rfl) (by kernel_rfl) ?_
  try simp only [Act.put, tdy]
  refine timed_idle (i := 5) rfl (by kernel_rfl) (by kernel_rfl) (by kernel_rfl) (fun _ _ _ h => h) (by kernel_rfl) (by kernel_rfl) ?_
  try simp only [Act.put, tdy]
  refine timed_idle (i := 6) rfl (by kernel_rfl) (by kernel_rfl) (by kernel_rfl) (fun _ _ _ h => h) (by kernel_rfl) (by kernel_rfl) ?_
  try simp only [Act.put, tdy]
  refine timed_pure (i := 7) (v := ?_) rfl (by kernel_rfl) (by kernel_rfl) (by kernel_rfl) (fun _ _ _ h => h) (by kernel_rfl) (by kernel_rfl) ?_ ?_
  rotate_left
  ·(intro w; go_simp; try with_reducible rfl)
  try simp only [Act.put, tdy]
  refine timed_pure (i := 8) (v := ?_) rfl (by kernel_rfl) (by kernel_rfl) (by kernel_rfl) (fun _ _ _ h => h) (by kernel_rfl) (by kernel_rfl) ?_ ?_
  rotate_left
  ·(intro w; go_simp; try with_reducible rfl)
  try simp only [Act.put, tdy]
  refine timed_idle (i := 9) rfl (by kernel_rfl) (by kernel_rfl) (by kernel_rfl) (fun _ _ _ h => h) (by kernel_rfl) (by kernel_rfl) ?_
  try simp only [Act.put, tdy]
  refine timed_idle (i := 10) rfl (by kernel_rfl) (by kernel_rfl) (by kernel_rfl) (fun _ _ _ h => h) (by kernel_rfl) (by kernel_rfl) ?_
  try simp only [Act.put, tdy]
  refine timed_idle (i := 11) rfl (by kernel_rfl) (by kernel_rfl) (by kernel_rfl) (fun _ _ _ h => h) (by kernel_rfl) (by kernel_rfl) ?_
  try simp only [Act.put, tdy]
  refine timed_idle (i := 12) rfl (by kernel_rfl) (by kernel_rfl) (by kernel_rfl) (fun _ _ _ h => h) (by kernel_rfl) (by kernel_rfl) ?_
  try simp only [Act.put, tdy]
  refine timed_idle (i := 13) rfl (by kernel_rfl) (by kernel_rfl) (by kernel_rfl) (fun _ _ _ h => h) (by kernel_rfl) (by kernel_rfl) ?_
  try simp only [Act.put, tdy]
  refine timed_idle (i := 14) rfl (by kernel_rfl) (by kernel_rfl) (by kernel_rfl) (fun _ _ _ h => h) (by kernel_rfl) (by kernel_rfl) ?_
  try simp only [Act.put, tdy]
  refine timed_pure (i := 15) (v := ?_) rfl (by kernel_rfl) (by kernel_rfl) (by kernel_rfl) (fun _ _ _ h => h) (by kernel_rfl) (by kernel_rfl) ?_ ?_
  rotate_left
  ·(intro w; go_simp; try with_reducible rfl)
  try simp only [Act.put, tdy]
  refine timed_pure (i := 16) (v := ?_) rfl (by kernel_rfl) (by kernel_rfl) (by kernel_rfl) (fun _ _ _ h => h) (by kernel_rfl) (by kernel_rfl) ?_ ?_
  rotate_left
  ·(intro w; go_simp; try with_reducible rfl)
  try simp only [Act.put, tdy]
  refine timed_idle (i := 17) rfl (by kernel_rfl) (by kernel_rfl) (by kernel_rfl) (fun _ _ _ h => h) (by kernel_rfl) (by kernel_rfl) ?_
  try simp only [Act.put, tdy]
  refine timed_idle (i := 18) rfl (by kernel_rfl) (by kernel_rfl) (by kernel_rfl) (fun _ _ _ h => h) (by kernel_rfl) (by kernel_rfl) ?_
  try simp only [Act.put, tdy]
  refine timed_idle (i := 19) rfl (by kernel_rfl) (by kernel_rfl) (by kernel_rfl) (fun _ _ _ h => h) (by kernel_rfl) (by kernel_rfl) ?_
  try simp only [Act.put, tdy]
  refine timed_pure (i := 20) (v := ?_) rfl (by kernel_rfl) (by kernel_rfl) (by kernel_rfl) (fun _ _ _ h => h) (by kernel_rfl) (by kernel_rfl) ?_ ?_
  rotate_left
  ·(intro w; go_simp; try with_reducible rfl)
  try simp only [Act.put, tdy]
  refine timed_pure (i := 21) (v := ?_) rfl (by kernel_rfl) (by kernel_rfl) (by kernel_rfl) (fun _ _ _ h => h) (by kernel_rfl) (by kernel_rfl) ?_ ?_
  rotate_left
  ·(intro w; go_simp; try with_reducible rfl)
  try simp only [Act.put, tdy]
  refine timed_idle (i := 22) rfl (by kernel_rfl) (by kernel_rfl) (by kernel_rfl) (fun _ _ _ h => h) (by kernel_rfl) (by kernel_rfl) ?_
  try simp only [Act.put, tdy]
  refine timed_idle (i := 23) rfl (by kernel_rfl) (by kernel_rfl) (by kernel_rfl) (fun _ _ _ h => h) (by kernel_rfl) (by kernel_rfl) ?_
  try simp only [Act.put, tdy]
  refine timed_idle (i := 24) rfl (by kernel_rfl) (by kernel_rfl) (by kernel_rfl) (fun _ _ _ h => h) (by kernel_rfl) (by kernel_rfl) ?_
  try simp only [Act.put, tdy]
  refine timed_idle (i := 25) rfl (by kernel_rfl) (by kernel_rfl) (by kernel_rfl) (fun _ _ _ h => h) (by kernel_rfl) (by kernel_rfl) ?_
  try simp only [Act.put, tdy]
  refine timed_idle (i := 26) rfl (by kernel_rfl) (by kernel_rfl) (by kernel_rfl) (fun _ _ _ h => h) (by kernel_rfl) (by kernel_rfl) ?_
  try simp only [Act.put, tdy]
  refine timed_idle (i := 27) rfl (by kernel_rfl) (by kernel_rfl) (by kernel_rfl) (fun _ _ _ h => h) (by kernel_rfl) (by kernel_rfl) ?_
  try simp only [Act.put, tdy]
  refine timed_idle (i := 28) rfl (by kernel_rfl) (by kernel_rfl) (by kernel_rfl) (fun _ _ _ h => h) (by kernel_rfl) (by kernel_rfl) ?_
  try simp only [Act.put, tdy]
  refine timed_idle (i := 29) rfl (by kernel_rfl) (by kernel_rfl) (by kernel_rfl) (fun _ _ _ h => h) (by kernel_rfl) (by kernel_rfl) ?_
  try simp only [Act.put, tdy]
  refine timed_idle (i := 30) rfl (by kernel_rfl) (by kernel_rfl) (by kernel_rfl) (fun _ _ _ h => h) (by kernel_rfl) (by kernel_rfl) ?_
  try simp only [Act.put, tdy]
  refine timed_idle (i := 31) rfl (by kernel_rfl) (by kernel_rfl) (by kernel_rfl) (fun _ _ _ h => h) (by kernel_rfl) (by kernel_rfl) ?_
  try simp only [Act.put, tdy]
  refine timed_idle (i := 32) rfl (by kernel_rfl) (by kernel_rfl) (by kernel_rfl) (fun _ _ _ h => h) (by kernel_rfl) (by kernel_rfl) ?_
  try simp only [Act.put, tdy]
  refine timed_pure (i := 33) (v := ?_) rfl (by kernel_rfl) (by kernel_rfl) (by kernel_rfl) (fun _ _ _ h => h) (by kernel_rfl) (by kernel_rfl) ?_ ?_
  rotate_left
  ·(intro w; go_simp; try with_reducible rfl)
  try simp only [Act.put, tdy]
  refine timed_pure (i := 34) (v := ?_) rfl (by kernel_rfl) (by kernel_rfl) (by kernel_rfl) (fun _ _ _ h => h) (by kernel_rfl) (by kernel_rfl) ?_ ?_
  rotate_left
  ·(intro w; go_simp; try with_reducible rfl)
  try simp only [Act.put, tdy]
  refine timed_idle (i := 35) rfl (by kernel_rfl) (by kernel_rfl) (by kernel_rfl) (fun _ _ _ h => h) (by kernel_rfl) (by kernel_rfl) ?_
  try simp only [Act.put, tdy]
  refine timed_idle (i := 36) rfl (by kernel_rfl) (by kernel_rfl) (by kernel_rfl) (fun _ _ _ h => h) (by kernel_rfl) (by kernel_rfl) ?_
  try simp only [Act.put, tdy]
  refine timed_idle (i := 37) rfl (by kernel_rfl) (by kernel_rfl) (by kernel_rfl) (fun _ _ _ h => h) (by kernel_rfl) (by kernel_rfl) ?_
  try simp only [Act.put, tdy]
  refine timed_idle (i := 38) rfl (by kernel_rfl) (by kernel_rfl) (by kernel_rfl) (fun _ _ _ h => h) (by kernel_rfl) (by kernel_rfl) ?_
  try simp only [Act.put, tdy]
  refine timed_idle (i := 39) rfl (by kernel_rfl) (by kernel_rfl) (by kernel_rfl) (fun _ _ _ h => h) (by kernel_rfl) (by kernel_rfl) ?_
  try simp only [Act.put, tdy]
  refine timed_idle (i := 40) rfl (by kernel_rfl) (by kernel_rfl) (by kernel_rfl) (fun _ _ _ h => h) (by kernel_rfl) (by kernel_rfl) ?_
  try simp only [Act.put, tdy]
  refine timed_idle (i := 41) rfl (by kernel_rfl) (by kernel_rfl) (by kernel_rfl) (fun _ _ _ h => h) (by kernel_rfl) (by kernel_rfl) ?_
  try simp only [Act.put, tdy]
  refine timed_idle (i := 42) rfl (by kernel_rfl) (by kernel_rfl) (by kernel_rfl) (fun _ _ _ h => h) (by kernel_rfl) (by kernel_rfl) ?_
  try simp only [Act.put, tdy]
  refine timed_idle (i := 43) rfl (by kernel_rfl) (by kernel_rfl) (by kernel_rfl) (fun _ _ _ h => h) (by kernel_rfl) (by kernel_rfl) ?_
  try simp only [Act.put, tdy]
  refine timed_idle (i := 44) rfl (by kernel_rfl) (by kernel_rfl) (by kernel_rfl) (fun _ _ _ h => h) (by kernel_rfl) (by kernel_rfl) ?_
  try simp only [Act.put, tdy]
  refine timed_idle (i := 45) rfl (by kernel_rfl) (by kernel_rfl) (by kernel_rfl) (fun _ _ _ h => h) (by kernel_rfl) (by kernel_rfl) ?_
  try simp only [Act.put, tdy]
  refine timed_idle (i := 46) rfl (by kernel_rfl) (by kernel_rfl) (by kernel_rfl) (fun _ _ _ h => h) (by kernel_rfl) (by kernel_rfl) ?_
  try simp only [Act.put, tdy]
  refine timed_idle (i := 47) rfl (by kernel_rfl) (by kernel_rfl) (by kernel_rfl) (fun _ _ _ h => h) (by kernel_rfl) (by kernel_rfl) ?_
  try simp only [Act.put, tdy]
  refine timed_idle (i := 48) rfl (by kernel_rfl) (by kernel_rfl) (by kernel_rfl) (fun _ _ _ h => h) (by kernel_rfl) (by kernel_rfl) ?_
  try simp only [Act.put, tdy]
  refine timed_pure (i := 49) (v := ?_) rfl (by kernel_rfl) (by kernel_rfl) (by kernel_rfl) (fun _ _ _ h => h) (by kernel_rfl) (by kernel_rfl) ?_ ?_
  rotate_left
  ·(intro w; go_simp; try with_reducible rfl)
  try simp only [Act.put, tdy]
  refine timed_done (by kernel_rfl) ?_ _
  refine NoPanic.normal ?_
  have HNW := Lib.hid ( (((Only.refl [] w1).drew).trans O3))
  have HR2 := Lib.hid (HNW.out.blk HR1.out (by simp))
  have HO2 := Lib.hid (HO1.out.trans HNW.out)
  go_wp2_with (refine wpList_store_blk rfl 27 (.tmp 4) (.tmp 58) rfl gr 27 _ #[.int .i64 0, .int .i64 0] rfl rfl HR2.out rfl (by kernel_rfl) (by kernel_rfl) ?_; intro w9 b9 o9; have HB9 := Lib.hid b9; have HN9 := Lib.hid o9; clear b9 o9)
  refine bodyPost_ret (results_row2 Tryz.results30 _ _ gr 27 #[.int .i64 0, .int .i64 0] _ rfl HB9.out Tryz.underlying27 rfl (by kernel_rfl)) rfl ?_
  exact ⟨rfl, HO2.out.step HN9.out (fun i hi hl => by simp at hi; omega)⟩
 | true =>
  rw [mayH_err2 hm] at HF
  by_cases h1 : a < 0
  ·rw [place_none (opAt_none (txAt_neg h1))]
   have d1 : decide (a < 0) = true := decide_eq_true h1
   clear hm h1 HL HN2 HNO
   go_enter Tryz.func30, Tryz.ntmps30
   go_wp2_with fail
   generalize (((w.alloc (.cells #[.slice A0 n0 c0, .slice A1 n1 c1, .slice A2 n2 c2] 25)).alloc (.cells #[.int .i64 a, .int .i64 b] 27)).alloc (.cells #[.int .i64 0, .int .i64 0] 27)) = w1 at *
   generalize hgr : w.heap.size + 1 + 1 = gr at *
   generalize hgp : w.heap.size + 1 = gp at *
   generalize hgg : w.heap.size = g at *
   have hsz : g ≤ w1.heap.size := by have := HO1.out.size; omega
   refine wp_region_noPanic ?_
   refine wp_region_timed (F := [⟨[], [], fun w' => Only [] w1 w'⟩]) (by kernel_rfl) (timed_holds ((Only.refl [] w1).drew) (timed_nil)) ?_
   refine timed_read (i := 0) (v := ?_) 0 rfl (by kernel_rfl) (by kernel_rfl) (by kernel_rfl) (fun _ _ _ h => h) (by kernel_rfl) (by kernel_rfl) rfl (by kernel_rfl) ?_ ?_
   rotate_left
   ·(intro wq hSw; (try dsimp only at hSw); have hb_H := hSw.blk HB1.out (by simp); have lb_H := hb_H.lt; have y0 := hb_H.at_ 0; have y1 := hb_H.at_ 1; have y2 := hb_H.at_ 2; simp at y0 y1 y2; clear hb_H; have hb_P := hSw.blk HP1.out (by simp); have lb_P := hb_P.lt; have p0 := hb_P.at_ 0; have p1 := hb_P.at_ 1; simp at p0 p1; clear hb_P; clear hSw; go_simp; try with_reducible rfl)
   try simp only [Act.put, tdy]
   refine timed_step (i := 1) (by kernel_rfl) rfl (fun K hK => ?_)
   go_simp
   refine (HF.out _ (HO1.out.trans (Only.refl [] w1).drew)).mono ?_
   rintro e w3 ⟨rfl, O3⟩
   refine hK.out _ _ (timed_holds (((Only.refl [] w1).drew).trans O3) (timed_nil)) ?_
   clear hK K
   try simp only [Act.put, tdy]
   refine timed_pure (i := 2) (v := ?_) rfl (by kernel_rfl) (by kernel_rfl) (by kernel_rfl) (fun _ _ _ h => h) (by kernel_rfl) (by kernel_rfl) ?_ ?_
   rotate_left
   ·(intro w; go_simp; try with_reducible rfl)
   try simp only [Act.put, tdy]
   refine timed_pure (i := 3) (v := ?_) rfl (by kernel_rfl) (by kernel_rfl) (by kernel_rfl) (fun _ _ _ h => h) (by kernel_rfl) (by kernel_rfl) ?_ ?_
   rotate_left
   ·(intro w; go_simp; try with_reducible rfl)
   try simp only [Act.put, tdy]
   refine timed_pure (i := 4) (v := ?_) rfl (by kernel_rfl) (by kernel_rfl) (by kernel_rfl) (fun _ _ _ h => h) (by kernel_rfl) (by kernel_rfl) ?_ ?_
   rotate_left
   ·(intro w; go_simp; try with_reducible rfl)
   try simp only [Act.put, tdy]
   refine timed_read (i := 5) (v := ?_) 0 rfl (by kernel_rfl) (by kernel_rfl) (by kernel_rfl) (fun _ _ _ h => h) (by kernel_rfl) (by kernel_rfl) rfl (by kernel_rfl) ?_ ?_
   rotate_left
   ·(intro wq hSw; (try dsimp only at hSw); have hb_H := hSw.blk HB1.out (by simp); have lb_H := hb_H.lt; have y0 := hb_H.at_ 0; have y1 := hb_H.at_ 1; have y2 := hb_H.at_ 2; simp at y0 y1 y2; clear hb_H; have hb_P := hSw.blk HP1.out (by simp); have lb_P := hb_P.lt; have p0 := hb_P.at_ 0; have p1 := hb_P.at_ 1; simp at p0 p1; clear hb_P; clear hSw; go_simp; try with_reducible rfl)
   try simp only [Act.put, tdy]
   refine timed_pure (i := 6) (v := ?_) rfl (by kernel_rfl) (by kernel_rfl) (by kernel_rfl) (fun _ _ _ h => h) (by kernel_rfl) (by kernel_rfl) ?_ ?_
   rotate_left
   ·(intro w; go_simp; try with_reducible rfl)
   try simp only [Act.put, tdy]
   refine timed_pure (i := 7) (v := ?_) rfl (by kernel_rfl) (by kernel_rfl) (by kernel_rfl) (fun _ _ _ h => h) (by kernel_rfl) (by kernel_rfl) ?_ ?_
   rotate_left
   ·(intro w; go_simp; try with_reducible rfl)
   try simp only [Act.put, tdy]
   refine timed_pure (i := 8) (v := ?_) rfl (by kernel_rfl) (by kernel_rfl) (by kernel_rfl) (fun _ _ _ h => h) (by kernel_rfl) (by kernel_rfl) ?_ ?_
   rotate_left
   ·(intro w; go_simp; try with_reducible rfl)
   try simp only [Act.put, tdy]
   refine timed_idle (i := 9) rfl (by kernel_rfl) (by kernel_rfl) (by kernel_rfl) (fun _ _ _ h => h) (by kernel_rfl) (by kernel_rfl) ?_
   try simp only [Act.put, tdy]
   refine timed_idle (i := 10) rfl (by kernel_rfl) (by kernel_rfl) (by kernel_rfl) (fun _ _ _ h => h) (by kernel_rfl) (by kernel_rfl) ?_
   try simp only [Act.put, tdy]
   refine timed_idle (i := 11) rfl (by kernel_rfl) (by kernel_rfl) (by kernel_rfl) (fun _ _ _ h => h) (by kernel_rfl) (by kernel_rfl) ?_
   try simp only [Act.put, tdy]
   refine timed_idle (i := 12) rfl (by kernel_rfl) (by kernel_rfl) (by kernel_rfl) (fun _ _ _ h => h) (by kernel_rfl) (by kernel_rfl) ?_
   try simp only [Act.put, tdy]
   refine timed_idle (i := 13) rfl (by kernel_rfl) (by kernel_rfl) (by kernel_rfl) (fun _ _ _ h => h) (by kernel_rfl) (by kernel_rfl) ?_
   try simp only [Act.put, tdy]
   refine timed_idle (i := 14) rfl (by kernel_rfl) (by kernel_rfl) (by kernel_rfl) (fun _ _ _ h => h) (by kernel_rfl) (by kernel_rfl) ?_
   try simp only [Act.put, tdy]
   refine timed_pure (i := 15) (v := ?_) rfl (by kernel_rfl) (by kernel_rfl) (by kernel_rfl) (fun _ _ _ h => h) (by kernel_rfl) (by kernel_rfl) ?_ ?_
   rotate_left
   ·(intro w; go_simp; try with_reducible rfl)
   try simp only [Act.put, tdy]
   refine timed_pure (i := 16) (v := ?_) rfl (by kernel_rfl) (by kernel_rfl) (by kernel_rfl) (fun _ _ _ h => h) (by kernel_rfl) (by kernel_rfl) ?_ ?_
   rotate_left
   ·(intro w; go_simp; try with_reducible rfl)
   try simp only [Act.put, tdy]
   refine timed_idle (i := 17) rfl (by kernel_rfl) (by kernel_rfl) (by kernel_rfl) (fun _ _ _ h => h) (by kernel_rfl) (by kernel_rfl) ?_
   try simp only [Act.put, tdy]
   refine timed_idle (i := 18) rfl (by kernel_rfl) (by kernel_rfl) (by kernel_rfl) (fun _ _ _ h => h) (by kernel_rfl) (by kernel_rfl) ?_
   try simp only [Act.put, tdy]
   refine timed_idle (i := 19) rfl (by kernel_rfl) (by kernel_rfl) (by kernel_rfl) (fun _ _ _ h => h) (by kernel_rfl) (by kernel_rfl) ?_
   try simp only [Act.put, tdy]
   refine timed_pure (i := 20) (v := ?_) rfl (by kernel_rfl) (by kernel_rfl) (by kernel_rfl) (fun _ _ _ h => h) (by kernel_rfl) (by kernel_rfl) ?_ ?_
   rotate_left
   ·(intro w; go_simp; try with_reducible rfl)
   try simp only [Act.put, tdy]
   refine timed_pure (i := 21) (v := ?_) rfl (by kernel_rfl) (by kernel_rfl) (by kernel_rfl) (fun _ _ _ h => h) (by kernel_rfl) (by kernel_rfl) ?_ ?_
   rotate_left
   ·(intro w; go_simp; try with_reducible rfl)
   try simp only [Act.put, tdy]
   refine timed_idle (i := 22) rfl (by kernel_rfl) (by kernel_rfl) (by kernel_rfl) (fun _ _ _ h => h) (by kernel_rfl) (by kernel_rfl) ?_
   try simp only [Act.put, tdy]
   refine timed_idle (i := 23) rfl (by kernel_rfl) (by kernel_rfl) (by kernel_rfl) (fun _ _ _ h => h) (by kernel_rfl) (by kernel_rfl) ?_
   try simp only [Act.put, tdy]
   refine timed_idle (i := 24) rfl (by kernel_rfl) (by kernel_rfl) (by kernel_rfl) (fun _ _ _ h => h) (by kernel_rfl) (by kernel_rfl) ?_
   try simp only [Act.put, tdy]
   refine timed_idle (i := 25) rfl (by kernel_rfl) (by kernel_rfl) (by kernel_rfl) (fun _ _ _ h => h) (by kernel_rfl) (by kernel_rfl) ?_
   try simp only [Act.put, tdy]
   refine timed_idle (i := 26) rfl (by kernel_rfl) (by kernel_rfl) (by kernel_rfl) (fun _ _ _ h => h) (by kernel_rfl) (by kernel_rfl) ?_
   try simp only [Act.put, tdy]
   refine timed_idle (i := 27) rfl (by kernel_rfl) (by kernel_rfl) (by kernel_rfl) (fun _ _ _ h => h) (by kernel_rfl) (by kernel_rfl) ?_
   try simp only [Act.put, tdy]
   refine timed_idle (i := 28) rfl (by kernel_rfl) (by kernel_rfl) (by kernel_rfl) (fun _ _ _ h => h) (by kernel_rfl) (by kernel_rfl) ?_
   try simp only [Act.put, tdy]
   refine timed_idle (i := 29) rfl (by kernel_rfl) (by kernel_rfl) (by kernel_rfl) (fun _ _ _ h => h) (by kernel_rfl) (by kernel_rfl) ?_
   try simp only [Act.put, tdy]
   refine timed_idle (i := 30) rfl (by kernel_rfl) (by kernel_rfl) (by kernel_rfl) (fun _ _ _ h => h) (by kernel_rfl) (by kernel_rfl) ?_
   try simp only [Act.put, tdy]
   refine timed_idle (i := 31) rfl (by kernel_rfl) (by kernel_rfl) (by kernel_rfl) (fun _ _ _ h => h) (by kernel_rfl) (by kernel_rfl) ?_
   try simp only [Act.put, tdy]
   refine timed_idle (i := 32) rfl (by kernel_rfl) (by kernel_rfl) (by kernel_rfl) (fun _ _ _ h => h) (by kernel_rfl) (by kernel_rfl) ?_
   try simp only [Act.put, tdy]
   refine timed_pure (i := 33) (v := ?_) rfl (by kernel_rfl) (by kernel_rfl) (by kernel_rfl) (fun _ _ _ h => h) (by kernel_rfl) (by kernel_rfl) ?_ ?_
   rotate_left
   ·(intro w; go_simp; try with_reducible rfl)
   try simp only [Act.put, tdy]
   refine timed_pure (i := 34) (v := ?_) rfl (by kernel_rfl) (by kernel_rfl) (by kernel_rfl) (fun _ _ _ h => h) (by kernel_rfl) (by kernel_rfl) ?_ ?_
   rotate_left
   ·(intro w; go_simp; try with_reducible rfl)
   try simp only [Act.put, tdy]
   refine timed_idle (i := 35) rfl (by kernel_rfl) (by kernel_rfl) (by kernel_rfl) (fun _ _ _ h => h) (by kernel_rfl) (by kernel_rfl) ?_
   try simp only [Act.put, tdy]
   refine timed_idle (i := 36) rfl (by kernel_rfl) (by kernel_rfl) (by kernel_rfl) (fun _ _ _ h => h) (by kernel_rfl) (by kernel_rfl) ?_
   try simp only [Act.put, tdy]
   refine timed_idle (i := 37) rfl (by kernel_rfl) (by kernel_rfl) (by kernel_rfl) (fun _ _ _ h => h) (by kernel_rfl) (by kernel_rfl) ?_
   try simp only [Act.put, tdy]
   refine timed_idle (i := 38) rfl (by kernel_rfl) (by kernel_rfl) (by kernel_rfl) (fun _ _ _ h => h) (by kernel_rfl) (by kernel_rfl) ?_
   try simp only [Act.put, tdy]
   refine timed_idle (i := 39) rfl (by kernel_rfl) (by kernel_rfl) (by kernel_rfl) (fun _ _ _ h => h) (by kernel_rfl) (by kernel_rfl) ?_
   try simp only [Act.put, tdy]
   refine timed_idle (i := 40) rfl (by kernel_rfl) (by kernel_rfl) (by kernel_rfl) (fun _ _ _ h => h) (by kernel_rfl) (by kernel_rfl) ?_
   try simp only [Act.put, tdy]
   refine timed_idle (i := 41) rfl (by kernel_rfl) (by kernel_rfl) (by kernel_rfl) (fun _ _ _ h => h) (by kernel_rfl) (by kernel_rfl) ?_
   try simp only [Act.put, tdy]
   refine timed_idle (i := 42) rfl (by kernel_rfl) (by kernel_rfl) (by kernel_rfl) (fun _ _ _ h => h) (by kernel_rfl) (by kernel_rfl) ?_
   try simp only [Act.put, tdy]
   refine timed_idle (i := 43) rfl (by kernel_rfl) (by kernel_rfl) (by kernel_rfl) (fun _ _ _ h => h) (by kernel_rfl) (by kernel_rfl) ?_
   try simp only [Act.put, tdy]
   refine timed_idle (i := 44) rfl (by kernel_rfl) (by kernel_rfl) (by kernel_rfl) (fun _ _ _ h => h) (by kernel_rfl) (by kernel_rfl) ?_
   try simp only [Act.put, tdy]
   refine timed_idle (i := 45) rfl (by kernel_rfl) (by kernel_rfl) (by kernel_rfl) (fun _ _ _ h => h) (by kernel_rfl) (by kernel_rfl) ?_
   try simp only [Act.put, tdy]
   refine timed_idle (i := 46) rfl (by kernel_rfl) (by kernel_rfl) (by kernel_rfl) (fun _ _ _ h => h) (by kernel_rfl) (by kernel_rfl) ?_
   try simp only [Act.put, tdy]
   refine timed_idle (i := 47) rfl (by kernel_rfl) (by kernel_rfl) (by kernel_rfl) (fun _ _ _ h => h) (by kernel_rfl) (by kernel_rfl) ?_
   try simp only [Act.put, tdy]
   refine timed_idle (i := 48) rfl (by kernel_rfl) (by kernel_rfl) (by kernel_rfl) (fun _ _ _ h => h) (by kernel_rfl) (by kernel_rfl) ?_
   try simp only [Act.put, tdy]
   refine timed_pure (i := 49) (v := ?_) rfl (by kernel_rfl) (by kernel_rfl) (by kernel_rfl) (fun _ _ _ h => h) (by kernel_rfl) (by kernel_rfl) ?_ ?_
   rotate_left
   ·(intro w; go_simp; try with_reducible rfl)
   try simp only [Act.put, tdy]
   refine timed_done (by kernel_rfl) ?_ _
   refine NoPanic.normal ?_
   have HNW := Lib.hid ( (((Only.refl [] w1).drew).trans O3))
   have HR2 := Lib.hid (HNW.out.blk HR1.out (by simp))
   have HO2 := Lib.hid (HO1.out.trans HNW.out)
   go_wp2_with (refine wpList_store_blk rfl 27 (.tmp 4) (.tmp 58) rfl gr 27 _ #[.int .i64 0, .int .i64 0] rfl rfl HR2.out rfl (by kernel_rfl) (by kernel_rfl) ?_; intro w9 b9 o9; have HB9 := Lib.hid b9; have HN9 := Lib.hid o9; clear b9 o9)
   refine bodyPost_ret (results_row2 Tryz.results30 _ _ gr 27 #[.int .i64 0, .int .i64 0] _ rfl HB9.out Tryz.underlying27 rfl (by kernel_rfl)) rfl ?_
   exact ⟨rfl, HO2.out.step HN9.out (fun i hi hl => by simp at hi; omega)⟩
  ·have d1 : decide (a < 0) = false := decide_eq_false h1
   by_cases h2 : (n2 : Int) ≤ a
   ·rw [place_none (opAt_none (txAt_big (by rw [HN2.out]; exact h2)))]
    have d2 : decide ((n2 : Int) ≤ a) = true := decide_eq_true h2
    clear hm h1 h2 HL HN2 HNO
    go_enter Tryz.func30, Tryz.ntmps30
    go_wp2_with fail
    generalize (((w.alloc (.cells #[.slice A0 n0 c0, .slice A1 n1 c1, .slice A2 n2 c2] 25)).alloc (.cells #[.int .i64 a, .int .i64 b] 27)).alloc (.cells #[.int .i64 0, .int .i64 0] 27)) = w1 at *
    generalize hgr : w.heap.size + 1 + 1 = gr at *
    generalize hgp : w.heap.size + 1 = gp at *
    generalize hgg : w.heap.size = g at *
    have hsz : g ≤ w1.heap.size := by have := HO1.out.size; omega
    refine wp_region_noPanic ?_
    refine wp_region_timed (F := [⟨[], [], fun w' => Only [] w1 w'⟩]) (by kernel_rfl) (timed_holds ((Only.refl [] w1).drew) (timed_nil)) ?_
    refine timed_read (i := 0) (v := ?_) 0 rfl (by kernel_rfl) (by kernel_rfl) (by kernel_rfl) (fun _ _ _ h => h) (by kernel_rfl) (by kernel_rfl) rfl (by kernel_rfl) ?_ ?_
    rotate_left
    ·(intro wq hSw; (try dsimp only at hSw); have hb_H := hSw.blk HB1.out (by simp); have lb_H := hb_H.lt; have y0 := hb_H.at_ 0; have y1 := hb_H.at_ 1; have y2 := hb_H.at_ 2; simp at y0 y1 y2; clear hb_H; have hb_P := hSw.blk HP1.out (by simp); have lb_P := hb_P.lt; have p0 := hb_P.at_ 0; have p1 := hb_P.at_ 1; simp at p0 p1; clear hb_P; clear hSw; go_simp; try with_reducible rfl)
    try simp only [Act.put, tdy]
    refine timed_step (i := 1) (by kernel_rfl) rfl (fun K hK => ?_)
    go_simp
    refine (HF.out _ (HO1.out.trans (Only.refl [] w1).drew)).mono ?_
    rintro e w3 ⟨rfl, O3⟩
    refine hK.out _ _ (timed_holds (((Only.refl [] w1).drew).trans O3) (timed_nil)) ?_
    clear hK K
    try simp only [Act.put, tdy]
    refine timed_pure (i := 2) (v := ?_) rfl (by kernel_rfl) (by kernel_rfl) (by kernel_rfl) (fun _ _ _ h => h) (by kernel_rfl) (by kernel_rfl) ?_ ?_
    rotate_left
    ·(intro w; go_simp; try with_reducible rfl)
    try simp only [Act.put, tdy]
    refine timed_pure (i := 3) (v := ?_) rfl (by kernel_rfl) (by kernel_rfl) (by kernel_rfl) (fun _ _ _ h => h) (by kernel_rfl) (by kernel_rfl) ?_ ?_
    rotate_left
    ·(intro w; go_simp; try with_reducible rfl)
    try simp only [Act.put, tdy]
    refine timed_pure (i := 4) (v := ?_) rfl (by kernel_rfl) (by kernel_rfl) (by kernel_rfl) (fun _ _ _ h => h) (by kernel_rfl) (by kernel_rfl) ?_ ?_
    rotate_left
    ·(intro w; go_simp; try with_reducible rfl)
    try simp only [Act.put, tdy]
    refine timed_read (i := 5) (v := ?_) 0 rfl (by kernel_rfl) (by kernel_rfl) (by kernel_rfl) (fun _ _ _ h => h) (by kernel_rfl) (by kernel_rfl) rfl (by kernel_rfl) ?_ ?_
    rotate_left
    ·(intro wq hSw; (try dsimp only at hSw); have hb_H := hSw.blk HB1.out (by simp); have lb_H := hb_H.lt; have y0 := hb_H.at_ 0; have y1 := hb_H.at_ 1; have y2 := hb_H.at_ 2; simp at y0 y1 y2; clear hb_H; have hb_P := hSw.blk HP1.out (by simp); have lb_P := hb_P.lt; have p0 := hb_P.at_ 0; have p1 := hb_P.at_ 1; simp at p0 p1; clear hb_P; clear hSw; go_simp; try with_reducible rfl)
    try simp only [Act.put, tdy]
    refine timed_pure (i := 6) (v := ?_) rfl (by kernel_rfl) (by kernel_rfl) (by kernel_rfl) (fun _ _ _ h => h) (by kernel_rfl) (by kernel_rfl) ?_ ?_
    rotate_left
    ·(intro w; go_simp; try with_reducible rfl)
    try simp only [Act.put, tdy]
    refine timed_pure (i := 7) (v := ?_) rfl (by kernel_rfl) (by kernel_rfl) (by kernel_rfl) (fun _ _ _ h => h) (by kernel_rfl) (by kernel_rfl) ?_ ?_
    rotate_left
    ·(intro w; go_simp; try with_reducible rfl)
    try simp only [Act.put, tdy]
    refine timed_pure (i := 8) (v := ?_) rfl (by kernel_rfl) (by kernel_rfl) (by kernel_rfl) (fun _ _ _ h => h) (by kernel_rfl) (by kernel_rfl) ?_ ?_
    rotate_left
    ·(intro w; go_simp; try with_reducible rfl)
    try simp only [Act.put, tdy]
    refine timed_pure (i := 9) (v := ?_) rfl (by kernel_rfl) (by kernel_rfl) (by kernel_rfl) (fun _ _ _ h => h) (by kernel_rfl) (by kernel_rfl) ?_ ?_
    rotate_left
    ·(intro w; go_simp; try with_reducible rfl)
    try simp only [Act.put, tdy]
    refine timed_read (i := 10) (v := ?_) 0 rfl (by kernel_rfl) (by kernel_rfl) (by kernel_rfl) (fun _ _ _ h => h) (by kernel_rfl) (by kernel_rfl) rfl (by kernel_rfl) ?_ ?_
    rotate_left
    ·(intro wq hSw; (try dsimp only at hSw); have hb_H := hSw.blk HB1.out (by simp); have lb_H := hb_H.lt; have y0 := hb_H.at_ 0; have y1 := hb_H.at_ 1; have y2 := hb_H.at_ 2; simp at y0 y1 y2; clear hb_H; have hb_P := hSw.blk HP1.out (by simp); have lb_P := hb_P.lt; have p0 := hb_P.at_ 0; have p1 := hb_P.at_ 1; simp at p0 p1; clear hb_P; clear hSw; go_simp; try with_reducible rfl)
    try simp only [Act.put, tdy]
    refine timed_pure (i := 11) (v := ?_) rfl (by kernel_rfl) (by kernel_rfl) (by kernel_rfl) (fun _ _ _ h => h) (by kernel_rfl) (by kernel_rfl) ?_ ?_
    rotate_left
    ·(intro w; go_simp; try with_reducible rfl)
    try simp only [Act.put, tdy]
    refine timed_read (i := 12) (v := ?_) 0 rfl (by kernel_rfl) (by kernel_rfl) (by kernel_rfl) (fun _ _ _ h => h) (by kernel_rfl) (by kernel_rfl) rfl (by kernel_rfl) ?_ ?_
    rotate_left
    ·(intro wq hSw; (try dsimp only at hSw); have hb_H := hSw.blk HB1.out (by simp); have lb_H := hb_H.lt; have y0 := hb_H.at_ 0; have y1 := hb_H.at_ 1; have y2 := hb_H.at_ 2; simp at y0 y1 y2; clear hb_H; have hb_P := hSw.blk HP1.out (by simp); have lb_P := hb_P.lt; have p0 := hb_P.at_ 0; have p1 := hb_P.at_ 1; simp at p0 p1; clear hb_P; clear hSw; go_simp; try with_reducible rfl)
    try simp only [Act.put, tdy]
    refine timed_pure (i := 13) (v := ?_) rfl (by kernel_rfl) (by kernel_rfl) (by kernel_rfl) (fun _ _ _ h => h) (by kernel_rfl) (by kernel_rfl) ?_ ?_
    rotate_left
    ·(intro w; go_simp; try with_reducible rfl)
    try simp only [Act.put, tdy]
    refine timed_pure (i := 14) (v := ?_) rfl (by kernel_rfl) (by kernel_rfl) (by kernel_rfl) (fun _ _ _ h => h) (by kernel_rfl) (by kernel_rfl) ?_ ?_
    rotate_left
    ·(intro w; go_simp; try with_reducible rfl)
    try simp only [Act.put, tdy]
    refine timed_pure (i := 15) (v := ?_) rfl (by kernel_rfl) (by kernel_rfl) (by kernel_rfl) (fun _ _ _ h => h) (by kernel_rfl) (by kernel_rfl) ?_ ?_
    rotate_left
    ·(intro w; go_simp; try with_reducible rfl)
    try simp only [Act.put, tdy]
    refine timed_pure (i := 16) (v := ?_) rfl (by kernel_rfl) (by kernel_rfl) (by kernel_rfl) (fun _ _ _ h => h) (by kernel_rfl) (by kernel_rfl) ?_ ?_
    rotate_left
    ·(intro w; go_simp; try with_reducible rfl)
    try simp only [Act.put, tdy]
    refine timed_idle (i := 17) rfl (by kernel_rfl) (by kernel_rfl) (by kernel_rfl) (fun _ _ _ h => h) (by kernel_rfl) (by kernel_rfl) ?_
    try simp only [Act.put, tdy]
    refine timed_idle (i := 18) rfl (by kernel_rfl) (by kernel_rfl) (by kernel_rfl) (fun _ _ _ h => h) (by kernel_rfl) (by kernel_rfl) ?_
    try simp only [Act.put, tdy]
    refine timed_idle (i := 19) rfl (by kernel_rfl) (by kernel_rfl) (by kernel_rfl) (fun _ _ _ h => h) (by kernel_rfl) (by kernel_rfl) ?_
    try simp only [Act.put, tdy]
    refine timed_pure (i := 20) (v := ?_) rfl (by kernel_rfl) (by kernel_rfl) (by kernel_rfl) (fun _ _ _ h => h) (by kernel_rfl) (by kernel_rfl) ?_ ?_
    rotate_left
    ·(intro w; go_simp; try with_reducible rfl)
    try simp only [Act.put, tdy]
    refine timed_pure (i := 21) (v := ?_) rfl (by kernel_rfl) (by kernel_rfl) (by kernel_rfl) (fun _ _ _ h => h) (by kernel_rfl) (by kernel_rfl) ?_ ?_
    rotate_left
    ·(intro w; go_simp; try with_reducible rfl)
    try simp only [Act.put, tdy]
    refine timed_idle (i := 22) rfl (by kernel_rfl) (by kernel_rfl) (by kernel_rfl) (fun _ _ _ h => h) (by kernel_rfl) (by kernel_rfl) ?_
    try simp only [Act.put, tdy]
    refine timed_idle (i := 23) rfl (by kernel_rfl) (by kernel_rfl) (by kernel_rfl) (fun _ _ _ h => h) (by kernel_rfl) (by kernel_rfl) ?_
    try simp only [Act.put, tdy]
    refine timed_idle (i := 24) rfl (by kernel_rfl) (by kernel_rfl) (by kernel_rfl) (fun _ _ _ h => h) (by kernel_rfl) (by kernel_rfl) ?_
    try simp only [Act.put, tdy]
    refine timed_idle (i := 25) rfl (by kernel_rfl) (by kernel_rfl) (by kernel_rfl) (fun _ _ _ h => h) (by kernel_rfl) (by kernel_rfl) ?_
    try simp only [Act.put, tdy]
    refine timed_idle (i := 26) rfl (by kernel_rfl) (by kernel_rfl) (by kernel_rfl) (fun _ _ _ h => h) (by kernel_rfl) (by kernel_rfl) ?_
    try simp only [Act.put, tdy]
    refine timed_idle (i := 27) rfl (by kernel_rfl) (by kernel_rfl) (by kernel_rfl) (fun _ _ _ h => h) (by kernel_rfl) (by kernel_rfl) ?_
    try simp only [Act.put, tdy]
    refine timed_idle (i := 28) rfl (by kernel_rfl) (by kernel_rfl) (by kernel_rfl) (fun _ _ _ h => h) (by kernel_rfl) (by kernel_rfl) ?_
    try simp only [Act.put, tdy]
    refine timed_idle (i := 29) rfl (by kernel_rfl) (by kernel_rfl) (by kernel_rfl) (fun _ _ _ h => h) (by kernel_rfl) (by kernel_rfl) ?_
    try simp only [Act.put, tdy]
    refine timed_idle (i := 30) rfl (by kernel_rfl) (by kernel_rfl) (by kernel_rfl) (fun _ _ _ h => h) (by kernel_rfl) (by kernel_rfl) ?_
    try simp only [Act.put, tdy]
    refine timed_idle (i := 31) rfl (by kernel_rfl) (by kernel_rfl) (by kernel_rfl) (fun _ _ _ h => h) (by kernel_rfl) (by kernel_rfl) ?_
    try simp only [Act.put, tdy]
    refine timed_idle (i := 32) rfl (by kernel_rfl) (by kernel_rfl) (by kernel_rfl) (fun _ _ _ h => h) (by kernel_rfl) (by kernel_rfl) ?_
    try simp only [Act.put, tdy]
    refine timed_pure (i := 33) (v := ?_) rfl (by kernel_rfl) (by kernel_rfl) (by kernel_rfl) (fun _ _ _ h => h) (by kernel_rfl) (by kernel_rfl) ?_ ?_
    rotate_left
    ·(intro w; go_simp; try with_reducible rfl)
    try simp only [Act.put, tdy]
    refine timed_pure (i := 34) (v := ?_) rfl (by kernel_rfl) (by kernel_rfl) (by kernel_rfl) (fun _ _ _ h => h) (by kernel_rfl) (by kernel_rfl) ?_ ?_
    rotate_left
    ·(intro w; go_simp; try with_reducible rfl)
    try simp only [Act.put, tdy]
    refine timed_idle (i := 35) rfl (by kernel_rfl) (by kernel_rfl) (by kernel_rfl) (fun _ _ _ h => h) (by kernel_rfl) (by kernel_rfl) ?_
    try simp only [Act.put, tdy]
    refine timed_idle (i := 36) rfl (by kernel_rfl) (by kernel_rfl) (by kernel_rfl) (fun _ _ _ h => h) (by kernel_rfl) (by kernel_rfl) ?_
    try simp only [Act.put, tdy]
    refine timed_idle (i := 37) rfl (by kernel_rfl) (by kernel_rfl) (by kernel_rfl) (fun _ _ _ h => h) (by kernel_rfl) (by kernel_rfl) ?_
    try simp only [Act.put, tdy]
    refine timed_idle (i := 38) rfl (by kernel_rfl) (by kernel_rfl) (by kernel_rfl) (fun _ _ _ h => h) (by kernel_rfl) (by kernel_rfl) ?_
    try simp only [Act.put, tdy]
    refine timed_idle (i := 39) rfl (by kernel_rfl) (by kernel_rfl) (by kernel_rfl) (fun _ _ _ h => h) (by kernel_rfl) (by kernel_rfl) ?_
    try simp only [Act.put, tdy]
    refine timed_idle (i := 40) rfl (by kernel_rfl) (by kernel_rfl) (by kernel_rfl) (fun _ _ _ h => h) (by kernel_rfl) (by kernel_rfl) ?_
    try simp only [Act.put, tdy]
    refine timed_idle (i := 41) rfl (by kernel_rfl) (by kernel_rfl) (by kernel_rfl) (fun _ _ _ h => h) (by kernel_rfl) (by kernel_rfl) ?_
    try simp only [Act.put, tdy]
    refine timed_idle (i := 42) rfl (by kernel_rfl) (by kernel_rfl) (by kernel_rfl) (fun _ _ _ h => h) (by kernel_rfl) (by kernel_rfl) ?_
    try simp only [Act.put, tdy]
    refine timed_idle (i := 43) rfl (by kernel_rfl) (by kernel_rfl) (by kernel_rfl) (fun _ _ _ h => h) (by kernel_rfl) (by kernel_rfl) ?_
    try simp only [Act.put, tdy]
    refine timed_idle (i := 44) rfl (by kernel_rfl) (by kernel_rfl) (by kernel_rfl) (fun _ _ _ h => h) (by kernel_rfl) (by kernel_rfl) ?_
    try simp only [Act.put, tdy]
    refine timed_idle (i := 45) rfl (by kernel_rfl) (by kernel_rfl) (by kernel_rfl) (fun _ _ _ h => h) (by kernel_rfl) (by kernel_rfl) ?_
    try simp only [Act.put, tdy]
    refine timed_idle (i := 46) rfl (by kernel_rfl) (by kernel_rfl) (by kernel_rfl) (fun _ _ _ h => h) (by kernel_rfl) (by kernel_rfl) ?_
    try simp only [Act.put, tdy]
    refine timed_idle (i := 47) rfl (by kernel_rfl) (by kernel_rfl) (by kernel_rfl) (fun _ _ _ h => h) (by kernel_rfl) (by kernel_rfl) ?_
    try simp only [Act.put, tdy]
    refine timed_idle (i := 48) rfl (by kernel_rfl) (by kernel_rfl) (by kernel_rfl) (fun _ _ _ h => h) (by kernel_rfl) (by kernel_rfl) ?_
    try simp only [Act.put, tdy]
    refine timed_pure (i := 49) (v := ?_) rfl (by kernel_rfl) (by kernel_rfl) (by kernel_rfl) (fun _ _ _ h => h) (by kernel_rfl) (by kernel_rfl) ?_ ?_
    rotate_left
    ·(intro w; go_simp; try with_reducible rfl)
    try simp only [Act.put, tdy]
    refine timed_done (by kernel_rfl) ?_ _
    refine NoPanic.normal ?_
    have HNW := Lib.hid ( (((Only.refl [] w1).drew).trans O3))
    have HR2 := Lib.hid (HNW.out.blk HR1.out (by simp))
    have HO2 := Lib.hid (HO1.out.trans HNW.out)
    go_wp2_with (refine wpList_store_blk rfl 27 (.tmp 4) (.tmp 58) rfl gr 27 _ #[.int .i64 0, .int .i64 0] rfl rfl HR2.out rfl (by kernel_rfl) (by kernel_rfl) ?_; intro w9 b9 o9; have HB9 := Lib.hid b9; have HN9 := Lib.hid o9; clear b9 o9)
    refine bodyPost_ret (results_row2 Tryz.results30 _ _ gr 27 #[.int .i64 0, .int .i64 0] _ rfl HB9.out Tryz.underlying27 rfl (by kernel_rfl)) rfl ?_
    exact ⟨rfl, HO2.out.step HN9.out (fun i hi hl => by simp at hi; omega)⟩
   ·have d2 : decide ((n2 : Int) ≤ a) = false := decide_eq_false h2
    obtain ⟨q, rfl⟩ : ∃ q : Nat, a = q := ⟨a.toNat, by omega⟩
    have hqn : q < n2 := by omega
    have d2n : decide (n2 ≤ q) = false := decide_eq_false (by omega)
    obtain ⟨t, ht⟩ : ∃ t, h.l[q]? = some t := ⟨_, List.getElem?_eq_getElem (by rw [HN2.out]; exact hqn)⟩
    have hta := txAt_yes hm ht
    obtain ⟨bt, ot, AT, cpt, rfl, hbtB, hbtw, hTA, hOk⟩ := HL.out.at_ ht
    have HTA := Lib.hid hTA
    have HROW := Lib.hid hOk.row
    have hlec := hOk.le
    have hcap := hOk.cap
    have hno := HNO.out t (List.mem_of_getElem? ht)
    have h01 : (q : Int) < (n2 : Int) := by omega
    have hq0 : (0 : Int) ≤ (q : Int) := Int.natCast_nonneg _
    clear hm h1 h2 ht hTA hOk HL HN2 HNO
    dsimp only at hlec hcap
    by_cases h3 : b < 0
    ·rw [place_none (opAt_neg h3)]
     have d3 : decide (b < 0) = true := decide_eq_true h3
     clear h3 hta HTA HROW
     obtain ⟨ts, tf, ops⟩ := t
     dsimp only at *
     generalize hmm : ops.length = m at *
     go_enter Tryz.func30, Tryz.ntmps30
     go_wp2_with fail
     generalize (((w.alloc (.cells #[.slice A0 n0 c0, .slice A1 n1 c1, .slice (some ⟨bt, ot, none⟩) n2 c2] 25)).alloc (.cells #[.int .i64 (q : Int), .int .i64 b] 27)).alloc (.cells #[.int .i64 0, .int .i64 0] 27)) = w1 at *
     generalize hgr : w.heap.size + 1 + 1 = gr at *
     generalize hgp : w.heap.size + 1 = gp at *
     generalize hgg : w.heap.size = g at *
     have hsz : g ≤ w1.heap.size := by have := HO1.out.size; omega
     refine wp_region_noPanic ?_
     refine wp_region_timed (F := [⟨[], [], fun w' => Only [] w1 w'⟩]) (by kernel_rfl) (timed_holds ((Only.refl [] w1).drew) (timed_nil)) ?_
     refine timed_read (i := 0) (v := ?_) 0 rfl (by kernel_rfl) (by kernel_rfl) (by kernel_rfl) (fun _ _ _ h => h) (by kernel_rfl) (by kernel_rfl) rfl (by kernel_rfl) ?_ ?_
     rotate_left
     ·(intro wq hSw; (try dsimp only at hSw); have hb_H := hSw.blk HB1.out (by simp); have lb_H := hb_H.lt; have y0 := hb_H.at_ 0; have y1 := hb_H.at_ 1; have y2 := hb_H.at_ 2; simp at y0 y1 y2; clear hb_H; have hb_P := hSw.blk HP1.out (by simp); have lb_P := hb_P.lt; have p0 := hb_P.at_ 0; have p1 := hb_P.at_ 1; simp at p0 p1; clear hb_P; clear hSw; go_simp; try with_reducible rfl)
     try simp only [Act.put, tdy]
     refine timed_step (i := 1) (by kernel_rfl) rfl (fun K hK => ?_)
     go_simp
     refine (HF.out _ (HO1.out.trans (Only.refl [] w1).drew)).mono ?_
     rintro e w3 ⟨rfl, O3⟩
     refine hK.out _ _ (timed_holds (((Only.refl [] w1).drew).trans O3) (timed_nil)) ?_
     clear hK K
     try simp only [Act.put, tdy]
     refine timed_pure (i := 2) (v := ?_) rfl (by kernel_rfl) (by kernel_rfl) (by kernel_rfl) (fun _ _ _ h => h) (by kernel_rfl) (by kernel_rfl) ?_ ?_
     rotate_left
     ·(intro w; go_simp; try with_reducible rfl)
     try simp only [Act.put, tdy]
     refine timed_pure (i := 3) (v := ?_) rfl (by kernel_rfl) (by kernel_rfl) (by kernel_rfl) (fun _ _ _ h => h) (by kernel_rfl) (by kernel_rfl) ?_ ?_
     rotate_left
     ·(intro w; go_simp; try with_reducible rfl)
     try simp only [Act.put, tdy]
     refine timed_pure (i := 4) (v := ?_) rfl (by kernel_rfl) (by kernel_rfl) (by kernel_rfl) (fun _ _ _ h => h) (by kernel_rfl) (by kernel_rfl) ?_ ?_
     rotate_left
     ·(intro w; go_simp; try with_reducible rfl)
     try simp only [Act.put, tdy]
     refine timed_read (i := 5) (v := ?_) 0 rfl (by kernel_rfl) (by kernel_rfl) (by kernel_rfl) (fun _ _ _ h => h) (by kernel_rfl) (by kernel_rfl) rfl (by kernel_rfl) ?_ ?_
     rotate_left
     ·(intro wq hSw; (try dsimp only at hSw); have hb_H := hSw.blk HB1.out (by simp); have lb_H := hb_H.lt; have y0 := hb_H.at_ 0; have y1 := hb_H.at_ 1; have y2 := hb_H.at_ 2; simp at y0 y1 y2; clear hb_H; have hb_P := hSw.blk HP1.out (by simp); have lb_P := hb_P.lt; have p0 := hb_P.at_ 0; have p1 := hb_P.at_ 1; simp at p0 p1; clear hb_P; clear hSw; go_simp; try with_reducible rfl)
     try simp only [Act.put, tdy]
     refine timed_pure (i := 6) (v := ?_) rfl (by kernel_rfl) (by kernel_rfl) (by kernel_rfl) (fun _ _ _ h => h) (by kernel_rfl) (by kernel_rfl) ?_ ?_
     rotate_left
     ·(intro w; go_simp; try with_reducible rfl)
     try simp only [Act.put, tdy]
     refine timed_pure (i := 7) (v := ?_) rfl (by kernel_rfl) (by kernel_rfl) (by kernel_rfl) (fun _ _ _ h => h) (by kernel_rfl) (by kernel_rfl) ?_ ?_
     rotate_left
     ·(intro w; go_simp; try with_reducible rfl)
     try simp only [Act.put, tdy]
     refine timed_pure (i := 8) (v := ?_) rfl (by kernel_rfl) (by kernel_rfl) (by kernel_rfl) (fun _ _ _ h => h) (by kernel_rfl) (by kernel_rfl) ?_ ?_
     rotate_left
     ·(intro w; go_simp; try with_reducible rfl)
     try simp only [Act.put, tdy]
     refine timed_pure (i := 9) (v := ?_) rfl (by kernel_rfl) (by kernel_rfl) (by kernel_rfl) (fun _ _ _ h => h) (by kernel_rfl) (by kernel_rfl) ?_ ?_
     rotate_left
     ·(intro w; go_simp; try with_reducible rfl)
     try simp only [Act.put, tdy]
     refine timed_read (i := 10) (v := ?_) 0 rfl (by kernel_rfl) (by kernel_rfl) (by kernel_rfl) (fun _ _ _ h => h) (by kernel_rfl) (by kernel_rfl) rfl (by kernel_rfl) ?_ ?_
     rotate_left
     ·(intro wq hSw; (try dsimp only at hSw); have hb_H := hSw.blk HB1.out (by simp); have lb_H := hb_H.lt; have y0 := hb_H.at_ 0; have y1 := hb_H.at_ 1; have y2 := hb_H.at_ 2; simp at y0 y1 y2; clear hb_H; have hb_P := hSw.blk HP1.out (by simp); have lb_P := hb_P.lt; have p0 := hb_P.at_ 0; have p1 := hb_P.at_ 1; simp at p0 p1; clear hb_P; clear hSw; go_simp; try with_reducible rfl)
     try simp only [Act.put, tdy]
     refine timed_pure (i := 11) (v := ?_) rfl (by kernel_rfl) (by kernel_rfl) (by kernel_rfl) (fun _ _ _ h => h) (by kernel_rfl) (by kernel_rfl) ?_ ?_
     rotate_left
     ·(intro w; go_simp; try with_reducible rfl)
     try simp only [Act.put, tdy]
     refine timed_read (i := 12) (v := ?_) 0 rfl (by kernel_rfl) (by kernel_rfl) (by kernel_rfl) (fun _ _ _ h => h) (by kernel_rfl) (by kernel_rfl) rfl (by kernel_rfl) ?_ ?_
     rotate_left
     ·(intro wq hSw; (try dsimp only at hSw); have hb_H := hSw.blk HB1.out (by simp); have lb_H := hb_H.lt; have y0 := hb_H.at_ 0; have y1 := hb_H.at_ 1; have y2 := hb_H.at_ 2; simp at y0 y1 y2; clear hb_H; have hb_P := hSw.blk HP1.out (by simp); have lb_P := hb_P.lt; have p0 := hb_P.at_ 0; have p1 := hb_P.at_ 1; simp at p0 p1; clear hb_P; clear hSw; go_simp; try with_reducible rfl)
     try simp only [Act.put, tdy]
     refine timed_pure (i := 13) (v := ?_) rfl (by kernel_rfl) (by kernel_rfl) (by kernel_rfl) (fun _ _ _ h => h) (by kernel_rfl) (by kernel_rfl) ?_ ?_
     rotate_left
     ·(intro w; go_simp; try with_reducible rfl)
     try simp only [Act.put, tdy]
     refine timed_pure (i := 14) (v := ?_) rfl (by kernel_rfl) (by kernel_rfl) (by kernel_rfl) (fun _ _ _ h => h) (by kernel_rfl) (by kernel_rfl) ?_ ?_
     rotate_left
     ·(intro w; go_simp; try with_reducible rfl)
     try simp only [Act.put, tdy]
     refine timed_pure (i := 15) (v := ?_) rfl (by kernel_rfl) (by kernel_rfl) (by kernel_rfl) (fun _ _ _ h => h) (by kernel_rfl) (by kernel_rfl) ?_ ?_
     rotate_left
     ·(intro w; go_simp; try with_reducible rfl)
     try simp only [Act.put, tdy]
     refine timed_pure (i := 16) (v := ?_) rfl (by kernel_rfl) (by kernel_rfl) (by kernel_rfl) (fun _ _ _ h => h) (by kernel_rfl) (by kernel_rfl) ?_ ?_
     rotate_left
     ·(intro w; go_simp; try with_reducible rfl)
     try simp only [Act.put, tdy]
     refine timed_pure (i := 17) (v := ?_) rfl (by kernel_rfl) (by kernel_rfl) (by kernel_rfl) (fun _ _ _ h => h) (by kernel_rfl) (by kernel_rfl) ?_ ?_
     rotate_left
     ·(intro w; go_simp; try with_reducible rfl)
     try simp only [Act.put, tdy]
     refine timed_read (i := 18) (v := ?_) 0 rfl (by kernel_rfl) (by kernel_rfl) (by kernel_rfl) (fun _ _ _ h => h) (by kernel_rfl) (by kernel_rfl) rfl (by kernel_rfl) ?_ ?_
     rotate_left
     ·(intro wq hSw; (try dsimp only at hSw); have hb_H := hSw.blk HB1.out (by simp); have lb_H := hb_H.lt; have y0 := hb_H.at_ 0; have y1 := hb_H.at_ 1; have y2 := hb_H.at_ 2; simp at y0 y1 y2; clear hb_H; have hb_P := hSw.blk HP1.out (by simp); have lb_P := hb_P.lt; have p0 := hb_P.at_ 0; have p1 := hb_P.at_ 1; simp at p0 p1; clear hb_P; clear hSw; go_simp; try with_reducible rfl)
     try simp only [Act.put, tdy]
     refine timed_pure (i := 19) (v := ?_) rfl (by kernel_rfl) (by kernel_rfl) (by kernel_rfl) (fun _ _ _ h => h) (by kernel_rfl) (by kernel_rfl) ?_ ?_
     rotate_left
     ·(intro w; go_simp; try with_reducible rfl)
     try simp only [Act.put, tdy]
     refine timed_pure (i := 20) (v := ?_) rfl (by kernel_rfl) (by kernel_rfl) (by kernel_rfl) (fun _ _ _ h => h) (by kernel_rfl) (by kernel_rfl) ?_ ?_
     rotate_left
     ·(intro w; go_simp; try with_reducible rfl)
     try simp only [Act.put, tdy]
     refine timed_pure (i := 21) (v := ?_) rfl (by kernel_rfl) (by kernel_rfl) (by kernel_rfl) (fun _ _ _ h => h) (by kernel_rfl) (by kernel_rfl) ?_ ?_
     rotate_left
     ·(intro w; go_simp; try with_reducible rfl)
     try simp only [Act.put, tdy]
     refine timed_idle (i := 22) rfl (by kernel_rfl) (by kernel_rfl) (by kernel_rfl) (fun _ _ _ h => h) (by kernel_rfl) (by kernel_rfl) ?_
     try simp only [Act.put, tdy]
     refine timed_idle (i := 23) rfl (by kernel_rfl) (by kernel_rfl) (by kernel_rfl) (fun _ _ _ h => h) (by kernel_rfl) (by kernel_rfl) ?_
     try simp only [Act.put, tdy]
     refine timed_idle (i := 24) rfl (by kernel_rfl) (by kernel_rfl) (by kernel_rfl) (fun _ _ _ h => h) (by kernel_rfl) (by kernel_rfl) ?_
     try simp only [Act.put, tdy]
     refine timed_idle (i := 25) rfl (by kernel_rfl) (by kernel_rfl) (by kernel_rfl) (fun _ _ _ h => h) (by kernel_rfl) (by kernel_rfl) ?_
     try simp only [Act.put, tdy]
     refine timed_idle (i := 26) rfl (by kernel_rfl) (by kernel_rfl) (by kernel_rfl) (fun _ _ _ h => h) (by kernel_rfl) (by kernel_rfl) ?_
     try simp only [Act.put, tdy]
     refine timed_idle (i := 27) rfl (by kernel_rfl) (by kernel_rfl) (by kernel_rfl) (fun _ _ _ h => h) (by kernel_rfl) (by kernel_rfl) ?_
     try simp only [Act.put, tdy]
     refine timed_idle (i := 28) rfl (by kernel_rfl) (by kernel_rfl) (by kernel_rfl) (fun _ _ _ h => h) (by kernel_rfl) (by kernel_rfl) ?_
     try simp only [Act.put, tdy]
     refine timed_idle (i := 29) rfl (by kernel_rfl) (by kernel_rfl) (by kernel_rfl) (fun _ _ _ h => h) (by kernel_rfl) (by kernel_rfl) ?_
     try simp only [Act.put, tdy]
     refine timed_idle (i := 30) rfl (by kernel_rfl) (by kernel_rfl) (by kernel_rfl) (fun _ _ _ h => h) (by kernel_rfl) (by kernel_rfl) ?_
     try simp only [Act.put, tdy]
     refine timed_idle (i := 31) rfl (by kernel_rfl) (by kernel_rfl) (by kernel_rfl) (fun _ _ _ h => h) (by kernel_rfl) (by kernel_rfl) ?_
     try simp only [Act.put, tdy]
     refine timed_idle (i := 32) rfl (by kernel_rfl) (by kernel_rfl) (by kernel_rfl) (fun _ _ _ h => h) (by kernel_rfl) (by kernel_rfl) ?_
     try simp only [Act.put, tdy]
     refine timed_pure (i := 33) (v := ?_) rfl (by kernel_rfl) (by kernel_rfl) (by kernel_rfl) (fun _ _ _ h => h) (by kernel_rfl) (by kernel_rfl) ?_ ?_
     rotate_left
     ·(intro w; go_simp; try with_reducible rfl)
     try simp only [Act.put, tdy]
     refine timed_pure (i := 34) (v := ?_) rfl (by kernel_rfl) (by kernel_rfl) (by kernel_rfl) (fun _ _ _ h => h) (by kernel_rfl) (by kernel_rfl) ?_ ?_
     rotate_left
     ·(intro w; go_simp; try with_reducible rfl)
     try simp only [Act.put, tdy]
     refine timed_idle (i := 35) rfl (by kernel_rfl) (by kernel_rfl) (by kernel_rfl) (fun _ _ _ h => h) (by kernel_rfl) (by kernel_rfl) ?_
     try simp only [Act.put, tdy]
     refine timed_idle (i := 36) rfl (by kernel_rfl) (by kernel_rfl) (by kernel_rfl) (fun _ _ _ h => h) (by kernel_rfl) (by kernel_rfl) ?_
     try simp only [Act.put, tdy]
     refine timed_idle (i := 37) rfl (by kernel_rfl) (by kernel_rfl) (by kernel_rfl) (fun _ _ _ h => h) (by kernel_rfl) (by kernel_rfl) ?_
     try simp only [Act.put, tdy]
     refine timed_idle (i := 38) rfl (by kernel_rfl) (by kernel_rfl) (by kernel_rfl) (fun _ _ _ h => h) (by kernel_rfl) (by kernel_rfl) ?_
     try simp only [Act.put, tdy]
     refine timed_idle (i := 39) rfl (by kernel_rfl) (by kernel_rfl) (by kernel_rfl) (fun _ _ _ h => h) (by kernel_rfl) (by kernel_rfl) ?_
     try simp only [Act.put, tdy]
     refine timed_idle (i := 40) rfl (by kernel_rfl) (by kernel_rfl) (by kernel_rfl) (fun _ _ _ h => h) (by kernel_rfl) (by kernel_rfl) ?_
     try simp only [Act.put, tdy]
     refine timed_idle (i := 41) rfl (by kernel_rfl) (by kernel_rfl) (by kernel_rfl) (fun _ _ _ h => h) (by kernel_rfl) (by kernel_rfl) ?_
     try simp only [Act.put, tdy]
     refine timed_idle (i := 42) rfl (by kernel_rfl) (by kernel_rfl) (by kernel_rfl) (fun _ _ _ h => h) (by kernel_rfl) (by kernel_rfl) ?_
     try simp only [Act.put, tdy]
     refine timed_idle (i := 43) rfl (by kernel_rfl) (by kernel_rfl) (by kernel_rfl) (fun _ _ _ h => h) (by kernel_rfl) (by kernel_rfl) ?_
     try simp only [Act.put, tdy]
     refine timed_idle (i := 44) rfl (by kernel_rfl) (by kernel_rfl) (by kernel_rfl) (fun _ _ _ h => h) (by kernel_rfl) (by kernel_rfl) ?_
     try simp only [Act.put, tdy]
     refine timed_idle (i := 45) rfl (by kernel_rfl) (by kernel_rfl) (by kernel_rfl) (fun _ _ _ h => h) (by kernel_rfl) (by kernel_rfl) ?_
     try simp only [Act.put, tdy]
     refine timed_idle (i := 46) rfl (by kernel_rfl) (by kernel_rfl) (by kernel_rfl) (fun _ _ _ h => h) (by kernel_rfl) (by kernel_rfl) ?_
     try simp only [Act.put, tdy]
     refine timed_idle (i := 47) rfl (by kernel_rfl) (by kernel_rfl) (by kernel_rfl) (fun _ _ _ h => h) (by kernel_rfl) (by kernel_rfl) ?_
     try simp only [Act.put, tdy]
     refine timed_idle (i := 48) rfl (by kernel_rfl) (by kernel_rfl) (by kernel_rfl) (fun _ _ _ h => h) (by kernel_rfl) (by kernel_rfl) ?_
     try simp only [Act.put, tdy]
     refine timed_pure (i := 49) (v := ?_) rfl (by kernel_rfl) (by kernel_rfl) (by kernel_rfl) (fun _ _ _ h => h) (by kernel_rfl) (by kernel_rfl) ?_ ?_
     rotate_left
     ·(intro w; go_simp; try with_reducible rfl)
     try simp only [Act.put, tdy]
     refine timed_done (by kernel_rfl) ?_ _
     refine NoPanic.normal ?_
     have HNW := Lib.hid ( (((Only.refl [] w1).drew).trans O3))
     have HR2 := Lib.hid (HNW.out.blk HR1.out (by simp))
     have HO2 := Lib.hid (HO1.out.trans HNW.out)
     go_wp2_with (refine wpList_store_blk rfl 27 (.tmp 4) (.tmp 58) rfl gr 27 _ #[.int .i64 0, .int .i64 0] rfl rfl HR2.out rfl (by kernel_rfl) (by kernel_rfl) ?_; intro w9 b9 o9; have HB9 := Lib.hid b9; have HN9 := Lib.hid o9; clear b9 o9)
     refine bodyPost_ret (results_row2 Tryz.results30 _ _ gr 27 #[.int .i64 0, .int .i64 0] _ rfl HB9.out Tryz.underlying27 rfl (by kernel_rfl)) rfl ?_
     exact ⟨rfl, HO2.out.step HN9.out (fun i hi hl => by simp at hi; omega)⟩
    ·have d3 : decide (b < 0) = false := decide_eq_false h3
     by_cases h4 : (t.ops.length : Int) ≤ b
     ·rw [place_none (opAt_big hta h4)]
      obtain ⟨ts, tf, ops⟩ := t
      dsimp only at *
      generalize hmm : ops.length = m at *
      have d4 : decide ((m : Int) ≤ b) = true := decide_eq_true h4
      clear h3 h4 hta
      go_enter Tryz.func30, Tryz.ntmps30
      go_wp2_with fail
      generalize (((w.alloc (.cells #[.slice A0 n0 c0, .slice A1 n1 c1, .slice (some ⟨bt, ot, none⟩) n2 c2] 25)).alloc (.cells #[.int .i64 (q : Int), .int .i64 b] 27)).alloc (.cells #[.int .i64 0, .int .i64 0] 27)) = w1 at *
      generalize hgr : w.heap.size + 1 + 1 = gr at *
      generalize hgp : w.heap.size + 1 = gp at *
      generalize hgg : w.heap.size = g at *
      have hsz : g ≤ w1.heap.size := by have := HO1.out.size; omega
      obtain ⟨-, -, a2⟩ := HTA.out.only HO1.out (by omega) (by simp)
      have hbr1 : bt < w1.heap.size := by have := HO1.out.size; omega
      dsimp only at a2
      refine wp_region_noPanic ?_
      refine wp_region_timed (F := [⟨[], [], fun w' => Only [] w1 w'⟩]) (by kernel_rfl) (timed_holds ((Only.refl [] w1).drew) (timed_nil)) ?_
      refine timed_read (i := 0) (v := ?_) 0 rfl (by kernel_rfl) (by kernel_rfl) (by kernel_rfl) (fun _ _ _ h => h) (by kernel_rfl) (by kernel_rfl) rfl (by kernel_rfl) ?_ ?_
      rotate_left
      ·(intro wq hSw; (try dsimp only at hSw); have hb_H := hSw.blk HB1.out (by simp); have lb_H := hb_H.lt; have y0 := hb_H.at_ 0; have y1 := hb_H.at_ 1; have y2 := hb_H.at_ 2; simp at y0 y1 y2; clear hb_H; have hb_P := hSw.blk HP1.out (by simp); have lb_P := hb_P.lt; have p0 := hb_P.at_ 0; have p1 := hb_P.at_ 1; simp at p0 p1; clear hb_P; have t2 := (hSw.cell (p := ⟨bt, ot + q * 3 + 2, none⟩) hbr1 (by simp)).trans a2; clear hSw; go_simp; try with_reducible rfl)
      try simp only [Act.put, tdy]
      refine timed_step (i := 1) (by kernel_rfl) rfl (fun K hK => ?_)
      go_simp
      refine (HF.out _ (HO1.out.trans (Only.refl [] w1).drew)).mono ?_
      rintro e w3 ⟨rfl, O3⟩
      refine hK.out _ _ (timed_holds (((Only.refl [] w1).drew).trans O3) (timed_nil)) ?_
      clear hK K
      try simp only [Act.put, tdy]
      refine timed_pure (i := 2) (v := ?_) rfl (by kernel_rfl) (by kernel_rfl) (by kernel_rfl) (fun _ _ _ h => h) (by kernel_rfl) (by kernel_rfl) ?_ ?_
      rotate_left
      ·(intro w; go_simp; try with_reducible rfl)
      try simp only [Act.put, tdy]
      refine timed_pure (i := 3) (v := ?_) rfl (by kernel_rfl) (by kernel_rfl) (by kernel_rfl) (fun _ _ _ h => h) (by kernel_rfl) (by kernel_rfl) ?_ ?_
      rotate_left
      ·(intro w; go_simp; try with_reducible rfl)
      try simp only [Act.put, tdy]
      refine timed_pure (i := 4) (v := ?_) rfl (by kernel_rfl) (by kernel_rfl) (by kernel_rfl) (fun _ _ _ h => h) (by kernel_rfl) (by kernel_rfl) ?_ ?_
      rotate_left
      ·(intro w; go_simp; try with_reducible rfl)
      try simp only [Act.put, tdy]
      refine timed_read (i := 5) (v := ?_) 0 rfl (by kernel_rfl) (by kernel_rfl) (by kernel_rfl) (fun _ _ _ h => h) (by kernel_rfl) (by kernel_rfl) rfl (by kernel_rfl) ?_ ?_
      rotate_left
      ·(intro wq hSw; (try dsimp only at hSw); have hb_H := hSw.blk HB1.out (by simp); have lb_H := hb_H.lt; have y0 := hb_H.at_ 0; have y1 := hb_H.at_ 1; have y2 := hb_H.at_ 2; simp at y0 y1 y2; clear hb_H; have hb_P := hSw.blk HP1.out (by simp); have lb_P := hb_P.lt; have p0 := hb_P.at_ 0; have p1 := hb_P.at_ 1; simp at p0 p1; clear hb_P; have t2 := (hSw.cell (p := ⟨bt, ot + q * 3 + 2, none⟩) hbr1 (by simp)).trans a2; clear hSw; go_simp; try with_reducible rfl)
      try simp only [Act.put, tdy]
      refine timed_pure (i := 6) (v := ?_) rfl (by kernel_rfl) (by kernel_rfl) (by kernel_rfl) (fun _ _ _ h => h) (by kernel_rfl) (by kernel_rfl) ?_ ?_
      rotate_left
      ·(intro w; go_simp; try with_reducible rfl)
      try simp only [Act.put, tdy]
      refine timed_pure (i := 7) (v := ?_) rfl (by kernel_rfl) (by kernel_rfl) (by kernel_rfl) (fun _ _ _ h => h) (by kernel_rfl) (by kernel_rfl) ?_ ?_
      rotate_left
      ·(intro w; go_simp; try with_reducible rfl)
      try simp only [Act.put, tdy]
      refine timed_pure (i := 8) (v := ?_) rfl (by kernel_rfl) (by kernel_rfl) (by kernel_rfl) (fun _ _ _ h => h) (by kernel_rfl) (by kernel_rfl) ?_ ?_
      rotate_left
      ·(intro w; go_simp; try with_reducible rfl)
      try simp only [Act.put, tdy]
      refine timed_pure (i := 9) (v := ?_) rfl (by kernel_rfl) (by kernel_rfl) (by kernel_rfl) (fun _ _ _ h => h) (by kernel_rfl) (by kernel_rfl) ?_ ?_
      rotate_left
      ·(intro w; go_simp; try with_reducible rfl)
      try simp only [Act.put, tdy]
      refine timed_read (i := 10) (v := ?_) 0 rfl (by kernel_rfl) (by kernel_rfl) (by kernel_rfl) (fun _ _ _ h => h) (by kernel_rfl) (by kernel_rfl) rfl (by kernel_rfl) ?_ ?_
      rotate_left
      ·(intro wq hSw; (try dsimp only at hSw); have hb_H := hSw.blk HB1.out (by simp); have lb_H := hb_H.lt; have y0 := hb_H.at_ 0; have y1 := hb_H.at_ 1; have y2 := hb_H.at_ 2; simp at y0 y1 y2; clear hb_H; have hb_P := hSw.blk HP1.out (by simp); have lb_P := hb_P.lt; have p0 := hb_P.at_ 0; have p1 := hb_P.at_ 1; simp at p0 p1; clear hb_P; have t2 := (hSw.cell (p := ⟨bt, ot + q * 3 + 2, none⟩) hbr1 (by simp)).trans a2; clear hSw; go_simp; try with_reducible rfl)
      try simp only [Act.put, tdy]
      refine timed_pure (i := 11) (v := ?_) rfl (by kernel_rfl) (by kernel_rfl) (by kernel_rfl) (fun _ _ _ h => h) (by kernel_rfl) (by kernel_rfl) ?_ ?_
      rotate_left
      ·(intro w; go_simp; try with_reducible rfl)
      try simp only [Act.put, tdy]
      refine timed_read (i := 12) (v := ?_) 0 rfl (by kernel_rfl) (by kernel_rfl) (by kernel_rfl) (fun _ _ _ h => h) (by kernel_rfl) (by kernel_rfl) rfl (by kernel_rfl) ?_ ?_
      rotate_left
      ·(intro wq hSw; (try dsimp only at hSw); have hb_H := hSw.blk HB1.out (by simp); have lb_H := hb_H.lt; have y0 := hb_H.at_ 0; have y1 := hb_H.at_ 1; have y2 := hb_H.at_ 2; simp at y0 y1 y2; clear hb_H; have hb_P := hSw.blk HP1.out (by simp); have lb_P := hb_P.lt; have p0 := hb_P.at_ 0; have p1 := hb_P.at_ 1; simp at p0 p1; clear hb_P; have t2 := (hSw.cell (p := ⟨bt, ot + q * 3 + 2, none⟩) hbr1 (by simp)).trans a2; clear hSw; go_simp; try with_reducible rfl)
      try simp only [Act.put, tdy]
      refine timed_pure (i := 13) (v := ?_) rfl (by kernel_rfl) (by kernel_rfl) (by kernel_rfl) (fun _ _ _ h => h) (by kernel_rfl) (by kernel_rfl) ?_ ?_
      rotate_left
      ·(intro w; go_simp; try with_reducible rfl)
      try simp only [Act.put, tdy]
      refine timed_pure (i := 14) (v := ?_) rfl (by kernel_rfl) (by kernel_rfl) (by kernel_rfl) (fun _ _ _ h => h) (by kernel_rfl) (by kernel_rfl) ?_ ?_
      rotate_left
      ·(intro w; go_simp; try with_reducible rfl)
      try simp only [Act.put, tdy]
      refine timed_pure (i := 15) (v := ?_) rfl (by kernel_rfl) (by kernel_rfl) (by kernel_rfl) (fun _ _ _ h => h) (by kernel_rfl) (by kernel_rfl) ?_ ?_
      rotate_left
      ·(intro w; go_simp; try with_reducible rfl)
      try simp only [Act.put, tdy]
      refine timed_pure (i := 16) (v := ?_) rfl (by kernel_rfl) (by kernel_rfl) (by kernel_rfl) (fun _ _ _ h => h) (by kernel_rfl) (by kernel_rfl) ?_ ?_
      rotate_left
      ·(intro w; go_simp; try with_reducible rfl)
      try simp only [Act.put, tdy]
      refine timed_pure (i := 17) (v := ?_) rfl (by kernel_rfl) (by kernel_rfl) (by kernel_rfl) (fun _ _ _ h => h) (by kernel_rfl) (by kernel_rfl) ?_ ?_
      rotate_left
      ·(intro w; go_simp; try with_reducible rfl)
      try simp only [Act.put, tdy]
      refine timed_read (i := 18) (v := ?_) 0 rfl (by kernel_rfl) (by kernel_rfl) (by kernel_rfl) (fun _ _ _ h => h) (by kernel_rfl) (by kernel_rfl) rfl (by kernel_rfl) ?_ ?_
      rotate_left
      ·(intro wq hSw; (try dsimp only at hSw); have hb_H := hSw.blk HB1.out (by simp); have lb_H := hb_H.lt; have y0 := hb_H.at_ 0; have y1 := hb_H.at_ 1; have y2 := hb_H.at_ 2; simp at y0 y1 y2; clear hb_H; have hb_P := hSw.blk HP1.out (by simp); have lb_P := hb_P.lt; have p0 := hb_P.at_ 0; have p1 := hb_P.at_ 1; simp at p0 p1; clear hb_P; have t2 := (hSw.cell (p := ⟨bt, ot + q * 3 + 2, none⟩) hbr1 (by simp)).trans a2; clear hSw; go_simp; try with_reducible rfl)
      try simp only [Act.put, tdy]
      refine timed_pure (i := 19) (v := ?_) rfl (by kernel_rfl) (by kernel_rfl) (by kernel_rfl) (fun _ _ _ h => h) (by kernel_rfl) (by kernel_rfl) ?_ ?_
      rotate_left
      ·(intro w; go_simp; try with_reducible rfl)
      try simp only [Act.put, tdy]
      refine timed_pure (i := 20) (v := ?_) rfl (by kernel_rfl) (by kernel_rfl) (by kernel_rfl) (fun _ _ _ h => h) (by kernel_rfl) (by kernel_rfl) ?_ ?_
      rotate_left
      ·(intro w; go_simp; try with_reducible rfl)
      try simp only [Act.put, tdy]
      refine timed_pure (i := 21) (v := ?_) rfl (by kernel_rfl) (by kernel_rfl) (by kernel_rfl) (fun _ _ _ h => h) (by kernel_rfl) (by kernel_rfl) ?_ ?_
      rotate_left
      ·(intro w; go_simp; try with_reducible rfl)
      try simp only [Act.put, tdy]
      refine timed_pure (i := 22) (v := ?_) rfl (by kernel_rfl) (by kernel_rfl) (by kernel_rfl) (fun _ _ _ h => h) (by kernel_rfl) (by kernel_rfl) ?_ ?_
      rotate_left
      ·(intro w; go_simp; try with_reducible rfl)
      try simp only [Act.put, tdy]
      refine timed_read (i := 23) (v := ?_) 0 rfl (by kernel_rfl) (by kernel_rfl) (by kernel_rfl) (fun _ _ _ h => h) (by kernel_rfl) (by kernel_rfl) rfl (by kernel_rfl) ?_ ?_
      rotate_left
      ·(intro wq hSw; (try dsimp only at hSw); have hb_H := hSw.blk HB1.out (by simp); have lb_H := hb_H.lt; have y0 := hb_H.at_ 0; have y1 := hb_H.at_ 1; have y2 := hb_H.at_ 2; simp at y0 y1 y2; clear hb_H; have hb_P := hSw.blk HP1.out (by simp); have lb_P := hb_P.lt; have p0 := hb_P.at_ 0; have p1 := hb_P.at_ 1; simp at p0 p1; clear hb_P; have t2 := (hSw.cell (p := ⟨bt, ot + q * 3 + 2, none⟩) hbr1 (by simp)).trans a2; clear hSw; go_simp; try with_reducible rfl)
      try simp only [Act.put, tdy]
      refine timed_pure (i := 24) (v := ?_) rfl (by kernel_rfl) (by kernel_rfl) (by kernel_rfl) (fun _ _ _ h => h) (by kernel_rfl) (by kernel_rfl) ?_ ?_
      rotate_left
      ·(intro w; go_simp; try with_reducible rfl)
      try simp only [Act.put, tdy]
      refine timed_read (i := 25) (v := ?_) 0 rfl (by kernel_rfl) (by kernel_rfl) (by kernel_rfl) (fun _ _ _ h => h) (by kernel_rfl) (by kernel_rfl) rfl (by kernel_rfl) ?_ ?_
      rotate_left
      ·(intro wq hSw; (try dsimp only at hSw); have hb_H := hSw.blk HB1.out (by simp); have lb_H := hb_H.lt; have y0 := hb_H.at_ 0; have y1 := hb_H.at_ 1; have y2 := hb_H.at_ 2; simp at y0 y1 y2; clear hb_H; have hb_P := hSw.blk HP1.out (by simp); have lb_P := hb_P.lt; have p0 := hb_P.at_ 0; have p1 := hb_P.at_ 1; simp at p0 p1; clear hb_P; have t2 := (hSw.cell (p := ⟨bt, ot + q * 3 + 2, none⟩) hbr1 (by simp)).trans a2; clear hSw; go_simp; try with_reducible rfl)
      try simp only [Act.put, tdy]
      refine timed_pure (i := 26) (v := ?_) rfl (by kernel_rfl) (by kernel_rfl) (by kernel_rfl) (fun _ _ _ h => h) (by kernel_rfl) (by kernel_rfl) ?_ ?_
      rotate_left
      ·(intro w; go_simp; try with_reducible rfl)
      try simp only [Act.put, tdy]
      refine timed_read (i := 27) (v := ?_) 0 rfl (by kernel_rfl) (by kernel_rfl) (by kernel_rfl) (fun _ _ _ h => h) (by kernel_rfl) (by kernel_rfl) rfl (by kernel_rfl) ?_ ?_
      rotate_left
      ·(intro wq hSw; (try dsimp only at hSw); have hb_H := hSw.blk HB1.out (by simp); have lb_H := hb_H.lt; have y0 := hb_H.at_ 0; have y1 := hb_H.at_ 1; have y2 := hb_H.at_ 2; simp at y0 y1 y2; clear hb_H; have hb_P := hSw.blk HP1.out (by simp); have lb_P := hb_P.lt; have p0 := hb_P.at_ 0; have p1 := hb_P.at_ 1; simp at p0 p1; clear hb_P; have t2 := (hSw.cell (p := ⟨bt, ot + q * 3 + 2, none⟩) hbr1 (by simp)).trans a2; clear hSw; go_simp; try with_reducible rfl)
      try simp only [Act.put, tdy]
      refine timed_pure (i := 28) (v := ?_) rfl (by kernel_rfl) (by kernel_rfl) (by kernel_rfl) (fun _ _ _ h => h) (by kernel_rfl) (by kernel_rfl) ?_ ?_
      rotate_left
      ·(intro w; go_simp; try with_reducible rfl)
      try simp only [Act.put, tdy]
      refine timed_pure (i := 29) (v := ?_) rfl (by kernel_rfl) (by kernel_rfl) (by kernel_rfl) (fun _ _ _ h => h) (by kernel_rfl) (by kernel_rfl) ?_ ?_
      rotate_left
      ·(intro w; go_simp; try with_reducible rfl)
      try simp only [Act.put, tdy]
      refine timed_read (i := 30) (v := ?_) 0 rfl (by kernel_rfl) (by kernel_rfl) (by kernel_rfl) (fun _ _ _ h => h) (by kernel_rfl) (by kernel_rfl) rfl (by kernel_rfl) ?_ ?_
      rotate_left
      ·(intro wq hSw; (try dsimp only at hSw); have hb_H := hSw.blk HB1.out (by simp); have lb_H := hb_H.lt; have y0 := hb_H.at_ 0; have y1 := hb_H.at_ 1; have y2 := hb_H.at_ 2; simp at y0 y1 y2; clear hb_H; have hb_P := hSw.blk HP1.out (by simp); have lb_P := hb_P.lt; have p0 := hb_P.at_ 0; have p1 := hb_P.at_ 1; simp at p0 p1; clear hb_P; have t2 := (hSw.cell (p := ⟨bt, ot + q * 3 + 2, none⟩) hbr1 (by simp)).trans a2; clear hSw; go_simp; try with_reducible rfl)
      try simp only [Act.put, tdy]
      refine timed_pure (i := 31) (v := ?_) rfl (by kernel_rfl) (by kernel_rfl) (by kernel_rfl) (fun _ _ _ h => h) (by kernel_rfl) (by kernel_rfl) ?_ ?_
      rotate_left
      ·(intro w; go_simp; try with_reducible rfl)
      try simp only [Act.put, tdy]
      refine timed_pure (i := 32) (v := ?_) rfl (by kernel_rfl) (by kernel_rfl) (by kernel_rfl) (fun _ _ _ h => h) (by kernel_rfl) (by kernel_rfl) ?_ ?_
      rotate_left
      ·(intro w; go_simp; try with_reducible rfl)
      try simp only [Act.put, tdy]
      refine timed_pure (i := 33) (v := ?_) rfl (by kernel_rfl) (by kernel_rfl) (by kernel_rfl) (fun _ _ _ h => h) (by kernel_rfl) (by kernel_rfl) ?_ ?_
      rotate_left
      ·(intro w; go_simp; try with_reducible rfl)
      try simp only [Act.put, tdy]
      refine timed_pure (i := 34) (v := ?_) rfl (by kernel_rfl) (by kernel_rfl) (by kernel_rfl) (fun _ _ _ h => h) (by kernel_rfl) (by kernel_rfl) ?_ ?_
      rotate_left
      ·(intro w; go_simp; try with_reducible rfl)
      try simp only [Act.put, tdy]
      refine timed_idle (i := 35) rfl (by kernel_rfl) (by kernel_rfl) (by kernel_rfl) (fun _ _ _ h => h) (by kernel_rfl) (by kernel_rfl) ?_
      try simp only [Act.put, tdy]
      refine timed_idle (i := 36) rfl (by kernel_rfl) (by kernel_rfl) (by kernel_rfl) (fun _ _ _ h => h) (by kernel_rfl) (by kernel_rfl) ?_
      try simp only [Act.put, tdy]
      refine timed_idle (i := 37) rfl (by kernel_rfl) (by kernel_rfl) (by kernel_rfl) (fun _ _ _ h => h) (by kernel_rfl) (by kernel_rfl) ?_
      try simp only [Act.put, tdy]
      refine timed_idle (i := 38) rfl (by kernel_rfl) (by kernel_rfl) (by kernel_rfl) (fun _ _ _ h => h) (by kernel_rfl) (by kernel_rfl) ?_
      try simp only [Act.put, tdy]
      refine timed_idle (i := 39) rfl (by kernel_rfl) (by kernel_rfl) (by kernel_rfl) (fun _ _ _ h => h) (by kernel_rfl) (by kernel_rfl) ?_
      try simp only [Act.put, tdy]
      refine timed_idle (i := 40) rfl (by kernel_rfl) (by kernel_rfl) (by kernel_rfl) (fun _ _ _ h => h) (by kernel_rfl) (by kernel_rfl) ?_
      try simp only [Act.put, tdy]
      refine timed_idle (i := 41) rfl (by kernel_rfl) (by kernel_rfl) (by kernel_rfl) (fun _ _ _ h => h) (by kernel_rfl) (by kernel_rfl) ?_
      try simp only [Act.put, tdy]
      refine timed_idle (i := 42) rfl (by kernel_rfl) (by kernel_rfl) (by kernel_rfl) (fun _ _ _ h => h) (by kernel_rfl) (by kernel_rfl) ?_
      try simp only [Act.put, tdy]
      refine timed_idle (i := 43) rfl (by kernel_rfl) (by kernel_rfl) (by kernel_rfl) (fun _ _ _ h => h) (by kernel_rfl) (by kernel_rfl) ?_
      try simp only [Act.put, tdy]
      refine timed_idle (i := 44) rfl (by kernel_rfl) (by kernel_rfl) (by kernel_rfl) (fun _ _ _ h => h) (by kernel_rfl) (by kernel_rfl) ?_
      try simp only [Act.put, tdy]
      refine timed_idle (i := 45) rfl (by kernel_rfl) (by kernel_rfl) (by kernel_rfl) (fun _ _ _ h => h) (by kernel_rfl) (by kernel_rfl) ?_
      try simp only [Act.put, tdy]
      refine timed_idle (i := 46) rfl (by kernel_rfl) (by kernel_rfl) (by kernel_rfl) (fun _ _ _ h => h) (by kernel_rfl) (by kernel_rfl) ?_
      try simp only [Act.put, tdy]
      refine timed_idle (i := 47) rfl (by kernel_rfl) (by kernel_rfl) (by kernel_rfl) (fun _ _ _ h => h) (by kernel_rfl) (by kernel_rfl) ?_
      try simp only [Act.put, tdy]
      refine timed_idle (i := 48) rfl (by kernel_rfl) (by kernel_rfl) (by kernel_rfl) (fun _ _ _ h => h) (by kernel_rfl) (by kernel_rfl) ?_
      try simp only [Act.put, tdy]
      refine timed_pure (i := 49) (v := ?_) rfl (by kernel_rfl) (by kernel_rfl) (by kernel_rfl) (fun _ _ _ h => h) (by kernel_rfl) (by kernel_rfl) ?_ ?_
      rotate_left
      ·(intro w; go_simp; try with_reducible rfl)
      try simp only [Act.put, tdy]
      refine timed_done (by kernel_rfl) ?_ _
      refine NoPanic.normal ?_
      have HNW := Lib.hid ( (((Only.refl [] w1).drew).trans O3))
      have HR2 := Lib.hid (HNW.out.blk HR1.out (by simp))
      have HO2 := Lib.hid (HO1.out.trans HNW.out)
      go_wp2_with (refine wpList_store_blk rfl 27 (.tmp 4) (.tmp 58) rfl gr 27 _ #[.int .i64 0, .int .i64 0] rfl rfl HR2.out rfl (by kernel_rfl) (by kernel_rfl) ?_; intro w9 b9 o9; have HB9 := Lib.hid b9; have HN9 := Lib.hid o9; clear b9 o9)
      refine bodyPost_ret (results_row2 Tryz.results30 _ _ gr 27 #[.int .i64 0, .int .i64 0] _ rfl HB9.out Tryz.underlying27 rfl (by kernel_rfl)) rfl ?_
      exact ⟨rfl, HO2.out.step HN9.out (fun i hi hl => by simp at hi; omega)⟩
     ·obtain ⟨j, rfl⟩ : ∃ j : Nat, b = j := ⟨b.toNat, by omega⟩
      have hjm : j < t.ops.length := by omega
      obtain ⟨y, hy⟩ : ∃ y, t.ops[j]? = some y := ⟨_, List.getElem?_eq_getElem hjm⟩
      have hoa : opAtH h (q : Int) (j : Int) = some (t, y) := by
       unfold opAtH
       rw [hta]
       show (if 0 ≤ (j : Int) then _ else none) = _
       rw [if_pos (by omega)]
       simp [hy]
      rw [place_some hoa]
      obtain ⟨ts, tf, ops⟩ := t
      dsimp only at *
      generalize hmm : ops.length = m at *
      have d4 : decide ((m : Int) ≤ (j : Int)) = false := decide_eq_false h4
      have h04 : (j : Int) < (m : Int) := by omega
      have d4n : decide (m ≤ j) = false := decide_eq_false (by omega)
      have hj0 : (0 : Int) ≤ (j : Int) := Int.natCast_nonneg _
      obtain ⟨bo, oo, rfl, hboB, hbo, hP⟩ := row_op HROW.out hy
      have HPY := Lib.hid hP
      obtain ⟨yw, yk, yv, yn⟩ := y
      clear h3 h4 hta hoa hP
      have hjt : ((j : Int)).toNat = j := by omega
      rw [hjt]
      clear hjt
      by_cases h5 : yv = 2
      ·subst h5
       rw [if_pos rfl]
       clear hy
       go_enter Tryz.func30, Tryz.ntmps30
       go_wp2_with fail
       generalize (((w.alloc (.cells #[.slice A0 n0 c0, .slice A1 n1 c1, .slice (some ⟨bt, ot, none⟩) n2 c2] 25)).alloc (.cells #[.int .i64 (q : Int), .int .i64 (j : Int)] 27)).alloc (.cells #[.int .i64 0, .int .i64 0] 27)) = w1 at *
       generalize hgr : w.heap.size + 1 + 1 = gr at *
       generalize hgp : w.heap.size + 1 = gp at *
       generalize hgg : w.heap.size = g at *
       have hsz : g ≤ w1.heap.size := by have := HO1.out.size; omega
       obtain ⟨-, -, a2⟩ := HTA.out.only HO1.out (by omega) (by simp)
       have hbr1 : bt < w1.heap.size := by have := HO1.out.size; omega
       dsimp only at a2
       obtain ⟨-, -, q2, -⟩ := HPY.out.only HO1.out (by omega) (by simp)
       have hbo1 : bo < w1.heap.size := by have := HO1.out.size; omega
       dsimp only at q2
       refine wp_region_noPanic ?_
       refine wp_region_timed (F := [⟨[], [], fun w' => Only [] w1 w'⟩]) (by kernel_rfl) (timed_holds ((Only.refl [] w1).drew) (timed_nil)) ?_
       refine timed_read (i := 0) (v := ?_) 0 rfl (by kernel_rfl) (by kernel_rfl) (by kernel_rfl) (fun _ _ _ h => h) (by kernel_rfl) (by kernel_rfl) rfl (by kernel_rfl) ?_ ?_
       rotate_left
       ·(intro wq hSw; (try dsimp only at hSw); have hb_H := hSw.blk HB1.out (by simp); have lb_H := hb_H.lt; have y0 := hb_H.at_ 0; have y1 := hb_H.at_ 1; have y2 := hb_H.at_ 2; simp at y0 y1 y2; clear hb_H; have hb_P := hSw.blk HP1.out (by simp); have lb_P := hb_P.lt; have p0 := hb_P.at_ 0; have p1 := hb_P.at_ 1; simp at p0 p1; clear hb_P; have t2 := (hSw.cell (p := ⟨bt, ot + q * 3 + 2, none⟩) hbr1 (by simp)).trans a2; have u2 := (hSw.cell (p := ⟨bo, oo + j * 4 + 2, none⟩) hbo1 (by simp)).trans q2; clear hSw; go_simp; try with_reducible rfl)
       try simp only [Act.put, tdy]
       refine timed_step (i := 1) (by kernel_rfl) rfl (fun K hK => ?_)
       go_simp
       refine (HF.out _ (HO1.out.trans (Only.refl [] w1).drew)).mono ?_
       rintro e w3 ⟨rfl, O3⟩
       refine hK.out _ _ (timed_holds (((Only.refl [] w1).drew).trans O3) (timed_nil)) ?_
       clear hK K
       try simp only [Act.put, tdy]
       refine timed_pure (i := 2) (v := ?_) rfl (by kernel_rfl) (by kernel_rfl) (by kernel_rfl) (fun _ _ _ h => h) (by kernel_rfl) (by kernel_rfl) ?_ ?_
       rotate_left
       ·(intro w; go_simp; try with_reducible rfl)
       try simp only [Act.put, tdy]
       refine timed_pure (i := 3) (v := ?_) rfl (by kernel_rfl) (by kernel_rfl) (by kernel_rfl) (fun _ _ _ h => h) (by kernel_rfl) (by kernel_rfl) ?_ ?_
       rotate_left
       ·(intro w; go_simp; try with_reducible rfl)
       try simp only [Act.put, tdy]
       refine timed_pure (i := 4) (v := ?_) rfl (by kernel_rfl) (by kernel_rfl) (by kernel_rfl) (fun _ _ _ h => h) (by kernel_rfl) (by kernel_rfl) ?_ ?_
       rotate_left
       ·(intro w; go_simp; try with_reducible rfl)
       try simp only [Act.put, tdy]
       refine timed_read (i := 5) (v := ?_) 0 rfl (by kernel_rfl) (by kernel_rfl) (by kernel_rfl) (fun _ _ _ h => h) (by kernel_rfl) (by kernel_rfl) rfl (by kernel_rfl) ?_ ?_
       rotate_left
       ·(intro wq hSw; (try dsimp only at hSw); have hb_H := hSw.blk HB1.out (by simp); have lb_H := hb_H.lt; have y0 := hb_H.at_ 0; have y1 := hb_H.at_ 1; have y2 := hb_H.at_ 2; simp at y0 y1 y2; clear hb_H; have hb_P := hSw.blk HP1.out (by simp); have lb_P := hb_P.lt; have p0 := hb_P.at_ 0; have p1 := hb_P.at_ 1; simp at p0 p1; clear hb_P; have t2 := (hSw.cell (p := ⟨bt, ot + q * 3 + 2, none⟩) hbr1 (by simp)).trans a2; have u2 := (hSw.cell (p := ⟨bo, oo + j * 4 + 2, none⟩) hbo1 (by simp)).trans q2; clear hSw; go_simp; try with_reducible rfl)
       try simp only [Act.put, tdy]
       refine timed_pure (i := 6) (v := ?_) rfl (by kernel_rfl) (by kernel_rfl) (by kernel_rfl) (fun _ _ _ h => h) (by kernel_rfl) (by kernel_rfl) ?_ ?_
       rotate_left
       ·(intro w; go_simp; try with_reducible rfl)
       try simp only [Act.put, tdy]
       refine timed_pure (i := 7) (v := ?_) rfl (by kernel_rfl) (by kernel_rfl) (by kernel_rfl) (fun _ _ _ h => h) (by kernel_rfl) (by kernel_rfl) ?_ ?_
       rotate_left
       ·(intro w; go_simp; try with_reducible rfl)
       try simp only [Act.put, tdy]
       refine timed_pure (i := 8) (v := ?_) rfl (by kernel_rfl) (by kernel_rfl) (by kernel_rfl) (fun _ _ _ h => h) (by kernel_rfl) (by kernel_rfl) ?_ ?_
       rotate_left
       ·(intro w; go_simp; try with_reducible rfl)
       try simp only [Act.put, tdy]
       refine timed_pure (i := 9) (v := ?_) rfl (by kernel_rfl) (by kernel_rfl) (by kernel_rfl) (fun _ _ _ h => h) (by kernel_rfl) (by kernel_rfl) ?_ ?_
       rotate_left
       ·(intro w; go_simp; try with_reducible rfl)
       try simp only [Act.put, tdy]
       refine timed_read (i := 10) (v := ?_) 0 rfl (by kernel_rfl) (by kernel_rfl) (by kernel_rfl) (fun _ _ _ h => h) (by kernel_rfl) (by kernel_rfl) rfl (by kernel_rfl) ?_ ?_
       rotate_left
       ·(intro wq hSw; (try dsimp only at hSw); have hb_H := hSw.blk HB1.out (by simp); have lb_H := hb_H.lt; have y0 := hb_H.at_ 0; have y1 := hb_H.at_ 1; have y2 := hb_H.at_ 2; simp at y0 y1 y2; clear hb_H; have hb_P := hSw.blk HP1.out (by simp); have lb_P := hb_P.lt; have p0 := hb_P.at_ 0; have p1 := hb_P.at_ 1; simp at p0 p1; clear hb_P; have t2 := (hSw.cell (p := ⟨bt, ot + q * 3 + 2, none⟩) hbr1 (by simp)).trans a2; have u2 := (hSw.cell (p := ⟨bo, oo + j * 4 + 2, none⟩) hbo1 (by simp)).trans q2; clear hSw; go_simp; try with_reducible rfl)
       try simp only [Act.put, tdy]
       refine timed_pure (i := 11) (v := ?_) rfl (by kernel_rfl) (by kernel_rfl) (by kernel_rfl) (fun _ _ _ h => h) (by kernel_rfl) (by kernel_rfl) ?_ ?_
       rotate_left
       ·(intro w; go_simp; try with_reducible rfl)
       try simp only [Act.put, tdy]
       refine timed_read (i := 12) (v := ?_) 0 rfl (by kernel_rfl) (by kernel_rfl) (by kernel_rfl) (fun _ _ _ h => h) (by kernel_rfl) (by kernel_rfl) rfl (by kernel_rfl) ?_ ?_
       rotate_left
       ·(intro wq hSw; (try dsimp only at hSw); have hb_H := hSw.blk HB1.out (by simp); have lb_H := hb_H.lt; have y0 := hb_H.at_ 0; have y1 := hb_H.at_ 1; have y2 := hb_H.at_ 2; simp at y0 y1 y2; clear hb_H; have hb_P := hSw.blk HP1.out (by simp); have lb_P := hb_P.lt; have p0 := hb_P.at_ 0; have p1 := hb_P.at_ 1; simp at p0 p1; clear hb_P; have t2 := (hSw.cell (p := ⟨bt, ot + q * 3 + 2, none⟩) hbr1 (by simp)).trans a2; have u2 := (hSw.cell (p := ⟨bo, oo + j * 4 + 2, none⟩) hbo1 (by simp)).trans q2; clear hSw; go_simp; try with_reducible rfl)
       try simp only [Act.put, tdy]
       refine timed_pure (i := 13) (v := ?_) rfl (by kernel_rfl) (by kernel_rfl) (by kernel_rfl) (fun _ _ _ h => h) (by kernel_rfl) (by kernel_rfl) ?_ ?_
       rotate_left
       ·(intro w; go_simp; try with_reducible rfl)
       try simp only [Act.put, tdy]
       refine timed_pure (i := 14) (v := ?_) rfl (by kernel_rfl) (by kernel_rfl) (by kernel_rfl) (fun _ _ _ h => h) (by kernel_rfl) (by kernel_rfl) ?_ ?_
       rotate_left
       ·(intro w; go_simp; try with_reducible rfl)
       try simp only [Act.put, tdy]
       refine timed_pure (i := 15) (v := ?_) rfl (by kernel_rfl) (by kernel_rfl) (by kernel_rfl) (fun _ _ _ h => h) (by kernel_rfl) (by kernel_rfl) ?_ ?_
       rotate_left
       ·(intro w; go_simp; try with_reducible rfl)
       try simp only [Act.put, tdy]
       refine timed_pure (i := 16) (v := ?_) rfl (by kernel_rfl) (by kernel_rfl) (by kernel_rfl) (fun _ _ _ h => h) (by kernel_rfl) (by kernel_rfl) ?_ ?_
       rotate_left
       ·(intro w; go_simp; try with_reducible rfl)
       try simp only [Act.put, tdy]
       refine timed_pure (i := 17) (v := ?_) rfl (by kernel_rfl) (by kernel_rfl) (by kernel_rfl) (fun _ _ _ h => h) (by kernel_rfl) (by kernel_rfl) ?_ ?_
       rotate_left
       ·(intro w; go_simp; try with_reducible rfl)
       try simp only [Act.put, tdy]
       refine timed_read (i := 18) (v := ?_) 0 rfl (by kernel_rfl) (by kernel_rfl) (by kernel_rfl) (fun _ _ _ h => h) (by kernel_rfl) (by kernel_rfl) rfl (by kernel_rfl) ?_ ?_
       rotate_left
       ·(intro wq hSw; (try dsimp only at hSw); have hb_H := hSw.blk HB1.out (by simp); have lb_H := hb_H.lt; have y0 := hb_H.at_ 0; have y1 := hb_H.at_ 1; have y2 := hb_H.at_ 2; simp at y0 y1 y2; clear hb_H; have hb_P := hSw.blk HP1.out (by simp); have lb_P := hb_P.lt; have p0 := hb_P.at_ 0; have p1 := hb_P.at_ 1; simp at p0 p1; clear hb_P; have t2 := (hSw.cell (p := ⟨bt, ot + q * 3 + 2, none⟩) hbr1 (by simp)).trans a2; have u2 := (hSw.cell (p := ⟨bo, oo + j * 4 + 2, none⟩) hbo1 (by simp)).trans q2; clear hSw; go_simp; try with_reducible rfl)
       try simp only [Act.put, tdy]
       refine timed_pure (i := 19) (v := ?_) rfl (by kernel_rfl) (by kernel_rfl) (by kernel_rfl) (fun _ _ _ h => h) (by kernel_rfl) (by kernel_rfl) ?_ ?_
       rotate_left
       ·(intro w; go_simp; try with_reducible rfl)
       try simp only [Act.put, tdy]
       refine timed_pure (i := 20) (v := ?_) rfl (by kernel_rfl) (by kernel_rfl) (by kernel_rfl) (fun _ _ _ h => h) (by kernel_rfl) (by kernel_rfl) ?_ ?_
       rotate_left
       ·(intro w; go_simp; try with_reducible rfl)
       try simp only [Act.put, tdy]
       refine timed_pure (i := 21) (v := ?_) rfl (by kernel_rfl) (by kernel_rfl) (by kernel_rfl) (fun _ _ _ h => h) (by kernel_rfl) (by kernel_rfl) ?_ ?_
       rotate_left
       ·(intro w; go_simp; try with_reducible rfl)
       try simp only [Act.put, tdy]
       refine timed_pure (i := 22) (v := ?_) rfl (by kernel_rfl) (by kernel_rfl) (by kernel_rfl) (fun _ _ _ h => h) (by kernel_rfl) (by kernel_rfl) ?_ ?_
       rotate_left
       ·(intro w; go_simp; try with_reducible rfl)
       try simp only [Act.put, tdy]
       refine timed_read (i := 23) (v := ?_) 0 rfl (by kernel_rfl) (by kernel_rfl) (by kernel_rfl) (fun _ _ _ h => h) (by kernel_rfl) (by kernel_rfl) rfl (by kernel_rfl) ?_ ?_
       rotate_left
       ·(intro wq hSw; (try dsimp only at hSw); have hb_H := hSw.blk HB1.out (by simp); have lb_H := hb_H.lt; have y0 := hb_H.at_ 0; have y1 := hb_H.at_ 1; have y2 := hb_H.at_ 2; simp at y0 y1 y2; clear hb_H; have hb_P := hSw.blk HP1.out (by simp); have lb_P := hb_P.lt; have p0 := hb_P.at_ 0; have p1 := hb_P.at_ 1; simp at p0 p1; clear hb_P; have t2 := (hSw.cell (p := ⟨bt, ot + q * 3 + 2, none⟩) hbr1 (by simp)).trans a2; have u2 := (hSw.cell (p := ⟨bo, oo + j * 4 + 2, none⟩) hbo1 (by simp)).trans q2; clear hSw; go_simp; try with_reducible rfl)
       try simp only [Act.put, tdy]
       refine timed_pure (i := 24) (v := ?_) rfl (by kernel_rfl) (by kernel_rfl) (by kernel_rfl) (fun _ _ _ h => h) (by kernel_rfl) (by kernel_rfl) ?_ ?_
       rotate_left
       ·(intro w; go_simp; try with_reducible rfl)
       try simp only [Act.put, tdy]
       refine timed_read (i := 25) (v := ?_) 0 rfl (by kernel_rfl) (by kernel_rfl) (by kernel_rfl) (fun _ _ _ h => h) (by kernel_rfl) (by kernel_rfl) rfl (by kernel_rfl) ?_ ?_
       rotate_left
       ·(intro wq hSw; (try dsimp only at hSw); have hb_H := hSw.blk HB1.out (by simp); have lb_H := hb_H.lt; have y0 := hb_H.at_ 0; have y1 := hb_H.at_ 1; have y2 := hb_H.at_ 2; simp at y0 y1 y2; clear hb_H; have hb_P := hSw.blk HP1.out (by simp); have lb_P := hb_P.lt; have p0 := hb_P.at_ 0; have p1 := hb_P.at_ 1; simp at p0 p1; clear hb_P; have t2 := (hSw.cell (p := ⟨bt, ot + q * 3 + 2, none⟩) hbr1 (by simp)).trans a2; have u2 := (hSw.cell (p := ⟨bo, oo + j * 4 + 2, none⟩) hbo1 (by simp)).trans q2; clear hSw; go_simp; try with_reducible rfl)
       try simp only [Act.put, tdy]
       refine timed_pure (i := 26) (v := ?_) rfl (by kernel_rfl) (by kernel_rfl) (by kernel_rfl) (fun _ _ _ h => h) (by kernel_rfl) (by kernel_rfl) ?_ ?_
       rotate_left
       ·(intro w; go_simp; try with_reducible rfl)
       try simp only [Act.put, tdy]
       refine timed_read (i := 27) (v := ?_) 0 rfl (by kernel_rfl) (by kernel_rfl) (by kernel_rfl) (fun _ _ _ h => h) (by kernel_rfl) (by kernel_rfl) rfl (by kernel_rfl) ?_ ?_
       rotate_left
       ·(intro wq hSw; (try dsimp only at hSw); have hb_H := hSw.blk HB1.out (by simp); have lb_H := hb_H.lt; have y0 := hb_H.at_ 0; have y1 := hb_H.at_ 1; have y2 := hb_H.at_ 2; simp at y0 y1 y2; clear hb_H; have hb_P := hSw.blk HP1.out (by simp); have lb_P := hb_P.lt; have p0 := hb_P.at_ 0; have p1 := hb_P.at_ 1; simp at p0 p1; clear hb_P; have t2 := (hSw.cell (p := ⟨bt, ot + q * 3 + 2, none⟩) hbr1 (by simp)).trans a2; have u2 := (hSw.cell (p := ⟨bo, oo + j * 4 + 2, none⟩) hbo1 (by simp)).trans q2; clear hSw; go_simp; try with_reducible rfl)
       try simp only [Act.put, tdy]
       refine timed_pure (i := 28) (v := ?_) rfl (by kernel_rfl) (by kernel_rfl) (by kernel_rfl) (fun _ _ _ h => h) (by kernel_rfl) (by kernel_rfl) ?_ ?_
       rotate_left
       ·(intro w; go_simp; try with_reducible rfl)
       try simp only [Act.put, tdy]
       refine timed_pure (i := 29) (v := ?_) rfl (by kernel_rfl) (by kernel_rfl) (by kernel_rfl) (fun _ _ _ h => h) (by kernel_rfl) (by kernel_rfl) ?_ ?_
       rotate_left
       ·(intro w; go_simp; try with_reducible rfl)
       try simp only [Act.put, tdy]
       refine timed_read (i := 30) (v := ?_) 0 rfl (by kernel_rfl) (by kernel_rfl) (by kernel_rfl) (fun _ _ _ h => h) (by kernel_rfl) (by kernel_rfl) rfl (by kernel_rfl) ?_ ?_
       rotate_left
       ·(intro wq hSw; (try dsimp only at hSw); have hb_H := hSw.blk HB1.out (by simp); have lb_H := hb_H.lt; have y0 := hb_H.at_ 0; have y1 := hb_H.at_ 1; have y2 := hb_H.at_ 2; simp at y0 y1 y2; clear hb_H; have hb_P := hSw.blk HP1.out (by simp); have lb_P := hb_P.lt; have p0 := hb_P.at_ 0; have p1 := hb_P.at_ 1; simp at p0 p1; clear hb_P; have t2 := (hSw.cell (p := ⟨bt, ot + q * 3 + 2, none⟩) hbr1 (by simp)).trans a2; have u2 := (hSw.cell (p := ⟨bo, oo + j * 4 + 2, none⟩) hbo1 (by simp)).trans q2; clear hSw; go_simp; try with_reducible rfl)
       try simp only [Act.put, tdy]
       refine timed_pure (i := 31) (v := ?_) rfl (by kernel_rfl) (by kernel_rfl) (by kernel_rfl) (fun _ _ _ h => h) (by kernel_rfl) (by kernel_rfl) ?_ ?_
       rotate_left
       ·(intro w; go_simp; try with_reducible rfl)
       try simp only [Act.put, tdy]
       refine timed_pure (i := 32) (v := ?_) rfl (by kernel_rfl) (by kernel_rfl) (by kernel_rfl) (fun _ _ _ h => h) (by kernel_rfl) (by kernel_rfl) ?_ ?_
       rotate_left
       ·(intro w; go_simp; try with_reducible rfl)
       try simp only [Act.put, tdy]
       refine timed_pure (i := 33) (v := ?_) rfl (by kernel_rfl) (by kernel_rfl) (by kernel_rfl) (fun _ _ _ h => h) (by kernel_rfl) (by kernel_rfl) ?_ ?_
       rotate_left
       ·(intro w; go_simp; try with_reducible rfl)
       try simp only [Act.put, tdy]
       refine timed_pure (i := 34) (v := ?_) rfl (by kernel_rfl) (by kernel_rfl) (by kernel_rfl) (fun _ _ _ h => h) (by kernel_rfl) (by kernel_rfl) ?_ ?_
       rotate_left
       ·(intro w; go_simp; try with_reducible rfl)
       try simp only [Act.put, tdy]
       refine timed_pure (i := 35) (v := ?_) rfl (by kernel_rfl) (by kernel_rfl) (by kernel_rfl) (fun _ _ _ h => h) (by kernel_rfl) (by kernel_rfl) ?_ ?_
       rotate_left
       ·(intro w; go_simp; try with_reducible rfl)
       try simp only [Act.put, tdy]
       refine timed_read (i := 36) (v := ?_) 0 rfl (by kernel_rfl) (by kernel_rfl) (by kernel_rfl) (fun _ _ _ h => h) (by kernel_rfl) (by kernel_rfl) rfl (by kernel_rfl) ?_ ?_
       rotate_left
       ·(intro wq hSw; (try dsimp only at hSw); have hb_H := hSw.blk HB1.out (by simp); have lb_H := hb_H.lt; have y0 := hb_H.at_ 0; have y1 := hb_H.at_ 1; have y2 := hb_H.at_ 2; simp at y0 y1 y2; clear hb_H; have hb_P := hSw.blk HP1.out (by simp); have lb_P := hb_P.lt; have p0 := hb_P.at_ 0; have p1 := hb_P.at_ 1; simp at p0 p1; clear hb_P; have t2 := (hSw.cell (p := ⟨bt, ot + q * 3 + 2, none⟩) hbr1 (by simp)).trans a2; have u2 := (hSw.cell (p := ⟨bo, oo + j * 4 + 2, none⟩) hbo1 (by simp)).trans q2; clear hSw; go_simp; try with_reducible rfl)
       try simp only [Act.put, tdy]
       refine timed_pure (i := 37) (v := ?_) rfl (by kernel_rfl) (by kernel_rfl) (by kernel_rfl) (fun _ _ _ h => h) (by kernel_rfl) (by kernel_rfl) ?_ ?_
       rotate_left
       ·(intro w; go_simp; try with_reducible rfl)
       try simp only [Act.put, tdy]
       refine timed_read (i := 38) (v := ?_) 0 rfl (by kernel_rfl) (by kernel_rfl) (by kernel_rfl) (fun _ _ _ h => h) (by kernel_rfl) (by kernel_rfl) rfl (by kernel_rfl) ?_ ?_
       rotate_left
       ·(intro wq hSw; (try dsimp only at hSw); have hb_H := hSw.blk HB1.out (by simp); have lb_H := hb_H.lt; have y0 := hb_H.at_ 0; have y1 := hb_H.at_ 1; have y2 := hb_H.at_ 2; simp at y0 y1 y2; clear hb_H; have hb_P := hSw.blk HP1.out (by simp); have lb_P := hb_P.lt; have p0 := hb_P.at_ 0; have p1 := hb_P.at_ 1; simp at p0 p1; clear hb_P; have t2 := (hSw.cell (p := ⟨bt, ot + q * 3 + 2, none⟩) hbr1 (by simp)).trans a2; have u2 := (hSw.cell (p := ⟨bo, oo + j * 4 + 2, none⟩) hbo1 (by simp)).trans q2; clear hSw; go_simp; try with_reducible rfl)
       try simp only [Act.put, tdy]
       refine timed_pure (i := 39) (v := ?_) rfl (by kernel_rfl) (by kernel_rfl) (by kernel_rfl) (fun _ _ _ h => h) (by kernel_rfl) (by kernel_rfl) ?_ ?_
       rotate_left
       ·(intro w; go_simp; try with_reducible rfl)
       try simp only [Act.put, tdy]
       refine timed_pure (i := 40) (v := ?_) rfl (by kernel_rfl) (by kernel_rfl) (by kernel_rfl) (fun _ _ _ h => h) (by kernel_rfl) (by kernel_rfl) ?_ ?_
       rotate_left
       ·(intro w; go_simp; try with_reducible rfl)
       try simp only [Act.put, tdy]
       refine timed_read (i := 41) (v := ?_) 0 rfl (by kernel_rfl) (by kernel_rfl) (by kernel_rfl) (fun _ _ _ h => h) (by kernel_rfl) (by kernel_rfl) rfl (by kernel_rfl) ?_ ?_
       rotate_left
       ·(intro wq hSw; (try dsimp only at hSw); have hb_H := hSw.blk HB1.out (by simp); have lb_H := hb_H.lt; have y0 := hb_H.at_ 0; have y1 := hb_H.at_ 1; have y2 := hb_H.at_ 2; simp at y0 y1 y2; clear hb_H; have hb_P := hSw.blk HP1.out (by simp); have lb_P := hb_P.lt; have p0 := hb_P.at_ 0; have p1 := hb_P.at_ 1; simp at p0 p1; clear hb_P; have t2 := (hSw.cell (p := ⟨bt, ot + q * 3 + 2, none⟩) hbr1 (by simp)).trans a2; have u2 := (hSw.cell (p := ⟨bo, oo + j * 4 + 2, none⟩) hbo1 (by simp)).trans q2; clear hSw; go_simp; try with_reducible rfl)
       try simp only [Act.put, tdy]
       refine timed_pure (i := 42) (v := ?_) rfl (by kernel_rfl) (by kernel_rfl) (by kernel_rfl) (fun _ _ _ h => h) (by kernel_rfl) (by kernel_rfl) ?_ ?_
       rotate_left
       ·(intro w; go_simp; try with_reducible rfl)
       try simp only [Act.put, tdy]
       refine timed_read (i := 43) (v := ?_) 0 rfl (by kernel_rfl) (by kernel_rfl) (by kernel_rfl) (fun _ _ _ h => h) (by kernel_rfl) (by kernel_rfl) rfl (by kernel_rfl) ?_ ?_
       rotate_left
       ·(intro wq hSw; (try dsimp only at hSw); have hb_H := hSw.blk HB1.out (by simp); have lb_H := hb_H.lt; have y0 := hb_H.at_ 0; have y1 := hb_H.at_ 1; have y2 := hb_H.at_ 2; simp at y0 y1 y2; clear hb_H; have hb_P := hSw.blk HP1.out (by simp); have lb_P := hb_P.lt; have p0 := hb_P.at_ 0; have p1 := hb_P.at_ 1; simp at p0 p1; clear hb_P; have t2 := (hSw.cell (p := ⟨bt, ot + q * 3 + 2, none⟩) hbr1 (by simp)).trans a2; have u2 := (hSw.cell (p := ⟨bo, oo + j * 4 + 2, none⟩) hbo1 (by simp)).trans q2; clear hSw; go_simp; try with_reducible rfl)
       try simp only [Act.put, tdy]
       refine timed_pure (i := 44) (v := ?_) rfl (by kernel_rfl) (by kernel_rfl) (by kernel_rfl) (fun _ _ _ h => h) (by kernel_rfl) (by kernel_rfl) ?_ ?_
       rotate_left
       ·(intro w; go_simp; try with_reducible rfl)
       try simp only [Act.put, tdy]
       refine timed_pure (i := 45) (v := ?_) rfl (by kernel_rfl) (by kernel_rfl) (by kernel_rfl) (fun _ _ _ h => h) (by kernel_rfl) (by kernel_rfl) ?_ ?_
       rotate_left
       ·(intro w; go_simp; try with_reducible rfl)
       try simp only [Act.put, tdy]
       refine timed_pure (i := 46) (v := ?_) rfl (by kernel_rfl) (by kernel_rfl) (by kernel_rfl) (fun _ _ _ h => h) (by kernel_rfl) (by kernel_rfl) ?_ ?_
       rotate_left
       ·(intro w; go_simp; try with_reducible rfl)
       try simp only [Act.put, tdy]
       refine timed_read (i := 47) (v := ?_) 0 rfl (by kernel_rfl) (by kernel_rfl) (by kernel_rfl) (fun _ _ _ h => h) (by kernel_rfl) (by kernel_rfl) rfl (by kernel_rfl) ?_ ?_
       rotate_left
       ·(intro wq hSw; (try dsimp only at hSw); have hb_H := hSw.blk HB1.out (by simp); have lb_H := hb_H.lt; have y0 := hb_H.at_ 0; have y1 := hb_H.at_ 1; have y2 := hb_H.at_ 2; simp at y0 y1 y2; clear hb_H; have hb_P := hSw.blk HP1.out (by simp); have lb_P := hb_P.lt; have p0 := hb_P.at_ 0; have p1 := hb_P.at_ 1; simp at p0 p1; clear hb_P; have t2 := (hSw.cell (p := ⟨bt, ot + q * 3 + 2, none⟩) hbr1 (by simp)).trans a2; have u2 := (hSw.cell (p := ⟨bo, oo + j * 4 + 2, none⟩) hbo1 (by simp)).trans q2; clear hSw; go_simp; try with_reducible rfl)
       try simp only [Act.put, tdy]
       refine timed_pure (i := 48) (v := ?_) rfl (by kernel_rfl) (by kernel_rfl) (by kernel_rfl) (fun _ _ _ h => h) (by kernel_rfl) (by kernel_rfl) ?_ ?_
       rotate_left
       ·(intro w; go_simp; try with_reducible rfl)
       try simp only [Act.put, tdy]
       refine timed_pure (i := 49) (v := ?_) rfl (by kernel_rfl) (by kernel_rfl) (by kernel_rfl) (fun _ _ _ h => h) (by kernel_rfl) (by kernel_rfl) ?_ ?_
       rotate_left
       ·(intro w; go_simp; try with_reducible rfl)
       try simp only [Act.put, tdy]
       refine timed_done (by kernel_rfl) ?_ _
       refine NoPanic.normal ?_
       have HNW := Lib.hid ( (((Only.refl [] w1).drew).trans O3))
       have HR2 := Lib.hid (HNW.out.blk HR1.out (by simp))
       have HO2 := Lib.hid (HO1.out.trans HNW.out)
       go_wp2_with (refine wpList_store_blk rfl 27 (.tmp 4) (.tmp 58) rfl gr 27 _ #[.int .i64 0, .int .i64 0] rfl rfl HR2.out rfl (by kernel_rfl) (by kernel_rfl) ?_; intro w9 b9 o9; have HB9 := Lib.hid b9; have HN9 := Lib.hid o9; clear b9 o9)
       refine bodyPost_ret (results_row2 Tryz.results30 _ _ gr 27 #[.int .i64 0, .int .i64 0] _ rfl HB9.out Tryz.underlying27 rfl (by kernel_rfl)) rfl ?_
       exact ⟨rfl, HO2.out.step HN9.out (fun i hi hl => by simp at hi; omega)⟩
      ·dsimp only
       rw [if_neg h5]
       have d5 : decide (yv = 2) = false := decide_eq_false h5
       have d5' : (yv == 2) = false := by simpa using h5
       clear hy
       obtain ⟨NN, hNN⟩ : ∃ NN, NN = notL (ops.take j) := ⟨_, rfl⟩
       rw [← hNN]
       have HNN := Lib.hid hNN.symm
       clear hNN
       go_enter Tryz.func30, Tryz.ntmps30
       go_wp2_with fail
       generalize (((w.alloc (.cells #[.slice A0 n0 c0, .slice A1 n1 c1, .slice (some ⟨bt, ot, none⟩) n2 c2] 25)).alloc (.cells #[.int .i64 (q : Int), .int .i64 (j : Int)] 27)).alloc (.cells #[.int .i64 0, .int .i64 0] 27)) = w1 at *
       generalize hgr : w.heap.size + 1 + 1 = gr at *
       generalize hgp : w.heap.size + 1 = gp at *
       generalize hgg : w.heap.size = g at *
       have hsz : g ≤ w1.heap.size := by have := HO1.out.size; omega
       obtain ⟨-, -, a2⟩ := HTA.out.only HO1.out (by omega) (by simp)
       have hbr1 : bt < w1.heap.size := by have := HO1.out.size; omega
       dsimp only at a2
       obtain ⟨-, -, q2, -⟩ := HPY.out.only HO1.out (by omega) (by simp)
       have hbo1 : bo < w1.heap.size := by have := HO1.out.size; omega
       dsimp only at q2
       refine wp_region_noPanic ?_
       refine wp_region_timed (F := [⟨[], [], fun w' => Only [] w1 w'⟩]) (by kernel_rfl) (timed_holds ((Only.refl [] w1).drew) (timed_nil)) ?_
       refine timed_read (i := 0) (v := ?_) 0 rfl (by kernel_rfl) (by kernel_rfl) (by kernel_rfl) (fun _ _ _ h => h) (by kernel_rfl) (by kernel_rfl) rfl (by kernel_rfl) ?_ ?_
       rotate_left
       ·(intro wq hSw; (try dsimp only at hSw); have hb_H := hSw.blk HB1.out (by simp); have lb_H := hb_H.lt; have y0 := hb_H.at_ 0; have y1 := hb_H.at_ 1; have y2 := hb_H.at_ 2; simp at y0 y1 y2; clear hb_H; have hb_P := hSw.blk HP1.out (by simp); have lb_P := hb_P.lt; have p0 := hb_P.at_ 0; have p1 := hb_P.at_ 1; simp at p0 p1; clear hb_P; have t2 := (hSw.cell (p := ⟨bt, ot + q * 3 + 2, none⟩) hbr1 (by simp)).trans a2; have u2 := (hSw.cell (p := ⟨bo, oo + j * 4 + 2, none⟩) hbo1 (by simp)).trans q2; clear hSw; go_simp; try with_reducible rfl)
       try simp only [Act.put, tdy]
       refine timed_step (i := 1) (by kernel_rfl) rfl (fun K hK => ?_)
       go_simp
       refine (HF.out _ (HO1.out.trans (Only.refl [] w1).drew)).mono ?_
       rintro e w3 ⟨rfl, O3⟩
       refine hK.out _ _ (timed_holds (((Only.refl [] w1).drew).trans O3) (timed_nil)) ?_
       clear hK K
       try simp only [Act.put, tdy]
       refine timed_pure (i := 2) (v := ?_) rfl (by kernel_rfl) (by kernel_rfl) (by kernel_rfl) (fun _ _ _ h => h) (by kernel_rfl) (by kernel_rfl) ?_ ?_
       rotate_left
       ·(intro w; go_simp; try with_reducible rfl)
       try simp only [Act.put, tdy]
       refine timed_pure (i := 3) (v := ?_) rfl (by kernel_rfl) (by kernel_rfl) (by kernel_rfl) (fun _ _ _ h => h) (by kernel_rfl) (by kernel_rfl) ?_ ?_
       rotate_left
       ·(intro w; go_simp; try with_reducible rfl)
       try simp only [Act.put, tdy]
       refine timed_pure (i := 4) (v := ?_) rfl (by kernel_rfl) (by kernel_rfl) (by kernel_rfl) (fun _ _ _ h => h) (by kernel_rfl) (by kernel_rfl) ?_ ?_
       rotate_left
       ·(intro w; go_simp; try with_reducible rfl)
       try simp only [Act.put, tdy]
       refine timed_read (i := 5) (v := ?_) 0 rfl (by kernel_rfl) (by kernel_rfl) (by kernel_rfl) (fun _ _ _ h => h) (by kernel_rfl) (by kernel_rfl) rfl (by kernel_rfl) ?_ ?_
       rotate_left
       ·(intro wq hSw; (try dsimp only at hSw); have hb_H := hSw.blk HB1.out (by simp); have lb_H := hb_H.lt; have y0 := hb_H.at_ 0; have y1 := hb_H.at_ 1; have y2 := hb_H.at_ 2; simp at y0 y1 y2; clear hb_H; have hb_P := hSw.blk HP1.out (by simp); have lb_P := hb_P.lt; have p0 := hb_P.at_ 0; have p1 := hb_P.at_ 1; simp at p0 p1; clear hb_P; have t2 := (hSw.cell (p := ⟨bt, ot + q * 3 + 2, none⟩) hbr1 (by simp)).trans a2; have u2 := (hSw.cell (p := ⟨bo, oo + j * 4 + 2, none⟩) hbo1 (by simp)).trans q2; clear hSw; go_simp; try with_reducible rfl)
       try simp only [Act.put, tdy]
       refine timed_pure (i := 6) (v := ?_) rfl (by kernel_rfl) (by kernel_rfl) (by kernel_rfl) (fun _ _ _ h => h) (by kernel_rfl) (by kernel_rfl) ?_ ?_
       rotate_left
       ·(intro w; go_simp; try with_reducible rfl)
       try simp only [Act.put, tdy]
       refine timed_pure (i := 7) (v := ?_) rfl (by kernel_rfl) (by kernel_rfl) (by kernel_rfl) (fun _ _ _ h => h) (by kernel_rfl) (by kernel_rfl) ?_ ?_
       rotate_left
       ·(intro w; go_simp; try with_reducible rfl)
       try simp only [Act.put, tdy]
       refine timed_pure (i := 8) (v := ?_) rfl (by kernel_rfl) (by kernel_rfl) (by kernel_rfl) (fun _ _ _ h => h) (by kernel_rfl) (by kernel_rfl) ?_ ?_
       rotate_left
       ·(intro w; go_simp; try with_reducible rfl)
       try simp only [Act.put, tdy]
       refine timed_pure (i := 9) (v := ?_) rfl (by kernel_rfl) (by kernel_rfl) (by kernel_rfl) (fun _ _ _ h => h) (by kernel_rfl) (by kernel_rfl) ?_ ?_
       rotate_left
       ·(intro w; go_simp; try with_reducible rfl)
       try simp only [Act.put, tdy]
       refine timed_read (i := 10) (v := ?_) 0 rfl (by kernel_rfl) (by kernel_rfl) (by kernel_rfl) (fun _ _ _ h => h) (by kernel_rfl) (by kernel_rfl) rfl (by kernel_rfl) ?_ ?_
       rotate_left
       ·(intro wq hSw; (try dsimp only at hSw); have hb_H := hSw.blk HB1.out (by simp); have lb_H := hb_H.lt; have y0 := hb_H.at_ 0; have y1 := hb_H.at_ 1; have y2 := hb_H.at_ 2; simp at y0 y1 y2; clear hb_H; have hb_P := hSw.blk HP1.out (by simp); have lb_P := hb_P.lt; have p0 := hb_P.at_ 0; have p1 := hb_P.at_ 1; simp at p0 p1; clear hb_P; have t2 := (hSw.cell (p := ⟨bt, ot + q * 3 + 2, none⟩) hbr1 (by simp)).trans a2; have u2 := (hSw.cell (p := ⟨bo, oo + j * 4 + 2, none⟩) hbo1 (by simp)).trans q2; clear hSw; go_simp; try with_reducible rfl)
       try simp only [Act.put, tdy]
       refine timed_pure (i := 11) (v := ?_) rfl (by kernel_rfl) (by kernel_rfl) (by kernel_rfl) (fun _ _ _ h => h) (by kernel_rfl) (by kernel_rfl) ?_ ?_
       rotate_left
       ·(intro w; go_simp; try with_reducible rfl)
       try simp only [Act.put, tdy]
       refine timed_read (i := 12) (v := ?_) 0 rfl (by kernel_rfl) (by kernel_rfl) (by kernel_rfl) (fun _ _ _ h => h) (by kernel_rfl) (by kernel_rfl) rfl (by kernel_rfl) ?_ ?_
       rotate_left
       ·(intro wq hSw; (try dsimp only at hSw); have hb_H := hSw.blk HB1.out (by simp); have lb_H := hb_H.lt; have y0 := hb_H.at_ 0; have y1 := hb_H.at_ 1; have y2 := hb_H.at_ 2; simp at y0 y1 y2; clear hb_H; have hb_P := hSw.blk HP1.out (by simp); have lb_P := hb_P.lt; have p0 := hb_P.at_ 0; have p1 := hb_P.at_ 1; simp at p0 p1; clear hb_P; have t2 := (hSw.cell (p := ⟨bt, ot + q * 3 + 2, none⟩) hbr1 (by simp)).trans a2; have u2 := (hSw.cell (p := ⟨bo, oo + j * 4 + 2, none⟩) hbo1 (by simp)).trans q2; clear hSw; go_simp; try with_reducible rfl)
       try simp only [Act.put, tdy]
       refine timed_pure (i := 13) (v := ?_) rfl (by kernel_rfl) (by kernel_rfl) (by kernel_rfl) (fun _ _ _ h => h) (by kernel_rfl) (by kernel_rfl) ?_ ?_
       rotate_left
       ·(intro w; go_simp; try with_reducible rfl)
       try simp only [Act.put, tdy]
       refine timed_pure (i := 14) (v := ?_) rfl (by kernel_rfl) (by kernel_rfl) (by kernel_rfl) (fun _ _ _ h => h) (by kernel_rfl) (by kernel_rfl) ?_ ?_
       rotate_left
       ·(intro w; go_simp; try with_reducible rfl)
       try simp only [Act.put, tdy]
       refine timed_pure (i := 15) (v := ?_) rfl (by kernel_rfl) (by kernel_rfl) (by kernel_rfl) (fun _ _ _ h => h) (by kernel_rfl) (by kernel_rfl) ?_ ?_
       rotate_left
       ·(intro w; go_simp; try with_reducible rfl)
       try simp only [Act.put, tdy]
       refine timed_pure (i := 16) (v := ?_) rfl (by kernel_rfl) (by kernel_rfl) (by kernel_rfl) (fun _ _ _ h => h) (by kernel_rfl) (by kernel_rfl) ?_ ?_
       rotate_left
       ·(intro w; go_simp; try with_reducible rfl)
       try simp only [Act.put, tdy]
       refine timed_pure (i := 17) (v := ?_) rfl (by kernel_rfl) (by kernel_rfl) (by kernel_rfl) (fun _ _ _ h => h) (by kernel_rfl) (by kernel_rfl) ?_ ?_
       rotate_left
       ·(intro w; go_simp; try with_reducible rfl)
       try simp only [Act.put, tdy]
       refine timed_read (i := 18) (v := ?_) 0 rfl (by kernel_rfl) (by kernel_rfl) (by kernel_rfl) (fun _ _ _ h => h) (by kernel_rfl) (by kernel_rfl) rfl (by kernel_rfl) ?_ ?_
       rotate_left
       ·(intro wq hSw; (try dsimp only at hSw); have hb_H := hSw.blk HB1.out (by simp); have lb_H := hb_H.lt; have y0 := hb_H.at_ 0; have y1 := hb_H.at_ 1; have y2 := hb_H.at_ 2; simp at y0 y1 y2; clear hb_H; have hb_P := hSw.blk HP1.out (by simp); have lb_P := hb_P.lt; have p0 := hb_P.at_ 0; have p1 := hb_P.at_ 1; simp at p0 p1; clear hb_P; have t2 := (hSw.cell (p := ⟨bt, ot + q * 3 + 2, none⟩) hbr1 (by simp)).trans a2; have u2 := (hSw.cell (p := ⟨bo, oo + j * 4 + 2, none⟩) hbo1 (by simp)).trans q2; clear hSw; go_simp; try with_reducible rfl)
       try simp only [Act.put, tdy]
       refine timed_pure (i := 19) (v := ?_) rfl (by kernel_rfl) (by kernel_rfl) (by kernel_rfl) (fun _ _ _ h => h) (by kernel_rfl) (by kernel_rfl) ?_ ?_
       rotate_left
       ·(intro w; go_simp; try with_reducible rfl)
       try simp only [Act.put, tdy]
       refine timed_pure (i := 20) (v := ?_) rfl (by kernel_rfl) (by kernel_rfl) (by kernel_rfl) (fun _ _ _ h => h) (by kernel_rfl) (by kernel_rfl) ?_ ?_
       rotate_left
       ·(intro w; go_simp; try with_reducible rfl)
       try simp only [Act.put, tdy]
       refine timed_pure (i := 21) (v := ?_) rfl (by kernel_rfl) (by kernel_rfl) (by kernel_rfl) (fun _ _ _ h => h) (by kernel_rfl) (by kernel_rfl) ?_ ?_
       rotate_left
       ·(intro w; go_simp; try with_reducible rfl)
       try simp only [Act.put, tdy]
       refine timed_pure (i := 22) (v := ?_) rfl (by kernel_rfl) (by kernel_rfl) (by kernel_rfl) (fun _ _ _ h => h) (by kernel_rfl) (by kernel_rfl) ?_ ?_
       rotate_left
       ·(intro w; go_simp; try with_reducible rfl)
       try simp only [Act.put, tdy]
       refine timed_read (i := 23) (v := ?_) 0 rfl (by kernel_rfl) (by kernel_rfl) (by kernel_rfl) (fun _ _ _ h => h) (by kernel_rfl) (by kernel_rfl) rfl (by kernel_rfl) ?_ ?_
       rotate_left
       ·(intro wq hSw; (try dsimp only at hSw); have hb_H := hSw.blk HB1.out (by simp); have lb_H := hb_H.lt; have y0 := hb_H.at_ 0; have y1 := hb_H.at_ 1; have y2 := hb_H.at_ 2; simp at y0 y1 y2; clear hb_H; have hb_P := hSw.blk HP1.out (by simp); have lb_P := hb_P.lt; have p0 := hb_P.at_ 0; have p1 := hb_P.at_ 1; simp at p0 p1; clear hb_P; have t2 := (hSw.cell (p := ⟨bt, ot + q * 3 + 2, none⟩) hbr1 (by simp)).trans a2; have u2 := (hSw.cell (p := ⟨bo, oo + j * 4 + 2, none⟩) hbo1 (by simp)).trans q2; clear hSw; go_simp; try with_reducible rfl)
       try simp only [Act.put, tdy]
       refine timed_pure (i := 24) (v := ?_) rfl (by kernel_rfl) (by kernel_rfl) (by kernel_rfl) (fun _ _ _ h => h) (by kernel_rfl) (by kernel_rfl) ?_ ?_
       rotate_left
       ·(intro w; go_simp; try with_reducible rfl)
       try simp only [Act.put, tdy]
       refine timed_read (i := 25) (v := ?_) 0 rfl (by kernel_rfl) (by kernel_rfl) (by kernel_rfl) (fun _ _ _ h => h) (by kernel_rfl) (by kernel_rfl) rfl (by kernel_rfl) ?_ ?_
       rotate_left
       ·(intro wq hSw; (try dsimp only at hSw); have hb_H := hSw.blk HB1.out (by simp); have lb_H := hb_H.lt; have y0 := hb_H.at_ 0; have y1 := hb_H.at_ 1; have y2 := hb_H.at_ 2; simp at y0 y1 y2; clear hb_H; have hb_P := hSw.blk HP1.out (by simp); have lb_P := hb_P.lt; have p0 := hb_P.at_ 0; have p1 := hb_P.at_ 1; simp at p0 p1; clear hb_P; have t2 := (hSw.cell (p := ⟨bt, ot + q * 3 + 2, none⟩) hbr1 (by simp)).trans a2; have u2 := (hSw.cell (p := ⟨bo, oo + j * 4 + 2, none⟩) hbo1 (by simp)).trans q2; clear hSw; go_simp; try with_reducible rfl)
       try simp only [Act.put, tdy]
       refine timed_pure (i := 26) (v := ?_) rfl (by kernel_rfl) (by kernel_rfl) (by kernel_rfl) (fun _ _ _ h => h) (by kernel_rfl) (by kernel_rfl) ?_ ?_
       rotate_left
       ·(intro w; go_simp; try with_reducible rfl)
       try simp only [Act.put, tdy]
       refine timed_read (i := 27) (v := ?_) 0 rfl (by kernel_rfl) (by kernel_rfl) (by kernel_rfl) (fun _ _ _ h => h) (by kernel_rfl) (by kernel_rfl) rfl (by kernel_rfl) ?_ ?_
       rotate_left
       ·(intro wq hSw; (try dsimp only at hSw); have hb_H := hSw.blk HB1.out (by simp); have lb_H := hb_H.lt; have y0 := hb_H.at_ 0; have y1 := hb_H.at_ 1; have y2 := hb_H.at_ 2; simp at y0 y1 y2; clear hb_H; have hb_P := hSw.blk HP1.out (by simp); have lb_P := hb_P.lt; have p0 := hb_P.at_ 0; have p1 := hb_P.at_ 1; simp at p0 p1; clear hb_P; have t2 := (hSw.cell (p := ⟨bt, ot + q * 3 + 2, none⟩) hbr1 (by simp)).trans a2; have u2 := (hSw.cell (p := ⟨bo, oo + j * 4 + 2, none⟩) hbo1 (by simp)).trans q2; clear hSw; go_simp; try with_reducible rfl)
       try simp only [Act.put, tdy]
       refine timed_pure (i := 28) (v := ?_) rfl (by kernel_rfl) (by kernel_rfl) (by kernel_rfl) (fun _ _ _ h => h) (by kernel_rfl) (by kernel_rfl) ?_ ?_
       rotate_left
       ·(intro w; go_simp; try with_reducible rfl)
       try simp only [Act.put, tdy]
       refine timed_pure (i := 29) (v := ?_) rfl (by kernel_rfl) (by kernel_rfl) (by kernel_rfl) (fun _ _ _ h => h) (by kernel_rfl) (by kernel_rfl) ?_ ?_
       rotate_left
       ·(intro w; go_simp; try with_reducible rfl)
       try simp only [Act.put, tdy]
       refine timed_read (i := 30) (v := ?_) 0 rfl (by kernel_rfl) (by kernel_rfl) (by kernel_rfl) (fun _ _ _ h => h) (by kernel_rfl) (by kernel_rfl) rfl (by kernel_rfl) ?_ ?_
       rotate_left
       ·(intro wq hSw; (try dsimp only at hSw); have hb_H := hSw.blk HB1.out (by simp); have lb_H := hb_H.lt; have y0 := hb_H.at_ 0; have y1 := hb_H.at_ 1; have y2 := hb_H.at_ 2; simp at y0 y1 y2; clear hb_H; have hb_P := hSw.blk HP1.out (by simp); have lb_P := hb_P.lt; have p0 := hb_P.at_ 0; have p1 := hb_P.at_ 1; simp at p0 p1; clear hb_P; have t2 := (hSw.cell (p := ⟨bt, ot + q * 3 + 2, none⟩) hbr1 (by simp)).trans a2; have u2 := (hSw.cell (p := ⟨bo, oo + j * 4 + 2, none⟩) hbo1 (by simp)).trans q2; clear hSw; go_simp; try with_reducible rfl)
       try simp only [Act.put, tdy]
       refine timed_pure (i := 31) (v := ?_) rfl (by kernel_rfl) (by kernel_rfl) (by kernel_rfl) (fun _ _ _ h => h) (by kernel_rfl) (by kernel_rfl) ?_ ?_
       rotate_left
       ·(intro w; go_simp; try with_reducible rfl)
       try simp only [Act.put, tdy]
       refine timed_pure (i := 32) (v := ?_) rfl (by kernel_rfl) (by kernel_rfl) (by kernel_rfl) (fun _ _ _ h => h) (by kernel_rfl) (by kernel_rfl) ?_ ?_
       rotate_left
       ·(intro w; go_simp; try with_reducible rfl)
       try simp only [Act.put, tdy]
       refine timed_pure (i := 33) (v := ?_) rfl (by kernel_rfl) (by kernel_rfl) (by kernel_rfl) (fun _ _ _ h => h) (by kernel_rfl) (by kernel_rfl) ?_ ?_
       rotate_left
       ·(intro w; go_simp; try with_reducible rfl)
       try simp only [Act.put, tdy]
       refine timed_pure (i := 34) (v := ?_) rfl (by kernel_rfl) (by kernel_rfl) (by kernel_rfl) (fun _ _ _ h => h) (by kernel_rfl) (by kernel_rfl) ?_ ?_
       rotate_left
       ·(intro w; go_simp; try with_reducible rfl)
       try simp only [Act.put, tdy]
       refine timed_pure (i := 35) (v := ?_) rfl (by kernel_rfl) (by kernel_rfl) (by kernel_rfl) (fun _ _ _ h => h) (by kernel_rfl) (by kernel_rfl) ?_ ?_
       rotate_left
       ·(intro w; go_simp; try with_reducible rfl)
       try simp only [Act.put, tdy]
       refine timed_read (i := 36) (v := ?_) 0 rfl (by kernel_rfl) (by kernel_rfl) (by kernel_rfl) (fun _ _ _ h => h) (by kernel_rfl) (by kernel_rfl) rfl (by kernel_rfl) ?_ ?_
       rotate_left
       ·(intro wq hSw; (try dsimp only at hSw); have hb_H := hSw.blk HB1.out (by simp); have lb_H := hb_H.lt; have y0 := hb_H.at_ 0; have y1 := hb_H.at_ 1; have y2 := hb_H.at_ 2; simp at y0 y1 y2; clear hb_H; have hb_P := hSw.blk HP1.out (by simp); have lb_P := hb_P.lt; have p0 := hb_P.at_ 0; have p1 := hb_P.at_ 1; simp at p0 p1; clear hb_P; have t2 := (hSw.cell (p := ⟨bt, ot + q * 3 + 2, none⟩) hbr1 (by simp)).trans a2; have u2 := (hSw.cell (p := ⟨bo, oo + j * 4 + 2, none⟩) hbo1 (by simp)).trans q2; clear hSw; go_simp; try with_reducible rfl)
       try simp only [Act.put, tdy]
       refine timed_pure (i := 37) (v := ?_) rfl (by kernel_rfl) (by kernel_rfl) (by kernel_rfl) (fun _ _ _ h => h) (by kernel_rfl) (by kernel_rfl) ?_ ?_
       rotate_left
       ·(intro w; go_simp; try with_reducible rfl)
       try simp only [Act.put, tdy]
       refine timed_read (i := 38) (v := ?_) 0 rfl (by kernel_rfl) (by kernel_rfl) (by kernel_rfl) (fun _ _ _ h => h) (by kernel_rfl) (by kernel_rfl) rfl (by kernel_rfl) ?_ ?_
       rotate_left
       ·(intro wq hSw; (try dsimp only at hSw); have hb_H := hSw.blk HB1.out (by simp); have lb_H := hb_H.lt; have y0 := hb_H.at_ 0; have y1 := hb_H.at_ 1; have y2 := hb_H.at_ 2; simp at y0 y1 y2; clear hb_H; have hb_P := hSw.blk HP1.out (by simp); have lb_P := hb_P.lt; have p0 := hb_P.at_ 0; have p1 := hb_P.at_ 1; simp at p0 p1; clear hb_P; have t2 := (hSw.cell (p := ⟨bt, ot + q * 3 + 2, none⟩) hbr1 (by simp)).trans a2; have u2 := (hSw.cell (p := ⟨bo, oo + j * 4 + 2, none⟩) hbo1 (by simp)).trans q2; clear hSw; go_simp; try with_reducible rfl)
       try simp only [Act.put, tdy]
       refine timed_pure (i := 39) (v := ?_) rfl (by kernel_rfl) (by kernel_rfl) (by kernel_rfl) (fun _ _ _ h => h) (by kernel_rfl) (by kernel_rfl) ?_ ?_
       rotate_left
       ·(intro w; go_simp; try with_reducible rfl)
       try simp only [Act.put, tdy]
       refine timed_pure (i := 40) (v := ?_) rfl (by kernel_rfl) (by kernel_rfl) (by kernel_rfl) (fun _ _ _ h => h) (by kernel_rfl) (by kernel_rfl) ?_ ?_
       rotate_left
       ·(intro w; go_simp; try with_reducible rfl)
       try simp only [Act.put, tdy]
       refine timed_read (i := 41) (v := ?_) 0 rfl (by kernel_rfl) (by kernel_rfl) (by kernel_rfl) (fun _ _ _ h => h) (by kernel_rfl) (by kernel_rfl) rfl (by kernel_rfl) ?_ ?_
       rotate_left
       ·(intro wq hSw; (try dsimp only at hSw); have hb_H := hSw.blk HB1.out (by simp); have lb_H := hb_H.lt; have y0 := hb_H.at_ 0; have y1 := hb_H.at_ 1; have y2 := hb_H.at_ 2; simp at y0 y1 y2; clear hb_H; have hb_P := hSw.blk HP1.out (by simp); have lb_P := hb_P.lt; have p0 := hb_P.at_ 0; have p1 := hb_P.at_ 1; simp at p0 p1; clear hb_P; have t2 := (hSw.cell (p := ⟨bt, ot + q * 3 + 2, none⟩) hbr1 (by simp)).trans a2; have u2 := (hSw.cell (p := ⟨bo, oo + j * 4 + 2, none⟩) hbo1 (by simp)).trans q2; clear hSw; go_simp; try with_reducible rfl)
       try simp only [Act.put, tdy]
       refine timed_pure (i := 42) (v := ?_) rfl (by kernel_rfl) (by kernel_rfl) (by kernel_rfl) (fun _ _ _ h => h) (by kernel_rfl) (by kernel_rfl) ?_ ?_
       rotate_left
       ·(intro w; go_simp; try with_reducible rfl)
       try simp only [Act.put, tdy]
       refine timed_read (i := 43) (v := ?_) 0 rfl (by kernel_rfl) (by kernel_rfl) (by kernel_rfl) (fun _ _ _ h => h) (by kernel_rfl) (by kernel_rfl) rfl (by kernel_rfl) ?_ ?_
       rotate_left
       ·(intro wq hSw; (try dsimp only at hSw); have hb_H := hSw.blk HB1.out (by simp); have lb_H := hb_H.lt; have y0 := hb_H.at_ 0; have y1 := hb_H.at_ 1; have y2 := hb_H.at_ 2; simp at y0 y1 y2; clear hb_H; have hb_P := hSw.blk HP1.out (by simp); have lb_P := hb_P.lt; have p0 := hb_P.at_ 0; have p1 := hb_P.at_ 1; simp at p0 p1; clear hb_P; have t2 := (hSw.cell (p := ⟨bt, ot + q * 3 + 2, none⟩) hbr1 (by simp)).trans a2; have u2 := (hSw.cell (p := ⟨bo, oo + j * 4 + 2, none⟩) hbo1 (by simp)).trans q2; clear hSw; go_simp; try with_reducible rfl)
       try simp only [Act.put, tdy]
       refine timed_pure (i := 44) (v := ?_) rfl (by kernel_rfl) (by kernel_rfl) (by kernel_rfl) (fun _ _ _ h => h) (by kernel_rfl) (by kernel_rfl) ?_ ?_
       rotate_left
       ·(intro w; go_simp; try with_reducible rfl)
       try simp only [Act.put, tdy]
       refine timed_pure (i := 45) (v := ?_) rfl (by kernel_rfl) (by kernel_rfl) (by kernel_rfl) (fun _ _ _ h => h) (by kernel_rfl) (by kernel_rfl) ?_ ?_
       rotate_left
       ·(intro w; go_simp; try with_reducible rfl)
       try simp only [Act.put, tdy]
       refine timed_pure (i := 46) (v := ?_) rfl (by kernel_rfl) (by kernel_rfl) (by kernel_rfl) (fun _ _ _ h => h) (by kernel_rfl) (by kernel_rfl) ?_ ?_
       rotate_left
       ·(intro w; go_simp; try with_reducible rfl)
       try simp only [Act.put, tdy]
       refine timed_read (i := 47) (v := ?_) 0 rfl (by kernel_rfl) (by kernel_rfl) (by kernel_rfl) (fun _ _ _ h => h) (by kernel_rfl) (by kernel_rfl) rfl (by kernel_rfl) ?_ ?_
       rotate_left
       ·(intro wq hSw; (try dsimp only at hSw); have hb_H := hSw.blk HB1.out (by simp); have lb_H := hb_H.lt; have y0 := hb_H.at_ 0; have y1 := hb_H.at_ 1; have y2 := hb_H.at_ 2; simp at y0 y1 y2; clear hb_H; have hb_P := hSw.blk HP1.out (by simp); have lb_P := hb_P.lt; have p0 := hb_P.at_ 0; have p1 := hb_P.at_ 1; simp at p0 p1; clear hb_P; have t2 := (hSw.cell (p := ⟨bt, ot + q * 3 + 2, none⟩) hbr1 (by simp)).trans a2; have u2 := (hSw.cell (p := ⟨bo, oo + j * 4 + 2, none⟩) hbo1 (by simp)).trans q2; clear hSw; go_simp; try with_reducible rfl)
       try simp only [Act.put, tdy]
       refine timed_pure (i := 48) (v := ?_) rfl (by kernel_rfl) (by kernel_rfl) (by kernel_rfl) (fun _ _ _ h => h) (by kernel_rfl) (by kernel_rfl) ?_ ?_
       rotate_left
       ·(intro w; go_simp; try with_reducible rfl)
       try simp only [Act.put, tdy]
       refine timed_pure (i := 49) (v := ?_) rfl (by kernel_rfl) (by kernel_rfl) (by kernel_rfl) (fun _ _ _ h => h) (by kernel_rfl) (by kernel_rfl) ?_ ?_
       rotate_left
       ·(intro w; go_simp; try with_reducible rfl)
       try simp only [Act.put, tdy]
       refine timed_done (by kernel_rfl) ?_ _
       refine NoPanic.normal ?_
       have HNW := Lib.hid ( (((Only.refl [] w1).drew).trans O3))
       have HR2 := Lib.hid (HNW.out.blk HR1.out (by simp))
       have HO2 := Lib.hid (HO1.out.trans HNW.out)
       have HW5 := Lib.hid HNW.out
       clear a2 q2 hbr1 hbo1
       go_wp2_with fail
       go_loopw [6, 7] (fun cv iv wr => ∃ i : Nat, iv = .int .i64 i ∧ i ≤ j ∧ cv = .int .i64 (notL (ops.take i) : Int) ∧ Hid (Only [] w1 wr)) (fun _ iv _ => j - (intOf iv).toNat)
       case atStart => exact ⟨0, rfl, by omega, rfl, HW5⟩
       case round =>
        obtain ⟨i, rfl, hi, rfl, hO⟩ := hrel
        have hnl := notL_le ops i
        have HO3 := Lib.hid (HO1.out.trans hO.out)
        have HR3 := Lib.hid (hO.out.blk HR1.out (by simp))
        have HP3 := Lib.hid (hO.out.blk HP1.out (by simp))
        have HB3 := Lib.hid (hO.out.blk HB1.out (by simp))
        have lP := HP3.out.lt
        have p0 := HP3.out.at_ 0
        have p1 := HP3.out.at_ 1
        have lB := HB3.out.lt
        have y2 := HB3.out.at_ 2
        simp at p0 p1 y2
        by_cases hlt : i < j
        ·obtain ⟨z, hz⟩ : ∃ z, ops[i]? = some z := ⟨_, List.getElem?_eq_getElem (by omega)⟩
         have HNT := Lib.hid (notL_take hz)
         obtain ⟨bz, oz, hbz, -, hbzw, hPz⟩ := row_op (HROW.out.only HO3.out (by simp)) hz
         injection hbz with hbz
         injection hbz with hb1 hb2 _
         subst hb1 hb2
         obtain ⟨-, -, q2, -⟩ := hPz
         obtain ⟨-, -, a2⟩ := HTA.out.only HO3.out (by omega) (by simp)
         have hbr1 : bt < wr.heap.size := by have := HO3.out.size; omega
         obtain ⟨zw, zk, zv, zn⟩ := z
         dsimp only at q2 a2
         have hlz : (i : Int) < (j : Int) := by omega
         have hlm : (i : Int) < (m : Int) := by omega
         have hi0 : (0 : Int) ≤ (i : Int) := Int.natCast_nonneg _
         have hwi : IntKind.i64.wrap ((i : Int) + 1) = (i : Int) + 1 := IntWalk.i64_in _ (by omega)
         have hwn : IntKind.i64.wrap ((notL (ops.take i) : Int) + 1) = (notL (ops.take i) : Int) + 1 := IntWalk.i64_in _ (by omega)
         by_cases h6 : zv = 2
         ·subst h6
          have HE : Hid (notL (ops.take (i + 1)) = notL (ops.take i)) := Lib.hid (by rw [HNT.out]; simp)
          clear hz HNT
          generalize notL (ops.take i) = N at *
          go_wp2
          go_roundw
          case rel => first | exact ⟨i + 1, by go_num, by omega, by rw [HE.out], hO⟩ | exact ⟨_, ⟨i + 1, by go_num, by omega, by rw [HE.out], hO⟩, rfl⟩
          case measure => simp [intOf]; omega
         ·have HE : Hid ((notL (ops.take (i + 1)) : Int) = (notL (ops.take i) : Int) + 1) := Lib.hid (by rw [HNT.out]; simp [h6])
          have d6 : decide (zv = 2) = false := decide_eq_false h6
          have d6' : (zv == 2) = false := by simpa using h6
          have d6'' : (zv != 2) = true := by simpa using h6
          clear hz HNT
          generalize notL (ops.take i) = N at *
          go_wp2
          go_roundw
          case rel => first | exact ⟨i + 1, by go_num, by omega, by rw [HE.out], hO⟩ | exact ⟨_, ⟨i + 1, by go_num, by omega, by rw [HE.out], hO⟩, rfl⟩
          case measure => simp [intOf]; omega
        ·have hij : i = j := by omega
         subst hij
         have hd7 : decide ((i : Int) < (i : Int)) = false := by simp
         rw [HNN.out]
         go_wp2_with (refine wpList_store_blk rfl 27 (.tmp 4) (.tmp 83) rfl gr 27 _ #[.int .i64 (q : Int), .int .i64 (NN : Int)] rfl rfl HR3.out rfl (by kernel_rfl) (by kernel_rfl) ?_; intro w9 b9 o9; have HB9 := Lib.hid b9; have HN9 := Lib.hid o9; clear b9 o9)
         refine bodyPost_ret (results_row2 Tryz.results30 _ _ gr 27 #[.int .i64 (q : Int), .int .i64 (NN : Int)] _ rfl HB9.out Tryz.underlying27 rfl (by kernel_rfl)) rfl ?_
         exact ⟨rfl, HO3.out.step HN9.out (fun i hi hl => by simp at hi; omega)⟩
end Go.Proofs.YtjhomlnlmpdklaaGreatDoor
