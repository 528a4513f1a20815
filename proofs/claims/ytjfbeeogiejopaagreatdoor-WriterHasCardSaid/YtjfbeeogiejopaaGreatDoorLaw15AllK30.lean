/- writer.readAt: the read at a place. -/
import Derived.Test.YtjfbeeogiejopaaGreatDoorLaw15AllK29
set_option linter.unusedVariables false
set_option linter.unusedSimpArgs false
namespace Go.Proofs.YtjfbeeogiejopaaGreatDoor
open Go.RowKit
open Go.Lib hiding intOf
attribute [local go_sem ↓] Go.wp_at_zero Go.wp_at_succ
def opV (o : Op4) : Value := .agg #[.bool o.wr, .int .i64 o.key, .int .i64 o.vk, .int .i64 o.vn]
set_option maxRecDepth 10000 in
set_option maxHeartbeats 8000000 in
theorem wreadAt_any (A0 A1 A2 : Option Addr) (n0 n1 n2 c0 c1 c2 B : Nat) (h : Hst) (a b : Int) (w : World) (hg : HIn w B A0 A1 A2 n0 n1 n2 h) :
  Calls Tryz.prog 39 #[hval A0 A1 A2 n0 n1 n2 c0 c1 c2, .agg #[.int .i64 a, .int .i64 b]] w fun e w' => ∃ o : Op4, (e = .returned (.tuple #[opV o, .bool (readO h a b).isSome]) ∧ (∀ x, readO h a b = some x → x.2 = o)) ∧ Only [] w w' := by
 have HF := Lib.hid (fun w' (O : Only [] w w') => hmay_any A0 A1 A2 n0 n1 n2 c0 c1 c2 B h w' (hg.same O))
 have HL := Lib.hid hg.at_.r2
 have HN2 := Lib.hid hg.n2
 unfold hval at HF ⊢
 clear hg
 have HO1 := Lib.hid ((((Only.refl [] w).alloc (.cells #[.slice A0 n0 c0, .slice A1 n1 c1, .slice A2 n2 c2] 25)).alloc (.cells #[.int .i64 a, .int .i64 b] 27)).alloc (.cells #[.bool false, .int .i64 0, .int .i64 0, .int .i64 0] 48))
 have HB1 := Lib.hid (((Blk.made w 25 #[.slice A0 n0 c0, .slice A1 n1 c1, .slice A2 n2 c2]).alloc (.cells #[.int .i64 a, .int .i64 b] 27)).alloc (.cells #[.bool false, .int .i64 0, .int .i64 0, .int .i64 0] 48))
 have HP1 := Lib.hid ((Blk.made (w.alloc (.cells #[.slice A0 n0 c0, .slice A1 n1 c1, .slice A2 n2 c2] 25)) 27 #[.int .i64 a, .int .i64 b]).alloc (.cells #[.bool false, .int .i64 0, .int .i64 0, .int .i64 0] 48))
 have HR1 := Lib.hid (Blk.made ((w.alloc (.cells #[.slice A0 n0 c0, .slice A1 n1 c1, .slice A2 n2 c2] 25)).alloc (.cells #[.int .i64 a, .int .i64 b] 27)) 48 #[.bool false, .int .i64 0, .int .i64 0, .int .i64 0])
 simp only [World.size_alloc] at HP1 HR1
 go_enter Tryz.func39, Tryz.ntmps39
 go_upto_region 1 with (fail)
 generalize (((w.alloc (.cells #[.slice A0 n0 c0, .slice A1 n1 c1, .slice A2 n2 c2] 25)).alloc (.cells #[.int .i64 a, .int .i64 b] 27)).alloc (.cells #[.bool false, .int .i64 0, .int .i64 0, .int .i64 0] 48)) = w1 at *
 generalize hgr : w.heap.size + 1 + 1 = gr at *
 generalize hgp : w.heap.size + 1 = gp at *
 generalize hgg : w.heap.size = g at *
 have hsz : g ≤ w1.heap.size := by have := HO1.out.size; omega
 have hgr0 : Hid (g ≤ gr) := Lib.hid (by omega)
 cases hm : mayH h with
 | false =>
  rw [errH_not hm] at HF
  have HE := Lib.hid (read_none (opAt_none (b := b) (txAt_no (a := a) hm)))
  clear hm hgr hgp
  refine wp_region_noPanic ?_
  refine wp_region_timed (F := [⟨[], [], fun w' => Only [] w1 w'⟩]) (by kernel_rfl) (timed_holds ((Only.refl [] w1).drew) (timed_nil)) ?_
  refine trd (i := 0) (v := ?_) 0 ?_ ?_
  rotate_left
  ·(intro wq hSw; (try dsimp only at hSw); have hb_H := hSw.blk HB1.out (by simp); have lb_H := hb_H.lt; have y0 := hb_H.at_ 0; have y1 := hb_H.at_ 1; have y2 := hb_H.at_ 2; simp at y0 y1 y2; clear hb_H; have hb_P := hSw.blk HP1.out (by simp); have lb_P := hb_P.lt; have p0 := hb_P.at_ 0; have p1 := hb_P.at_ 1; simp at p0 p1; clear hb_P; clear hSw; go_simp; try with_reducible rfl)
  try simp only [Act.put, tdy]
  refine timed_step (i := 1) (by kernel_rfl) rfl (fun K hK => ?_)
  go_simp
  refine (HF.out _ (HO1.out.trans (Only.refl [] w1).drew)).mono ?_
  rintro e w3 ⟨rfl, O3⟩
  refine hK.out _ _ (timed_holds (((Only.refl [] w1).drew).trans O3) (timed_nil)) ?_
  clear hK K
  try simp only [Act.put, tdy]
  refine tpu (i := 2) (v := ?_) ?_ ?_
  rotate_left
  ·(intro w; go_simp; try with_reducible rfl)
  try simp only [Act.put, tdy]
  refine tpu (i := 3) (v := ?_) ?_ ?_
  rotate_left
  ·(intro w; go_simp; try with_reducible rfl)
  try simp only [Act.put, tdy]
  refine tid (i := 4) ?_
  try simp only [Act.put, tdy]
  refine tid (i := 5) ?_
  try simp only [Act.put, tdy]
  refine tid (i := 6) ?_
  try simp only [Act.put, tdy]
  refine tpu (i := 7) (v := ?_) ?_ ?_
  rotate_left
  ·(intro w; go_simp; try with_reducible rfl)
  try simp only [Act.put, tdy]
  refine tpu (i := 8) (v := ?_) ?_ ?_
  rotate_left
  ·(intro w; go_simp; try with_reducible rfl)
  try simp only [Act.put, tdy]
  refine tid (i := 9) ?_
  try simp only [Act.put, tdy]
  refine tid (i := 10) ?_
  try simp only [Act.put, tdy]
  refine tid (i := 11) ?_
  try simp only [Act.put, tdy]
  refine tid (i := 12) ?_
  try simp only [Act.put, tdy]
  refine tid (i := 13) ?_
  try simp only [Act.put, tdy]
  refine tid (i := 14) ?_
  try simp only [Act.put, tdy]
  refine tpu (i := 15) (v := ?_) ?_ ?_
  rotate_left
  ·(intro w; go_simp; try with_reducible rfl)
  try simp only [Act.put, tdy]
  refine tpu (i := 16) (v := ?_) ?_ ?_
  rotate_left
  ·(intro w; go_simp; try with_reducible rfl)
  try simp only [Act.put, tdy]
  refine tid (i := 17) ?_
  try simp only [Act.put, tdy]
  refine tid (i := 18) ?_
  try simp only [Act.put, tdy]
  refine tid (i := 19) ?_
  try simp only [Act.put, tdy]
  refine tpu (i := 20) (v := ?_) ?_ ?_
  rotate_left
  ·(intro w; go_simp; try with_reducible rfl)
  try simp only [Act.put, tdy]
  refine tpu (i := 21) (v := ?_) ?_ ?_
  rotate_left
  ·(intro w; go_simp; try with_reducible rfl)
  try simp only [Act.put, tdy]
  refine tid (i := 22) ?_
  try simp only [Act.put, tdy]
  refine tid (i := 23) ?_
  try simp only [Act.put, tdy]
  refine tid (i := 24) ?_
  try simp only [Act.put, tdy]
  refine tid (i := 25) ?_
  try simp only [Act.put, tdy]
  refine tid (i := 26) ?_
  try simp only [Act.put, tdy]
  refine tid (i := 27) ?_
  try simp only [Act.put, tdy]
  refine tid (i := 28) ?_
  try simp only [Act.put, tdy]
  refine tid (i := 29) ?_
  try simp only [Act.put, tdy]
  refine tid (i := 30) ?_
  try simp only [Act.put, tdy]
  refine tid (i := 31) ?_
  try simp only [Act.put, tdy]
  refine tid (i := 32) ?_
  try simp only [Act.put, tdy]
  refine tpu (i := 33) (v := ?_) ?_ ?_
  rotate_left
  ·(intro w; go_simp; try with_reducible rfl)
  try simp only [Act.put, tdy]
  refine timed_done (by kernel_rfl) ?_ _
  refine NoPanic.normal ?_
  have HNW := Lib.hid (HO1.out.trans (((Only.refl [] w1).drew).trans O3))
  have HR3 := Lib.hid (O3.blk HR1.out.drew (by simp))
  clear O3
  go_wp2_with (refine wpList_store_blk rfl 48 (.tmp 4) (.tmp 41) rfl gr 48 _ #[.bool false, .int .i64 0, .int .i64 0, .int .i64 0] rfl rfl HR3.out rfl (by kernel_rfl) (by kernel_rfl) ?_; intro w9 b9 o9; have HB9 := Lib.hid b9; have HN9 := Lib.hid o9; clear b9 o9)
  refine bodyPost_ret (results_row2 Tryz.results39 _ _ gr 48 #[.bool false, .int .i64 0, .int .i64 0, .int .i64 0] _ rfl HB9.out Tryz.underlying48 rfl (by kernel_rfl)) rfl ?_
  exact ⟨⟨false, 0, 0, 0⟩, ⟨by rw [HE.out]; rfl, fun x hx => by rw [HE.out] at hx; cases hx⟩, HNW.out.step HN9.out (fun i hi hl => by simp at hi; have := hgr0.out; omega)⟩
 | true =>
  rw [errH_yes hm] at HF
  by_cases q1 : a < 0
  ·have d1 : decide (a < 0) = true := decide_eq_true q1
   have HE := Lib.hid (read_none (opAt_none (b := b) (txAt_neg (h := h) (a := a) q1)))
   clear q1 hm hgr hgp
   refine wp_region_noPanic ?_
   refine wp_region_timed (F := [⟨[], [], fun w' => Only [] w1 w'⟩]) (by kernel_rfl) (timed_holds ((Only.refl [] w1).drew) (timed_nil)) ?_
   refine trd (i := 0) (v := ?_) 0 ?_ ?_
   rotate_left
   ·(intro wq hSw; (try dsimp only at hSw); have hb_H := hSw.blk HB1.out (by simp); have lb_H := hb_H.lt; have y0 := hb_H.at_ 0; have y1 := hb_H.at_ 1; have y2 := hb_H.at_ 2; simp at y0 y1 y2; clear hb_H; have hb_P := hSw.blk HP1.out (by simp); have lb_P := hb_P.lt; have p0 := hb_P.at_ 0; have p1 := hb_P.at_ 1; simp at p0 p1; clear hb_P; clear hSw; go_simp; try with_reducible rfl)
   try simp only [Act.put, tdy]
   refine timed_step (i := 1) (by kernel_rfl) rfl (fun K hK => ?_)
   go_simp
   refine (HF.out _ (HO1.out.trans (Only.refl [] w1).drew)).mono ?_
   rintro e w3 ⟨rfl, O3⟩
   refine hK.out _ _ (timed_holds (((Only.refl [] w1).drew).trans O3) (timed_nil)) ?_
   clear hK K
   try simp only [Act.put, tdy]
   refine tpu (i := 2) (v := ?_) ?_ ?_
   rotate_left
   ·(intro w; go_simp; try with_reducible rfl)
   try simp only [Act.put, tdy]
   refine tpu (i := 3) (v := ?_) ?_ ?_
   rotate_left
   ·(intro w; go_simp; try with_reducible rfl)
   try simp only [Act.put, tdy]
   refine tpu (i := 4) (v := ?_) ?_ ?_
   rotate_left
   ·(intro w; go_simp; try with_reducible rfl)
   try simp only [Act.put, tdy]
   refine trd (i := 5) (v := ?_) 0 ?_ ?_
   rotate_left
   ·(intro wq hSw; (try dsimp only at hSw); have hb_H := hSw.blk HB1.out (by simp); have lb_H := hb_H.lt; have y0 := hb_H.at_ 0; have y1 := hb_H.at_ 1; have y2 := hb_H.at_ 2; simp at y0 y1 y2; clear hb_H; have hb_P := hSw.blk HP1.out (by simp); have lb_P := hb_P.lt; have p0 := hb_P.at_ 0; have p1 := hb_P.at_ 1; simp at p0 p1; clear hb_P; clear hSw; go_simp; try with_reducible rfl)
   try simp only [Act.put, tdy]
   refine tpu (i := 6) (v := ?_) ?_ ?_
   rotate_left
   ·(intro w; go_simp; try with_reducible rfl)
   try simp only [Act.put, tdy]
   refine tpu (i := 7) (v := ?_) ?_ ?_
   rotate_left
   ·(intro w; go_simp; try with_reducible rfl)
   try simp only [Act.put, tdy]
   refine tpu (i := 8) (v := ?_) ?_ ?_
   rotate_left
   ·(intro w; go_simp; try with_reducible rfl)
   try simp only [Act.put, tdy]
   refine tid (i := 9) ?_
   try simp only [Act.put, tdy]
   refine tid (i := 10) ?_
   try simp only [Act.put, tdy]
   refine tid (i := 11) ?_
   try simp only [Act.put, tdy]
   refine tid (i := 12) ?_
   try simp only [Act.put, tdy]
   refine tid (i := 13) ?_
   try simp only [Act.put, tdy]
   refine tid (i := 14) ?_
   try simp only [Act.put, tdy]
   refine tpu (i := 15) (v := ?_) ?_ ?_
   rotate_left
   ·(intro w; go_simp; try with_reducible rfl)
   try simp only [Act.put, tdy]
   refine tpu (i := 16) (v := ?_) ?_ ?_
   rotate_left
   ·(intro w; go_simp; try with_reducible rfl)
   try simp only [Act.put, tdy]
   refine tid (i := 17) ?_
   try simp only [Act.put, tdy]
   refine tid (i := 18) ?_
   try simp only [Act.put, tdy]
   refine tid (i := 19) ?_
   try simp only [Act.put, tdy]
   refine tpu (i := 20) (v := ?_) ?_ ?_
   rotate_left
   ·(intro w; go_simp; try with_reducible rfl)
   try simp only [Act.put, tdy]
   refine tpu (i := 21) (v := ?_) ?_ ?_
   rotate_left
   ·(intro w; go_simp; try with_reducible rfl)
   try simp only [Act.put, tdy]
   refine tid (i := 22) ?_
   try simp only [Act.put, tdy]
   refine tid (i := 23) ?_
   try simp only [Act.put, tdy]
   refine tid (i := 24) ?_
   try simp only [Act.put, tdy]
   refine tid (i := 25) ?_
   try simp only [Act.put, tdy]
   refine tid (i := 26) ?_
   try simp only [Act.put, tdy]
   refine tid (i := 27) ?_
   try simp only [Act.put, tdy]
   refine tid (i := 28) ?_
   try simp only [Act.put, tdy]
   refine tid (i := 29) ?_
   try simp only [Act.put, tdy]
   refine tid (i := 30) ?_
   try simp only [Act.put, tdy]
   refine tid (i := 31) ?_
   try simp only [Act.put, tdy]
   refine tid (i := 32) ?_
   try simp only [Act.put, tdy]
   refine tpu (i := 33) (v := ?_) ?_ ?_
   rotate_left
   ·(intro w; go_simp; try with_reducible rfl)
   try simp only [Act.put, tdy]
   refine timed_done (by kernel_rfl) ?_ _
   refine NoPanic.normal ?_
   have HNW := Lib.hid (HO1.out.trans (((Only.refl [] w1).drew).trans O3))
   have HR3 := Lib.hid (O3.blk HR1.out.drew (by simp))
   clear O3
   go_wp2_with (refine wpList_store_blk rfl 48 (.tmp 4) (.tmp 41) rfl gr 48 _ #[.bool false, .int .i64 0, .int .i64 0, .int .i64 0] rfl rfl HR3.out rfl (by kernel_rfl) (by kernel_rfl) ?_; intro w9 b9 o9; have HB9 := Lib.hid b9; have HN9 := Lib.hid o9; clear b9 o9)
   refine bodyPost_ret (results_row2 Tryz.results39 _ _ gr 48 #[.bool false, .int .i64 0, .int .i64 0, .int .i64 0] _ rfl HB9.out Tryz.underlying48 rfl (by kernel_rfl)) rfl ?_
   exact ⟨⟨false, 0, 0, 0⟩, ⟨by rw [HE.out]; rfl, fun x hx => by rw [HE.out] at hx; cases hx⟩, HNW.out.step HN9.out (fun i hi hl => by simp at hi; have := hgr0.out; omega)⟩
  ·have d1 : decide (a < 0) = false := decide_eq_false q1
   by_cases q2 : (n2 : Int) ≤ a
   ·have d2 : decide ((n2 : Int) ≤ a) = true := decide_eq_true q2
    have HE := Lib.hid (read_none (opAt_none (b := b) (txAt_big (h := h) (a := a) (by rw [HN2.out]; omega))))
    clear q1 q2 hm hgr hgp
    refine wp_region_noPanic ?_
    refine wp_region_timed (F := [⟨[], [], fun w' => Only [] w1 w'⟩]) (by kernel_rfl) (timed_holds ((Only.refl [] w1).drew) (timed_nil)) ?_
    refine trd (i := 0) (v := ?_) 0 ?_ ?_
    rotate_left
    ·(intro wq hSw; (try dsimp only at hSw); have hb_H := hSw.blk HB1.out (by simp); have lb_H := hb_H.lt; have y0 := hb_H.at_ 0; have y1 := hb_H.at_ 1; have y2 := hb_H.at_ 2; simp at y0 y1 y2; clear hb_H; have hb_P := hSw.blk HP1.out (by simp); have lb_P := hb_P.lt; have p0 := hb_P.at_ 0; have p1 := hb_P.at_ 1; simp at p0 p1; clear hb_P; clear hSw; go_simp; try with_reducible rfl)
    try simp only [Act.put, tdy]
    refine timed_step (i := 1) (by kernel_rfl) rfl (fun K hK => ?_)
    go_simp
    refine (HF.out _ (HO1.out.trans (Only.refl [] w1).drew)).mono ?_
    rintro e w3 ⟨rfl, O3⟩
    refine hK.out _ _ (timed_holds (((Only.refl [] w1).drew).trans O3) (timed_nil)) ?_
    clear hK K
    try simp only [Act.put, tdy]
    refine tpu (i := 2) (v := ?_) ?_ ?_
    rotate_left
    ·(intro w; go_simp; try with_reducible rfl)
    try simp only [Act.put, tdy]
    refine tpu (i := 3) (v := ?_) ?_ ?_
    rotate_left
    ·(intro w; go_simp; try with_reducible rfl)
    try simp only [Act.put, tdy]
    refine tpu (i := 4) (v := ?_) ?_ ?_
    rotate_left
    ·(intro w; go_simp; try with_reducible rfl)
    try simp only [Act.put, tdy]
    refine trd (i := 5) (v := ?_) 0 ?_ ?_
    rotate_left
    ·(intro wq hSw; (try dsimp only at hSw); have hb_H := hSw.blk HB1.out (by simp); have lb_H := hb_H.lt; have y0 := hb_H.at_ 0; have y1 := hb_H.at_ 1; have y2 := hb_H.at_ 2; simp at y0 y1 y2; clear hb_H; have hb_P := hSw.blk HP1.out (by simp); have lb_P := hb_P.lt; have p0 := hb_P.at_ 0; have p1 := hb_P.at_ 1; simp at p0 p1; clear hb_P; clear hSw; go_simp; try with_reducible rfl)
    try simp only [Act.put, tdy]
    refine tpu (i := 6) (v := ?_) ?_ ?_
    rotate_left
    ·(intro w; go_simp; try with_reducible rfl)
    try simp only [Act.put, tdy]
    refine tpu (i := 7) (v := ?_) ?_ ?_
    rotate_left
    ·(intro w; go_simp; try with_reducible rfl)
    try simp only [Act.put, tdy]
    refine tpu (i := 8) (v := ?_) ?_ ?_
    rotate_left
    ·(intro w; go_simp; try with_reducible rfl)
    try simp only [Act.put, tdy]
    refine tpu (i := 9) (v := ?_) ?_ ?_
    rotate_left
    ·(intro w; go_simp; try with_reducible rfl)
    try simp only [Act.put, tdy]
    refine trd (i := 10) (v := ?_) 0 ?_ ?_
    rotate_left
    ·(intro wq hSw; (try dsimp only at hSw); have hb_H := hSw.blk HB1.out (by simp); have lb_H := hb_H.lt; have y0 := hb_H.at_ 0; have y1 := hb_H.at_ 1; have y2 := hb_H.at_ 2; simp at y0 y1 y2; clear hb_H; have hb_P := hSw.blk HP1.out (by simp); have lb_P := hb_P.lt; have p0 := hb_P.at_ 0; have p1 := hb_P.at_ 1; simp at p0 p1; clear hb_P; clear hSw; go_simp; try with_reducible rfl)
    try simp only [Act.put, tdy]
    refine tpu (i := 11) (v := ?_) ?_ ?_
    rotate_left
    ·(intro w; go_simp; try with_reducible rfl)
    try simp only [Act.put, tdy]
    refine trd (i := 12) (v := ?_) 0 ?_ ?_
    rotate_left
    ·(intro wq hSw; (try dsimp only at hSw); have hb_H := hSw.blk HB1.out (by simp); have lb_H := hb_H.lt; have y0 := hb_H.at_ 0; have y1 := hb_H.at_ 1; have y2 := hb_H.at_ 2; simp at y0 y1 y2; clear hb_H; have hb_P := hSw.blk HP1.out (by simp); have lb_P := hb_P.lt; have p0 := hb_P.at_ 0; have p1 := hb_P.at_ 1; simp at p0 p1; clear hb_P; clear hSw; go_simp; try with_reducible rfl)
    try simp only [Act.put, tdy]
    refine tpu (i := 13) (v := ?_) ?_ ?_
    rotate_left
    ·(intro w; go_simp; try with_reducible rfl)
    try simp only [Act.put, tdy]
    refine tpu (i := 14) (v := ?_) ?_ ?_
    rotate_left
    ·(intro w; go_simp; try with_reducible rfl)
    try simp only [Act.put, tdy]
    refine tpu (i := 15) (v := ?_) ?_ ?_
    rotate_left
    ·(intro w; go_simp; try with_reducible rfl)
    try simp only [Act.put, tdy]
    refine tpu (i := 16) (v := ?_) ?_ ?_
    rotate_left
    ·(intro w; go_simp; try with_reducible rfl)
    try simp only [Act.put, tdy]
    refine tid (i := 17) ?_
    try simp only [Act.put, tdy]
    refine tid (i := 18) ?_
    try simp only [Act.put, tdy]
    refine tid (i := 19) ?_
    try simp only [Act.put, tdy]
    refine tpu (i := 20) (v := ?_) ?_ ?_
    rotate_left
    ·(intro w; go_simp; try with_reducible rfl)
    try simp only [Act.put, tdy]
    refine tpu (i := 21) (v := ?_) ?_ ?_
    rotate_left
    ·(intro w; go_simp; try with_reducible rfl)
    try simp only [Act.put, tdy]
    refine tid (i := 22) ?_
    try simp only [Act.put, tdy]
    refine tid (i := 23) ?_
    try simp only [Act.put, tdy]
    refine tid (i := 24) ?_
    try simp only [Act.put, tdy]
    refine tid (i := 25) ?_
    try simp only [Act.put, tdy]
    refine tid (i := 26) ?_
    try simp only [Act.put, tdy]
    refine tid (i := 27) ?_
    try simp only [Act.put, tdy]
    refine tid (i := 28) ?_
    try simp only [Act.put, tdy]
    refine tid (i := 29) ?_
    try simp only [Act.put, tdy]
    refine tid (i := 30) ?_
    try simp only [Act.put, tdy]
    refine tid (i := 31) ?_
    try simp only [Act.put, tdy]
    refine tid (i := 32) ?_
    try simp only [Act.put, tdy]
    refine tpu (i := 33) (v := ?_) ?_ ?_
    rotate_left
    ·(intro w; go_simp; try with_reducible rfl)
    try simp only [Act.put, tdy]
    refine timed_done (by kernel_rfl) ?_ _
    refine NoPanic.normal ?_
    have HNW := Lib.hid (HO1.out.trans (((Only.refl [] w1).drew).trans O3))
    have HR3 := Lib.hid (O3.blk HR1.out.drew (by simp))
    clear O3
    go_wp2_with (refine wpList_store_blk rfl 48 (.tmp 4) (.tmp 41) rfl gr 48 _ #[.bool false, .int .i64 0, .int .i64 0, .int .i64 0] rfl rfl HR3.out rfl (by kernel_rfl) (by kernel_rfl) ?_; intro w9 b9 o9; have HB9 := Lib.hid b9; have HN9 := Lib.hid o9; clear b9 o9)
    refine bodyPost_ret (results_row2 Tryz.results39 _ _ gr 48 #[.bool false, .int .i64 0, .int .i64 0, .int .i64 0] _ rfl HB9.out Tryz.underlying48 rfl (by kernel_rfl)) rfl ?_
    exact ⟨⟨false, 0, 0, 0⟩, ⟨by rw [HE.out]; rfl, fun x hx => by rw [HE.out] at hx; cases hx⟩, HNW.out.step HN9.out (fun i hi hl => by simp at hi; have := hgr0.out; omega)⟩
   ·have d2 : decide ((n2 : Int) ≤ a) = false := decide_eq_false q2
    obtain ⟨i, rfl⟩ : ∃ i : Nat, a = i := ⟨a.toNat, by omega⟩
    obtain ⟨t, hx⟩ : ∃ t, h.l[i]? = some t := ⟨_, List.getElem?_eq_getElem (by rw [HN2.out]; omega)⟩
    have htx := txAt_yes hm hx
    have d2n : decide (n2 ≤ i) = false := decide_eq_false (by omega)
    by_cases q3 : b < 0
    ·have d3 : decide (b < 0) = true := decide_eq_true q3
     have HE := Lib.hid (read_none (opAt_neg (h := h) (a := (i : Int)) (b := b) q3))
     clear q1 q2 q3 hx htx hm hgr hgp
     refine wp_region_noPanic ?_
     refine wp_region_timed (F := [⟨[], [], fun w' => Only [] w1 w'⟩]) (by kernel_rfl) (timed_holds ((Only.refl [] w1).drew) (timed_nil)) ?_
     refine trd (i := 0) (v := ?_) 0 ?_ ?_
     rotate_left
     ·(intro wq hSw; (try dsimp only at hSw); have hb_H := hSw.blk HB1.out (by simp); have lb_H := hb_H.lt; have y0 := hb_H.at_ 0; have y1 := hb_H.at_ 1; have y2 := hb_H.at_ 2; simp at y0 y1 y2; clear hb_H; have hb_P := hSw.blk HP1.out (by simp); have lb_P := hb_P.lt; have p0 := hb_P.at_ 0; have p1 := hb_P.at_ 1; simp at p0 p1; clear hb_P; clear hSw; go_simp; try with_reducible rfl)
     try simp only [Act.put, tdy]
     refine timed_step (i := 1) (by kernel_rfl) rfl (fun K hK => ?_)
     go_simp
     refine (HF.out _ (HO1.out.trans (Only.refl [] w1).drew)).mono ?_
     rintro e w3 ⟨rfl, O3⟩
     refine hK.out _ _ (timed_holds (((Only.refl [] w1).drew).trans O3) (timed_nil)) ?_
     clear hK K
     try simp only [Act.put, tdy]
     refine tpu (i := 2) (v := ?_) ?_ ?_
     rotate_left
     ·(intro w; go_simp; try with_reducible rfl)
     try simp only [Act.put, tdy]
     refine tpu (i := 3) (v := ?_) ?_ ?_
     rotate_left
     ·(intro w; go_simp; try with_reducible rfl)
     try simp only [Act.put, tdy]
     refine tpu (i := 4) (v := ?_) ?_ ?_
     rotate_left
     ·(intro w; go_simp; try with_reducible rfl)
     try simp only [Act.put, tdy]
     refine trd (i := 5) (v := ?_) 0 ?_ ?_
     rotate_left
     ·(intro wq hSw; (try dsimp only at hSw); have hb_H := hSw.blk HB1.out (by simp); have lb_H := hb_H.lt; have y0 := hb_H.at_ 0; have y1 := hb_H.at_ 1; have y2 := hb_H.at_ 2; simp at y0 y1 y2; clear hb_H; have hb_P := hSw.blk HP1.out (by simp); have lb_P := hb_P.lt; have p0 := hb_P.at_ 0; have p1 := hb_P.at_ 1; simp at p0 p1; clear hb_P; clear hSw; go_simp; try with_reducible rfl)
     try simp only [Act.put, tdy]
     refine tpu (i := 6) (v := ?_) ?_ ?_
     rotate_left
     ·(intro w; go_simp; try with_reducible rfl)
     try simp only [Act.put, tdy]
     refine tpu (i := 7) (v := ?_) ?_ ?_
     rotate_left
     ·(intro w; go_simp; try with_reducible rfl)
     try simp only [Act.put, tdy]
     refine tpu (i := 8) (v := ?_) ?_ ?_
     rotate_left
     ·(intro w; go_simp; try with_reducible rfl)
     try simp only [Act.put, tdy]
     refine tpu (i := 9) (v := ?_) ?_ ?_
     rotate_left
     ·(intro w; go_simp; try with_reducible rfl)
     try simp only [Act.put, tdy]
     refine trd (i := 10) (v := ?_) 0 ?_ ?_
     rotate_left
     ·(intro wq hSw; (try dsimp only at hSw); have hb_H := hSw.blk HB1.out (by simp); have lb_H := hb_H.lt; have y0 := hb_H.at_ 0; have y1 := hb_H.at_ 1; have y2 := hb_H.at_ 2; simp at y0 y1 y2; clear hb_H; have hb_P := hSw.blk HP1.out (by simp); have lb_P := hb_P.lt; have p0 := hb_P.at_ 0; have p1 := hb_P.at_ 1; simp at p0 p1; clear hb_P; clear hSw; go_simp; try with_reducible rfl)
     try simp only [Act.put, tdy]
     refine tpu (i := 11) (v := ?_) ?_ ?_
     rotate_left
     ·(intro w; go_simp; try with_reducible rfl)
     try simp only [Act.put, tdy]
     refine trd (i := 12) (v := ?_) 0 ?_ ?_
     rotate_left
     ·(intro wq hSw; (try dsimp only at hSw); have hb_H := hSw.blk HB1.out (by simp); have lb_H := hb_H.lt; have y0 := hb_H.at_ 0; have y1 := hb_H.at_ 1; have y2 := hb_H.at_ 2; simp at y0 y1 y2; clear hb_H; have hb_P := hSw.blk HP1.out (by simp); have lb_P := hb_P.lt; have p0 := hb_P.at_ 0; have p1 := hb_P.at_ 1; simp at p0 p1; clear hb_P; clear hSw; go_simp; try with_reducible rfl)
     try simp only [Act.put, tdy]
     refine tpu (i := 13) (v := ?_) ?_ ?_
     rotate_left
     ·(intro w; go_simp; try with_reducible rfl)
     try simp only [Act.put, tdy]
     refine tpu (i := 14) (v := ?_) ?_ ?_
     rotate_left
     ·(intro w; go_simp; try with_reducible rfl)
     try simp only [Act.put, tdy]
     refine tpu (i := 15) (v := ?_) ?_ ?_
     rotate_left
     ·(intro w; go_simp; try with_reducible rfl)
     try simp only [Act.put, tdy]
     refine tpu (i := 16) (v := ?_) ?_ ?_
     rotate_left
     ·(intro w; go_simp; try with_reducible rfl)
     try simp only [Act.put, tdy]
     refine tpu (i := 17) (v := ?_) ?_ ?_
     rotate_left
     ·(intro w; go_simp; try with_reducible rfl)
     try simp only [Act.put, tdy]
     refine trd (i := 18) (v := ?_) 0 ?_ ?_
     rotate_left
     ·(intro wq hSw; (try dsimp only at hSw); have hb_H := hSw.blk HB1.out (by simp); have lb_H := hb_H.lt; have y0 := hb_H.at_ 0; have y1 := hb_H.at_ 1; have y2 := hb_H.at_ 2; simp at y0 y1 y2; clear hb_H; have hb_P := hSw.blk HP1.out (by simp); have lb_P := hb_P.lt; have p0 := hb_P.at_ 0; have p1 := hb_P.at_ 1; simp at p0 p1; clear hb_P; clear hSw; go_simp; try with_reducible rfl)
     try simp only [Act.put, tdy]
     refine tpu (i := 19) (v := ?_) ?_ ?_
     rotate_left
     ·(intro w; go_simp; try with_reducible rfl)
     try simp only [Act.put, tdy]
     refine tpu (i := 20) (v := ?_) ?_ ?_
     rotate_left
     ·(intro w; go_simp; try with_reducible rfl)
     try simp only [Act.put, tdy]
     refine tpu (i := 21) (v := ?_) ?_ ?_
     rotate_left
     ·(intro w; go_simp; try with_reducible rfl)
     try simp only [Act.put, tdy]
     refine tid (i := 22) ?_
     try simp only [Act.put, tdy]
     refine tid (i := 23) ?_
     try simp only [Act.put, tdy]
     refine tid (i := 24) ?_
     try simp only [Act.put, tdy]
     refine tid (i := 25) ?_
     try simp only [Act.put, tdy]
     refine tid (i := 26) ?_
     try simp only [Act.put, tdy]
     refine tid (i := 27) ?_
     try simp only [Act.put, tdy]
     refine tid (i := 28) ?_
     try simp only [Act.put, tdy]
     refine tid (i := 29) ?_
     try simp only [Act.put, tdy]
     refine tid (i := 30) ?_
     try simp only [Act.put, tdy]
     refine tid (i := 31) ?_
     try simp only [Act.put, tdy]
     refine tid (i := 32) ?_
     try simp only [Act.put, tdy]
     refine tpu (i := 33) (v := ?_) ?_ ?_
     rotate_left
     ·(intro w; go_simp; try with_reducible rfl)
     try simp only [Act.put, tdy]
     refine timed_done (by kernel_rfl) ?_ _
     refine NoPanic.normal ?_
     have HNW := Lib.hid (HO1.out.trans (((Only.refl [] w1).drew).trans O3))
     have HR3 := Lib.hid (O3.blk HR1.out.drew (by simp))
     clear O3
     go_wp2_with (refine wpList_store_blk rfl 48 (.tmp 4) (.tmp 41) rfl gr 48 _ #[.bool false, .int .i64 0, .int .i64 0, .int .i64 0] rfl rfl HR3.out rfl (by kernel_rfl) (by kernel_rfl) ?_; intro w9 b9 o9; have HB9 := Lib.hid b9; have HN9 := Lib.hid o9; clear b9 o9)
     refine bodyPost_ret (results_row2 Tryz.results39 _ _ gr 48 #[.bool false, .int .i64 0, .int .i64 0, .int .i64 0] _ rfl HB9.out Tryz.underlying48 rfl (by kernel_rfl)) rfl ?_
     exact ⟨⟨false, 0, 0, 0⟩, ⟨by rw [HE.out]; rfl, fun x hx => by rw [HE.out] at hx; cases hx⟩, HNW.out.step HN9.out (fun i hi hl => by simp at hi; have := hgr0.out; omega)⟩
    ·have d3 : decide (b < 0) = false := decide_eq_false q3
     obtain ⟨j, rfl⟩ : ∃ j : Nat, b = j := ⟨b.toNat, by omega⟩
     obtain ⟨bl, off, A', cp, rfl, -, hbw, hT, hOk⟩ := HL.out.at_ hx
     have HCA := Lib.hid (hT.only HO1.out (by omega) (by simp)).c2
     have hbr : bl < w1.heap.size := by omega
     have hi0 : (0 : Int) ≤ (i : Int) := by omega
     have q2' : (i : Int) < (n2 : Int) := by omega
     dsimp only at HCA
     by_cases q4 : (t.ops.length : Int) ≤ (j : Int)
     ·have d4 : decide ((t.ops.length : Int) ≤ (j : Int)) = true := decide_eq_true q4
      have d4' : decide (t.ops.length ≤ j) = true := decide_eq_true (by omega)
      have HE := Lib.hid (read_none (opAt_big htx q4))
      generalize t.ops.length = m at *
      clear q1 q2 q3 q4 hx htx hm hgr hgp hOk hT
      refine wp_region_noPanic ?_
      refine wp_region_timed (F := [⟨[], [], fun w' => Only [] w1 w'⟩]) (by kernel_rfl) (timed_holds ((Only.refl [] w1).drew) (timed_nil)) ?_
      refine trd (i := 0) (v := ?_) 0 ?_ ?_
      rotate_left
      ·(intro wq hSw; (try dsimp only at hSw); have hb_H := hSw.blk HB1.out (by simp); have lb_H := hb_H.lt; have y0 := hb_H.at_ 0; have y1 := hb_H.at_ 1; have y2 := hb_H.at_ 2; simp at y0 y1 y2; clear hb_H; have hb_P := hSw.blk HP1.out (by simp); have lb_P := hb_P.lt; have p0 := hb_P.at_ 0; have p1 := hb_P.at_ 1; simp at p0 p1; clear hb_P; have t2 := (hSw.cell (p := ⟨bl, off + i * 3 + 2, none⟩) hbr (by simp)).trans HCA.out; clear hSw; go_simp; try with_reducible rfl)
      try simp only [Act.put, tdy]
      refine timed_step (i := 1) (by kernel_rfl) rfl (fun K hK => ?_)
      go_simp
      refine (HF.out _ (HO1.out.trans (Only.refl [] w1).drew)).mono ?_
      rintro e w3 ⟨rfl, O3⟩
      refine hK.out _ _ (timed_holds (((Only.refl [] w1).drew).trans O3) (timed_nil)) ?_
      clear hK K
      try simp only [Act.put, tdy]
      refine tpu (i := 2) (v := ?_) ?_ ?_
      rotate_left
      ·(intro w; go_simp; try with_reducible rfl)
      try simp only [Act.put, tdy]
      refine tpu (i := 3) (v := ?_) ?_ ?_
      rotate_left
      ·(intro w; go_simp; try with_reducible rfl)
      try simp only [Act.put, tdy]
      refine tpu (i := 4) (v := ?_) ?_ ?_
      rotate_left
      ·(intro w; go_simp; try with_reducible rfl)
      try simp only [Act.put, tdy]
      refine trd (i := 5) (v := ?_) 0 ?_ ?_
      rotate_left
      ·(intro wq hSw; (try dsimp only at hSw); have hb_H := hSw.blk HB1.out (by simp); have lb_H := hb_H.lt; have y0 := hb_H.at_ 0; have y1 := hb_H.at_ 1; have y2 := hb_H.at_ 2; simp at y0 y1 y2; clear hb_H; have hb_P := hSw.blk HP1.out (by simp); have lb_P := hb_P.lt; have p0 := hb_P.at_ 0; have p1 := hb_P.at_ 1; simp at p0 p1; clear hb_P; have t2 := (hSw.cell (p := ⟨bl, off + i * 3 + 2, none⟩) hbr (by simp)).trans HCA.out; clear hSw; go_simp; try with_reducible rfl)
      try simp only [Act.put, tdy]
      refine tpu (i := 6) (v := ?_) ?_ ?_
      rotate_left
      ·(intro w; go_simp; try with_reducible rfl)
      try simp only [Act.put, tdy]
      refine tpu (i := 7) (v := ?_) ?_ ?_
      rotate_left
      ·(intro w; go_simp; try with_reducible rfl)
      try simp only [Act.put, tdy]
      refine tpu (i := 8) (v := ?_) ?_ ?_
      rotate_left
      ·(intro w; go_simp; try with_reducible rfl)
      try simp only [Act.put, tdy]
      refine tpu (i := 9) (v := ?_) ?_ ?_
      rotate_left
      ·(intro w; go_simp; try with_reducible rfl)
      try simp only [Act.put, tdy]
      refine trd (i := 10) (v := ?_) 0 ?_ ?_
      rotate_left
      ·(intro wq hSw; (try dsimp only at hSw); have hb_H := hSw.blk HB1.out (by simp); have lb_H := hb_H.lt; have y0 := hb_H.at_ 0; have y1 := hb_H.at_ 1; have y2 := hb_H.at_ 2; simp at y0 y1 y2; clear hb_H; have hb_P := hSw.blk HP1.out (by simp); have lb_P := hb_P.lt; have p0 := hb_P.at_ 0; have p1 := hb_P.at_ 1; simp at p0 p1; clear hb_P; have t2 := (hSw.cell (p := ⟨bl, off + i * 3 + 2, none⟩) hbr (by simp)).trans HCA.out; clear hSw; go_simp; try with_reducible rfl)
      try simp only [Act.put, tdy]
      refine tpu (i := 11) (v := ?_) ?_ ?_
      rotate_left
      ·(intro w; go_simp; try with_reducible rfl)
      try simp only [Act.put, tdy]
      refine trd (i := 12) (v := ?_) 0 ?_ ?_
      rotate_left
      ·(intro wq hSw; (try dsimp only at hSw); have hb_H := hSw.blk HB1.out (by simp); have lb_H := hb_H.lt; have y0 := hb_H.at_ 0; have y1 := hb_H.at_ 1; have y2 := hb_H.at_ 2; simp at y0 y1 y2; clear hb_H; have hb_P := hSw.blk HP1.out (by simp); have lb_P := hb_P.lt; have p0 := hb_P.at_ 0; have p1 := hb_P.at_ 1; simp at p0 p1; clear hb_P; have t2 := (hSw.cell (p := ⟨bl, off + i * 3 + 2, none⟩) hbr (by simp)).trans HCA.out; clear hSw; go_simp; try with_reducible rfl)
      try simp only [Act.put, tdy]
      refine tpu (i := 13) (v := ?_) ?_ ?_
      rotate_left
      ·(intro w; go_simp; try with_reducible rfl)
      try simp only [Act.put, tdy]
      refine tpu (i := 14) (v := ?_) ?_ ?_
      rotate_left
      ·(intro w; go_simp; try with_reducible rfl)
      try simp only [Act.put, tdy]
      refine tpu (i := 15) (v := ?_) ?_ ?_
      rotate_left
      ·(intro w; go_simp; try with_reducible rfl)
      try simp only [Act.put, tdy]
      refine tpu (i := 16) (v := ?_) ?_ ?_
      rotate_left
      ·(intro w; go_simp; try with_reducible rfl)
      try simp only [Act.put, tdy]
      refine tpu (i := 17) (v := ?_) ?_ ?_
      rotate_left
      ·(intro w; go_simp; try with_reducible rfl)
      try simp only [Act.put, tdy]
      refine trd (i := 18) (v := ?_) 0 ?_ ?_
      rotate_left
      ·(intro wq hSw; (try dsimp only at hSw); have hb_H := hSw.blk HB1.out (by simp); have lb_H := hb_H.lt; have y0 := hb_H.at_ 0; have y1 := hb_H.at_ 1; have y2 := hb_H.at_ 2; simp at y0 y1 y2; clear hb_H; have hb_P := hSw.blk HP1.out (by simp); have lb_P := hb_P.lt; have p0 := hb_P.at_ 0; have p1 := hb_P.at_ 1; simp at p0 p1; clear hb_P; have t2 := (hSw.cell (p := ⟨bl, off + i * 3 + 2, none⟩) hbr (by simp)).trans HCA.out; clear hSw; go_simp; try with_reducible rfl)
      try simp only [Act.put, tdy]
      refine tpu (i := 19) (v := ?_) ?_ ?_
      rotate_left
      ·(intro w; go_simp; try with_reducible rfl)
      try simp only [Act.put, tdy]
      refine tpu (i := 20) (v := ?_) ?_ ?_
      rotate_left
      ·(intro w; go_simp; try with_reducible rfl)
      try simp only [Act.put, tdy]
      refine tpu (i := 21) (v := ?_) ?_ ?_
      rotate_left
      ·(intro w; go_simp; try with_reducible rfl)
      try simp only [Act.put, tdy]
      refine tpu (i := 22) (v := ?_) ?_ ?_
      rotate_left
      ·(intro w; go_simp; try with_reducible rfl)
      try simp only [Act.put, tdy]
      refine trd (i := 23) (v := ?_) 0 ?_ ?_
      rotate_left
      ·(intro wq hSw; (try dsimp only at hSw); have hb_H := hSw.blk HB1.out (by simp); have lb_H := hb_H.lt; have y0 := hb_H.at_ 0; have y1 := hb_H.at_ 1; have y2 := hb_H.at_ 2; simp at y0 y1 y2; clear hb_H; have hb_P := hSw.blk HP1.out (by simp); have lb_P := hb_P.lt; have p0 := hb_P.at_ 0; have p1 := hb_P.at_ 1; simp at p0 p1; clear hb_P; have t2 := (hSw.cell (p := ⟨bl, off + i * 3 + 2, none⟩) hbr (by simp)).trans HCA.out; clear hSw; go_simp; try with_reducible rfl)
      try simp only [Act.put, tdy]
      refine tpu (i := 24) (v := ?_) ?_ ?_
      rotate_left
      ·(intro w; go_simp; try with_reducible rfl)
      try simp only [Act.put, tdy]
      refine trd (i := 25) (v := ?_) 0 ?_ ?_
      rotate_left
      ·(intro wq hSw; (try dsimp only at hSw); have hb_H := hSw.blk HB1.out (by simp); have lb_H := hb_H.lt; have y0 := hb_H.at_ 0; have y1 := hb_H.at_ 1; have y2 := hb_H.at_ 2; simp at y0 y1 y2; clear hb_H; have hb_P := hSw.blk HP1.out (by simp); have lb_P := hb_P.lt; have p0 := hb_P.at_ 0; have p1 := hb_P.at_ 1; simp at p0 p1; clear hb_P; have t2 := (hSw.cell (p := ⟨bl, off + i * 3 + 2, none⟩) hbr (by simp)).trans HCA.out; clear hSw; go_simp; try with_reducible rfl)
      try simp only [Act.put, tdy]
      refine tpu (i := 26) (v := ?_) ?_ ?_
      rotate_left
      ·(intro w; go_simp; try with_reducible rfl)
      try simp only [Act.put, tdy]
      refine trd (i := 27) (v := ?_) 0 ?_ ?_
      rotate_left
      ·(intro wq hSw; (try dsimp only at hSw); have hb_H := hSw.blk HB1.out (by simp); have lb_H := hb_H.lt; have y0 := hb_H.at_ 0; have y1 := hb_H.at_ 1; have y2 := hb_H.at_ 2; simp at y0 y1 y2; clear hb_H; have hb_P := hSw.blk HP1.out (by simp); have lb_P := hb_P.lt; have p0 := hb_P.at_ 0; have p1 := hb_P.at_ 1; simp at p0 p1; clear hb_P; have t2 := (hSw.cell (p := ⟨bl, off + i * 3 + 2, none⟩) hbr (by simp)).trans HCA.out; clear hSw; go_simp; try with_reducible rfl)
      try simp only [Act.put, tdy]
      refine tpu (i := 28) (v := ?_) ?_ ?_
      rotate_left
      ·(intro w; go_simp; try with_reducible rfl)
      try simp only [Act.put, tdy]
      refine tpu (i := 29) (v := ?_) ?_ ?_
      rotate_left
      ·(intro w; go_simp; try with_reducible rfl)
      try simp only [Act.put, tdy]
      refine trd (i := 30) (v := ?_) 0 ?_ ?_
      rotate_left
      ·(intro wq hSw; (try dsimp only at hSw); have hb_H := hSw.blk HB1.out (by simp); have lb_H := hb_H.lt; have y0 := hb_H.at_ 0; have y1 := hb_H.at_ 1; have y2 := hb_H.at_ 2; simp at y0 y1 y2; clear hb_H; have hb_P := hSw.blk HP1.out (by simp); have lb_P := hb_P.lt; have p0 := hb_P.at_ 0; have p1 := hb_P.at_ 1; simp at p0 p1; clear hb_P; have t2 := (hSw.cell (p := ⟨bl, off + i * 3 + 2, none⟩) hbr (by simp)).trans HCA.out; clear hSw; go_simp; try with_reducible rfl)
      try simp only [Act.put, tdy]
      refine tpu (i := 31) (v := ?_) ?_ ?_
      rotate_left
      ·(intro w; go_simp; try with_reducible rfl)
      try simp only [Act.put, tdy]
      refine tpu (i := 32) (v := ?_) ?_ ?_
      rotate_left
      ·(intro w; go_simp; try with_reducible rfl)
      try simp only [Act.put, tdy]
      refine tpu (i := 33) (v := ?_) ?_ ?_
      rotate_left
      ·(intro w; go_simp; try with_reducible rfl)
      try simp only [Act.put, tdy]
      refine timed_done (by kernel_rfl) ?_ _
      refine NoPanic.normal ?_
      have HNW := Lib.hid (HO1.out.trans (((Only.refl [] w1).drew).trans O3))
      have HR3 := Lib.hid (O3.blk HR1.out.drew (by simp))
      clear O3
      go_wp2_with (refine wpList_store_blk rfl 48 (.tmp 4) (.tmp 41) rfl gr 48 _ #[.bool false, .int .i64 0, .int .i64 0, .int .i64 0] rfl rfl HR3.out rfl (by kernel_rfl) (by kernel_rfl) ?_; intro w9 b9 o9; have HB9 := Lib.hid b9; have HN9 := Lib.hid o9; clear b9 o9)
      refine bodyPost_ret (results_row2 Tryz.results39 _ _ gr 48 #[.bool false, .int .i64 0, .int .i64 0, .int .i64 0] _ rfl HB9.out Tryz.underlying48 rfl (by kernel_rfl)) rfl ?_
      exact ⟨⟨false, 0, 0, 0⟩, ⟨by rw [HE.out]; rfl, fun x hx => by rw [HE.out] at hx; cases hx⟩, HNW.out.step HN9.out (fun i hi hl => by simp at hi; have := hgr0.out; omega)⟩
     ·have d4 : decide ((t.ops.length : Int) ≤ (j : Int)) = false := decide_eq_false q4
      have d4' : decide (t.ops.length ≤ j) = false := decide_eq_false (by omega)
      have hjm : (j : Int) < (t.ops.length : Int) := by omega
      have hj0 : (0 : Int) ≤ (j : Int) := by omega
      obtain ⟨o, ho⟩ : ∃ o, t.ops[j]? = some o := ⟨_, List.getElem?_eq_getElem (by omega)⟩
      have HE : Hid (readO h (i : Int) (j : Int) = if o.wr = true then none else some (t, o)) := Lib.hid (by
       unfold readO
       rw [opAt_yes htx ho]
       rfl)
      obtain ⟨bo, oo, rfl, -, hbo, hP⟩ := row_op hOk.row ho
      have HPO := Lib.hid (hP.only HO1.out hbo (by simp))
      have hbor : bo < w1.heap.size := by omega
      obtain ⟨ow, ok, ov, on⟩ := o
      generalize t.ops.length = m at *
      dsimp only at HE HPO
      clear q1 q2 q3 q4 hx htx hm hgr hgp hOk hT ho hP
      refine wp_region_noPanic ?_
      refine wp_region_timed (F := [⟨[], [], fun w' => Only [] w1 w'⟩]) (by kernel_rfl) (timed_holds ((Only.refl [] w1).drew) (timed_nil)) ?_
      refine trd (i := 0) (v := ?_) 0 ?_ ?_
      rotate_left
      ·(intro wq hSw; (try dsimp only at hSw); have hb_H := hSw.blk HB1.out (by simp); have lb_H := hb_H.lt; have y0 := hb_H.at_ 0; have y1 := hb_H.at_ 1; have y2 := hb_H.at_ 2; simp at y0 y1 y2; clear hb_H; have hb_P := hSw.blk HP1.out (by simp); have lb_P := hb_P.lt; have p0 := hb_P.at_ 0; have p1 := hb_P.at_ 1; simp at p0 p1; clear hb_P; have t2 := (hSw.cell (p := ⟨bl, off + i * 3 + 2, none⟩) hbr (by simp)).trans HCA.out; clear hSw; go_simp; try with_reducible rfl)
      try simp only [Act.put, tdy]
      refine timed_step (i := 1) (by kernel_rfl) rfl (fun K hK => ?_)
      go_simp
      refine (HF.out _ (HO1.out.trans (Only.refl [] w1).drew)).mono ?_
      rintro e w3 ⟨rfl, O3⟩
      refine hK.out _ _ (timed_holds (((Only.refl [] w1).drew).trans O3) (timed_nil)) ?_
      clear hK K
      try simp only [Act.put, tdy]
      refine tpu (i := 2) (v := ?_) ?_ ?_
      rotate_left
      ·(intro w; go_simp; try with_reducible rfl)
      try simp only [Act.put, tdy]
      refine tpu (i := 3) (v := ?_) ?_ ?_
      rotate_left
      ·(intro w; go_simp; try with_reducible rfl)
      try simp only [Act.put, tdy]
      refine tpu (i := 4) (v := ?_) ?_ ?_
      rotate_left
      ·(intro w; go_simp; try with_reducible rfl)
      try simp only [Act.put, tdy]
      refine trd (i := 5) (v := ?_) 0 ?_ ?_
      rotate_left
      ·(intro wq hSw; (try dsimp only at hSw); have hb_H := hSw.blk HB1.out (by simp); have lb_H := hb_H.lt; have y0 := hb_H.at_ 0; have y1 := hb_H.at_ 1; have y2 := hb_H.at_ 2; simp at y0 y1 y2; clear hb_H; have hb_P := hSw.blk HP1.out (by simp); have lb_P := hb_P.lt; have p0 := hb_P.at_ 0; have p1 := hb_P.at_ 1; simp at p0 p1; clear hb_P; have t2 := (hSw.cell (p := ⟨bl, off + i * 3 + 2, none⟩) hbr (by simp)).trans HCA.out; clear hSw; go_simp; try with_reducible rfl)
      try simp only [Act.put, tdy]
      refine tpu (i := 6) (v := ?_) ?_ ?_
      rotate_left
      ·(intro w; go_simp; try with_reducible rfl)
      try simp only [Act.put, tdy]
      refine tpu (i := 7) (v := ?_) ?_ ?_
      rotate_left
      ·(intro w; go_simp; try with_reducible rfl)
      try simp only [Act.put, tdy]
      refine tpu (i := 8) (v := ?_) ?_ ?_
      rotate_left
      ·(intro w; go_simp; try with_reducible rfl)
      try simp only [Act.put, tdy]
      refine tpu (i := 9) (v := ?_) ?_ ?_
      rotate_left
      ·(intro w; go_simp; try with_reducible rfl)
      try simp only [Act.put, tdy]
      refine trd (i := 10) (v := ?_) 0 ?_ ?_
      rotate_left
      ·(intro wq hSw; (try dsimp only at hSw); have hb_H := hSw.blk HB1.out (by simp); have lb_H := hb_H.lt; have y0 := hb_H.at_ 0; have y1 := hb_H.at_ 1; have y2 := hb_H.at_ 2; simp at y0 y1 y2; clear hb_H; have hb_P := hSw.blk HP1.out (by simp); have lb_P := hb_P.lt; have p0 := hb_P.at_ 0; have p1 := hb_P.at_ 1; simp at p0 p1; clear hb_P; have t2 := (hSw.cell (p := ⟨bl, off + i * 3 + 2, none⟩) hbr (by simp)).trans HCA.out; clear hSw; go_simp; try with_reducible rfl)
      try simp only [Act.put, tdy]
      refine tpu (i := 11) (v := ?_) ?_ ?_
      rotate_left
      ·(intro w; go_simp; try with_reducible rfl)
      try simp only [Act.put, tdy]
      refine trd (i := 12) (v := ?_) 0 ?_ ?_
      rotate_left
      ·(intro wq hSw; (try dsimp only at hSw); have hb_H := hSw.blk HB1.out (by simp); have lb_H := hb_H.lt; have y0 := hb_H.at_ 0; have y1 := hb_H.at_ 1; have y2 := hb_H.at_ 2; simp at y0 y1 y2; clear hb_H; have hb_P := hSw.blk HP1.out (by simp); have lb_P := hb_P.lt; have p0 := hb_P.at_ 0; have p1 := hb_P.at_ 1; simp at p0 p1; clear hb_P; have t2 := (hSw.cell (p := ⟨bl, off + i * 3 + 2, none⟩) hbr (by simp)).trans HCA.out; clear hSw; go_simp; try with_reducible rfl)
      try simp only [Act.put, tdy]
      refine tpu (i := 13) (v := ?_) ?_ ?_
      rotate_left
      ·(intro w; go_simp; try with_reducible rfl)
      try simp only [Act.put, tdy]
      refine tpu (i := 14) (v := ?_) ?_ ?_
      rotate_left
      ·(intro w; go_simp; try with_reducible rfl)
      try simp only [Act.put, tdy]
      refine tpu (i := 15) (v := ?_) ?_ ?_
      rotate_left
      ·(intro w; go_simp; try with_reducible rfl)
      try simp only [Act.put, tdy]
      refine tpu (i := 16) (v := ?_) ?_ ?_
      rotate_left
      ·(intro w; go_simp; try with_reducible rfl)
      try simp only [Act.put, tdy]
      refine tpu (i := 17) (v := ?_) ?_ ?_
      rotate_left
      ·(intro w; go_simp; try with_reducible rfl)
      try simp only [Act.put, tdy]
      refine trd (i := 18) (v := ?_) 0 ?_ ?_
      rotate_left
      ·(intro wq hSw; (try dsimp only at hSw); have hb_H := hSw.blk HB1.out (by simp); have lb_H := hb_H.lt; have y0 := hb_H.at_ 0; have y1 := hb_H.at_ 1; have y2 := hb_H.at_ 2; simp at y0 y1 y2; clear hb_H; have hb_P := hSw.blk HP1.out (by simp); have lb_P := hb_P.lt; have p0 := hb_P.at_ 0; have p1 := hb_P.at_ 1; simp at p0 p1; clear hb_P; have t2 := (hSw.cell (p := ⟨bl, off + i * 3 + 2, none⟩) hbr (by simp)).trans HCA.out; clear hSw; go_simp; try with_reducible rfl)
      try simp only [Act.put, tdy]
      refine tpu (i := 19) (v := ?_) ?_ ?_
      rotate_left
      ·(intro w; go_simp; try with_reducible rfl)
      try simp only [Act.put, tdy]
      refine tpu (i := 20) (v := ?_) ?_ ?_
      rotate_left
      ·(intro w; go_simp; try with_reducible rfl)
      try simp only [Act.put, tdy]
      refine tpu (i := 21) (v := ?_) ?_ ?_
      rotate_left
      ·(intro w; go_simp; try with_reducible rfl)
      try simp only [Act.put, tdy]
      refine tpu (i := 22) (v := ?_) ?_ ?_
      rotate_left
      ·(intro w; go_simp; try with_reducible rfl)
      try simp only [Act.put, tdy]
      refine trd (i := 23) (v := ?_) 0 ?_ ?_
      rotate_left
      ·(intro wq hSw; (try dsimp only at hSw); have hb_H := hSw.blk HB1.out (by simp); have lb_H := hb_H.lt; have y0 := hb_H.at_ 0; have y1 := hb_H.at_ 1; have y2 := hb_H.at_ 2; simp at y0 y1 y2; clear hb_H; have hb_P := hSw.blk HP1.out (by simp); have lb_P := hb_P.lt; have p0 := hb_P.at_ 0; have p1 := hb_P.at_ 1; simp at p0 p1; clear hb_P; have t2 := (hSw.cell (p := ⟨bl, off + i * 3 + 2, none⟩) hbr (by simp)).trans HCA.out; clear hSw; go_simp; try with_reducible rfl)
      try simp only [Act.put, tdy]
      refine tpu (i := 24) (v := ?_) ?_ ?_
      rotate_left
      ·(intro w; go_simp; try with_reducible rfl)
      try simp only [Act.put, tdy]
      refine trd (i := 25) (v := ?_) 0 ?_ ?_
      rotate_left
      ·(intro wq hSw; (try dsimp only at hSw); have hb_H := hSw.blk HB1.out (by simp); have lb_H := hb_H.lt; have y0 := hb_H.at_ 0; have y1 := hb_H.at_ 1; have y2 := hb_H.at_ 2; simp at y0 y1 y2; clear hb_H; have hb_P := hSw.blk HP1.out (by simp); have lb_P := hb_P.lt; have p0 := hb_P.at_ 0; have p1 := hb_P.at_ 1; simp at p0 p1; clear hb_P; have t2 := (hSw.cell (p := ⟨bl, off + i * 3 + 2, none⟩) hbr (by simp)).trans HCA.out; clear hSw; go_simp; try with_reducible rfl)
      try simp only [Act.put, tdy]
      refine tpu (i := 26) (v := ?_) ?_ ?_
      rotate_left
      ·(intro w; go_simp; try with_reducible rfl)
      try simp only [Act.put, tdy]
      refine trd (i := 27) (v := ?_) 0 ?_ ?_
      rotate_left
      ·(intro wq hSw; (try dsimp only at hSw); have hb_H := hSw.blk HB1.out (by simp); have lb_H := hb_H.lt; have y0 := hb_H.at_ 0; have y1 := hb_H.at_ 1; have y2 := hb_H.at_ 2; simp at y0 y1 y2; clear hb_H; have hb_P := hSw.blk HP1.out (by simp); have lb_P := hb_P.lt; have p0 := hb_P.at_ 0; have p1 := hb_P.at_ 1; simp at p0 p1; clear hb_P; have t2 := (hSw.cell (p := ⟨bl, off + i * 3 + 2, none⟩) hbr (by simp)).trans HCA.out; clear hSw; go_simp; try with_reducible rfl)
      try simp only [Act.put, tdy]
      refine tpu (i := 28) (v := ?_) ?_ ?_
      rotate_left
      ·(intro w; go_simp; try with_reducible rfl)
      try simp only [Act.put, tdy]
      refine tpu (i := 29) (v := ?_) ?_ ?_
      rotate_left
      ·(intro w; go_simp; try with_reducible rfl)
      try simp only [Act.put, tdy]
      refine trd (i := 30) (v := ?_) 0 ?_ ?_
      rotate_left
      ·(intro wq hSw; (try dsimp only at hSw); have hb_H := hSw.blk HB1.out (by simp); have lb_H := hb_H.lt; have y0 := hb_H.at_ 0; have y1 := hb_H.at_ 1; have y2 := hb_H.at_ 2; simp at y0 y1 y2; clear hb_H; have hb_P := hSw.blk HP1.out (by simp); have lb_P := hb_P.lt; have p0 := hb_P.at_ 0; have p1 := hb_P.at_ 1; simp at p0 p1; clear hb_P; have t2 := (hSw.cell (p := ⟨bl, off + i * 3 + 2, none⟩) hbr (by simp)).trans HCA.out; clear hSw; go_simp; try with_reducible rfl)
      try simp only [Act.put, tdy]
      refine tpu (i := 31) (v := ?_) ?_ ?_
      rotate_left
      ·(intro w; go_simp; try with_reducible rfl)
      try simp only [Act.put, tdy]
      refine tpu (i := 32) (v := ?_) ?_ ?_
      rotate_left
      ·(intro w; go_simp; try with_reducible rfl)
      try simp only [Act.put, tdy]
      refine tpu (i := 33) (v := ?_) ?_ ?_
      rotate_left
      ·(intro w; go_simp; try with_reducible rfl)
      try simp only [Act.put, tdy]
      refine timed_done (by kernel_rfl) ?_ _
      refine NoPanic.normal ?_
      have HNW := Lib.hid (HO1.out.trans (((Only.refl [] w1).drew).trans O3))
      have HR3 := Lib.hid (O3.blk HR1.out.drew (by simp))
      have HB3 := Lib.hid (O3.blk HB1.out.drew (by simp))
      have HP3 := Lib.hid (O3.blk HP1.out.drew (by simp))
      have HCA3 := Lib.hid ((O3.cell (p := ⟨bl, off + i * 3 + 2, none⟩) hbr (by simp)).trans HCA.out)
      have HPO3 := Lib.hid ((HPO.out.only ((Only.refl [] w1).drew) hbor (by simp)).only O3 hbor (by simp))
      have hbr3 : bl < w3.heap.size := by have := O3.size; have h2 : w1.drew.heap.size = w1.heap.size := rfl; omega
      have hbor3 : bo < w3.heap.size := by have := O3.size; have h2 : w1.drew.heap.size = w1.heap.size := rfl; omega
      have hgz : g ≤ w3.heap.size := by have := O3.size; have h2 : w1.drew.heap.size = w1.heap.size := rfl; omega
      clear O3 HR1 HB1 HP1 HCA HPO HF hbr hbor HO1 HL HN2
      go_upto_region 3 with (fail)
      refine wp_region_noPanic ?_
      refine wp_region_timed (F := [⟨[], [], fun w' => Only [] w3 w'⟩]) (by kernel_rfl) (timed_holds ((Only.refl [] w3).drew) (timed_nil)) ?_
      have OW : Only [] w3 w3.drew := (Only.refl [] w3).drew
      have HGV9 : w3.heap.size ≤ w3.drew.heap.size := OW.size
      generalize hwz : w3.drew = wz at *
      clear hwz
      refine tpu (i := 0) (v := ?_) ?_ ?_
      rotate_left
      ·(intro w; go_simp; try with_reducible rfl)
      try simp only [Act.put, tdy]
      refine trd (i := 1) (v := ?_) 0 ?_ ?_
      rotate_left
      ·(intro wq hSw; (try dsimp only at hSw); have hb_H := hSw.blk HB3.out (by simp); have lb_H := hb_H.lt; have y0 := hb_H.at_ 0; have y1 := hb_H.at_ 1; have y2 := hb_H.at_ 2; simp at y0 y1 y2; clear hb_H; have hb_P := hSw.blk HP3.out (by simp); have lb_P := hb_P.lt; have p0 := hb_P.at_ 0; have p1 := hb_P.at_ 1; simp at p0 p1; clear hb_P; have t2 := (hSw.cell (p := ⟨bl, off + i * 3 + 2, none⟩) hbr3 (by simp)).trans HCA3.out; have hpo := HPO3.out.only hSw hbor3 (by simp); have r0 := hpo.c0; have r1 := hpo.c1; have r2 := hpo.c2; have r3 := hpo.c3; dsimp only at r0 r1 r2 r3; clear hpo; clear hSw; go_simp; try with_reducible rfl)
      try simp only [Act.put, tdy]
      refine tpu (i := 2) (v := ?_) ?_ ?_
      rotate_left
      ·(intro w; go_simp; try with_reducible rfl)
      try simp only [Act.put, tdy]
      refine trd (i := 3) (v := ?_) 0 ?_ ?_
      rotate_left
      ·(intro wq hSw; (try dsimp only at hSw); have hb_H := hSw.blk HB3.out (by simp); have lb_H := hb_H.lt; have y0 := hb_H.at_ 0; have y1 := hb_H.at_ 1; have y2 := hb_H.at_ 2; simp at y0 y1 y2; clear hb_H; have hb_P := hSw.blk HP3.out (by simp); have lb_P := hb_P.lt; have p0 := hb_P.at_ 0; have p1 := hb_P.at_ 1; simp at p0 p1; clear hb_P; have t2 := (hSw.cell (p := ⟨bl, off + i * 3 + 2, none⟩) hbr3 (by simp)).trans HCA3.out; have hpo := HPO3.out.only hSw hbor3 (by simp); have r0 := hpo.c0; have r1 := hpo.c1; have r2 := hpo.c2; have r3 := hpo.c3; dsimp only at r0 r1 r2 r3; clear hpo; clear hSw; go_simp; try with_reducible rfl)
      try simp only [Act.put, tdy]
      refine tpu (i := 4) (v := ?_) ?_ ?_
      rotate_left
      ·(intro w; go_simp; try with_reducible rfl)
      try simp only [Act.put, tdy]
      refine tpu (i := 5) (v := ?_) ?_ ?_
      rotate_left
      ·(intro w; go_simp; try with_reducible rfl)
      try simp only [Act.put, tdy]
      refine trd (i := 6) (v := ?_) 0 ?_ ?_
      rotate_left
      ·(intro wq hSw; (try dsimp only at hSw); have hb_H := hSw.blk HB3.out (by simp); have lb_H := hb_H.lt; have y0 := hb_H.at_ 0; have y1 := hb_H.at_ 1; have y2 := hb_H.at_ 2; simp at y0 y1 y2; clear hb_H; have hb_P := hSw.blk HP3.out (by simp); have lb_P := hb_P.lt; have p0 := hb_P.at_ 0; have p1 := hb_P.at_ 1; simp at p0 p1; clear hb_P; have t2 := (hSw.cell (p := ⟨bl, off + i * 3 + 2, none⟩) hbr3 (by simp)).trans HCA3.out; have hpo := HPO3.out.only hSw hbor3 (by simp); have r0 := hpo.c0; have r1 := hpo.c1; have r2 := hpo.c2; have r3 := hpo.c3; dsimp only at r0 r1 r2 r3; clear hpo; clear hSw; go_simp; try with_reducible rfl)
      try simp only [Act.put, tdy]
      refine tpu (i := 7) (v := ?_) ?_ ?_
      rotate_left
      ·(intro w; go_simp; try with_reducible rfl)
      try simp only [Act.put, tdy]
      refine trd (i := 8) (v := ?_) 0 ?_ ?_
      rotate_left
      ·(intro wq hSw; (try dsimp only at hSw); have hb_H := hSw.blk HB3.out (by simp); have lb_H := hb_H.lt; have y0 := hb_H.at_ 0; have y1 := hb_H.at_ 1; have y2 := hb_H.at_ 2; simp at y0 y1 y2; clear hb_H; have hb_P := hSw.blk HP3.out (by simp); have lb_P := hb_P.lt; have p0 := hb_P.at_ 0; have p1 := hb_P.at_ 1; simp at p0 p1; clear hb_P; have t2 := (hSw.cell (p := ⟨bl, off + i * 3 + 2, none⟩) hbr3 (by simp)).trans HCA3.out; have hpo := HPO3.out.only hSw hbor3 (by simp); have r0 := hpo.c0; have r1 := hpo.c1; have r2 := hpo.c2; have r3 := hpo.c3; dsimp only at r0 r1 r2 r3; clear hpo; clear hSw; go_simp; try with_reducible rfl)
      try simp only [Act.put, tdy]
      refine tpu (i := 9) (v := ?_) ?_ ?_
      rotate_left
      ·(intro w; go_simp; try with_reducible rfl)
      try simp only [Act.put, tdy]
      refine trd (i := 10) (v := ?_) 0 ?_ ?_
      rotate_left
      ·(intro wq hSw; (try dsimp only at hSw); have hb_H := hSw.blk HB3.out (by simp); have lb_H := hb_H.lt; have y0 := hb_H.at_ 0; have y1 := hb_H.at_ 1; have y2 := hb_H.at_ 2; simp at y0 y1 y2; clear hb_H; have hb_P := hSw.blk HP3.out (by simp); have lb_P := hb_P.lt; have p0 := hb_P.at_ 0; have p1 := hb_P.at_ 1; simp at p0 p1; clear hb_P; have t2 := (hSw.cell (p := ⟨bl, off + i * 3 + 2, none⟩) hbr3 (by simp)).trans HCA3.out; have hpo := HPO3.out.only hSw hbor3 (by simp); have r0 := hpo.c0; have r1 := hpo.c1; have r2 := hpo.c2; have r3 := hpo.c3; dsimp only at r0 r1 r2 r3; clear hpo; clear hSw; go_simp; try with_reducible rfl)
      try simp only [Act.put, tdy]
      refine timed_step (i := 11) (by kernel_rfl) rfl (fun K hK => ?_)
      go_simp
      have BL8 := Blk.made wz 48 #[.bool false, .int .i64 0, .int .i64 0, .int .i64 0]
      have OW1 := OW.alloc (.cells #[.bool false, .int .i64 0, .int .i64 0, .int .i64 0] 48)
      generalize wz.alloc (.cells #[.bool false, .int .i64 0, .int .i64 0, .int .i64 0] 48) = w8 at *
      generalize wz.heap.size = g8 at *
      refine hK.out _ _ (timed_holds (OW1) (timed_nil)) ?_
      clear hK K
      try simp only [Act.put, tdy]
      refine timed_step (i := 12) (by kernel_rfl) rfl (fun K hK => ?_)
      refine wp_store_blk 48 (.tmp 6) (.tmp 52) rfl g8 48 _ #[.bool ow, .int .i64 ok, .int .i64 ov, .int .i64 on] rfl rfl BL8 rfl (by kernel_rfl) (by kernel_rfl) ?_
      intro w9 b9 o9
      have HG9 := Lib.hid b9
      have OW9 := OW1.step o9 (fun i hi hl => by simp at hi; omega)
      clear o9 b9
      refine hK.out _ _ (timed_holds (OW9) (timed_nil)) ?_
      clear hK K
      try simp only [Act.put, tdy]
      refine timed_done (by kernel_rfl) ?_ _
      refine NoPanic.normal ?_
      have HW9 := Lib.hid OW9
      clear OW OW1 BL8 OW9
      have HR9 := Lib.hid (HW9.out.blk HR3.out (by simp))
      have HN9 := Lib.hid (HNW.out.trans HW9.out)
      have hne : gr < w3.heap.size := HR3.out.lt
      have hgr8 : Hid (w3.heap.size ≤ g8) := Lib.hid HGV9
      clear HR3 HB3 HP3 HCA3 HPO3 hbr3 hbor3 HNW HW9 HGV9
      go_upto_region 4 with (fail)
      refine wp_region_noPanic ?_
      refine wp_region_timed (F := [⟨[], [], fun w' => Only [gr] w9 w'⟩]) (by kernel_rfl) (timed_holds ((Only.refl [gr] w9).drew) (timed_nil)) ?_
      refine trd (i := 0) (v := ?_) 0 ?_ ?_
      rotate_left
      ·(intro wq hSw; (try dsimp only at hSw); have hb_U := hSw.blk HG9.out (by simp; have := hgr8.out; omega); have lb_U := hb_U.lt; have u0 := hb_U.at_ 0; have u1 := hb_U.at_ 1; have u2 := hb_U.at_ 2; have u3 := hb_U.at_ 3; simp at u0 u1 u2 u3; clear hb_U; clear hSw; go_simp; try with_reducible rfl)
      try simp only [Act.put, tdy]
      refine tpu (i := 1) (v := ?_) ?_ ?_
      rotate_left
      ·(intro w; go_simp; try with_reducible rfl)
      try simp only [Act.put, tdy]
      refine trd (i := 2) (v := ?_) 0 ?_ ?_
      rotate_left
      ·(intro wq hSw; (try dsimp only at hSw); have hb_U := hSw.blk HG9.out (by simp; have := hgr8.out; omega); have lb_U := hb_U.lt; have u0 := hb_U.at_ 0; have u1 := hb_U.at_ 1; have u2 := hb_U.at_ 2; have u3 := hb_U.at_ 3; simp at u0 u1 u2 u3; clear hb_U; clear hSw; go_simp; try with_reducible rfl)
      try simp only [Act.put, tdy]
      refine tpu (i := 3) (v := ?_) ?_ ?_
      rotate_left
      ·(intro w; go_simp; try with_reducible rfl)
      try simp only [Act.put, tdy]
      refine timed_step (i := 4) (by kernel_rfl) rfl (fun K hK => ?_)
      refine wp_store_blk 48 (.tmp 4) (.tmp 53) rfl gr 48 _ #[.bool ow, .int .i64 ok, .int .i64 ov, .int .i64 on] rfl rfl HR9.out rfl (by kernel_rfl) (by kernel_rfl) ?_
      intro w5 b5 o5
      have HB5 := Lib.hid b5
      refine hK.out _ _ (timed_holds (((Only.refl [gr] w9).drew.trans o5)) (timed_nil)) ?_
      clear hK K
      try simp only [Act.put, tdy]
      refine tpu (i := 5) (v := ?_) ?_ ?_
      rotate_left
      ·(intro w; go_simp; try with_reducible rfl)
      try simp only [Act.put, tdy]
      refine timed_done (by kernel_rfl) ?_ _
      refine NoPanic.normal ?_
      have HNW := Lib.hid ( (((Only.refl [gr] w9).drew.trans o5)))
      go_wp2_with fail
      refine bodyPost_ret (results_row2 Tryz.results39 _ _ gr 48 #[.bool ow, .int .i64 ok, .int .i64 ov, .int .i64 on] _ rfl HB5.out Tryz.underlying48 rfl (by kernel_rfl)) rfl ?_
      exact ⟨⟨ow, ok, ov, on⟩, ⟨by rw [HE.out]; cases ow <;> rfl, fun x hx => by rw [HE.out] at hx; cases ow <;> simp at hx; subst hx; rfl⟩, HN9.out.step HNW.out (fun i hi hl => by simp at hi; have := hgr0.out; omega)⟩
end Go.Proofs.YtjfbeeogiejopaaGreatDoor
