/- The document's inner: Outer. -/
import Derived.Test.YtjhomlnlmpdklaaGreatDoorInnerTellsCardK43
import Derived.Test.YtjhomlnlmpdklaaGreatDoorInnerTellsCardK9
set_option linter.unusedVariables false
set_option linter.unusedSimpArgs false
namespace Go.Proofs.YtjhomlnlmpdklaaGreatDoor
open Go.RowKit
open Go.Lib hiding intOf
attribute [local go_sem ↓] Go.wp_at_zero Go.wp_at_succ
set_option maxRecDepth 10000 in
set_option maxHeartbeats 4000000 in
theorem router_any (A0 A1 A2 : Option Addr) (n0 n1 n2 c0 c1 c2 B : Nat) (h : Hst) (a b : Int) (w : World) (hg : HIn w B A0 A1 A2 n0 n1 n2 h) :
  Calls Tryz.prog 13 #[hval A0 A1 A2 n0 n1 n2 c0 c1 c2, .agg #[.int .i64 a, .int .i64 b]] w fun e w' => e = .returned (.bool (outerB h a b)) ∧ Only [] w w' := by
 have HTH := Lib.hid (fun w' (O : Only [] w w') => rthere_any A0 A1 A2 n0 n1 n2 c0 c1 c2 B h a b w' (hg.same O))
 have HL := Lib.hid hg.at_.r2
 have HN2 := Lib.hid hg.n2
 have HNO := Lib.hid hg.sm.no
 have HOW := Lib.hid (fun w' (O : Only [] w w') => rown_any A0 A1 A2 n0 n1 n2 c0 c1 c2 B h a b w' (hg.same O))
 unfold hval at HTH HOW ⊢
 clear hg
 have HO1 := Lib.hid (((Only.refl [] w).alloc (.cells #[.slice A0 n0 c0, .slice A1 n1 c1, .slice A2 n2 c2] 25)).alloc (.cells #[.int .i64 a, .int .i64 b] 27))
 have HB1 := Lib.hid ((Blk.made w 25 #[.slice A0 n0 c0, .slice A1 n1 c1, .slice A2 n2 c2]).alloc (.cells #[.int .i64 a, .int .i64 b] 27))
 have HP1 := Lib.hid (Blk.made (w.alloc (.cells #[.slice A0 n0 c0, .slice A1 n1 c1, .slice A2 n2 c2] 25)) 27 #[.int .i64 a, .int .i64 b])
 simp only [World.size_alloc] at HP1
 cases ho : opAtH h a b with
 | none =>
  rw [outer_none ho]
  have HF := HTH
  rw [there_none ho] at HF
  clear ho HTH
  go_enter Tryz.func13, Tryz.ntmps13
  go_wp2_with fail
  generalize ((w.alloc (.cells #[.slice A0 n0 c0, .slice A1 n1 c1, .slice A2 n2 c2] 25)).alloc (.cells #[.int .i64 a, .int .i64 b] 27)) = w1 at *
  generalize hgp : w.heap.size + 1 = gp at *
  generalize hgg : w.heap.size = g at *
  refine wp_region_noPanic ?_
  refine wp_region_timed (F := [⟨[], [], fun w' => Only [] w1 w'⟩]) (by kernel_rfl) (timed_holds ((Only.refl [] w1).drew) (timed_nil)) ?_
  refine timed_read (i := 0) (v := ?_) 0 rfl (by kernel_rfl) (by kernel_rfl) (by kernel_rfl) (fun _ _ _ h => h) (by kernel_rfl) (by kernel_rfl) rfl (by kernel_rfl) ?_ ?_
  rotate_left
  ·(intro wq hSw; (try dsimp only at hSw); have hb_H := hSw.blk HB1.out (by simp); have lb_H := hb_H.lt; have y0 := hb_H.at_ 0; have y1 := hb_H.at_ 1; have y2 := hb_H.at_ 2; simp at y0 y1 y2; clear hb_H; have hb_P := hSw.blk HP1.out (by simp); have lb_P := hb_P.lt; have p0 := hb_P.at_ 0; have p1 := hb_P.at_ 1; simp at p0 p1; clear hb_P; clear hSw; go_simp; try with_reducible rfl)
  try simp only [Act.put, tdy]
  refine timed_read (i := 1) (v := ?_) 0 rfl (by kernel_rfl) (by kernel_rfl) (by kernel_rfl) (fun _ _ _ h => h) (by kernel_rfl) (by kernel_rfl) rfl (by kernel_rfl) ?_ ?_
  rotate_left
  ·(intro wq hSw; (try dsimp only at hSw); have hb_H := hSw.blk HB1.out (by simp); have lb_H := hb_H.lt; have y0 := hb_H.at_ 0; have y1 := hb_H.at_ 1; have y2 := hb_H.at_ 2; simp at y0 y1 y2; clear hb_H; have hb_P := hSw.blk HP1.out (by simp); have lb_P := hb_P.lt; have p0 := hb_P.at_ 0; have p1 := hb_P.at_ 1; simp at p0 p1; clear hb_P; clear hSw; go_simp; try with_reducible rfl)
  try simp only [Act.put, tdy]
  refine timed_step (i := 2) (by kernel_rfl) rfl (fun K hK => ?_)
  go_simp
  refine (HF.out _ (HO1.out.trans (Only.refl [] w1).drew)).mono ?_
  rintro e w3 ⟨rfl, O3⟩
  refine hK.out _ _ (timed_holds (((Only.refl [] w1).drew).trans O3) (timed_nil)) ?_
  clear hK K
  try simp only [Act.put, tdy]
  refine timed_pure (i := 3) (v := ?_) rfl (by kernel_rfl) (by kernel_rfl) (by kernel_rfl) (fun _ _ _ h => h) (by kernel_rfl) (by kernel_rfl) ?_ ?_
  rotate_left
  ·(intro w; go_simp; try with_reducible rfl)
  try simp only [Act.put, tdy]
  refine timed_pure (i := 4) (v := ?_) rfl (by kernel_rfl) (by kernel_rfl) (by kernel_rfl) (fun _ _ _ h => h) (by kernel_rfl) (by kernel_rfl) ?_ ?_
  rotate_left
  ·(intro w; go_simp; try with_reducible rfl)
  try simp only [Act.put, tdy]
  refine timed_idle (i := 5) rfl (by kernel_rfl) (by kernel_rfl) (by kernel_rfl) (fun _ _ _ h => h) (by kernel_rfl) (by kernel_rfl) ?_
  try simp only [Act.put, tdy]
  refine timed_idle (i := 6) rfl (by kernel_rfl) (by kernel_rfl) (by kernel_rfl) (fun _ _ _ h => h) (by kernel_rfl) (by kernel_rfl) ?_
  try simp only [Act.put, tdy]
  refine timed_idle (i := 7) rfl (by kernel_rfl) (by kernel_rfl) (by kernel_rfl) (fun _ _ _ h => h) (by kernel_rfl) (by kernel_rfl) ?_
  try simp only [Act.put, tdy]
  refine timed_idle (i := 8) rfl (by kernel_rfl) (by kernel_rfl) (by kernel_rfl) (fun _ _ _ h => h) (by kernel_rfl) (by kernel_rfl) ?_
  try simp only [Act.put, tdy]
  refine timed_idle (i := 9) rfl (by kernel_rfl) (by kernel_rfl) (by kernel_rfl) (fun _ _ _ h => h) (by kernel_rfl) (by kernel_rfl) ?_
  try simp only [Act.put, tdy]
  refine timed_idle (i := 10) rfl (by kernel_rfl) (by kernel_rfl) (by kernel_rfl) (fun _ _ _ h => h) (by kernel_rfl) (by kernel_rfl) ?_
  try simp only [Act.put, tdy]
  refine timed_idle (i := 11) rfl (by kernel_rfl) (by kernel_rfl) (by kernel_rfl) (fun _ _ _ h => h) (by kernel_rfl) (by kernel_rfl) ?_
  try simp only [Act.put, tdy]
  refine timed_idle (i := 12) rfl (by kernel_rfl) (by kernel_rfl) (by kernel_rfl) (fun _ _ _ h => h) (by kernel_rfl) (by kernel_rfl) ?_
  try simp only [Act.put, tdy]
  refine timed_idle (i := 13) rfl (by kernel_rfl) (by kernel_rfl) (by kernel_rfl) (fun _ _ _ h => h) (by kernel_rfl) (by kernel_rfl) ?_
  try simp only [Act.put, tdy]
  refine timed_idle (i := 14) rfl (by kernel_rfl) (by kernel_rfl) (by kernel_rfl) (fun _ _ _ h => h) (by kernel_rfl) (by kernel_rfl) ?_
  try simp only [Act.put, tdy]
  refine timed_idle (i := 15) rfl (by kernel_rfl) (by kernel_rfl) (by kernel_rfl) (fun _ _ _ h => h) (by kernel_rfl) (by kernel_rfl) ?_
  try simp only [Act.put, tdy]
  refine timed_idle (i := 16) rfl (by kernel_rfl) (by kernel_rfl) (by kernel_rfl) (fun _ _ _ h => h) (by kernel_rfl) (by kernel_rfl) ?_
  try simp only [Act.put, tdy]
  refine timed_pure (i := 17) (v := ?_) rfl (by kernel_rfl) (by kernel_rfl) (by kernel_rfl) (fun _ _ _ h => h) (by kernel_rfl) (by kernel_rfl) ?_ ?_
  rotate_left
  ·(intro w; go_simp; try with_reducible rfl)
  try simp only [Act.put, tdy]
  refine timed_done (by kernel_rfl) ?_ _
  refine NoPanic.normal ?_
  have HNW := Lib.hid (HO1.out.trans (((Only.refl [] w1).drew).trans O3))
  go_wp2
  go_ret
  exact ⟨rfl, HNW.out⟩
 | some x =>
  obtain ⟨t, o⟩ := x
  have HF := HTH
  rw [there_some ho] at HF
  have HOV : Hid (outerB h a b = (!o.wr && !(ownO h a b).isSome)) := Lib.hid (by rw [outer_some ho, own_some ho])
  obtain ⟨r, hr⟩ : ∃ r, r = outerB h a b := ⟨_, rfl⟩
  rw [← hr]
  rw [← hr] at HOV
  obtain ⟨i, j, rfl, rfl, hx, hj⟩ := opAt_inv ho
  obtain ⟨bl, off, A', cp, rfl, -, hbw, hT, hOk⟩ := HL.out.at_ hx
  have hi2 : i < n2 := by rw [← HN2.out]; exact (List.getElem?_eq_some_iff.1 hx).1
  have hjl := (List.getElem?_eq_some_iff.1 hj).1
  have HT := Lib.hid (hT.only HO1.out hbw (by simp)).c2
  obtain ⟨bo, oo, rfl, -, hbo, hP⟩ := row_op hOk.row hj
  have HPO := Lib.hid (hP.only HO1.out hbo (by simp)).c0
  dsimp only at HT
  generalize ownO h (i : Int) (j : Int) = v at *
  generalize o.wr = ow at *
  generalize hmm : t.ops.length = m at *
  have hi0 : (0 : Int) ≤ (i : Int) := by omega
  have hj0 : (0 : Int) ≤ (j : Int) := by omega
  have hi2' : (i : Int) < (n2 : Int) := by omega
  have hjm : (j : Int) < (m : Int) := by omega
  clear ho HTH hx hj hT hOk hP hr
  cases ow with
  | true =>
   go_enter Tryz.func13, Tryz.ntmps13
   go_wp2_with fail
   generalize ((w.alloc (.cells #[.slice A0 n0 c0, .slice A1 n1 c1, .slice (some ⟨bl, off, none⟩) n2 c2] 25)).alloc (.cells #[.int .i64 (i : Int), .int .i64 (j : Int)] 27)) = w1 at *
   have hbr : bl < w1.heap.size := by have := HO1.out.size; omega
   have hbor : bo < w1.heap.size := by have := HO1.out.size; omega
   generalize hgp : w.heap.size + 1 = gp at *
   generalize hgg : w.heap.size = g at *
   refine wp_region_noPanic ?_
   refine wp_region_timed (F := [⟨[], [], fun w' => Only [] w1 w'⟩]) (by kernel_rfl) (timed_holds ((Only.refl [] w1).drew) (timed_nil)) ?_
   refine timed_read (i := 0) (v := ?_) 0 rfl (by kernel_rfl) (by kernel_rfl) (by kernel_rfl) (fun _ _ _ h => h) (by kernel_rfl) (by kernel_rfl) rfl (by kernel_rfl) ?_ ?_
   rotate_left
   ·(intro wq hSw; (try dsimp only at hSw); have hb_H := hSw.blk HB1.out (by simp); have lb_H := hb_H.lt; have y0 := hb_H.at_ 0; have y1 := hb_H.at_ 1; have y2 := hb_H.at_ 2; simp at y0 y1 y2; clear hb_H; have hb_P := hSw.blk HP1.out (by simp); have lb_P := hb_P.lt; have p0 := hb_P.at_ 0; have p1 := hb_P.at_ 1; simp at p0 p1; clear hb_P; have t2 := (hSw.cell (p := ⟨bl, off + i * 3 + 2, none⟩) hbr (by simp)).trans HT.out; have q0 := (hSw.cell (p := ⟨bo, oo + j * 4, none⟩) hbor (by simp)).trans HPO.out; clear hSw; go_simp; try with_reducible rfl)
   try simp only [Act.put, tdy]
   refine timed_read (i := 1) (v := ?_) 0 rfl (by kernel_rfl) (by kernel_rfl) (by kernel_rfl) (fun _ _ _ h => h) (by kernel_rfl) (by kernel_rfl) rfl (by kernel_rfl) ?_ ?_
   rotate_left
   ·(intro wq hSw; (try dsimp only at hSw); have hb_H := hSw.blk HB1.out (by simp); have lb_H := hb_H.lt; have y0 := hb_H.at_ 0; have y1 := hb_H.at_ 1; have y2 := hb_H.at_ 2; simp at y0 y1 y2; clear hb_H; have hb_P := hSw.blk HP1.out (by simp); have lb_P := hb_P.lt; have p0 := hb_P.at_ 0; have p1 := hb_P.at_ 1; simp at p0 p1; clear hb_P; have t2 := (hSw.cell (p := ⟨bl, off + i * 3 + 2, none⟩) hbr (by simp)).trans HT.out; have q0 := (hSw.cell (p := ⟨bo, oo + j * 4, none⟩) hbor (by simp)).trans HPO.out; clear hSw; go_simp; try with_reducible rfl)
   try simp only [Act.put, tdy]
   refine timed_step (i := 2) (by kernel_rfl) rfl (fun K hK => ?_)
   go_simp
   refine (HF.out _ (HO1.out.trans (Only.refl [] w1).drew)).mono ?_
   rintro e w3 ⟨rfl, O3⟩
   refine hK.out _ _ (timed_holds (((Only.refl [] w1).drew).trans O3) (timed_nil)) ?_
   clear hK K
   try simp only [Act.put, tdy]
   refine timed_pure (i := 3) (v := ?_) rfl (by kernel_rfl) (by kernel_rfl) (by kernel_rfl) (fun _ _ _ h => h) (by kernel_rfl) (by kernel_rfl) ?_ ?_
   rotate_left
   ·(intro w; go_simp; try with_reducible rfl)
   try simp only [Act.put, tdy]
   refine timed_pure (i := 4) (v := ?_) rfl (by kernel_rfl) (by kernel_rfl) (by kernel_rfl) (fun _ _ _ h => h) (by kernel_rfl) (by kernel_rfl) ?_ ?_
   rotate_left
   ·(intro w; go_simp; try with_reducible rfl)
   try simp only [Act.put, tdy]
   refine timed_pure (i := 5) (v := ?_) rfl (by kernel_rfl) (by kernel_rfl) (by kernel_rfl) (fun _ _ _ h => h) (by kernel_rfl) (by kernel_rfl) ?_ ?_
   rotate_left
   ·(intro w; go_simp; try with_reducible rfl)
   try simp only [Act.put, tdy]
   refine timed_read (i := 6) (v := ?_) 0 rfl (by kernel_rfl) (by kernel_rfl) (by kernel_rfl) (fun _ _ _ h => h) (by kernel_rfl) (by kernel_rfl) rfl (by kernel_rfl) ?_ ?_
   rotate_left
   ·(intro wq hSw; (try dsimp only at hSw); have hb_H := hSw.blk HB1.out (by simp); have lb_H := hb_H.lt; have y0 := hb_H.at_ 0; have y1 := hb_H.at_ 1; have y2 := hb_H.at_ 2; simp at y0 y1 y2; clear hb_H; have hb_P := hSw.blk HP1.out (by simp); have lb_P := hb_P.lt; have p0 := hb_P.at_ 0; have p1 := hb_P.at_ 1; simp at p0 p1; clear hb_P; have t2 := (hSw.cell (p := ⟨bl, off + i * 3 + 2, none⟩) hbr (by simp)).trans HT.out; have q0 := (hSw.cell (p := ⟨bo, oo + j * 4, none⟩) hbor (by simp)).trans HPO.out; clear hSw; go_simp; try with_reducible rfl)
   try simp only [Act.put, tdy]
   refine timed_pure (i := 7) (v := ?_) rfl (by kernel_rfl) (by kernel_rfl) (by kernel_rfl) (fun _ _ _ h => h) (by kernel_rfl) (by kernel_rfl) ?_ ?_
   rotate_left
   ·(intro w; go_simp; try with_reducible rfl)
   try simp only [Act.put, tdy]
   refine timed_read (i := 8) (v := ?_) 0 rfl (by kernel_rfl) (by kernel_rfl) (by kernel_rfl) (fun _ _ _ h => h) (by kernel_rfl) (by kernel_rfl) rfl (by kernel_rfl) ?_ ?_
   rotate_left
   ·(intro wq hSw; (try dsimp only at hSw); have hb_H := hSw.blk HB1.out (by simp); have lb_H := hb_H.lt; have y0 := hb_H.at_ 0; have y1 := hb_H.at_ 1; have y2 := hb_H.at_ 2; simp at y0 y1 y2; clear hb_H; have hb_P := hSw.blk HP1.out (by simp); have lb_P := hb_P.lt; have p0 := hb_P.at_ 0; have p1 := hb_P.at_ 1; simp at p0 p1; clear hb_P; have t2 := (hSw.cell (p := ⟨bl, off + i * 3 + 2, none⟩) hbr (by simp)).trans HT.out; have q0 := (hSw.cell (p := ⟨bo, oo + j * 4, none⟩) hbor (by simp)).trans HPO.out; clear hSw; go_simp; try with_reducible rfl)
   try simp only [Act.put, tdy]
   refine timed_pure (i := 9) (v := ?_) rfl (by kernel_rfl) (by kernel_rfl) (by kernel_rfl) (fun _ _ _ h => h) (by kernel_rfl) (by kernel_rfl) ?_ ?_
   rotate_left
   ·(intro w; go_simp; try with_reducible rfl)
   try simp only [Act.put, tdy]
   refine timed_pure (i := 10) (v := ?_) rfl (by kernel_rfl) (by kernel_rfl) (by kernel_rfl) (fun _ _ _ h => h) (by kernel_rfl) (by kernel_rfl) ?_ ?_
   rotate_left
   ·(intro w; go_simp; try with_reducible rfl)
   try simp only [Act.put, tdy]
   refine timed_read (i := 11) (v := ?_) 0 rfl (by kernel_rfl) (by kernel_rfl) (by kernel_rfl) (fun _ _ _ h => h) (by kernel_rfl) (by kernel_rfl) rfl (by kernel_rfl) ?_ ?_
   rotate_left
   ·(intro wq hSw; (try dsimp only at hSw); have hb_H := hSw.blk HB1.out (by simp); have lb_H := hb_H.lt; have y0 := hb_H.at_ 0; have y1 := hb_H.at_ 1; have y2 := hb_H.at_ 2; simp at y0 y1 y2; clear hb_H; have hb_P := hSw.blk HP1.out (by simp); have lb_P := hb_P.lt; have p0 := hb_P.at_ 0; have p1 := hb_P.at_ 1; simp at p0 p1; clear hb_P; have t2 := (hSw.cell (p := ⟨bl, off + i * 3 + 2, none⟩) hbr (by simp)).trans HT.out; have q0 := (hSw.cell (p := ⟨bo, oo + j * 4, none⟩) hbor (by simp)).trans HPO.out; clear hSw; go_simp; try with_reducible rfl)
   try simp only [Act.put, tdy]
   refine timed_pure (i := 12) (v := ?_) rfl (by kernel_rfl) (by kernel_rfl) (by kernel_rfl) (fun _ _ _ h => h) (by kernel_rfl) (by kernel_rfl) ?_ ?_
   rotate_left
   ·(intro w; go_simp; try with_reducible rfl)
   try simp only [Act.put, tdy]
   refine timed_read (i := 13) (v := ?_) 0 rfl (by kernel_rfl) (by kernel_rfl) (by kernel_rfl) (fun _ _ _ h => h) (by kernel_rfl) (by kernel_rfl) rfl (by kernel_rfl) ?_ ?_
   rotate_left
   ·(intro wq hSw; (try dsimp only at hSw); have hb_H := hSw.blk HB1.out (by simp); have lb_H := hb_H.lt; have y0 := hb_H.at_ 0; have y1 := hb_H.at_ 1; have y2 := hb_H.at_ 2; simp at y0 y1 y2; clear hb_H; have hb_P := hSw.blk HP1.out (by simp); have lb_P := hb_P.lt; have p0 := hb_P.at_ 0; have p1 := hb_P.at_ 1; simp at p0 p1; clear hb_P; have t2 := (hSw.cell (p := ⟨bl, off + i * 3 + 2, none⟩) hbr (by simp)).trans HT.out; have q0 := (hSw.cell (p := ⟨bo, oo + j * 4, none⟩) hbor (by simp)).trans HPO.out; clear hSw; go_simp; try with_reducible rfl)
   try simp only [Act.put, tdy]
   refine timed_pure (i := 14) (v := ?_) rfl (by kernel_rfl) (by kernel_rfl) (by kernel_rfl) (fun _ _ _ h => h) (by kernel_rfl) (by kernel_rfl) ?_ ?_
   rotate_left
   ·(intro w; go_simp; try with_reducible rfl)
   try simp only [Act.put, tdy]
   refine timed_pure (i := 15) (v := ?_) rfl (by kernel_rfl) (by kernel_rfl) (by kernel_rfl) (fun _ _ _ h => h) (by kernel_rfl) (by kernel_rfl) ?_ ?_
   rotate_left
   ·(intro w; go_simp; try with_reducible rfl)
   try simp only [Act.put, tdy]
   refine timed_read (i := 16) (v := ?_) 0 rfl (by kernel_rfl) (by kernel_rfl) (by kernel_rfl) (fun _ _ _ h => h) (by kernel_rfl) (by kernel_rfl) rfl (by kernel_rfl) ?_ ?_
   rotate_left
   ·(intro wq hSw; (try dsimp only at hSw); have hb_H := hSw.blk HB1.out (by simp); have lb_H := hb_H.lt; have y0 := hb_H.at_ 0; have y1 := hb_H.at_ 1; have y2 := hb_H.at_ 2; simp at y0 y1 y2; clear hb_H; have hb_P := hSw.blk HP1.out (by simp); have lb_P := hb_P.lt; have p0 := hb_P.at_ 0; have p1 := hb_P.at_ 1; simp at p0 p1; clear hb_P; have t2 := (hSw.cell (p := ⟨bl, off + i * 3 + 2, none⟩) hbr (by simp)).trans HT.out; have q0 := (hSw.cell (p := ⟨bo, oo + j * 4, none⟩) hbor (by simp)).trans HPO.out; clear hSw; go_simp; try with_reducible rfl)
   try simp only [Act.put, tdy]
   refine timed_pure (i := 17) (v := ?_) rfl (by kernel_rfl) (by kernel_rfl) (by kernel_rfl) (fun _ _ _ h => h) (by kernel_rfl) (by kernel_rfl) ?_ ?_
   rotate_left
   ·(intro w; go_simp; try with_reducible rfl)
   try simp only [Act.put, tdy]
   refine timed_done (by kernel_rfl) ?_ _
   refine NoPanic.normal ?_
   have HNW := Lib.hid (HO1.out.trans (((Only.refl [] w1).drew).trans O3))
   go_wp2
   go_ret
   exact ⟨by rw [HOV.out]; rfl, HNW.out⟩
  | false =>
   go_enter Tryz.func13, Tryz.ntmps13
   go_wp2_with fail
   generalize ((w.alloc (.cells #[.slice A0 n0 c0, .slice A1 n1 c1, .slice (some ⟨bl, off, none⟩) n2 c2] 25)).alloc (.cells #[.int .i64 (i : Int), .int .i64 (j : Int)] 27)) = w1 at *
   have hbr : bl < w1.heap.size := by have := HO1.out.size; omega
   have hbor : bo < w1.heap.size := by have := HO1.out.size; omega
   generalize hgp : w.heap.size + 1 = gp at *
   generalize hgg : w.heap.size = g at *
   refine wp_region_noPanic ?_
   refine wp_region_timed (F := [⟨[], [], fun w' => Only [] w1 w'⟩]) (by kernel_rfl) (timed_holds ((Only.refl [] w1).drew) (timed_nil)) ?_
   refine timed_read (i := 0) (v := ?_) 0 rfl (by kernel_rfl) (by kernel_rfl) (by kernel_rfl) (fun _ _ _ h => h) (by kernel_rfl) (by kernel_rfl) rfl (by kernel_rfl) ?_ ?_
   rotate_left
   ·(intro wq hSw; (try dsimp only at hSw); have hb_H := hSw.blk HB1.out (by simp); have lb_H := hb_H.lt; have y0 := hb_H.at_ 0; have y1 := hb_H.at_ 1; have y2 := hb_H.at_ 2; simp at y0 y1 y2; clear hb_H; have hb_P := hSw.blk HP1.out (by simp); have lb_P := hb_P.lt; have p0 := hb_P.at_ 0; have p1 := hb_P.at_ 1; simp at p0 p1; clear hb_P; have t2 := (hSw.cell (p := ⟨bl, off + i * 3 + 2, none⟩) hbr (by simp)).trans HT.out; have q0 := (hSw.cell (p := ⟨bo, oo + j * 4, none⟩) hbor (by simp)).trans HPO.out; clear hSw; go_simp; try with_reducible rfl)
   try simp only [Act.put, tdy]
   refine timed_read (i := 1) (v := ?_) 0 rfl (by kernel_rfl) (by kernel_rfl) (by kernel_rfl) (fun _ _ _ h => h) (by kernel_rfl) (by kernel_rfl) rfl (by kernel_rfl) ?_ ?_
   rotate_left
   ·(intro wq hSw; (try dsimp only at hSw); have hb_H := hSw.blk HB1.out (by simp); have lb_H := hb_H.lt; have y0 := hb_H.at_ 0; have y1 := hb_H.at_ 1; have y2 := hb_H.at_ 2; simp at y0 y1 y2; clear hb_H; have hb_P := hSw.blk HP1.out (by simp); have lb_P := hb_P.lt; have p0 := hb_P.at_ 0; have p1 := hb_P.at_ 1; simp at p0 p1; clear hb_P; have t2 := (hSw.cell (p := ⟨bl, off + i * 3 + 2, none⟩) hbr (by simp)).trans HT.out; have q0 := (hSw.cell (p := ⟨bo, oo + j * 4, none⟩) hbor (by simp)).trans HPO.out; clear hSw; go_simp; try with_reducible rfl)
   try simp only [Act.put, tdy]
   refine timed_step (i := 2) (by kernel_rfl) rfl (fun K hK => ?_)
   go_simp
   refine (HF.out _ (HO1.out.trans (Only.refl [] w1).drew)).mono ?_
   rintro e w3 ⟨rfl, O3⟩
   refine hK.out _ _ (timed_holds (((Only.refl [] w1).drew).trans O3) (timed_nil)) ?_
   clear hK K
   try simp only [Act.put, tdy]
   refine timed_pure (i := 3) (v := ?_) rfl (by kernel_rfl) (by kernel_rfl) (by kernel_rfl) (fun _ _ _ h => h) (by kernel_rfl) (by kernel_rfl) ?_ ?_
   rotate_left
   ·(intro w; go_simp; try with_reducible rfl)
   try simp only [Act.put, tdy]
   refine timed_pure (i := 4) (v := ?_) rfl (by kernel_rfl) (by kernel_rfl) (by kernel_rfl) (fun _ _ _ h => h) (by kernel_rfl) (by kernel_rfl) ?_ ?_
   rotate_left
   ·(intro w; go_simp; try with_reducible rfl)
   try simp only [Act.put, tdy]
   refine timed_pure (i := 5) (v := ?_) rfl (by kernel_rfl) (by kernel_rfl) (by kernel_rfl) (fun _ _ _ h => h) (by kernel_rfl) (by kernel_rfl) ?_ ?_
   rotate_left
   ·(intro w; go_simp; try with_reducible rfl)
   try simp only [Act.put, tdy]
   refine timed_read (i := 6) (v := ?_) 0 rfl (by kernel_rfl) (by kernel_rfl) (by kernel_rfl) (fun _ _ _ h => h) (by kernel_rfl) (by kernel_rfl) rfl (by kernel_rfl) ?_ ?_
   rotate_left
   ·(intro wq hSw; (try dsimp only at hSw); have hb_H := hSw.blk HB1.out (by simp); have lb_H := hb_H.lt; have y0 := hb_H.at_ 0; have y1 := hb_H.at_ 1; have y2 := hb_H.at_ 2; simp at y0 y1 y2; clear hb_H; have hb_P := hSw.blk HP1.out (by simp); have lb_P := hb_P.lt; have p0 := hb_P.at_ 0; have p1 := hb_P.at_ 1; simp at p0 p1; clear hb_P; have t2 := (hSw.cell (p := ⟨bl, off + i * 3 + 2, none⟩) hbr (by simp)).trans HT.out; have q0 := (hSw.cell (p := ⟨bo, oo + j * 4, none⟩) hbor (by simp)).trans HPO.out; clear hSw; go_simp; try with_reducible rfl)
   try simp only [Act.put, tdy]
   refine timed_pure (i := 7) (v := ?_) rfl (by kernel_rfl) (by kernel_rfl) (by kernel_rfl) (fun _ _ _ h => h) (by kernel_rfl) (by kernel_rfl) ?_ ?_
   rotate_left
   ·(intro w; go_simp; try with_reducible rfl)
   try simp only [Act.put, tdy]
   refine timed_read (i := 8) (v := ?_) 0 rfl (by kernel_rfl) (by kernel_rfl) (by kernel_rfl) (fun _ _ _ h => h) (by kernel_rfl) (by kernel_rfl) rfl (by kernel_rfl) ?_ ?_
   rotate_left
   ·(intro wq hSw; (try dsimp only at hSw); have hb_H := hSw.blk HB1.out (by simp); have lb_H := hb_H.lt; have y0 := hb_H.at_ 0; have y1 := hb_H.at_ 1; have y2 := hb_H.at_ 2; simp at y0 y1 y2; clear hb_H; have hb_P := hSw.blk HP1.out (by simp); have lb_P := hb_P.lt; have p0 := hb_P.at_ 0; have p1 := hb_P.at_ 1; simp at p0 p1; clear hb_P; have t2 := (hSw.cell (p := ⟨bl, off + i * 3 + 2, none⟩) hbr (by simp)).trans HT.out; have q0 := (hSw.cell (p := ⟨bo, oo + j * 4, none⟩) hbor (by simp)).trans HPO.out; clear hSw; go_simp; try with_reducible rfl)
   try simp only [Act.put, tdy]
   refine timed_pure (i := 9) (v := ?_) rfl (by kernel_rfl) (by kernel_rfl) (by kernel_rfl) (fun _ _ _ h => h) (by kernel_rfl) (by kernel_rfl) ?_ ?_
   rotate_left
   ·(intro w; go_simp; try with_reducible rfl)
   try simp only [Act.put, tdy]
   refine timed_pure (i := 10) (v := ?_) rfl (by kernel_rfl) (by kernel_rfl) (by kernel_rfl) (fun _ _ _ h => h) (by kernel_rfl) (by kernel_rfl) ?_ ?_
   rotate_left
   ·(intro w; go_simp; try with_reducible rfl)
   try simp only [Act.put, tdy]
   refine timed_read (i := 11) (v := ?_) 0 rfl (by kernel_rfl) (by kernel_rfl) (by kernel_rfl) (fun _ _ _ h => h) (by kernel_rfl) (by kernel_rfl) rfl (by kernel_rfl) ?_ ?_
   rotate_left
   ·(intro wq hSw; (try dsimp only at hSw); have hb_H := hSw.blk HB1.out (by simp); have lb_H := hb_H.lt; have y0 := hb_H.at_ 0; have y1 := hb_H.at_ 1; have y2 := hb_H.at_ 2; simp at y0 y1 y2; clear hb_H; have hb_P := hSw.blk HP1.out (by simp); have lb_P := hb_P.lt; have p0 := hb_P.at_ 0; have p1 := hb_P.at_ 1; simp at p0 p1; clear hb_P; have t2 := (hSw.cell (p := ⟨bl, off + i * 3 + 2, none⟩) hbr (by simp)).trans HT.out; have q0 := (hSw.cell (p := ⟨bo, oo + j * 4, none⟩) hbor (by simp)).trans HPO.out; clear hSw; go_simp; try with_reducible rfl)
   try simp only [Act.put, tdy]
   refine timed_pure (i := 12) (v := ?_) rfl (by kernel_rfl) (by kernel_rfl) (by kernel_rfl) (fun _ _ _ h => h) (by kernel_rfl) (by kernel_rfl) ?_ ?_
   rotate_left
   ·(intro w; go_simp; try with_reducible rfl)
   try simp only [Act.put, tdy]
   refine timed_read (i := 13) (v := ?_) 0 rfl (by kernel_rfl) (by kernel_rfl) (by kernel_rfl) (fun _ _ _ h => h) (by kernel_rfl) (by kernel_rfl) rfl (by kernel_rfl) ?_ ?_
   rotate_left
   ·(intro wq hSw; (try dsimp only at hSw); have hb_H := hSw.blk HB1.out (by simp); have lb_H := hb_H.lt; have y0 := hb_H.at_ 0; have y1 := hb_H.at_ 1; have y2 := hb_H.at_ 2; simp at y0 y1 y2; clear hb_H; have hb_P := hSw.blk HP1.out (by simp); have lb_P := hb_P.lt; have p0 := hb_P.at_ 0; have p1 := hb_P.at_ 1; simp at p0 p1; clear hb_P; have t2 := (hSw.cell (p := ⟨bl, off + i * 3 + 2, none⟩) hbr (by simp)).trans HT.out; have q0 := (hSw.cell (p := ⟨bo, oo + j * 4, none⟩) hbor (by simp)).trans HPO.out; clear hSw; go_simp; try with_reducible rfl)
   try simp only [Act.put, tdy]
   refine timed_pure (i := 14) (v := ?_) rfl (by kernel_rfl) (by kernel_rfl) (by kernel_rfl) (fun _ _ _ h => h) (by kernel_rfl) (by kernel_rfl) ?_ ?_
   rotate_left
   ·(intro w; go_simp; try with_reducible rfl)
   try simp only [Act.put, tdy]
   refine timed_pure (i := 15) (v := ?_) rfl (by kernel_rfl) (by kernel_rfl) (by kernel_rfl) (fun _ _ _ h => h) (by kernel_rfl) (by kernel_rfl) ?_ ?_
   rotate_left
   ·(intro w; go_simp; try with_reducible rfl)
   try simp only [Act.put, tdy]
   refine timed_read (i := 16) (v := ?_) 0 rfl (by kernel_rfl) (by kernel_rfl) (by kernel_rfl) (fun _ _ _ h => h) (by kernel_rfl) (by kernel_rfl) rfl (by kernel_rfl) ?_ ?_
   rotate_left
   ·(intro wq hSw; (try dsimp only at hSw); have hb_H := hSw.blk HB1.out (by simp); have lb_H := hb_H.lt; have y0 := hb_H.at_ 0; have y1 := hb_H.at_ 1; have y2 := hb_H.at_ 2; simp at y0 y1 y2; clear hb_H; have hb_P := hSw.blk HP1.out (by simp); have lb_P := hb_P.lt; have p0 := hb_P.at_ 0; have p1 := hb_P.at_ 1; simp at p0 p1; clear hb_P; have t2 := (hSw.cell (p := ⟨bl, off + i * 3 + 2, none⟩) hbr (by simp)).trans HT.out; have q0 := (hSw.cell (p := ⟨bo, oo + j * 4, none⟩) hbor (by simp)).trans HPO.out; clear hSw; go_simp; try with_reducible rfl)
   try simp only [Act.put, tdy]
   refine timed_pure (i := 17) (v := ?_) rfl (by kernel_rfl) (by kernel_rfl) (by kernel_rfl) (fun _ _ _ h => h) (by kernel_rfl) (by kernel_rfl) ?_ ?_
   rotate_left
   ·(intro w; go_simp; try with_reducible rfl)
   try simp only [Act.put, tdy]
   refine timed_done (by kernel_rfl) ?_ _
   refine NoPanic.normal ?_
   have HNW := Lib.hid (HO1.out.trans (((Only.refl [] w1).drew).trans O3))
   have HB3 := Lib.hid (O3.blk (HB1.out.drew) (by simp))
   have HP3 := Lib.hid (O3.blk (HP1.out.drew) (by simp))
   have HFO := Lib.hid (HOW.out _ HNW.out)
   clear O3
   have lB := HB3.out.lt
   have y0 := HB3.out.at_ 0
   have y1 := HB3.out.at_ 1
   have y2 := HB3.out.at_ 2
   have lP := HP3.out.lt
   have p0 := HP3.out.at_ 0
   have p1 := HP3.out.at_ 1
   simp at y0 y1 y2 p0 p1
   go_wp2_with fail
   refine (HFO.out).mono ?_
   rintro e w4 ⟨rfl, O4⟩
   unfold optT optV
   have HO4 := Lib.hid (HNW.out.trans O4)
   clear O4 y0 y1 y2 p0 p1 lB lP HFO
   go_upto_region 4 with (fail)
   have HO5 := Lib.hid (HO4.out.alloc (.cells #[.int .i64 (v.getD (0, 0)).1, .int .i64 (v.getD (0, 0)).2] 30))
   generalize (w4.alloc (.cells #[.int .i64 (v.getD (0, 0)).1, .int .i64 (v.getD (0, 0)).2] 30)) = w5 at *
   generalize v.isSome = vb at *
   go_wp2
   go_ret
   exact ⟨by rw [HOV.out]; rfl, HO5.out⟩
end Go.Proofs.YtjhomlnlmpdklaaGreatDoor
