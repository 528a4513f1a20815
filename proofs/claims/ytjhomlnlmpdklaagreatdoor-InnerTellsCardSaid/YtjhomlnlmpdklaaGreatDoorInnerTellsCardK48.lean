/- InnerTells: the walk. -/
import Derived.Test.YtjhomlnlmpdklaaGreatDoorInnerTellsCardK33
import Derived.Test.YtjhomlnlmpdklaaGreatDoorInnerTellsCardK44
import Derived.Test.YtjhomlnlmpdklaaGreatDoorInnerTellsCardK47
import Derived.Test.YtjhomlnlmpdklaaGreatDoorInnerTellsCardK9
set_option linter.unusedVariables false
set_option linter.unusedSimpArgs false
namespace Go.Proofs.YtjhomlnlmpdklaaGreatDoor
open Go.RowKit
open Go.Lib hiding intOf
attribute [local go_sem ↓] Go.wp_at_zero Go.wp_at_succ
set_option maxRecDepth 10000 in
set_option maxHeartbeats 8000000 in
theorem innerTells_walk (A0 A1 A2 : Option Addr) (c0 c1 c2 : Nat) (h : Hst) (a b : Int) (w : World) (hg : HAt w w.heap.size A0 A1 A2 h) (hm0 : h.ss.length ≤ maxLen) (hm1 : h.ks.length ≤ maxLen) (hm2 : h.l.length ≤ maxLen)
  (hz0 : ∀ z ∈ h.ss, z.size ≤ maxLen) (hz1 : ∀ z ∈ h.ks, z.size ≤ maxLen) (hT : UTabs w) (hM : MLen w) (hV : Verbs w) :
  Calls Tryz.prog 3 #[hval A0 A1 A2 h.ss.length h.ks.length h.l.length c0 c1 c2, .agg #[.int .i64 a, .int .i64 b]] w fun e w' => e = .returned (.bool true) ∧ Only [] w w' := by
 unfold hval
 have HW := Lib.hid (fun w' (h : Only [] w w') => works13_any w' (hT.only h) (hM.only h) (hV.only h))
 have HF0 := Lib.hid (fun w' (O : Only [] w w') => few_first A0 A1 A2 c0 c1 c2 h w' (hg.only O (by simp)).up hm0 hm1 hm2 hz0 hz1 (hT.only O))
 have HFE := Lib.hid (few_few h)
 have HT := Lib.hid hT
 generalize fewH h = G at *
 generalize h.ss.length = n0 at *
 generalize h.ks.length = n1 at *
 generalize h.l.length = n2 at *
 generalize G.ss.length = m0 at *
 generalize G.ks.length = m1 at *
 generalize G.l.length = m2 at *
 clear hg hm0 hm1 hm2 hz0 hz1 hT hM hV
 have HB := Lib.hid ((Blk.made w 25 #[.slice A0 n0 c0, .slice A1 n1 c1, .slice A2 n2 c2]).alloc (.cells #[.int .i64 a, .int .i64 b] 27))
 have HP := Lib.hid (Blk.made (w.alloc (.cells #[.slice A0 n0 c0, .slice A1 n1 c1, .slice A2 n2 c2] 25)) 27 #[.int .i64 a, .int .i64 b])
 rw [World.size_alloc] at HP
 have HO1 := Lib.hid (((Only.refl [] w).alloc (.cells #[.slice A0 n0 c0, .slice A1 n1 c1, .slice A2 n2 c2] 25)).alloc (.cells #[.int .i64 a, .int .i64 b] 27))
 have HOWN := Lib.hid (fun (yF : Value) w' (HY : HAgg w' m0 m1 m2 G yF) => (show Calls Tryz.prog 10 #[yF, .agg #[.int .i64 a, .int .i64 b]] w' fun e w'' => e = .returned (optT (ownO G a b)) ∧ Only [] w' w'' from by
  obtain ⟨B, D0, D1, D2, f0, f1, f2, rfl, hI⟩ := HY
  exact iown_any D0 D1 D2 m0 m1 m2 f0 f1 f2 B G a b w' hI))
 have HROW := Lib.hid (fun (D0 D1 D2 : Option Addr) (f0 f1 f2 B : Nat) w' (hI : HIn w' B D0 D1 D2 m0 m1 m2 G) => rown_any D0 D1 D2 m0 m1 m2 f0 f1 f2 B G a b w' hI)
 have HOUT := Lib.hid (fun (D0 D1 D2 : Option Addr) (f0 f1 f2 B : Nat) w' (hI : HIn w' B D0 D1 D2 m0 m1 m2 G) => iouter_any D0 D1 D2 m0 m1 m2 f0 f1 f2 B G a b w' hI)
 have HROUT := Lib.hid (fun (D0 D1 D2 : Option Addr) (f0 f1 f2 B : Nat) w' (hI : HIn w' B D0 D1 D2 m0 m1 m2 G) => router_any D0 D1 D2 m0 m1 m2 f0 f1 f2 B G a b w' hI)
 unfold hval at HROW HOUT HROUT
 generalize ownO G a b = v at *
 generalize outerB G a b = r at *
 go_enter Tryz.func3, Tryz.ntmps3
 go_wp2_with fail
 refine (HF0.out _ HO1.out).mono ?_
 rintro e w2 ⟨B0, B1, B2, d0, d1, d2, ⟨rfl, hI⟩, O2⟩
 have HI := Lib.hid hI
 have HB2 := Lib.hid (O2.blk HB.out (by simp))
 have HP2 := Lib.hid (O2.blk HP.out (by simp))
 have HO2 := Lib.hid (HO1.out.trans O2)
 clear hI O2 HB HP HO1 HF0
 go_wp2_with (refine wpList_store_blk rfl 25 (.tmp 2) (.tmp 10) rfl w.heap.size 25 _ #[.slice B0 m0 d0, .slice B1 m1 d1, .slice B2 m2 d2] rfl rfl HB2.out rfl (by kernel_rfl) (by kernel_rfl) ?_; intro w3 hb3 o3; have HB3 := Lib.hid hb3; have HP3 := Lib.hid (o3.blk HP2.out (by simp)); have HO3 := Lib.hid (HO2.out.step o3 (fun i hi hl => by simp at hi; omega)); have HI3 := Lib.hid (HI.out.past HB2.out o3 (HT.out.only HO3.out)); clear hb3 o3; generalize hg1 : w.heap.size = g at *; generalize hg2 : g + 1 = gp at *; clear HI HB2 HO2 HP2)
 refine wp_region_noPanic ?_
 refine wp_region_timed (F := [⟨[], [], fun w' => Only [] w3 w'⟩]) (by kernel_rfl) (timed_holds ((Only.refl [] w3).drew) (timed_nil)) ?_
 have OW : Only [] w3 w3.drew := (Only.refl [] w3).drew
 generalize hwz : w3.drew = wz at *
 clear hwz
 refine timed_read (i := 0) (v := ?_) 0 rfl (by kernel_rfl) (by kernel_rfl) (by kernel_rfl) (fun _ _ _ h => h) (by kernel_rfl) (by kernel_rfl) rfl (by kernel_rfl) ?_ ?_
 rotate_left
 ·(intro wq hSw; (try dsimp only at hSw); have hb_H := hSw.blk HB3.out (by simp); have lb_H := hb_H.lt; have y0 := hb_H.at_ 0; have y1 := hb_H.at_ 1; have y2 := hb_H.at_ 2; simp at y0 y1 y2; clear hb_H; have hb_P := hSw.blk HP3.out (by simp); have lb_P := hb_P.lt; have p0 := hb_P.at_ 0; have p1 := hb_P.at_ 1; simp at p0 p1; clear hb_P; clear hSw; go_simp; try with_reducible rfl)
 try simp only [Act.put, tdy]
 refine timed_read (i := 2) (v := ?_) 0 rfl (by kernel_rfl) (by kernel_rfl) (by kernel_rfl) (fun _ _ _ h => h) (by kernel_rfl) (by kernel_rfl) rfl (by kernel_rfl) ?_ ?_
 rotate_left
 ·(intro wq hSw; (try dsimp only at hSw); have hb_H := hSw.blk HB3.out (by simp); have lb_H := hb_H.lt; have y0 := hb_H.at_ 0; have y1 := hb_H.at_ 1; have y2 := hb_H.at_ 2; simp at y0 y1 y2; clear hb_H; have hb_P := hSw.blk HP3.out (by simp); have lb_P := hb_P.lt; have p0 := hb_P.at_ 0; have p1 := hb_P.at_ 1; simp at p0 p1; clear hb_P; clear hSw; go_simp; try with_reducible rfl)
 try simp only [Act.put, tdy]
 apply cut_1_1 (fun w gv yF => (Only [] w3 w) ∧ (True) ∧ (Blk w gv 30 #[.int .i64 0, .int .i64 0]) ∧ (w3.heap.size ≤ gv) ∧ (HAgg w m0 m1 m2 G yF))
 intro HST1_3_7
 apply cut_1_1 (fun w gv yF => (Only [] w3 w) ∧ (True) ∧ (Blk w gv 30 #[.int .i64 0, .int .i64 0]) ∧ (w3.heap.size ≤ gv) ∧ (HAgg w m0 m1 m2 G yF))
 intro HST1_7
 apply cut_0_1 (fun w yF => (Only [] w3 w) ∧ (True) ∧ (HAgg w m0 m1 m2 G yF))
 intro HST1_3
 apply cut_1_0 (fun w gv => (Only [] w3 w) ∧ (True) ∧ (Blk w gv 30 #[.int .i64 0, .int .i64 0]) ∧ (w3.heap.size ≤ gv))
 intro HST7
 apply cut_0_1 (fun w yF => (Only [] w3 w) ∧ (True) ∧ (HAgg w m0 m1 m2 G yF))
 intro HST1
 ·skip
  refine timed_forks (l := [1, 7]) (by kernel_rfl) (by simp) (fork_cons ⟨_, rfl, fun K hK => ?_⟩ (fork_cons ⟨_, rfl, fun K hK => ?_⟩ (fork_nil)))
  ·go_simp
   refine (few_in _ _ _ _ _ _ _ _ _ _ _ _ (HI3.out.same OW) HFE.out).mono ?_
   rintro e w4 ⟨D0, D1, D2, f0, f1, f2, ⟨rfl, hI4⟩, O3⟩
   obtain ⟨yF, hyF⟩ : ∃ y, y = Value.agg #[.slice D0 m0 f0, .slice D1 m1 f1, .slice D2 m2 f2] := ⟨_, rfl⟩
   rw [← hyF]
   have HY : HAgg w4 m0 m1 m2 G yF := ⟨_, _, _, _, _, _, _, hyF, hI4⟩
   clear hyF
   have OW1 := OW.trans O3
   have OS := O3
   refine hK.out _ _ (timed_holds (OW1) (timed_nil)) ?_
   clear hK K
   try simp only [Act.put, tdy]
   exact HST1 w4 yF ⟨OW1, trivial, HY⟩
  ·go_simp
   have OW1 := OW.alloc (.cells #[.int .i64 0, .int .i64 0] 30)
   have OS : Only [] wz (wz.alloc (.cells #[.int .i64 0, .int .i64 0] 30)) := (Only.refl [] wz).alloc (.cells #[.int .i64 0, .int .i64 0] 30)
   have BV := Blk.made wz 30 #[.int .i64 0, .int .i64 0]
   have HGV : w3.heap.size ≤ wz.heap.size := OW.size
   generalize wz.alloc (.cells #[.int .i64 0, .int .i64 0] 30) = w1 at *
   generalize wz.heap.size = gv at *
   refine hK.out _ _ (timed_holds (OW1) (timed_nil)) ?_
   clear hK K
   try simp only [Act.put, tdy]
   exact HST7 w1 gv ⟨OW1, trivial, BV, HGV⟩
 ·skip
  intro wz yF ⟨OW, HTT, HY⟩
  refine timed_forks (l := [3, 7]) (by kernel_rfl) (by simp) (fork_cons ⟨_, rfl, fun K hK => ?_⟩ (fork_cons ⟨_, rfl, fun K hK => ?_⟩ (fork_nil)))
  ·go_simp
   refine (HOWN.out yF _ HY).mono ?_
   rintro e w4 ⟨rfl, O3⟩
   unfold optT optV
   have OW1 := OW.trans O3
   have OS := O3
   have HY1 := HY.same OS
   refine hK.out _ _ (timed_holds (OW1) (timed_nil)) ?_
   clear hK K
   try simp only [Act.put, tdy]
   refine timed_pure (i := 4) (v := ?_) rfl (by kernel_rfl) (by kernel_rfl) (by kernel_rfl) (fun _ _ _ h => h) (by kernel_rfl) (by kernel_rfl) ?_ ?_
   rotate_left
   ·(intro w; go_simp; try with_reducible rfl)
   try simp only [Act.put, tdy]
   refine timed_pure (i := 5) (v := ?_) rfl (by kernel_rfl) (by kernel_rfl) (by kernel_rfl) (fun _ _ _ h => h) (by kernel_rfl) (by kernel_rfl) ?_ ?_
   rotate_left
   ·(intro w; go_simp; try with_reducible rfl)
   try simp only [Act.put, tdy]
   refine timed_pure (i := 6) (v := ?_) rfl (by kernel_rfl) (by kernel_rfl) (by kernel_rfl) (fun _ _ _ h => h) (by kernel_rfl) (by kernel_rfl) ?_ ?_
   rotate_left
   ·(intro w; go_simp; try with_reducible rfl)
   try simp only [Act.put, tdy]
   exact HST1_3 w4 yF ⟨OW1, trivial, HY1⟩
  ·go_simp
   have OW1 := OW.alloc (.cells #[.int .i64 0, .int .i64 0] 30)
   have OS : Only [] wz (wz.alloc (.cells #[.int .i64 0, .int .i64 0] 30)) := (Only.refl [] wz).alloc (.cells #[.int .i64 0, .int .i64 0] 30)
   have BV := Blk.made wz 30 #[.int .i64 0, .int .i64 0]
   have HGV : w3.heap.size ≤ wz.heap.size := OW.size
   have HY1 := HY.same OS
   generalize wz.alloc (.cells #[.int .i64 0, .int .i64 0] 30) = w1 at *
   generalize wz.heap.size = gv at *
   refine hK.out _ _ (timed_holds (OW1) (timed_nil)) ?_
   clear hK K
   try simp only [Act.put, tdy]
   exact HST1_7 w1 gv yF ⟨OW1, trivial, BV, HGV, HY1⟩
 ·skip
  intro wz gv ⟨OW, HTT, BV, HGV⟩
  refine timed_step (i := 1) (by kernel_rfl) rfl (fun K hK => ?_)
  go_simp
  refine (few_in _ _ _ _ _ _ _ _ _ _ _ _ (HI3.out.same OW) HFE.out).mono ?_
  rintro e w4 ⟨D0, D1, D2, f0, f1, f2, ⟨rfl, hI4⟩, O3⟩
  obtain ⟨yF, hyF⟩ : ∃ y, y = Value.agg #[.slice D0 m0 f0, .slice D1 m1 f1, .slice D2 m2 f2] := ⟨_, rfl⟩
  rw [← hyF]
  have HY : HAgg w4 m0 m1 m2 G yF := ⟨_, _, _, _, _, _, _, hyF, hI4⟩
  clear hyF
  have OW1 := OW.trans O3
  have OS := O3
  have BV1 := OS.blk BV (by simp)
  refine hK.out _ _ (timed_holds (OW1) (timed_nil)) ?_
  clear hK K
  try simp only [Act.put, tdy]
  exact HST1_7 w4 gv yF ⟨OW1, trivial, BV1, HGV, HY⟩
 ·skip
  intro wz yF ⟨OW, HTT, HY⟩
  refine timed_step (i := 7) (by kernel_rfl) rfl (fun K hK => ?_)
  go_simp
  have OW1 := OW.alloc (.cells #[.int .i64 0, .int .i64 0] 30)
  have OS : Only [] wz (wz.alloc (.cells #[.int .i64 0, .int .i64 0] 30)) := (Only.refl [] wz).alloc (.cells #[.int .i64 0, .int .i64 0] 30)
  have BV := Blk.made wz 30 #[.int .i64 0, .int .i64 0]
  have HGV : w3.heap.size ≤ wz.heap.size := OW.size
  have HY1 := HY.same OS
  generalize wz.alloc (.cells #[.int .i64 0, .int .i64 0] 30) = w1 at *
  generalize wz.heap.size = gv at *
  refine hK.out _ _ (timed_holds (OW1) (timed_nil)) ?_
  clear hK K
  try simp only [Act.put, tdy]
  exact HST1_3_7 w1 gv yF ⟨OW1, trivial, BV, HGV, HY1⟩
 ·skip
  intro wz gv yF ⟨OW, HTT, BV, HGV, HY⟩
  refine timed_step (i := 3) (by kernel_rfl) rfl (fun K hK => ?_)
  go_simp
  refine (HOWN.out yF _ HY).mono ?_
  rintro e w4 ⟨rfl, O3⟩
  unfold optT optV
  have OW1 := OW.trans O3
  have OS := O3
  have BV1 := OS.blk BV (by simp)
  have HY1 := HY.same OS
  refine hK.out _ _ (timed_holds (OW1) (timed_nil)) ?_
  clear hK K
  try simp only [Act.put, tdy]
  refine timed_pure (i := 4) (v := ?_) rfl (by kernel_rfl) (by kernel_rfl) (by kernel_rfl) (fun _ _ _ h => h) (by kernel_rfl) (by kernel_rfl) ?_ ?_
  rotate_left
  ·(intro w; go_simp; try with_reducible rfl)
  try simp only [Act.put, tdy]
  refine timed_pure (i := 5) (v := ?_) rfl (by kernel_rfl) (by kernel_rfl) (by kernel_rfl) (fun _ _ _ h => h) (by kernel_rfl) (by kernel_rfl) ?_ ?_
  rotate_left
  ·(intro w; go_simp; try with_reducible rfl)
  try simp only [Act.put, tdy]
  refine timed_pure (i := 6) (v := ?_) rfl (by kernel_rfl) (by kernel_rfl) (by kernel_rfl) (fun _ _ _ h => h) (by kernel_rfl) (by kernel_rfl) ?_ ?_
  rotate_left
  ·(intro w; go_simp; try with_reducible rfl)
  try simp only [Act.put, tdy]
  exact HST1_3_7 w4 gv yF ⟨OW1, trivial, BV1, HGV, HY1⟩
 -- behind all of the crowd
 intro wz gv yF ⟨OW, HTT, BV, HGV, HY⟩
 refine timed_step (i := 8) (by kernel_rfl) rfl (fun K hK => ?_)
 refine wp_store_blk 30 (.tmp 5) (.tmp 16) rfl gv 30 _ #[.int .i64 (v.getD (0, 0)).1, .int .i64 (v.getD (0, 0)).2] rfl rfl BV rfl (by kernel_rfl) (by kernel_rfl) ?_
 intro w9 b9 o9
 have HV9b := Lib.hid b9
 have OW9 := OW.step o9 (fun i hi hl => by simp at hi; omega)
 clear o9 b9
 refine hK.out _ _ (timed_holds (OW9) (timed_nil)) ?_
 clear hK K
 try simp only [Act.put, tdy]
 refine timed_pure (i := 9) (v := ?_) rfl (by kernel_rfl) (by kernel_rfl) (by kernel_rfl) (fun _ _ _ h => h) (by kernel_rfl) (by kernel_rfl) ?_ ?_
 rotate_left
 ·(intro w; go_simp; try with_reducible rfl)
 try simp only [Act.put, tdy]
 refine timed_done (by kernel_rfl) ?_ _
 refine NoPanic.normal ?_
 have HW9 := Lib.hid OW9
 have HO9 := Lib.hid (HO3.out.trans HW9.out)
 have HB9 := Lib.hid (HW9.out.blk HB3.out (by simp))
 have HP9 := Lib.hid (HW9.out.blk HP3.out (by simp))
 have HI9 := Lib.hid (HI3.out.same HW9.out)
 clear OW OW9 BV HW9 HB3 HP3 HI3 HO3 HY
 have lB := HB9.out.lt
 have y0 := HB9.out.at_ 0
 have y1 := HB9.out.at_ 1
 have y2 := HB9.out.at_ 2
 have lP := HP9.out.lt
 have p0 := HP9.out.at_ 0
 have p1 := HP9.out.at_ 1
 simp at y0 y1 y2 p0 p1
 go_wp2_with fail
 refine (HROW.out _ _ _ _ _ _ _ _ HI9.out).mono ?_
 rintro e w10 ⟨rfl, O10⟩
 unfold optT optV
 have HV10 := Lib.hid (O10.blk HV9b.out (by simp))
 have HO10 := Lib.hid (HO9.out.trans O10)
 have HB10 := Lib.hid (O10.blk HB9.out (by simp))
 have HP10 := Lib.hid (O10.blk HP9.out (by simp))
 have HI10 := Lib.hid (HI9.out.same O10)
 clear O10 lB y0 y1 y2 lP p0 p1 HO9 HB9 HP9 HI9 HV9b
 go_upto_region 4 with (fail)
 have HX := Lib.hid ((Only.refl [] w10).alloc (.cells #[.int .i64 (v.getD (0, 0)).1, .int .i64 (v.getD (0, 0)).2] 30))
 have HU11 := Lib.hid (Blk.made w10 30 #[.int .i64 (v.getD (0, 0)).1, .int .i64 (v.getD (0, 0)).2])
 have HV11 := Lib.hid (HX.out.blk HV10.out (by simp))
 have HO11 := Lib.hid (HO10.out.trans HX.out)
 have HB11 := Lib.hid (HX.out.blk HB10.out (by simp))
 have HP11 := Lib.hid (HX.out.blk HP10.out (by simp))
 have HI11 := Lib.hid (HI10.out.same HX.out)
 clear HX HO10 HB10 HP10 HI10 HV10
 generalize (w10.alloc (.cells #[.int .i64 (v.getD (0, 0)).1, .int .i64 (v.getD (0, 0)).2] 30)) = w11 at *
 generalize w10.heap.size = gu at *
 generalize (v.getD (0, 0)).1 = v1 at *
 generalize (v.getD (0, 0)).2 = v2 at *
 generalize v.isSome = vb at *
 refine wp_region_noPanic ?_
 refine wp_region_timed (F := [⟨[], [], fun w' => Only [] w11 w'⟩]) (by kernel_rfl) (timed_holds ((Only.refl [] w11).drew) (timed_nil)) ?_
 refine timed_read (i := 0) (v := ?_) 0 rfl (by kernel_rfl) (by kernel_rfl) (by kernel_rfl) (fun _ _ _ h => h) (by kernel_rfl) (by kernel_rfl) rfl (by kernel_rfl) ?_ ?_
 rotate_left
 ·(intro wq hSw; (try dsimp only at hSw); have hb_H := hSw.blk HB11.out (by simp); have lb_H := hb_H.lt; have y0 := hb_H.at_ 0; have y1 := hb_H.at_ 1; have y2 := hb_H.at_ 2; simp at y0 y1 y2; clear hb_H; have hb_P := hSw.blk HP11.out (by simp); have lb_P := hb_P.lt; have p0 := hb_P.at_ 0; have p1 := hb_P.at_ 1; simp at p0 p1; clear hb_P; have hb_V := hSw.blk HV11.out (by simp); have lb_V := hb_V.lt; have u0 := hb_V.at_ 0; have u1 := hb_V.at_ 1; simp at u0 u1; clear hb_V; have hb_U := hSw.blk HU11.out (by simp); have lb_U := hb_U.lt; have q0 := hb_U.at_ 0; have q1 := hb_U.at_ 1; simp at q0 q1; clear hb_U; clear hSw; go_simp; try with_reducible rfl)
 try simp only [Act.put, tdy]
 refine timed_read (i := 1) (v := ?_) 0 rfl (by kernel_rfl) (by kernel_rfl) (by kernel_rfl) (fun _ _ _ h => h) (by kernel_rfl) (by kernel_rfl) rfl (by kernel_rfl) ?_ ?_
 rotate_left
 ·(intro wq hSw; (try dsimp only at hSw); have hb_H := hSw.blk HB11.out (by simp); have lb_H := hb_H.lt; have y0 := hb_H.at_ 0; have y1 := hb_H.at_ 1; have y2 := hb_H.at_ 2; simp at y0 y1 y2; clear hb_H; have hb_P := hSw.blk HP11.out (by simp); have lb_P := hb_P.lt; have p0 := hb_P.at_ 0; have p1 := hb_P.at_ 1; simp at p0 p1; clear hb_P; have hb_V := hSw.blk HV11.out (by simp); have lb_V := hb_V.lt; have u0 := hb_V.at_ 0; have u1 := hb_V.at_ 1; simp at u0 u1; clear hb_V; have hb_U := hSw.blk HU11.out (by simp); have lb_U := hb_U.lt; have q0 := hb_U.at_ 0; have q1 := hb_U.at_ 1; simp at q0 q1; clear hb_U; clear hSw; go_simp; try with_reducible rfl)
 try simp only [Act.put, tdy]
 refine timed_pure (i := 2) (v := ?_) rfl (by kernel_rfl) (by kernel_rfl) (by kernel_rfl) (fun _ _ _ h => h) (by kernel_rfl) (by kernel_rfl) ?_ ?_
 rotate_left
 ·(intro w; go_simp; try with_reducible rfl)
 try simp only [Act.put, tdy]
 refine timed_pure (i := 3) (v := ?_) rfl (by kernel_rfl) (by kernel_rfl) (by kernel_rfl) (fun _ _ _ h => h) (by kernel_rfl) (by kernel_rfl) ?_ ?_
 rotate_left
 ·(intro w; go_simp; try with_reducible rfl)
 try simp only [Act.put, tdy]
 refine timed_pure (i := 4) (v := ?_) rfl (by kernel_rfl) (by kernel_rfl) (by kernel_rfl) (fun _ _ _ h => h) (by kernel_rfl) (by kernel_rfl) ?_ ?_
 rotate_left
 ·(intro w; go_simp; try with_reducible rfl)
 try simp only [Act.put, tdy]
 refine timed_pure (i := 5) (v := ?_) rfl (by kernel_rfl) (by kernel_rfl) (by kernel_rfl) (fun _ _ _ h => h) (by kernel_rfl) (by kernel_rfl) ?_ ?_
 rotate_left
 ·(intro w; go_simp; try with_reducible rfl)
 try simp only [Act.put, tdy]
 refine timed_pure (i := 6) (v := ?_) rfl (by kernel_rfl) (by kernel_rfl) (by kernel_rfl) (fun _ _ _ h => h) (by kernel_rfl) (by kernel_rfl) ?_ ?_
 rotate_left
 ·(intro w; go_simp; try with_reducible rfl)
 try simp only [Act.put, tdy]
 refine timed_pure (i := 7) (v := ?_) rfl (by kernel_rfl) (by kernel_rfl) (by kernel_rfl) (fun _ _ _ h => h) (by kernel_rfl) (by kernel_rfl) ?_ ?_
 rotate_left
 ·(intro w; go_simp; try with_reducible rfl)
 try simp only [Act.put, tdy]
 refine timed_pure (i := 8) (v := ?_) rfl (by kernel_rfl) (by kernel_rfl) (by kernel_rfl) (fun _ _ _ h => h) (by kernel_rfl) (by kernel_rfl) ?_ ?_
 rotate_left
 ·(intro w; go_simp; try with_reducible rfl)
 try simp only [Act.put, tdy]
 refine timed_read (i := 9) (v := ?_) 0 rfl (by kernel_rfl) (by kernel_rfl) (by kernel_rfl) (fun _ _ _ h => h) (by kernel_rfl) (by kernel_rfl) rfl (by kernel_rfl) ?_ ?_
 rotate_left
 ·(intro wq hSw; (try dsimp only at hSw); have hb_H := hSw.blk HB11.out (by simp); have lb_H := hb_H.lt; have y0 := hb_H.at_ 0; have y1 := hb_H.at_ 1; have y2 := hb_H.at_ 2; simp at y0 y1 y2; clear hb_H; have hb_P := hSw.blk HP11.out (by simp); have lb_P := hb_P.lt; have p0 := hb_P.at_ 0; have p1 := hb_P.at_ 1; simp at p0 p1; clear hb_P; have hb_V := hSw.blk HV11.out (by simp); have lb_V := hb_V.lt; have u0 := hb_V.at_ 0; have u1 := hb_V.at_ 1; simp at u0 u1; clear hb_V; have hb_U := hSw.blk HU11.out (by simp); have lb_U := hb_U.lt; have q0 := hb_U.at_ 0; have q1 := hb_U.at_ 1; simp at q0 q1; clear hb_U; clear hSw; go_simp; try with_reducible rfl)
 try simp only [Act.put, tdy]
 refine timed_read (i := 11) (v := ?_) 0 rfl (by kernel_rfl) (by kernel_rfl) (by kernel_rfl) (fun _ _ _ h => h) (by kernel_rfl) (by kernel_rfl) rfl (by kernel_rfl) ?_ ?_
 rotate_left
 ·(intro wq hSw; (try dsimp only at hSw); have hb_H := hSw.blk HB11.out (by simp); have lb_H := hb_H.lt; have y0 := hb_H.at_ 0; have y1 := hb_H.at_ 1; have y2 := hb_H.at_ 2; simp at y0 y1 y2; clear hb_H; have hb_P := hSw.blk HP11.out (by simp); have lb_P := hb_P.lt; have p0 := hb_P.at_ 0; have p1 := hb_P.at_ 1; simp at p0 p1; clear hb_P; have hb_V := hSw.blk HV11.out (by simp); have lb_V := hb_V.lt; have u0 := hb_V.at_ 0; have u1 := hb_V.at_ 1; simp at u0 u1; clear hb_V; have hb_U := hSw.blk HU11.out (by simp); have lb_U := hb_U.lt; have q0 := hb_U.at_ 0; have q1 := hb_U.at_ 1; simp at q0 q1; clear hb_U; clear hSw; go_simp; try with_reducible rfl)
 try simp only [Act.put, tdy]
 refine timed_read (i := 13) (v := ?_) 0 rfl (by kernel_rfl) (by kernel_rfl) (by kernel_rfl) (fun _ _ _ h => h) (by kernel_rfl) (by kernel_rfl) rfl (by kernel_rfl) ?_ ?_
 rotate_left
 ·(intro wq hSw; (try dsimp only at hSw); have hb_H := hSw.blk HB11.out (by simp); have lb_H := hb_H.lt; have y0 := hb_H.at_ 0; have y1 := hb_H.at_ 1; have y2 := hb_H.at_ 2; simp at y0 y1 y2; clear hb_H; have hb_P := hSw.blk HP11.out (by simp); have lb_P := hb_P.lt; have p0 := hb_P.at_ 0; have p1 := hb_P.at_ 1; simp at p0 p1; clear hb_P; have hb_V := hSw.blk HV11.out (by simp); have lb_V := hb_V.lt; have u0 := hb_V.at_ 0; have u1 := hb_V.at_ 1; simp at u0 u1; clear hb_V; have hb_U := hSw.blk HU11.out (by simp); have lb_U := hb_U.lt; have q0 := hb_U.at_ 0; have q1 := hb_U.at_ 1; simp at q0 q1; clear hb_U; clear hSw; go_simp; try with_reducible rfl)
 try simp only [Act.put, tdy]
 refine timed_read (i := 14) (v := ?_) 0 rfl (by kernel_rfl) (by kernel_rfl) (by kernel_rfl) (fun _ _ _ h => h) (by kernel_rfl) (by kernel_rfl) rfl (by kernel_rfl) ?_ ?_
 rotate_left
 ·(intro wq hSw; (try dsimp only at hSw); have hb_H := hSw.blk HB11.out (by simp); have lb_H := hb_H.lt; have y0 := hb_H.at_ 0; have y1 := hb_H.at_ 1; have y2 := hb_H.at_ 2; simp at y0 y1 y2; clear hb_H; have hb_P := hSw.blk HP11.out (by simp); have lb_P := hb_P.lt; have p0 := hb_P.at_ 0; have p1 := hb_P.at_ 1; simp at p0 p1; clear hb_P; have hb_V := hSw.blk HV11.out (by simp); have lb_V := hb_V.lt; have u0 := hb_V.at_ 0; have u1 := hb_V.at_ 1; simp at u0 u1; clear hb_V; have hb_U := hSw.blk HU11.out (by simp); have lb_U := hb_U.lt; have q0 := hb_U.at_ 0; have q1 := hb_U.at_ 1; simp at q0 q1; clear hb_U; clear hSw; go_simp; try with_reducible rfl)
 try simp only [Act.put, tdy]
 refine timed_step (i := 10) (by kernel_rfl) rfl (fun K hK => ?_)
 go_simp
 refine (few_in _ _ _ _ _ _ _ _ _ _ _ _ (HI11.out.same (Only.refl [] w11).drew) HFE.out).mono ?_
 rintro e w12 ⟨D0, D1, D2, f0, f1, f2, ⟨rfl, hI12⟩, O12⟩
 refine hK.out _ _ (timed_holds (((Only.refl [] w11).drew).trans O12) (timed_nil)) ?_
 clear hK K
 try simp only [Act.put, tdy]
 refine timed_step (i := 12) (by kernel_rfl) rfl (fun K hK => ?_)
 go_simp
 refine (HOUT.out _ _ _ _ _ _ _ _ hI12).mono ?_
 rintro e w13 ⟨rfl, O13⟩
 refine hK.out _ _ (timed_holds ((((Only.refl [] w11).drew).trans O12).trans O13) (timed_nil)) ?_
 clear hK K
 try simp only [Act.put, tdy]
 refine timed_step (i := 15) (by kernel_rfl) rfl (fun K hK => ?_)
 go_simp
 refine (HROUT.out _ _ _ _ _ _ _ _ (HI11.out.same ((((Only.refl [] w11).drew).trans O12).trans O13))).mono ?_
 rintro e w14 ⟨rfl, O14⟩
 refine hK.out _ _ (timed_holds (((((Only.refl [] w11).drew).trans O12).trans O13).trans O14) (timed_nil)) ?_
 clear hK K
 try simp only [Act.put, tdy]
 refine timed_pure (i := 16) (v := ?_) rfl (by kernel_rfl) (by kernel_rfl) (by kernel_rfl) (fun _ _ _ h => h) (by kernel_rfl) (by kernel_rfl) ?_ ?_
 rotate_left
 ·(intro w; go_simp; try with_reducible rfl)
 try simp only [Act.put, tdy]
 refine timed_pure (i := 17) (v := ?_) rfl (by kernel_rfl) (by kernel_rfl) (by kernel_rfl) (fun _ _ _ h => h) (by kernel_rfl) (by kernel_rfl) ?_ ?_
 rotate_left
 ·(intro w; go_simp; try with_reducible rfl)
 try simp only [Act.put, tdy]
 refine timed_pure (i := 18) (v := ?_) rfl (by kernel_rfl) (by kernel_rfl) (by kernel_rfl) (fun _ _ _ h => h) (by kernel_rfl) (by kernel_rfl) ?_ ?_
 rotate_left
 ·(intro w; go_simp; try with_reducible rfl)
 try simp only [Act.put, tdy]
 refine timed_step (i := 19) (by kernel_rfl) rfl (fun K hK => ?_)
 go_simp
 refine (HW.out _ (HO11.out.trans (((((Only.refl [] w11).drew).trans O12).trans O13).trans O14))).mono ?_
 rintro e w15 ⟨rfl, O15⟩
 refine hK.out _ _ (timed_holds ((((((Only.refl [] w11).drew).trans O12).trans O13).trans O14).trans O15) (timed_nil)) ?_
 clear hK K
 try simp only [Act.put, tdy]
 refine timed_pure (i := 20) (v := ?_) rfl (by kernel_rfl) (by kernel_rfl) (by kernel_rfl) (fun _ _ _ h => h) (by kernel_rfl) (by kernel_rfl) ?_ ?_
 rotate_left
 ·(intro w; go_simp; try with_reducible rfl)
 try simp only [Act.put, tdy]
 refine timed_pure (i := 21) (v := ?_) rfl (by kernel_rfl) (by kernel_rfl) (by kernel_rfl) (fun _ _ _ h => h) (by kernel_rfl) (by kernel_rfl) ?_ ?_
 rotate_left
 ·(intro w; go_simp; try with_reducible rfl)
 try simp only [Act.put, tdy]
 refine timed_done (by kernel_rfl) ?_ _
 refine NoPanic.normal ?_
 have HNW := Lib.hid (HO11.out.trans ((((((Only.refl [] w11).drew).trans O12).trans O13).trans O14).trans O15))
 go_wp2
 go_ret
 exact ⟨rfl, HNW.out⟩
end Go.Proofs.YtjhomlnlmpdklaaGreatDoor
