/- HistOrders: the walk. -/
import Derived.Test.YtpkibfpnfpjclaaDoorHistOrdersCardK25
import Derived.Test.YtpkibfpnfpjclaaDoorHistOrdersCardK31
import Derived.Test.YtpkibfpnfpjclaaDoorHistOrdersCardK41
import Derived.Test.YtpkibfpnfpjclaaDoorHistOrdersCardK46
import Derived.Test.YtpkibfpnfpjclaaDoorHistOrdersCardK7
set_option linter.unusedVariables false
set_option linter.unusedSimpArgs false
namespace Go.Proofs.YtpkibfpnfpjclaaDoor
open Go.RowKit
open Go.Lib hiding intOf
attribute [local go_sem ↓] Go.wp_at_zero Go.wp_at_succ

set_option maxRecDepth 10000 in
set_option maxHeartbeats 8000000 in
theorem histOrders_walk (A0 A1 A2 : Option Addr) (c0 c1 c2 : Nat) (g : Hst) (Z0 Z1 Z2 : Option Addr) (d0 d1 d2 : Nat) (h : Hst) (a b : Int) (w : World) (hg : HAt w w.heap.size A0 A1 A2 g) (hh : HAt w w.heap.size Z0 Z1 Z2 h) (hmg0 : g.ss.length ≤ maxLen) (hmg1 : g.ks.length ≤ maxLen) (hmg2 : g.l.length ≤ maxLen) (hzg0 : ∀ z ∈ g.ss, z.size ≤ maxLen) (hzg1 : ∀ z ∈ g.ks, z.size ≤ maxLen)
    (hmh0 : h.ss.length ≤ maxLen) (hmh1 : h.ks.length ≤ maxLen) (hmh2 : h.l.length ≤ maxLen) (hzh0 : ∀ z ∈ h.ss, z.size ≤ maxLen) (hzh1 : ∀ z ∈ h.ks, z.size ≤ maxLen) (hT : UTabs w) :
    Calls Tryd.prog 5 #[hval A0 A1 A2 g.ss.length g.ks.length g.l.length c0 c1 c2, hval Z0 Z1 Z2 h.ss.length h.ks.length h.l.length d0 d1 d2, .int .i64 a, .int .i64 b] w fun e w' => e = .returned (.bool true) ∧ Only [] w w' := by
  unfold hval
  have HW := Lib.hid (fun w' (h : Only [] w w') => works11_any w' (hT.only h))
  have HF0 := Lib.hid (fun w' (O : Only [] w w') => few_first A0 A1 A2 c0 c1 c2 g w' (hg.only O (by simp)).up hmg0 hmg1 hmg2 hzg0 hzg1 (hT.only O))
  have HF1 := Lib.hid (fun w' (O : Only [] w w') => few_first Z0 Z1 Z2 d0 d1 d2 h w' (hh.only O (by simp)).up hmh0 hmh1 hmh2 hzh0 hzh1 (hT.only O))
  have HFE := Lib.hid (few_few g)
  have HFE1 := Lib.hid (few_few h)
  have HT := Lib.hid hT
  generalize fewH g = G at *
  generalize fewH h = H at *
  generalize g.ss.length = n0 at *
  generalize g.ks.length = n1 at *
  generalize g.l.length = n2 at *
  generalize h.ss.length = k0 at *
  generalize h.ks.length = k1 at *
  generalize h.l.length = k2 at *
  generalize G.ss.length = m0 at *
  generalize G.ks.length = m1 at *
  generalize G.l.length = m2 at *
  generalize H.ss.length = p0 at *
  generalize H.ks.length = p1 at *
  generalize H.l.length = p2 at *
  clear hg hh hmg0 hmg1 hmg2 hzg0 hzg1 hmh0 hmh1 hmh2 hzh0 hzh1 hT
  have HB0 := Lib.hid ((Blk.made w 25 #[.slice A0 n0 c0, .slice A1 n1 c1, .slice A2 n2 c2]).alloc (.cells #[.slice Z0 k0 d0, .slice Z1 k1 d1, .slice Z2 k2 d2] 25))
  have hb1 := Blk.made (w.alloc (.cells #[.slice A0 n0 c0, .slice A1 n1 c1, .slice A2 n2 c2] 25)) 25 #[.slice Z0 k0 d0, .slice Z1 k1 d1, .slice Z2 k2 d2]
  simp only [World.size_alloc] at hb1
  have HB1 := Lib.hid hb1
  have HO1 := Lib.hid (((Only.refl [] w).alloc (.cells #[.slice A0 n0 c0, .slice A1 n1 c1, .slice A2 n2 c2] 25)).alloc (.cells #[.slice Z0 k0 d0, .slice Z1 k1 d1, .slice Z2 k2 d2] 25))
  clear hb1
  go_enter Tryd.func5, Tryd.ntmps5
  go_upto_region 1 with (fail)
  generalize ((w.alloc (.cells #[.slice A0 n0 c0, .slice A1 n1 c1, .slice A2 n2 c2] 25)).alloc (.cells #[.slice Z0 k0 d0, .slice Z1 k1 d1, .slice Z2 k2 d2] 25)) = w1 at *
  obtain ⟨g1, hg1⟩ : ∃ g1, g1 = w.heap.size + 1 := ⟨_, rfl⟩
  have hgz : w.heap.size < g1 := by omega
  have hgn : w.heap.size ≠ g1 := by omega
  rw [← hg1] at HB1
  rw [← hg1]
  clear hg1
  refine wp_region_noPanic ?_
  refine wp_region_timed (F := [⟨[], [4], fun w' => Only [] w1 w'⟩, ⟨[], [5], fun w' => Only [w.heap.size] w1 w'⟩]) (by kernel_rfl) (timed_holds ((Only.refl [] w1).drew) (timed_holds ((Only.refl [w.heap.size] w1).drew) (timed_nil))) ?_
  refine timed_read (i := 0) (v := ?_) 0 rfl (by kernel_rfl) (by kernel_rfl) (by kernel_rfl) (fun _ _ _ h => h) (by kernel_rfl) (by kernel_rfl) rfl (by kernel_rfl) ?_ ?_
  rotate_left
  · (intro wq hSw; (try dsimp only at hSw); have hb := hSw.blk HB0.out (by simp); have l0 := hb.lt; have x0 := hb.at_ 0; have x1 := hb.at_ 1; have x2 := hb.at_ 2; simp at x0 x1 x2; clear hSw; go_simp; try with_reducible rfl)
  try simp only [Act.put, List.getElem_toArray, List.getElem_cons_zero, List.getElem_cons_succ, List.setIfInBounds_toArray, List.set_cons_zero, List.set_cons_succ]
  refine timed_read (i := 2) (v := ?_) 1 rfl (by kernel_rfl) (by kernel_rfl) (by kernel_rfl) (fun _ _ _ h => h) (by kernel_rfl) (by kernel_rfl) rfl (by kernel_rfl) ?_ ?_
  rotate_left
  · (intro wq hSw; (try dsimp only at hSw); have hb1 := hSw.blk HB1.out (by simp; omega); have l1 := hb1.lt; have y0 := hb1.at_ 0; have y1 := hb1.at_ 1; have y2 := hb1.at_ 2; simp at y0 y1 y2; clear hSw; go_simp; try with_reducible rfl)
  try simp only [Act.put, List.getElem_toArray, List.getElem_cons_zero, List.getElem_cons_succ, List.setIfInBounds_toArray, List.set_cons_zero, List.set_cons_succ]
  refine timed_step (i := 1) (by kernel_rfl) rfl (fun K hK => ?_)
  go_simp
  refine (HF0.out _ (HO1.out.trans (Only.refl [] w1).drew)).mono ?_
  rintro e w2 ⟨P0, P1, P2, e0, e1, e2, ⟨rfl, hI2⟩, O2⟩
  have HI2 := Lib.hid hI2
  clear hI2
  refine hK.out _ _ (timed_holds ((Only.refl [] w1).drew.trans O2) (timed_holds (((Only.refl [] w1).drew.trans O2).wide (fun i hi => by cases hi)) (timed_nil))) ?_
  clear hK K
  try simp only [Act.put, List.getElem_toArray, List.getElem_cons_zero, List.getElem_cons_succ, List.setIfInBounds_toArray, List.set_cons_zero, List.set_cons_succ]
  refine timed_step (i := 3) (by kernel_rfl) rfl (fun K hK => ?_)
  go_simp
  refine (HF1.out _ (HO1.out.trans ((Only.refl [] w1).drew.trans O2))).mono ?_
  rintro e w3 ⟨Q0, Q1, Q2, f0, f1, f2, ⟨rfl, hI3⟩, O3⟩
  have HI3 := Lib.hid hI3
  clear hI3
  refine hK.out _ _ (timed_holds (((Only.refl [] w1).drew.trans O2).trans O3) (timed_holds ((((Only.refl [] w1).drew.trans O2).trans O3).wide (fun i hi => by cases hi)) (timed_nil))) ?_
  clear hK K
  try simp only [Act.put, List.getElem_toArray, List.getElem_cons_zero, List.getElem_cons_succ, List.setIfInBounds_toArray, List.set_cons_zero, List.set_cons_succ]
  refine timed_step (i := 4) (by kernel_rfl) rfl (fun K hK => ?_)
  have HN3 := Lib.hid (((Only.refl [] w1).drew.trans O2).trans O3)
  have HJ2 := Lib.hid (HI2.out.same O3)
  refine wp_store_blk 25 (.tmp 4) (.tmp 10) rfl w.heap.size 25 _ #[.slice P0 m0 e0, .slice P1 m1 e1, .slice P2 m2 e2] rfl rfl (HN3.out.blk HB0.out (by simp)) rfl (by kernel_rfl) (by kernel_rfl) ?_
  intro w4 b4 o4
  have HO4 := Lib.hid ((HO1.out.trans HN3.out).step o4 (fun i hi hl => by simp at hi; omega))
  have HJ4 := Lib.hid (HJ2.out.past (HN3.out.blk HB0.out (by simp)) o4 (HT.out.only HO4.out))
  have HK4 := Lib.hid (HI3.out.past (HN3.out.blk HB0.out (by simp)) o4 (HT.out.only HO4.out))
  have HC4 := Lib.hid b4
  have HD4 := Lib.hid (o4.blk (HN3.out.blk HB1.out (by simp)) (by simp; omega))
  have HN4 := Lib.hid ((HN3.out.wide (fun i hi => by cases hi)).trans o4)
  clear b4 o4 O2 O3 HN3 HB0 HB1 HJ2 HI2 HI3
  refine hK.out _ _ (timed_over (by kernel_rfl) (timed_holds (HN4.out) (timed_nil))) ?_
  clear hK K
  try simp only [Act.put, List.getElem_toArray, List.getElem_cons_zero, List.getElem_cons_succ, List.setIfInBounds_toArray, List.set_cons_zero, List.set_cons_succ]
  refine timed_step (i := 5) (by kernel_rfl) rfl (fun K hK => ?_)
  refine wp_store_blk 25 (.tmp 5) (.tmp 12) rfl g1 25 _ #[.slice Q0 p0 f0, .slice Q1 p1 f1, .slice Q2 p2 f2] rfl rfl HD4.out rfl (by kernel_rfl) (by kernel_rfl) ?_
  intro w5 b5 o5
  have HO5 := Lib.hid (HO4.out.step o5 (fun i hi hl => by simp at hi; omega))
  have HI5 := Lib.hid (HJ4.out.past HD4.out o5 (HT.out.only HO5.out))
  have HK5 := Lib.hid (HK4.out.past HD4.out o5 (HT.out.only HO5.out))
  have HD5 := Lib.hid b5
  have HC5 := Lib.hid (o5.blk HC4.out (by simp; omega))
  clear b5 o5 HC4 HD4 HJ4 HK4 HO4
  refine hK.out _ _ (timed_over (by kernel_rfl) (timed_over (by kernel_rfl) (timed_nil))) ?_
  clear hK K
  try simp only [Act.put, List.getElem_toArray, List.getElem_cons_zero, List.getElem_cons_succ, List.setIfInBounds_toArray, List.set_cons_zero, List.set_cons_succ]
  refine timed_done (by kernel_rfl) ?_ _
  refine NoPanic.normal ?_
  obtain ⟨ba, hba⟩ : ∃ ba, ba = aheadB H a b := ⟨_, rfl⟩
  have HAB := Lib.hid hba
  obtain ⟨bs, hbs⟩ : ∃ bs, bs = sameH G H := ⟨_, rfl⟩
  have HSB := Lib.hid hbs
  have hqa : (ba == ba) = true := by cases ba <;> rfl
  have hqs : (bs == bs) = true := by cases bs <;> rfl
  clear hba hbs
  go_upto_region 2 with (fail)
  refine wp_region_noPanic ?_
  refine wp_region_timed (F := [⟨[], [], fun w' => Only [] w5 w'⟩]) (by kernel_rfl) (timed_holds ((Only.refl [] w5).drew) (timed_nil)) ?_
  refine timed_read (i := 0) (v := ?_) 0 rfl (by kernel_rfl) (by kernel_rfl) (by kernel_rfl) (fun _ _ _ h => h) (by kernel_rfl) (by kernel_rfl) rfl (by kernel_rfl) ?_ ?_
  rotate_left
  · (intro wq hSw; (try dsimp only at hSw); have hb := hSw.blk HC5.out (by simp); have hb1 := hSw.blk HD5.out (by simp); have l0 := hb.lt; have l1 := hb1.lt; have x0 := hb.at_ 0; have x1 := hb.at_ 1; have x2 := hb.at_ 2; have y0 := hb1.at_ 0; have y1 := hb1.at_ 1; have y2 := hb1.at_ 2; simp at x0 x1 x2 y0 y1 y2; clear hSw; go_simp; try with_reducible rfl)
  try simp only [Act.put, List.getElem_toArray, List.getElem_cons_zero, List.getElem_cons_succ, List.setIfInBounds_toArray, List.set_cons_zero, List.set_cons_succ]
  refine timed_pure (i := 2) (v := ?_) rfl (by kernel_rfl) (by kernel_rfl) (by kernel_rfl) (fun _ _ _ h => h) (by kernel_rfl) (by kernel_rfl) ?_ ?_
  rotate_left
  · (intro w; go_simp; try with_reducible rfl)
  try simp only [Act.put, List.getElem_toArray, List.getElem_cons_zero, List.getElem_cons_succ, List.setIfInBounds_toArray, List.set_cons_zero, List.set_cons_succ]
  refine timed_pure (i := 3) (v := ?_) rfl (by kernel_rfl) (by kernel_rfl) (by kernel_rfl) (fun _ _ _ h => h) (by kernel_rfl) (by kernel_rfl) ?_ ?_
  rotate_left
  · (intro w; go_simp; try with_reducible rfl)
  try simp only [Act.put, List.getElem_toArray, List.getElem_cons_zero, List.getElem_cons_succ, List.setIfInBounds_toArray, List.set_cons_zero, List.set_cons_succ]
  refine timed_read (i := 5) (v := ?_) 0 rfl (by kernel_rfl) (by kernel_rfl) (by kernel_rfl) (fun _ _ _ h => h) (by kernel_rfl) (by kernel_rfl) rfl (by kernel_rfl) ?_ ?_
  rotate_left
  · (intro wq hSw; (try dsimp only at hSw); have hb := hSw.blk HC5.out (by simp); have hb1 := hSw.blk HD5.out (by simp); have l0 := hb.lt; have l1 := hb1.lt; have x0 := hb.at_ 0; have x1 := hb.at_ 1; have x2 := hb.at_ 2; have y0 := hb1.at_ 0; have y1 := hb1.at_ 1; have y2 := hb1.at_ 2; simp at x0 x1 x2 y0 y1 y2; clear hSw; go_simp; try with_reducible rfl)
  try simp only [Act.put, List.getElem_toArray, List.getElem_cons_zero, List.getElem_cons_succ, List.setIfInBounds_toArray, List.set_cons_zero, List.set_cons_succ]
  refine timed_pure (i := 6) (v := ?_) rfl (by kernel_rfl) (by kernel_rfl) (by kernel_rfl) (fun _ _ _ h => h) (by kernel_rfl) (by kernel_rfl) ?_ ?_
  rotate_left
  · (intro w; go_simp; try with_reducible rfl)
  try simp only [Act.put, List.getElem_toArray, List.getElem_cons_zero, List.getElem_cons_succ, List.setIfInBounds_toArray, List.set_cons_zero, List.set_cons_succ]
  refine timed_pure (i := 7) (v := ?_) rfl (by kernel_rfl) (by kernel_rfl) (by kernel_rfl) (fun _ _ _ h => h) (by kernel_rfl) (by kernel_rfl) ?_ ?_
  rotate_left
  · (intro w; go_simp; try with_reducible rfl)
  try simp only [Act.put, List.getElem_toArray, List.getElem_cons_zero, List.getElem_cons_succ, List.setIfInBounds_toArray, List.set_cons_zero, List.set_cons_succ]
  refine timed_step (i := 1) (by kernel_rfl) rfl (fun K hK => ?_)
  go_simp
  refine (few_in _ _ _ _ _ _ _ _ _ _ _ _ (HK5.out.same ((Only.refl [] w5).drew)) HFE1.out).mono ?_
  rintro e w6 ⟨R0, R1, R2, Ra, Rb, Rc, ⟨rfl, hI6⟩, O6⟩
  have HX6 := Lib.hid hI6
  clear hI6
  refine hK.out _ _ (timed_holds (((Only.refl [] w5).drew).trans O6) (timed_nil)) ?_
  clear hK K
  try simp only [Act.put, List.getElem_toArray, List.getElem_cons_zero, List.getElem_cons_succ, List.setIfInBounds_toArray, List.set_cons_zero, List.set_cons_succ]
  refine timed_step (i := 4) (by kernel_rfl) rfl (fun K hK => ?_)
  go_simp
  refine (hahead_any _ _ _ _ _ _ _ _ _ _ _ _ _ _ HX6.out).mono ?_
  rintro e w7 ⟨rfl, O7⟩
  rw [← HAB.out]
  refine hK.out _ _ (timed_holds ((((Only.refl [] w5).drew).trans O6).trans O7) (timed_nil)) ?_
  clear hK K
  try simp only [Act.put, List.getElem_toArray, List.getElem_cons_zero, List.getElem_cons_succ, List.setIfInBounds_toArray, List.set_cons_zero, List.set_cons_succ]
  refine timed_step (i := 8) (by kernel_rfl) rfl (fun K hK => ?_)
  go_simp
  refine (rahead_any _ _ _ _ _ _ _ _ _ _ _ _ _ _ (HK5.out.same ((((Only.refl [] w5).drew).trans O6).trans O7))).mono ?_
  rintro e w8 ⟨rfl, O8⟩
  rw [← HAB.out]
  refine hK.out _ _ (timed_holds (((((Only.refl [] w5).drew).trans O6).trans O7).trans O8) (timed_nil)) ?_
  clear hK K
  try simp only [Act.put, List.getElem_toArray, List.getElem_cons_zero, List.getElem_cons_succ, List.setIfInBounds_toArray, List.set_cons_zero, List.set_cons_succ]
  refine timed_pure (i := 9) (v := ?_) rfl (by kernel_rfl) (by kernel_rfl) (by kernel_rfl) (fun _ _ _ h => h) (by kernel_rfl) (by kernel_rfl) ?_ ?_
  rotate_left
  · (intro w; go_simp; try with_reducible rfl)
  try simp only [Act.put, List.getElem_toArray, List.getElem_cons_zero, List.getElem_cons_succ, List.setIfInBounds_toArray, List.set_cons_zero, List.set_cons_succ]
  refine timed_pure (i := 10) (v := ?_) rfl (by kernel_rfl) (by kernel_rfl) (by kernel_rfl) (fun _ _ _ h => h) (by kernel_rfl) (by kernel_rfl) ?_ ?_
  rotate_left
  · (intro w; go_simp; try with_reducible rfl)
  try simp only [Act.put, List.getElem_toArray, List.getElem_cons_zero, List.getElem_cons_succ, List.setIfInBounds_toArray, List.set_cons_zero, List.set_cons_succ]
  refine timed_read (i := 11) (v := ?_) 0 rfl (by kernel_rfl) (by kernel_rfl) (by kernel_rfl) (fun _ _ _ h => h) (by kernel_rfl) (by kernel_rfl) rfl (by kernel_rfl) ?_ ?_
  rotate_left
  · (intro wq hSw; (try dsimp only at hSw); have hb := hSw.blk HC5.out (by simp); have hb1 := hSw.blk HD5.out (by simp); have l0 := hb.lt; have l1 := hb1.lt; have x0 := hb.at_ 0; have x1 := hb.at_ 1; have x2 := hb.at_ 2; have y0 := hb1.at_ 0; have y1 := hb1.at_ 1; have y2 := hb1.at_ 2; simp at x0 x1 x2 y0 y1 y2; clear hSw; go_simp; try with_reducible rfl)
  try simp only [Act.put, List.getElem_toArray, List.getElem_cons_zero, List.getElem_cons_succ, List.setIfInBounds_toArray, List.set_cons_zero, List.set_cons_succ]
  refine timed_read (i := 13) (v := ?_) 0 rfl (by kernel_rfl) (by kernel_rfl) (by kernel_rfl) (fun _ _ _ h => h) (by kernel_rfl) (by kernel_rfl) rfl (by kernel_rfl) ?_ ?_
  rotate_left
  · (intro wq hSw; (try dsimp only at hSw); have hb := hSw.blk HC5.out (by simp); have hb1 := hSw.blk HD5.out (by simp); have l0 := hb.lt; have l1 := hb1.lt; have x0 := hb.at_ 0; have x1 := hb.at_ 1; have x2 := hb.at_ 2; have y0 := hb1.at_ 0; have y1 := hb1.at_ 1; have y2 := hb1.at_ 2; simp at x0 x1 x2 y0 y1 y2; clear hSw; go_simp; try with_reducible rfl)
  try simp only [Act.put, List.getElem_toArray, List.getElem_cons_zero, List.getElem_cons_succ, List.setIfInBounds_toArray, List.set_cons_zero, List.set_cons_succ]
  refine timed_read (i := 16) (v := ?_) 0 rfl (by kernel_rfl) (by kernel_rfl) (by kernel_rfl) (fun _ _ _ h => h) (by kernel_rfl) (by kernel_rfl) rfl (by kernel_rfl) ?_ ?_
  rotate_left
  · (intro wq hSw; (try dsimp only at hSw); have hb := hSw.blk HC5.out (by simp); have hb1 := hSw.blk HD5.out (by simp); have l0 := hb.lt; have l1 := hb1.lt; have x0 := hb.at_ 0; have x1 := hb.at_ 1; have x2 := hb.at_ 2; have y0 := hb1.at_ 0; have y1 := hb1.at_ 1; have y2 := hb1.at_ 2; simp at x0 x1 x2 y0 y1 y2; clear hSw; go_simp; try with_reducible rfl)
  try simp only [Act.put, List.getElem_toArray, List.getElem_cons_zero, List.getElem_cons_succ, List.setIfInBounds_toArray, List.set_cons_zero, List.set_cons_succ]
  refine timed_read (i := 17) (v := ?_) 0 rfl (by kernel_rfl) (by kernel_rfl) (by kernel_rfl) (fun _ _ _ h => h) (by kernel_rfl) (by kernel_rfl) rfl (by kernel_rfl) ?_ ?_
  rotate_left
  · (intro wq hSw; (try dsimp only at hSw); have hb := hSw.blk HC5.out (by simp); have hb1 := hSw.blk HD5.out (by simp); have l0 := hb.lt; have l1 := hb1.lt; have x0 := hb.at_ 0; have x1 := hb.at_ 1; have x2 := hb.at_ 2; have y0 := hb1.at_ 0; have y1 := hb1.at_ 1; have y2 := hb1.at_ 2; simp at x0 x1 x2 y0 y1 y2; clear hSw; go_simp; try with_reducible rfl)
  try simp only [Act.put, List.getElem_toArray, List.getElem_cons_zero, List.getElem_cons_succ, List.setIfInBounds_toArray, List.set_cons_zero, List.set_cons_succ]
  refine timed_step (i := 12) (by kernel_rfl) rfl (fun K hK => ?_)
  go_simp
  refine (few_in _ _ _ _ _ _ _ _ _ _ _ _ (HI5.out.same (((((Only.refl [] w5).drew).trans O6).trans O7).trans O8)) HFE.out).mono ?_
  rintro e w9 ⟨S0, S1, S2, Sa, Sb, Sc, ⟨rfl, hI9⟩, O9⟩
  have HX9 := Lib.hid hI9
  clear hI9
  refine hK.out _ _ (timed_holds ((((((Only.refl [] w5).drew).trans O6).trans O7).trans O8).trans O9) (timed_nil)) ?_
  clear hK K
  try simp only [Act.put, List.getElem_toArray, List.getElem_cons_zero, List.getElem_cons_succ, List.setIfInBounds_toArray, List.set_cons_zero, List.set_cons_succ]
  refine timed_step (i := 14) (by kernel_rfl) rfl (fun K hK => ?_)
  go_simp
  refine (few_in _ _ _ _ _ _ _ _ _ _ _ _ (HK5.out.same ((((((Only.refl [] w5).drew).trans O6).trans O7).trans O8).trans O9)) HFE1.out).mono ?_
  rintro e w10 ⟨T0, T1, T2, Ta, Tb, Tc, ⟨rfl, hI10⟩, O10⟩
  have HX10 := Lib.hid hI10
  clear hI10
  refine hK.out _ _ (timed_holds (((((((Only.refl [] w5).drew).trans O6).trans O7).trans O8).trans O9).trans O10) (timed_nil)) ?_
  clear hK K
  try simp only [Act.put, List.getElem_toArray, List.getElem_cons_zero, List.getElem_cons_succ, List.setIfInBounds_toArray, List.set_cons_zero, List.set_cons_succ]
  refine timed_step (i := 15) (by kernel_rfl) rfl (fun K hK => ?_)
  go_simp
  refine (hsame_any _ _ _ _ _ _ _ _ _ _ _ _ _ _ _ _ _ _ _ _ _ _ _ (HX9.out.same O10) HX10.out).mono ?_
  rintro e w11 ⟨rfl, O11⟩
  rw [← HSB.out]
  refine hK.out _ _ (timed_holds ((((((((Only.refl [] w5).drew).trans O6).trans O7).trans O8).trans O9).trans O10).trans O11) (timed_nil)) ?_
  clear hK K
  try simp only [Act.put, List.getElem_toArray, List.getElem_cons_zero, List.getElem_cons_succ, List.setIfInBounds_toArray, List.set_cons_zero, List.set_cons_succ]
  refine timed_step (i := 18) (by kernel_rfl) rfl (fun K hK => ?_)
  go_simp
  refine (rsame11_any _ _ _ _ _ _ _ _ _ _ _ _ _ _ _ _ _ _ _ _ _ _ _ (HI5.out.same ((((((((Only.refl [] w5).drew).trans O6).trans O7).trans O8).trans O9).trans O10).trans O11)) (HK5.out.same ((((((((Only.refl [] w5).drew).trans O6).trans O7).trans O8).trans O9).trans O10).trans O11))).mono ?_
  rintro e w12 ⟨rfl, O12⟩
  rw [← HSB.out]
  refine hK.out _ _ (timed_holds (((((((((Only.refl [] w5).drew).trans O6).trans O7).trans O8).trans O9).trans O10).trans O11).trans O12) (timed_nil)) ?_
  clear hK K
  try simp only [Act.put, List.getElem_toArray, List.getElem_cons_zero, List.getElem_cons_succ, List.setIfInBounds_toArray, List.set_cons_zero, List.set_cons_succ]
  refine timed_pure (i := 19) (v := ?_) rfl (by kernel_rfl) (by kernel_rfl) (by kernel_rfl) (fun _ _ _ h => h) (by kernel_rfl) (by kernel_rfl) ?_ ?_
  rotate_left
  · (intro w; go_simp; try with_reducible rfl)
  try simp only [Act.put, List.getElem_toArray, List.getElem_cons_zero, List.getElem_cons_succ, List.setIfInBounds_toArray, List.set_cons_zero, List.set_cons_succ]
  refine timed_pure (i := 20) (v := ?_) rfl (by kernel_rfl) (by kernel_rfl) (by kernel_rfl) (fun _ _ _ h => h) (by kernel_rfl) (by kernel_rfl) ?_ ?_
  rotate_left
  · (intro w; go_simp; try with_reducible rfl)
  try simp only [Act.put, List.getElem_toArray, List.getElem_cons_zero, List.getElem_cons_succ, List.setIfInBounds_toArray, List.set_cons_zero, List.set_cons_succ]
  refine timed_pure (i := 21) (v := ?_) rfl (by kernel_rfl) (by kernel_rfl) (by kernel_rfl) (fun _ _ _ h => h) (by kernel_rfl) (by kernel_rfl) ?_ ?_
  rotate_left
  · (intro w; go_simp; try with_reducible rfl)
  try simp only [Act.put, List.getElem_toArray, List.getElem_cons_zero, List.getElem_cons_succ, List.setIfInBounds_toArray, List.set_cons_zero, List.set_cons_succ]
  refine timed_step (i := 22) (by kernel_rfl) rfl (fun K hK => ?_)
  go_simp
  refine (HW.out _ (HO5.out.trans (((((((((Only.refl [] w5).drew).trans O6).trans O7).trans O8).trans O9).trans O10).trans O11).trans O12))).mono ?_
  rintro e w13 ⟨rfl, O13⟩
  refine hK.out _ _ (timed_holds ((((((((((Only.refl [] w5).drew).trans O6).trans O7).trans O8).trans O9).trans O10).trans O11).trans O12).trans O13) (timed_nil)) ?_
  clear hK K
  try simp only [Act.put, List.getElem_toArray, List.getElem_cons_zero, List.getElem_cons_succ, List.setIfInBounds_toArray, List.set_cons_zero, List.set_cons_succ]
  refine timed_pure (i := 23) (v := ?_) rfl (by kernel_rfl) (by kernel_rfl) (by kernel_rfl) (fun _ _ _ h => h) (by kernel_rfl) (by kernel_rfl) ?_ ?_
  rotate_left
  · (intro w; go_simp; try with_reducible rfl)
  try simp only [Act.put, List.getElem_toArray, List.getElem_cons_zero, List.getElem_cons_succ, List.setIfInBounds_toArray, List.set_cons_zero, List.set_cons_succ]
  refine timed_pure (i := 24) (v := ?_) rfl (by kernel_rfl) (by kernel_rfl) (by kernel_rfl) (fun _ _ _ h => h) (by kernel_rfl) (by kernel_rfl) ?_ ?_
  rotate_left
  · (intro w; go_simp; try with_reducible rfl)
  try simp only [Act.put, List.getElem_toArray, List.getElem_cons_zero, List.getElem_cons_succ, List.setIfInBounds_toArray, List.set_cons_zero, List.set_cons_succ]
  refine timed_done (by kernel_rfl) ?_ _
  refine NoPanic.normal ?_
  have HNW := Lib.hid (HO5.out.trans ((((((((((Only.refl [] w5).drew).trans O6).trans O7).trans O8).trans O9).trans O10).trans O11).trans O12).trans O13))
  go_wp2
  go_ret
  exact ⟨rfl, HNW.out⟩
end Go.Proofs.YtpkibfpnfpjclaaDoor
