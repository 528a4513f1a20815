/- HistMays: the walk. -/
import Derived.Test.YtpkibfpnfpjclaaDoorHistI
import Derived.Test.YtpkibfpnfpjclaaDoorHistX
import Derived.Test.YtpkibfpnfpjclaaDoorRHistB
import Derived.Test.YtpkibfpnfpjclaaDoorRHistC
import Derived.Test.YtpkibfpnfpjclaaDoorSame
import Derived.Test.YtpkibfpnfpjclaaDoorTimed
set_option linter.unusedVariables false
set_option linter.unusedSimpArgs false
namespace Go.Proofs.YtpkibfpnfpjclaaDoor
open Go.RowKit
open Go.Lib hiding intOf
attribute [local go_sem ↓] Go.wp_at_zero Go.wp_at_succ

set_option maxRecDepth 10000 in
set_option maxHeartbeats 8000000 in
theorem histMays_walk (A0 A1 A2 : Option Addr) (c0 c1 c2 : Nat) (h : Hst) (x : Int) (w : World) (hg : HAt w w.heap.size A0 A1 A2 h) (hm0 : h.ss.length ≤ maxLen) (hm1 : h.ks.length ≤ maxLen) (hm2 : h.l.length ≤ maxLen)
    (hz0 : ∀ z ∈ h.ss, z.size ≤ maxLen) (hz1 : ∀ z ∈ h.ks, z.size ≤ maxLen) (hT : UTabs w) :
    Calls Tryd.prog 3 #[hval A0 A1 A2 h.ss.length h.ks.length h.l.length c0 c1 c2, .int .i64 x] w fun e w' => e = .returned (.bool true) ∧ Only [] w w' := by
  unfold hval
  have HW := Lib.hid (fun w' (h : Only [] w w') => works11_any w' (hT.only h))
  have HF0 := Lib.hid (fun w' (O : Only [] w w') => few_first A0 A1 A2 c0 c1 c2 h w' (hg.only O (by simp)).up hm0 hm1 hm2 hz0 hz1 (hT.only O))
  have HFE := Lib.hid (few_few h)
  have HT := Lib.hid hT
  generalize fewH h = G at *
  generalize h.ss.length = n0 at *
  generalize h.ks.length = n1 at *
  generalize h.l.length = n2 at *
  generalize G.ss.length = m0 at *
  generalize G.ks.length = m1 at *
  generalize G.l.length = m2 at *
  clear hg hm0 hm1 hm2 hz0 hz1 hT
  have HB := Lib.hid (Blk.made w 25 #[.slice A0 n0 c0, .slice A1 n1 c1, .slice A2 n2 c2])
  have HO1 := Lib.hid ((Only.refl [] w).alloc (.cells #[.slice A0 n0 c0, .slice A1 n1 c1, .slice A2 n2 c2] 25))
  go_enter Tryd.func3, Tryd.ntmps3
  go_wp2_with fail
  refine (HF0.out _ HO1.out).mono ?_
  rintro e w2 ⟨B0, B1, B2, d0, d1, d2, ⟨rfl, hI⟩, O2⟩
  have HI := Lib.hid hI
  have HB2 := Lib.hid (O2.blk HB.out (by simp))
  have HO2 := Lib.hid (HO1.out.trans O2)
  clear hI O2 HB HO1 HF0
  go_wp2_with (refine wpList_store_blk rfl 25 (.tmp 2) (.tmp 7) rfl w.heap.size 25 _ #[.slice B0 m0 d0, .slice B1 m1 d1, .slice B2 m2 d2] rfl rfl HB2.out rfl (by kernel_rfl) (by kernel_rfl) ?_; intro w3 hb3 o3; have HB3 := Lib.hid (hb3.alloc (.cells #[] 3)); have HO3 := Lib.hid (HO2.out.step o3 (fun i hi hl => by simp at hi; omega)); have HI3 := Lib.hid (HI.out.past HB2.out o3 (HT.out.only HO3.out)); have l3 := HB3.out.lt; have y0 := HB3.out.at_ 0; have y1 := HB3.out.at_ 1; have y2 := HB3.out.at_ 2; simp at y0 y1 y2; clear hb3 o3; generalize w.heap.size = g at *; clear HI HB2 HO2)
  have HA3 := Lib.hid ((Only.refl [] w3).alloc (.cells #[] 3))
  refine (refmay_any B0 B1 B2 m0 m1 m2 d0 d1 d2 w3.heap.size G _ (HI3.out.same HA3.out)).mono ?_
  rintro e w4 ⟨rfl, O4⟩
  have HB4 := Lib.hid (O4.blk HB3.out (by simp))
  have HO4 := Lib.hid ((HO3.out.trans HA3.out).trans O4)
  have HI4 := Lib.hid (HI3.out.same (HA3.out.trans O4))
  clear l3 y0 y1 y2 HB3 O4 HA3
  have l4 := HB4.out.lt
  have y0 := HB4.out.at_ 0
  have y1 := HB4.out.at_ 1
  have y2 := HB4.out.at_ 2
  simp at y0 y1 y2
  cases hm : mayH G with
  | false =>
    have HLS : Hid ((sesL G x).length = 0) := Lib.hid (by unfold sesL; rw [hm]; rfl)
    have HSN : Hid (sesL G x = []) := Lib.hid (by unfold sesL; rw [hm]; rfl)
    rw [mayH_errn hm]
    have HEE := Lib.hid (mayH_errn hm)
    clear hm
    have HR4 : Hid (Row w4 w4.heap.size (some ⟨w3.heap.size, 0, none⟩) ((sesL G x).map (Value.int .i64))) := Lib.hid (by rw [HSN.out]; exact .inl rfl)
    have hl0 : (sesL G x).length ≤ 1000 := by rw [HLS.out]; omega
    go_upto_region 5 with (fail)
    clear l4 y0 y1 y2
    refine wp_region_noPanic ?_
    refine wp_region_timed (F := [⟨[], [], fun w' => Only [] w4 w'⟩]) (by kernel_rfl) (timed_holds ((Only.refl [] w4).drew) (timed_nil)) ?_
    refine timed_read (i := 0) (v := ?_) 0 rfl (by kernel_rfl) (by kernel_rfl) (by kernel_rfl) (fun _ _ _ h => h) (by kernel_rfl) (by kernel_rfl) rfl (by kernel_rfl) ?_ ?_
    rotate_left
    · (intro wq hSw; (try dsimp only at hSw); have hb := hSw.blk HB4.out (by simp); have hlt := hb.lt; have y0 := hb.at_ 0; have y1 := hb.at_ 1; have y2 := hb.at_ 2; simp at y0 y1 y2; clear hSw; go_simp; try with_reducible rfl)
    try simp only [Act.put, List.getElem_toArray, List.getElem_cons_zero, List.getElem_cons_succ, List.setIfInBounds_toArray, List.set_cons_zero, List.set_cons_succ]
    refine timed_read (i := 3) (v := ?_) 0 rfl (by kernel_rfl) (by kernel_rfl) (by kernel_rfl) (fun _ _ _ h => h) (by kernel_rfl) (by kernel_rfl) rfl (by kernel_rfl) ?_ ?_
    rotate_left
    · (intro wq hSw; (try dsimp only at hSw); have hb := hSw.blk HB4.out (by simp); have hlt := hb.lt; have y0 := hb.at_ 0; have y1 := hb.at_ 1; have y2 := hb.at_ 2; simp at y0 y1 y2; clear hSw; go_simp; try with_reducible rfl)
    try simp only [Act.put, List.getElem_toArray, List.getElem_cons_zero, List.getElem_cons_succ, List.setIfInBounds_toArray, List.set_cons_zero, List.set_cons_succ]
    refine timed_step (i := 1) (by kernel_rfl) rfl (fun K hK => ?_)
    go_simp
    refine (few_in _ _ _ _ _ _ _ _ _ _ _ _ (HI4.out.same ((Only.refl [] _).drew)) HFE.out).mono ?_
    rintro e w5 ⟨D50, D51, D52, e50, e51, e52, ⟨rfl, hI5⟩, O5⟩
    have HI5 := Lib.hid hI5
    clear hI5
    refine hK.out _ _ (timed_holds (((Only.refl [] w4).drew).trans O5) (timed_nil)) ?_
    clear hK K
    try simp only [Act.put, List.getElem_toArray, List.getElem_cons_zero, List.getElem_cons_succ, List.setIfInBounds_toArray, List.set_cons_zero, List.set_cons_succ]
    refine timed_step (i := 2) (by kernel_rfl) rfl (fun K hK => ?_)
    go_simp
    refine (hmay_any _ _ _ _ _ _ _ _ _ _ _ _ HI5.out).mono ?_
    rintro e w6 ⟨rfl, O6⟩
    refine hK.out _ _ (timed_holds ((((Only.refl [] w4).drew).trans O5).trans O6) (timed_nil)) ?_
    clear hK K
    try simp only [Act.put, List.getElem_toArray, List.getElem_cons_zero, List.getElem_cons_succ, List.setIfInBounds_toArray, List.set_cons_zero, List.set_cons_succ]
    refine timed_step (i := 4) (by kernel_rfl) rfl (fun K hK => ?_)
    go_simp
    refine (refmay_any _ _ _ _ _ _ _ _ _ _ _ _ (HI4.out.same ((((Only.refl [] _).drew).trans O5).trans O6))).mono ?_
    rintro e w7 ⟨rfl, O7⟩
    refine hK.out _ _ (timed_holds (((((Only.refl [] w4).drew).trans O5).trans O6).trans O7) (timed_nil)) ?_
    clear hK K
    try simp only [Act.put, List.getElem_toArray, List.getElem_cons_zero, List.getElem_cons_succ, List.setIfInBounds_toArray, List.set_cons_zero, List.set_cons_succ]
    refine timed_pure (i := 5) (v := ?_) rfl (by kernel_rfl) (by kernel_rfl) (by kernel_rfl) (fun _ _ _ h => h) (by kernel_rfl) (by kernel_rfl) ?_ ?_
    rotate_left
    · (intro w; go_simp; try with_reducible rfl)
    try simp only [Act.put, List.getElem_toArray, List.getElem_cons_zero, List.getElem_cons_succ, List.setIfInBounds_toArray, List.set_cons_zero, List.set_cons_succ]
    refine timed_pure (i := 6) (v := ?_) rfl (by kernel_rfl) (by kernel_rfl) (by kernel_rfl) (fun _ _ _ h => h) (by kernel_rfl) (by kernel_rfl) ?_ ?_
    rotate_left
    · (intro w; go_simp; try with_reducible rfl)
    try simp only [Act.put, List.getElem_toArray, List.getElem_cons_zero, List.getElem_cons_succ, List.setIfInBounds_toArray, List.set_cons_zero, List.set_cons_succ]
    refine timed_read (i := 7) (v := ?_) 0 rfl (by kernel_rfl) (by kernel_rfl) (by kernel_rfl) (fun _ _ _ h => h) (by kernel_rfl) (by kernel_rfl) rfl (by kernel_rfl) ?_ ?_
    rotate_left
    · (intro wq hSw; (try dsimp only at hSw); have hb := hSw.blk HB4.out (by simp); have hlt := hb.lt; have y0 := hb.at_ 0; have y1 := hb.at_ 1; have y2 := hb.at_ 2; simp at y0 y1 y2; clear hSw; go_simp; try with_reducible rfl)
    try simp only [Act.put, List.getElem_toArray, List.getElem_cons_zero, List.getElem_cons_succ, List.setIfInBounds_toArray, List.set_cons_zero, List.set_cons_succ]
    refine timed_pure (i := 9) (v := ?_) rfl (by kernel_rfl) (by kernel_rfl) (by kernel_rfl) (fun _ _ _ h => h) (by kernel_rfl) (by kernel_rfl) ?_ ?_
    rotate_left
    · (intro w; go_simp; try with_reducible rfl)
    try simp only [Act.put, List.getElem_toArray, List.getElem_cons_zero, List.getElem_cons_succ, List.setIfInBounds_toArray, List.set_cons_zero, List.set_cons_succ]
    refine timed_pure (i := 11) (v := ?_) rfl (by kernel_rfl) (by kernel_rfl) (by kernel_rfl) (fun _ _ _ h => h) (by kernel_rfl) (by kernel_rfl) ?_ ?_
    rotate_left
    · (intro w; go_simp; try with_reducible rfl)
    try simp only [Act.put, List.getElem_toArray, List.getElem_cons_zero, List.getElem_cons_succ, List.setIfInBounds_toArray, List.set_cons_zero, List.set_cons_succ]
    refine timed_step (i := 8) (by kernel_rfl) rfl (fun K hK => ?_)
    go_simp
    refine (few_in _ _ _ _ _ _ _ _ _ _ _ _ (HI4.out.same (((((Only.refl [] _).drew).trans O5).trans O6).trans O7)) HFE.out).mono ?_
    rintro e w8 ⟨D80, D81, D82, e80, e81, e82, ⟨rfl, hI8⟩, O8⟩
    have HI8 := Lib.hid hI8
    clear hI8
    refine hK.out _ _ (timed_holds ((((((Only.refl [] w4).drew).trans O5).trans O6).trans O7).trans O8) (timed_nil)) ?_
    clear hK K
    try simp only [Act.put, List.getElem_toArray, List.getElem_cons_zero, List.getElem_cons_succ, List.setIfInBounds_toArray, List.set_cons_zero, List.set_cons_succ]
    refine timed_step (i := 10) (by kernel_rfl) rfl (fun K hK => ?_)
    go_simp
    refine (hsession_any _ _ _ _ _ _ _ _ _ _ _ _ _ HI8.out).mono ?_
    rintro e w9 ⟨A9, c9, ⟨rfl, hr9⟩, O9⟩
    have HR9 := Lib.hid hr9
    clear hr9
    refine hK.out _ _ (timed_holds (((((((Only.refl [] w4).drew).trans O5).trans O6).trans O7).trans O8).trans O9) (timed_nil)) ?_
    clear hK K
    try simp only [Act.put, List.getElem_toArray, List.getElem_cons_zero, List.getElem_cons_succ, List.setIfInBounds_toArray, List.set_cons_zero, List.set_cons_succ]
    refine timed_step (i := 12) (by kernel_rfl) rfl (fun K hK => ?_)
    go_simp
    refine (sameInts_any _ _ _ _ _ _ (sesL G x) (sesL G x) _ _ _ HR9.out (HR4.out.only (((((((Only.refl [] _).drew).trans O5).trans O6).trans O7).trans O8).trans O9) (by simp)) rfl (by first | exact HLS.out | rfl) (by omega) (by omega)).mono ?_
    rintro e w10 ⟨rfl, q10, rfl⟩
    rw [decide_eq_true (rfl : sesL G x = sesL G x)]
    have O10 := (Only.refl [] w9).drewN q10
    refine hK.out _ _ (timed_holds ((((((((Only.refl [] w4).drew).trans O5).trans O6).trans O7).trans O8).trans O9).trans O10) (timed_nil)) ?_
    clear hK K
    try simp only [Act.put, List.getElem_toArray, List.getElem_cons_zero, List.getElem_cons_succ, List.setIfInBounds_toArray, List.set_cons_zero, List.set_cons_succ]
    refine timed_pure (i := 13) (v := ?_) rfl (by kernel_rfl) (by kernel_rfl) (by kernel_rfl) (fun _ _ _ h => h) (by kernel_rfl) (by kernel_rfl) ?_ ?_
    rotate_left
    · (intro w; go_simp; try with_reducible rfl)
    try simp only [Act.put, List.getElem_toArray, List.getElem_cons_zero, List.getElem_cons_succ, List.setIfInBounds_toArray, List.set_cons_zero, List.set_cons_succ]
    refine timed_pure (i := 14) (v := ?_) rfl (by kernel_rfl) (by kernel_rfl) (by kernel_rfl) (fun _ _ _ h => h) (by kernel_rfl) (by kernel_rfl) ?_ ?_
    rotate_left
    · (intro w; go_simp; try with_reducible rfl)
    try simp only [Act.put, List.getElem_toArray, List.getElem_cons_zero, List.getElem_cons_succ, List.setIfInBounds_toArray, List.set_cons_zero, List.set_cons_succ]
    refine timed_step (i := 15) (by kernel_rfl) rfl (fun K hK => ?_)
    go_simp
    refine (HW.out _ (HO4.out.trans ((((((((Only.refl [] _).drew).trans O5).trans O6).trans O7).trans O8).trans O9).trans O10))).mono ?_
    rintro e w11 ⟨rfl, O11⟩
    refine hK.out _ _ (timed_holds (((((((((Only.refl [] w4).drew).trans O5).trans O6).trans O7).trans O8).trans O9).trans O10).trans O11) (timed_nil)) ?_
    clear hK K
    try simp only [Act.put, List.getElem_toArray, List.getElem_cons_zero, List.getElem_cons_succ, List.setIfInBounds_toArray, List.set_cons_zero, List.set_cons_succ]
    refine timed_pure (i := 16) (v := ?_) rfl (by kernel_rfl) (by kernel_rfl) (by kernel_rfl) (fun _ _ _ h => h) (by kernel_rfl) (by kernel_rfl) ?_ ?_
    rotate_left
    · (intro w; go_simp; try with_reducible rfl)
    try simp only [Act.put, List.getElem_toArray, List.getElem_cons_zero, List.getElem_cons_succ, List.setIfInBounds_toArray, List.set_cons_zero, List.set_cons_succ]
    refine timed_pure (i := 17) (v := ?_) rfl (by kernel_rfl) (by kernel_rfl) (by kernel_rfl) (fun _ _ _ h => h) (by kernel_rfl) (by kernel_rfl) ?_ ?_
    rotate_left
    · (intro w; go_simp; try with_reducible rfl)
    try simp only [Act.put, List.getElem_toArray, List.getElem_cons_zero, List.getElem_cons_succ, List.setIfInBounds_toArray, List.set_cons_zero, List.set_cons_succ]
    refine timed_done (by kernel_rfl) ?_ _
    refine NoPanic.normal ?_
    have HNW := Lib.hid (HO4.out.trans (((((((((Only.refl [] w4).drew).trans O5).trans O6).trans O7).trans O8).trans O9).trans O10).trans O11))
    go_wp2
    go_ret
    exact ⟨rfl, HNW.out⟩
  | true =>
    rw [mayH_err hm]
    have HLS : Hid ((sesL G x).length = (sesL G x).length) := Lib.hid rfl
    have HSN : Hid (sesL G x = whichL (fun t => decide (t.s = x)) G.l) := Lib.hid (by unfold sesL; rw [hm]; rfl)
    have HEE := Lib.hid (mayH_err hm)
    have HRS := Lib.hid (rsession_any B0 B1 B2 m0 m1 m2 d0 d1 d2 w3.heap.size G x w4 HI4.out.at_.r2 HI4.out.n2 (by rw [← HI4.out.n2]; exact HI4.out.sm.nl))
    rw [← HSN.out] at HRS
    have hl0 : (sesL G x).length ≤ 1000 := by rw [HSN.out]; exact Nat.le_trans (which_le _ _) HI4.out.sm.nl
    clear hm
    go_wp2_with fail
    refine (HRS.out).mono ?_
    rintro e w4 ⟨A5, c5, ⟨rfl, hr5⟩, O5⟩
    have HR4 := Lib.hid hr5
    have HB5 := Lib.hid (O5.blk HB4.out (by simp))
    have HO5 := Lib.hid (HO4.out.trans O5)
    have HI5 := Lib.hid (HI4.out.same O5)
    clear HRS hr5 l4 y0 y1 y2 HB4 HO4 HI4 O5
    have HB4 := HB5
    have HO4 := HO5
    have HI4 := HI5
    clear HB5 HO5 HI5
    go_upto_region 5 with (fail)
    refine wp_region_noPanic ?_
    refine wp_region_timed (F := [⟨[], [], fun w' => Only [] w4 w'⟩]) (by kernel_rfl) (timed_holds ((Only.refl [] w4).drew) (timed_nil)) ?_
    refine timed_read (i := 0) (v := ?_) 0 rfl (by kernel_rfl) (by kernel_rfl) (by kernel_rfl) (fun _ _ _ h => h) (by kernel_rfl) (by kernel_rfl) rfl (by kernel_rfl) ?_ ?_
    rotate_left
    · (intro wq hSw; (try dsimp only at hSw); have hb := hSw.blk HB4.out (by simp); have hlt := hb.lt; have y0 := hb.at_ 0; have y1 := hb.at_ 1; have y2 := hb.at_ 2; simp at y0 y1 y2; clear hSw; go_simp; try with_reducible rfl)
    try simp only [Act.put, List.getElem_toArray, List.getElem_cons_zero, List.getElem_cons_succ, List.setIfInBounds_toArray, List.set_cons_zero, List.set_cons_succ]
    refine timed_read (i := 3) (v := ?_) 0 rfl (by kernel_rfl) (by kernel_rfl) (by kernel_rfl) (fun _ _ _ h => h) (by kernel_rfl) (by kernel_rfl) rfl (by kernel_rfl) ?_ ?_
    rotate_left
    · (intro wq hSw; (try dsimp only at hSw); have hb := hSw.blk HB4.out (by simp); have hlt := hb.lt; have y0 := hb.at_ 0; have y1 := hb.at_ 1; have y2 := hb.at_ 2; simp at y0 y1 y2; clear hSw; go_simp; try with_reducible rfl)
    try simp only [Act.put, List.getElem_toArray, List.getElem_cons_zero, List.getElem_cons_succ, List.setIfInBounds_toArray, List.set_cons_zero, List.set_cons_succ]
    refine timed_step (i := 1) (by kernel_rfl) rfl (fun K hK => ?_)
    go_simp
    refine (few_in _ _ _ _ _ _ _ _ _ _ _ _ (HI4.out.same ((Only.refl [] _).drew)) HFE.out).mono ?_
    rintro e w5 ⟨D50, D51, D52, e50, e51, e52, ⟨rfl, hI5⟩, O5⟩
    have HI5 := Lib.hid hI5
    clear hI5
    refine hK.out _ _ (timed_holds (((Only.refl [] w4).drew).trans O5) (timed_nil)) ?_
    clear hK K
    try simp only [Act.put, List.getElem_toArray, List.getElem_cons_zero, List.getElem_cons_succ, List.setIfInBounds_toArray, List.set_cons_zero, List.set_cons_succ]
    refine timed_step (i := 2) (by kernel_rfl) rfl (fun K hK => ?_)
    go_simp
    refine (hmay_any _ _ _ _ _ _ _ _ _ _ _ _ HI5.out).mono ?_
    rintro e w6 ⟨rfl, O6⟩
    refine hK.out _ _ (timed_holds ((((Only.refl [] w4).drew).trans O5).trans O6) (timed_nil)) ?_
    clear hK K
    try simp only [Act.put, List.getElem_toArray, List.getElem_cons_zero, List.getElem_cons_succ, List.setIfInBounds_toArray, List.set_cons_zero, List.set_cons_succ]
    refine timed_step (i := 4) (by kernel_rfl) rfl (fun K hK => ?_)
    go_simp
    refine (refmay_any _ _ _ _ _ _ _ _ _ _ _ _ (HI4.out.same ((((Only.refl [] _).drew).trans O5).trans O6))).mono ?_
    rintro e w7 ⟨rfl, O7⟩
    refine hK.out _ _ (timed_holds (((((Only.refl [] w4).drew).trans O5).trans O6).trans O7) (timed_nil)) ?_
    clear hK K
    try simp only [Act.put, List.getElem_toArray, List.getElem_cons_zero, List.getElem_cons_succ, List.setIfInBounds_toArray, List.set_cons_zero, List.set_cons_succ]
    refine timed_pure (i := 5) (v := ?_) rfl (by kernel_rfl) (by kernel_rfl) (by kernel_rfl) (fun _ _ _ h => h) (by kernel_rfl) (by kernel_rfl) ?_ ?_
    rotate_left
    · (intro w; go_simp; try with_reducible rfl)
    try simp only [Act.put, List.getElem_toArray, List.getElem_cons_zero, List.getElem_cons_succ, List.setIfInBounds_toArray, List.set_cons_zero, List.set_cons_succ]
    refine timed_pure (i := 6) (v := ?_) rfl (by kernel_rfl) (by kernel_rfl) (by kernel_rfl) (fun _ _ _ h => h) (by kernel_rfl) (by kernel_rfl) ?_ ?_
    rotate_left
    · (intro w; go_simp; try with_reducible rfl)
    try simp only [Act.put, List.getElem_toArray, List.getElem_cons_zero, List.getElem_cons_succ, List.setIfInBounds_toArray, List.set_cons_zero, List.set_cons_succ]
    refine timed_read (i := 7) (v := ?_) 0 rfl (by kernel_rfl) (by kernel_rfl) (by kernel_rfl) (fun _ _ _ h => h) (by kernel_rfl) (by kernel_rfl) rfl (by kernel_rfl) ?_ ?_
    rotate_left
    · (intro wq hSw; (try dsimp only at hSw); have hb := hSw.blk HB4.out (by simp); have hlt := hb.lt; have y0 := hb.at_ 0; have y1 := hb.at_ 1; have y2 := hb.at_ 2; simp at y0 y1 y2; clear hSw; go_simp; try with_reducible rfl)
    try simp only [Act.put, List.getElem_toArray, List.getElem_cons_zero, List.getElem_cons_succ, List.setIfInBounds_toArray, List.set_cons_zero, List.set_cons_succ]
    refine timed_pure (i := 9) (v := ?_) rfl (by kernel_rfl) (by kernel_rfl) (by kernel_rfl) (fun _ _ _ h => h) (by kernel_rfl) (by kernel_rfl) ?_ ?_
    rotate_left
    · (intro w; go_simp; try with_reducible rfl)
    try simp only [Act.put, List.getElem_toArray, List.getElem_cons_zero, List.getElem_cons_succ, List.setIfInBounds_toArray, List.set_cons_zero, List.set_cons_succ]
    refine timed_pure (i := 11) (v := ?_) rfl (by kernel_rfl) (by kernel_rfl) (by kernel_rfl) (fun _ _ _ h => h) (by kernel_rfl) (by kernel_rfl) ?_ ?_
    rotate_left
    · (intro w; go_simp; try with_reducible rfl)
    try simp only [Act.put, List.getElem_toArray, List.getElem_cons_zero, List.getElem_cons_succ, List.setIfInBounds_toArray, List.set_cons_zero, List.set_cons_succ]
    refine timed_step (i := 8) (by kernel_rfl) rfl (fun K hK => ?_)
    go_simp
    refine (few_in _ _ _ _ _ _ _ _ _ _ _ _ (HI4.out.same (((((Only.refl [] _).drew).trans O5).trans O6).trans O7)) HFE.out).mono ?_
    rintro e w8 ⟨D80, D81, D82, e80, e81, e82, ⟨rfl, hI8⟩, O8⟩
    have HI8 := Lib.hid hI8
    clear hI8
    refine hK.out _ _ (timed_holds ((((((Only.refl [] w4).drew).trans O5).trans O6).trans O7).trans O8) (timed_nil)) ?_
    clear hK K
    try simp only [Act.put, List.getElem_toArray, List.getElem_cons_zero, List.getElem_cons_succ, List.setIfInBounds_toArray, List.set_cons_zero, List.set_cons_succ]
    refine timed_step (i := 10) (by kernel_rfl) rfl (fun K hK => ?_)
    go_simp
    refine (hsession_any _ _ _ _ _ _ _ _ _ _ _ _ _ HI8.out).mono ?_
    rintro e w9 ⟨A9, c9, ⟨rfl, hr9⟩, O9⟩
    have HR9 := Lib.hid hr9
    clear hr9
    refine hK.out _ _ (timed_holds (((((((Only.refl [] w4).drew).trans O5).trans O6).trans O7).trans O8).trans O9) (timed_nil)) ?_
    clear hK K
    try simp only [Act.put, List.getElem_toArray, List.getElem_cons_zero, List.getElem_cons_succ, List.setIfInBounds_toArray, List.set_cons_zero, List.set_cons_succ]
    refine timed_step (i := 12) (by kernel_rfl) rfl (fun K hK => ?_)
    go_simp
    refine (sameInts_any _ _ _ _ _ _ (sesL G x) (sesL G x) _ _ _ HR9.out (HR4.out.only (((((((Only.refl [] _).drew).trans O5).trans O6).trans O7).trans O8).trans O9) (by simp)) rfl (by first | exact HLS.out | rfl) (by omega) (by omega)).mono ?_
    rintro e w10 ⟨rfl, q10, rfl⟩
    rw [decide_eq_true (rfl : sesL G x = sesL G x)]
    have O10 := (Only.refl [] w9).drewN q10
    refine hK.out _ _ (timed_holds ((((((((Only.refl [] w4).drew).trans O5).trans O6).trans O7).trans O8).trans O9).trans O10) (timed_nil)) ?_
    clear hK K
    try simp only [Act.put, List.getElem_toArray, List.getElem_cons_zero, List.getElem_cons_succ, List.setIfInBounds_toArray, List.set_cons_zero, List.set_cons_succ]
    refine timed_pure (i := 13) (v := ?_) rfl (by kernel_rfl) (by kernel_rfl) (by kernel_rfl) (fun _ _ _ h => h) (by kernel_rfl) (by kernel_rfl) ?_ ?_
    rotate_left
    · (intro w; go_simp; try with_reducible rfl)
    try simp only [Act.put, List.getElem_toArray, List.getElem_cons_zero, List.getElem_cons_succ, List.setIfInBounds_toArray, List.set_cons_zero, List.set_cons_succ]
    refine timed_pure (i := 14) (v := ?_) rfl (by kernel_rfl) (by kernel_rfl) (by kernel_rfl) (fun _ _ _ h => h) (by kernel_rfl) (by kernel_rfl) ?_ ?_
    rotate_left
    · (intro w; go_simp; try with_reducible rfl)
    try simp only [Act.put, List.getElem_toArray, List.getElem_cons_zero, List.getElem_cons_succ, List.setIfInBounds_toArray, List.set_cons_zero, List.set_cons_succ]
    refine timed_step (i := 15) (by kernel_rfl) rfl (fun K hK => ?_)
    go_simp
    refine (HW.out _ (HO4.out.trans ((((((((Only.refl [] _).drew).trans O5).trans O6).trans O7).trans O8).trans O9).trans O10))).mono ?_
    rintro e w11 ⟨rfl, O11⟩
    refine hK.out _ _ (timed_holds (((((((((Only.refl [] w4).drew).trans O5).trans O6).trans O7).trans O8).trans O9).trans O10).trans O11) (timed_nil)) ?_
    clear hK K
    try simp only [Act.put, List.getElem_toArray, List.getElem_cons_zero, List.getElem_cons_succ, List.setIfInBounds_toArray, List.set_cons_zero, List.set_cons_succ]
    refine timed_pure (i := 16) (v := ?_) rfl (by kernel_rfl) (by kernel_rfl) (by kernel_rfl) (fun _ _ _ h => h) (by kernel_rfl) (by kernel_rfl) ?_ ?_
    rotate_left
    · (intro w; go_simp; try with_reducible rfl)
    try simp only [Act.put, List.getElem_toArray, List.getElem_cons_zero, List.getElem_cons_succ, List.setIfInBounds_toArray, List.set_cons_zero, List.set_cons_succ]
    refine timed_pure (i := 17) (v := ?_) rfl (by kernel_rfl) (by kernel_rfl) (by kernel_rfl) (fun _ _ _ h => h) (by kernel_rfl) (by kernel_rfl) ?_ ?_
    rotate_left
    · (intro w; go_simp; try with_reducible rfl)
    try simp only [Act.put, List.getElem_toArray, List.getElem_cons_zero, List.getElem_cons_succ, List.setIfInBounds_toArray, List.set_cons_zero, List.set_cons_succ]
    refine timed_done (by kernel_rfl) ?_ _
    refine NoPanic.normal ?_
    have HNW := Lib.hid (HO4.out.trans (((((((((Only.refl [] w4).drew).trans O5).trans O6).trans O7).trans O8).trans O9).trans O10).trans O11))
    go_wp2
    go_ret
    exact ⟨rfl, HNW.out⟩
end Go.Proofs.YtpkibfpnfpjclaaDoor
