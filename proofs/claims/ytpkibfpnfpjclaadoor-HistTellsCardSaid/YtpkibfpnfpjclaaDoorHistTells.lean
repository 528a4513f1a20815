/- HistTells: the walk. -/
import Derived.Test.YtpkibfpnfpjclaaDoorHistI
import Derived.Test.YtpkibfpnfpjclaaDoorHistX
import Derived.Test.YtpkibfpnfpjclaaDoorRHistB
import Derived.Test.YtpkibfpnfpjclaaDoorRHistC
import Derived.Test.YtpkibfpnfpjclaaDoorSame
import Derived.Test.YtpkibfpnfpjclaaDoorTimed
set_option linter.unusedVariables false
set_option linter.unusedSimpArgs false
namespace Go.Proofs.YtpkibfpnfpjclaaDoor
open Go.RowKit
open Go.Lib hiding intOf
attribute [local go_sem ↓] Go.wp_at_zero Go.wp_at_succ

set_option maxRecDepth 10000 in
set_option maxHeartbeats 8000000 in
theorem histTells_walk (A0 A1 A2 : Option Addr) (c0 c1 c2 : Nat) (h : Hst) (w : World) (hg : HAt w w.heap.size A0 A1 A2 h) (hm0 : h.ss.length ≤ maxLen) (hm1 : h.ks.length ≤ maxLen) (hm2 : h.l.length ≤ maxLen)
    (hz0 : ∀ z ∈ h.ss, z.size ≤ maxLen) (hz1 : ∀ z ∈ h.ks, z.size ≤ maxLen) (hT : UTabs w) :
    Calls Tryd.prog 4 #[hval A0 A1 A2 h.ss.length h.ks.length h.l.length c0 c1 c2] w fun e w' => e = .returned (.bool true) ∧ Only [] w w' := by
  unfold hval
  have HW := Lib.hid (fun w' (h : Only [] w w') => works11_any w' (hT.only h))
  have HF0 := Lib.hid (fun w' (O : Only [] w w') => few_first A0 A1 A2 c0 c1 c2 h w' (hg.only O (by simp)).up hm0 hm1 hm2 hz0 hz1 (hT.only O))
  have HFE := Lib.hid (few_few h)
  have HT := Lib.hid hT
  generalize fewH h = G at *
  generalize h.ss.length = n0 at *
  generalize h.ks.length = n1 at *
  generalize h.l.length = n2 at *
  generalize G.ss.length = m0 at *
  generalize G.ks.length = m1 at *
  generalize G.l.length = m2 at *
  clear hg hm0 hm1 hm2 hz0 hz1 hT
  have HB := Lib.hid (Blk.made w 25 #[.slice A0 n0 c0, .slice A1 n1 c1, .slice A2 n2 c2])
  have HO1 := Lib.hid ((Only.refl [] w).alloc (.cells #[.slice A0 n0 c0, .slice A1 n1 c1, .slice A2 n2 c2] 25))
  go_enter Tryd.func4, Tryd.ntmps4
  go_wp2_with fail
  refine (HF0.out _ HO1.out).mono ?_
  rintro e w2 ⟨B0, B1, B2, d0, d1, d2, ⟨rfl, hI⟩, O2⟩
  have HI := Lib.hid hI
  have HB2 := Lib.hid (O2.blk HB.out (by simp))
  have HO2 := Lib.hid (HO1.out.trans O2)
  clear hI O2 HB HO1 HF0
  go_wp2_with (refine wpList_store_blk rfl 25 (.tmp 1) (.tmp 6) rfl w.heap.size 25 _ #[.slice B0 m0 d0, .slice B1 m1 d1, .slice B2 m2 d2] rfl rfl HB2.out rfl (by kernel_rfl) (by kernel_rfl) ?_; intro w3 hb3 o3; have HB3 := Lib.hid ((hb3.alloc (.cells #[] 3)).alloc (.cells #[] 58)); have HO3 := Lib.hid (HO2.out.step o3 (fun i hi hl => by simp at hi; omega)); have HI3 := Lib.hid (HI.out.past HB2.out o3 (HT.out.only HO3.out)); have l3 := HB3.out.lt; have y0 := HB3.out.at_ 0; have y1 := HB3.out.at_ 1; have y2 := HB3.out.at_ 2; simp at y0 y1 y2; clear hb3 o3; generalize w.heap.size = g at *; clear HI HB2 HO2)
  have HA3 := Lib.hid (((Only.refl [] w3).alloc (.cells #[] 3)).alloc (.cells #[] 58))
  refine (refmay_any B0 B1 B2 m0 m1 m2 d0 d1 d2 w3.heap.size G _ (HI3.out.same HA3.out)).mono ?_
  rintro e w4 ⟨rfl, O4⟩
  have HB4 := Lib.hid (O4.blk HB3.out (by simp))
  have HO4 := Lib.hid ((HO3.out.trans HA3.out).trans O4)
  have HI4 := Lib.hid (HI3.out.same (HA3.out.trans O4))
  clear l3 y0 y1 y2 HB3 O4 HA3
  have l4 := HB4.out.lt
  have y0 := HB4.out.at_ 0
  have y1 := HB4.out.at_ 1
  have y2 := HB4.out.at_ 2
  simp at y0 y1 y2
  have hl0 : (infL G).length ≤ 1000 := by
    unfold infL
    split
    · exact Nat.le_trans (which_le _ _) HI4.out.sm.nl
    · exact Nat.zero_le _
  have hl1 : (losL G).length ≤ 1000000 := by
    unfold losL
    split
    · refine Nat.le_trans (lostP_le _) (Nat.le_trans (plsL_len _ HI4.out.sm.no) ?_)
      have := HI4.out.sm.nl
      omega
    · exact Nat.zero_le _
  cases hm : mayH G with
  | false =>
    have HLI : Hid ((infL G).length = 0) := Lib.hid (by unfold infL; rw [hm]; rfl)
    have HLL : Hid ((losL G).length = 0) := Lib.hid (by unfold losL; rw [hm]; rfl)
    rw [mayH_errn hm]
    clear hm
    have HR4 : Hid (Row w4 w4.heap.size (some ⟨w3.heap.size, 0, none⟩) ((infL G).map (Value.int .i64))) := Lib.hid (by rw [List.eq_nil_of_length_eq_zero HLI.out]; exact .inl rfl)
    have HP4 : Hid (Row w4 w4.heap.size (some ⟨w3.heap.size + 1, 0, none⟩) (placeC (losL G))) := Lib.hid (by rw [List.eq_nil_of_length_eq_zero HLL.out]; exact .inl rfl)
    have HSL := Lib.hid (fun A A' c d w' B B' hA hA' => samePl_eq A A' (losL G).length c d (losL G) w' B B' hA hA' rfl (by omega))
    rw [HLL.out] at HSL
    go_wp2_with fail
    refine (few_in _ _ _ _ _ _ _ _ _ _ _ _ HI4.out HFE.out).mono ?_
    rintro e w5 ⟨D0, D1, D2, f0, f1, f2, ⟨rfl, hI5⟩, O5⟩
    have HI5 := Lib.hid hI5
    have HN5 := Lib.hid O5
    clear hI5 O5 l4 y0 y1 y2
    go_wp2_with fail
    refine (hinfos_any _ _ _ _ _ _ _ _ _ _ _ _ HI5.out).mono ?_
    rintro e w6 ⟨A6, c6, ⟨rfl, hr6⟩, O6⟩
    have HR6 := Lib.hid hr6
    have HN6 := Lib.hid (HN5.out.trans O6)
    clear hr6 O6 HN5 HI5
    go_wp2_with fail
    refine (sameInts_any _ _ _ _ _ _ (infL G) (infL G) _ _ _ HR6.out (HR4.out.only HN6.out (by simp)) rfl (by first | exact HLI.out | rfl) (by omega) (by omega)).mono ?_
    rintro e w7 ⟨rfl, q7, rfl⟩
    rw [decide_eq_true (rfl : infL G = infL G)]
    have HN7 := Lib.hid (HN6.out.drewN q7)
    clear HN6 HR6
    generalize w6.drewN q7 = w7 at *
    have hb7 := HN7.out.blk HB4.out (by simp)
    have l7 := hb7.lt
    have y0 := hb7.at_ 0
    have y1 := hb7.at_ 1
    have y2 := hb7.at_ 2
    simp at y0 y1 y2
    clear hb7
    go_wp2_with fail
    refine (few_in _ _ _ _ _ _ _ _ _ _ _ _ (HI4.out.same HN7.out) HFE.out).mono ?_
    rintro e w8 ⟨E0, E1, E2, k0, k1, k2, ⟨rfl, hI8⟩, O8⟩
    have HI8 := Lib.hid hI8
    have HN8 := Lib.hid (HN7.out.trans O8)
    clear hI8 O8 l7 y0 y1 y2 HN7
    go_wp2_with fail
    refine (hlost_any _ _ _ _ _ _ _ _ _ _ _ _ HI8.out).mono ?_
    rintro e w9 ⟨A9, c9, ⟨rfl, hr9⟩, O9⟩
    have HR9 := Lib.hid hr9
    have HN9 := Lib.hid (HN8.out.trans O9)
    clear hr9 O9 HN8 HI8
    rw [HLL.out]
    go_wp2_with fail
    refine (HSL.out _ _ _ _ _ _ _ HR9.out (HP4.out.only HN9.out (by simp))).mono ?_
    rintro e w10 ⟨rfl, q10, rfl⟩
    have HN10 := Lib.hid (HN9.out.drewN q10)
    generalize w9.drewN q10 = w10 at *
    go_wp2_with fail
    refine (HW.out _ (HO4.out.trans HN10.out)).mono ?_
    rintro e w11 ⟨rfl, O11⟩
    have HZ := Lib.hid ((HO4.out.trans HN10.out).trans O11)
    clear O11
    go_wp2
    go_ret
    exact ⟨rfl, HZ.out⟩
  | true =>
    have HLI : Hid (whichL (fun t => decide (t.f = 3)) G.l = infL G) := Lib.hid (by unfold infL; rw [hm]; rfl)
    have HLL : Hid (lostP (plsL G.l) = losL G) := Lib.hid (by unfold losL; rw [hm]; rfl)
    rw [mayH_err hm]
    clear hm
    have HRS := Lib.hid (fun w' (O : Only [] w4 w') => rinfos_any B0 B1 B2 m0 m1 m2 d0 d1 d2 w3.heap.size G w' (HI4.out.same O).at_.r2 HI4.out.n2 (by rw [← HI4.out.n2]; exact HI4.out.sm.nl))
    have HRL := Lib.hid (fun w' (O : Only [] w4 w') => rlost_any B0 B1 B2 m0 m1 m2 d0 d1 d2 w3.heap.size G w' (HI4.out.same O).at_.r2 HI4.out.n2 (by rw [← HI4.out.n2]; exact HI4.out.sm.nl) HI4.out.sm.no)
    rw [HLI.out] at HRS
    rw [HLL.out] at HRL
    have HSL := Lib.hid (fun A A' c d w' B B' hA hA' => samePl_eq A A' (losL G).length c d (losL G) w' B B' hA hA' rfl (by omega))
    clear HLI HLL
    have HLI : Hid (1 = 1 ∧ (infL G).length = (infL G).length) := Lib.hid ⟨rfl, rfl⟩
    go_upto_region 4 with (fail)
    clear l4 y0 y1 y2
    refine wp_region_noPanic ?_
    refine wp_region_timed (F := [⟨[], [], fun w' => Only [] w4 w'⟩]) (by kernel_rfl) (timed_holds ((Only.refl [] w4).drew) (timed_nil)) ?_
    refine timed_read (i := 0) (v := ?_) 0 rfl (by kernel_rfl) (by kernel_rfl) (by kernel_rfl) (fun _ _ _ h => h) (by kernel_rfl) (by kernel_rfl) rfl (by kernel_rfl) ?_ ?_
    rotate_left
    · (intro wq hSw; (try dsimp only at hSw); have hb := hSw.blk HB4.out (by simp); have hlt := hb.lt; have y0 := hb.at_ 0; have y1 := hb.at_ 1; have y2 := hb.at_ 2; simp at y0 y1 y2; clear hSw; go_simp; try with_reducible rfl)
    try simp only [Act.put, List.getElem_toArray, List.getElem_cons_zero, List.getElem_cons_succ, List.setIfInBounds_toArray, List.set_cons_zero, List.set_cons_succ]
    refine timed_read (i := 2) (v := ?_) 0 rfl (by kernel_rfl) (by kernel_rfl) (by kernel_rfl) (fun _ _ _ h => h) (by kernel_rfl) (by kernel_rfl) rfl (by kernel_rfl) ?_ ?_
    rotate_left
    · (intro wq hSw; (try dsimp only at hSw); have hb := hSw.blk HB4.out (by simp); have hlt := hb.lt; have y0 := hb.at_ 0; have y1 := hb.at_ 1; have y2 := hb.at_ 2; simp at y0 y1 y2; clear hSw; go_simp; try with_reducible rfl)
    try simp only [Act.put, List.getElem_toArray, List.getElem_cons_zero, List.getElem_cons_succ, List.setIfInBounds_toArray, List.set_cons_zero, List.set_cons_succ]
    refine timed_step (i := 1) (by kernel_rfl) rfl (fun K hK => ?_)
    go_simp
    refine (HRS.out _ (Only.refl [] _).drew).mono ?_
    rintro e w5 ⟨A5, c5, ⟨rfl, hr5⟩, O5⟩
    have HRI := Lib.hid hr5
    clear hr5
    refine hK.out _ _ (timed_holds (((Only.refl [] w4).drew).trans O5) (timed_nil)) ?_
    clear hK K
    try simp only [Act.put, List.getElem_toArray, List.getElem_cons_zero, List.getElem_cons_succ, List.setIfInBounds_toArray, List.set_cons_zero, List.set_cons_succ]
    refine timed_step (i := 3) (by kernel_rfl) rfl (fun K hK => ?_)
    go_simp
    refine (HRL.out _ ((Only.refl [] _).drew.trans O5)).mono ?_
    rintro e w4b ⟨A6, c6, ⟨rfl, hp6⟩, O6⟩
    refine hK.out _ _ (timed_holds ((((Only.refl [] w4).drew).trans O5).trans O6) (timed_nil)) ?_
    clear hK K
    try simp only [Act.put, List.getElem_toArray, List.getElem_cons_zero, List.getElem_cons_succ, List.setIfInBounds_toArray, List.set_cons_zero, List.set_cons_succ]
    refine timed_pure (i := 4) (v := ?_) rfl (by kernel_rfl) (by kernel_rfl) (by kernel_rfl) (fun _ _ _ h => h) (by kernel_rfl) (by kernel_rfl) ?_ ?_
    rotate_left
    · (intro w; go_simp; try with_reducible rfl)
    try simp only [Act.put, List.getElem_toArray, List.getElem_cons_zero, List.getElem_cons_succ, List.setIfInBounds_toArray, List.set_cons_zero, List.set_cons_succ]
    refine timed_pure (i := 5) (v := ?_) rfl (by kernel_rfl) (by kernel_rfl) (by kernel_rfl) (fun _ _ _ h => h) (by kernel_rfl) (by kernel_rfl) ?_ ?_
    rotate_left
    · (intro w; go_simp; try with_reducible rfl)
    try simp only [Act.put, List.getElem_toArray, List.getElem_cons_zero, List.getElem_cons_succ, List.setIfInBounds_toArray, List.set_cons_zero, List.set_cons_succ]
    refine timed_done (by kernel_rfl) ?_ _
    refine NoPanic.normal ?_
    have HNS := Lib.hid ( ((((Only.refl [] w4).drew).trans O5).trans O6))
    have HR5 := Lib.hid (HRI.out.only O6 (by simp))
    have HP5 := Lib.hid hp6
    have HB5 := Lib.hid (HNS.out.blk HB4.out (by simp))
    have HI5 := Lib.hid (HI4.out.same HNS.out)
    have HO5 := Lib.hid (HO4.out.trans HNS.out)
    clear hp6 HRI HRS HRL HNS HB4 HO4 HI4 O5 O6
    have HB4 := HB5
    have HI4 := HI5
    have HO4 := HO5
    have HR4 := HR5
    have HP4 := HP5
    clear HB5 HI5 HO5 HR5 HP5
    have l4 := HB4.out.lt
    have y0 := HB4.out.at_ 0
    have y1 := HB4.out.at_ 1
    have y2 := HB4.out.at_ 2
    simp at y0 y1 y2
    go_wp2_with fail
    refine (few_in _ _ _ _ _ _ _ _ _ _ _ _ HI4.out HFE.out).mono ?_
    rintro e w5 ⟨D0, D1, D2, f0, f1, f2, ⟨rfl, hI5⟩, O5⟩
    have HI5 := Lib.hid hI5
    have HN5 := Lib.hid O5
    clear hI5 O5 l4 y0 y1 y2
    go_wp2_with fail
    refine (hinfos_any _ _ _ _ _ _ _ _ _ _ _ _ HI5.out).mono ?_
    rintro e w6 ⟨A6, c6, ⟨rfl, hr6⟩, O6⟩
    have HR6 := Lib.hid hr6
    have HN6 := Lib.hid (HN5.out.trans O6)
    clear hr6 O6 HN5 HI5
    go_wp2_with fail
    refine (sameInts_any _ _ _ _ _ _ (infL G) (infL G) _ _ _ HR6.out (HR4.out.only HN6.out (by simp)) rfl (by first | exact HLI.out | rfl) (by omega) (by omega)).mono ?_
    rintro e w7 ⟨rfl, q7, rfl⟩
    rw [decide_eq_true (rfl : infL G = infL G)]
    have HN7 := Lib.hid (HN6.out.drewN q7)
    clear HN6 HR6
    generalize w6.drewN q7 = w7 at *
    have hb7 := HN7.out.blk HB4.out (by simp)
    have l7 := hb7.lt
    have y0 := hb7.at_ 0
    have y1 := hb7.at_ 1
    have y2 := hb7.at_ 2
    simp at y0 y1 y2
    clear hb7
    go_wp2_with fail
    refine (few_in _ _ _ _ _ _ _ _ _ _ _ _ (HI4.out.same HN7.out) HFE.out).mono ?_
    rintro e w8 ⟨E0, E1, E2, k0, k1, k2, ⟨rfl, hI8⟩, O8⟩
    have HI8 := Lib.hid hI8
    have HN8 := Lib.hid (HN7.out.trans O8)
    clear hI8 O8 l7 y0 y1 y2 HN7
    go_wp2_with fail
    refine (hlost_any _ _ _ _ _ _ _ _ _ _ _ _ HI8.out).mono ?_
    rintro e w9 ⟨A9, c9, ⟨rfl, hr9⟩, O9⟩
    have HR9 := Lib.hid hr9
    have HN9 := Lib.hid (HN8.out.trans O9)
    clear hr9 O9 HN8 HI8
    go_wp2_with fail
    refine (HSL.out _ _ _ _ _ _ _ HR9.out (HP4.out.only HN9.out (by simp))).mono ?_
    rintro e w10 ⟨rfl, q10, rfl⟩
    have HN10 := Lib.hid (HN9.out.drewN q10)
    generalize w9.drewN q10 = w10 at *
    go_wp2_with fail
    refine (HW.out _ (HO4.out.trans HN10.out)).mono ?_
    rintro e w11 ⟨rfl, O11⟩
    have HZ := Lib.hid ((HO4.out.trans HN10.out).trans O11)
    clear O11
    go_wp2
    go_ret
    exact ⟨rfl, HZ.out⟩
end Go.Proofs.YtpkibfpnfpjclaaDoor
