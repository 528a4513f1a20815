/- Parts. -/
import Derived.Test.YtghimogdeijgdaaGreatDoorLaw17AllK44
set_option maxRecDepth 10000
set_option maxHeartbeats 16000000
set_option linter.unusedVariables false
set_option linter.unusedSimpArgs false
namespace Go.Proofs.YtghimogdeijgdaaGreatDoor
open Go.RowKit
open Go.Lib hiding intOf
attribute [local go_sem ↓] Go.wp_at_zero Go.wp_at_succ
attribute [-go_sem] Go.run_slice_l Go.run_slice_h Go.run_slice_any Go.run_slice_lh in
theorem wmake_any (A0 A1 A2 Ac Al : Option Addr) (n0 n1 n2 nc nl c0 c1 c2 cc cl B Bc Bl : Nat) (h : Hst) (x : Wld) (w : World) (hg : HIn w B A0 A1 A2 n0 n1 n2 h) (hc : Row w Bc Ac (x.c.map Value.bool)) (hl : Row w Bl Al (edgeC x.l)) (hcl : x.c.length = nc) (hll : x.l.length = nl) (hM : nl ≤ 100000) (hcap : nl ≤ cl) :
    Calls Tryz.prog 8 #[hval A0 A1 A2 n0 n1 n2 c0 c1 c2, .agg #[.slice Ac nc cc, .slice Al nl cl]] w fun e w' => ∃ B0 B1 B2 d0 d1 d2, (e = .returned (.tuple #[.agg #[.slice B0 (makeR h x).1.ss.length d0, .slice B1 (makeR h x).1.ks.length d1, .slice B2 (makeR h x).1.l.length d2], .int .i64 (makeR h x).2]) ∧ HNew w.heap.size w' B0 B1 B2 (makeR h x).1) ∧ Only [] w w' := by
  have O1 : Only [] w (((w.alloc (.cells #[.slice A0 n0 c0, .slice A1 n1 c1, .slice A2 n2 c2] 25)).alloc (.cells #[.slice Ac nc cc, .slice Al nl cl] 29)).alloc (.cells zeroH 25)) := (((Only.refl [] w).alloc _).alloc _).alloc _
  have HI := Hd hg
  have HC := Hd hc
  have HL := Hd hl
  have HMY := Hd (fun w' (O : Only [] w w') => hmay_any A0 A1 A2 n0 n1 n2 c0 c1 c2 B h w' (hg.same O))
  have HMW := Hd (fun w' (O : Only [] w w') => wmay_any A0 A1 A2 Ac Al n0 n1 n2 nc nl c0 c1 c2 cc cl B Bl h x w' (hg.same O) (hl.only O (by simp)) hcl hll hM)
  have HCM := Hd (fun w' (O : Only [] w w') => wcommits_any A0 A1 A2 Ac Al n0 n1 n2 nc nl c0 c1 c2 cc cl B Bc Bl h x w' (hg.same O) (hc.only O (by simp)) (hl.only O (by simp)) hcl hll hM)
  have HO1 := Hd O1
  have HB1 := Hd (((Blk.made w 25 #[.slice A0 n0 c0, .slice A1 n1 c1, .slice A2 n2 c2]).alloc (.cells #[.slice Ac nc cc, .slice Al nl cl] 29)).alloc (.cells zeroH 25))
  have HW1 := Hd ((Blk.made (w.alloc (.cells #[.slice A0 n0 c0, .slice A1 n1 c1, .slice A2 n2 c2] 25)) 29 #[.slice Ac nc cc, .slice Al nl cl]).alloc (.cells zeroH 25))
  have HR1 := Hd (Blk.made ((w.alloc (.cells #[.slice A0 n0 c0, .slice A1 n1 c1, .slice A2 n2 c2] 25)).alloc (.cells #[.slice Ac nc cc, .slice Al nl cl] 29)) 25 zeroH)
  unfold hval at HMY HMW HCM ⊢
  unfold zeroH at HO1 HR1 HB1 HW1
  simp only [World.size_alloc] at HR1 HW1
  unfold makeR
  have HLL := Hd hll
  clear O1 hg hc hl hcl hll
  cases hm : mayH h with
  | false =>
    rw [errH_not hm] at HMY
    rw [if_neg (by decide)]
    clear hm HMW HCM
    go_enter Tryz.func8, Tryz.ntmps8
    go_wp2_with fail
    generalize hgr : w.heap.size + 1 + 1 = gr at *
    skip
    refine (HMY.out _ HO1.out).mono ?_
    rintro e w2 ⟨rfl, O2⟩
    have HO2 := Hd (HO1.out.trans O2)
    have HB2 := Hd (O2.blk HB1.out (by simp))
    have HW2 := Hd (O2.blk HW1.out (by simp))
    have HR2 := Hd (O2.blk HR1.out (by simp))
    clear HO1 HB1 HW1 HR1
    clear O2
    go_wp2_with (refine wpList_store_blk rfl 25 (.tmp 4) (.tmp 17) rfl gr 25 _ #[.slice none 0 0, .slice none 0 0, .slice none 0 0] rfl rfl HR2.out rfl (by kernel_rfl) (by kernel_rfl) ?_; intro w9 b9 o9; have HB9 := Hd b9; have HN9 := Hd o9; clear b9 o9)
    refine bodyPost_ret (results_row2 Tryz.results8 _ _ gr 25 #[.slice none 0 0, .slice none 0 0, .slice none 0 0] _ rfl HB9.out Tryz.underlying25 rfl (by kernel_rfl)) rfl ?_
    exact ⟨none, none, none, 0, 0, 0, ⟨rfl, fun S w' hS O => ⟨.inl rfl, .inl rfl, LRow.nil⟩⟩, HO2.out.step HN9.out (fun i hi hl => by simp at hi; omega)⟩
  | true =>
    rw [errH_yes hm] at HMY
    rw [if_pos rfl]
    clear hm
    cases hw : mayW h x with
    | false =>
      rw [hw] at HMW
      rw [if_neg (by decide)]
      clear hw HCM
      go_enter Tryz.func8, Tryz.ntmps8
      go_wp2_with fail
      generalize hgr : w.heap.size + 1 + 1 = gr at *
      generalize hgw : w.heap.size + 1 = gw at *
      skip
      refine (HMY.out _ HO1.out).mono ?_
      rintro e w2 ⟨rfl, O2⟩
      have HO2 := Hd (HO1.out.trans O2)
      have HB2 := Hd (O2.blk HB1.out (by simp))
      have HW2 := Hd (O2.blk HW1.out (by simp))
      have HR2 := Hd (O2.blk HR1.out (by simp))
      clear HO1 HB1 HW1 HR1
      clear O2
      have lHB_ := HB2.out.lt
      have y0 := HB2.out.at_ 0
      have y1 := HB2.out.at_ 1
      have y2 := HB2.out.at_ 2
      have lHW_ := HW2.out.lt
      have x0 := HW2.out.at_ 0
      have x1 := HW2.out.at_ 1
      simp at y0 y1 y2 x0 x1
      go_wp2_with fail
      refine (HMW.out _ HO2.out).mono ?_
      rintro e w3 ⟨rfl, O3⟩
      clear lHB_ lHW_ y0 y1 y2 x0 x1
      have HO3 := Hd (HO2.out.trans O3)
      have HB3 := Hd (O3.blk HB2.out (by simp))
      have HW3 := Hd (O3.blk HW2.out (by simp))
      have HR3 := Hd (O3.blk HR2.out (by simp))
      clear HO2 HB2 HW2 HR2
      clear O3
      go_wp2_with (refine wpList_store_blk rfl 25 (.tmp 4) (.tmp 23) rfl gr 25 _ #[.slice none 0 0, .slice none 0 0, .slice none 0 0] rfl rfl HR3.out rfl (by kernel_rfl) (by kernel_rfl) ?_; intro w9 b9 o9; have HB9 := Hd b9; have HN9 := Hd o9; clear b9 o9)
      refine bodyPost_ret (results_row2 Tryz.results8 _ _ gr 25 #[.slice none 0 0, .slice none 0 0, .slice none 0 0] _ rfl HB9.out Tryz.underlying25 rfl (by kernel_rfl)) rfl ?_
      exact ⟨none, none, none, 0, 0, 0, ⟨rfl, fun S w' hS O => ⟨.inl rfl, .inl rfl, LRow.nil⟩⟩, HO3.out.step HN9.out (fun i hi hl => by simp at hi; omega)⟩
    | true =>
      have HX : mayW h x = true := hw
      rw [hw] at HMW
      rw [if_pos rfl]
      have HCW : Hid (comW h x = comL h.l x.c) := Hd (by unfold comW; rw [if_pos hw])
      have HLT : Hid (nl = lostT h.l) := Hd (by rw [← HLL.out, (mayW_inv hw).2.2.1, lostXw_len])
      clear hw HX
      rw [HCW.out] at HCM
      obtain ⟨CS, hCS⟩ : ∃ CS, CS = comL h.l x.c := ⟨_, rfl⟩
      rw [← hCS] at HCM
      have HCS := Hd hCS
      have HCL : Hid (CS.length = n2) := Hd (by rw [hCS, comL_len, HI.out.n2])
      rw [HCL.out] at HCM
      clear hCS HCW HC
      have hn0 : n0 ≤ 1000 := by rw [← HI.out.n0]; exact HI.out.sm.ns
      have hn1 : n1 ≤ 1000 := by rw [← HI.out.n1]; exact HI.out.sm.nk
      have hn2 : n2 ≤ 1000 := by rw [← HI.out.n2]; exact HI.out.sm.nl
      have HZ0 : Hid (A0 = none → n0 = 0) := Hd (fun e => by
        subst e
        have h1 := row_none HI.out.at_.r0
        rw [← HI.out.n0]
        have := congrArg List.length h1
        simpa [strs] using this)
      have HZ1 : Hid (A1 = none → n1 = 0) := Hd (fun e => by
        subst e
        have h1 := row_none HI.out.at_.r1
        rw [← HI.out.n1]
        have := congrArg List.length h1
        simpa [strs] using this)
      go_enter Tryz.func8, Tryz.ntmps8
      go_wp2_with fail
      generalize hgr : w.heap.size + 1 + 1 = gr at *
      generalize hgw : w.heap.size + 1 = gw at *
      skip
      refine (HMY.out _ HO1.out).mono ?_
      rintro e w2 ⟨rfl, O2⟩
      have HO2 := Hd (HO1.out.trans O2)
      have HB2 := Hd (O2.blk HB1.out (by simp))
      have HW2 := Hd (O2.blk HW1.out (by simp))
      have HR2 := Hd (O2.blk HR1.out (by simp))
      clear HO1 HB1 HW1 HR1
      clear O2
      have lHB_ := HB2.out.lt
      have y0 := HB2.out.at_ 0
      have y1 := HB2.out.at_ 1
      have y2 := HB2.out.at_ 2
      have lHW_ := HW2.out.lt
      have x0 := HW2.out.at_ 0
      have x1 := HW2.out.at_ 1
      simp at y0 y1 y2 x0 x1
      go_wp2_with fail
      refine (HMW.out _ HO2.out).mono ?_
      rintro e w3 ⟨rfl, O3⟩
      clear lHB_ lHW_ y0 y1 y2 x0 x1
      have HO3 := Hd (HO2.out.trans O3)
      have HB3 := Hd (O3.blk HB2.out (by simp))
      have HW3 := Hd (O3.blk HW2.out (by simp))
      have HR3 := Hd (O3.blk HR2.out (by simp))
      clear HO2 HB2 HW2 HR2
      clear O3
      have hg3 : w.heap.size ≤ w3.heap.size := HO3.out.size
      have hgr3 : gr < w3.heap.size := HR3.out.lt
      go_upto_region 6 with (fail)
      have RD0 := Hd fun wq (hSw : Only [] w3 wq) => Bk2 (hSw.blk HB3.out (by simp))
      refine rg1 [] [] w3 ?_
      have OW : Only [] w3 w3.drew := (Only.refl [] w3).drew
      generalize hwz : w3.drew = wz at *
      clear hwz
      refine tQ 0 (h := trq 1 0 RD0 (h := tQ 3 (h := trq 4 0 RD0 (h := ?_))))
      apply cut_3_0_2 (fun w ca cb g9 Aa Ab => (Only [] w3 w) ∧ (w.ownsRow w3.heap.size 9 1 (.slice Aa n0 ca) n0 (strs h.ss)) ∧ (w.ownsRow w3.heap.size 9 1 (.slice Ab n1 cb) n1 (strs h.ks)) ∧ (∀ g, (Value.slice Aa n0 ca).ownBlock = some g → (Value.slice Ab n1 cb).ownBlock ≠ some g) ∧ (Blk w g9 25 #[.slice none 0 0, .slice none 0 0, .slice none 0 0]) ∧ (w3.heap.size ≤ g9))
      intro HST2_5_7
      apply cut_2_0_1 (fun w ca g9 Aa => (Only [] w3 w) ∧ (w.ownsRow w3.heap.size 9 1 (.slice Aa n0 ca) n0 (strs h.ss)) ∧ (Blk w g9 25 #[.slice none 0 0, .slice none 0 0, .slice none 0 0]) ∧ (w3.heap.size ≤ g9))
      intro HST2_7
      apply cut_2_0_2 (fun w ca cb Aa Ab => (Only [] w3 w) ∧ (w.ownsRow w3.heap.size 9 1 (.slice Aa n0 ca) n0 (strs h.ss)) ∧ (w.ownsRow w3.heap.size 9 1 (.slice Ab n1 cb) n1 (strs h.ks)) ∧ (∀ g, (Value.slice Aa n0 ca).ownBlock = some g → (Value.slice Ab n1 cb).ownBlock ≠ some g))
      intro HST2_5
      apply cut_1_0 (fun w g9 => (Only [] w3 w) ∧ (Blk w g9 25 #[.slice none 0 0, .slice none 0 0, .slice none 0 0]) ∧ (w3.heap.size ≤ g9))
      intro HST7
      apply cut_1_0_1 (fun w ca Aa => (Only [] w3 w) ∧ (w.ownsRow w3.heap.size 9 1 (.slice Aa n0 ca) n0 (strs h.ss)))
      intro HST2
      · skip
        refine timed_forks (l := [2, 7]) (by kernel_rfl) (by simp) (fork_cons ⟨_, rfl, fun K hK => ?_⟩ (fork_cons ⟨_, rfl, fun K hK => ?_⟩ (fork_nil)))
        · go_simp
          refine (clone_any A0 n0 c0 B h.ss _ HI.out.n0 hn0 ((HI.out.same (HO3.out.trans OW)).at_.r0) (fun e => ⟨HZ0.out e, rfl⟩)).mono ?_
          rintro e wa ⟨Oa, V2, rfl, hv2⟩
          obtain ⟨Aa, ca, rfl, -, -, -, -⟩ := own_row hv2
          have OV2 := own_lower hv2 OW.size
          have OS := Oa
          have OWn := OW.trans OS
          refine kOut hK (OWn) (h := ?_)
          clear hK K
          exact HST2 wa ca Aa ⟨OWn, OV2⟩
        · go_simp
          obtain ⟨OS, OWn, BLn, hszn⟩ := made_go 25 (#[.slice none 0 0, .slice none 0 0, .slice none 0 0]) OW
          generalize wz.alloc (.cells #[.slice none 0 0, .slice none 0 0, .slice none 0 0] 25) = wn at *
          generalize wz.heap.size = g9 at *
          refine kOut hK (OWn) (h := ?_)
          clear hK K
          exact HST7 wn g9 ⟨OWn, BLn, hszn⟩
      · skip
        intro wz ca Aa ⟨OW, OV2⟩
        refine timed_forks (l := [5, 7]) (by kernel_rfl) (by simp) (fork_cons ⟨_, rfl, fun K hK => ?_⟩ (fork_cons ⟨_, rfl, fun K hK => ?_⟩ (fork_nil)))
        · go_simp
          refine (clone_any A1 n1 c1 B h.ks _ HI.out.n1 hn1 ((HI.out.same (HO3.out.trans OW)).at_.r1) (fun e => ⟨HZ1.out e, rfl⟩)).mono ?_
          rintro e wa ⟨Oa, V5, rfl, hv5⟩
          obtain ⟨Ab, cb, rfl, -, -, -, -⟩ := own_row hv5
          have OV5 := own_lower hv5 OW.size
          have SPX : ∀ g, (Value.slice Aa n0 ca).ownBlock = some g → (Value.slice Ab n1 cb).ownBlock ≠ some g := fun g hg e => by
            have h1 := own_lt OV2 (g := g) (by rw [hg]; simp)
            have h2 := (hv5.lt g e).1
            omega
          have OS := Oa
          have OWn := OW.trans OS
          refine kOut hK (OWn) (h := ?_)
          clear hK K
          refine tQ 6 (h := ?_)
          exact HST2_5 wa ca cb Aa Ab ⟨OWn, own_only OV2 OS (by simp), OV5, SPX⟩
        · go_simp
          obtain ⟨OS, OWn, BLn, hszn⟩ := made_go 25 (#[.slice none 0 0, .slice none 0 0, .slice none 0 0]) OW
          generalize wz.alloc (.cells #[.slice none 0 0, .slice none 0 0, .slice none 0 0] 25) = wn at *
          generalize wz.heap.size = g9 at *
          refine kOut hK (OWn) (h := ?_)
          clear hK K
          exact HST2_7 wn ca g9 Aa ⟨OWn, own_only OV2 OS (by simp), BLn, hszn⟩
      · skip
        intro wz g9 ⟨OW, BL7, GE7⟩
        refine tst (i := 2) fun K hK => ?_
        go_simp
        refine (clone_any A0 n0 c0 B h.ss _ HI.out.n0 hn0 ((HI.out.same (HO3.out.trans OW)).at_.r0) (fun e => ⟨HZ0.out e, rfl⟩)).mono ?_
        rintro e wa ⟨Oa, V2, rfl, hv2⟩
        obtain ⟨Aa, ca, rfl, -, -, -, -⟩ := own_row hv2
        have OV2 := own_lower hv2 OW.size
        have OS := Oa
        have OWn := OW.trans OS
        refine kOut hK (OWn) (h := ?_)
        clear hK K
        exact HST2_7 wa ca g9 Aa ⟨OWn, OV2, OS.blk BL7 (by simp), GE7⟩
      · skip
        intro wz ca cb Aa Ab ⟨OW, OV2, OV5, SPX⟩
        refine tst (i := 7) fun K hK => ?_
        go_simp
        obtain ⟨OS, OWn, BLn, hszn⟩ := made_go 25 (#[.slice none 0 0, .slice none 0 0, .slice none 0 0]) OW
        generalize wz.alloc (.cells #[.slice none 0 0, .slice none 0 0, .slice none 0 0] 25) = wn at *
        generalize wz.heap.size = g9 at *
        refine kOut hK (OWn) (h := ?_)
        clear hK K
        exact HST2_5_7 wn ca cb g9 Aa Ab ⟨OWn, own_only OV2 OS (by simp), own_only OV5 OS (by simp), SPX, BLn, hszn⟩
      · skip
        intro wz ca g9 Aa ⟨OW, OV2, BL7, GE7⟩
        refine tst (i := 5) fun K hK => ?_
        go_simp
        refine (clone_any A1 n1 c1 B h.ks _ HI.out.n1 hn1 ((HI.out.same (HO3.out.trans OW)).at_.r1) (fun e => ⟨HZ1.out e, rfl⟩)).mono ?_
        rintro e wa ⟨Oa, V5, rfl, hv5⟩
        obtain ⟨Ab, cb, rfl, -, -, -, -⟩ := own_row hv5
        have OV5 := own_lower hv5 OW.size
        have SPX : ∀ g, (Value.slice Aa n0 ca).ownBlock = some g → (Value.slice Ab n1 cb).ownBlock ≠ some g := fun g hg e => by
          have h1 := own_lt OV2 (g := g) (by rw [hg]; simp)
          have h2 := (hv5.lt g e).1
          omega
        have OS := Oa
        have OWn := OW.trans OS
        refine kOut hK (OWn) (h := ?_)
        clear hK K
        refine tQ 6 (h := ?_)
        exact HST2_5_7 wa ca cb g9 Aa Ab ⟨OWn, own_only OV2 OS (by simp), OV5, SPX, OS.blk BL7 (by simp), GE7⟩
      -- behind all of the crowd
      intro wz ca cb g9 Aa Ab ⟨OW, OV2, OV5, SPX, BL7, GE7⟩
      refine tst (i := 8) fun K hK => ?_
      refine wp_store_blk 25 (.tmp 7) (.tmp 30) rfl g9 25 _ #[.slice Aa n0 ca, .slice Ab n1 cb, .slice none 0 0] rfl rfl BL7 rfl (by kernel_rfl) (by kernel_rfl) ?_
      intro w9 b9 o9
      have OW9 := OW.step o9 (fun i hi hl => by simp at hi; omega)
      refine kOut hK (OW9) (h := ?_)
      clear hK K
      refine tdn ?_
      have HO9 := Hd (HO3.out.trans OW9)
      have HB9 := Hd (OW9.blk HB3.out (by simp))
      have HW9 := Hd (OW9.blk HW3.out (by simp))
      have HR9 := Hd (OW9.blk HR3.out (by simp))
      have HG9 := Hd b9
      have HU9 := Hd (own_only OV2 o9 (fun g hg hm => by simp at hm; subst hm; exact own_apart OV2 BL7 (by decide) (by rw [hg]; simp)))
      have HK9 := Hd (own_only OV5 o9 (fun g hg hm => by simp at hm; subst hm; exact own_apart OV5 BL7 (by decide) (by rw [hg]; simp)))
      have HSP := Hd SPX
      have hge9 := GE7
      clear OV2 OV5 BL7 o9 b9 OW9 HB3 HW3 HR3 HO3 SPX GE7 OW HZ0 HZ1
      have hw9 : w.heap.size ≤ w9.heap.size := HO9.out.size
      have lHB_ := HB9.out.lt
      have y0 := HB9.out.at_ 0
      have y1 := HB9.out.at_ 1
      have y2 := HB9.out.at_ 2
      have lHW_ := HW9.out.lt
      have x0 := HW9.out.at_ 0
      have x1 := HW9.out.at_ 1
      simp at y0 y1 y2 x0 x1
      go_wp2_with fail
      refine (HCM.out _ HO9.out).mono ?_
      rintro e wb ⟨VC, ⟨rfl, hVC⟩, Ob⟩
      clear lHB_ lHW_ y0 y1 y2 x0 x1
      obtain ⟨AC, cC, rfl, -, -, -, -⟩ := own_row hVC
      have HKb : Hid (RK w wb #[.slice A0 n0 c0, .slice A1 n1 c1, .slice A2 n2 c2] w.heap.size gr g9 #[.slice Aa n0 ca, .slice Ab n1 cb, .slice none 0 0] ([rBo (.slice AC n2 cC) CS, rS (.slice Aa n0 ca) h.ss, rS (.slice Ab n1 cb) h.ks, rT (.slice none 0 0) []] ++ ([] : List TxA).map eRow)) := Hd (by
        have hu := own_only HU9.out Ob (by simp)
        have hk := own_only HK9.out Ob (by simp)
        have hR : ORs wb w.heap.size [rBo (.slice AC n2 cC) CS, rS (.slice Aa n0 ca) h.ss, rS (.slice Ab n1 cb) h.ks] := ors_three
          (by unfold OR.ok rBo; dsimp only; rw [HCL.out]; exact own_lower hVC hw9)
          (by unfold OR.ok rS; dsimp only; rw [HI.out.n0]; exact own_lower hu hg3)
          (by unfold OR.ok rS; dsimp only; rw [HI.out.n1]; exact own_lower hk hg3)
          (fun g hg e => own_two hVC hu (by decide) g hg (by have e' : (Value.slice Aa n0 ca).ownBlock = some g := e; simp [e']))
          (fun g hg e => own_two hVC hk (by decide) g hg (by have e' : (Value.slice Ab n1 cb).ownBlock = some g := e; simp [e']))
          (fun g hg e => HSP.out g hg e)
        have hK : RK w wb #[.slice A0 n0 c0, .slice A1 n1 c1, .slice A2 n2 c2] w.heap.size gr g9 #[.slice Aa n0 ca, .slice Ab n1 cb, .slice none 0 0] [rBo (.slice AC n2 cC) CS, rS (.slice Aa n0 ca) h.ss, rS (.slice Ab n1 cb) h.ks] :=
          { bh := Ob.blk HB9.out (by simp)
            br := Ob.blk HR9.out (by simp)
            bg := Ob.blk HG9.out (by simp)
            rows := hR
            o := HO9.out.trans Ob
            d01 := by omega
            d1G := by omega
            base := Nat.le_refl _
            ty := fun r hr => by
              simp at hr
              rcases hr with rfl | rfl | rfl
              · show 4 ≠ 25; decide
              · show 9 ≠ 25; decide
              · show 9 ≠ 25; decide }
        exact hK.push (r' := rT (.slice none 0 0) []) (World.ownsRow_nil _ _ _ _) rfl (by show 48 ≠ 25; decide))
      have HWb := Hd (Ob.blk HW9.out (by simp))
      have hgw1 : w.heap.size ≤ gw := by omega
      have HCP := Hd hcap
      clear Ob hVC HO9 HB9 HW9 HR9 HG9 HU9 HK9 HCM HSP hw9 hcap
      obtain ⟨ix, hix, hx0, hx1, hx2⟩ := info_parts info_txn
      have HNO := Hd HI.out.sm.no
      have HLN := Hd HI.out.n2
      have HIL := Hd HI.out.at_.r2
      go_wp2_with fail
      go_loopw [8, 37] (fun lv iv wr => ∃ (k : Nat) (V : Value) (xs : List TxA) (A' : Option Addr) (nq cq : Nat), lv = .slice A' nq cq ∧ iv = .int .i64 k ∧ k ≤ n2 ∧ nq + lostT (h.l.take k) = nl ∧ nq ≤ cq ∧ Hid (Row w Bl A' (edgeC (x.l.drop (lostT (h.l.take k))))) ∧ Hid (xs.map TxA.t = fillT (h.l.take k) CS x.l) ∧ Hid (∀ x ∈ xs, x.t.ops.length ≤ x.cp ∧ x.cp ≤ maxLen) ∧ Hid (Blk wr gw 29 #[.slice Ac nc cc, .slice Al nl cl]) ∧
        Hid (RK w wr #[.slice A0 n0 c0, .slice A1 n1 c1, .slice A2 n2 c2] w.heap.size gr g9 #[.slice Aa n0 ca, .slice Ab n1 cb, V] ([rBo (.slice AC n2 cC) CS, rS (.slice Aa n0 ca) h.ss, rS (.slice Ab n1 cb) h.ks, rT V xs] ++ xs.map eRow))) (fun _ iv _ => n2 - (intOf iv).toNat)
      case atStart => exact ⟨0, .slice none 0 0, [], Al, nl, cl, rfl, rfl, by omega, rfl, HCP.out, HL, Hd rfl, Hd (by simp), HWb, HKb⟩
      case round =>
        obtain ⟨k, V, xs, A', nq, cq, rfl, rfl, hk, hnq, hcq, hLR, hXS, hCP, hW, hK⟩ := hrel
        clear HKb HWb
        have hxl : xs.length = k := by
          have := congrArg List.length hXS.out
          rw [List.length_map, fillT_len, List.length_take, HLN.out, Nat.min_eq_left hk] at this
          exact this
        have lB := hK.out.bh.lt
        have y2 := hK.out.bh.at_ 2
        simp at y2
        by_cases hlt : k < n2
        · obtain ⟨t, ht⟩ : ∃ t, h.l[k]? = some t := ⟨_, List.getElem?_eq_getElem (by rw [HLN.out]; exact hlt)⟩
          obtain ⟨bt, ot, AT, cpt, rfl, hbtB, hbtw, hTA, hOk⟩ := HIL.out.at_ ht
          obtain ⟨a0, a1, a2⟩ := hTA.only hK.out.o hbtw (by simp)
          have hwg : w.heap.size ≤ wr.heap.size := hK.out.o.size
          have hbtr : bt < wr.heap.size := Nat.lt_of_lt_of_le hbtw hwg
          have hno := HNO.out t (List.mem_of_getElem? ht)
          have HROW := Hd hOk.row
          have HFT := Hd (fillT_take ht CS x.l)
          have HTK := Hd (lostT_take ht)
          have HIN := Hd (fun (j : Nat) (o : Op4) (ho : t.ops[j]? = some o) (e : o.vk = 2) => lostw_in ht ho e)
          obtain ⟨cb', hcb⟩ : ∃ b, CS[k]? = some b := ⟨_, List.getElem?_eq_getElem (by rw [HCL.out]; exact hlt)⟩
          have HCB : Hid (CS.getD k false = cb') := Hd (by rw [List.getD_eq_getElem?_getD, hcb]; rfl)
          have h01 : (k : Int) < (n2 : Int) := by omega
          have hk0 : (0 : Int) ≤ (k : Int) := Int.natCast_nonneg _
          have hwk : IntKind.i64.wrap ((k : Int) + 1) = (k : Int) + 1 := IntWalk.i64_in _ (by omega)
          have hr0 : wr.ownsRow w.heap.size 4 1 (.slice AC n2 cC) n2 (CS.map Value.bool) := by
            have := hK.out.rows.all 0 _ rfl
            unfold OR.ok rBo at this
            dsimp only at this
            rwa [HCL.out] at this
          obtain ⟨bc, rfl, -, hbc⟩ := own_head hr0 (by omega)
          have bb0 := (own_cell hr0 rfl (j := k) (u := .bool cb') (by rw [List.getElem?_map, hcb]; rfl)).1
          obtain ⟨us, hus⟩ : ∃ us, x.l.drop (lostT (h.l.take k)) = us := ⟨_, rfl⟩
          have HUS := Hd hus
          generalize hlk : lostT (h.l.take k) = lk at *
          obtain ⟨ts, tf, ops⟩ := t
          dsimp only at a0 a1 a2 hno HROW HFT HTK HIN
          generalize hmm : ops.length = m at *
          have HMM := Hd hmm
          clear ht hOk hTA hmm hcb hus hr0
          go_upto_region 12 with (fail)
          have O2 : Only [] wr (wr.alloc (.cells #[.int .i64 ts, .int .i64 tf, .slice AT m cpt] 48)) := (Only.refl [] wr).alloc _
          have HT2 := Hd (RTx.begin_ hK.out hW.out (fun r hr => by
            rcases List.mem_append.1 hr with h1 | h1
            · simp at h1
              rcases h1 with rfl | rfl | rfl | rfl
              · show 4 ≠ 29; decide
              · show 9 ≠ 29; decide
              · show 9 ≠ 29; decide
              · show 48 ≠ 29; decide
            · obtain ⟨z, -, rfl⟩ := List.mem_map.1 h1
              show 55 ≠ 29; decide) O2 (Blk.made wr 48 #[.int .i64 ts, .int .i64 tf, .slice AT m cpt]) (Nat.le_refl _))
          obtain ⟨L, hL⟩ : ∃ L, ([rBo (.slice (some ⟨bc, 0, none⟩) n2 cC) CS, rS (.slice Aa n0 ca) h.ss, rS (.slice Ab n1 cb) h.ks, rT V xs] ++ xs.map eRow) = L := ⟨_, rfl⟩
          rw [hL] at HT2
          have HL3 : Hid (L[3]? = some (rT V xs)) := Hd (by rw [← hL]; rfl)
          have HLE := Hd hL
          clear hL a0 a1 a2 lB y2 hK hW O2 bb0 hbc
          generalize (wr.alloc (.cells #[.int .i64 ts, .int .i64 tf, .slice AT m cpt] 48)) = w2 at *
          generalize wr.heap.size = gt at *
          have lT := HT2.out.t.lt
          have t2 := HT2.out.t.at_ 2
          simp at t2
          have hw2 : w.heap.size ≤ w2.heap.size := HT2.out.k.o.size
          have HCO := Hd (oclone_any AT m cpt B ops w2 (HROW.out.only HT2.out.k.o (by simp)) HMM.out (by omega))
          go_wp2_with fail
          refine (HCO.out).mono ?_
          rintro e w4 ⟨V4, ⟨rfl, hV4⟩, O4⟩
          obtain ⟨A4, c4, rfl, hm4, hc4, -, -⟩ := own_row hV4
          have HT4 := Hd (HT2.out.fresh (r := rO (.slice A4 m c4) ops) O4 (by unfold OR.ok rO; dsimp only; rw [HMM.out]; exact own_lower hV4 hw2) (by show 55 ≠ 25; decide) (by show 55 ≠ 29; decide) (fun g hg => (hV4.lt g hg).1))
          clear hV4 O4 lT t2 HCO HT2
          have lT := HT4.out.t.lt
          have t1 := HT4.out.t.at_ 1
          have t2 := HT4.out.t.at_ 2
          have f1 := HT4.out.t.free 1
          have f2 := HT4.out.t.free 2
          simp at t1 t2
          have HT5 : Hid (RTx w (w4.setCell ⟨gt, 1, none⟩ (.int .i64 2)) #[.slice A0 n0 c0, .slice A1 n1 c1, .slice (some ⟨bt, ot, none⟩) n2 c2] w.heap.size gr g9 #[.slice Aa n0 ca, .slice Ab n1 cb, V] (L ++ [rO (.slice A4 m c4) ops]) gt gw #[.int .i64 ts, .int .i64 2, .slice AT m cpt] #[.slice Ac nc cc, .slice Al nl cl]) := Hd (HT4.out.setT 1 (.int .i64 2))
          have HT6 : Hid (RTx w ((w4.setCell ⟨gt, 1, none⟩ (.int .i64 2)).setCell ⟨gt, 2, none⟩ (.slice A4 m c4)) #[.slice A0 n0 c0, .slice A1 n1 c1, .slice (some ⟨bt, ot, none⟩) n2 c2] w.heap.size gr g9 #[.slice Aa n0 ca, .slice Ab n1 cb, V] (L ++ [rO (.slice A4 m c4) ops]) gt gw #[.int .i64 ts, .int .i64 2, .slice A4 m c4] #[.slice Ac nc cc, .slice Al nl cl]) := Hd (HT5.out.setT 2 (.slice A4 m c4))
          go_upto_region 13 with (fail)
          clear HT4 HT5 lT t1 t2 f1 f2
          generalize ((w4.setCell ⟨gt, 1, none⟩ (.int .i64 2)).setCell ⟨gt, 2, none⟩ (.slice A4 m c4)) = w6 at *
          have lT := HT6.out.t.lt
          have f1 := HT6.out.t.free 1
          have t1 := HT6.out.t.at_ 1
          simp at t1
          go_upto_if 52 with (fail)
          go_cut [8] (fun lv wx => lv = .slice A' nq cq ∧ Hid (RTx w wx #[.slice A0 n0 c0, .slice A1 n1 c1, .slice (some ⟨bt, ot, none⟩) n2 c2] w.heap.size gr g9 #[.slice Aa n0 ca, .slice Ab n1 cb, V] (L ++ [rO (.slice A4 m c4) ops]) gt gw #[.int .i64 ts, .int .i64 (if cb' = true then 1 else 2), .slice A4 m c4] #[.slice Ac nc cc, .slice Al nl cl]))
          case first =>
            cases cb' with
            | true =>
              go_wp2
              go_meet
              exact ⟨rfl, Hd (HT6.out.setT 1 (.int .i64 1))⟩
            | false =>
              go_wp2
              go_meet
              exact ⟨rfl, HT6⟩
          case rest =>
            obtain ⟨rfl, HT7⟩ := hcut
            obtain ⟨wd, hwd⟩ : ∃ wd, wd = wc := ⟨_, rfl⟩
            subst hwd
            clear HT6 lT f1 t1
            obtain ⟨ft, hft⟩ : ∃ ft : Int, ft = (if cb' = true then 1 else 2) := ⟨_, rfl⟩
            rw [← hft] at HT7
            have HFTE := Hd hft
            clear hft
            have HST : Hid (RTx w wd #[.slice A0 n0 c0, .slice A1 n1 c1, .slice (some ⟨bt, ot, none⟩) n2 c2] w.heap.size gr g9 #[.slice Aa n0 ca, .slice Ab n1 cb, V] (L ++ [rO (.slice A4 m c4) (stO ops us 0)]) gt gw #[.int .i64 ts, .int .i64 ft, .slice A4 m c4] #[.slice Ac nc cc, .slice Al nl cl]) := by rw [stO_zero]; exact HT7
            clear HT7
            have lT := HST.out.t.lt
            have t2 := HST.out.t.at_ 2
            simp at t2
            have HLK0 : Hid (Row w Bl A' (edgeC (x.l.drop (lk + lostN (ops.take 0))))) := hLR
            go_upto_block 2 with fail
            go_cut [8] (fun lv wx => ∃ (A : Option Addr) (nx cx : Nat), lv = .slice A nx cx ∧ nx + (lk + lostN ops) = nl ∧ nx ≤ cx ∧ Hid (Row w Bl A (edgeC (x.l.drop (lk + lostN ops)))) ∧ Hid (RTx w wx #[.slice A0 n0 c0, .slice A1 n1 c1, .slice (some ⟨bt, ot, none⟩) n2 c2] w.heap.size gr g9 #[.slice Aa n0 ca, .slice Ab n1 cb, V] (L ++ [rO (.slice A4 m c4) (fillO ops us)]) gt gw #[.int .i64 ts, .int .i64 ft, .slice A4 m c4] #[.slice Ac nc cc, .slice Al nl cl]))
            case first =>
              clear lT t2
              go_wp2_with fail
              go_loopw [8, 57] (fun lv jv wr => ∃ (j : Nat) (A : Option Addr) (nx cx : Nat), lv = .slice A nx cx ∧ jv = .int .i64 j ∧ j ≤ m ∧ nx + (lk + lostN (ops.take j)) = nl ∧ nx ≤ cx ∧ Hid (Row w Bl A (edgeC (x.l.drop (lk + lostN (ops.take j))))) ∧ Hid (RTx w wr #[.slice A0 n0 c0, .slice A1 n1 c1, .slice (some ⟨bt, ot, none⟩) n2 c2] w.heap.size gr g9 #[.slice Aa n0 ca, .slice Ab n1 cb, V] (L ++ [rO (.slice A4 m c4) (stO ops us j)]) gt gw #[.int .i64 ts, .int .i64 ft, .slice A4 m c4] #[.slice Ac nc cc, .slice Al nl cl])) (fun _ jv _ => m - (intOf jv).toNat)
              case atStart => exact ⟨0, A', nq, cq, rfl, rfl, by omega, hnq, hcq, HLK0, HST⟩
              case round =>
                obtain ⟨j, A, nx, cx, rfl, rfl, hj, hnx, hcx, hLX, hT⟩ := hrel
                clear HST HLK0
                have lT := hT.out.t.lt
                have t2 := hT.out.t.at_ 2
                simp at t2
                by_cases hlt2 : j < m
                · have hSL : (stO ops us j).length = m := by rw [stO_len, HMM.out]
                  obtain ⟨ob, rfl, hob0, hob⟩ := own_head (hT.out.ops hSL) (by omega)
                  obtain ⟨o, ho⟩ : ∃ o, ops[j]? = some o := ⟨_, List.getElem?_eq_getElem (by rw [HMM.out]; exact hlt2)⟩
                  have hso := stO_get us ho
                  have HOW := Hd (hT.out.ops hSL)
                  have v2 := (own_cell HOW.out rfl (j := j * 4 + 2) (u := .int .i64 o.vk) (opC_get _ _ _ hso 2 (by omega))).1
                  have HO := Hd ho
                  have HSO := Hd hso
                  have HSL := Hd hSL
                  have HLK := Hd (lostN_take ho)
                  have h02 : (j : Int) < (m : Int) := by omega
                  have hj0 : (0 : Int) ≤ (j : Int) := Int.natCast_nonneg _
                  have hwj : IntKind.i64.wrap ((j : Int) + 1) = (j : Int) + 1 := IntWalk.i64_in _ (by omega)
                  clear ho hso hSL
                  by_cases e : o.vk = 2
                  · have hin := HIN.out j o HO.out e
                    rw [← HLT.out] at hin
                    have HSH := Hd (stO_hit us HO.out e)
                    have HUV := Hd (getD_drop x.l lk (lostN (ops.take j)) ((0, 0) : V2))
                    rw [HUS.out] at HUV
                    have HQ : Hid (lk + lostN (ops.take (j + 1)) = lk + lostN (ops.take j) + 1) := Hd (by rw [HLK.out, if_pos e]; omega)
                    generalize lk + lostN (ops.take j) = q at *
                    obtain ⟨⟨y1, y2⟩, hv⟩ : ∃ v, x.l[q]? = some v := ⟨_, List.getElem?_eq_getElem (by rw [HLL.out]; exact hin)⟩
                    have hdr : x.l.drop q = (y1, y2) :: x.l.drop (q + 1) := drop_one_cons hv
                    have hrow := hLX.out
                    rw [hdr] at hrow
                    obtain ⟨bl, ol, rfl, -, hblw, hcl⟩ := hrow.open_ (k := 0) (by rw [edgeC_len]; simp)
                    have hl0 := hcl 0 _ rfl
                    have hl1 := hcl 1 _ rfl
                    rw [Nat.add_zero] at hl0
                    have HA0 := Hd ((hT.out.k.o.cell (p := ⟨bl, ol, none⟩) hblw (by simp)).trans hl0)
                    have HA1 := Hd ((hT.out.k.o.cell (p := ⟨bl, ol + 1, none⟩) hblw (by simp)).trans hl1)
                    have HLN2 : Hid (Row w Bl (some ⟨bl, if cx = 1 then ol else ol + 2, none⟩) (edgeC (x.l.drop (q + 1)))) := Hd (vals_tail hrow (by rw [List.length_drop, HLL.out]; omega))
                    have hblr : bl < wr.heap.size := Nat.lt_of_lt_of_le hblw hT.out.k.o.size
                    have hblo : bl < ob := by omega
                    have hsl : ∀ W, (Instr.slice 27 (.slice (some ⟨bl, ol, none⟩) nx cx) (some (.int .i64 1)) none none).run Tryz.prog W = .ok (.slice (some ⟨bl, if cx = 1 then ol else ol + 2, none⟩) (nx - 1) (cx - 1)) W := fun W => vslice_tail bl ol nx cx (by omega) hcx W
                    generalize (if cx = 1 then ol else ol + 2) = oq at *
                    have hgo : gt ≠ ob := by
                      have := own_apart HOW.out hT.out.t (by decide)
                      simpa [Value.ownBlock, eq_comm] using this
                    have HSE : Hid (stO ops us (j + 1) = (stO ops us j).set j ⟨o.wr, o.key, y1, y2⟩) := Hd (by
                      rw [HSH.out, HUV.out, List.getD_eq_getElem?_getD, hv]
                      rfl)
                    have hnx0 : (0 : Int) < (nx : Int) := by omega
                    have hnx1 : 0 < nx := by omega
                    have hol : j * 4 + 2 + 2 ≤ (opC (stO ops us j)).length := by rw [opC_len, HSL.out]; omega
                    have he : (o.vk == 2) = true := by simpa using e
                    have HNX : Hid (nx - 1 + (q + 1) = nl) := Hd (by omega)
                    have HCX : Hid (nx - 1 ≤ cx - 1) := Hd (by omega)
                    clear hcl hl0 hl1 hv e hdr hrow hLX
                    go_upto_region 19 with (fail)
                    clear lT t2 v2
                    refine rg1 [] [ob] wr ?_
                    have OW : Only [] wr wr.drew := (Only.refl [] wr).drew
                    generalize wr.drew = wz at *
                    refine tQ 0 (h := ?_)
                    refine trd (i := 1) (v := ?_) 0 ?_ ?_
                    rotate_left
                    · (intro wq hSw; obtain ⟨lb_T, t2⟩ := Bk1 (hSw.blk hT.out.t (by simp; omega)) 2; simp at t2; have u0 := (hSw.cell (p := ⟨bl, ol, none⟩) hblr (by simp; omega)).trans HA0.out; have u1 := (hSw.cell (p := ⟨bl, ol + 1, none⟩) hblr (by simp; omega)).trans HA1.out; have hblq : bl < wq.heap.size := Nat.lt_of_lt_of_le hblr hSw.size; have hobq : ob < wq.heap.size := Nat.lt_of_lt_of_le hob hSw.size; clear hSw; go_simp; try with_reducible rfl)
                    try simp only [tdz]
                    refine tQ 2 (h := tQ 3 (h := tQ 4 (h := ?_)))
                    refine trd (i := 5) (v := ?_) 0 ?_ ?_
                    rotate_left
                    · (intro wq hSw; obtain ⟨lb_T, t2⟩ := Bk1 (hSw.blk hT.out.t (by simp; omega)) 2; simp at t2; have u0 := (hSw.cell (p := ⟨bl, ol, none⟩) hblr (by simp; omega)).trans HA0.out; have u1 := (hSw.cell (p := ⟨bl, ol + 1, none⟩) hblr (by simp; omega)).trans HA1.out; have hblq : bl < wq.heap.size := Nat.lt_of_lt_of_le hblr hSw.size; have hobq : ob < wq.heap.size := Nat.lt_of_lt_of_le hob hSw.size; clear hSw; go_simp; try with_reducible rfl)
                    try simp only [tdz]
                    refine tQ 6 (h := tQ 7 (h := tQ 8 (h := tQ 9 (h := ?_))))
                    refine tst (i := 10) fun K hK => ?_
                    refine wp_store_mid 53 (.tmp 77) (.tmp 73) rfl ob (j * 4 + 2) #[.int .i64 y1, .int .i64 y2] rfl rfl (own_there (own_only HOW.out OW (by simp)) rfl hol) (by kernel_rfl) (by kernel_rfl) ?_
                    have OD : Only [ob] wz (wz.setCells ob (j * 4 + 2) [.int .i64 y1, .int .i64 y2]) := setCells_only ob _ _ _ _ _ (Only.refl _ _) (fun _ => by simp)
                    have hT9 := (hT.out.same OW).setV HSL.out HSO.out y1 y2
                    rw [← HSE.out] at hT9
                    have OE := (OW.wide (T := [ob]) (fun i hi => by cases hi)).trans OD
                    refine kOut hK (OE) (h := ?_)
                    clear hK K
                    refine tQ 11 (h := ?_)
                    refine tdn ?_
                    have HT9 := Hd hT9
                    clear OW OD OE hT9 hT HA0 HA1
                    generalize (wz.setCells ob (j * 4 + 2) [.int .i64 y1, .int .i64 y2]) = w9 at *
                    rw [← HQ.out] at HLN2 HNX
                    go_wp2
                    go_roundw
                    case rel => exact ⟨j + 1, _, _, _, rfl, by go_num, by omega, HNX.out, HCX.out, HLN2, HT9⟩
                    case measure => simp [intOf]; omega
                  · have HE : Hid (lostN (ops.take (j + 1)) = lostN (ops.take j)) := Hd (by rw [HLK.out, if_neg e]; rfl)
                    have HSE : Hid (stO ops us (j + 1) = stO ops us j) := Hd (stO_miss us HO.out e)
                    have he : (o.vk == 2) = false := by simpa using e
                    have hTN := Hd hT.out
                    rw [← HSE.out] at hTN
                    clear e hT
                    go_wp2
                    go_roundw
                    case rel => exact ⟨j + 1, A, nx, cx, rfl, by go_num, by omega, by rw [HE.out]; exact hnx, hcx, Hd (by rw [HE.out]; exact hLX.out), hTN⟩
                    case measure => simp [intOf]; omega
                · have hjm : j = m := by omega
                  subst hjm
                  have hd3 : decide ((j : Int) < (j : Int)) = false := by simp
                  have hTE := Hd hT.out
                  rw [stO_all ops us (by rw [HMM.out]; exact Nat.le_refl _)] at hTE
                  have HLA : Hid (lostN (ops.take j) = lostN ops) := Hd (by rw [List.take_of_length_le (by rw [HMM.out]; exact Nat.le_refl _)])
                  have HNXX : Hid (nx + (lk + lostN ops) = nl) := Hd (by rw [← HLA.out]; exact hnx)
                  have HLXX : Hid (Row w Bl A (edgeC (x.l.drop (lk + lostN ops)))) := Hd (by rw [← HLA.out]; exact hLX.out)
                  clear hT
                  go_wp2
                  go_meet
                  exact ⟨A, nx, cx, rfl, HNXX.out, hcx, HLXX, hTE⟩
            case rest =>
              obtain ⟨A8, n8, c8, rfl, hn8, hc8, HL8, HT8⟩ := hcut
              obtain ⟨we, hwe⟩ : ∃ we, we = wc := ⟨_, rfl⟩
              subst hwe
              clear HST HLK0 lT t2
              have hfl : (fillO ops us).length = m := by rw [fillO_len, HMM.out]
              have HL3' : Hid ((L ++ [rO (.slice A4 m c4) (fillO ops us)])[3]? = some (rT V xs)) := Hd (by rw [List.getElem?_append_left (List.getElem?_eq_some_iff.1 HL3.out).1]; exact HL3.out)
              have HVT : Hid (we.ownsRow w.heap.size 48 3 V k (txC xs)) := Hd (by
                have h9 := HT8.out.row HL3.out
                unfold OR.ok rT at h9
                dsimp only at h9
                rwa [hxl] at h9)
              have hszr : w.heap.size ≤ we.heap.size := HT8.out.k.o.size
              have lG := HT8.out.k.bg.lt
              have z2 := HT8.out.k.bg.at_ 2
              have lT := HT8.out.t.lt
              have t0 := HT8.out.t.at_ 0
              have t1 := HT8.out.t.at_ 1
              have t2 := HT8.out.t.at_ 2
              simp at z2 t0 t1 t2
              have HFL := Hd hfl
              have HM4 := Hd hm4
              have HC4 := Hd hc4
              clear hfl hm4 hc4
              go_wp2_with (
                at_builtin
                refine wpList_append_row _ rfl (.tmp 80) (.tmp 82) _ rfl w.heap.size 48 ix _ 3 40 Tryz.underlying23 hix hx0 hx1 hx2 rfl (by omega) V k (txC xs) (by rfl) (own_only HVT.out ((Only.refl [] we).alloc _) (by simp)) (we.heap.size + 1) (some ⟨we.heap.size, 0, none⟩) 1 1 [.int .i64 ts, .int .i64 ft, .slice A4 m c4] (by rfl) (by rfl) (row_lit we 48 #[.int .i64 ts, .int .i64 ft, .slice A4 m c4]) (by intro u hu; simp at hu; rcases hu with rfl | rfl | rfl <;> rfl) (by unfold maxLen; omega) (by omega) (by simp; omega) ?_
                intro v6 w6 hown6 hgrow6 hat6
                obtain ⟨A6, c6, e6, -, -, -, -⟩ := own_row hown6
                subst e6
                have hgr : World.grownBy (we.alloc (.cells #[.int .i64 ts, .int .i64 ft, .slice A4 m c4] 48)) w6 V.ownBlock := hgrow6
                have HT9 := Hd ((HT8.out.same ((Only.refl [] we).alloc (.cells #[.int .i64 ts, .int .i64 ft, .slice A4 m c4] 48))).grow (i := 3) (r := rT V xs) HL3'.out hgr hown6 hat6)
                clear hown6 hgrow6 hat6 hgr lG z2 lT t0 t1 t2
                have lG := HT9.out.k.bg.lt
                have z2 := HT9.out.k.bg.at_ 2
                have fz := HT9.out.k.bg.free 2
                simp at z2)
              have h9 := HT9.out.setG 2 (.slice A6 (k + 1) c6)
              have HW9 := Hd h9.x
              have HK10 : Hid (RK w (w6.setCell ⟨g9, 2, none⟩ (.slice A6 (k + 1) c6)) #[.slice A0 n0 c0, .slice A1 n1 c1, .slice (some ⟨bt, ot, none⟩) n2 c2] w.heap.size gr g9 #[.slice Aa n0 ca, .slice Ab n1 cb, .slice A6 (k + 1) c6] ([rBo (.slice (some ⟨bc, 0, none⟩) n2 cC) CS, rS (.slice Aa n0 ca) h.ss, rS (.slice Ab n1 cb) h.ks, rT (.slice A6 (k + 1) c6) (xs ++ [(⟨⟨ts, ft, fillO ops us⟩, A4, c4⟩ : TxA)])] ++ (xs ++ [(⟨⟨ts, ft, fillO ops us⟩, A4, c4⟩ : TxA)]).map eRow)) := Hd (by
                have hk9 := h9.k
                rw [← HLE.out] at hk9
                have e : rT (.slice A6 (k + 1) c6) (xs ++ [(⟨⟨ts, ft, fillO ops us⟩, A4, c4⟩ : TxA)]) = ⟨48, 3, .slice A6 (k + 1) c6, k + 1, txC xs ++ [.int .i64 ts, .int .i64 ft, .slice A4 m c4]⟩ := by simp [rT, txC, TxA.c, hxl, HFL.out]
                have e2 : eRow (⟨⟨ts, ft, fillO ops us⟩, A4, c4⟩ : TxA) = rO (.slice A4 m c4) (fillO ops us) := by simp only [eRow, rO, HFL.out]
                rw [e, List.map_append, List.map_cons, List.map_nil, e2]
                exact hk9)
              have HXN : Hid ((xs ++ [(⟨⟨ts, ft, fillO ops us⟩, A4, c4⟩ : TxA)]).map TxA.t = fillT (h.l.take (k + 1)) CS x.l) := Hd (by
                rw [List.map_append, hXS.out, HFT.out, HCB.out, HUS.out, HFTE.out]
                rfl)
              have HCN : Hid (∀ x ∈ xs ++ [(⟨⟨ts, ft, fillO ops us⟩, A4, c4⟩ : TxA)], x.t.ops.length ≤ x.cp ∧ x.cp ≤ maxLen) := Hd (fun x hx => by
                rcases List.mem_append.1 hx with h1 | h1
                · exact hCP.out x h1
                · simp at h1
                  subst h1
                  exact ⟨by dsimp only; rw [HFL.out]; exact HM4.out, HC4.out⟩)
              clear HT8 HT9 h9
              go_wp2
              go_roundw
              case rel => first | exact ⟨k + 1, _, _, A8, n8, c8, rfl, by go_num, by omega, by rw [HTK.out]; exact hn8, hc8, by rw [HTK.out]; exact HL8, HXN, HCN, HW9, HK10⟩ | exact ⟨_, _, ⟨k + 1, _, _, A8, n8, c8, rfl, by go_num, by omega, by rw [HTK.out]; exact hn8, hc8, by rw [HTK.out]; exact HL8, HXN, HCN, HW9, HK10⟩, rfl, rfl⟩
              case measure => simp [intOf]; omega
        · have hkn : k = n2 := by omega
          subst hkn
          have hd2 : decide ((k : Int) < (k : Int)) = false := by simp
          have HXE : Hid (xs.map TxA.t = fillT h.l CS x.l) := Hd (by rw [hXS.out, List.take_of_length_le (by rw [HLN.out]; exact Nat.le_refl _)])
          have lG := hK.out.bg.lt
          have z0 := hK.out.bg.at_ 0
          have z1 := hK.out.bg.at_ 1
          have z2 := hK.out.bg.at_ 2
          simp at z0 z1 z2
          obtain ⟨At, ct, hVt, -, -, -, -⟩ := own_row (hK.out.rows.all 3 (rT V xs) rfl)
          have hVt' : V = .slice At k ct := by rw [← hxl]; exact hVt
          subst hVt'
          have HR := Hd hK.out.br
          clear hVt hXS hW
          go_wp2_with (refine wpList_store_blk rfl 25 (.tmp 4) (.tmp 86) rfl gr 25 _ #[.slice Aa n0 ca, .slice Ab n1 cb, .slice At k ct] rfl rfl HR.out rfl (by kernel_rfl) (by kernel_rfl) ?_; intro w9 b9 o9; have HB9 := Hd b9; have HN9 := Hd o9; clear b9 o9)
          have HD : HNew w.heap.size w9 Aa Ab At (makeH h x) := fun S w' hS O => by
            have hR := hK.out.rowsR HN9.out
            have h9 := rows_done (hR.tail.only O (fun g hg hm => by
              have h1 := (hR.tail.ge g hg).1
              have h2 := hS g hm
              omega)) hCP.out
            rw [HXE.out, HCS.out] at h9
            exact h9
          have e1 : (makeH h x).ss.length = n0 := HI.out.n0
          have e2 : (makeH h x).ks.length = n1 := HI.out.n1
          have e3 : (makeH h x).l.length = k := (fillT_len _ _ _).trans HI.out.n2
          refine bodyPost_ret (results_row2 Tryz.results8 _ _ gr 25 #[.slice Aa n0 ca, .slice Ab n1 cb, .slice At k ct] _ rfl HB9.out Tryz.underlying25 rfl (by kernel_rfl)) rfl ?_
          have O9 : Only [] w w9 := hK.out.o.step HN9.out (fun i hi hl => by
            have h1 := hK.out.base
            have h2 := hK.out.d01
            simp at hi
            omega)
          refine ⟨Aa, Ab, At, ca, cb, ct, ⟨?_, HD⟩, O9⟩
          rw [e1, e2, e3]
          rfl
end Go.Proofs.YtghimogdeijgdaaGreatDoor
