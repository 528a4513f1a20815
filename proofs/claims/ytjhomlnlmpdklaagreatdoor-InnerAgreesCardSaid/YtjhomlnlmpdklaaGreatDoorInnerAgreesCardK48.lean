/- InnerAgrees: the walk. -/
import Derived.Test.YtjhomlnlmpdklaaGreatDoorInnerAgreesCardK36
import Derived.Test.YtjhomlnlmpdklaaGreatDoorInnerAgreesCardK47
import Derived.Test.YtjhomlnlmpdklaaGreatDoorInnerAgreesCardK10
import Derived.Deep.CutBlock
import Derived.Deep.DeepCutAuto
set_option linter.unusedVariables false
set_option linter.unusedSimpArgs false
namespace Go.Proofs.YtjhomlnlmpdklaaGreatDoor
open Go.RowKit
open Go.Lib hiding intOf
attribute [local go_sem ↓] Go.wp_at_zero Go.wp_at_succ
set_option maxRecDepth 10000 in
set_option maxHeartbeats 8000000 in
theorem innerAgrees_walk (A0 A1 A2 : Option Addr) (c0 c1 c2 : Nat) (h : Hst) (w : World) (hg : HAt w w.heap.size A0 A1 A2 h) (hm0 : h.ss.length ≤ maxLen) (hm1 : h.ks.length ≤ maxLen) (hm2 : h.l.length ≤ maxLen)
  (hz0 : ∀ z ∈ h.ss, z.size ≤ maxLen) (hz1 : ∀ z ∈ h.ks, z.size ≤ maxLen) (hT : UTabs w) (hM : MLen w) (hV : Verbs w) :
  Calls Tryz.prog 5 #[hval A0 A1 A2 h.ss.length h.ks.length h.l.length c0 c1 c2] w fun e w' => e = .returned (.bool true) ∧ Only [] w w' := by
 unfold hval
 have HW := Lib.hid (fun w' (h : Only [] w w') => works13_any w' (hT.only h) (hM.only h) (hV.only h))
 have HF0 := Lib.hid (fun w' (O : Only [] w w') => few_first A0 A1 A2 c0 c1 c2 h w' (hg.only O (by simp)).up hm0 hm1 hm2 hz0 hz1 (hT.only O))
 have HSM := Lib.hid (few_small h)
 have HT := Lib.hid hT
 generalize fewH h = G at *
 have HBL := Lib.hid (fun a => bad_len HSM.out a)
 have HWL := Lib.hid (fun key => wrt_len HSM.out key)
 generalize h.ss.length = n0 at *
 generalize h.ks.length = n1 at *
 generalize h.l.length = n2 at *
 generalize G.ss.length = m0 at *
 generalize G.ks.length = m1 at *
 generalize hm2' : G.l.length = m2 at *
 have HN2 := Lib.hid hm2'
 clear hg hm0 hm1 hm2 hz0 hz1 hT hM hV hm2'
 have HB := Lib.hid (Blk.made w 25 #[.slice A0 n0 c0, .slice A1 n1 c1, .slice A2 n2 c2])
 have HO1 := Lib.hid ((Only.refl [] w).alloc (.cells #[.slice A0 n0 c0, .slice A1 n1 c1, .slice A2 n2 c2] 25))
 have HMY := Lib.hid (fun (D0 D1 D2 : Option Addr) (f0 f1 f2 B : Nat) w' (hI : HIn w' B D0 D1 D2 m0 m1 m2 G) => refmay_any D0 D1 D2 m0 m1 m2 f0 f1 f2 B G w' hI)
 have HLV := Lib.hid (fun (a key : Int) (D0 D1 D2 : Option Addr) (f0 f1 f2 B : Nat) w' (hI : HIn w' B D0 D1 D2 m0 m1 m2 G) => ileaves_any D0 D1 D2 m0 m1 m2 f0 f1 f2 B G a key w' hI)
 have HBD := Lib.hid (fun (a : Int) (D0 D1 D2 : Option Addr) (f0 f1 f2 B : Nat) w' (hI : HIn w' B D0 D1 D2 m0 m1 m2 G) => ibad_any D0 D1 D2 m0 m1 m2 f0 f1 f2 B G a w' hI)
 have HWR := Lib.hid (fun (key : Int) (D0 D1 D2 : Option Addr) (f0 f1 f2 B : Nat) w' (hI : HIn w' B D0 D1 D2 m0 m1 m2 G) => iwriters_any D0 D1 D2 m0 m1 m2 f0 f1 f2 B G key w' hI)
 have HOW := Lib.hid (fun (a b : Int) (D0 D1 D2 : Option Addr) (f0 f1 f2 B : Nat) w' (hI : HIn w' B D0 D1 D2 m0 m1 m2 G) => iown_any D0 D1 D2 m0 m1 m2 f0 f1 f2 B G a b w' hI)
 have HOT := Lib.hid (fun (a b : Int) (D0 D1 D2 : Option Addr) (f0 f1 f2 B : Nat) w' (hI : HIn w' B D0 D1 D2 m0 m1 m2 G) => iouter_any D0 D1 D2 m0 m1 m2 f0 f1 f2 B G a b w' hI)
 unfold hval at HLV HBD HWR HMY HOW HOT
 go_enter Tryz.func5, Tryz.ntmps5
 go_wp2_with fail
 refine (HW.out _ HO1.out).mono ?_
 rintro e w1 ⟨rfl, O1⟩
 have HB1 := Lib.hid (O1.blk HB.out (by simp))
 have HO2 := Lib.hid (HO1.out.trans O1)
 clear O1 HB HO1
 have lB := HB1.out.lt
 have y0 := HB1.out.at_ 0
 have y1 := HB1.out.at_ 1
 have y2 := HB1.out.at_ 2
 simp at y0 y1 y2
 go_wp2_with fail
 refine (HF0.out _ HO2.out).mono ?_
 rintro e w2 ⟨B0, B1, B2, d0, d1, d2, ⟨rfl, hI⟩, O2⟩
 have HI := Lib.hid hI
 have HB2 := Lib.hid (O2.blk HB1.out (by simp))
 have HO3 := Lib.hid (HO2.out.trans O2)
 clear hI O2 HB1 HO2 HF0 lB y0 y1 y2
 go_wp2_with (refine wpList_store_blk rfl 25 (.tmp 1) (.tmp 15) rfl w.heap.size 25 _ #[.slice B0 m0 d0, .slice B1 m1 d1, .slice B2 m2 d2] rfl rfl HB2.out rfl (by kernel_rfl) (by kernel_rfl) ?_; intro w3 hb3 o3; have HBa := Lib.hid hb3; have HOa := Lib.hid (HO3.out.step o3 (fun i hi hl => by simp at hi; omega)); have HIa := Lib.hid (HI.out.past HB2.out o3 (HT.out.only HOa.out)); have lB := HBa.out.lt; have y0 := HBa.out.at_ 0; have y1 := HBa.out.at_ 1; have y2 := HBa.out.at_ 2; simp at y0 y1 y2; clear hb3 o3; clear HI HB2 HO3)
 generalize w3.heap.size = bb at *
 refine (HMY.out _ _ _ _ _ _ _ _ HIa.out).mono ?_
 rintro e w4 ⟨rfl, O4⟩
 have HOb := Lib.hid (HOa.out.trans O4)
 have HBb := Lib.hid ((O4).blk HBa.out (by simp))
 have HIb := Lib.hid (HIa.out.same (O4))
 clear HOa HBa HIa  lB y0 y1 y2
 clear O4
 have lB := HBb.out.lt
 have y0 := HBb.out.at_ 0
 have y1 := HBb.out.at_ 1
 have y2 := HBb.out.at_ 2
 simp at y0 y1 y2
 cases hm : mayH G with
 | false =>
  have HBN : Hid (badH G 0 = []) := Lib.hid (bad_none (txAt_no hm))
  rw [mayH_errn2 hm]
  clear hm
  go_wp2_with fail
  refine (HBD.out 0 _ _ _ _ _ _ _ _ HIb.out).mono ?_
  rw [HBN.out]
  rintro e w5 ⟨A5, c5, ⟨rfl, hr5⟩, O5⟩
  have HZ := Lib.hid (HOb.out.trans O5)
  clear O5 hr5
  go_wp2
  go_ret
  exact ⟨rfl, HZ.out⟩
 | true =>
  rw [mayH_err2 hm]
  have HMG := Lib.hid hm
  clear hm lB y0 y1 y2
  go_wp2_with fail
  go_loopw [3] (fun iv wr => ∃ i : Nat, iv = .int .i64 i ∧ i ≤ m2 ∧ Hid (Blk wr w.heap.size 25 #[.slice B0 m0 d0, .slice B1 m1 d1, .slice B2 m2 d2]) ∧ Hid (HIn wr bb B0 B1 B2 m0 m1 m2 G) ∧ Hid (Only [] w wr)) (fun iv _ => m2 - (intOf iv).toNat)
  case atStart => exact ⟨0, rfl, by omega, HBb, HIb, HOb⟩
  case round =>
   obtain ⟨i, rfl, hi, HBc, HIc, HOc⟩ := hrel
   clear HBb HIb HOb
   have lB := HBc.out.lt
   have y0 := HBc.out.at_ 0
   have y1 := HBc.out.at_ 1
   have y2 := HBc.out.at_ 2
   simp at y0 y1 y2
   by_cases hlt : i < m2
   ·obtain ⟨t, ht⟩ : ∃ t, G.l[i]? = some t := ⟨_, List.getElem?_eq_getElem (by rw [HN2.out]; exact hlt)⟩
    have hno := HSM.out.no t (List.mem_of_getElem? ht)
    have HTX := Lib.hid ht
    have h01 : (i : Int) < (m2 : Int) := by omega
    have hi0 : (0 : Int) ≤ (i : Int) := Int.natCast_nonneg _
    have hwi : IntKind.i64.wrap ((i : Int) + 1) = (i : Int) + 1 := IntWalk.i64_in _ (by have := HSM.out.nl; rw [HN2.out] at this; omega)
    clear ht
    go_wp2_with fail
    refine (HBD.out (i : Int) _ _ _ _ _ _ _ _ HIc.out).mono ?_
    rintro e w5 ⟨A5, c5, ⟨rfl, hr5⟩, O5⟩
    have HRd := Lib.hid hr5
    have HOd := Lib.hid (HOc.out.trans O5)
    have HBd := Lib.hid ((O5).blk HBc.out (by simp))
    have HId := Lib.hid (HIc.out.same (O5))
    clear HOc HBc HIc  lB y0 y1 y2
    clear O5 hr5
    have hbl := HBL.out (i : Int)
    have HLB : Hid ((badH G (i : Int)).length = (badH G (i : Int)).length) := Lib.hid rfl
    generalize hlb : badH G (i : Int) = lb at *
    have HLBD := Lib.hid hlb
    clear hlb
    generalize hml : t.ops.length = m at *
    have HML := Lib.hid hml
    clear hml
    generalize hwb : w5.heap.size = b5 at *
    clear hwb
    go_wp2_with fail
    go_loopw [5] (fun iv wr => ∃ j : Nat, iv = .int .i64 j ∧ j ≤ m ∧ Hid (Blk wr w.heap.size 25 #[.slice B0 m0 d0, .slice B1 m1 d1, .slice B2 m2 d2]) ∧ Hid (HIn wr bb B0 B1 B2 m0 m1 m2 G) ∧ Hid (Row wr b5 A5 (lb.map (Value.int .i64))) ∧ Hid (Only [] w wr)) (fun iv _ => m - (intOf iv).toNat)
    case atStart => exact ⟨0, rfl, by omega, HBd, HId, HRd, HOd⟩
    case round =>
     obtain ⟨j, rfl, hj, HBe, HIe, HRe, HOe⟩ := hrel
     clear HBd HId HRd HOd
     obtain ⟨bl, off, A', cp, rfl, hblB, hbw, hTA, hOk⟩ := HIe.out.at_.r2.at_ HTX.out
     have hta1 := hTA.c1
     have hta2 := hTA.c2
     dsimp only at hta1 hta2
     rw [HML.out] at hta2
     have HOK := Lib.hid hOk.row
     clear hTA hOk
     have lB := HBe.out.lt
     have y0 := HBe.out.at_ 0
     have y1 := HBe.out.at_ 1
     have y2 := HBe.out.at_ 2
     simp at y0 y1 y2
     by_cases hlt2 : j < m
     ·obtain ⟨o, ho⟩ : ∃ o, t.ops[j]? = some o := ⟨_, List.getElem?_eq_getElem (by rw [HML.out]; exact hlt2)⟩
      obtain ⟨bo, oo, rfl, hboB, hbo, hP⟩ := row_op HOK.out ho
      obtain ⟨p0, p1, p2, p3⟩ := hP
      have HBH := Lib.hid (bad_has HMG.out HTX.out ho)
      have HOA := Lib.hid (outer_at HMG.out HTX.out ho)
      have HWH := Lib.hid (wrt_has (key := o.key) HMG.out HTX.out)
      have hwl := HWL.out o.key
      rw [HLBD.out] at HBH
      obtain ⟨yw, yk, yv, yn⟩ := o
      dsimp only at p0 p1 p2 p3 HBH HOA HWH hwl
      have h02 : (j : Int) < (m : Int) := by omega
      have hj0 : (0 : Int) ≤ (j : Int) := Int.natCast_nonneg _
      have hwj : IntKind.i64.wrap ((j : Int) + 1) = (j : Int) + 1 := IntWalk.i64_in _ (by omega)
      have HFT := Lib.hid hta1
      clear ho
      go_upto_region 14 with (fail)
      have HX := Lib.hid ((Only.refl [] wr).alloc (.cells #[.bool yw, .int .i64 yk, .int .i64 yv, .int .i64 yn] 46))
      have HPf := Lib.hid (Blk.made wr 46 #[.bool yw, .int .i64 yk, .int .i64 yv, .int .i64 yn])
      have HFf := Lib.hid ((HX.out.cell (p := ⟨bl, off + i * 3 + 1, none⟩) hbw (by simp)).trans HFT.out)
      have hbwf := Nat.lt_of_lt_of_le hbw HX.out.size
      have HRf := Lib.hid (HRe.out.only HX.out (by simp))
      clear p0 p1 p2 p3 hta1 hta2 HFT HOK
      have HBf := Lib.hid (HX.out.blk HBe.out (by simp))
      have HIf := Lib.hid (HIe.out.same HX.out)
      have HOf := Lib.hid (HOe.out.trans HX.out)
      clear HX HBe HIe HRe HOe lB y0 y1 y2 hbo hbw
      generalize (wr.alloc (.cells #[.bool yw, .int .i64 yk, .int .i64 yv, .int .i64 yn] 46)) = wf at *
      generalize wr.heap.size = go at *
      have lB := HBf.out.lt
      have y0 := HBf.out.at_ 0
      have y1 := HBf.out.at_ 1
      have y2 := HBf.out.at_ 2
      simp at y0 y1 y2
      go_wp2_with fail
      refine (HOW.out (i : Int) (j : Int) _ _ _ _ _ _ _ _ HIf.out).mono ?_
      rintro e wg ⟨rfl, Og⟩
      have HFg := Lib.hid ((Og.cell (p := ⟨bl, off + i * 3 + 1, none⟩) hbwf (by simp)).trans HFf.out)
      have hbwg := Nat.lt_of_lt_of_le hbwf Og.size
      generalize ownO G (i : Int) (j : Int) = v at *
      unfold optT optV
      have HOg := Lib.hid (HOf.out.trans Og)
      have HBg := Lib.hid ((Og).blk HBf.out (by simp))
      have HIg := Lib.hid (HIf.out.same (Og))
      have HPg := Lib.hid ((Og).blk HPf.out (by simp))
      have HRg := Lib.hid (HRf.out.only (Og) (by simp))
      clear HOf HBf HIf HPf HRf lB y0 y1 y2
      clear Og HFf
      go_upto_region 15 with (fail)
      have HX := Lib.hid ((Only.refl [] wg).alloc (.cells #[.int .i64 (v.getD (0, 0)).1, .int .i64 (v.getD (0, 0)).2] 30))
      have HVh := Lib.hid (Blk.made wg 30 #[.int .i64 (v.getD (0, 0)).1, .int .i64 (v.getD (0, 0)).2])
      have HFh := Lib.hid ((HX.out.cell (p := ⟨bl, off + i * 3 + 1, none⟩) hbwg (by simp)).trans HFg.out)
      have hbwh := Nat.lt_of_lt_of_le hbwg HX.out.size
      have HPh := Lib.hid (HX.out.blk HPg.out (by simp))
      have HRh := Lib.hid (HRg.out.only HX.out (by simp))
      have HBh := Lib.hid (HX.out.blk HBg.out (by simp))
      have HIh := Lib.hid (HIg.out.same HX.out)
      have HOh := Lib.hid (HOg.out.trans HX.out)
      clear HX HBg HIg HRg HOg HPg HFg
      generalize (wg.alloc (.cells #[.int .i64 (v.getD (0, 0)).1, .int .i64 (v.getD (0, 0)).2] 30)) = wh at *
      generalize wg.heap.size = gh at *
      obtain ⟨v1, v2, hv12⟩ : ∃ v1 v2, v.getD (0, 0) = (v1, v2) := ⟨_, _, rfl⟩
      rw [hv12] at HBH
      have hv1' : (v.getD (0, 0)).1 = v1 := by rw [hv12]
      have hv2' : (v.getD (0, 0)).2 = v2 := by rw [hv12]
      rw [hv1', hv2'] at HVh
      rw [hv1', hv2']
      generalize v.isSome = vb at *
      clear hv12 hv1' hv2'
      obtain ⟨wt, hwt⟩ : ∃ wt, wt = decide ((j : Int) ∈ lb) := ⟨_, rfl⟩
      rw [← hwt] at HBH
      have HWT := Lib.hid hwt
      clear hwt
      go_cut [9] (fun z wx => z = .bool wt ∧ wx = wh)
      case first =>
       have lP := HPh.out.lt
       have p0 := HPh.out.at_ 0
       have p2 := HPh.out.at_ 2
       have p3 := HPh.out.at_ 3
       have lV := HVh.out.lt
       have u0 := HVh.out.at_ 0
       have u1 := HVh.out.at_ 1
       simp at p0 p2 p3 u0 u1
       cases yw with
       | true =>
        obtain rfl : wt = false := by rw [HBH.out]; simp
        go_wp2
        go_meet
        exact ⟨rfl, rfl⟩
       | false =>
        cases vb with
        | false =>
         obtain rfl : wt = false := by rw [HBH.out]; simp
         go_wp2
         go_meet
         exact ⟨rfl, rfl⟩
        | true =>
         by_cases hv : yv = 2
         ·have hv1 : (yv != 2) = false := by simp [hv]
          obtain rfl : wt = false := by rw [HBH.out]; simp [hv]
          clear hv
          go_wp2
          go_meet
          exact ⟨rfl, rfl⟩
         ·have hv1 : (yv != 2) = true := by simp [hv]
          by_cases h1 : v1 = yv
          ·by_cases h2 : v2 = yn
           ·obtain rfl : wt = false := by rw [HBH.out, h1, h2]; simp
            subst h1 h2
            clear hv
            go_wp2
            go_meet
            exact ⟨rfl, rfl⟩
           ·obtain rfl : wt = true := by rw [HBH.out]; simp [hv]; omega
            have h3 : (v2 == yn) = false := by simpa using h2
            subst h1
            clear hv
            go_wp2
            go_meet
            exact ⟨rfl, rfl⟩
          ·obtain rfl : wt = true := by rw [HBH.out]; simp [hv]; omega
           have h3 : (v1 == yv) = false := by simpa using h1
           clear hv
           go_wp2
           go_meet
           exact ⟨rfl, rfl⟩
      case rest =>
       obtain ⟨rfl, rfl⟩ := hcut
       obtain ⟨wz, hwz⟩ : ∃ wz : World, wz = wc := ⟨_, rfl⟩
       subst hwz
       have HRI := Lib.hid (hasInt_any A5 lb.length c5 b5 lb (j : Int))
       clear HBH
       go_upto_region 16 with (fail)
       go_cut [98] (fun z wx => z = .bool false ∧ Hid (Only [] wz wx))
       case first =>
        cases yw with
        | true =>
         have HOAx : Hid (outerB G (i : Int) (j : Int) = false) := Lib.hid (by rw [HOA.out]; rfl)
         refine wp_region_noPanic ?_
         refine wp_region_timed (F := [⟨[], [], fun w' => Only [] wz w'⟩]) (by kernel_rfl) (timed_holds ((Only.refl [] wz).drew) (timed_nil)) ?_
         refine timed_pure (i := 0) (v := ?_) rfl (by kernel_rfl) (by kernel_rfl) (by kernel_rfl) (fun _ _ _ h => h) (by kernel_rfl) (by kernel_rfl) ?_ ?_
         rotate_left
         ·(intro w; go_simp; try with_reducible rfl)
         try simp only [Act.put, tdy]
         refine timed_pure (i := 1) (v := ?_) rfl (by kernel_rfl) (by kernel_rfl) (by kernel_rfl) (fun _ _ _ h => h) (by kernel_rfl) (by kernel_rfl) ?_ ?_
         rotate_left
         ·(intro w; go_simp; try with_reducible rfl)
         try simp only [Act.put, tdy]
         refine timed_pure (i := 3) (v := ?_) rfl (by kernel_rfl) (by kernel_rfl) (by kernel_rfl) (fun _ _ _ h => h) (by kernel_rfl) (by kernel_rfl) ?_ ?_
         rotate_left
         ·(intro w; go_simp; try with_reducible rfl)
         try simp only [Act.put, tdy]
         refine timed_step (i := 2) (by kernel_rfl) rfl (fun K hK => ?_)
         go_simp
         refine (HRI.out _ rfl (by omega) (HRh.out.only (Only.refl [] wz).drew (by simp))).mono ?_
         rintro e wy ⟨rfl, rfl⟩
         rw [← HWT.out]
         refine hK.out _ _ (timed_holds ((Only.refl [] wz).drew) (timed_nil)) ?_
         clear hK K
         try simp only [Act.put, tdy]
         refine timed_pure (i := 4) (v := ?_) rfl (by kernel_rfl) (by kernel_rfl) (by kernel_rfl) (fun _ _ _ h => h) (by kernel_rfl) (by kernel_rfl) ?_ ?_
         rotate_left
         ·(intro w; go_simp; try with_reducible rfl)
         try simp only [Act.put, tdy]
         refine timed_pure (i := 5) (v := ?_) rfl (by kernel_rfl) (by kernel_rfl) (by kernel_rfl) (fun _ _ _ h => h) (by kernel_rfl) (by kernel_rfl) ?_ ?_
         rotate_left
         ·(intro w; go_simp; try with_reducible rfl)
         try simp only [Act.put, tdy]
         refine timed_read (i := 6) (v := ?_) 0 rfl (by kernel_rfl) (by kernel_rfl) (by kernel_rfl) (fun _ _ _ h => h) (by kernel_rfl) (by kernel_rfl) rfl (by kernel_rfl) ?_ ?_
         rotate_left
         ·(intro wq hSw; (try dsimp only at hSw); have hb_H := hSw.blk HBh.out (by simp); have lb_H := hb_H.lt; have y0 := hb_H.at_ 0; have y1 := hb_H.at_ 1; have y2 := hb_H.at_ 2; simp at y0 y1 y2; clear hb_H; have hb_P := hSw.blk HPh.out (by simp); have lb_P := hb_P.lt; have p0 := hb_P.at_ 0; simp at p0; clear hb_P; clear hSw; go_simp; try with_reducible rfl)
         try simp only [Act.put, tdy]
         refine timed_pure (i := 7) (v := ?_) rfl (by kernel_rfl) (by kernel_rfl) (by kernel_rfl) (fun _ _ _ h => h) (by kernel_rfl) (by kernel_rfl) ?_ ?_
         rotate_left
         ·(intro w; go_simp; try with_reducible rfl)
         try simp only [Act.put, tdy]
         refine timed_pure (i := 8) (v := ?_) rfl (by kernel_rfl) (by kernel_rfl) (by kernel_rfl) (fun _ _ _ h => h) (by kernel_rfl) (by kernel_rfl) ?_ ?_
         rotate_left
         ·(intro w; go_simp; try with_reducible rfl)
         try simp only [Act.put, tdy]
         refine timed_pure (i := 9) (v := ?_) rfl (by kernel_rfl) (by kernel_rfl) (by kernel_rfl) (fun _ _ _ h => h) (by kernel_rfl) (by kernel_rfl) ?_ ?_
         rotate_left
         ·(intro w; go_simp; try with_reducible rfl)
         try simp only [Act.put, tdy]
         refine timed_pure (i := 11) (v := ?_) rfl (by kernel_rfl) (by kernel_rfl) (by kernel_rfl) (fun _ _ _ h => h) (by kernel_rfl) (by kernel_rfl) ?_ ?_
         rotate_left
         ·(intro w; go_simp; try with_reducible rfl)
         try simp only [Act.put, tdy]
         refine timed_read (i := 12) (v := ?_) 0 rfl (by kernel_rfl) (by kernel_rfl) (by kernel_rfl) (fun _ _ _ h => h) (by kernel_rfl) (by kernel_rfl) rfl (by kernel_rfl) ?_ ?_
         rotate_left
         ·(intro wq hSw; (try dsimp only at hSw); have hb_H := hSw.blk HBh.out (by simp); have lb_H := hb_H.lt; have y0 := hb_H.at_ 0; have y1 := hb_H.at_ 1; have y2 := hb_H.at_ 2; simp at y0 y1 y2; clear hb_H; have hb_P := hSw.blk HPh.out (by simp); have lb_P := hb_P.lt; have p0 := hb_P.at_ 0; simp at p0; clear hb_P; clear hSw; go_simp; try with_reducible rfl)
         try simp only [Act.put, tdy]
         refine timed_pure (i := 13) (v := ?_) rfl (by kernel_rfl) (by kernel_rfl) (by kernel_rfl) (fun _ _ _ h => h) (by kernel_rfl) (by kernel_rfl) ?_ ?_
         rotate_left
         ·(intro w; go_simp; try with_reducible rfl)
         try simp only [Act.put, tdy]
         refine timed_step (i := 10) (by kernel_rfl) rfl (fun K hK => ?_)
         go_simp
         refine (HOT.out (i : Int) (j : Int) _ _ _ _ _ _ _ _ (HIh.out.same (Only.refl [] wz).drew)).mono ?_
         rw [HOAx.out]
         rintro e wy ⟨rfl, Oy⟩
         refine hK.out _ _ (timed_holds (((Only.refl [] wz).drew).trans Oy) (timed_nil)) ?_
         clear hK K
         try simp only [Act.put, tdy]
         refine timed_pure (i := 14) (v := ?_) rfl (by kernel_rfl) (by kernel_rfl) (by kernel_rfl) (fun _ _ _ h => h) (by kernel_rfl) (by kernel_rfl) ?_ ?_
         rotate_left
         ·(intro w; go_simp; try with_reducible rfl)
         try simp only [Act.put, tdy]
         refine timed_idle (i := 15) rfl (by kernel_rfl) (by kernel_rfl) (by kernel_rfl) (fun _ _ _ h => h) (by kernel_rfl) (by kernel_rfl) ?_
         try simp only [Act.put, tdy]
         refine timed_idle (i := 16) rfl (by kernel_rfl) (by kernel_rfl) (by kernel_rfl) (fun _ _ _ h => h) (by kernel_rfl) (by kernel_rfl) ?_
         try simp only [Act.put, tdy]
         refine timed_pure (i := 17) (v := ?_) rfl (by kernel_rfl) (by kernel_rfl) (by kernel_rfl) (fun _ _ _ h => h) (by kernel_rfl) (by kernel_rfl) ?_ ?_
         rotate_left
         ·(intro w; go_simp; try with_reducible rfl)
         try simp only [Act.put, tdy]
         refine timed_pure (i := 18) (v := ?_) rfl (by kernel_rfl) (by kernel_rfl) (by kernel_rfl) (fun _ _ _ h => h) (by kernel_rfl) (by kernel_rfl) ?_ ?_
         rotate_left
         ·(intro w; go_simp; try with_reducible rfl)
         try simp only [Act.put, tdy]
         refine timed_pure (i := 19) (v := ?_) rfl (by kernel_rfl) (by kernel_rfl) (by kernel_rfl) (fun _ _ _ h => h) (by kernel_rfl) (by kernel_rfl) ?_ ?_
         rotate_left
         ·(intro w; go_simp; try with_reducible rfl)
         try simp only [Act.put, tdy]
         refine timed_done (by kernel_rfl) ?_ _
         refine NoPanic.normal ?_
         have HNX := Lib.hid ( (((Only.refl [] wz).drew).trans Oy))
         go_wp2
         go_meet
         exact ⟨by first | rfl | (cases vb <;> rfl), HNX⟩
        | false =>
         have HOAx : Hid (outerB G (i : Int) (j : Int) = !vb) := Lib.hid (by rw [HOA.out]; rfl)
         refine wp_region_noPanic ?_
         refine wp_region_timed (F := [⟨[], [], fun w' => Only [] wz w'⟩]) (by kernel_rfl) (timed_holds ((Only.refl [] wz).drew) (timed_nil)) ?_
         refine timed_pure (i := 0) (v := ?_) rfl (by kernel_rfl) (by kernel_rfl) (by kernel_rfl) (fun _ _ _ h => h) (by kernel_rfl) (by kernel_rfl) ?_ ?_
         rotate_left
         ·(intro w; go_simp; try with_reducible rfl)
         try simp only [Act.put, tdy]
         refine timed_pure (i := 1) (v := ?_) rfl (by kernel_rfl) (by kernel_rfl) (by kernel_rfl) (fun _ _ _ h => h) (by kernel_rfl) (by kernel_rfl) ?_ ?_
         rotate_left
         ·(intro w; go_simp; try with_reducible rfl)
         try simp only [Act.put, tdy]
         refine timed_pure (i := 3) (v := ?_) rfl (by kernel_rfl) (by kernel_rfl) (by kernel_rfl) (fun _ _ _ h => h) (by kernel_rfl) (by kernel_rfl) ?_ ?_
         rotate_left
         ·(intro w; go_simp; try with_reducible rfl)
         try simp only [Act.put, tdy]
         refine timed_step (i := 2) (by kernel_rfl) rfl (fun K hK => ?_)
         go_simp
         refine (HRI.out _ rfl (by omega) (HRh.out.only (Only.refl [] wz).drew (by simp))).mono ?_
         rintro e wy ⟨rfl, rfl⟩
         rw [← HWT.out]
         refine hK.out _ _ (timed_holds ((Only.refl [] wz).drew) (timed_nil)) ?_
         clear hK K
         try simp only [Act.put, tdy]
         refine timed_pure (i := 4) (v := ?_) rfl (by kernel_rfl) (by kernel_rfl) (by kernel_rfl) (fun _ _ _ h => h) (by kernel_rfl) (by kernel_rfl) ?_ ?_
         rotate_left
         ·(intro w; go_simp; try with_reducible rfl)
         try simp only [Act.put, tdy]
         refine timed_pure (i := 5) (v := ?_) rfl (by kernel_rfl) (by kernel_rfl) (by kernel_rfl) (fun _ _ _ h => h) (by kernel_rfl) (by kernel_rfl) ?_ ?_
         rotate_left
         ·(intro w; go_simp; try with_reducible rfl)
         try simp only [Act.put, tdy]
         refine timed_read (i := 6) (v := ?_) 0 rfl (by kernel_rfl) (by kernel_rfl) (by kernel_rfl) (fun _ _ _ h => h) (by kernel_rfl) (by kernel_rfl) rfl (by kernel_rfl) ?_ ?_
         rotate_left
         ·(intro wq hSw; (try dsimp only at hSw); have hb_H := hSw.blk HBh.out (by simp); have lb_H := hb_H.lt; have y0 := hb_H.at_ 0; have y1 := hb_H.at_ 1; have y2 := hb_H.at_ 2; simp at y0 y1 y2; clear hb_H; have hb_P := hSw.blk HPh.out (by simp); have lb_P := hb_P.lt; have p0 := hb_P.at_ 0; simp at p0; clear hb_P; clear hSw; go_simp; try with_reducible rfl)
         try simp only [Act.put, tdy]
         refine timed_pure (i := 7) (v := ?_) rfl (by kernel_rfl) (by kernel_rfl) (by kernel_rfl) (fun _ _ _ h => h) (by kernel_rfl) (by kernel_rfl) ?_ ?_
         rotate_left
         ·(intro w; go_simp; try with_reducible rfl)
         try simp only [Act.put, tdy]
         refine timed_pure (i := 8) (v := ?_) rfl (by kernel_rfl) (by kernel_rfl) (by kernel_rfl) (fun _ _ _ h => h) (by kernel_rfl) (by kernel_rfl) ?_ ?_
         rotate_left
         ·(intro w; go_simp; try with_reducible rfl)
         try simp only [Act.put, tdy]
         refine timed_pure (i := 9) (v := ?_) rfl (by kernel_rfl) (by kernel_rfl) (by kernel_rfl) (fun _ _ _ h => h) (by kernel_rfl) (by kernel_rfl) ?_ ?_
         rotate_left
         ·(intro w; go_simp; try with_reducible rfl)
         try simp only [Act.put, tdy]
         refine timed_pure (i := 11) (v := ?_) rfl (by kernel_rfl) (by kernel_rfl) (by kernel_rfl) (fun _ _ _ h => h) (by kernel_rfl) (by kernel_rfl) ?_ ?_
         rotate_left
         ·(intro w; go_simp; try with_reducible rfl)
         try simp only [Act.put, tdy]
         refine timed_read (i := 12) (v := ?_) 0 rfl (by kernel_rfl) (by kernel_rfl) (by kernel_rfl) (fun _ _ _ h => h) (by kernel_rfl) (by kernel_rfl) rfl (by kernel_rfl) ?_ ?_
         rotate_left
         ·(intro wq hSw; (try dsimp only at hSw); have hb_H := hSw.blk HBh.out (by simp); have lb_H := hb_H.lt; have y0 := hb_H.at_ 0; have y1 := hb_H.at_ 1; have y2 := hb_H.at_ 2; simp at y0 y1 y2; clear hb_H; have hb_P := hSw.blk HPh.out (by simp); have lb_P := hb_P.lt; have p0 := hb_P.at_ 0; simp at p0; clear hb_P; clear hSw; go_simp; try with_reducible rfl)
         try simp only [Act.put, tdy]
         refine timed_pure (i := 13) (v := ?_) rfl (by kernel_rfl) (by kernel_rfl) (by kernel_rfl) (fun _ _ _ h => h) (by kernel_rfl) (by kernel_rfl) ?_ ?_
         rotate_left
         ·(intro w; go_simp; try with_reducible rfl)
         try simp only [Act.put, tdy]
         refine timed_step (i := 10) (by kernel_rfl) rfl (fun K hK => ?_)
         go_simp
         refine (HOT.out (i : Int) (j : Int) _ _ _ _ _ _ _ _ (HIh.out.same (Only.refl [] wz).drew)).mono ?_
         rw [HOAx.out]
         rintro e wy ⟨rfl, Oy⟩
         refine hK.out _ _ (timed_holds (((Only.refl [] wz).drew).trans Oy) (timed_nil)) ?_
         clear hK K
         try simp only [Act.put, tdy]
         refine timed_pure (i := 14) (v := ?_) rfl (by kernel_rfl) (by kernel_rfl) (by kernel_rfl) (fun _ _ _ h => h) (by kernel_rfl) (by kernel_rfl) ?_ ?_
         rotate_left
         ·(intro w; go_simp; try with_reducible rfl)
         try simp only [Act.put, tdy]
         refine timed_pure (i := 15) (v := ?_) rfl (by kernel_rfl) (by kernel_rfl) (by kernel_rfl) (fun _ _ _ h => h) (by kernel_rfl) (by kernel_rfl) ?_ ?_
         rotate_left
         ·(intro w; go_simp; try with_reducible rfl)
         try simp only [Act.put, tdy]
         refine timed_pure (i := 16) (v := ?_) rfl (by kernel_rfl) (by kernel_rfl) (by kernel_rfl) (fun _ _ _ h => h) (by kernel_rfl) (by kernel_rfl) ?_ ?_
         rotate_left
         ·(intro w; go_simp; try with_reducible rfl)
         try simp only [Act.put, tdy]
         refine timed_pure (i := 17) (v := ?_) rfl (by kernel_rfl) (by kernel_rfl) (by kernel_rfl) (fun _ _ _ h => h) (by kernel_rfl) (by kernel_rfl) ?_ ?_
         rotate_left
         ·(intro w; go_simp; try with_reducible rfl)
         try simp only [Act.put, tdy]
         refine timed_pure (i := 18) (v := ?_) rfl (by kernel_rfl) (by kernel_rfl) (by kernel_rfl) (fun _ _ _ h => h) (by kernel_rfl) (by kernel_rfl) ?_ ?_
         rotate_left
         ·(intro w; go_simp; try with_reducible rfl)
         try simp only [Act.put, tdy]
         refine timed_pure (i := 19) (v := ?_) rfl (by kernel_rfl) (by kernel_rfl) (by kernel_rfl) (fun _ _ _ h => h) (by kernel_rfl) (by kernel_rfl) ?_ ?_
         rotate_left
         ·(intro w; go_simp; try with_reducible rfl)
         try simp only [Act.put, tdy]
         refine timed_done (by kernel_rfl) ?_ _
         refine NoPanic.normal ?_
         have HNX := Lib.hid ( (((Only.refl [] wz).drew).trans Oy))
         go_wp2
         go_meet
         exact ⟨by first | rfl | (cases vb <;> rfl), HNX⟩
       case rest =>
        obtain ⟨rfl, HCX⟩ := hcut
        obtain ⟨wk, hwk⟩ : ∃ wk : World, wk = wc := ⟨_, rfl⟩
        subst hwk
        have HBk := Lib.hid (HCX.out.blk HBh.out (by simp))
        have HPk := Lib.hid (HCX.out.blk HPh.out (by simp))
        have HIk := Lib.hid (HIh.out.same HCX.out)
        have HOk := Lib.hid (HOh.out.trans HCX.out)
        have HRk := Lib.hid (HRh.out.only HCX.out (by simp))
        have HFk := Lib.hid ((HCX.out.cell (p := ⟨bl, off + i * 3 + 1, none⟩) hbwh (by simp)).trans HFh.out)
        have hbwk := Nat.lt_of_lt_of_le hbwh HCX.out.size
        clear HCX HBh HPh HIh HOh HRh HFh HVh
        have lP := HPk.out.lt
        have p1 := HPk.out.at_ 1
        simp at p1
        have lB := HBk.out.lt
        have y0 := HBk.out.at_ 0
        have y1 := HBk.out.at_ 1
        have y2 := HBk.out.at_ 2
        simp at y0 y1 y2
        go_wp2_with fail
        refine (HLV.out (i : Int) yk _ _ _ _ _ _ _ _ HIk.out).mono ?_
        rintro e wl ⟨rfl, Ol⟩
        have HFl := Lib.hid ((Ol.cell (p := ⟨bl, off + i * 3 + 1, none⟩) hbwk (by simp)).trans HFk.out)
        have hbwl := Nat.lt_of_lt_of_le hbwk Ol.size
        generalize leavesO G (i : Int) yk = lv at *
        unfold optT optV
        clear lP p1
        have HOl := Lib.hid (HOk.out.trans Ol)
        have HBl := Lib.hid ((Ol).blk HBk.out (by simp))
        have HIl := Lib.hid (HIk.out.same (Ol))
        have HPl := Lib.hid ((Ol).blk HPk.out (by simp))
        have HRl := Lib.hid (HRk.out.only (Ol) (by simp))
        clear HOk HBk HIk HPk HRk lB y0 y1 y2
        clear Ol HFk
        go_upto_region 19 with (fail)
        have HX := Lib.hid ((Only.refl [] wl).alloc (.cells #[.int .i64 (lv.getD (0, 0)).1, .int .i64 (lv.getD (0, 0)).2] 30))
        have HFm := Lib.hid ((HX.out.cell (p := ⟨bl, off + i * 3 + 1, none⟩) hbwl (by simp)).trans HFl.out)
        have hbwm := Nat.lt_of_lt_of_le hbwl HX.out.size
        have HPm := Lib.hid (HX.out.blk HPl.out (by simp))
        have HRm := Lib.hid (HRl.out.only HX.out (by simp))
        have HBm := Lib.hid (HX.out.blk HBl.out (by simp))
        have HIm := Lib.hid (HIl.out.same HX.out)
        have HOm := Lib.hid (HOl.out.trans HX.out)
        clear HX HBl HIl HRl HOl HPl HFl
        generalize (wl.alloc (.cells #[.int .i64 (lv.getD (0, 0)).1, .int .i64 (lv.getD (0, 0)).2] 30)) = wm at *
        have lP := HPm.out.lt
        have p1 := HPm.out.at_ 1
        simp at p1
        have lB := HBm.out.lt
        have y0 := HBm.out.at_ 0
        have y1 := HBm.out.at_ 1
        have y2 := HBm.out.at_ 2
        simp at y0 y1 y2
        go_wp2_with fail
        refine (HWR.out yk _ _ _ _ _ _ _ _ HIm.out).mono ?_
        rintro e wn ⟨A9, c9, ⟨rfl, hr9⟩, On⟩
        have HR9 := Lib.hid hr9
        have HFn := Lib.hid ((On.cell (p := ⟨bl, off + i * 3 + 1, none⟩) hbwm (by simp)).trans HFm.out)
        have hbwn := Nat.lt_of_lt_of_le hbwm On.size
        clear lP p1 hr9
        have HOn := Lib.hid (HOm.out.trans On)
        have HBn := Lib.hid ((On).blk HBm.out (by simp))
        have HIn := Lib.hid (HIm.out.same (On))
        have HRn := Lib.hid (HRm.out.only (On) (by simp))
        clear HOm HBm HIm HRm lB y0 y1 y2
        clear On HFm HPm
        have lB := HBn.out.lt
        have y0 := HBn.out.at_ 0
        have y1 := HBn.out.at_ 1
        have y2 := HBn.out.at_ 2
        simp at y0 y1 y2
        generalize wrtH G yk = lw at *
        go_wp2_with fail
        refine (hasInt_any A9 lw.length c9 _ lw (i : Int) wn rfl (by omega) HR9.out).mono ?_
        rintro e wn' ⟨rfl, rfl⟩
        have hft := HFn.out
        generalize hd : decide ((i : Int) ∈ lw) = dd at *
        generalize lv.isSome = lb2 at *
        cases lb2 with
        | false =>
         have hdd : dd = false := by rw [HWH.out]; rfl
         subst hdd
         clear hd
         go_wp2
         go_roundw
         case rel => first | exact ⟨j + 1, by go_num, by omega, HBn, HIn, HRn, HOn⟩ | exact ⟨_, ⟨j + 1, by go_num, by omega, HBn, HIn, HRn, HOn⟩, rfl⟩
         case measure => simp [intOf]; omega
        | true =>
         by_cases hf : t.f = 2
         ·have hf1 : (t.f != 2) = false := by simp [hf]
          have hdd : dd = false := by rw [HWH.out, hf]; rfl
          subst hdd
          clear hd hf
          go_wp2
          go_roundw
          case rel => first | exact ⟨j + 1, by go_num, by omega, HBn, HIn, HRn, HOn⟩ | exact ⟨_, ⟨j + 1, by go_num, by omega, HBn, HIn, HRn, HOn⟩, rfl⟩
          case measure => simp [intOf]; omega
         ·have hf1 : (t.f != 2) = true := by simp [hf]
          have hdd : dd = true := by rw [HWH.out]; simp [hf]
          subst hdd
          clear hd hf
          go_wp2
          go_roundw
          case rel => first | exact ⟨j + 1, by go_num, by omega, HBn, HIn, HRn, HOn⟩ | exact ⟨_, ⟨j + 1, by go_num, by omega, HBn, HIn, HRn, HOn⟩, rfl⟩
          case measure => simp [intOf]; omega
     ·have hjm : j = m := by omega
      subst hjm
      have hd2 : decide ((j : Int) < (j : Int)) = false := by simp
      have hbr : bl < wr.heap.size := hbw
      go_wp2
      go_roundw
      case rel => first | exact ⟨i + 1, by go_num, by omega, HBe, HIe, HOe⟩ | exact ⟨_, ⟨i + 1, by go_num, by omega, HBe, HIe, HOe⟩, rfl⟩
      case measure => simp [intOf]; omega
   ·have him : i = m2 := by omega
    subst him
    have hd2 : decide ((i : Int) < (i : Int)) = false := by simp
    go_wp2
    go_ret
    exact ⟨rfl, HOc.out⟩
end Go.Proofs.YtjhomlnlmpdklaaGreatDoor
