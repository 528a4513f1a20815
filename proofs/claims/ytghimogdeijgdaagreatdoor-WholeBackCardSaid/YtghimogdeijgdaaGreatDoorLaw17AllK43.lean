/- Parts. -/
import Derived.Test.YtghimogdeijgdaaGreatDoorLaw17AllK39
import Derived.Test.YtghimogdeijgdaaGreatDoorLaw17AllK41
import Derived.Test.YtghimogdeijgdaaGreatDoorLaw17AllK42
set_option maxRecDepth 10000
set_option maxHeartbeats 16000000
set_option linter.unusedVariables false
set_option linter.unusedSimpArgs false
namespace Go.Proofs.YtghimogdeijgdaaGreatDoor
open Go.RowKit
open Go.Lib hiding intOf
attribute [local go_sem ↓] Go.wp_at_zero Go.wp_at_succ
def okB3 (h g : Hst) : Bool := mayH h && (wholeB g && decide (h.l.length = g.l.length))
theorem isWld_ok3 {h g : Hst} (e : okB3 h g = false) : isWld h g = false := by
 unfold okB3 at e;unfold isWld matchB;generalize mayH h = a1 at *;generalize wholeB g = a2 at *;generalize decide (h.l.length = g.l.length) = a5 at *
 revert e
 cases a1 <;> cases a2 <;> cases a5 <;> simp
theorem rwwld_any (A0 A1 A2 Z0 Z1 Z2 : Option Addr) (n0 n1 n2 c0 c1 c2 m0 m1 m2 d0 d1 d2 B B' : Nat) (h g : Hst) (w : World) (hg : HIn w B A0 A1 A2 n0 n1 n2 h) (hz : HIn w B' Z0 Z1 Z2 m0 m1 m2 g) :
    Calls Tryz.prog 15 #[hval A0 A1 A2 n0 n1 n2 c0 c1 c2, hval Z0 Z1 Z2 m0 m1 m2 d0 d1 d2] w fun e w' => ∃ Y, (e = .returned (.tuple #[Y, .bool (isWld h g)]) ∧ WAgg w' w.heap.size (wldR h g) Y) ∧ Only [] w w' := by
  have HI := Hd hg
  have HZ := Hd hz
  have HMY := Hd (fun w' (O : Only [] w w') => refmay_any A0 A1 A2 n0 n1 n2 c0 c1 c2 B h w' (hg.same O))
  have HIS := Hd (fun w' (O : Only [] w w') => ris17_any Z0 Z1 Z2 m0 m1 m2 d0 d1 d2 B' g w' (hz.same O))
  unfold hval at HMY HIS ⊢
  have O1 : Only [] w (((w.alloc (.cells #[.slice A0 n0 c0, .slice A1 n1 c1, .slice A2 n2 c2] 25)).alloc (.cells #[.slice Z0 m0 d0, .slice Z1 m1 d1, .slice Z2 m2 d2] 25)).alloc (.cells #[.slice none 0 0, .slice none 0 0] 29)) := (((Only.refl [] w).alloc _).alloc _).alloc _
  have HO1 := Hd O1
  have HB1 := Hd (((Blk.made w 25 #[.slice A0 n0 c0, .slice A1 n1 c1, .slice A2 n2 c2]).alloc (.cells #[.slice Z0 m0 d0, .slice Z1 m1 d1, .slice Z2 m2 d2] 25)).alloc (.cells #[.slice none 0 0, .slice none 0 0] 29))
  have HG1 := Hd ((Blk.made (w.alloc (.cells #[.slice A0 n0 c0, .slice A1 n1 c1, .slice A2 n2 c2] 25)) 25 #[.slice Z0 m0 d0, .slice Z1 m1 d1, .slice Z2 m2 d2]).alloc (.cells #[.slice none 0 0, .slice none 0 0] 29))
  have HR1 := Hd (Blk.made ((w.alloc (.cells #[.slice A0 n0 c0, .slice A1 n1 c1, .slice A2 n2 c2] 25)).alloc (.cells #[.slice Z0 m0 d0, .slice Z1 m1 d1, .slice Z2 m2 d2] 25)) 29 #[.slice none 0 0, .slice none 0 0])
  simp only [World.size_alloc] at HG1 HR1
  have HN := Hd hg.n2
  have HM := Hd hz.n2
  have hn2 : n2 ≤ 1000 := by rw [← hg.n2]; exact hg.sm.nl
  have hm2 : m2 ≤ 1000 := by rw [← hz.n2]; exact hz.sm.nl
  clear O1 hg hz
  go_enter Tryz.func15, Tryz.ntmps15
  go_upto_region 1 with (fail)
  generalize (((w.alloc (.cells #[.slice A0 n0 c0, .slice A1 n1 c1, .slice A2 n2 c2] 25)).alloc (.cells #[.slice Z0 m0 d0, .slice Z1 m1 d1, .slice Z2 m2 d2] 25)).alloc (.cells #[.slice none 0 0, .slice none 0 0] 29)) = w1 at *
  generalize hgr : w.heap.size + 1 + 1 = gr at *
  generalize hgg : w.heap.size + 1 = gg at *
  go_cut [25] (fun bv wx => bv = .bool (!okB3 h g) ∧ Hid (Only [] w1 wx))
  case first =>
    have lHB_ := HB1.out.lt
    have y0 := HB1.out.at_ 0
    have y1 := HB1.out.at_ 1
    have y2 := HB1.out.at_ 2
    have lHG_ := HG1.out.lt
    have z0 := HG1.out.at_ 0
    have z1 := HG1.out.at_ 1
    have z2 := HG1.out.at_ 2
    simp at y0 y1 y2 z0 z1 z2
    have HQ1 := Hd (Only.refl [] w1)
    cases hm : mayH h with
    | false =>
      rw [errH_not hm] at HMY
      have HOK : Hid (okB3 h g = false) := Hd (by unfold okB3; rw [hm]; rfl)
      clear hm
      go_wp2_with fail
      refine (HMY.out _ HO1.out).mono ?_
      rintro e w2 ⟨rfl, O2⟩
      have HQ2 := Hd O2
      clear O2 lHB_ lHG_ y0 y1 y2 z0 z1 z2
      go_wp2
      go_meet
      exact ⟨by rw [HOK.out]; rfl, HQ2⟩
    | true =>
      rw [errH_yes hm] at HMY
      clear lHB_ lHG_ y0 y1 y2 z0 z1 z2
      have lHB_ := HB1.out.lt
      have y0 := HB1.out.at_ 0
      have y1 := HB1.out.at_ 1
      have y2 := HB1.out.at_ 2
      have lHG_ := HG1.out.lt
      have z0 := HG1.out.at_ 0
      have z1 := HG1.out.at_ 1
      have z2 := HG1.out.at_ 2
      simp at y0 y1 y2 z0 z1 z2
      go_wp2_with fail
      refine (HMY.out _ HO1.out).mono ?_
      rintro e w2 ⟨rfl, O2⟩
      clear lHB_ lHG_ y0 y1 y2 z0 z1 z2
      have HO2 := Hd (HO1.out.trans O2)
      have HB2 := Hd (O2.blk HB1.out (by simp))
      have HG2 := Hd (O2.blk HG1.out (by simp))
      have HQ2 := Hd (HQ1.out.trans O2)
      clear HO1 HB1 HG1 HQ1
      clear O2
      cases hb : wholeB g with
      | false =>
        rw [hb] at HIS
        have HOK : Hid (okB3 h g = false) := Hd (by unfold okB3; rw [hm, hb]; rfl)
        clear hm hb
        have lHG_ := HG2.out.lt
        have z0 := HG2.out.at_ 0
        have z1 := HG2.out.at_ 1
        have z2 := HG2.out.at_ 2
        simp at z0 z1 z2
        go_wp2_with fail
        refine (HIS.out _ HO2.out).mono ?_
        rintro e w3 ⟨rfl, O3⟩
        have HQ3 := Hd (HQ2.out.trans O3)
        clear lHG_ z0 z1 z2
        clear O3
        go_wp2
        go_meet
        exact ⟨by rw [HOK.out]; rfl, HQ3⟩
      | true =>
        rw [hb] at HIS
        have lHB_ := HB2.out.lt
        have y0 := HB2.out.at_ 0
        have y1 := HB2.out.at_ 1
        have y2 := HB2.out.at_ 2
        have lHG_ := HG2.out.lt
        have z0 := HG2.out.at_ 0
        have z1 := HG2.out.at_ 1
        have z2 := HG2.out.at_ 2
        simp at y0 y1 y2 z0 z1 z2
        go_wp2_with fail
        refine (HIS.out _ HO2.out).mono ?_
        rintro e w3 ⟨rfl, O3⟩
        clear lHB_ lHG_ y0 y1 y2 z0 z1 z2
        have HO3 := Hd (HO2.out.trans O3)
        have HB3 := Hd (O3.blk HB2.out (by simp))
        have HG3 := Hd (O3.blk HG2.out (by simp))
        have HQ3 := Hd (HQ2.out.trans O3)
        clear HO2 HB2 HG2 HQ2
        clear O3
        obtain ⟨b5, hb5⟩ : ∃ b, b = ((n2 : Int) != (m2 : Int)) := ⟨_, rfl⟩
        have HOK : Hid ((!okB3 h g) = b5) := Hd (by
          unfold okB3
          rw [hm, hb, hb5, HN.out, HM.out]
          by_cases e : n2 = m2
          · simp [e]
          · have e' : ¬ (n2 : Int) = (m2 : Int) := by omega
            simp [e, e'])
        clear hm hb
        have hb5' := hb5.symm
        clear hb5
        have lHB_ := HB3.out.lt
        have y0 := HB3.out.at_ 0
        have y1 := HB3.out.at_ 1
        have y2 := HB3.out.at_ 2
        have lHG_ := HG3.out.lt
        have z0 := HG3.out.at_ 0
        have z1 := HG3.out.at_ 1
        have z2 := HG3.out.at_ 2
        simp at y0 y1 y2 z0 z1 z2
        go_wp2
        go_meet
        exact ⟨by rw [HOK.out], HQ3⟩
  case rest =>
    obtain ⟨rfl, HOc⟩ := hcut
    have HO2 := Hd (HO1.out.trans HOc.out)
    have HB2 := Hd (HOc.out.blk HB1.out (by simp))
    have HG2 := Hd (HOc.out.blk HG1.out (by simp))
    have HR2 := Hd (HOc.out.blk HR1.out (by simp))
    clear HO1 HB1 HG1 HR1 HOc HMY HIS
    cases hok : okB3 h g with
    | false =>
      have HW : Hid (isWld h g = false) := Hd (isWld_ok3 hok)
      clear hok HB2 HG2
      go_wp2_with (refine wpList_store_blk rfl 29 (.tmp 4) (.tmp 26) rfl gr 29 _ #[.slice none 0 0, .slice none 0 0] rfl rfl HR2.out rfl (by kernel_rfl) (by kernel_rfl) ?_; intro w9 b9 o9; have HB9 := Hd b9; have HN9 := Hd o9; clear b9 o9)
      refine bodyPost_ret (results_row2 Tryz.results15 _ _ gr 29 #[.slice none 0 0, .slice none 0 0] _ rfl HB9.out Tryz.underlying29 rfl (by kernel_rfl)) rfl ?_
      exact ⟨_, ⟨by rw [HW.out]; rfl, by unfold wldR; rw [HW.out]; exact wagg_none⟩, HO2.out.step HN9.out (fun i hi hl => by simp at hi; omega)⟩
    | true =>
      obtain ⟨hmh, hwg, hlg⟩ : mayH h = true ∧ wholeB g = true ∧ h.l.length = g.l.length := by
        unfold okB3 at hok
        simpa using hok
      have hnm : m2 = n2 := by rw [← HN.out, ← HM.out]; exact hlg.symm
      have HW2 := Hd (isWld_ref hmh hwg)
      have HMT := Hd (may_tx hmh)
      clear hok hmh hwg hlg
      subst hnm
      go_upto_region 4 with (fail)
      have HS3 : Hid (WS w (wc.alloc (.cells #[.slice none 0 0, .slice none 0 0] 29)) gr wc.heap.size [] [] (.slice none 0 0) (.slice none 0 0) [(gg, 25, #[.slice Z0 m0 d0, .slice Z1 m1 d1, .slice Z2 m2 d2]), (w.heap.size, 25, #[.slice A0 n0 c0, .slice A1 n1 c1, .slice A2 m2 c2])]) := Hd (by
        have OA : Only [] wc (wc.alloc (.cells #[.slice none 0 0, .slice none 0 0] 29)) := (Only.refl [] wc).alloc _
        have hlt := HR2.out.lt
        refine ⟨HO2.out.trans OA, OA.blk HR2.out (by simp), Blk.made wc 29 _, World.ownsRow_nil _ _ _ _, World.ownsRow_nil _ _ _ _, hlt, by omega, fun b hb => ?_, fun b hb => ?_⟩
        · simp at hb
          rcases hb with rfl | rfl
          · exact OA.blk HG2.out (by simp)
          · exact OA.blk HB2.out (by simp)
        · simp at hb
          rcases hb with rfl | rfl
          · exact ⟨(by decide : 25 ≠ 4), (by decide : 25 ≠ 53), (by decide : 25 ≠ 29)⟩
          · exact ⟨(by decide : 25 ≠ 4), (by decide : 25 ≠ 53), (by decide : 25 ≠ 29)⟩)
      clear HO2 HB2 HG2 HR2
      generalize (wc.alloc (.cells #[.slice none 0 0, .slice none 0 0] 29)) = w3 at *
      generalize wc.heap.size = g6 at *
      obtain ⟨i0, hi, hz0, hz1, hz2⟩ := info_parts info_wbool
      obtain ⟨j0, hjv, hj0v, hj1v, hj2v⟩ := info_parts info_wval
      have HMO := Hd HZ.out.sm.no
      have HIL := Hd HI.out.at_.r2
      have HZL := Hd HZ.out.at_.r2
      go_wp2_with fail
      go_loopw [7] (fun iv wr => ∃ (k : Nat) (V1 V2 : Value), iv = .int .i64 k ∧ k ≤ m2 ∧ Hid (WS w wr gr g6 (comsT (h.l.take k) (g.l.take k)) (readsT (h.l.take k) (g.l.take k)) V1 V2 [(gg, 25, #[.slice Z0 m0 d0, .slice Z1 m1 d1, .slice Z2 m2 d2]), (w.heap.size, 25, #[.slice A0 n0 c0, .slice A1 n1 c1, .slice A2 m2 c2])])) (fun iv _ => m2 - (intOf iv).toNat)
      case atStart => exact ⟨0, _, _, rfl, by omega, HS3⟩
      case round =>
        obtain ⟨k, V1, V2, rfl, hk, hS⟩ := hrel
        clear HS3
        have HbG := Hd (hS.out.at_ 0 rfl)
        have HbH := Hd (hS.out.at_ 1 rfl)
        have lB := HbH.out.lt
        have y2 := HbH.out.at_ 2
        simp at y2
        by_cases hlt : k < m2
        · obtain ⟨t, ht⟩ : ∃ t, h.l[k]? = some t := ⟨_, List.getElem?_eq_getElem (by rw [HN.out]; exact hlt)⟩
          obtain ⟨u, hu⟩ : ∃ u, g.l[k]? = some u := ⟨_, List.getElem?_eq_getElem (by rw [HM.out]; exact hlt)⟩
          obtain ⟨bt, ot, AT, cT, rfl, -, hbtw, hTA, hTOk⟩ := HIL.out.at_ ht
          obtain ⟨bu, ou, AU, cU, rfl, -, hbuw, hUA, hUOk⟩ := HZL.out.at_ hu
          have hno := HMT.out.2 t (List.mem_of_getElem? ht)
          have hmo := HMO.out u (List.mem_of_getElem? hu)
          have HT := Hd ht
          have HU := Hd hu
          have HTA := Hd hTA
          have HUA := Hd hUA
          have HTR := Hd hTOk.row
          have HUR := Hd hUOk.row
          have HCT := Hd (comsT_take ht hu)
          have HRT := Hd (readsT_take ht hu)
          obtain ⟨ts, tf, ops⟩ := t
          obtain ⟨us, uf, pps⟩ := u
          dsimp only at hno hmo HTA HUA HTR HUR HCT HRT
          generalize hmt : ops.length = mt at *
          generalize hmu : pps.length = mu at *
          have HMTT := Hd hmt
          have HMU := Hd hmu
          clear ht hu hTA hUA hTOk hUOk hmt hmu
          have h01 : (k : Int) < (m2 : Int) := by omega
          have hk0 : (0 : Int) ≤ (k : Int) := Int.natCast_nonneg _
          have hwk : IntKind.i64.wrap ((k : Int) + 1) = (k : Int) + 1 := IntWalk.i64_in _ (by omega)
          have hbtr : bt < wr.heap.size := Nat.lt_of_lt_of_le hbtw hS.out.o.size
          have hbur : bu < wr.heap.size := Nat.lt_of_lt_of_le hbuw hS.out.o.size
          obtain ⟨b5, hb5⟩ : ∃ b, ((mt : Int) != (mu : Int)) = b := ⟨_, rfl⟩
          have HB5 : Hid (b5 = !decide (mt = mu)) := Hd (by
            rw [← hb5]
            by_cases e : mt = mu
            · simp [e]
            · have e' : ¬ (mt : Int) = (mu : Int) := by omega
              simp [e, e'])
          go_upto_region 7 with (fail)
          clear lB y2
          refine rg1 [] [] wr ?_
          have OW : Only [] wr wr.drew := (Only.refl [] wr).drew
          generalize wr.drew = wz at *
          refine tQ 0 (h := ?_)
          refine trd (i := 1) (v := ?_) 0 ?_ ?_
          rotate_left
          · (intro wq hSw; obtain ⟨lb_H, y2⟩ := Bk1 (hSw.blk HbH.out (by simp)) 2; simp at y2; obtain ⟨lb_G, z2⟩ := Bk1 (hSw.blk HbG.out (by simp)) 2; simp at z2; obtain ⟨-, -, a2⟩ := HTA.out.only (hS.out.o.trans hSw) hbtw (by simp); obtain ⟨-, -, b2⟩ := HUA.out.only (hS.out.o.trans hSw) hbuw (by simp); dsimp only at a2 b2; rw [HMTT.out] at a2; rw [HMU.out] at b2; have hbtq : bt < wq.heap.size := Nat.lt_of_lt_of_le hbtr hSw.size; have hbuq : bu < wq.heap.size := Nat.lt_of_lt_of_le hbur hSw.size; clear hSw; go_simp; try with_reducible rfl)
          try simp only [tdz]
          refine tQ 2 (h := tQ 3 (h := tQ 4 (h := ?_)))
          refine trd (i := 5) (v := ?_) 0 ?_ ?_
          rotate_left
          · (intro wq hSw; obtain ⟨lb_H, y2⟩ := Bk1 (hSw.blk HbH.out (by simp)) 2; simp at y2; obtain ⟨lb_G, z2⟩ := Bk1 (hSw.blk HbG.out (by simp)) 2; simp at z2; obtain ⟨-, -, a2⟩ := HTA.out.only (hS.out.o.trans hSw) hbtw (by simp); obtain ⟨-, -, b2⟩ := HUA.out.only (hS.out.o.trans hSw) hbuw (by simp); dsimp only at a2 b2; rw [HMTT.out] at a2; rw [HMU.out] at b2; have hbtq : bt < wq.heap.size := Nat.lt_of_lt_of_le hbtr hSw.size; have hbuq : bu < wq.heap.size := Nat.lt_of_lt_of_le hbur hSw.size; clear hSw; go_simp; try with_reducible rfl)
          try simp only [tdz]
          refine tQ 6 (h := tQ 7 (h := ?_))
          refine trd (i := 8) (v := ?_) 0 ?_ ?_
          rotate_left
          · (intro wq hSw; obtain ⟨lb_H, y2⟩ := Bk1 (hSw.blk HbH.out (by simp)) 2; simp at y2; obtain ⟨lb_G, z2⟩ := Bk1 (hSw.blk HbG.out (by simp)) 2; simp at z2; obtain ⟨-, -, a2⟩ := HTA.out.only (hS.out.o.trans hSw) hbtw (by simp); obtain ⟨-, -, b2⟩ := HUA.out.only (hS.out.o.trans hSw) hbuw (by simp); dsimp only at a2 b2; rw [HMTT.out] at a2; rw [HMU.out] at b2; have hbtq : bt < wq.heap.size := Nat.lt_of_lt_of_le hbtr hSw.size; have hbuq : bu < wq.heap.size := Nat.lt_of_lt_of_le hbur hSw.size; clear hSw; go_simp; try with_reducible rfl)
          try simp only [tdz]
          refine tQ 9 (h := tQ 10 (h := tQ 11 (h := ?_)))
          refine trd (i := 12) (v := ?_) 0 ?_ ?_
          rotate_left
          · (intro wq hSw; obtain ⟨lb_H, y2⟩ := Bk1 (hSw.blk HbH.out (by simp)) 2; simp at y2; obtain ⟨lb_G, z2⟩ := Bk1 (hSw.blk HbG.out (by simp)) 2; simp at z2; obtain ⟨-, -, a2⟩ := HTA.out.only (hS.out.o.trans hSw) hbtw (by simp); obtain ⟨-, -, b2⟩ := HUA.out.only (hS.out.o.trans hSw) hbuw (by simp); dsimp only at a2 b2; rw [HMTT.out] at a2; rw [HMU.out] at b2; have hbtq : bt < wq.heap.size := Nat.lt_of_lt_of_le hbtr hSw.size; have hbuq : bu < wq.heap.size := Nat.lt_of_lt_of_le hbur hSw.size; clear hSw; go_simp; try with_reducible rfl)
          try simp only [tdz]
          refine tQ 13 (h := tQ 14 (h := ?_))
          refine tdn ?_
          have HS5 := Hd (hS.out.same OW)
          have hbtz : bt < wz.heap.size := Nat.lt_of_lt_of_le hbtr OW.size
          have hbuz : bu < wz.heap.size := Nat.lt_of_lt_of_le hbur OW.size
          clear OW hS HbG HbH hb5 hbtr hbur
          cases hbb : b5 with
          | true =>
            have HW : Hid (isWld h g = false) := Hd (isWld_head HT.out HU.out (by
              unfold headB
              have h9 := HB5.out
              rw [hbb] at h9
              have h8 : decide (mt = mu) = false := by simpa using h9.symm
              dsimp only
              rw [HMTT.out, HMU.out, h8, Bool.and_false, Bool.and_false]))
            subst hbb
            go_wp2_with (refine wpList_store_blk rfl 29 (.tmp 4) (.tmp 50) rfl gr 29 _ #[.slice none 0 0, .slice none 0 0] rfl rfl HS5.out.br rfl (by kernel_rfl) (by kernel_rfl) ?_; intro w9 b9 o9; have HB9 := Hd b9; have HN9 := Hd o9; clear b9 o9)
            refine bodyPost_ret (results_row2 Tryz.results15 _ _ gr 29 #[.slice none 0 0, .slice none 0 0] _ rfl HB9.out Tryz.underlying29 rfl (by kernel_rfl)) rfl ?_
            exact ⟨_, ⟨by rw [HW.out]; rfl, by unfold wldR; rw [HW.out]; exact wagg_none⟩, HS5.out.o.step HN9.out (fun i hi hl => by simp at hi; have := HS5.out.b; omega)⟩
          | false =>
            have hml : mt = mu := by
              have h9 := HB5.out
              rw [hbb] at h9
              simpa using h9
            subst hbb
            clear HB5
            subst hml
            have HbG := Hd (HS5.out.at_ 0 rfl)
            have HbH := Hd (HS5.out.at_ 1 rfl)
            have lB := HbH.out.lt
            have y2 := HbH.out.at_ 2
            simp at y2
            obtain ⟨a0, a1, a2⟩ := HTA.out.only HS5.out.o hbtw (by simp)
            dsimp only at a0 a1 a2
            rw [HMTT.out] at a2
            have hgwz : w.heap.size ≤ wz.heap.size := HS5.out.o.size
            have hcl := comsT_le (h.l.take k) (g.l.take k)
            rw [List.length_take] at hcl
            go_upto_if 57 with (fail)
            go_cut [7] (fun kv wx => kv = .int .i64 (k : Int) ∧ ∃ V1' : Value, Hid (WS w wx gr g6 (comsT (h.l.take (k + 1)) (g.l.take (k + 1))) (readsT (h.l.take k) (g.l.take k)) V1' V2 [(gg, 25, #[.slice Z0 m0 d0, .slice Z1 m1 d1, .slice (some ⟨bu, ou, none⟩) m2 d2]), (w.heap.size, 25, #[.slice A0 n0 c0, .slice A1 n1 c1, .slice (some ⟨bt, ot, none⟩) m2 c2])]))
            case first =>
              by_cases hf : tf = 3
              · have e1 : (tf == 3) = true := by simp [hf]
                obtain ⟨ub, hub⟩ : ∃ b, b = (uf == 1) := ⟨_, rfl⟩
                have HCE : Hid ((comsT (h.l.take (k + 1)) (g.l.take (k + 1))) = (comsT (h.l.take k) (g.l.take k)) ++ [ub]) := Hd (by
                  rw [HCT.out, if_pos hf, hub]
                  by_cases e : uf = 1 <;> simp [e])
                have hub' := hub.symm
                clear hub hf
                generalize hcc : (comsT (h.l.take k) (g.l.take k)) = cc at *
                go_upto_region 10 with (fail)
                clear lB y2 a0 a1 a2
                have RD0 := Hd fun wq (hSw : Only V1.ownBlock.toList wz wq) => aI ((hSw.blk HS5.out.bw (own_apart HS5.out.c HS5.out.bw (by decide))).lt) (aI ((hSw.blk HbG.out (own_apart HS5.out.c HbG.out (by decide))).lt) (aI ((hSw.blk HS5.out.bw (own_apart HS5.out.c HS5.out.bw (by decide))).at_ 0) (aI ((hSw.blk HbG.out (own_apart HS5.out.c HbG.out (by decide))).at_ 2) (aI ((HUA.out.only (HS5.out.o.step hSw (own_new HS5.out.c)) hbuw (by simp)).c1) (Nat.lt_of_lt_of_le hbuz hSw.size)))))
                refine rg1 [12] V1.ownBlock.toList wz ?_
                refine tQ 0 (h := ?_)
                refine trd (i := 1) (v := ?_) 0 ?_ ?_
                rotate_left
                · (intro wq q; obtain ⟨e3, e4, e5, e6, e8, e9⟩ := RD0.out wq q; simp at e5 e6; dsimp only at e8; clear q; go_simp; try with_reducible rfl)
                try simp only [tdz]
                refine tQ 2 (h := ?_)
                refine trd (i := 3) (v := ?_) 0 ?_ ?_
                rotate_left
                · (intro wq q; obtain ⟨e3, e4, e5, e6, e8, e9⟩ := RD0.out wq q; simp at e5 e6; dsimp only at e8; clear q; go_simp; try with_reducible rfl)
                try simp only [tdz]
                refine tQ 4 (h := tQ 5 (h := tQ 6 (h := ?_)))
                refine trd (i := 7) (v := ?_) 0 ?_ ?_
                rotate_left
                · (intro wq q; obtain ⟨e3, e4, e5, e6, e8, e9⟩ := RD0.out wq q; simp at e5 e6; dsimp only at e8; clear q; go_simp; try with_reducible rfl)
                try simp only [tdz]
                refine tQ 8 (h := ?_)
                refine tst (i := 9) fun K hK => ?_
                go_simp
                have OA : Only [] wz ((wz.alloc (.cells #[.bool ub] 4)).drew) := ((Only.refl [] wz).alloc _).drew
                refine kOut hK (((Only.refl _ wz).alloc _).drew) (h := ?_)
                clear hK K
                refine tst (i := 10) fun K hK => ?_
                refine step_append_row _ rfl (.tmp 59) (.tmp 67) 26 rfl w.heap.size 4 i0 _ 1 1 Tryz.underlying26 hi hz0 hz1 hz2 rfl (by omega) V1 cc.length (cc.map Value.bool) (by rfl) (own_only HS5.out.c OA (by simp)) (wz.heap.size + 1) (some ⟨wz.heap.size, 0, none⟩) 1 1 [.bool ub] (by rfl) (by rfl) (by exact row_lit wz 4 #[.bool ub]) (by intro u hu; simp at hu; subst hu; rfl) (by unfold maxLen; omega) (by omega) (by have := OA.size; omega) ?_
                intro v4 w4 hown4 hgrow4 hat4
                obtain ⟨A4, c4, e4, -, -, -, -⟩ := own_row hown4
                subst e4
                have O4 : Only V1.ownBlock.toList wz w4 := ((Only.refl V1.ownBlock.toList wz).alloc (.cells #[.bool ub] 4)).drew.step (only_grown hgrow4) (fun j hj hl => hj)
                have hM6 := HS5.out.midC OA hgrow4
                have HS7 := Hd (HS5.out.addC OA hgrow4 hown4)
                have lW := hM6.lt
                have w0 := hM6.at_ 0
                have fw := hM6.free 0
                simp at w0
                clear hM6 OA
                refine kOut hK (O4) (h := ?_)
                clear hK K
                refine tQ 11 (h := ?_)
                refine tst (i := 12) fun K hK => ?_
                go_simp
                refine hK.out _ _ (timed_over (by kernel_rfl) (timed_nil)) ?_
                clear hK K
                try simp only [tdz]
                refine tdn ?_
                go_wp2
                go_meet
                exact ⟨rfl, _, by rw [HCE.out]; exact HS7⟩
              · have e1 : (tf == 3) = false := by simp [hf]
                have HCE : Hid ((comsT (h.l.take (k + 1)) (g.l.take (k + 1))) = (comsT (h.l.take k) (g.l.take k))) := Hd (by rw [HCT.out, if_neg hf, List.append_nil])
                clear hf
                go_wp2
                go_meet
                exact ⟨rfl, V1, by rw [HCE.out]; exact HS5⟩
            case rest =>
              obtain ⟨rfl, V1', HS7⟩ := hcut
              clear HS5 lB y2 a0 a1 a2 HCT HbG HbH
              obtain ⟨CC, hCC⟩ : ∃ c, (comsT (h.l.take (k + 1)) (g.l.take (k + 1))) = c := ⟨_, rfl⟩
              rw [hCC] at HS7
              have HC1 := Hd hCC
              clear hCC
              obtain ⟨RR, hRR⟩ : ∃ c, (readsT (h.l.take k) (g.l.take k)) = c := ⟨_, rfl⟩
              have hrl := readsT_le 20 (h.l.take k) (g.l.take k) (fun t ht => HMT.out.2 t (List.mem_of_mem_take ht))
              rw [List.length_take] at hrl
              rw [hRR] at HS7 HRT hrl
              clear hRR
              go_wp2_with fail
              obtain ⟨wd, hwd⟩ : ∃ wd, wd = wc := ⟨_, rfl⟩
              subst hwd
              go_loopw [8] (fun jv wr => ∃ (j : Nat) (V2' : Value), jv = .int .i64 j ∧ j ≤ mt ∧ Hid (WS w wr gr g6 CC (RR ++ readsO (ops.take j) (pps.take j)) V1' V2' [(gg, 25, #[.slice Z0 m0 d0, .slice Z1 m1 d1, .slice (some ⟨bu, ou, none⟩) m2 d2]), (w.heap.size, 25, #[.slice A0 n0 c0, .slice A1 n1 c1, .slice (some ⟨bt, ot, none⟩) m2 c2])])) (fun jv _ => mt - (intOf jv).toNat)
              case atStart => exact ⟨0, V2, rfl, by omega, Hd (by rw [List.take_zero, List.take_zero, readsO_nil, List.append_nil]; exact HS7.out)⟩
              case round =>
                obtain ⟨j, V2', rfl, hj, hS⟩ := hrel
                clear HS7
                have HbG := Hd (hS.out.at_ 0 rfl)
                have HbH := Hd (hS.out.at_ 1 rfl)
                have lB := HbH.out.lt
                have y2 := HbH.out.at_ 2
                simp at y2
                obtain ⟨a0, a1, a2⟩ := HTA.out.only hS.out.o hbtw (by simp)
                have hbtr : bt < wr.heap.size := Nat.lt_of_lt_of_le hbtw hS.out.o.size
                have hbur : bu < wr.heap.size := Nat.lt_of_lt_of_le hbuw hS.out.o.size
                dsimp only at a0 a1 a2
                rw [HMTT.out] at a2
                by_cases hlt2 : j < mt
                · obtain ⟨o, ho⟩ : ∃ o, ops[j]? = some o := ⟨_, List.getElem?_eq_getElem (by rw [HMTT.out]; exact hlt2)⟩
                  obtain ⟨p, hp⟩ : ∃ p, pps[j]? = some p := ⟨_, List.getElem?_eq_getElem (by rw [HMU.out]; exact hlt2)⟩
                  obtain ⟨bo, oo, rfl, -, hbow, hP⟩ := row_op (HTR.out) ho
                  obtain ⟨bp, op, rfl, -, hbpw, hR⟩ := row_op (HUR.out) hp
                  obtain ⟨p0, p1, p2, p3⟩ := hP.only hS.out.o hbow (by simp)
                  have hbor : bo < wr.heap.size := Nat.lt_of_lt_of_le hbow hS.out.o.size
                  have hbpr : bp < wr.heap.size := Nat.lt_of_lt_of_le hbpw hS.out.o.size
                  have HR := Hd hR
                  have HRO := Hd (readsO_take ho hp)
                  have hrj := readsO_le (ops.take j) (pps.take j)
                  rw [List.length_take] at hrj
                  have h02 : (j : Int) < (mt : Int) := by omega
                  have hj0 : (0 : Int) ≤ (j : Int) := Int.natCast_nonneg _
                  have hwj : IntKind.i64.wrap ((j : Int) + 1) = (j : Int) + 1 := IntWalk.i64_in _ (by omega)
                  have hgwr : w.heap.size ≤ wr.heap.size := hS.out.o.size
                  obtain ⟨ow, ok, ov, on⟩ := o
                  obtain ⟨pw, pk, pv, pn⟩ := p
                  dsimp only at p0 p1 p2 p3 HRO
                  clear ho hp hP hR
                  by_cases e : ov = 2
                  · have HRE : Hid (RR ++ readsO (ops.take (j + 1)) (pps.take (j + 1)) = (RR ++ readsO (ops.take j) (pps.take j)) ++ [(pv, pn)]) := Hd (by rw [HRO.out, if_pos e, List.append_assoc])
                    have e1 : (ov == 2) = true := by simp [e]
                    have hrl2 : (RR ++ readsO (ops.take j) (pps.take j)).length ≤ 1001000 := by rw [List.length_append]; omega
                    generalize RR ++ readsO (ops.take j) (pps.take j) = rr at *
                    clear e
                    go_upto_region 15 with (fail)
                    clear lB y2 a0 a1 a2 p0 p1 p2 p3
                    have RD0 := Hd fun wq (hSw : Only V2'.ownBlock.toList wr wq) => aI ((hSw.blk hS.out.bw (own_apart hS.out.l hS.out.bw (by decide))).lt) (aI ((hSw.blk HbG.out (own_apart hS.out.l HbG.out (by decide))).lt) (aI ((hSw.blk hS.out.bw (own_apart hS.out.l hS.out.bw (by decide))).at_ 1) (aI ((hSw.blk HbG.out (own_apart hS.out.l HbG.out (by decide))).at_ 2) (aI ((HUA.out.only (hS.out.o.step hSw (own_new hS.out.l)) hbuw (by simp)).c2) (aI (Nat.lt_of_lt_of_le hbur hSw.size) (aI ((HR.out.only (hS.out.o.step hSw (own_new hS.out.l)) hbpw (by simp)).c2) (aI ((HR.out.only (hS.out.o.step hSw (own_new hS.out.l)) hbpw (by simp)).c3) (Nat.lt_of_lt_of_le hbpr hSw.size))))))))
                    refine rgo (F := [⟨[], [15], fun w' => Only V2'.ownBlock.toList wr w'⟩]) (th1 ((Only.refl _ wr).drew)) ?_
                    refine tQ 0 (h := ?_)
                    refine trd (i := 1) (v := ?_) 0 ?_ ?_
                    rotate_left
                    · (intro wq q; obtain ⟨e3, e4, e5, e6, e8, e9, f2, f3, f9⟩ := RD0.out wq q; simp at e5 e6; dsimp only at e8; rw [HMU.out] at e8; dsimp only at f2 f3; clear q; go_simp; try with_reducible rfl)
                    try simp only [tdz]
                    refine tQ 2 (h := ?_)
                    refine trd (i := 3) (v := ?_) 0 ?_ ?_
                    rotate_left
                    · (intro wq q; obtain ⟨e3, e4, e5, e6, e8, e9, f2, f3, f9⟩ := RD0.out wq q; simp at e5 e6; dsimp only at e8; rw [HMU.out] at e8; dsimp only at f2 f3; clear q; go_simp; try with_reducible rfl)
                    try simp only [tdz]
                    refine tQ 4 (h := tQ 5 (h := tQ 6 (h := ?_)))
                    refine trd (i := 7) (v := ?_) 0 ?_ ?_
                    rotate_left
                    · (intro wq q; obtain ⟨e3, e4, e5, e6, e8, e9, f2, f3, f9⟩ := RD0.out wq q; simp at e5 e6; dsimp only at e8; rw [HMU.out] at e8; dsimp only at f2 f3; clear q; go_simp; try with_reducible rfl)
                    try simp only [tdz]
                    refine tQ 8 (h := tQ 9 (h := tQ 10 (h := ?_)))
                    refine trd (i := 11) (v := ?_) 0 ?_ ?_
                    rotate_left
                    · (intro wq q; obtain ⟨e3, e4, e5, e6, e8, e9, f2, f3, f9⟩ := RD0.out wq q; simp at e5 e6; dsimp only at e8; rw [HMU.out] at e8; dsimp only at f2 f3; clear q; go_simp; try with_reducible rfl)
                    try simp only [tdz]
                    refine tst (i := 12) fun K hK => ?_
                    go_simp
                    have OA : Only [] wr ((wr.alloc (.cells #[.int .i64 pv, .int .i64 pn] 53)).drew) := ((Only.refl [] wr).alloc _).drew
                    refine kOut hK (((Only.refl _ wr).alloc _).drew) (h := ?_)
                    clear hK K
                    refine tst (i := 13) fun K hK => ?_
                    refine step_append_row _ rfl (.tmp 94) (.tmp 105) 27 rfl w.heap.size 53 j0 _ 2 16 Tryz.underlying27 hjv hj0v hj1v hj2v rfl (by omega) V2' rr.length (edgeC rr) (by rfl) (own_only hS.out.l OA (by simp)) (wr.heap.size + 1) (some ⟨wr.heap.size, 0, none⟩) 1 1 [.int .i64 pv, .int .i64 pn] (by rfl) (by rfl) (by exact row_lit wr 53 #[.int .i64 pv, .int .i64 pn]) (by intro u hu; simp at hu; rcases hu with rfl | rfl <;> rfl) (by unfold maxLen; omega) (by omega) (by have := OA.size; omega) ?_
                    intro v4 w4 hown4 hgrow4 hat4
                    obtain ⟨A4, c4, e4, -, -, -, -⟩ := own_row hown4
                    subst e4
                    have O4 : Only V2'.ownBlock.toList wr w4 := ((Only.refl V2'.ownBlock.toList wr).alloc (.cells #[.int .i64 pv, .int .i64 pn] 53)).drew.step (only_grown hgrow4) (fun j hj hl => hj)
                    have hM6 := hS.out.midL OA hgrow4
                    have HSA := Hd (hS.out.addL OA hgrow4 hown4)
                    have lW := hM6.lt
                    have w1 := hM6.at_ 1
                    have fw1 := hM6.free 1
                    simp at w1
                    clear hM6 OA
                    refine kOut hK (O4) (h := ?_)
                    clear hK K
                    refine tQ 14 (h := ?_)
                    refine tst (i := 15) fun K hK => ?_
                    go_simp
                    refine hK.out _ _ (timed_over (by kernel_rfl) (timed_nil)) ?_
                    clear hK K
                    try simp only [tdz]
                    refine tdn ?_
                    rw [← HRE.out] at HSA
                    go_wp2
                    go_roundw
                    case rel =>
                      first
                      | exact ⟨j + 1, by first | go_num | omega, by omega, _, HSA⟩
                      | exact ⟨j + 1, _, by go_num, by omega, HSA⟩
                      | (iterate 39 apply Exists.intro
                         refine ⟨⟨j + 1, .slice A4 (rr.length + 1) c4, ?_, ?_, HSA⟩, ?_⟩
                         rotate_left 2
                         · congr 2
                         · go_num
                         · omega)
                    case measure => simp [intOf]; omega
                  · have HRE : Hid (readsO (ops.take (j + 1)) (pps.take (j + 1)) = readsO (ops.take j) (pps.take j)) := Hd (by rw [HRO.out, if_neg e, List.append_nil])
                    have e1 : (ov == 2) = false := by simp [e]
                    clear e
                    have hSN := Hd hS.out
                    rw [← HRE.out] at hSN
                    clear hS HbG HbH
                    go_wp2
                    go_roundw
                    case rel => exact ⟨j + 1, V2', by go_num, by omega, hSN⟩
                    case measure => simp [intOf]; omega
                · have hjm : j = mt := by omega
                  subst hjm
                  have hd3 : decide ((j : Int) < (j : Int)) = false := by simp
                  have e1 : ops.take j = ops := List.take_of_length_le (by rw [HMTT.out]; exact Nat.le_refl _)
                  have e2 : pps.take j = pps := List.take_of_length_le (by rw [HMU.out]; exact Nat.le_refl _)
                  have HSN : Hid (WS w wr gr g6 (comsT (h.l.take (k + 1)) (g.l.take (k + 1))) (readsT (h.l.take (k + 1)) (g.l.take (k + 1))) V1' V2' [(gg, 25, #[.slice Z0 m0 d0, .slice Z1 m1 d1, .slice (some ⟨bu, ou, none⟩) m2 d2]), (w.heap.size, 25, #[.slice A0 n0 c0, .slice A1 n1 c1, .slice (some ⟨bt, ot, none⟩) m2 c2])]) := Hd (by
                    have h9 := hS.out
                    rw [e1, e2, ← HRT.out, ← HC1.out] at h9
                    exact h9)
                  clear hS e1 e2
                  go_wp2
                  go_roundw
                  case rel => exact ⟨k + 1, V1', V2', by go_num, by omega, HSN⟩
                  case measure => simp [intOf]; omega
        · have hkn : k = m2 := by omega
          subst hkn
          have hd2 : decide ((k : Int) < (k : Int)) = false := by simp
          have t1 : h.l.take k = h.l := List.take_of_length_le (by rw [HN.out]; exact Nat.le_refl _)
          have t2 : g.l.take k = g.l := List.take_of_length_le (by rw [HM.out]; exact Nat.le_refl _)
          have h9 := hS.out
          rw [t1, t2] at h9
          have hrl := readsT_le 20 h.l g.l HMT.out.2
          have HWD : Hid (wldOf h g = ⟨comsT h.l g.l, readsT h.l g.l⟩) := Hd rfl
          rw [HWD.out] at HW2
          have hrl2 : (readsT h.l g.l).length ≤ 100000 := by
            have := HMT.out.1
            omega
          generalize comsT h.l g.l = cc at *
          generalize readsT h.l g.l = rr at *
          obtain ⟨Aa, ca, e1, -, -, -, -⟩ := own_row h9.c
          obtain ⟨Ab, cb, e2, -, -, -, -⟩ := own_row h9.l
          subst e1 e2
          have HS9 := Hd h9
          have HbW := Hd h9.bw
          have HMW := Hd (fun w' (O : Only [] wr w') => rmay16_any A0 A1 A2 Aa Ab n0 n1 k cc.length rr.length c0 c1 c2 ca cb B _ h ⟨cc, rr⟩ w' (HI.out.same (HS9.out.o.trans O)) (own_row_at (own_only HS9.out.l O (by simp))).1 rfl rfl hrl2)
          have HRW := Hd (fun (hmw : mayW h ⟨cc, rr⟩ = true) w' (O : Only [] wr w') => rraw17_any A0 A1 A2 Aa Ab n0 n1 k cc.length rr.length c0 c1 c2 ca cb B _ _ h ⟨cc, rr⟩ w' (HI.out.same (HS9.out.o.trans O)) (own_row_at (own_only HS9.out.c O (by simp))).1 (own_row_at (own_only HS9.out.l O (by simp))).1 rfl rfl hrl2 hmw)
          have HSG := Hd (small_make HI.out.sm ⟨cc, rr⟩)
          generalize makeH h ⟨cc, rr⟩ = G at *
          have HRS := Hd (fun (w' : World) (B0 B1 B2 : Option Addr) (e0 e1 e2 : Nat) (hx : HIn w' w'.heap.size B0 B1 B2 G.ss.length G.ks.length G.l.length G) (O : Only [] wr w') => rsame10_any B0 B1 B2 _ _ _ e0 e1 e2 _ G Z0 Z1 Z2 m0 m1 k d0 d1 d2 B' g w' hx (HZ.out.same (HS9.out.o.trans O)))
          unfold hval at HMW HRW HRS
          have HUT := Hd (fun w' (O : Only [] wr w') => HI.out.u.only (HS9.out.o.trans O))
          have HWL : Hid (isWld h g = true → wldR h g = ⟨cc, rr⟩) := Hd (fun e => by unfold wldR; rw [if_pos e, HWD.out])
          clear hS t1 t2 h9 hrl hrl2 lB y2
          have lB := HbH.out.lt
          have y2 := HbH.out.at_ 2
          simp at y2
          cases hmw : mayW h ⟨cc, rr⟩ with
          | false =>
            rw [hmw] at HMW HW2
            have HW : Hid (isWld h g = false) := Hd (by rw [HW2.out]; rfl)
            clear hmw HRW HRS
            go_upto_region 16 with (fail)
            clear lB y2
            have RD0 := Hd fun wq (hSw : Only [] wr wq) => aI (Bk3 (hSw.blk HbH.out (by simp))) (Bk2 (hSw.blk HbW.out (by simp)))
            refine rg1 [] [] wr ?_
            have OW : Only [] wr wr.drew := (Only.refl [] wr).drew
            generalize wr.drew = wz at *
            refine trq 0 0 RD0 (h := trq 1 0 RD0 (h := ?_))
            refine tst (i := 2) fun K hK => ?_
            go_simp
            refine (HMW.out _ OW).mono ?_
            rintro e wa ⟨rfl, Oa⟩
            have OW1 := OW.trans Oa
            clear Oa
            refine kOut hK (OW1) (h := ?_)
            clear hK K
            refine tQ 3 (h := tQ 4 (h := tiq 5 (h := tiq 6 (h := tiq 7 (h := tiq 8 (h := tiq 9 (h := tiq 10 (h := tQ 11 (h := ?_)))))))))
            refine tdn ?_
            have HSB := Hd (HS9.out.same OW1)
            clear OW OW1
            go_wp2_with (refine wpList_store_blk rfl 29 (.tmp 4) (.tmp 120) rfl gr 29 _ #[.slice none 0 0, .slice none 0 0] rfl rfl HSB.out.br rfl (by kernel_rfl) (by kernel_rfl) ?_; intro w9 b9 o9; have HB9 := Hd b9; have HN9 := Hd o9; clear b9 o9)
            refine bodyPost_ret (results_row2 Tryz.results15 _ _ gr 29 #[.slice none 0 0, .slice none 0 0] _ rfl HB9.out Tryz.underlying29 rfl (by kernel_rfl)) rfl ?_
            exact ⟨_, ⟨by rw [HW.out]; rfl, by unfold wldR; rw [HW.out]; exact wagg_none⟩, HSB.out.o.step HN9.out (fun i hi hl => by simp at hi; have := HSB.out.b; omega)⟩
          | true =>
            rw [hmw] at HMW HW2
            go_upto_region 16 with (fail)
            clear lB y2
            have RD0 := Hd fun wq (hSw : Only [] wr wq) => aI (Bk3 (hSw.blk HbH.out (by simp))) (aI (Bk3 (hSw.blk HbG.out (by simp))) (Bk2 (hSw.blk HbW.out (by simp))))
            refine rg1 [] [] wr ?_
            have OW : Only [] wr wr.drew := (Only.refl [] wr).drew
            generalize wr.drew = wz at *
            refine trq 0 0 RD0 (h := trq 1 0 RD0 (h := ?_))
            refine tst (i := 2) fun K hK => ?_
            go_simp
            refine (HMW.out _ OW).mono ?_
            rintro e wa ⟨rfl, Oa⟩
            have OW1 := OW.trans Oa
            clear Oa
            refine kOut hK (OW1) (h := ?_)
            clear hK K
            refine tQ 3 (h := tQ 4 (h := trq 5 0 RD0 (h := trq 6 0 RD0 (h := trq 8 0 RD0 (h := ?_)))))
            refine tst (i := 7) fun K hK => ?_
            go_simp
            refine (HRW.out hmw _ OW1).mono ?_
            rintro e wb ⟨B0, B1, B2, e0, e1, e2, ⟨rfl, hn⟩, Ob⟩
            have OW2 := OW1.trans Ob
            have HGX : HIn wb wb.heap.size B0 B1 B2 G.ss.length G.ks.length G.l.length G := ⟨hn.at_, rfl, rfl, rfl, HSG.out, HUT.out _ OW2⟩
            clear Ob hn
            refine kOut hK (OW2) (h := ?_)
            clear hK K
            refine tst (i := 9) fun K hK => ?_
            go_simp
            refine (HRS.out _ B0 B1 B2 e0 e1 e2 HGX OW2).mono ?_
            rintro e wd ⟨rfl, Od⟩
            have OW3 := OW2.trans Od
            clear Od
            refine kOut hK (OW3) (h := ?_)
            clear hK K
            refine tQ 10 (h := tQ 11 (h := ?_))
            refine tdn ?_
            have HSB := Hd (HS9.out.same OW3)
            clear OW OW1 OW2 OW3 HS9 HbW HbH HbG hmw HMW HRW HRS
            cases he : eqH G g with
            | false =>
              have HW : Hid (isWld h g = false) := Hd (by rw [HW2.out, he]; rfl)
              clear he
              go_wp2_with (refine wpList_store_blk rfl 29 (.tmp 4) (.tmp 120) rfl gr 29 _ #[.slice none 0 0, .slice none 0 0] rfl rfl HSB.out.br rfl (by kernel_rfl) (by kernel_rfl) ?_; intro w9 b9 o9; have HB9 := Hd b9; have HN9 := Hd o9; clear b9 o9)
              refine bodyPost_ret (results_row2 Tryz.results15 _ _ gr 29 #[.slice none 0 0, .slice none 0 0] _ rfl HB9.out Tryz.underlying29 rfl (by kernel_rfl)) rfl ?_
              exact ⟨_, ⟨by rw [HW.out]; rfl, by unfold wldR; rw [HW.out]; exact wagg_none⟩, HSB.out.o.step HN9.out (fun i hi hl => by simp at hi; have := HSB.out.b; omega)⟩
            | true =>
              have HW : Hid (isWld h g = true) := Hd (by rw [HW2.out, he]; rfl)
              have HWR := Hd (HWL.out HW.out)
              clear he
              have lW := HSB.out.bw.lt
              have w0 := HSB.out.bw.at_ 0
              have w1 := HSB.out.bw.at_ 1
              simp at w0 w1
              go_wp2_with (refine wpList_store_blk rfl 29 (.tmp 4) (.tmp 121) rfl gr 29 _ #[.slice Aa cc.length ca, .slice Ab rr.length cb] rfl rfl HSB.out.br rfl (by kernel_rfl) (by kernel_rfl) ?_; intro w9 b9 o9; have HB9 := Hd b9; have HN9 := Hd o9; clear b9 o9)
              refine bodyPost_ret (results_row2 Tryz.results15 _ _ gr 29 #[.slice Aa cc.length ca, .slice Ab rr.length cb] _ rfl HB9.out Tryz.underlying29 rfl (by kernel_rfl)) rfl ?_
              exact ⟨_, ⟨by rw [HW.out]; rfl, by rw [HWR.out]; exact ⟨Aa, ca, Ab, cb, rfl, HSB.out.done HN9.out⟩⟩, HSB.out.o.step HN9.out (fun i hi hl => by simp at hi; have := HSB.out.b; omega)⟩
end Go.Proofs.YtghimogdeijgdaaGreatDoor
