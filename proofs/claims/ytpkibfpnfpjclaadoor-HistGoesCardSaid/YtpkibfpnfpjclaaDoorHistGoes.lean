/- HistGoes: the walk. -/
import Derived.Test.YtpkibfpnfpjclaaDoorHistI
import Derived.Test.YtpkibfpnfpjclaaDoorHistX
import Derived.Test.YtpkibfpnfpjclaaDoorHistGM
import Derived.Deep.CutBlock
import Derived.Deep.DeepCutAuto
import Derived.Test.YtpkibfpnfpjclaaDoorTimed
set_option linter.unusedVariables false
set_option linter.unusedSimpArgs false
namespace Go.Proofs.YtpkibfpnfpjclaaDoor
open Go.RowKit
open Go.Lib hiding intOf
attribute [local go_sem ↓] Go.wp_at_zero Go.wp_at_succ

set_option maxRecDepth 10000 in
set_option maxHeartbeats 8000000 in
theorem histGoes_walk (A0 A1 A2 : Option Addr) (c0 c1 c2 : Nat) (h : Hst) (a b c : Int) (w : World) (hg : HAt w w.heap.size A0 A1 A2 h) (hm0 : h.ss.length ≤ maxLen) (hm1 : h.ks.length ≤ maxLen) (hm2 : h.l.length ≤ maxLen)
    (hz0 : ∀ z ∈ h.ss, z.size ≤ maxLen) (hz1 : ∀ z ∈ h.ks, z.size ≤ maxLen) (hT : UTabs w) :
    Calls Tryd.prog 6 #[hval A0 A1 A2 h.ss.length h.ks.length h.l.length c0 c1 c2, .int .i64 a, .int .i64 b, .int .i64 c] w fun e w' => e = .returned (.bool true) ∧ Only [] w w' := by
  unfold hval
  have HW := Lib.hid (fun w' (h : Only [] w w') => works11_any w' (hT.only h))
  have HF0 := Lib.hid (fun w' (O : Only [] w w') => few_first A0 A1 A2 c0 c1 c2 h w' (hg.only O (by simp)).up hm0 hm1 hm2 hz0 hz1 (hT.only O))
  have HFE := Lib.hid (few_few h)
  have HT := Lib.hid hT
  generalize fewH h = G at *
  generalize h.ss.length = n0 at *
  generalize h.ks.length = n1 at *
  generalize h.l.length = n2 at *
  generalize G.ss.length = m0 at *
  generalize G.ks.length = m1 at *
  generalize G.l.length = m2 at *
  clear hg hm0 hm1 hm2 hz0 hz1 hT
  have HB := Lib.hid (Blk.made w 25 #[.slice A0 n0 c0, .slice A1 n1 c1, .slice A2 n2 c2])
  have HO1 := Lib.hid ((Only.refl [] w).alloc (.cells #[.slice A0 n0 c0, .slice A1 n1 c1, .slice A2 n2 c2] 25))
  go_enter Tryd.func6, Tryd.ntmps6
  go_wp2_with fail
  refine (HW.out _ HO1.out).mono ?_
  rintro e w1 ⟨rfl, O1⟩
  have HO2 := Lib.hid (HO1.out.trans O1)
  have HB1 := Lib.hid (O1.blk HB.out (by simp))
  clear O1 HB HO1 HW
  have lz := HB1.out.lt
  have y0 := HB1.out.at_ 0
  have y1 := HB1.out.at_ 1
  have y2 := HB1.out.at_ 2
  simp at y0 y1 y2
  go_wp2_with fail
  refine (HF0.out _ HO2.out).mono ?_
  rintro e w2 ⟨B0, B1, B2, d0, d1, d2, ⟨rfl, hI⟩, O2⟩
  have HI := Lib.hid hI
  have HB2 := Lib.hid (O2.blk HB1.out (by simp))
  have HO3 := Lib.hid (HO2.out.trans O2)
  clear hI O2 HB1 HO2 HF0 lz y0 y1 y2
  go_wp2_with (refine wpList_store_blk rfl 25 (.tmp 4) (.tmp 16) rfl w.heap.size 25 _ #[.slice B0 m0 d0, .slice B1 m1 d1, .slice B2 m2 d2] rfl rfl HB2.out rfl (by kernel_rfl) (by kernel_rfl) ?_; intro w3 hb3 o3; have HB3 := Lib.hid hb3; have HO4 := Lib.hid (HO3.out.step o3 (fun i hi hl => by simp at hi; omega)); have HI3 := Lib.hid (HI.out.past HB2.out o3 (HT.out.only HO4.out)); have l3 := HB3.out.lt; have y0 := HB3.out.at_ 0; have y1 := HB3.out.at_ 1; have y2 := HB3.out.at_ 2; simp at y0 y1 y2; clear hb3 o3; generalize w.heap.size = g at *; clear HI HB2 HO3)
  refine (hmay_any B0 B1 B2 m0 m1 m2 d0 d1 d2 w3.heap.size G _ HI3.out).mono ?_
  rintro e w5 ⟨rfl, O5⟩
  have HB5 := Lib.hid (O5.blk HB3.out (by simp))
  have HO5 := Lib.hid (HO4.out.trans O5)
  have HI5 := Lib.hid (HI3.out.same O5)
  clear l3 y0 y1 y2 HB3 O5 HI3 HO4
  have lz := HB5.out.lt
  have y0 := HB5.out.at_ 0
  have y1 := HB5.out.at_ 1
  have y2 := HB5.out.at_ 2
  simp at y0 y1 y2
  have HAH := Lib.hid (fun a b w' (O : Only [] w5 w') => hahead_any B0 B1 B2 m0 m1 m2 d0 d1 d2 w3.heap.size G a b w' (HI5.out.same O))
  cases hm : mayH G with
  | false =>
    rw [mayH_errn hm]
    have HAB := Lib.hid (ahead_0 (a := a) (b := b) hm)
    clear hm
    go_wp2_with fail
    refine (HAH.out a b _ (Only.refl [] w5)).mono ?_
    rintro e w6 ⟨rfl, O6⟩
    have HN6 := Lib.hid O6
    rw [HAB.out]
    clear O6
    go_wp2
    go_ret
    exact ⟨rfl, HO5.out.trans HN6.out⟩
  | true =>
    rw [mayH_err hm]
    have HM := Lib.hid hm
    clear hm
    go_upto_region 6 with (fail)
    go_cut [47] (fun v wx => v = .bool false ∧ Hid (Only [] w5 wx))
    case first =>
      cases hab : aheadB G a b with
      | false =>
        go_wp2_with fail
        refine (HAH.out a b _ (Only.refl [] w5)).mono ?_
        rintro e w6 ⟨rfl, O6⟩
        rw [hab]
        have HN6 := Lib.hid O6
        clear O6 lz y0 y1 y2
        go_wp2
        go_meet
        exact ⟨rfl, HN6⟩
      | true =>
        have HBA := Lib.hid (ahead_not hab)
        have HAB := Lib.hid hab
        clear hab
        go_wp2_with fail
        refine (HAH.out a b _ (Only.refl [] w5)).mono ?_
        rintro e w6 ⟨rfl, O6⟩
        rw [HAB.out]
        have HN6 := Lib.hid O6
        clear O6 lz y0 y1 y2
        have lz := (HN6.out.blk HB5.out (by simp)).lt
        have y0 := (HN6.out.blk HB5.out (by simp)).at_ 0
        have y1 := (HN6.out.blk HB5.out (by simp)).at_ 1
        have y2 := (HN6.out.blk HB5.out (by simp)).at_ 2
        simp at y0 y1 y2
        go_wp2_with fail
        refine (HAH.out b a _ HN6.out).mono ?_
        rintro e w7 ⟨rfl, O7⟩
        rw [HBA.out]
        have HN7 := Lib.hid (HN6.out.trans O7)
        clear O7 lz y0 y1 y2
        have lz := (HN7.out.blk HB5.out (by simp)).lt
        have y0 := (HN7.out.blk HB5.out (by simp)).at_ 0
        have y1 := (HN7.out.blk HB5.out (by simp)).at_ 1
        have y2 := (HN7.out.blk HB5.out (by simp)).at_ 2
        simp at y0 y1 y2
        cases hbc : aheadB G b c with
        | false =>
          go_wp2_with fail
          refine (HAH.out b c _ HN7.out).mono ?_
          rintro e w8 ⟨rfl, O8⟩
          rw [hbc]
          have HN8 := Lib.hid (HN7.out.trans O8)
          clear O8 lz y0 y1 y2
          go_wp2
          go_meet
          exact ⟨rfl, HN8⟩
        | true =>
          have HAC := Lib.hid (ahead_on HAB.out hbc)
          go_wp2_with fail
          refine (HAH.out b c _ HN7.out).mono ?_
          rintro e w8 ⟨rfl, O8⟩
          rw [hbc]
          have HN8 := Lib.hid (HN7.out.trans O8)
          clear O8 lz y0 y1 y2
          have lz := (HN8.out.blk HB5.out (by simp)).lt
          have y0 := (HN8.out.blk HB5.out (by simp)).at_ 0
          have y1 := (HN8.out.blk HB5.out (by simp)).at_ 1
          have y2 := (HN8.out.blk HB5.out (by simp)).at_ 2
          simp at y0 y1 y2
          go_wp2_with fail
          refine (HAH.out a c _ HN8.out).mono ?_
          rintro e w9 ⟨rfl, O9⟩
          rw [HAC.out]
          have HN9 := Lib.hid (HN8.out.trans O9)
          clear O9 lz y0 y1 y2
          go_wp2
          go_meet
          exact ⟨rfl, HN9⟩
    case rest =>
      clear lz y0 y1 y2
      obtain ⟨rfl, HN9⟩ := hcut
      have HSE := Lib.hid (fun s w' (O : Only [] w5 w') => hsession_any B0 B1 B2 m0 m1 m2 d0 d1 d2 w3.heap.size G s w' (HI5.out.same O))
      have hM0 : m0 ≤ 1000 := by rw [← HI5.out.n0]; exact HI5.out.sm.ns
      have hM2 : m2 ≤ 1000 := by rw [← HI5.out.n2]; exact HI5.out.sm.nl
      have HSL := Lib.hid (fun s => ses_le G s HI5.out.sm.nl)
      have HSU := Lib.hid (sumS_le G HI5.out.sm.nl)
      have HALL : Hid (sumS G m0 = m2) := Lib.hid (by rw [← HI5.out.n0, ← HI5.out.n2]; exact sumS_all HM.out)
      go_wp2_with fail
      go_loopw [9, 10] (fun nv sv wr => ∃ k : Nat, sv = .int .i64 k ∧ k ≤ m0 ∧ nv = .int .i64 (sumS G k : Nat) ∧ Hid (Only [] w5 wr)) (fun _ sv _ => m0 - (intOf sv).toNat)
      case atStart => exact ⟨0, rfl, by omega, rfl, HN9⟩
      case round =>
        obtain ⟨k, rfl, hk, rfl, hO⟩ := hrel
        obtain ⟨wo, hwo⟩ : ∃ wo : World, wo = wr := ⟨_, rfl⟩
        subst hwo
        have hb := hO.out.blk HB5.out (by simp)
        have HBR := Lib.hid hb
        have lz := hb.lt
        have y0 := hb.at_ 0
        have y1 := hb.at_ 1
        have y2 := hb.at_ 2
        simp at y0 y1 y2
        clear hb
        have hsk := HSU.out k
        have hlk := HSL.out k
        have HSS := Lib.hid (sumS_succ G k)
        have hk0 : (0 : Int) ≤ (k : Int) := Int.natCast_nonneg _
        by_cases hlt : k < m0
        · have hk1 : (k : Int) < (m0 : Int) := by omega
          have hwk : IntKind.i64.wrap ((k : Int) + 1) = (k : Int) + 1 := IntWalk.i64_in _ (by omega)
          have HL := Lib.hid (fun i u v (hu : (sesL G k)[i]? = some u) (hv : (sesL G k)[i + 1]? = some v) => session_ahead HM.out hu hv)
          have HF := Lib.hid (HSE.out k wo hO.out)
          generalize hls : sesL G k = ls at *
          generalize hS : sumS G k = sm at *
          clear hls hS
          go_wp2_with fail
          refine (HF.out).mono ?_
          rintro e w6 ⟨A6, c6, ⟨rfl, hr6⟩, O6⟩
          have HR6 := Lib.hid hr6
          have HN6 := Lib.hid (hO.out.trans O6)
          clear hr6 O6 lz y0 y1 y2 HF
          generalize hll : ls.length = ll at *
          have HLL := Lib.hid hll
          clear hll
          have hwn : IntKind.i64.wrap ((sm : Int) + (ll : Int)) = (sm : Int) + (ll : Int) := IntWalk.i64_in _ (by omega)
          go_wp2_with fail
          go_loopw [12] (fun iv wi => ∃ i : Nat, iv = .int .i64 i ∧ 1 ≤ i ∧ (i ≤ ll ∨ i = 1) ∧ Hid (Only [] w6 wi)) (fun iv _ => ll - (intOf iv).toNat)
          case atStart => exact ⟨1, rfl, by omega, by omega, Lib.hid (Only.refl [] w6)⟩
          case round =>
            obtain ⟨i, rfl, hi1, hi, hOi⟩ := hrel
            have hi0 : (0 : Int) ≤ (i : Int) := Int.natCast_nonneg _
            by_cases hlt2 : i < ll
            · obtain ⟨u, hu⟩ : ∃ u, ls[i - 1]? = some u := ⟨_, List.getElem?_eq_getElem (by rw [HLL.out]; omega)⟩
              obtain ⟨v, hv⟩ : ∃ v, ls[i]? = some v := ⟨_, List.getElem?_eq_getElem (by rw [HLL.out]; omega)⟩
              have hv2 : ls[i - 1 + 1]? = some v := by rw [show i - 1 + 1 = i by omega]; exact hv
              have HAV := Lib.hid (HL.out (i - 1) u v hu hv2)
              obtain ⟨b', off, hA6, -, hbw, hc⟩ := HR6.out.open_ (k := i) (by rw [List.length_map, HLL.out]; exact hlt2)
              subst hA6
              have hcu : w6.cell? ⟨b', off + (i - 1), none⟩ = some (.int .i64 u) := hc (i - 1) _ (by rw [List.getElem?_map, hu]; rfl)
              have hcv : w6.cell? ⟨b', off + i, none⟩ = some (.int .i64 v) := hc i _ (by rw [List.getElem?_map, hv]; rfl)
              have HCU := Lib.hid hcu
              have HCV := Lib.hid hcv
              have HBI := Lib.hid ((HN6.out.trans hOi.out).blk HB5.out (by simp))
              have hbr : b' < wr.heap.size := by have := hOi.out.size; omega
              have HHF := Lib.hid (fun w' (O : Only [] wr w') => HAH.out u v w' ((HN6.out.trans hOi.out).trans O))
              have h01 : (i : Int) < (ll : Int) := by omega
              have hwi : IntKind.i64.wrap ((i : Int) + 1) = (i : Int) + 1 := IntWalk.i64_in _ (by omega)
              obtain ⟨j, hj⟩ : ∃ j : Nat, j = i - 1 := ⟨_, rfl⟩
              have hwj : IntKind.i64.wrap ((i : Int) - 1) = (j : Int) := by rw [IntWalk.i64_in _ (by omega)]; omega
              have hj0 : (0 : Int) ≤ (j : Int) := Int.natCast_nonneg _
              have hj1 : (j : Int) < (ll : Int) := by omega
              rw [← hj] at HCU
              clear hu hv hv2 hc hcu hcv hj
              go_upto_region 17 with (fail)
              refine wp_region_noPanic ?_
              refine wp_region_timed (F := [⟨[], [], fun w' => Only [] wr w'⟩]) (by kernel_rfl) (timed_holds ((Only.refl [] wr).drew) (timed_nil)) ?_
              refine timed_read (i := 0) (v := ?_) 0 rfl (by kernel_rfl) (by kernel_rfl) (by kernel_rfl) (fun _ _ _ h => h) (by kernel_rfl) (by kernel_rfl) rfl (by kernel_rfl) ?_ ?_
              rotate_left
              · (intro wq hSw; (try dsimp only at hSw); have hb := hSw.blk HBI.out (by simp); have hlt := hb.lt; have y0 := hb.at_ 0; have y1 := hb.at_ 1; have y2 := hb.at_ 2; simp at y0 y1 y2; have cu := (hSw.cell (p := ⟨b', off + j, none⟩) hbr (by simp)).trans ((hOi.out.cell (p := ⟨b', off + j, none⟩) hbw (by simp)).trans HCU.out); have cv := (hSw.cell (p := ⟨b', off + i, none⟩) hbr (by simp)).trans ((hOi.out.cell (p := ⟨b', off + i, none⟩) hbw (by simp)).trans HCV.out); clear hSw; go_simp; try with_reducible rfl)
              try simp only [Act.put, List.getElem_toArray, List.getElem_cons_zero, List.getElem_cons_succ, List.setIfInBounds_toArray, List.set_cons_zero, List.set_cons_succ]
              refine timed_pure (i := 1) (v := ?_) rfl (by kernel_rfl) (by kernel_rfl) (by kernel_rfl) (fun _ _ _ h => h) (by kernel_rfl) (by kernel_rfl) ?_ ?_
              rotate_left
              · (intro w; go_simp; try with_reducible rfl)
              try simp only [Act.put, List.getElem_toArray, List.getElem_cons_zero, List.getElem_cons_succ, List.setIfInBounds_toArray, List.set_cons_zero, List.set_cons_succ]
              refine timed_pure (i := 2) (v := ?_) rfl (by kernel_rfl) (by kernel_rfl) (by kernel_rfl) (fun _ _ _ h => h) (by kernel_rfl) (by kernel_rfl) ?_ ?_
              rotate_left
              · (intro w; go_simp; try with_reducible rfl)
              try simp only [Act.put, List.getElem_toArray, List.getElem_cons_zero, List.getElem_cons_succ, List.setIfInBounds_toArray, List.set_cons_zero, List.set_cons_succ]
              refine timed_pure (i := 3) (v := ?_) rfl (by kernel_rfl) (by kernel_rfl) (by kernel_rfl) (fun _ _ _ h => h) (by kernel_rfl) (by kernel_rfl) ?_ ?_
              rotate_left
              · (intro w; go_simp; try with_reducible rfl)
              try simp only [Act.put, List.getElem_toArray, List.getElem_cons_zero, List.getElem_cons_succ, List.setIfInBounds_toArray, List.set_cons_zero, List.set_cons_succ]
              refine timed_pure (i := 4) (v := ?_) rfl (by kernel_rfl) (by kernel_rfl) (by kernel_rfl) (fun _ _ _ h => h) (by kernel_rfl) (by kernel_rfl) ?_ ?_
              rotate_left
              · (intro w; go_simp; try with_reducible rfl)
              try simp only [Act.put, List.getElem_toArray, List.getElem_cons_zero, List.getElem_cons_succ, List.setIfInBounds_toArray, List.set_cons_zero, List.set_cons_succ]
              refine timed_read (i := 5) (v := ?_) 0 rfl (by kernel_rfl) (by kernel_rfl) (by kernel_rfl) (fun _ _ _ h => h) (by kernel_rfl) (by kernel_rfl) rfl (by kernel_rfl) ?_ ?_
              rotate_left
              · (intro wq hSw; (try dsimp only at hSw); have hb := hSw.blk HBI.out (by simp); have hlt := hb.lt; have y0 := hb.at_ 0; have y1 := hb.at_ 1; have y2 := hb.at_ 2; simp at y0 y1 y2; have cu := (hSw.cell (p := ⟨b', off + j, none⟩) hbr (by simp)).trans ((hOi.out.cell (p := ⟨b', off + j, none⟩) hbw (by simp)).trans HCU.out); have cv := (hSw.cell (p := ⟨b', off + i, none⟩) hbr (by simp)).trans ((hOi.out.cell (p := ⟨b', off + i, none⟩) hbw (by simp)).trans HCV.out); clear hSw; go_simp; try with_reducible rfl)
              try simp only [Act.put, List.getElem_toArray, List.getElem_cons_zero, List.getElem_cons_succ, List.setIfInBounds_toArray, List.set_cons_zero, List.set_cons_succ]
              refine timed_pure (i := 6) (v := ?_) rfl (by kernel_rfl) (by kernel_rfl) (by kernel_rfl) (fun _ _ _ h => h) (by kernel_rfl) (by kernel_rfl) ?_ ?_
              rotate_left
              · (intro w; go_simp; try with_reducible rfl)
              try simp only [Act.put, List.getElem_toArray, List.getElem_cons_zero, List.getElem_cons_succ, List.setIfInBounds_toArray, List.set_cons_zero, List.set_cons_succ]
              refine timed_pure (i := 7) (v := ?_) rfl (by kernel_rfl) (by kernel_rfl) (by kernel_rfl) (fun _ _ _ h => h) (by kernel_rfl) (by kernel_rfl) ?_ ?_
              rotate_left
              · (intro w; go_simp; try with_reducible rfl)
              try simp only [Act.put, List.getElem_toArray, List.getElem_cons_zero, List.getElem_cons_succ, List.setIfInBounds_toArray, List.set_cons_zero, List.set_cons_succ]
              refine timed_pure (i := 8) (v := ?_) rfl (by kernel_rfl) (by kernel_rfl) (by kernel_rfl) (fun _ _ _ h => h) (by kernel_rfl) (by kernel_rfl) ?_ ?_
              rotate_left
              · (intro w; go_simp; try with_reducible rfl)
              try simp only [Act.put, List.getElem_toArray, List.getElem_cons_zero, List.getElem_cons_succ, List.setIfInBounds_toArray, List.set_cons_zero, List.set_cons_succ]
              refine timed_read (i := 9) (v := ?_) 0 rfl (by kernel_rfl) (by kernel_rfl) (by kernel_rfl) (fun _ _ _ h => h) (by kernel_rfl) (by kernel_rfl) rfl (by kernel_rfl) ?_ ?_
              rotate_left
              · (intro wq hSw; (try dsimp only at hSw); have hb := hSw.blk HBI.out (by simp); have hlt := hb.lt; have y0 := hb.at_ 0; have y1 := hb.at_ 1; have y2 := hb.at_ 2; simp at y0 y1 y2; have cu := (hSw.cell (p := ⟨b', off + j, none⟩) hbr (by simp)).trans ((hOi.out.cell (p := ⟨b', off + j, none⟩) hbw (by simp)).trans HCU.out); have cv := (hSw.cell (p := ⟨b', off + i, none⟩) hbr (by simp)).trans ((hOi.out.cell (p := ⟨b', off + i, none⟩) hbw (by simp)).trans HCV.out); clear hSw; go_simp; try with_reducible rfl)
              try simp only [Act.put, List.getElem_toArray, List.getElem_cons_zero, List.getElem_cons_succ, List.setIfInBounds_toArray, List.set_cons_zero, List.set_cons_succ]
              refine timed_step (i := 10) (by kernel_rfl) rfl (fun K hK => ?_)
              go_simp
              refine (HHF.out _ (Only.refl [] _).drew).mono ?_
              rintro e w7 ⟨rfl, O7⟩
              rw [HAV.out]
              refine hK.out _ _ (timed_holds (((Only.refl [] wr).drew).trans O7) (timed_nil)) ?_
              clear hK K
              try simp only [Act.put, List.getElem_toArray, List.getElem_cons_zero, List.getElem_cons_succ, List.setIfInBounds_toArray, List.set_cons_zero, List.set_cons_succ]
              refine timed_pure (i := 11) (v := ?_) rfl (by kernel_rfl) (by kernel_rfl) (by kernel_rfl) (fun _ _ _ h => h) (by kernel_rfl) (by kernel_rfl) ?_ ?_
              rotate_left
              · (intro w; go_simp; try with_reducible rfl)
              try simp only [Act.put, List.getElem_toArray, List.getElem_cons_zero, List.getElem_cons_succ, List.setIfInBounds_toArray, List.set_cons_zero, List.set_cons_succ]
              refine timed_done (by kernel_rfl) ?_ _
              refine NoPanic.normal ?_
              have HNW := Lib.hid (hOi.out.trans (((Only.refl [] wr).drew).trans O7))
              go_wp2
              go_roundw
              case rel => exact ⟨i + 1, by go_num, by omega, by omega, HNW⟩
              case measure => simp [intOf]; omega
            · have hd2 : decide ((i : Int) < (ll : Int)) = false := decide_eq_false (by omega)
              have HOX := Lib.hid (HN6.out.trans hOi.out)
              have hq : sumS G (k + 1) = sm + ll := HSS.out
              go_wp2
              go_roundw
              case rel => exact ⟨k + 1, by go_num, by omega, by rw [hq]; go_num, HOX⟩
              case measure => simp [intOf]; omega
        · have hkn : k = m0 := by omega
          subst hkn
          have hd : decide ((k : Int) < (k : Int)) = false := by simp
          have hA := HALL.out
          have hq : ((sumS G k : Nat) : Int) = (m2 : Int) := by omega
          have hqb : (((sumS G k : Nat) : Int) == (m2 : Int)) = true := by simp [hq]
          go_wp2
          go_ret
          exact ⟨rfl, HO5.out.trans hO.out⟩
end Go.Proofs.YtpkibfpnfpjclaaDoor
