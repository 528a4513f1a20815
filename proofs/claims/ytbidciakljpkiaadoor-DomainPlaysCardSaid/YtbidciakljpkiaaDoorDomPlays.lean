/- DomainPlays: a domain that is narrowed, begun and undone anyhow has what the document says. -/
import Derived.Test.YtbidciakljpkiaaDoorDomP
import Derived.Deep.CutBlock
import Derived.Deep.DeepCutAuto
set_option linter.unusedVariables false
set_option linter.unusedSimpArgs false
namespace Go.Proofs.YtbidciakljpkiaaDoor
open Go.RowKit
attribute [local go_sem ↓] Go.wp_at_zero Go.wp_at_succ

theorem fewN_bd (n : Nat) : fewN n = 201 ∨ fewN n ≤ 8 := by unfold fewN; split <;> omega

set_option maxRecDepth 100000 in
set_option maxHeartbeats 16000000 in
theorem domainPlays_walk (A : Option Addr) (m c : Nat) (zs : List Int) (A' : Option Addr) (m' c' : Nat) (ys : List Int) (w : World)
    (hr : Row w w.heap.size A (zs.map (Value.int .i64))) (hl : zs.length = m) (hmc : m ≤ c) (hc : c ≤ maxLen)
    (hr' : Row w w.heap.size A' (ys.map (Value.int .i64))) (hl' : ys.length = m' * 3) (hmc' : m' ≤ c') (hc' : c' ≤ maxLen) (hT : Tab w) (h00 : 0 < w.heap.size) :
    Calls Tryd.prog 3 #[.slice A m c, .slice A' m' c'] w fun e w' => e = .returned (.bool true) ∧ Only [] w w' := by
  have hm'2 : m' ≤ 9223372036854775807 := by unfold maxLen at hc'; omega
  have HW := Lib.hid (fun (w' : World) (hO : Only [] w w') => works32_any w' (hT.only h00 hO (by simp)) (by have := hO.size; omega))
  have hfe := few32_any A m c zs w hr hl hmc hc
  have HR' := Lib.hid hr'
  have HL' := Lib.hid hl'
  have HT := Lib.hid hT
  have HLt : (zs.take (fewN m)).length = fewN m := by rw [List.length_take, hl]; unfold fewN; split <;> omega
  have hMb := fewN_bd m
  obtain ⟨M, hMe⟩ : ∃ M, M = fewN m := ⟨_, rfl⟩
  obtain ⟨L, hLe⟩ : ∃ L, L = zs.take M := ⟨_, rfl⟩
  rw [← hMe] at HLt hfe hMb
  rw [← hLe] at HLt hfe
  have HFE := Lib.hid hfe
  have HLN := Lib.hid HLt
  have hM : M ≤ 201 := by omega
  have hff : fewN M = M := by unfold fewN; split <;> omega
  have htake : L.take M = L := List.take_of_length_le (by omega)
  have hf2 : ∀ (w : World) (B : Option Addr) (cb : Nat), Row w w.heap.size B (L.map (Value.int .i64)) → M ≤ cb → cb ≤ maxLen →
      Calls Tryd.prog 6 #[.slice B M cb] w fun e w' => ∃ v, e = .returned v ∧ w'.ownsRow w.heap.size 3 1 v M (L.map (Value.int .i64)) ∧ Only [] w w' := by
    intro w B cb hrow hb1 hb2
    have := few32_any B M cb L w hrow HLt hb1 hb2
    rw [hff, htake] at this
    exact this
  have HF2 := Lib.hid hf2
  clear hr hr' hl hl' hT HLt hMe hLe hmc hc hmc' hc' hff htake hf2 hfe hMb
  go_enter Tryd.func3, Tryd.ntmps3
  go_wp2_with fail
  refine (HFE.out).mono ?_
  rintro e w1 ⟨v, rfl, hv, hO1⟩
  obtain ⟨A1, c1, rfl, hc11, hc12, -, hrow1⟩ := own_row hv
  have HF2' := Lib.hid (HF2.out w1 A1 c1 hrow1 hc11 hc12)
  have O1 := Lib.hid hO1
  have HROW1 := Lib.hid hrow1
  clear hv hO1 hrow1 HFE
  go_wp2_with fail
  refine (HF2'.out).mono ?_
  rintro e w2 ⟨v, rfl, hv, hO2⟩
  obtain ⟨A2, c2, rfl, hc21, hc22, -, hrow2⟩ := own_row hv
  have HND := Lib.hid (dnew_any A2 M c2 L w2 hrow2 HLN.out hc21 hc22)
  have HROW2 := Lib.hid (row_up (HROW1.out.only hO2 (by simp)))
  have O2 := Lib.hid (O1.out.trans hO2)
  clear hv hrow2 hO2 HROW1
  go_wp2_with fail
  refine (HND.out).mono ?_
  rintro e w3 ⟨hO3, hcase⟩
  have O3 := Lib.hid (O2.out.trans hO3)
  have HROW3 := Lib.hid (row_up (HROW2.out.only hO3 (by simp)))
  have HMY := Lib.hid (rmay_any32 A1 M c1 L w3 HROW3.out HLN.out hM)
  have hs2 := O2.out.size
  have hs3 := hO3.size
  clear HROW2 hO3
  rcases hcase with ⟨hM2, hzok, rfl, q, B, fp, hD, hB, hf⟩ | ⟨hbad, rfl⟩
  · obtain ⟨p, hp⟩ : ∃ p, p = w2.heap.size := ⟨_, rfl⟩
    rw [← hp] at hD
    simp only [← hp]
    have HF0 : Hid (∀ b ∈ fp, w.heap.size ≤ b ∧ b < w3.heap.size) := Lib.hid (fun b hb => ⟨by have := (hf b hb).1; omega, (hf b hb).2⟩)
    have HZ := Lib.hid hzok
    have HD := Lib.hid hD
    clear hf hD hp hzok
    go_wp2_with fail
    refine (HMY.out).mono ?_
    rintro e w4 ⟨rfl, hcm⟩
    rcases hcm with ⟨-, -, rfl⟩ | ⟨hbad, -⟩
    · have HMK := Lib.hid (rmake_any A1 M c1 L w3 HROW3.out HLN.out hM2 HZ.out)
      go_wp2_with fail
      refine (HMK.out).mono ?_
      rintro e w4 ⟨rfl, fq, hRD, hO4, hfq⟩
      obtain ⟨r, hre⟩ : ∃ r, r = w3.heap.size := ⟨_, rfl⟩
      rw [← hre] at hRD
      simp only [← hre]
      obtain ⟨I, hI⟩ : ∃ I, I = allOf L := ⟨_, rfl⟩
      obtain ⟨sz, hsz⟩ : ∃ sz, sz = L.map Int.toNat := ⟨_, rfl⟩
      rw [← hI] at hRD HD
      rw [← hsz] at HD
      have h43 := hO4.size
      have HDP : Hid (DP w w4 p q B sz I [] r I [] []) := Lib.hid ⟨fp, fq, HD.out.keep hO4, hRD, fun b hb hm => by have := (HF0.out b hb).2; have := (hfq b hm).1; omega,
        fun b hb => ⟨(HF0.out b hb).1, by have := (HF0.out b hb).2; omega⟩, fun b hb => ⟨by have := (hfq b hb).1; omega, (hfq b hb).2, by have := (hfq b hb).1; omega⟩, by simp, by omega, O3.out.trans hO4⟩
      clear hRD hO4 hfq hre hI hsz HMK HMY HD HF0 HROW3
      go_wp2
      go_loopw [8] (fun i wr => ∃ (j : Nat) (I : List (List Bool)) (T : List (List (List Bool))), i = .int .i64 j ∧ j ≤ m' ∧ j ≤ 60 ∧ T.length ≤ j ∧ Hid (DP w wr p q B sz I T r I T [])) (fun i _ => 60 - (intOf i).toNat)
      case atStart => exact ⟨0, I, [], rfl, by omega, by omega, by simp, HDP⟩
      case round =>
        clear HDP HZ HND HF2' HF2
        obtain ⟨j, I, T, rfl, hj, hj6, hTj, HG⟩ := hrel
        by_cases hgo : j < m' ∧ j < 60
        · obtain ⟨hg1, hg2⟩ := hgo
          have hO := HG.out.o
          have HFIT := Lib.hid HG.out.fit
          obtain ⟨b, off, rfl, hbB, hbw, hcell⟩ := HR'.out.open_ (k := j * 3 + 2) (by rw [List.length_map, HL'.out]; omega)
          obtain ⟨z0, hz0⟩ : ∃ z, ys[j * 3]? = some z := ⟨_, List.getElem?_eq_getElem (by rw [HL'.out]; omega)⟩
          obtain ⟨z1, hz1⟩ : ∃ z, ys[j * 3 + 1]? = some z := ⟨_, List.getElem?_eq_getElem (by rw [HL'.out]; omega)⟩
          obtain ⟨z2, hz2⟩ : ∃ z, ys[j * 3 + 2]? = some z := ⟨_, List.getElem?_eq_getElem (by rw [HL'.out]; omega)⟩
          have hc0 : wr.cell? ⟨b, off + j * 3, none⟩ = some (.int .i64 z0) :=
            (hO.cell (p := ⟨b, off + j * 3, none⟩) hbw (by simp)).trans (hcell (j * 3) _ (by rw [List.getElem?_map, hz0]; rfl))
          have hc1 : wr.cell? ⟨b, off + j * 3 + 1, none⟩ = some (.int .i64 z1) := by
            have := (hO.cell (p := ⟨b, off + (j * 3 + 1), none⟩) hbw (by simp)).trans (hcell (j * 3 + 1) _ (by rw [List.getElem?_map, hz1]; rfl))
            rw [Nat.add_assoc]
            exact this
          have hc2 : wr.cell? ⟨b, off + j * 3 + 2, none⟩ = some (.int .i64 z2) := by
            have := (hO.cell (p := ⟨b, off + (j * 3 + 2), none⟩) hbw (by simp)).trans (hcell (j * 3 + 2) _ (by rw [List.getElem?_map, hz2]; rfl))
            rw [Nat.add_assoc]
            exact this
          have hj0 : (0 : Int) ≤ (j : Int) := Int.natCast_nonneg _
          have hj1 : (j : Int) < (m' : Int) := by omega
          have hj2 : (j : Int) < 60 := by omega
          clear hcell hz0 hz1 hz2 hO
          go_wp2_with fail
          refine (among4 z0 _).mono ?_
          rintro e wa' ⟨rfl, rfl⟩
          have hab := amg_bd z0
          generalize amg z0 = rr at *
          have BA : Hid (Blk (wr.alloc (.cells #[.int .i64 z0, .int .i64 z1, .int .i64 z2] 34)) wr.heap.size 34 #[.int .i64 z0, .int .i64 z1, .int .i64 z2]) := Lib.hid (Blk.made _ _ _)
          have GA := Lib.hid (HG.out.fresh (.cells #[.int .i64 z0, .int .i64 z1, .int .i64 z2] 34))
          clear HG hc0 hc1 hc2
          generalize wr.alloc (.cells #[.int .i64 z0, .int .i64 z1, .int .i64 z2] 34) = wa at *
          generalize wr.heap.size = va at *
          have hr4 : rr = 0 ∨ rr = 1 ∨ rr = 2 ∨ rr = 3 := by omega
          clear hab
          go_upto_block 2 with fail
          go_cut [10] (fun s wz => ∃ (I2 : List (List Bool)) (T2 : List (List (List Bool))), s = .bool true ∧ T2.length ≤ j + 1 ∧ Hid (DP w wz p q B sz I2 T2 r I2 T2 [va]) ∧ Hid (Blk wz va 34 #[.int .i64 z0, .int .i64 z1, .int .i64 z2]))
          case first =>
            rcases hr4 with rfl | rfl | rfl | rfl
            · go_wp2_with fail
              refine wp_region_noPanic ?_
              refine wp_region_timed (F := [⟨[], [], fun w' => Blk w' va 34 #[.int .i64 z0, .int .i64 z1, .int .i64 z2]⟩]) (by kernel_rfl) (timed_holds (BA.out.drew) (timed_nil)) ?_
              refine timed_pure (i := 0) (v := ?_) rfl (by kernel_rfl) (by kernel_rfl) (by kernel_rfl) (fun _ _ _ h => h) (by kernel_rfl) (by kernel_rfl) ?_ ?_
              rotate_left
              · (intro w; go_simp; try with_reducible rfl)
              try simp only [Act.put, List.getElem_toArray, List.getElem_cons_zero, List.getElem_cons_succ, List.setIfInBounds_toArray, List.set_cons_zero, List.set_cons_succ]
              refine timed_pure (i := 1) (v := ?_) rfl (by kernel_rfl) (by kernel_rfl) (by kernel_rfl) (fun _ _ _ h => h) (by kernel_rfl) (by kernel_rfl) ?_ ?_
              rotate_left
              · (intro w; go_simp; try with_reducible rfl)
              try simp only [Act.put, List.getElem_toArray, List.getElem_cons_zero, List.getElem_cons_succ, List.setIfInBounds_toArray, List.set_cons_zero, List.set_cons_succ]
              refine timed_read (i := 2) (v := ?_) 0 rfl (by kernel_rfl) (by kernel_rfl) (by kernel_rfl) (fun _ _ _ h => h) (by kernel_rfl) (by kernel_rfl) rfl (by kernel_rfl) ?_ ?_
              rotate_left
              · (intro wq hSw; (try dsimp only at hSw); have a1 := hSw.at_ 1; have a2 := hSw.at_ 2; simp at a1 a2; clear hSw; go_simp; try with_reducible rfl)
              try simp only [Act.put, List.getElem_toArray, List.getElem_cons_zero, List.getElem_cons_succ, List.setIfInBounds_toArray, List.set_cons_zero, List.set_cons_succ]
              refine timed_pure (i := 3) (v := ?_) rfl (by kernel_rfl) (by kernel_rfl) (by kernel_rfl) (fun _ _ _ h => h) (by kernel_rfl) (by kernel_rfl) ?_ ?_
              rotate_left
              · (intro w; go_simp; try with_reducible rfl)
              try simp only [Act.put, List.getElem_toArray, List.getElem_cons_zero, List.getElem_cons_succ, List.setIfInBounds_toArray, List.set_cons_zero, List.set_cons_succ]
              refine timed_read (i := 4) (v := ?_) 0 rfl (by kernel_rfl) (by kernel_rfl) (by kernel_rfl) (fun _ _ _ h => h) (by kernel_rfl) (by kernel_rfl) rfl (by kernel_rfl) ?_ ?_
              rotate_left
              · (intro wq hSw; (try dsimp only at hSw); have a1 := hSw.at_ 1; have a2 := hSw.at_ 2; simp at a1 a2; clear hSw; go_simp; try with_reducible rfl)
              try simp only [Act.put, List.getElem_toArray, List.getElem_cons_zero, List.getElem_cons_succ, List.setIfInBounds_toArray, List.set_cons_zero, List.set_cons_succ]
              refine timed_pure (i := 6) (v := ?_) rfl (by kernel_rfl) (by kernel_rfl) (by kernel_rfl) (fun _ _ _ h => h) (by kernel_rfl) (by kernel_rfl) ?_ ?_
              rotate_left
              · (intro w; go_simp; try with_reducible rfl)
              try simp only [Act.put, List.getElem_toArray, List.getElem_cons_zero, List.getElem_cons_succ, List.setIfInBounds_toArray, List.set_cons_zero, List.set_cons_succ]
              refine timed_pure (i := 7) (v := ?_) rfl (by kernel_rfl) (by kernel_rfl) (by kernel_rfl) (fun _ _ _ h => h) (by kernel_rfl) (by kernel_rfl) ?_ ?_
              rotate_left
              · (intro w; go_simp; try with_reducible rfl)
              try simp only [Act.put, List.getElem_toArray, List.getElem_cons_zero, List.getElem_cons_succ, List.setIfInBounds_toArray, List.set_cons_zero, List.set_cons_succ]
              refine timed_read (i := 8) (v := ?_) 0 rfl (by kernel_rfl) (by kernel_rfl) (by kernel_rfl) (fun _ _ _ h => h) (by kernel_rfl) (by kernel_rfl) rfl (by kernel_rfl) ?_ ?_
              rotate_left
              · (intro wq hSw; (try dsimp only at hSw); have a1 := hSw.at_ 1; have a2 := hSw.at_ 2; simp at a1 a2; clear hSw; go_simp; try with_reducible rfl)
              try simp only [Act.put, List.getElem_toArray, List.getElem_cons_zero, List.getElem_cons_succ, List.setIfInBounds_toArray, List.set_cons_zero, List.set_cons_succ]
              refine timed_pure (i := 9) (v := ?_) rfl (by kernel_rfl) (by kernel_rfl) (by kernel_rfl) (fun _ _ _ h => h) (by kernel_rfl) (by kernel_rfl) ?_ ?_
              rotate_left
              · (intro w; go_simp; try with_reducible rfl)
              try simp only [Act.put, List.getElem_toArray, List.getElem_cons_zero, List.getElem_cons_succ, List.setIfInBounds_toArray, List.set_cons_zero, List.set_cons_succ]
              refine timed_read (i := 10) (v := ?_) 0 rfl (by kernel_rfl) (by kernel_rfl) (by kernel_rfl) (fun _ _ _ h => h) (by kernel_rfl) (by kernel_rfl) rfl (by kernel_rfl) ?_ ?_
              rotate_left
              · (intro wq hSw; (try dsimp only at hSw); have a1 := hSw.at_ 1; have a2 := hSw.at_ 2; simp at a1 a2; clear hSw; go_simp; try with_reducible rfl)
              try simp only [Act.put, List.getElem_toArray, List.getElem_cons_zero, List.getElem_cons_succ, List.setIfInBounds_toArray, List.set_cons_zero, List.set_cons_succ]
              refine timed_step (i := 5) (by kernel_rfl) rfl (fun K hK => ?_)
              go_simp
              have hl := dp_drop_l (GA.out.only ((Only.refl [] wa).drew)) z1 z2
              obtain ⟨ev, hev⟩ : ∃ ev, ev = drE I z1 z2 := ⟨_, rfl⟩
              rw [← hev] at hl
              refine hl.mono ?_
              rintro e y1 ⟨rfl, G1, K1⟩
              have B1 : Blk y1 va 34 #[.int .i64 z0, .int .i64 z1, .int .i64 z2] := (K1 va (by simp)).trans BA.out
              refine hK.out _ _ (timed_holds (B1) (timed_nil)) ?_
              clear hK K
              try simp only [Act.put, List.getElem_toArray, List.getElem_cons_zero, List.getElem_cons_succ, List.setIfInBounds_toArray, List.set_cons_zero, List.set_cons_succ]
              refine timed_step (i := 11) (by kernel_rfl) rfl (fun K hK => ?_)
              go_simp
              have hr := dp_drop_r G1 HFIT.out.1 z1 z2
              rw [← hev] at hr
              refine hr.mono ?_
              rintro e y2 ⟨rfl, G2, K2⟩
              have B2 : Blk y2 va 34 #[.int .i64 z0, .int .i64 z1, .int .i64 z2] := (K2 va (by simp)).trans B1
              refine hK.out _ _ (timed_holds (B2) (timed_nil)) ?_
              clear hK K
              try simp only [Act.put, List.getElem_toArray, List.getElem_cons_zero, List.getElem_cons_succ, List.setIfInBounds_toArray, List.set_cons_zero, List.set_cons_succ]
              refine timed_pure (i := 12) (v := ?_) rfl (by kernel_rfl) (by kernel_rfl) (by kernel_rfl) (fun _ _ _ h => h) (by kernel_rfl) (by kernel_rfl) ?_ ?_
              rotate_left
              · (intro w; go_simp; try with_reducible rfl)
              try simp only [Act.put, List.getElem_toArray, List.getElem_cons_zero, List.getElem_cons_succ, List.setIfInBounds_toArray, List.set_cons_zero, List.set_cons_succ]
              refine timed_pure (i := 13) (v := ?_) rfl (by kernel_rfl) (by kernel_rfl) (by kernel_rfl) (fun _ _ _ h => h) (by kernel_rfl) (by kernel_rfl) ?_ ?_
              rotate_left
              · (intro w; go_simp; try with_reducible rfl)
              try simp only [Act.put, List.getElem_toArray, List.getElem_cons_zero, List.getElem_cons_succ, List.setIfInBounds_toArray, List.set_cons_zero, List.set_cons_succ]
              refine timed_done (by kernel_rfl) ?_ _
              refine NoPanic.normal ?_
              go_wp2_with fail
              go_meet
              exact ⟨_, _, rfl, by omega, Lib.hid G2, Lib.hid B2⟩
            · go_wp2_with fail
              refine wp_region_noPanic ?_
              refine wp_region_timed (F := [⟨[], [], fun w' => Blk w' va 34 #[.int .i64 z0, .int .i64 z1, .int .i64 z2]⟩]) (by kernel_rfl) (timed_holds (BA.out.drew) (timed_nil)) ?_
              refine timed_pure (i := 0) (v := ?_) rfl (by kernel_rfl) (by kernel_rfl) (by kernel_rfl) (fun _ _ _ h => h) (by kernel_rfl) (by kernel_rfl) ?_ ?_
              rotate_left
              · (intro w; go_simp; try with_reducible rfl)
              try simp only [Act.put, List.getElem_toArray, List.getElem_cons_zero, List.getElem_cons_succ, List.setIfInBounds_toArray, List.set_cons_zero, List.set_cons_succ]
              refine timed_pure (i := 1) (v := ?_) rfl (by kernel_rfl) (by kernel_rfl) (by kernel_rfl) (fun _ _ _ h => h) (by kernel_rfl) (by kernel_rfl) ?_ ?_
              rotate_left
              · (intro w; go_simp; try with_reducible rfl)
              try simp only [Act.put, List.getElem_toArray, List.getElem_cons_zero, List.getElem_cons_succ, List.setIfInBounds_toArray, List.set_cons_zero, List.set_cons_succ]
              refine timed_read (i := 2) (v := ?_) 0 rfl (by kernel_rfl) (by kernel_rfl) (by kernel_rfl) (fun _ _ _ h => h) (by kernel_rfl) (by kernel_rfl) rfl (by kernel_rfl) ?_ ?_
              rotate_left
              · (intro wq hSw; (try dsimp only at hSw); have a1 := hSw.at_ 1; have a2 := hSw.at_ 2; simp at a1 a2; clear hSw; go_simp; try with_reducible rfl)
              try simp only [Act.put, List.getElem_toArray, List.getElem_cons_zero, List.getElem_cons_succ, List.setIfInBounds_toArray, List.set_cons_zero, List.set_cons_succ]
              refine timed_pure (i := 3) (v := ?_) rfl (by kernel_rfl) (by kernel_rfl) (by kernel_rfl) (fun _ _ _ h => h) (by kernel_rfl) (by kernel_rfl) ?_ ?_
              rotate_left
              · (intro w; go_simp; try with_reducible rfl)
              try simp only [Act.put, List.getElem_toArray, List.getElem_cons_zero, List.getElem_cons_succ, List.setIfInBounds_toArray, List.set_cons_zero, List.set_cons_succ]
              refine timed_read (i := 4) (v := ?_) 0 rfl (by kernel_rfl) (by kernel_rfl) (by kernel_rfl) (fun _ _ _ h => h) (by kernel_rfl) (by kernel_rfl) rfl (by kernel_rfl) ?_ ?_
              rotate_left
              · (intro wq hSw; (try dsimp only at hSw); have a1 := hSw.at_ 1; have a2 := hSw.at_ 2; simp at a1 a2; clear hSw; go_simp; try with_reducible rfl)
              try simp only [Act.put, List.getElem_toArray, List.getElem_cons_zero, List.getElem_cons_succ, List.setIfInBounds_toArray, List.set_cons_zero, List.set_cons_succ]
              refine timed_pure (i := 6) (v := ?_) rfl (by kernel_rfl) (by kernel_rfl) (by kernel_rfl) (fun _ _ _ h => h) (by kernel_rfl) (by kernel_rfl) ?_ ?_
              rotate_left
              · (intro w; go_simp; try with_reducible rfl)
              try simp only [Act.put, List.getElem_toArray, List.getElem_cons_zero, List.getElem_cons_succ, List.setIfInBounds_toArray, List.set_cons_zero, List.set_cons_succ]
              refine timed_pure (i := 7) (v := ?_) rfl (by kernel_rfl) (by kernel_rfl) (by kernel_rfl) (fun _ _ _ h => h) (by kernel_rfl) (by kernel_rfl) ?_ ?_
              rotate_left
              · (intro w; go_simp; try with_reducible rfl)
              try simp only [Act.put, List.getElem_toArray, List.getElem_cons_zero, List.getElem_cons_succ, List.setIfInBounds_toArray, List.set_cons_zero, List.set_cons_succ]
              refine timed_read (i := 8) (v := ?_) 0 rfl (by kernel_rfl) (by kernel_rfl) (by kernel_rfl) (fun _ _ _ h => h) (by kernel_rfl) (by kernel_rfl) rfl (by kernel_rfl) ?_ ?_
              rotate_left
              · (intro wq hSw; (try dsimp only at hSw); have a1 := hSw.at_ 1; have a2 := hSw.at_ 2; simp at a1 a2; clear hSw; go_simp; try with_reducible rfl)
              try simp only [Act.put, List.getElem_toArray, List.getElem_cons_zero, List.getElem_cons_succ, List.setIfInBounds_toArray, List.set_cons_zero, List.set_cons_succ]
              refine timed_pure (i := 9) (v := ?_) rfl (by kernel_rfl) (by kernel_rfl) (by kernel_rfl) (fun _ _ _ h => h) (by kernel_rfl) (by kernel_rfl) ?_ ?_
              rotate_left
              · (intro w; go_simp; try with_reducible rfl)
              try simp only [Act.put, List.getElem_toArray, List.getElem_cons_zero, List.getElem_cons_succ, List.setIfInBounds_toArray, List.set_cons_zero, List.set_cons_succ]
              refine timed_read (i := 10) (v := ?_) 0 rfl (by kernel_rfl) (by kernel_rfl) (by kernel_rfl) (fun _ _ _ h => h) (by kernel_rfl) (by kernel_rfl) rfl (by kernel_rfl) ?_ ?_
              rotate_left
              · (intro wq hSw; (try dsimp only at hSw); have a1 := hSw.at_ 1; have a2 := hSw.at_ 2; simp at a1 a2; clear hSw; go_simp; try with_reducible rfl)
              try simp only [Act.put, List.getElem_toArray, List.getElem_cons_zero, List.getElem_cons_succ, List.setIfInBounds_toArray, List.set_cons_zero, List.set_cons_succ]
              refine timed_step (i := 5) (by kernel_rfl) rfl (fun K hK => ?_)
              go_simp
              have hl := dp_only_l (GA.out.only ((Only.refl [] wa).drew)) z1 z2
              obtain ⟨ev, hev⟩ : ∃ ev, ev = onE I z1 z2 := ⟨_, rfl⟩
              rw [← hev] at hl
              refine hl.mono ?_
              rintro e y1 ⟨rfl, G1, K1⟩
              have B1 : Blk y1 va 34 #[.int .i64 z0, .int .i64 z1, .int .i64 z2] := (K1 va (by simp)).trans BA.out
              refine hK.out _ _ (timed_holds (B1) (timed_nil)) ?_
              clear hK K
              try simp only [Act.put, List.getElem_toArray, List.getElem_cons_zero, List.getElem_cons_succ, List.setIfInBounds_toArray, List.set_cons_zero, List.set_cons_succ]
              refine timed_step (i := 11) (by kernel_rfl) rfl (fun K hK => ?_)
              go_simp
              have hr := dp_only_r G1 HFIT.out.1 z1 z2
              rw [← hev] at hr
              refine hr.mono ?_
              rintro e y2 ⟨rfl, G2, K2⟩
              have B2 : Blk y2 va 34 #[.int .i64 z0, .int .i64 z1, .int .i64 z2] := (K2 va (by simp)).trans B1
              refine hK.out _ _ (timed_holds (B2) (timed_nil)) ?_
              clear hK K
              try simp only [Act.put, List.getElem_toArray, List.getElem_cons_zero, List.getElem_cons_succ, List.setIfInBounds_toArray, List.set_cons_zero, List.set_cons_succ]
              refine timed_pure (i := 12) (v := ?_) rfl (by kernel_rfl) (by kernel_rfl) (by kernel_rfl) (fun _ _ _ h => h) (by kernel_rfl) (by kernel_rfl) ?_ ?_
              rotate_left
              · (intro w; go_simp; try with_reducible rfl)
              try simp only [Act.put, List.getElem_toArray, List.getElem_cons_zero, List.getElem_cons_succ, List.setIfInBounds_toArray, List.set_cons_zero, List.set_cons_succ]
              refine timed_pure (i := 13) (v := ?_) rfl (by kernel_rfl) (by kernel_rfl) (by kernel_rfl) (fun _ _ _ h => h) (by kernel_rfl) (by kernel_rfl) ?_ ?_
              rotate_left
              · (intro w; go_simp; try with_reducible rfl)
              try simp only [Act.put, List.getElem_toArray, List.getElem_cons_zero, List.getElem_cons_succ, List.setIfInBounds_toArray, List.set_cons_zero, List.set_cons_succ]
              refine timed_done (by kernel_rfl) ?_ _
              refine NoPanic.normal ?_
              go_wp2_with fail
              go_meet
              exact ⟨_, _, rfl, by omega, Lib.hid G2, Lib.hid B2⟩
            · have HBL := Lib.hid (dp_begin_l GA.out (by omega))
              go_wp2_with fail
              refine (HBL.out).mono ?_
              rintro e y1 ⟨rfl, G1, K1⟩
              have HBR := Lib.hid (dp_begin_r G1 HFIT.out.1 (by omega))
              have B1 : Hid (Blk y1 va 34 #[.int .i64 z0, .int .i64 z1, .int .i64 z2]) := Lib.hid ((K1 va (by simp)).trans BA.out)
              clear G1 K1
              go_wp2_with fail
              refine (HBR.out).mono ?_
              rintro e y2 ⟨rfl, G2, K2⟩
              have B2 : Hid (Blk y2 va 34 #[.int .i64 z0, .int .i64 z1, .int .i64 z2]) := Lib.hid ((K2 va (by simp)).trans B1.out)
              have HG2 := Lib.hid G2
              clear G2 K2
              go_wp2_with fail
              go_meet
              exact ⟨_, _, rfl, by simp; omega, HG2, B2⟩
            · have hul := dp_undo_l GA.out
              obtain ⟨ue, hue⟩ : ∃ ue, ue = undE T := ⟨_, rfl⟩
              rw [← hue] at hul
              have HUL := Lib.hid hul
              clear hul
              go_wp2_with fail
              refine (HUL.out).mono ?_
              rintro e y1 ⟨rfl, G1, K1⟩
              have hur := dp_undo_r G1
              rw [← hue] at hur
              have HUR := Lib.hid hur
              have B1 : Hid (Blk y1 va 34 #[.int .i64 z0, .int .i64 z1, .int .i64 z2]) := Lib.hid ((K1 va (by simp)).trans BA.out)
              clear G1 K1 hur hue
              go_wp2_with fail
              refine (HUR.out).mono ?_
              rintro e y2 ⟨rfl, G2, K2⟩
              have B2 : Hid (Blk y2 va 34 #[.int .i64 z0, .int .i64 z1, .int .i64 z2]) := Lib.hid ((K2 va (by simp)).trans B1.out)
              have HG2 := Lib.hid G2
              clear G2 K2
              go_wp2_with fail
              go_meet
              exact ⟨_, _, rfl, by have := List.length_dropLast (xs := T); omega, HG2, B2⟩
          case rest =>
            clear hr4 BA GA HFIT
            obtain ⟨wz, hwz⟩ : ∃ wz, wz = wc := ⟨_, rfl⟩
            subst hwz
            obtain ⟨I2, T2, rfl, hT2, GZ, BZ⟩ := hcut
            have hfit := GZ.out.fit
            have HLR := Lib.hid (dp_left_r GZ.out hfit.1 z1)
            have HFX := Lib.hid (fun (W : World) (hO : Only [] wz W) => dp_fixed (GZ.out.only hO) HT.out h00 z1)
            have HLL := Lib.hid (fun (W : World) (hO : Only [] wz W) => dp_left_l (GZ.out.only hO) HT.out h00 z1)
            have hol := fun (W : World) (hO : Only [] wz W) => dp_open_l (GZ.out.only hO) HT.out h00
            have hor := fun (W : World) (hO : Only [] wz W) => dp_open_r (GZ.out.only hO) hfit.1 hfit.2
            obtain ⟨OP, hOP⟩ : ∃ OP, OP = openTo I2 I2.length := ⟨_, rfl⟩
            have hOPl : OP.length ≤ 200 := by rw [hOP]; have := openTo_len I2 I2.length; have := hfit.1.n; omega
            simp only [← hOP] at hol hor
            have HOL := Lib.hid hol
            have HOR := Lib.hid hor
            have hpl := GZ.out.pl_len z1
            have hcs : (∃ z, pints (lv I2 z1) = [z] ∧ fxB (lv I2 z1) = true ∧ fxV (lv I2 z1) = z) ∨ ((pints (lv I2 z1)).length ≠ 1 ∧ fxB (lv I2 z1) = false) := by
              have e : (pints (lv I2 z1)).length = (places (lv I2 z1)).length := by rw [pints, List.length_map]
              by_cases h1 : (pints (lv I2 z1)).length = 1
              · obtain ⟨z, hz⟩ := List.length_eq_one_iff.1 h1
                have hb : fxB (lv I2 z1) = true := by unfold fxB; simp; omega
                exact .inl ⟨z, hz, hb, by unfold fxV; rw [if_pos hb, hz]; rfl⟩
              · exact .inr ⟨h1, by unfold fxB; simp; omega⟩
            have HCS := Lib.hid hcs
            have a1z : wz.cell? ⟨va, 1, none⟩ = some (.int .i64 z1) := BZ.out.at_ 1
            have hvz := BZ.out.lt
            clear hol hor hOP hfit hcs
            obtain ⟨x1, hx1⟩ : ∃ x1, x1 = pints (lv I2 z1) := ⟨_, rfl⟩
            obtain ⟨fb, hfb⟩ : ∃ fb, fb = fxB (lv I2 z1) := ⟨_, rfl⟩
            obtain ⟨fv, hfv⟩ : ∃ fv, fv = fxV (lv I2 z1) := ⟨_, rfl⟩
            simp only [← hx1, ← hfb, ← hfv] at HLR HFX HLL HCS hpl
            clear hx1 hfb hfv
            rcases HCS.out with ⟨z, rfl, rfl, hfz⟩ | ⟨hn1, rfl⟩
            · have hfz' := hfz.symm
              clear HCS hfz
              subst hfz'
              go_wp2_with fail
              refine (HLR.out).mono ?_
              rintro e y1 ⟨V1, ⟨rfl, hown1⟩, Q1⟩
              obtain ⟨A1', c1', rfl, -, -, -, R1⟩ := own_row hown1
              have OY1 := Lib.hid Q1
              have HR1 := Lib.hid R1
              have b1 : y1.cell? ⟨va, 1, none⟩ = some (.int .i64 z1) := (Q1.cell (p := ⟨va, 1, none⟩) hvz (by simp)).trans a1z
              have hv1 := Q1.size
              clear hown1 Q1 R1
              go_wp2_with fail
              refine (HFX.out _ OY1.out).mono ?_
              rintro e y2 ⟨rfl, Q2⟩
              have OY2 := Lib.hid (OY1.out.trans Q2)
              have HR2 := Lib.hid (HR1.out.only Q2 (by simp))
              have b2 : y2.cell? ⟨va, 1, none⟩ = some (.int .i64 z1) := (OY2.out.cell (p := ⟨va, 1, none⟩) hvz (by simp)).trans a1z
              clear Q2
              go_wp2_with fail
              refine (HLL.out _ OY2.out).mono ?_
              rintro e y3 ⟨V3, ⟨rfl, hown3⟩, Q3⟩
              obtain ⟨A3, c3, rfl, -, -, -, R3⟩ := own_row hown3
              have OY3 := Lib.hid (OY2.out.trans Q3)
              have HR3 := Lib.hid R3
              have HR2' := Lib.hid (HR2.out.only Q3 (by simp))
              clear hown3 Q3 R3
              go_wp2_with fail
              refine (sameInts_any A3 A1' _ _ c3 c1' [z] [z] y3 _ _ HR3.out HR2'.out rfl rfl (by simp) (by simp)).mono ?_
              rintro e y3' ⟨rfl, d3, rfl⟩
              rw [decide_eq_true rfl]
              have OYD := Lib.hid (OY3.out.drewN d3)
              obtain ⟨bL, offL, rfl, -, -, hcL⟩ := HR2'.out.open_ (k := 0) (by simp)
              have cL : (y3.drewN d3).cell? ⟨bL, offL, none⟩ = some (.int .i64 z) := hcL 0 _ rfl
              clear hcL
              -- the open ones
              go_wp2_with fail
              refine (HOL.out _ (OYD.out)).mono ?_
              rintro e y4 ⟨V4, ⟨rfl, hown4⟩, Q4⟩
              obtain ⟨A4, c4, rfl, -, -, -, R4⟩ := own_row hown4
              have OY4 := Lib.hid ((OYD.out).trans Q4)
              have HR4 := Lib.hid R4
              clear hown4 Q4 R4
              go_wp2_with fail
              refine (HOR.out _ OY4.out).mono ?_
              rintro e y5 ⟨V5, ⟨rfl, hown5⟩, Q5⟩
              obtain ⟨A5, c5, rfl, -, -, -, R5⟩ := own_row hown5
              have OY5 := Lib.hid (OY4.out.trans Q5)
              have HR5 := Lib.hid R5
              have HR4' := Lib.hid (HR4.out.only Q5 (by simp))
              clear hown5 Q5 R5
              go_wp2_with fail
              refine (sameInts_any A4 A5 _ _ c4 c5 OP OP y5 _ _ HR4'.out HR5.out rfl rfl (by omega) (by omega)).mono ?_
              rintro e y6 ⟨rfl, d6, rfl⟩
              rw [decide_eq_true rfl]
              have OY6 := Lib.hid (OY5.out.drewN d6)
              go_wp2
              go_roundw
              case rel =>
                have HFIN := Lib.hid (GZ.out.only OY6.out).drop
                first
                | exact ⟨j + 1, I2, T2, by go_num, by omega, by omega, by omega, HFIN⟩
                | exact ⟨⟨j + 1, I2, T2, by go_num, by omega, by omega, by omega, HFIN⟩, rfl⟩
                | exact ⟨_, ⟨j + 1, I2, T2, by go_num, by omega, by omega, by omega, HFIN⟩, rfl⟩
              case measure => simp [intOf]; omega

            · have hd1 : ((x1.length : Int) == 1) = false := by simp; omega
              clear HCS hn1
              go_wp2_with fail
              refine (HLR.out).mono ?_
              rintro e y1 ⟨V1, ⟨rfl, hown1⟩, Q1⟩
              obtain ⟨A1', c1', rfl, -, -, -, R1⟩ := own_row hown1
              have OY1 := Lib.hid Q1
              have HR1 := Lib.hid R1
              have b1 : y1.cell? ⟨va, 1, none⟩ = some (.int .i64 z1) := (Q1.cell (p := ⟨va, 1, none⟩) hvz (by simp)).trans a1z
              clear hown1 Q1 R1
              go_wp2_with fail
              refine (HFX.out _ OY1.out).mono ?_
              rintro e y2 ⟨rfl, Q2⟩
              have OY2 := Lib.hid (OY1.out.trans Q2)
              have HR2 := Lib.hid (HR1.out.only Q2 (by simp))
              have b2 : y2.cell? ⟨va, 1, none⟩ = some (.int .i64 z1) := (OY2.out.cell (p := ⟨va, 1, none⟩) hvz (by simp)).trans a1z
              clear Q2
              go_wp2_with fail
              refine (HLL.out _ OY2.out).mono ?_
              rintro e y3 ⟨V3, ⟨rfl, hown3⟩, Q3⟩
              obtain ⟨A3, c3, rfl, -, -, -, R3⟩ := own_row hown3
              have OY3 := Lib.hid (OY2.out.trans Q3)
              have HR3 := Lib.hid R3
              have HR2' := Lib.hid (HR2.out.only Q3 (by simp))
              clear hown3 Q3 R3
              go_wp2_with fail
              refine (sameInts_any A3 A1' _ _ c3 c1' x1 x1 y3 _ _ HR3.out HR2'.out rfl rfl (by omega) (by omega)).mono ?_
              rintro e y3' ⟨rfl, d3, rfl⟩
              rw [decide_eq_true rfl]
              have OYD := Lib.hid (OY3.out.drewN d3)
              -- the open ones
              go_wp2_with fail
              refine (HOL.out _ (OYD.out)).mono ?_
              rintro e y4 ⟨V4, ⟨rfl, hown4⟩, Q4⟩
              obtain ⟨A4, c4, rfl, -, -, -, R4⟩ := own_row hown4
              have OY4 := Lib.hid ((OYD.out).trans Q4)
              have HR4 := Lib.hid R4
              clear hown4 Q4 R4
              go_wp2_with fail
              refine (HOR.out _ OY4.out).mono ?_
              rintro e y5 ⟨V5, ⟨rfl, hown5⟩, Q5⟩
              obtain ⟨A5, c5, rfl, -, -, -, R5⟩ := own_row hown5
              have OY5 := Lib.hid (OY4.out.trans Q5)
              have HR5 := Lib.hid R5
              have HR4' := Lib.hid (HR4.out.only Q5 (by simp))
              clear hown5 Q5 R5
              go_wp2_with fail
              refine (sameInts_any A4 A5 _ _ c4 c5 OP OP y5 _ _ HR4'.out HR5.out rfl rfl (by omega) (by omega)).mono ?_
              rintro e y6 ⟨rfl, d6, rfl⟩
              rw [decide_eq_true rfl]
              have OY6 := Lib.hid (OY5.out.drewN d6)
              go_wp2
              go_roundw
              case rel =>
                have HFIN := Lib.hid (GZ.out.only OY6.out).drop
                first
                | exact ⟨j + 1, I2, T2, by go_num, by omega, by omega, by omega, HFIN⟩
                | exact ⟨⟨j + 1, I2, T2, by go_num, by omega, by omega, by omega, HFIN⟩, rfl⟩
                | exact ⟨_, ⟨j + 1, I2, T2, by go_num, by omega, by omega, by omega, HFIN⟩, rfl⟩
              case measure => simp [intOf]; omega

        · have O9 := Lib.hid HG.out.o
          have HWW := Lib.hid (HW.out wr O9.out)
          have hEX : (∃ _ : m' ≤ j, True) ∨ (∃ _ : j < m' ∧ 60 ≤ j, True) := by
            rcases Nat.lt_or_ge j m' with h1 | h1
            · exact .inr ⟨⟨h1, by omega⟩, trivial⟩
            · exact .inl ⟨h1, trivial⟩
          rcases hEX with ⟨hx, -⟩ | ⟨⟨hx1, hx2⟩, -⟩
          · have hj1 : ¬ (j : Int) < (m' : Int) := by omega
            clear hgo
            go_wp2_with fail
            refine (HWW.out).mono ?_
            rintro e y4 ⟨rfl, hO4⟩
            go_wp2
            go_ret
            exact ⟨rfl, O9.out.trans hO4⟩
          · have hj1 : (j : Int) < (m' : Int) := by omega
            have hj2 : ¬ (j : Int) < 60 := by omega
            clear hgo
            go_wp2_with fail
            refine (HWW.out).mono ?_
            rintro e y4 ⟨rfl, hO4⟩
            go_wp2
            go_ret
            exact ⟨rfl, O9.out.trans hO4⟩
    · exfalso
      rcases hbad with h | ⟨z, hz, hn⟩
      · omega
      · exact hn (HZ.out z hz)
  · have HBAD := Lib.hid hbad
    have HW3 := Lib.hid (HW.out w3 O3.out)
    clear hbad
    go_wp2_with fail
    refine (HMY.out).mono ?_
    rintro e w4 ⟨rfl, hcm⟩
    rcases hcm with ⟨hm2, hz, rfl⟩ | ⟨-, rfl⟩
    · exfalso
      rcases HBAD.out with h | ⟨z, hz', hn⟩
      · omega
      · exact hn (hz z hz')
    · go_wp2_with fail
      refine (HW3.out).mono ?_
      rintro e w5 ⟨rfl, hO5⟩
      go_wp2
      go_ret
      exact ⟨rfl, O3.out.trans hO5⟩

end Go.Proofs.YtbidciakljpkiaaDoor
