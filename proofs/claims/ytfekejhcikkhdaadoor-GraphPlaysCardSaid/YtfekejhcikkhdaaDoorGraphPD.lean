/- The law GraphPlays: its walk. -/
import Derived.Test.YtfekejhcikkhdaaDoorGraphPC
import Derived.Deep.CutBlock
import Derived.Deep.DeepCutAuto
set_option linter.unusedVariables false
set_option linter.unusedSimpArgs false
namespace Go.Proofs.YtfekejhcikkhdaaDoor
open Go.RowKit
attribute [local go_sem ↓] Go.wp_at_zero Go.wp_at_succ

set_option maxRecDepth 100000 in
set_option maxHeartbeats 16000000 in
theorem graphPlays_walk (n0 : Int) (A : Option Addr) (m c : Nat) (l : List (Int × Int)) (A' : Option Addr) (m' c' : Nat) (zs : List Int) (w : World)
    (hr : Row w w.heap.size A (edgeC l)) (hl : l.length = m) (hmc : m ≤ c) (hc : c ≤ maxLen) (hr' : Row w w.heap.size A' (zs.map (Value.int .i64))) (hl' : zs.length = m' * 3) (hT : Tab w) (h00 : 0 < w.heap.size) :
    Calls Tryd.prog 3 #[.int .i64 n0, .slice A m c, .slice A' m' c'] w fun e w' => e = .returned (.bool true) ∧ Only [] w w' := by
  have HWO := Lib.hid (fun w h1 h2 => works19_any w h1 h2)
  have HSM := Lib.hid (fun w => small19_any n0 w)
  have HFE := Lib.hid (fun w hr => few19_any A m c l w hr hl hmc hc)
  have HLL : (l.take (min m 60)).length = min m 60 := by rw [List.length_take, hl]; omega
  have HL' := Lib.hid hl'
  have HR := Lib.hid hr
  have HR' := Lib.hid hr'
  have HT := Lib.hid hT
  obtain ⟨M, hM⟩ : ∃ M, M = min m 60 := ⟨_, rfl⟩
  have hM60 : M ≤ 60 := by omega
  rw [← hM] at HLL
  simp only [← hM] at HFE
  obtain ⟨L, hL⟩ : ∃ L, L = l.take M := ⟨_, rfl⟩
  rw [← hL] at HLL
  simp only [← hL] at HFE
  have HLN := Lib.hid HLL
  obtain ⟨N, hN⟩ : ∃ N, N = smallN n0 := ⟨_, rfl⟩
  rw [← hN] at HSM
  have hN30 : N < 0 ∨ 500 < N ∨ (0 ≤ N ∧ N ≤ 30) := by rw [hN]; unfold smallN; split <;> omega
  have HN30 := Lib.hid hN30
  have hm60 : min M 60 = M := by omega
  have htake : L.take M = L := List.take_of_length_le (by omega)
  have hf2 : ∀ (w : World) (B : Option Addr) (cb : Nat), Row w w.heap.size B (edgeC L) → M ≤ cb → cb ≤ maxLen →
      Calls Tryd.prog 8 #[.slice B M cb] w fun e w' => ∃ v, e = .returned v ∧ w'.ownsRow w.heap.size 53 2 v M (edgeC L) ∧ Only [] w w' := by
    intro w B cb hrow hb1 hb2
    have := few19_any B M cb L w hrow HLL hb1 hb2
    rw [hm60, htake] at this
    exact this
  have HF2 := Lib.hid hf2
  clear hf2
  clear hL hM HLL hr hr' hT hl' hN hN30 hl hmc hc hm60 htake
  go_enter Tryd.func3, Tryd.ntmps3
  go_wp2_with fail
  refine (HSM.out _).mono ?_
  rintro e w1 ⟨rfl, rfl⟩
  go_wp2_with fail
  refine (HFE.out _ HR.out).mono ?_
  rintro e w2 ⟨v, rfl, hv, O2⟩
  obtain ⟨B, cb, rfl, hb1, hb2, -, hrow⟩ := own_row hv
  have HROW := Lib.hid hrow
  clear hv hrow
  go_wp2_with fail
  refine (HF2.out _ B cb HROW.out hb1 hb2).mono ?_
  rintro e w3 ⟨v, rfl, hv, hO3⟩
  obtain ⟨B3, cb3, rfl, -, -, -, hrow3⟩ := own_row hv
  have HROW3 := Lib.hid hrow3
  have O3 := O2.trans hO3
  have hrow2 : Row w3 w3.heap.size B (edgeC L) := row_up (HROW.out.only hO3 (by simp))
  have HROW2 := Lib.hid hrow2
  clear hv hrow3 hrow2
  by_cases hin : 0 ≤ N ∧ N ≤ 30
  · obtain ⟨n, rfl⟩ := Int.eq_ofNat_of_zero_le hin.1
    have hn30 : n ≤ 30 := by omega
    have hn : n ≤ 500 := by omega
    have HOF := Lib.hid (gof_any n B3 M cb3 L w3 hn HROW3.out HLN.out (by omega))
    clear hin
    go_wp2_with fail
    refine (HOF.out).mono ?_
    rintro e w4 ⟨hO4, hcase⟩
    have O4 := O3.trans hO4
    have hrow4 : Row w4 w4.heap.size B (edgeC L) := row_up (HROW2.out.only hO4 (by simp))
    have hmay := rmay_in n B M cb L w4 hn hrow4 HLN.out (by omega)
    have HROW4 := Lib.hid hrow4
    clear hrow4
    rcases hcase with ⟨hbad, rfl⟩ | ⟨hgood, rfl, fp0, hG0, hF0⟩
    · rw [hbad] at hmay
      have HMAY := Lib.hid hmay
      clear hmay
      go_wp2_with fail
      refine (HMAY.out).mono ?_
      rintro e w5 ⟨rfl, rfl⟩
      go_wp2_with fail
      refine (HWO.out _ (HT.out.only h00 O4 (by simp)) (by have := O4.size; omega)).mono ?_
      rintro e w6 ⟨rfl, hO6⟩
      go_wp2
      go_ret
      exact ⟨rfl, O4.trans hO6⟩
    · rw [hgood] at hmay
      have HMAY := Lib.hid hmay
      have HRO := Lib.hid (rof_any n B M cb L w4 HROW4.out HLN.out (by omega))
      obtain ⟨hrel, hhs⟩ := rel_of hn L
      have hlen0 := rof_len n L []
      obtain ⟨q, hq⟩ : ∃ q, q = w3.heap.size := ⟨_, rfl⟩
      rw [← hq] at hG0 hF0
      simp only [← hq]
      have hwq : w.heap.size ≤ q := by rw [hq]; exact O3.size
      obtain ⟨fp1, hG1, hF1⟩ := hG0.tight
      rw [hhs] at hG1 hrel
      obtain ⟨h, hh⟩ : ∃ h, h = L.foldl (rH n) [] := ⟨_, rfl⟩
      rw [← hh] at hG1 hrel hlen0 HRO
      rw [HLN.out] at hlen0
      simp at hlen0
      have HG1 := Lib.hid (⟨hG1, hrel, fun b hb => ⟨hF0 b (hF1 b hb).1, (hF1 b hb).2⟩⟩ : Gr w4 q n (ofS n L).1 (ofS n L).2.1 h fp1 ∧ RelG n (ofS n L).1 (ofS n L).2.1 h ∧ ∀ b ∈ fp1, q ≤ b ∧ b < w4.heap.size)
      clear hmay hG0 hF0 hG1 hF1 hrel hhs hh hq
      go_wp2_with fail
      refine (HMAY.out).mono ?_
      rintro e w5 ⟨rfl, rfl⟩
      go_wp2_with fail
      refine (HRO.out).mono ?_
      rintro e w5 ⟨rfl, hO5, fq0, hR0, hFq⟩
      obtain ⟨r, hrr⟩ : ∃ r, r = w4.heap.size := ⟨_, rfl⟩
      rw [← hrr] at hR0 hFq
      simp only [← hrr]
      have GP0 : GP w w5 q r n h h [] := by
        obtain ⟨fq1, hR1, hFq1⟩ := hR0.tight
        obtain ⟨g1, g2, g3⟩ := HG1.out
        have hs5 := hO5.size
        have hs4 := O4.size
        refine ⟨⟨_, _, fp1, fq1, g1.only hO5 (by simp), g2, hR1, fun b hb hm => ?_, fun b hb => ⟨Nat.le_trans hwq (g3 b hb).1, Nat.lt_of_lt_of_le (g3 b hb).2 hs5⟩, fun b hb => ⟨?_, (hFq1 b hb).2⟩, fun b hb => by cases hb⟩, O4.trans hO5⟩
        · have h1 := (g3 b hb).2
          have h2 := hFq b (hFq1 b hm).1
          omega
        · have h2 := hFq b (hFq1 b hb).1
          omega
      have HLE := Lib.hid (gp_len GP0)
      have HGP := Lib.hid GP0
      clear hR0 hFq GP0 hrr
      go_wp2_with fail
      refine (HLE.out).mono ?_
      rintro e w6 ⟨rfl, rfl⟩
      go_wp2_with fail
      go_loopw [10] (fun i wr => ∃ (j : Nat) (h : List (Int × Int)), i = .int .i64 j ∧ j ≤ m' ∧ j ≤ 40 ∧ h.length ≤ 60 + j ∧ Hid (GP w wr q r n h h [])) (fun i _ => 40 - (intOf i).toNat)
      case atStart => exact ⟨0, h, rfl, by omega, by omega, by omega, HGP⟩
      case round =>
        clear hlen0 HG1 HRO HMAY HOF HROW HROW2 HROW3 HROW4 HLE HGP hO5 hO4 O4 O3 O2 hO3 HFE HF2 HSM
        obtain ⟨j, h, rfl, hj, hj40, hlenj, HG⟩ := hrel
        have hlen : h.length ≤ 1000 := by omega
        by_cases hgo : j < m' ∧ j < 40
        · obtain ⟨hg1, hg2⟩ := hgo
          have hO := HG.out.o
          obtain ⟨b, off, rfl, hbB, hbw, hcell⟩ := HR'.out.open_ (k := j * 3 + 2) (by rw [List.length_map, HL'.out]; omega)
          obtain ⟨z0, hz0⟩ : ∃ z, zs[j * 3]? = some z := ⟨_, List.getElem?_eq_getElem (by rw [HL'.out]; omega)⟩
          obtain ⟨z1, hz1⟩ : ∃ z, zs[j * 3 + 1]? = some z := ⟨_, List.getElem?_eq_getElem (by rw [HL'.out]; omega)⟩
          obtain ⟨z2, hz2⟩ : ∃ z, zs[j * 3 + 2]? = some z := ⟨_, List.getElem?_eq_getElem (by rw [HL'.out]; omega)⟩
          have hc0 : wr.cell? ⟨b, off + j * 3, none⟩ = some (.int .i64 z0) :=
            (hO.cell (p := ⟨b, off + j * 3, none⟩) hbw (by simp)).trans (hcell (j * 3) _ (by rw [List.getElem?_map, hz0]; rfl))
          have hc1 : wr.cell? ⟨b, off + j * 3 + 1, none⟩ = some (.int .i64 z1) := by
            have := (hO.cell (p := ⟨b, off + (j * 3 + 1), none⟩) hbw (by simp)).trans (hcell (j * 3 + 1) _ (by rw [List.getElem?_map, hz1]; rfl))
            rw [Nat.add_assoc]
            exact this
          have hc2 : wr.cell? ⟨b, off + j * 3 + 2, none⟩ = some (.int .i64 z2) := by
            have := (hO.cell (p := ⟨b, off + (j * 3 + 2), none⟩) hbw (by simp)).trans (hcell (j * 3 + 2) _ (by rw [List.getElem?_map, hz2]; rfl))
            rw [Nat.add_assoc]
            exact this
          have hj0 : (0 : Int) ≤ (j : Int) := Int.natCast_nonneg _
          have hj1 : (j : Int) < (m' : Int) := by omega
          have hj2 : (j : Int) < 40 := by omega
          clear hcell hz0 hz1 hz2 hO
          go_wp2_with fail
          refine (amongN z0 3 (by omega) (by omega) _).mono ?_
          rintro e wa' ⟨rfl, rfl⟩
          have hab := amN_bd z0 3 (by omega) (by omega)
          generalize amN z0 (3 : Nat) = rr at *
          have BA : Hid (Blk (wr.alloc (.cells #[.int .i64 z0, .int .i64 z1, .int .i64 z2] 36)) wr.heap.size 36 #[.int .i64 z0, .int .i64 z1, .int .i64 z2]) := Lib.hid (Blk.made _ _ _)
          have GA := Lib.hid (HG.out.fresh (.cells #[.int .i64 z0, .int .i64 z1, .int .i64 z2] 36))
          clear HG hc0 hc1 hc2
          generalize wr.alloc (.cells #[.int .i64 z0, .int .i64 z1, .int .i64 z2] 36) = wa at *
          generalize wr.heap.size = va at *
          have a1a : wa.cell? ⟨va, 1, none⟩ = some (.int .i64 z1) := BA.out.at_ 1
          have a2a : wa.cell? ⟨va, 2, none⟩ = some (.int .i64 z2) := BA.out.at_ 2
          have hva := BA.out.lt
          have hr3 : rr = 0 ∨ rr = 1 ∨ rr = 2 := by omega
          clear hab
          go_upto_block 2 with fail
          go_cut [12] (fun s wz => ∃ H : List (Int × Int), s = .bool true ∧ H.length ≤ h.length + 1 ∧ Hid (GP w wz q r n H H [va]) ∧ Hid (Blk wz va 36 #[.int .i64 z0, .int .i64 z1, .int .i64 z2]))
          case first =>
            rcases hr3 with rfl | rfl | rfl
            · have hpl := gp_put_l GA.out hn hlen z1 z2
              obtain ⟨bv, hbv⟩ : ∃ bv, bv = rB n h z1 z2 := ⟨_, rfl⟩
              obtain ⟨ev, hev⟩ : ∃ ev, ev = pE n z1 z2 := ⟨_, rfl⟩
              rw [← hbv, ← hev] at hpl
              have HPL := Lib.hid hpl
              clear hpl
              go_wp2_with fail
              refine (HPL.out).mono ?_
              rintro e y1 ⟨rfl, G1, K1⟩
              have BB1 : Hid (Blk y1 va 36 #[.int .i64 z0, .int .i64 z1, .int .i64 z2]) := Lib.hid ((K1 va (by simp)).trans BA.out)
              have b1 : y1.cell? ⟨va, 1, none⟩ = some (.int .i64 z1) := BB1.out.at_ 1
              have b2 : y1.cell? ⟨va, 2, none⟩ = some (.int .i64 z2) := BB1.out.at_ 2
              have hpr := gp_put_r G1 hlen z1 z2
              rw [← hbv, ← hev] at hpr
              have HPR := Lib.hid hpr
              have hHl := rH_len n h (z1, z2)
              obtain ⟨H, hH⟩ : ∃ H, H = rH n h (z1, z2) := ⟨_, rfl⟩
              rw [← hH] at HPR hHl
              clear hpr G1 hbv hev hH
              go_wp2_with fail
              refine (HPR.out).mono ?_
              rintro e wz ⟨rfl, G2, K2⟩
              have BZ : Hid (Blk wz va 36 #[.int .i64 z0, .int .i64 z1, .int .i64 z2]) := Lib.hid ((K2 va (by simp)).trans BB1.out)
              have GZ := Lib.hid G2
              clear G2 a1a a2a b1 b2
              go_wp2_with fail
              go_meet
              exact ⟨H, rfl, hHl, GZ, BZ⟩
            · go_wp2_with fail
              refine wp_region_noPanic ?_
              refine wp_region_timed (F := [⟨[], [], fun w' => Blk w' va 36 #[.int .i64 z0, .int .i64 z1, .int .i64 z2]⟩]) (by kernel_rfl) (timed_holds (BA.out.drew) (timed_nil)) ?_
              refine timed_pure (i := 0) (v := ?_) rfl (by kernel_rfl) (by kernel_rfl) (by kernel_rfl) (fun _ _ _ h => h) (by kernel_rfl) (by kernel_rfl) ?_ ?_
              rotate_left
              · (intro w; go_simp; try with_reducible rfl)
              try simp only [Act.put, List.getElem_toArray, List.getElem_cons_zero, List.getElem_cons_succ, List.setIfInBounds_toArray, List.set_cons_zero, List.set_cons_succ]
              refine timed_pure (i := 1) (v := ?_) rfl (by kernel_rfl) (by kernel_rfl) (by kernel_rfl) (fun _ _ _ h => h) (by kernel_rfl) (by kernel_rfl) ?_ ?_
              rotate_left
              · (intro w; go_simp; try with_reducible rfl)
              try simp only [Act.put, List.getElem_toArray, List.getElem_cons_zero, List.getElem_cons_succ, List.setIfInBounds_toArray, List.set_cons_zero, List.set_cons_succ]
              refine timed_read (i := 2) (v := ?_) 0 rfl (by kernel_rfl) (by kernel_rfl) (by kernel_rfl) (fun _ _ _ h => h) (by kernel_rfl) (by kernel_rfl) rfl (by kernel_rfl) ?_ ?_
              rotate_left
              · (intro wq hSw; (try dsimp only at hSw); have a1 := hSw.at_ 1; simp at a1; clear hSw; go_simp; try with_reducible rfl)
              try simp only [Act.put, List.getElem_toArray, List.getElem_cons_zero, List.getElem_cons_succ, List.setIfInBounds_toArray, List.set_cons_zero, List.set_cons_succ]
              refine timed_pure (i := 4) (v := ?_) rfl (by kernel_rfl) (by kernel_rfl) (by kernel_rfl) (fun _ _ _ h => h) (by kernel_rfl) (by kernel_rfl) ?_ ?_
              rotate_left
              · (intro w; go_simp; try with_reducible rfl)
              try simp only [Act.put, List.getElem_toArray, List.getElem_cons_zero, List.getElem_cons_succ, List.setIfInBounds_toArray, List.set_cons_zero, List.set_cons_succ]
              refine timed_pure (i := 5) (v := ?_) rfl (by kernel_rfl) (by kernel_rfl) (by kernel_rfl) (fun _ _ _ h => h) (by kernel_rfl) (by kernel_rfl) ?_ ?_
              rotate_left
              · (intro w; go_simp; try with_reducible rfl)
              try simp only [Act.put, List.getElem_toArray, List.getElem_cons_zero, List.getElem_cons_succ, List.setIfInBounds_toArray, List.set_cons_zero, List.set_cons_succ]
              refine timed_read (i := 6) (v := ?_) 0 rfl (by kernel_rfl) (by kernel_rfl) (by kernel_rfl) (fun _ _ _ h => h) (by kernel_rfl) (by kernel_rfl) rfl (by kernel_rfl) ?_ ?_
              rotate_left
              · (intro wq hSw; (try dsimp only at hSw); have a1 := hSw.at_ 1; simp at a1; clear hSw; go_simp; try with_reducible rfl)
              try simp only [Act.put, List.getElem_toArray, List.getElem_cons_zero, List.getElem_cons_succ, List.setIfInBounds_toArray, List.set_cons_zero, List.set_cons_succ]
              refine timed_step (i := 3) (by kernel_rfl) rfl (fun K hK => ?_)
              go_simp
              refine (gp_undo_l (GA.out.only ((Only.refl [] wa).drew)).1 hn hlen z1).mono ?_
              rintro e y1 ⟨rfl, G1, K1⟩
              have B1 : Blk y1 va 36 #[.int .i64 z0, .int .i64 z1, .int .i64 z2] := (K1 va (by simp)).trans BA.out
              refine hK.out _ _ (timed_holds (B1) (timed_nil)) ?_
              clear hK K
              try simp only [Act.put, List.getElem_toArray, List.getElem_cons_zero, List.getElem_cons_succ, List.setIfInBounds_toArray, List.set_cons_zero, List.set_cons_succ]
              refine timed_step (i := 7) (by kernel_rfl) rfl (fun K hK => ?_)
              go_simp
              refine (gp_undo_r G1 z1).mono ?_
              rintro e wz ⟨rfl, G2, K2⟩
              have B2 : Blk wz va 36 #[.int .i64 z0, .int .i64 z1, .int .i64 z2] := (K2 va (by simp)).trans B1
              refine hK.out _ _ (timed_holds (B2) (timed_nil)) ?_
              clear hK K
              try simp only [Act.put, List.getElem_toArray, List.getElem_cons_zero, List.getElem_cons_succ, List.setIfInBounds_toArray, List.set_cons_zero, List.set_cons_succ]
              refine timed_pure (i := 8) (v := ?_) rfl (by kernel_rfl) (by kernel_rfl) (by kernel_rfl) (fun _ _ _ h => h) (by kernel_rfl) (by kernel_rfl) ?_ ?_
              rotate_left
              · (intro w; go_simp; try with_reducible rfl)
              try simp only [Act.put, List.getElem_toArray, List.getElem_cons_zero, List.getElem_cons_succ, List.setIfInBounds_toArray, List.set_cons_zero, List.set_cons_succ]
              refine timed_pure (i := 9) (v := ?_) rfl (by kernel_rfl) (by kernel_rfl) (by kernel_rfl) (fun _ _ _ h => h) (by kernel_rfl) (by kernel_rfl) ?_ ?_
              rotate_left
              · (intro w; go_simp; try with_reducible rfl)
              try simp only [Act.put, List.getElem_toArray, List.getElem_cons_zero, List.getElem_cons_succ, List.setIfInBounds_toArray, List.set_cons_zero, List.set_cons_succ]
              refine timed_done (by kernel_rfl) ?_ _
              refine NoPanic.normal ?_
              have hHl : (uH h z1).length ≤ h.length + 1 := Nat.le_trans (uH_len h z1) (Nat.le_succ _)
              obtain ⟨H, hH⟩ : ∃ H, H = uH h z1 := ⟨_, rfl⟩
              rw [← hH] at G2 hHl
              have BZ := Lib.hid B2
              have GZ := Lib.hid G2
              clear G2 B2 B1 G1 hH a1a a2a
              go_wp2_with fail
              go_meet
              exact ⟨H, rfl, hHl, GZ, BZ⟩
            · obtain ⟨ARa, cRa, a3a⟩ := gp_ref GA.out
              have hra := World.block_lt_of_cell? wa _ a3a
              have ham := fun w => amongN z2 (h.length + 1) (by omega) (by omega) w
              have hcst : ((h.length + 1 : Nat) : Int) = (h.length : Int) + 1 := by omega
              rw [hcst] at ham
              obtain ⟨mm, hmm⟩ : ∃ mm, mm = amN z2 ((h.length : Int) + 1) := ⟨_, rfl⟩
              rw [← hmm] at ham
              have HAM := Lib.hid ham
              have hwr : IntKind.i64.wrap ((h.length : Int) + 1) = (h.length : Int) + 1 := IntWalk.i64_in _ (by omega)
              have hwr2 : wrap64 ((h.length : Int) + 1) = (h.length : Int) + 1 := by unfold wrap64; omega
              clear ham hmm hcst
              go_wp2_with fail
              refine wp_region_noPanic ?_
              refine wp_region_timed (F := [⟨[], [], fun w' => Only [] wa w'⟩]) (by kernel_rfl) (timed_holds ((Only.refl [] wa).drew) (timed_nil)) ?_
              refine timed_pure (i := 0) (v := ?_) rfl (by kernel_rfl) (by kernel_rfl) (by kernel_rfl) (fun _ _ _ h => h) (by kernel_rfl) (by kernel_rfl) ?_ ?_
              rotate_left
              · (intro w; go_simp; try with_reducible rfl)
              try simp only [Act.put, List.getElem_toArray, List.getElem_cons_zero, List.getElem_cons_succ, List.setIfInBounds_toArray, List.set_cons_zero, List.set_cons_succ]
              refine timed_read (i := 1) (v := ?_) 0 rfl (by kernel_rfl) (by kernel_rfl) (by kernel_rfl) (fun _ _ _ h => h) (by kernel_rfl) (by kernel_rfl) rfl (by kernel_rfl) ?_ ?_
              rotate_left
              · (intro wq hSw; (try dsimp only at hSw); have a2 := (hSw.cell (p := ⟨va, 2, none⟩) hva (by simp)).trans a2a; have a3 := (hSw.cell (p := ⟨r, 1, none⟩) hra (by simp)).trans a3a; clear hSw; go_simp; try with_reducible rfl)
              try simp only [Act.put, List.getElem_toArray, List.getElem_cons_zero, List.getElem_cons_succ, List.setIfInBounds_toArray, List.set_cons_zero, List.set_cons_succ]
              refine timed_pure (i := 2) (v := ?_) rfl (by kernel_rfl) (by kernel_rfl) (by kernel_rfl) (fun _ _ _ h => h) (by kernel_rfl) (by kernel_rfl) ?_ ?_
              rotate_left
              · (intro w; go_simp; try with_reducible rfl)
              try simp only [Act.put, List.getElem_toArray, List.getElem_cons_zero, List.getElem_cons_succ, List.setIfInBounds_toArray, List.set_cons_zero, List.set_cons_succ]
              refine timed_pure (i := 3) (v := ?_) rfl (by kernel_rfl) (by kernel_rfl) (by kernel_rfl) (fun _ _ _ h => h) (by kernel_rfl) (by kernel_rfl) ?_ ?_
              rotate_left
              · (intro w; go_simp; try with_reducible rfl)
              try simp only [Act.put, List.getElem_toArray, List.getElem_cons_zero, List.getElem_cons_succ, List.setIfInBounds_toArray, List.set_cons_zero, List.set_cons_succ]
              refine timed_pure (i := 4) (v := ?_) rfl (by kernel_rfl) (by kernel_rfl) (by kernel_rfl) (fun _ _ _ h => h) (by kernel_rfl) (by kernel_rfl) ?_ ?_
              rotate_left
              · (intro w; go_simp; try with_reducible rfl)
              try simp only [Act.put, List.getElem_toArray, List.getElem_cons_zero, List.getElem_cons_succ, List.setIfInBounds_toArray, List.set_cons_zero, List.set_cons_succ]
              refine timed_read (i := 5) (v := ?_) 0 rfl (by kernel_rfl) (by kernel_rfl) (by kernel_rfl) (fun _ _ _ h => h) (by kernel_rfl) (by kernel_rfl) rfl (by kernel_rfl) ?_ ?_
              rotate_left
              · (intro wq hSw; (try dsimp only at hSw); have a2 := (hSw.cell (p := ⟨va, 2, none⟩) hva (by simp)).trans a2a; have a3 := (hSw.cell (p := ⟨r, 1, none⟩) hra (by simp)).trans a3a; clear hSw; go_simp; try with_reducible rfl)
              try simp only [Act.put, List.getElem_toArray, List.getElem_cons_zero, List.getElem_cons_succ, List.setIfInBounds_toArray, List.set_cons_zero, List.set_cons_succ]
              refine timed_pure (i := 6) (v := ?_) rfl (by kernel_rfl) (by kernel_rfl) (by kernel_rfl) (fun _ _ _ h => h) (by kernel_rfl) (by kernel_rfl) ?_ ?_
              rotate_left
              · (intro w; go_simp; try with_reducible rfl)
              try simp only [Act.put, List.getElem_toArray, List.getElem_cons_zero, List.getElem_cons_succ, List.setIfInBounds_toArray, List.set_cons_zero, List.set_cons_succ]
              refine timed_pure (i := 7) (v := ?_) rfl (by kernel_rfl) (by kernel_rfl) (by kernel_rfl) (fun _ _ _ h => h) (by kernel_rfl) (by kernel_rfl) ?_ ?_
              rotate_left
              · (intro w; go_simp; try with_reducible rfl)
              try simp only [Act.put, List.getElem_toArray, List.getElem_cons_zero, List.getElem_cons_succ, List.setIfInBounds_toArray, List.set_cons_zero, List.set_cons_succ]
              refine timed_step (i := 8) (by kernel_rfl) rfl (fun K hK => ?_)
              go_simp
              refine (HAM.out _).mono ?_
              rintro e y1 ⟨rfl, rfl⟩
              refine hK.out _ _ (timed_holds ((Only.refl [] wa).drew) (timed_nil)) ?_
              clear hK K
              try simp only [Act.put, List.getElem_toArray, List.getElem_cons_zero, List.getElem_cons_succ, List.setIfInBounds_toArray, List.set_cons_zero, List.set_cons_succ]
              refine timed_pure (i := 9) (v := ?_) rfl (by kernel_rfl) (by kernel_rfl) (by kernel_rfl) (fun _ _ _ h => h) (by kernel_rfl) (by kernel_rfl) ?_ ?_
              rotate_left
              · (intro w; go_simp; try with_reducible rfl)
              try simp only [Act.put, List.getElem_toArray, List.getElem_cons_zero, List.getElem_cons_succ, List.setIfInBounds_toArray, List.set_cons_zero, List.set_cons_succ]
              refine timed_done (by kernel_rfl) ?_ _
              refine NoPanic.normal ?_
              have hul := gp_undo_l (GA.out.only ((Only.refl [] wa).drew)).1 hn hlen mm
              obtain ⟨ue, hue⟩ : ∃ ue, ue = uE h mm := ⟨_, rfl⟩
              rw [← hue] at hul
              have HUL := Lib.hid hul
              clear hul
              go_wp2_with fail
              refine (HUL.out).mono ?_
              rintro e y1 ⟨rfl, G1, K1⟩
              have BB1 : Hid (Blk y1 va 36 #[.int .i64 z0, .int .i64 z1, .int .i64 z2]) := Lib.hid ((K1 va (by simp)).trans BA.out.drew)
              have hur := gp_undo_r G1 mm
              rw [← hue] at hur
              have hHl : (uH h mm).length ≤ h.length + 1 := Nat.le_trans (uH_len h mm) (Nat.le_succ _)
              obtain ⟨H, hH⟩ : ∃ H, H = uH h mm := ⟨_, rfl⟩
              rw [← hH] at hur hHl
              have HUR := Lib.hid hur
              clear hur G1 hue hH
              go_wp2_with fail
              refine (HUR.out).mono ?_
              rintro e wz ⟨rfl, G2, K2⟩
              have BZ : Hid (Blk wz va 36 #[.int .i64 z0, .int .i64 z1, .int .i64 z2]) := Lib.hid ((K2 va (by simp)).trans BB1.out)
              have GZ := Lib.hid G2
              clear G2 a1a a2a a3a
              go_wp2_with fail
              go_meet
              exact ⟨H, rfl, hHl, GZ, BZ⟩
          case rest =>
            clear hr3 BA GA a1a a2a hva
            obtain ⟨wz, hwz⟩ : ∃ wz, wz = wc := ⟨_, rfl⟩
            subst hwz
            obtain ⟨H, rfl, hHl, GZ, BZ⟩ := hcut

            have LHH : H.length ≤ 1000 := by omega
            have hlw := GZ.out.o.size
            obtain ⟨AR, cR, a3z⟩ := gp_ref GZ.out
            have a1z : wz.cell? ⟨va, 1, none⟩ = some (.int .i64 z1) := BZ.out.at_ 1
            have a2z : wz.cell? ⟨va, 2, none⟩ = some (.int .i64 z2) := BZ.out.at_ 2
            have hvz := BZ.out.lt
            have hrz := World.block_lt_of_cell? wz _ a3z
            obtain ⟨bb, hbb⟩ : ∃ bb, bb = decide ((z1, z2) ∈ H) := ⟨_, rfl⟩
            have hhl := gp_has_l (GZ.out.only ((Only.refl [] wz).drew)).1 hn z1 z2
            have hhr := gp_has_r (GZ.out.only ((Only.refl [] wz).drew)).1 LHH z1 z2
            rw [← hbb] at hhl hhr
            have HHL := Lib.hid hhl
            have HHR := Lib.hid hhr
            have HMK := Lib.hid (gp_mark (GZ.out.only ((Only.refl [] wz).drew)).1)
            obtain ⟨NL, hNL⟩ : ∃ NL, NL = nextL n H z1 := ⟨_, rfl⟩
            obtain ⟨BL, hBL⟩ : ∃ BL, BL = backL n H z2 := ⟨_, rfl⟩
            have hNLl : NL.length ≤ 500 := by rw [hNL]; have := nextL_len n H z1; omega
            have hBLl : BL.length ≤ 500 := by rw [hBL]; have := backL_len n H z2; omega
            have hnl := fun W (hO : Only [] wz W) => gp_next_l (GZ.out.only hO).1 hn HT.out h00 z1
            have hnr := fun W (hO : Only [] wz W) => gp_next_r (GZ.out.only hO).1 hn LHH z1
            have hbl := fun W (hO : Only [] wz W) => gp_back_l (GZ.out.only hO).1 hn HT.out h00 z2
            have hbr := fun W (hO : Only [] wz W) => gp_back_r (GZ.out.only hO).1 hn LHH z2
            rw [← hNL] at hnl hnr
            rw [← hBL] at hbl hbr
            have HNL := Lib.hid hnl
            have HNR := Lib.hid hnr
            have HBL := Lib.hid hbl
            have HBR := Lib.hid hbr
            clear hhl hhr hbb hnl hnr hbl hbr hNL hBL
            go_wp2_with fail
            refine wp_region_noPanic ?_
            refine wp_region_timed (F := [⟨[], [], fun w' => Only [] wz w'⟩]) (by kernel_rfl) (timed_holds ((Only.refl [] wz).drew) (timed_nil)) ?_
            refine timed_pure (i := 0) (v := ?_) rfl (by kernel_rfl) (by kernel_rfl) (by kernel_rfl) (fun _ _ _ h => h) (by kernel_rfl) (by kernel_rfl) ?_ ?_
            rotate_left
            · (intro w; go_simp; try with_reducible rfl)
            try simp only [Act.put, List.getElem_toArray, List.getElem_cons_zero, List.getElem_cons_succ, List.setIfInBounds_toArray, List.set_cons_zero, List.set_cons_succ]
            refine timed_pure (i := 1) (v := ?_) rfl (by kernel_rfl) (by kernel_rfl) (by kernel_rfl) (fun _ _ _ h => h) (by kernel_rfl) (by kernel_rfl) ?_ ?_
            rotate_left
            · (intro w; go_simp; try with_reducible rfl)
            try simp only [Act.put, List.getElem_toArray, List.getElem_cons_zero, List.getElem_cons_succ, List.setIfInBounds_toArray, List.set_cons_zero, List.set_cons_succ]
            refine timed_pure (i := 2) (v := ?_) rfl (by kernel_rfl) (by kernel_rfl) (by kernel_rfl) (fun _ _ _ h => h) (by kernel_rfl) (by kernel_rfl) ?_ ?_
            rotate_left
            · (intro w; go_simp; try with_reducible rfl)
            try simp only [Act.put, List.getElem_toArray, List.getElem_cons_zero, List.getElem_cons_succ, List.setIfInBounds_toArray, List.set_cons_zero, List.set_cons_succ]
            refine timed_pure (i := 3) (v := ?_) rfl (by kernel_rfl) (by kernel_rfl) (by kernel_rfl) (fun _ _ _ h => h) (by kernel_rfl) (by kernel_rfl) ?_ ?_
            rotate_left
            · (intro w; go_simp; try with_reducible rfl)
            try simp only [Act.put, List.getElem_toArray, List.getElem_cons_zero, List.getElem_cons_succ, List.setIfInBounds_toArray, List.set_cons_zero, List.set_cons_succ]
            refine timed_pure (i := 4) (v := ?_) rfl (by kernel_rfl) (by kernel_rfl) (by kernel_rfl) (fun _ _ _ h => h) (by kernel_rfl) (by kernel_rfl) ?_ ?_
            rotate_left
            · (intro w; go_simp; try with_reducible rfl)
            try simp only [Act.put, List.getElem_toArray, List.getElem_cons_zero, List.getElem_cons_succ, List.setIfInBounds_toArray, List.set_cons_zero, List.set_cons_succ]
            refine timed_read (i := 5) (v := ?_) 0 rfl (by kernel_rfl) (by kernel_rfl) (by kernel_rfl) (fun _ _ _ h => h) (by kernel_rfl) (by kernel_rfl) rfl (by kernel_rfl) ?_ ?_
            rotate_left
            · (intro wq hSw; (try dsimp only at hSw); have a1 := (hSw.cell (p := ⟨va, 1, none⟩) hvz (by simp)).trans a1z; have a2 := (hSw.cell (p := ⟨va, 2, none⟩) hvz (by simp)).trans a2z; have a3 := (hSw.cell (p := ⟨r, 1, none⟩) hrz (by simp)).trans a3z; clear hSw; go_simp; try with_reducible rfl)
            try simp only [Act.put, List.getElem_toArray, List.getElem_cons_zero, List.getElem_cons_succ, List.setIfInBounds_toArray, List.set_cons_zero, List.set_cons_succ]
            refine timed_pure (i := 6) (v := ?_) rfl (by kernel_rfl) (by kernel_rfl) (by kernel_rfl) (fun _ _ _ h => h) (by kernel_rfl) (by kernel_rfl) ?_ ?_
            rotate_left
            · (intro w; go_simp; try with_reducible rfl)
            try simp only [Act.put, List.getElem_toArray, List.getElem_cons_zero, List.getElem_cons_succ, List.setIfInBounds_toArray, List.set_cons_zero, List.set_cons_succ]
            refine timed_read (i := 7) (v := ?_) 0 rfl (by kernel_rfl) (by kernel_rfl) (by kernel_rfl) (fun _ _ _ h => h) (by kernel_rfl) (by kernel_rfl) rfl (by kernel_rfl) ?_ ?_
            rotate_left
            · (intro wq hSw; (try dsimp only at hSw); have a1 := (hSw.cell (p := ⟨va, 1, none⟩) hvz (by simp)).trans a1z; have a2 := (hSw.cell (p := ⟨va, 2, none⟩) hvz (by simp)).trans a2z; have a3 := (hSw.cell (p := ⟨r, 1, none⟩) hrz (by simp)).trans a3z; clear hSw; go_simp; try with_reducible rfl)
            try simp only [Act.put, List.getElem_toArray, List.getElem_cons_zero, List.getElem_cons_succ, List.setIfInBounds_toArray, List.set_cons_zero, List.set_cons_succ]
            refine timed_pure (i := 9) (v := ?_) rfl (by kernel_rfl) (by kernel_rfl) (by kernel_rfl) (fun _ _ _ h => h) (by kernel_rfl) (by kernel_rfl) ?_ ?_
            rotate_left
            · (intro w; go_simp; try with_reducible rfl)
            try simp only [Act.put, List.getElem_toArray, List.getElem_cons_zero, List.getElem_cons_succ, List.setIfInBounds_toArray, List.set_cons_zero, List.set_cons_succ]
            refine timed_pure (i := 10) (v := ?_) rfl (by kernel_rfl) (by kernel_rfl) (by kernel_rfl) (fun _ _ _ h => h) (by kernel_rfl) (by kernel_rfl) ?_ ?_
            rotate_left
            · (intro w; go_simp; try with_reducible rfl)
            try simp only [Act.put, List.getElem_toArray, List.getElem_cons_zero, List.getElem_cons_succ, List.setIfInBounds_toArray, List.set_cons_zero, List.set_cons_succ]
            refine timed_read (i := 11) (v := ?_) 0 rfl (by kernel_rfl) (by kernel_rfl) (by kernel_rfl) (fun _ _ _ h => h) (by kernel_rfl) (by kernel_rfl) rfl (by kernel_rfl) ?_ ?_
            rotate_left
            · (intro wq hSw; (try dsimp only at hSw); have a1 := (hSw.cell (p := ⟨va, 1, none⟩) hvz (by simp)).trans a1z; have a2 := (hSw.cell (p := ⟨va, 2, none⟩) hvz (by simp)).trans a2z; have a3 := (hSw.cell (p := ⟨r, 1, none⟩) hrz (by simp)).trans a3z; clear hSw; go_simp; try with_reducible rfl)
            try simp only [Act.put, List.getElem_toArray, List.getElem_cons_zero, List.getElem_cons_succ, List.setIfInBounds_toArray, List.set_cons_zero, List.set_cons_succ]
            refine timed_pure (i := 12) (v := ?_) rfl (by kernel_rfl) (by kernel_rfl) (by kernel_rfl) (fun _ _ _ h => h) (by kernel_rfl) (by kernel_rfl) ?_ ?_
            rotate_left
            · (intro w; go_simp; try with_reducible rfl)
            try simp only [Act.put, List.getElem_toArray, List.getElem_cons_zero, List.getElem_cons_succ, List.setIfInBounds_toArray, List.set_cons_zero, List.set_cons_succ]
            refine timed_read (i := 13) (v := ?_) 0 rfl (by kernel_rfl) (by kernel_rfl) (by kernel_rfl) (fun _ _ _ h => h) (by kernel_rfl) (by kernel_rfl) rfl (by kernel_rfl) ?_ ?_
            rotate_left
            · (intro wq hSw; (try dsimp only at hSw); have a1 := (hSw.cell (p := ⟨va, 1, none⟩) hvz (by simp)).trans a1z; have a2 := (hSw.cell (p := ⟨va, 2, none⟩) hvz (by simp)).trans a2z; have a3 := (hSw.cell (p := ⟨r, 1, none⟩) hrz (by simp)).trans a3z; clear hSw; go_simp; try with_reducible rfl)
            try simp only [Act.put, List.getElem_toArray, List.getElem_cons_zero, List.getElem_cons_succ, List.setIfInBounds_toArray, List.set_cons_zero, List.set_cons_succ]
            refine timed_step (i := 8) (by kernel_rfl) rfl (fun K hK => ?_)
            go_simp
            refine (HHL.out).mono ?_
            rintro e w1 ⟨rfl, rfl⟩
            refine hK.out _ _ (timed_holds ((Only.refl [] wz).drew) (timed_nil)) ?_
            clear hK K
            try simp only [Act.put, List.getElem_toArray, List.getElem_cons_zero, List.getElem_cons_succ, List.setIfInBounds_toArray, List.set_cons_zero, List.set_cons_succ]
            refine timed_step (i := 14) (by kernel_rfl) rfl (fun K hK => ?_)
            go_simp
            refine (HHR.out).mono ?_
            rintro e w1 ⟨rfl, rfl⟩
            refine hK.out _ _ (timed_holds ((Only.refl [] wz).drew) (timed_nil)) ?_
            clear hK K
            try simp only [Act.put, List.getElem_toArray, List.getElem_cons_zero, List.getElem_cons_succ, List.setIfInBounds_toArray, List.set_cons_zero, List.set_cons_succ]
            refine timed_pure (i := 15) (v := ?_) rfl (by kernel_rfl) (by kernel_rfl) (by kernel_rfl) (fun _ _ _ h => h) (by kernel_rfl) (by kernel_rfl) ?_ ?_
            rotate_left
            · (intro w; go_simp; try with_reducible rfl)
            try simp only [Act.put, List.getElem_toArray, List.getElem_cons_zero, List.getElem_cons_succ, List.setIfInBounds_toArray, List.set_cons_zero, List.set_cons_succ]
            refine timed_pure (i := 16) (v := ?_) rfl (by kernel_rfl) (by kernel_rfl) (by kernel_rfl) (fun _ _ _ h => h) (by kernel_rfl) (by kernel_rfl) ?_ ?_
            rotate_left
            · (intro w; go_simp; try with_reducible rfl)
            try simp only [Act.put, List.getElem_toArray, List.getElem_cons_zero, List.getElem_cons_succ, List.setIfInBounds_toArray, List.set_cons_zero, List.set_cons_succ]
            refine timed_pure (i := 17) (v := ?_) rfl (by kernel_rfl) (by kernel_rfl) (by kernel_rfl) (fun _ _ _ h => h) (by kernel_rfl) (by kernel_rfl) ?_ ?_
            rotate_left
            · (intro w; go_simp; try with_reducible rfl)
            try simp only [Act.put, List.getElem_toArray, List.getElem_cons_zero, List.getElem_cons_succ, List.setIfInBounds_toArray, List.set_cons_zero, List.set_cons_succ]
            refine timed_pure (i := 18) (v := ?_) rfl (by kernel_rfl) (by kernel_rfl) (by kernel_rfl) (fun _ _ _ h => h) (by kernel_rfl) (by kernel_rfl) ?_ ?_
            rotate_left
            · (intro w; go_simp; try with_reducible rfl)
            try simp only [Act.put, List.getElem_toArray, List.getElem_cons_zero, List.getElem_cons_succ, List.setIfInBounds_toArray, List.set_cons_zero, List.set_cons_succ]
            refine timed_pure (i := 20) (v := ?_) rfl (by kernel_rfl) (by kernel_rfl) (by kernel_rfl) (fun _ _ _ h => h) (by kernel_rfl) (by kernel_rfl) ?_ ?_
            rotate_left
            · (intro w; go_simp; try with_reducible rfl)
            try simp only [Act.put, List.getElem_toArray, List.getElem_cons_zero, List.getElem_cons_succ, List.setIfInBounds_toArray, List.set_cons_zero, List.set_cons_succ]
            refine timed_pure (i := 21) (v := ?_) rfl (by kernel_rfl) (by kernel_rfl) (by kernel_rfl) (fun _ _ _ h => h) (by kernel_rfl) (by kernel_rfl) ?_ ?_
            rotate_left
            · (intro w; go_simp; try with_reducible rfl)
            try simp only [Act.put, List.getElem_toArray, List.getElem_cons_zero, List.getElem_cons_succ, List.setIfInBounds_toArray, List.set_cons_zero, List.set_cons_succ]
            refine timed_pure (i := 22) (v := ?_) rfl (by kernel_rfl) (by kernel_rfl) (by kernel_rfl) (fun _ _ _ h => h) (by kernel_rfl) (by kernel_rfl) ?_ ?_
            rotate_left
            · (intro w; go_simp; try with_reducible rfl)
            try simp only [Act.put, List.getElem_toArray, List.getElem_cons_zero, List.getElem_cons_succ, List.setIfInBounds_toArray, List.set_cons_zero, List.set_cons_succ]
            refine timed_read (i := 23) (v := ?_) 0 rfl (by kernel_rfl) (by kernel_rfl) (by kernel_rfl) (fun _ _ _ h => h) (by kernel_rfl) (by kernel_rfl) rfl (by kernel_rfl) ?_ ?_
            rotate_left
            · (intro wq hSw; (try dsimp only at hSw); have a1 := (hSw.cell (p := ⟨va, 1, none⟩) hvz (by simp)).trans a1z; have a2 := (hSw.cell (p := ⟨va, 2, none⟩) hvz (by simp)).trans a2z; have a3 := (hSw.cell (p := ⟨r, 1, none⟩) hrz (by simp)).trans a3z; clear hSw; go_simp; try with_reducible rfl)
            try simp only [Act.put, List.getElem_toArray, List.getElem_cons_zero, List.getElem_cons_succ, List.setIfInBounds_toArray, List.set_cons_zero, List.set_cons_succ]
            refine timed_pure (i := 24) (v := ?_) rfl (by kernel_rfl) (by kernel_rfl) (by kernel_rfl) (fun _ _ _ h => h) (by kernel_rfl) (by kernel_rfl) ?_ ?_
            rotate_left
            · (intro w; go_simp; try with_reducible rfl)
            try simp only [Act.put, List.getElem_toArray, List.getElem_cons_zero, List.getElem_cons_succ, List.setIfInBounds_toArray, List.set_cons_zero, List.set_cons_succ]
            refine timed_step (i := 19) (by kernel_rfl) rfl (fun K hK => ?_)
            go_simp
            refine (HMK.out).mono ?_
            rintro e w1 ⟨rfl, rfl⟩
            refine hK.out _ _ (timed_holds ((Only.refl [] wz).drew) (timed_nil)) ?_
            clear hK K
            try simp only [Act.put, List.getElem_toArray, List.getElem_cons_zero, List.getElem_cons_succ, List.setIfInBounds_toArray, List.set_cons_zero, List.set_cons_succ]
            refine timed_pure (i := 25) (v := ?_) rfl (by kernel_rfl) (by kernel_rfl) (by kernel_rfl) (fun _ _ _ h => h) (by kernel_rfl) (by kernel_rfl) ?_ ?_
            rotate_left
            · (intro w; go_simp; try with_reducible rfl)
            try simp only [Act.put, List.getElem_toArray, List.getElem_cons_zero, List.getElem_cons_succ, List.setIfInBounds_toArray, List.set_cons_zero, List.set_cons_succ]
            refine timed_pure (i := 26) (v := ?_) rfl (by kernel_rfl) (by kernel_rfl) (by kernel_rfl) (fun _ _ _ h => h) (by kernel_rfl) (by kernel_rfl) ?_ ?_
            rotate_left
            · (intro w; go_simp; try with_reducible rfl)
            try simp only [Act.put, List.getElem_toArray, List.getElem_cons_zero, List.getElem_cons_succ, List.setIfInBounds_toArray, List.set_cons_zero, List.set_cons_succ]
            refine timed_pure (i := 27) (v := ?_) rfl (by kernel_rfl) (by kernel_rfl) (by kernel_rfl) (fun _ _ _ h => h) (by kernel_rfl) (by kernel_rfl) ?_ ?_
            rotate_left
            · (intro w; go_simp; try with_reducible rfl)
            try simp only [Act.put, List.getElem_toArray, List.getElem_cons_zero, List.getElem_cons_succ, List.setIfInBounds_toArray, List.set_cons_zero, List.set_cons_succ]
            refine timed_pure (i := 28) (v := ?_) rfl (by kernel_rfl) (by kernel_rfl) (by kernel_rfl) (fun _ _ _ h => h) (by kernel_rfl) (by kernel_rfl) ?_ ?_
            rotate_left
            · (intro w; go_simp; try with_reducible rfl)
            try simp only [Act.put, List.getElem_toArray, List.getElem_cons_zero, List.getElem_cons_succ, List.setIfInBounds_toArray, List.set_cons_zero, List.set_cons_succ]
            refine timed_pure (i := 29) (v := ?_) rfl (by kernel_rfl) (by kernel_rfl) (by kernel_rfl) (fun _ _ _ h => h) (by kernel_rfl) (by kernel_rfl) ?_ ?_
            rotate_left
            · (intro w; go_simp; try with_reducible rfl)
            try simp only [Act.put, List.getElem_toArray, List.getElem_cons_zero, List.getElem_cons_succ, List.setIfInBounds_toArray, List.set_cons_zero, List.set_cons_succ]
            refine timed_read (i := 30) (v := ?_) 0 rfl (by kernel_rfl) (by kernel_rfl) (by kernel_rfl) (fun _ _ _ h => h) (by kernel_rfl) (by kernel_rfl) rfl (by kernel_rfl) ?_ ?_
            rotate_left
            · (intro wq hSw; (try dsimp only at hSw); have a1 := (hSw.cell (p := ⟨va, 1, none⟩) hvz (by simp)).trans a1z; have a2 := (hSw.cell (p := ⟨va, 2, none⟩) hvz (by simp)).trans a2z; have a3 := (hSw.cell (p := ⟨r, 1, none⟩) hrz (by simp)).trans a3z; clear hSw; go_simp; try with_reducible rfl)
            try simp only [Act.put, List.getElem_toArray, List.getElem_cons_zero, List.getElem_cons_succ, List.setIfInBounds_toArray, List.set_cons_zero, List.set_cons_succ]
            refine timed_pure (i := 32) (v := ?_) rfl (by kernel_rfl) (by kernel_rfl) (by kernel_rfl) (fun _ _ _ h => h) (by kernel_rfl) (by kernel_rfl) ?_ ?_
            rotate_left
            · (intro w; go_simp; try with_reducible rfl)
            try simp only [Act.put, List.getElem_toArray, List.getElem_cons_zero, List.getElem_cons_succ, List.setIfInBounds_toArray, List.set_cons_zero, List.set_cons_succ]
            refine timed_pure (i := 33) (v := ?_) rfl (by kernel_rfl) (by kernel_rfl) (by kernel_rfl) (fun _ _ _ h => h) (by kernel_rfl) (by kernel_rfl) ?_ ?_
            rotate_left
            · (intro w; go_simp; try with_reducible rfl)
            try simp only [Act.put, List.getElem_toArray, List.getElem_cons_zero, List.getElem_cons_succ, List.setIfInBounds_toArray, List.set_cons_zero, List.set_cons_succ]
            refine timed_read (i := 34) (v := ?_) 0 rfl (by kernel_rfl) (by kernel_rfl) (by kernel_rfl) (fun _ _ _ h => h) (by kernel_rfl) (by kernel_rfl) rfl (by kernel_rfl) ?_ ?_
            rotate_left
            · (intro wq hSw; (try dsimp only at hSw); have a1 := (hSw.cell (p := ⟨va, 1, none⟩) hvz (by simp)).trans a1z; have a2 := (hSw.cell (p := ⟨va, 2, none⟩) hvz (by simp)).trans a2z; have a3 := (hSw.cell (p := ⟨r, 1, none⟩) hrz (by simp)).trans a3z; clear hSw; go_simp; try with_reducible rfl)
            try simp only [Act.put, List.getElem_toArray, List.getElem_cons_zero, List.getElem_cons_succ, List.setIfInBounds_toArray, List.set_cons_zero, List.set_cons_succ]
            refine timed_step (i := 31) (by kernel_rfl) rfl (fun K hK => ?_)
            go_simp
            refine (HNL.out _ ((Only.refl [] wz).drew)).mono ?_
            rintro e y1 ⟨⟨X1, k1, rfl, R1⟩, Q1⟩
            refine hK.out _ _ (timed_holds (((Only.refl [] wz).drew).trans Q1) (timed_nil)) ?_
            clear hK K
            try simp only [Act.put, List.getElem_toArray, List.getElem_cons_zero, List.getElem_cons_succ, List.setIfInBounds_toArray, List.set_cons_zero, List.set_cons_succ]
            refine timed_step (i := 35) (by kernel_rfl) rfl (fun K hK => ?_)
            go_simp
            refine (HNR.out _ (((Only.refl [] wz).drew).trans Q1)).mono ?_
            rintro e y2 ⟨⟨X2, k2, rfl, R2⟩, Q2⟩
            refine hK.out _ _ (timed_holds ((((Only.refl [] wz).drew).trans Q1).trans Q2) (timed_nil)) ?_
            clear hK K
            try simp only [Act.put, List.getElem_toArray, List.getElem_cons_zero, List.getElem_cons_succ, List.setIfInBounds_toArray, List.set_cons_zero, List.set_cons_succ]
            refine timed_step (i := 36) (by kernel_rfl) rfl (fun K hK => ?_)
            go_simp
            refine (sameInts_same X1 X2 k1 k2 NL _ _ _ (R1.only Q2 (by simp)) R2 hNLl).mono ?_
            rintro e y3 ⟨rfl, d1, rfl⟩
            have Q3 : Only [] y2 (y2.drewN d1) := (Only.refl [] y2).drewN d1
            refine hK.out _ _ (timed_holds (((((Only.refl [] wz).drew).trans Q1).trans Q2).trans Q3) (timed_nil)) ?_
            clear hK K
            try simp only [Act.put, List.getElem_toArray, List.getElem_cons_zero, List.getElem_cons_succ, List.setIfInBounds_toArray, List.set_cons_zero, List.set_cons_succ]
            refine timed_pure (i := 37) (v := ?_) rfl (by kernel_rfl) (by kernel_rfl) (by kernel_rfl) (fun _ _ _ h => h) (by kernel_rfl) (by kernel_rfl) ?_ ?_
            rotate_left
            · (intro w; go_simp; try with_reducible rfl)
            try simp only [Act.put, List.getElem_toArray, List.getElem_cons_zero, List.getElem_cons_succ, List.setIfInBounds_toArray, List.set_cons_zero, List.set_cons_succ]
            refine timed_pure (i := 38) (v := ?_) rfl (by kernel_rfl) (by kernel_rfl) (by kernel_rfl) (fun _ _ _ h => h) (by kernel_rfl) (by kernel_rfl) ?_ ?_
            rotate_left
            · (intro w; go_simp; try with_reducible rfl)
            try simp only [Act.put, List.getElem_toArray, List.getElem_cons_zero, List.getElem_cons_succ, List.setIfInBounds_toArray, List.set_cons_zero, List.set_cons_succ]
            refine timed_pure (i := 39) (v := ?_) rfl (by kernel_rfl) (by kernel_rfl) (by kernel_rfl) (fun _ _ _ h => h) (by kernel_rfl) (by kernel_rfl) ?_ ?_
            rotate_left
            · (intro w; go_simp; try with_reducible rfl)
            try simp only [Act.put, List.getElem_toArray, List.getElem_cons_zero, List.getElem_cons_succ, List.setIfInBounds_toArray, List.set_cons_zero, List.set_cons_succ]
            refine timed_pure (i := 40) (v := ?_) rfl (by kernel_rfl) (by kernel_rfl) (by kernel_rfl) (fun _ _ _ h => h) (by kernel_rfl) (by kernel_rfl) ?_ ?_
            rotate_left
            · (intro w; go_simp; try with_reducible rfl)
            try simp only [Act.put, List.getElem_toArray, List.getElem_cons_zero, List.getElem_cons_succ, List.setIfInBounds_toArray, List.set_cons_zero, List.set_cons_succ]
            refine timed_pure (i := 41) (v := ?_) rfl (by kernel_rfl) (by kernel_rfl) (by kernel_rfl) (fun _ _ _ h => h) (by kernel_rfl) (by kernel_rfl) ?_ ?_
            rotate_left
            · (intro w; go_simp; try with_reducible rfl)
            try simp only [Act.put, List.getElem_toArray, List.getElem_cons_zero, List.getElem_cons_succ, List.setIfInBounds_toArray, List.set_cons_zero, List.set_cons_succ]
            refine timed_read (i := 42) (v := ?_) 0 rfl (by kernel_rfl) (by kernel_rfl) (by kernel_rfl) (fun _ _ _ h => h) (by kernel_rfl) (by kernel_rfl) rfl (by kernel_rfl) ?_ ?_
            rotate_left
            · (intro wq hSw; (try dsimp only at hSw); have a1 := (hSw.cell (p := ⟨va, 1, none⟩) hvz (by simp)).trans a1z; have a2 := (hSw.cell (p := ⟨va, 2, none⟩) hvz (by simp)).trans a2z; have a3 := (hSw.cell (p := ⟨r, 1, none⟩) hrz (by simp)).trans a3z; clear hSw; go_simp; try with_reducible rfl)
            try simp only [Act.put, List.getElem_toArray, List.getElem_cons_zero, List.getElem_cons_succ, List.setIfInBounds_toArray, List.set_cons_zero, List.set_cons_succ]
            refine timed_pure (i := 44) (v := ?_) rfl (by kernel_rfl) (by kernel_rfl) (by kernel_rfl) (fun _ _ _ h => h) (by kernel_rfl) (by kernel_rfl) ?_ ?_
            rotate_left
            · (intro w; go_simp; try with_reducible rfl)
            try simp only [Act.put, List.getElem_toArray, List.getElem_cons_zero, List.getElem_cons_succ, List.setIfInBounds_toArray, List.set_cons_zero, List.set_cons_succ]
            refine timed_pure (i := 45) (v := ?_) rfl (by kernel_rfl) (by kernel_rfl) (by kernel_rfl) (fun _ _ _ h => h) (by kernel_rfl) (by kernel_rfl) ?_ ?_
            rotate_left
            · (intro w; go_simp; try with_reducible rfl)
            try simp only [Act.put, List.getElem_toArray, List.getElem_cons_zero, List.getElem_cons_succ, List.setIfInBounds_toArray, List.set_cons_zero, List.set_cons_succ]
            refine timed_read (i := 46) (v := ?_) 0 rfl (by kernel_rfl) (by kernel_rfl) (by kernel_rfl) (fun _ _ _ h => h) (by kernel_rfl) (by kernel_rfl) rfl (by kernel_rfl) ?_ ?_
            rotate_left
            · (intro wq hSw; (try dsimp only at hSw); have a1 := (hSw.cell (p := ⟨va, 1, none⟩) hvz (by simp)).trans a1z; have a2 := (hSw.cell (p := ⟨va, 2, none⟩) hvz (by simp)).trans a2z; have a3 := (hSw.cell (p := ⟨r, 1, none⟩) hrz (by simp)).trans a3z; clear hSw; go_simp; try with_reducible rfl)
            try simp only [Act.put, List.getElem_toArray, List.getElem_cons_zero, List.getElem_cons_succ, List.setIfInBounds_toArray, List.set_cons_zero, List.set_cons_succ]
            refine timed_step (i := 43) (by kernel_rfl) rfl (fun K hK => ?_)
            go_simp
            refine (HBL.out _ (((((Only.refl [] wz).drew).trans Q1).trans Q2).trans Q3)).mono ?_
            rintro e y4 ⟨⟨X4, k4, rfl, R4⟩, Q4⟩
            refine hK.out _ _ (timed_holds ((((((Only.refl [] wz).drew).trans Q1).trans Q2).trans Q3).trans Q4) (timed_nil)) ?_
            clear hK K
            try simp only [Act.put, List.getElem_toArray, List.getElem_cons_zero, List.getElem_cons_succ, List.setIfInBounds_toArray, List.set_cons_zero, List.set_cons_succ]
            refine timed_step (i := 47) (by kernel_rfl) rfl (fun K hK => ?_)
            go_simp
            refine (HBR.out _ ((((((Only.refl [] wz).drew).trans Q1).trans Q2).trans Q3).trans Q4)).mono ?_
            rintro e y5 ⟨⟨X5, k5, rfl, R5⟩, Q5⟩
            refine hK.out _ _ (timed_holds (((((((Only.refl [] wz).drew).trans Q1).trans Q2).trans Q3).trans Q4).trans Q5) (timed_nil)) ?_
            clear hK K
            try simp only [Act.put, List.getElem_toArray, List.getElem_cons_zero, List.getElem_cons_succ, List.setIfInBounds_toArray, List.set_cons_zero, List.set_cons_succ]
            refine timed_step (i := 48) (by kernel_rfl) rfl (fun K hK => ?_)
            go_simp
            refine (sameInts_same X4 X5 k4 k5 BL _ _ _ (R4.only Q5 (by simp)) R5 hBLl).mono ?_
            rintro e y6 ⟨rfl, d2, rfl⟩
            have Q6 : Only [] y5 (y5.drewN d2) := (Only.refl [] y5).drewN d2
            refine hK.out _ _ (timed_holds ((((((((Only.refl [] wz).drew).trans Q1).trans Q2).trans Q3).trans Q4).trans Q5).trans Q6) (timed_nil)) ?_
            clear hK K
            try simp only [Act.put, List.getElem_toArray, List.getElem_cons_zero, List.getElem_cons_succ, List.setIfInBounds_toArray, List.set_cons_zero, List.set_cons_succ]
            refine timed_pure (i := 49) (v := ?_) rfl (by kernel_rfl) (by kernel_rfl) (by kernel_rfl) (fun _ _ _ h => h) (by kernel_rfl) (by kernel_rfl) ?_ ?_
            rotate_left
            · (intro w; go_simp; try with_reducible rfl)
            try simp only [Act.put, List.getElem_toArray, List.getElem_cons_zero, List.getElem_cons_succ, List.setIfInBounds_toArray, List.set_cons_zero, List.set_cons_succ]
            refine timed_pure (i := 50) (v := ?_) rfl (by kernel_rfl) (by kernel_rfl) (by kernel_rfl) (fun _ _ _ h => h) (by kernel_rfl) (by kernel_rfl) ?_ ?_
            rotate_left
            · (intro w; go_simp; try with_reducible rfl)
            try simp only [Act.put, List.getElem_toArray, List.getElem_cons_zero, List.getElem_cons_succ, List.setIfInBounds_toArray, List.set_cons_zero, List.set_cons_succ]
            refine timed_done (by kernel_rfl) ?_ _
            refine NoPanic.normal ?_
            go_wp2
            go_roundw
            case rel =>
              have HFIN := (GZ.out.only ((((((((Only.refl [] wz).drew).trans Q1).trans Q2).trans Q3).trans Q4).trans Q5).trans Q6)).1.drop
              first
              | exact ⟨j + 1, H, by go_num, by omega, by omega, by omega, Lib.hid HFIN⟩
              | exact ⟨⟨j + 1, H, by go_num, by omega, by omega, by omega, Lib.hid HFIN⟩, rfl⟩
              | exact ⟨_, ⟨j + 1, H, by go_num, by omega, by omega, by omega, Lib.hid HFIN⟩, rfl⟩
              | exact ⟨_, _, ⟨j + 1, H, by go_num, by omega, by omega, by omega, Lib.hid HFIN⟩, rfl⟩
              | exact ⟨_, _, _, ⟨j + 1, H, by go_num, by omega, by omega, by omega, Lib.hid HFIN⟩, rfl⟩
              | exact ⟨_, _, _, _, ⟨j + 1, H, by go_num, by omega, by omega, by omega, Lib.hid HFIN⟩, rfl⟩
              | exact ⟨_, _, _, _, _, ⟨j + 1, H, by go_num, by omega, by omega, by omega, Lib.hid HFIN⟩, rfl⟩
              | exact ⟨_, _, _, _, _, _, ⟨j + 1, H, by go_num, by omega, by omega, by omega, Lib.hid HFIN⟩, rfl⟩
              | exact ⟨_, _, _, _, _, _, _, ⟨j + 1, H, by go_num, by omega, by omega, by omega, Lib.hid HFIN⟩, rfl⟩
              | exact ⟨_, _, _, _, _, _, _, _, ⟨j + 1, H, by go_num, by omega, by omega, by omega, Lib.hid HFIN⟩, rfl⟩
              | (trace_state; fail)
            case measure => simp [intOf]; omega
        · have hel := gp_edges_l HG.out hn hlen HT.out h00
          have her := fun W (hO : Only [] wr W) => gp_edges_r (HG.out.only hO).1 hn hlen
          have hEl : (redgesTo n h n).length ≤ 250000 := Nat.le_trans (redgesTo_len n h n) (Nat.mul_le_mul hn hn)
          obtain ⟨E, hE⟩ : ∃ E, E = redgesTo n h n := ⟨_, rfl⟩
          rw [← hE] at hel her hEl
          have HEL := Lib.hid hel
          have HER := Lib.hid her
          clear hel her hE
          have hEX : (∃ _ : m' ≤ j, True) ∨ (∃ _ : j < m' ∧ 40 ≤ j, True) := by
            rcases Nat.lt_or_ge j m' with h1 | h1
            · exact .inr ⟨⟨h1, by omega⟩, trivial⟩
            · exact .inl ⟨h1, trivial⟩
          rcases hEX with ⟨hx, -⟩ | ⟨⟨hx1, hx2⟩, -⟩
          · have hj1 : ¬ (j : Int) < (m' : Int) := by omega
            clear hgo
            go_wp2_with fail
            refine (HEL.out).mono ?_
            rintro e y1 ⟨⟨X1, k1, rfl, R1⟩, Q1⟩
            go_wp2_with fail
            refine (HER.out _ Q1).mono ?_
            rintro e y2 ⟨⟨X2, k2, rfl, R2⟩, Q2⟩
            have O2 := (HG.out.o.trans Q1).trans Q2
            go_wp2_with fail
            refine (sameEdges_eq X1 X2 E.length k1 k2 E y2 _ _ (R1.only Q2 (by simp)) R2 rfl (by omega)).mono ?_
            rintro e y3 ⟨rfl, d, rfl⟩
            have O3 : Only [] w (y2.drewN d) := O2.drewN d
            go_wp2_with fail
            refine (HWO.out _ (HT.out.only h00 O3 (by simp)) (by have := O3.size; omega)).mono ?_
            rintro e y4 ⟨rfl, hO4⟩
            go_wp2
            go_ret
            exact ⟨rfl, O3.trans hO4⟩
          · have hj1 : (j : Int) < (m' : Int) := by omega
            have hj2 : ¬ (j : Int) < 40 := by omega
            clear hgo
            go_wp2_with fail
            refine (HEL.out).mono ?_
            rintro e y1 ⟨⟨X1, k1, rfl, R1⟩, Q1⟩
            go_wp2_with fail
            refine (HER.out _ Q1).mono ?_
            rintro e y2 ⟨⟨X2, k2, rfl, R2⟩, Q2⟩
            have O2 := (HG.out.o.trans Q1).trans Q2
            go_wp2_with fail
            refine (sameEdges_eq X1 X2 E.length k1 k2 E y2 _ _ (R1.only Q2 (by simp)) R2 rfl (by omega)).mono ?_
            rintro e y3 ⟨rfl, d, rfl⟩
            have O3 : Only [] w (y2.drewN d) := O2.drewN d
            go_wp2_with fail
            refine (HWO.out _ (HT.out.only h00 O3 (by simp)) (by have := O3.size; omega)).mono ?_
            rintro e y4 ⟨rfl, hO4⟩
            go_wp2
            go_ret
            exact ⟨rfl, O3.trans hO4⟩
  · have ho : N < 0 ∨ 500 < N := by
      rcases HN30.out with h | h | h
      · exact .inl h
      · exact .inr h
      · exact absurd h hin
    have HNO := Lib.hid (gof_no N B3 M cb3 w3 ho)
    have HMO := Lib.hid (rmay_out N B M cb w3 ho)
    clear hin ho
    go_wp2_with fail
    refine (HNO.out).mono ?_
    rintro e w4 ⟨rfl, rfl⟩
    go_wp2_with fail
    refine (HMO.out).mono ?_
    rintro e w4 ⟨rfl, rfl⟩
    go_wp2_with fail
    refine (HWO.out _ (HT.out.only h00 O3 (by simp)) (by have := O3.size; omega)).mono ?_
    rintro e w6 ⟨rfl, hO6⟩
    go_wp2
    go_ret
    exact ⟨rfl, O3.trans hO6⟩

end Go.Proofs.YtfekejhcikkhdaaDoor
