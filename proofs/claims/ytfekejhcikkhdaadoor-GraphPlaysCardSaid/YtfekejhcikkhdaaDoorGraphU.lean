/- The law GraphUndoes: its walk. -/
import Derived.Test.YtfekejhcikkhdaaDoorGraphW
import Derived.Test.YtfekejhcikkhdaaDoorGraphM
set_option linter.unusedVariables false
set_option linter.unusedSimpArgs false
namespace Go.Proofs.YtfekejhcikkhdaaDoor
open Go.RowKit
attribute [local go_sem ↓] Go.wp_at_zero Go.wp_at_succ

attribute [-go_sem] Go.run_slice_l Go.run_slice_h Go.run_slice_any Go.run_slice_lh in
set_option maxHeartbeats 1000000 in
theorem few19_any (A : Option Addr) (n c : Nat) (l : List (Int × Int)) (w : World) (hr : Row w w.heap.size A (edgeC l)) (hl : l.length = n) (hnc : n ≤ c) (hc : c ≤ maxLen) :
    Calls Tryd.prog 8 #[.slice A n c] w fun e w' => ∃ v, e = .returned v ∧ w'.ownsRow w.heap.size 53 2 v (min n 60) (edgeC (l.take (min n 60))) ∧ Only [] w w' := by
  obtain ⟨i0, hi, hz0, hz1, hz2⟩ := info_parts info_edge
  unfold maxLen at hc
  have AP : ∀ j, j = min n 60 → Row (w.alloc (.cells #[] 53)) w.heap.size A (edgeC (l.take (min n 60))) ∧ (edgeC (l.take (min n 60))).length = j * 2 := by
    rintro j rfl
    refine ⟨?_, by rw [edgeC_len, List.length_take, hl, Nat.min_eq_left (Nat.min_le_left n 60)]⟩
    rw [edgeC_take]
    exact (hr.take (min n 60 * 2)).only ((Only.refl [] w).alloc _) (by simp)
  have HAP := Lib.hid AP
  clear hr AP
  by_cases hn : n ≤ 60
  · have hsl := fun W => slice_to A n c n (by omega) W
    have hmin : min n 60 = n := by omega
    rw [hmin] at HAP ⊢
    go_enter Tryd.func8, Tryd.ntmps8
    go_wp2_with (
      at_builtin
      refine wpList_append_row _ rfl (.tmp 3) (.tmp 8) 22 rfl w.heap.size 53 i0 _ 2 16 Tryd.underlying22 hi hz0 hz1 hz2 rfl (by omega) (.slice (some ⟨w.heap.size, 0, none⟩) 0 0) 0 [] (by rfl) (World.ownsRow_lit w #[] 0 (Nat.le_refl _) (by unfold maxLen; omega) rfl) w.heap.size A n c (edgeC (l.take n)) (by rfl) (HAP.out n rfl).2 (HAP.out n rfl).1 (one_edgeC _) (by unfold maxLen; omega) (by omega) (by rw [World.size_alloc]; omega) ?_
      intro v w1 hown hgrow hat)
    exact bodyPost_ret (v := v) (by simp [results, Tryd.results8, go_sem]) rfl ⟨v, rfl, by simpa using hown, ((Only.refl [] w).alloc _).step (Only.of_grown (S := [w.heap.size]) hgrow (fun g hg _ => by simp [Value.ownBlock] at hg; simp [hg])) (fun i hi hlt => by simp at hi; omega)⟩
  · have hsl : ∀ W, (Instr.slice 22 (.slice A n c) none (some (.int .i64 60)) none).run Tryd.prog W = .ok (.slice A 60 c) W := fun W => slice_to A n c 60 (by omega) W
    have hmin : min n 60 = 60 := by omega
    have hn' : (60 : Int) < n := by omega
    rw [hmin] at HAP ⊢
    go_enter Tryd.func8, Tryd.ntmps8
    go_wp2_with (
      at_builtin
      refine wpList_append_row _ rfl (.tmp 3) (.tmp 8) 22 rfl w.heap.size 53 i0 _ 2 16 Tryd.underlying22 hi hz0 hz1 hz2 rfl (by omega) (.slice (some ⟨w.heap.size, 0, none⟩) 0 0) 0 [] (by rfl) (World.ownsRow_lit w #[] 0 (Nat.le_refl _) (by unfold maxLen; omega) rfl) w.heap.size A 60 c (edgeC (l.take 60)) (by rfl) (HAP.out 60 rfl).2 (HAP.out 60 rfl).1 (one_edgeC _) (by unfold maxLen; omega) (by omega) (by rw [World.size_alloc]; omega) ?_
      intro v w1 hown hgrow hat)
    exact bodyPost_ret (v := v) (by simp [results, Tryd.results8, go_sem]) rfl ⟨v, rfl, by simpa using hown, ((Only.refl [] w).alloc _).step (Only.of_grown (S := [w.heap.size]) hgrow (fun g hg _ => by simp [Value.ownBlock] at hg; simp [hg])) (fun i hi hlt => by simp at hi; omega)⟩

def smallN (n : Int) : Int := if 30 < n ∧ n ≤ 500 then n % 31 else n
set_option maxHeartbeats 400000 in
theorem small19_any (n : Int) (w : World) : Calls Tryd.prog 7 #[.int .i64 n] w fun e w' => e = .returned (.int .i64 (smallN n)) ∧ w = w' := by
  by_cases h1 : 30 < n
  · by_cases h2 : n ≤ 500
    · have hs : smallN n = n % 31 := if_pos ⟨h1, h2⟩
      have hrem : n.tmod 31 = n % 31 := Int.tmod_eq_emod_of_nonneg (by omega)
      rw [hs]
      go_enter Tryd.func7, Tryd.ntmps7
      go_wp2
      go_ret
      exact ⟨rfl, rfl⟩
    · have hs : smallN n = n := if_neg (fun h => h2 h.2)
      rw [hs]
      go_enter Tryd.func7, Tryd.ntmps7
      go_wp2
      go_ret
      exact ⟨rfl, rfl⟩
  · have hs : smallN n = n := if_neg (fun h => h1 h.1)
    rw [hs]
    go_enter Tryd.func7, Tryd.ntmps7
    go_wp2
    go_ret
    exact ⟨rfl, rfl⟩

set_option maxHeartbeats 1000000 in
theorem sameEdges_eq (A A' : Option Addr) (n c d : Nat) (l : List (Int × Int)) (w : World) (B B' : Nat) (hA : Row w B A (edgeC l)) (hA' : Row w B' A' (edgeC l)) (hn : l.length = n) (hnm : n ≤ 9223372036854775807) :
    Calls Tryd.prog 27 #[.slice A n c, .slice A' n d] w fun e w' => e = .returned (.bool true) ∧ ∃ k, w.drewN k = w' := by
  have HA := Lib.hid hA
  have HA' := Lib.hid hA'
  have HN := Lib.hid hn
  clear hA hA' hn
  go_enter Tryd.func27, Tryd.ntmps27
  go_wp2_with fail
  go_loopw [5] (fun i wr => ∃ k q : Nat, i = .int .i64 k ∧ k ≤ n ∧ Hid (wr = w.drewN q)) (fun i _ => n - (intOf i).toNat)
  case atStart => exact ⟨0, 0, rfl, by omega, rfl⟩
  case round =>
    obtain ⟨k, q, rfl, hk, hw⟩ := hrel
    have hxl := HN.out
    by_cases hlt : k < n
    · obtain ⟨b, off, rfl, -, hbw, hc⟩ := HA.out.open_ (k := k * 2) (by rw [edgeC_len]; omega)
      obtain ⟨b', off', rfl, -, hbw', hc'⟩ := HA'.out.open_ (k := k * 2) (by rw [edgeC_len]; omega)
      obtain ⟨e, he⟩ : ∃ e, l[k]? = some e := ⟨_, List.getElem?_eq_getElem (by omega)⟩
      obtain ⟨x, y⟩ := e
      have hee := edgeC_get l k _ he
      have hc0 : wr.cell? ⟨b, off + k * 2, none⟩ = some (.int .i64 x) := by rw [hw.out]; exact hc _ _ hee.1
      have hc1 : wr.cell? ⟨b, off + k * 2 + 1, none⟩ = some (.int .i64 y) := by rw [hw.out, Nat.add_assoc]; exact hc _ _ hee.2
      have hc2 : wr.cell? ⟨b', off' + k * 2, none⟩ = some (.int .i64 x) := by rw [hw.out]; exact hc' _ _ hee.1
      have hc3 : wr.cell? ⟨b', off' + k * 2 + 1, none⟩ = some (.int .i64 y) := by rw [hw.out, Nat.add_assoc]; exact hc' _ _ hee.2
      have hk0 : (0 : Int) ≤ (k : Int) := Int.natCast_nonneg _
      have hk1 : (k : Int) < (n : Int) := by omega
      clear hc hc' hxl hee he
      go_wp2_with fail
      go_quiet (fail)
      go_wp2
      go_roundw
      case rel =>
        refine ⟨k + 1, q + nq, by go_num, by omega, ?_⟩
        show _ = _
        rw [hw.out, World.drewN_drewN]
      case measure => simp [intOf]; omega
    · have hge : n ≤ k := by omega
      clear hxl
      go_wp2
      go_ret
      exact ⟨rfl, q, hw.out.symm⟩

theorem row_up {w : World} {B : Nat} {A : Option Addr} {xs : List Value} (h : Row w B A xs) : Row w w.heap.size A xs := by
  rcases h with h | ⟨b, off, hA, hb, hs, hc⟩
  · exact .inl h
  · exact .inr ⟨b, off, hA, Nat.lt_of_lt_of_le hb hs, Nat.le_refl _, hc⟩

/-- Only the blocks of a graph that there are count. -/
theorem Gr.tight {w : World} {p n : Nat} {O I : List (List Nat)} {h : List (Int × Int)} {fp : List Nat} (g : Gr w p n O I h fp) : ∃ fp', Gr w p n O I h fp' ∧ ∀ b ∈ fp', b ∈ fp ∧ b < w.heap.size := by
  obtain ⟨A1, A2, A3, c1, c2, c3, po, qi, g⟩ := g
  have hlt : ∀ x ∈ po ++ qi, x < w.heap.size := fun x hx => by
    rcases List.mem_append.1 hx with hx | hx
    · obtain ⟨i, hi, rfl⟩ := List.mem_iff_getElem.1 hx
      have := (g.set1 i (by rw [← g.len1]; exact hi)).lt
      rwa [List.getD_eq_getElem?_getD, List.getElem?_eq_getElem hi] at this
    · obtain ⟨i, hi, rfl⟩ := List.mem_iff_getElem.1 hx
      have := (g.set2 i (by rw [← g.len2]; exact hi)).lt
      rwa [List.getD_eq_getElem?_getD, List.getElem?_eq_getElem hi] at this
  refine ⟨fp.filter fun b => decide (b < w.heap.size), ⟨A1, A2, A3, c1, c2, c3, po, qi, g.blk, g.row1, g.row2, g.row3, g.len1, g.len2, g.len3, g.len4, g.set1, g.set2, g.nodup, ?_, ?_, ?_, ?_, ?_, g.wf⟩, fun b hb => by simpa using hb⟩
  · simp [g.mp, g.blk.lt]
  · intro x hx; simp [g.m0 x hx, hlt x hx]
  · intro x hx; simp [g.m1 x hx, own_lt g.row1 hx]
  · intro x hx; simp [g.m2 x hx, own_lt g.row2 hx]
  · intro x hx; simp [g.m3 x hx, own_lt g.row3 hx]

set_option maxHeartbeats 8000000 in
theorem graphUndoes_walk (n : Int) (A : Option Addr) (m c : Nat) (l : List (Int × Int)) (A' : Option Addr) (m' c' : Nat) (l' : List (Int × Int)) (w : World)
    (hr : Row w w.heap.size A (edgeC l)) (hl : l.length = m) (hmc : m ≤ c) (hc : c ≤ maxLen) (hr' : Row w w.heap.size A' (edgeC l')) (hl' : l'.length = m') (hT : Tab w) (h00 : 0 < w.heap.size) :
    Calls Tryd.prog 5 #[.int .i64 n, .slice A m c, .slice A' m' c'] w fun e w' => e = .returned (.bool true) ∧ Only [] w w' := by
  have HWO := Lib.hid (fun w h1 h2 => works19_any w h1 h2)
  have HSM := Lib.hid (fun w => small19_any n w)
  have HFE := Lib.hid (fun w hr => few19_any A m c l w hr hl hmc hc)
  have HLL : (l.take (min m 60)).length = min m 60 := by rw [List.length_take, hl]; omega
  have HL' := Lib.hid hl'
  have HR := Lib.hid hr
  have HR' := Lib.hid hr'
  have HT := Lib.hid hT
  obtain ⟨M, hM⟩ : ∃ M, M = min m 60 := ⟨_, rfl⟩
  have hM60 : M ≤ 60 := by omega
  rw [← hM] at HLL
  simp only [← hM] at HFE
  obtain ⟨L, hL⟩ : ∃ L, L = l.take M := ⟨_, rfl⟩
  rw [← hL] at HLL
  simp only [← hL] at HFE
  have HLN := Lib.hid HLL
  obtain ⟨N, hN⟩ : ∃ N, N = smallN n := ⟨_, rfl⟩
  rw [← hN] at HSM
  have hN30 : N < 0 ∨ 500 < N ∨ (0 ≤ N ∧ N ≤ 30) := by rw [hN]; unfold smallN; split <;> omega
  have HN30 := Lib.hid hN30
  clear hL hM HLL hr hr' hT hl' hN hN30 hl hmc hc
  go_enter Tryd.func5, Tryd.ntmps5
  go_wp2_with fail
  refine (HWO.out _ HT.out h00).mono ?_
  rintro e w1 ⟨rfl, hO1⟩
  have hr1 : Row w1 w1.heap.size A (edgeC l) := row_up (HR.out.only hO1 (by simp))
  have HR1 := Lib.hid hr1
  clear hr1
  go_wp2_with fail
  refine (HSM.out _).mono ?_
  rintro e w2 ⟨rfl, rfl⟩
  go_wp2_with fail
  refine (HFE.out _ HR1.out).mono ?_
  rintro e w2 ⟨v, rfl, hv, hO2⟩
  obtain ⟨B, cb, rfl, hb1, hb2, -, hrow⟩ := own_row hv
  have HROW := Lib.hid hrow
  have O2 := hO1.trans hO2
  clear hv hrow
  by_cases hin : 0 ≤ N ∧ N ≤ 30
  · obtain ⟨k, rfl⟩ := Int.eq_ofNat_of_zero_le hin.1
    have hk : k ≤ 30 := by omega
    have HOF := Lib.hid (gof_any k B M cb L w2 (by omega) HROW.out HLN.out (by omega))
    clear hin
    go_wp2_with fail
    refine (HOF.out).mono ?_
    rintro e w3 ⟨hO3, hcase⟩
    rcases hcase with ⟨-, rfl⟩ | ⟨-, rfl, fp0, hG0, hF0⟩
    · go_wp2
      go_ret
      exact ⟨rfl, O2.trans hO3⟩
    · have O3 := O2.trans hO3
      obtain ⟨q, hq⟩ : ∃ q, q = w2.heap.size := ⟨_, rfl⟩
      rw [← hq] at hG0 hF0
      simp only [← hq]
      have hwq : w.heap.size ≤ q := by rw [hq]; exact O2.size
      have hlen := ofS_len k L
      rw [HLN.out] at hlen
      obtain ⟨S, hS⟩ : ∃ S, S = ofS k L := ⟨_, rfl⟩
      rw [← hS] at hG0 hlen
      obtain ⟨O, I, h⟩ := S
      simp only at hG0 hlen
      clear hS hq
      obtain ⟨fp1, hG1, hF1⟩ := hG0.tight
      have he := gedges_any q k O I h fp1 w3 hG1 (by omega) (by omega) (HT.out.only h00 O3 (by simp)) (by have := O3.size; omega)
      have hfit := hG1.fits
      have HFIT := Lib.hid hfit
      have HG1 := Lib.hid hG1
      have HF1 := Lib.hid (fun b (hb : b ∈ fp1) => (⟨hF0 b (hF1 b hb).1, (hF1 b hb).2⟩ : q ≤ b ∧ b < w3.heap.size))
      have HE := Lib.hid he
      have HEL := Lib.hid (edgesTo_len O k)
      obtain ⟨E, hE⟩ : ∃ E, E = edgesTo O k := ⟨_, rfl⟩
      rw [← hE] at HE HEL
      have HEE := Lib.hid hE
      clear he hG1 hG0 hF0 hF1 hfit hE
      go_wp2_with fail
      refine (HE.out).mono ?_
      rintro e w4 ⟨v4, ⟨rfl, hv4⟩, hO4⟩
      obtain ⟨B4, c4, rfl, hb41, hb42, -, -⟩ := own_row hv4
      have O4 := O3.trans hO4
      have hG4 := HG1.out.only hO4 (by simp)
      have HMK : Hid (Calls Tryd.prog 21 #[.pointer (some ⟨q, 0, none⟩)] w4 fun e w' => e = .returned (.int .i64 h.length) ∧ w4 = w') := by
        obtain ⟨A1, A2, A3, c1, c2, c3, po, qi, g⟩ := hG4
        exact gmark_yes q A3 h.length c3 w4 (g.blk.at_ 0) (g.blk.at_ 3)
      have hap : ∀ b ∈ (Value.slice B4 E.length c4).ownBlock.toList, w3.heap.size ≤ b ∧ b < w4.heap.size := fun b hb => hv4.lt b (by simpa using hb)
      have HAP := Lib.hid hap
      have HG4 := Lib.hid hG4
      have HV4 := Lib.hid (own_mono0 hv4)
      clear hv4 hG4 hap
      go_wp2_with fail
      refine (HMK.out).mono ?_
      rintro e w5 ⟨rfl, rfl⟩
      go_wp2_with fail
      go_loopw [11] (fun i wr => ∃ j : Nat, i = .int .i64 j ∧ j ≤ m' ∧ j ≤ 40 ∧ Only [] w wr ∧ Hid (wr.ownsRow 0 53 2 (.slice B4 E.length c4) E.length (edgeC E)) ∧ w4.heap.size ≤ wr.heap.size ∧
          Hid (∃ U J new fp, Gr wr q k U J (h ++ new) fp ∧ With k O U new ∧ New k O new ∧ new.length ≤ j ∧ (∀ b ∈ fp, w.heap.size ≤ b) ∧ ∀ b ∈ fp, b ∉ (Value.slice B4 E.length c4).ownBlock.toList)) (fun i _ => 40 - (intOf i).toNat)
      case atStart =>
        refine ⟨0, rfl, by omega, by omega, O4, HV4, Nat.le_refl _, Lib.hid ⟨O, I, [], fp1, by rw [List.append_nil]; exact HG4.out, with_nil k O, (fun e he => by cases he), by simp, fun b hb => Nat.le_trans hwq (HF1.out b hb).1, fun b hb hb2 => ?_⟩⟩
        have h1 := (HF1.out b hb).2
        have h2 := (HAP.out b hb2).1
        omega
      case round =>
        obtain ⟨j, rfl, hj, hj40, hO, HV, hsz, HJ⟩ := hrel
        obtain ⟨U, J, new, fp, hG, hW, hNW, hnl, hF, hAP⟩ := HJ.out
        have HG := Lib.hid hG
        have HW := Lib.hid hW
        have HNW := Lib.hid hNW
        have HF := Lib.hid hF
        have HAPJ := Lib.hid hAP
        clear HJ hG hW hNW hF hAP
        by_cases hgo : j < m' ∧ j < 40
        · obtain ⟨hg1, hg2⟩ := hgo
          obtain ⟨b, off, rfl, hbB, hbw, hcell⟩ := HR'.out.open_ (k := j * 2) (by rw [edgeC_len, HL'.out]; omega)
          obtain ⟨e, he⟩ : ∃ e, l'[j]? = some e := ⟨_, List.getElem?_eq_getElem (by rw [HL'.out]; exact hg1)⟩
          obtain ⟨x, y⟩ := e
          have hee := edgeC_get l' j _ he
          have hc1 : wr.cell? ⟨b, off + j * 2, none⟩ = some (.int .i64 x) := (hO.cell (p := ⟨b, off + j * 2, none⟩) hbw (by simp)).trans (hcell _ _ hee.1)
          have hc2 : wr.cell? ⟨b, off + j * 2 + 1, none⟩ = some (.int .i64 y) := by
            rw [Nat.add_assoc]
            exact (hO.cell (p := ⟨b, off + (j * 2 + 1), none⟩) hbw (by simp)).trans (hcell _ _ hee.2)
          have hbr : b < wr.heap.size := Nat.lt_of_lt_of_le hbw hO.size
          have hbfp : b ∉ fp := fun hm => by have := HF.out b hm; omega
          have hj0 : (0 : Int) ≤ (j : Int) := Int.natCast_nonneg _
          have hj1 : (j : Int) < (m' : Int) := by omega
          have hj2 : (j : Int) < 40 := by omega
          have HP := Lib.hid (gput_any q k U J (h ++ new) fp x y _ (HG.out.only (Only.refl [] wr).drew (by simp)) (by rw [List.length_append]; omega) (by omega))
          obtain ⟨pb, hpb⟩ : ∃ pb, pb = pB k U x y := ⟨_, rfl⟩
          obtain ⟨pe, hpe⟩ : ∃ pe, pe = pE k x y := ⟨_, rfl⟩
          rw [← hpb, ← hpe] at HP
          clear hcell he hee hpb hpe
          go_wp2_with fail
          refine wp_region_noPanic ?_
          refine wp_region_timed (F := [⟨[], [], fun w' => Only fp wr w'⟩]) (by kernel_rfl) (timed_holds ((Only.refl fp wr).drew) (timed_nil)) ?_
          refine timed_pure (i := 0) (v := ?_) rfl (by kernel_rfl) (by kernel_rfl) (by kernel_rfl) (fun _ _ _ h => h) (by kernel_rfl) (by kernel_rfl) ?_ ?_
          rotate_left
          · (intro w; go_simp; try with_reducible rfl)
          try simp only [Act.put, List.getElem_toArray, List.getElem_cons_zero, List.getElem_cons_succ, List.setIfInBounds_toArray, List.set_cons_zero, List.set_cons_succ]
          refine timed_pure (i := 1) (v := ?_) rfl (by kernel_rfl) (by kernel_rfl) (by kernel_rfl) (fun _ _ _ h => h) (by kernel_rfl) (by kernel_rfl) ?_ ?_
          rotate_left
          · (intro w; go_simp; try with_reducible rfl)
          try simp only [Act.put, List.getElem_toArray, List.getElem_cons_zero, List.getElem_cons_succ, List.setIfInBounds_toArray, List.set_cons_zero, List.set_cons_succ]
          refine timed_pure (i := 2) (v := ?_) rfl (by kernel_rfl) (by kernel_rfl) (by kernel_rfl) (fun _ _ _ h => h) (by kernel_rfl) (by kernel_rfl) ?_ ?_
          rotate_left
          · (intro w; go_simp; try with_reducible rfl)
          try simp only [Act.put, List.getElem_toArray, List.getElem_cons_zero, List.getElem_cons_succ, List.setIfInBounds_toArray, List.set_cons_zero, List.set_cons_succ]
          refine timed_pure (i := 3) (v := ?_) rfl (by kernel_rfl) (by kernel_rfl) (by kernel_rfl) (fun _ _ _ h => h) (by kernel_rfl) (by kernel_rfl) ?_ ?_
          rotate_left
          · (intro w; go_simp; try with_reducible rfl)
          try simp only [Act.put, List.getElem_toArray, List.getElem_cons_zero, List.getElem_cons_succ, List.setIfInBounds_toArray, List.set_cons_zero, List.set_cons_succ]
          refine timed_pure (i := 4) (v := ?_) rfl (by kernel_rfl) (by kernel_rfl) (by kernel_rfl) (fun _ _ _ h => h) (by kernel_rfl) (by kernel_rfl) ?_ ?_
          rotate_left
          · (intro w; go_simp; try with_reducible rfl)
          try simp only [Act.put, List.getElem_toArray, List.getElem_cons_zero, List.getElem_cons_succ, List.setIfInBounds_toArray, List.set_cons_zero, List.set_cons_succ]
          refine timed_read (i := 5) (v := ?_) 0 rfl (by kernel_rfl) (by kernel_rfl) (by kernel_rfl) (fun _ _ _ h => h) (by kernel_rfl) (by kernel_rfl) rfl (by kernel_rfl) ?_ ?_
          rotate_left
          · (intro wq hSw; (try dsimp only at hSw); have a1 := (hSw.cell (p := ⟨b, off + j * 2, none⟩) hbr hbfp).trans hc1; have a2 := (hSw.cell (p := ⟨b, off + j * 2 + 1, none⟩) hbr hbfp).trans hc2; clear hSw; go_simp; try with_reducible rfl)
          try simp only [Act.put, List.getElem_toArray, List.getElem_cons_zero, List.getElem_cons_succ, List.setIfInBounds_toArray, List.set_cons_zero, List.set_cons_succ]
          refine timed_pure (i := 6) (v := ?_) rfl (by kernel_rfl) (by kernel_rfl) (by kernel_rfl) (fun _ _ _ h => h) (by kernel_rfl) (by kernel_rfl) ?_ ?_
          rotate_left
          · (intro w; go_simp; try with_reducible rfl)
          try simp only [Act.put, List.getElem_toArray, List.getElem_cons_zero, List.getElem_cons_succ, List.setIfInBounds_toArray, List.set_cons_zero, List.set_cons_succ]
          refine timed_pure (i := 7) (v := ?_) rfl (by kernel_rfl) (by kernel_rfl) (by kernel_rfl) (fun _ _ _ h => h) (by kernel_rfl) (by kernel_rfl) ?_ ?_
          rotate_left
          · (intro w; go_simp; try with_reducible rfl)
          try simp only [Act.put, List.getElem_toArray, List.getElem_cons_zero, List.getElem_cons_succ, List.setIfInBounds_toArray, List.set_cons_zero, List.set_cons_succ]
          refine timed_pure (i := 8) (v := ?_) rfl (by kernel_rfl) (by kernel_rfl) (by kernel_rfl) (fun _ _ _ h => h) (by kernel_rfl) (by kernel_rfl) ?_ ?_
          rotate_left
          · (intro w; go_simp; try with_reducible rfl)
          try simp only [Act.put, List.getElem_toArray, List.getElem_cons_zero, List.getElem_cons_succ, List.setIfInBounds_toArray, List.set_cons_zero, List.set_cons_succ]
          refine timed_pure (i := 9) (v := ?_) rfl (by kernel_rfl) (by kernel_rfl) (by kernel_rfl) (fun _ _ _ h => h) (by kernel_rfl) (by kernel_rfl) ?_ ?_
          rotate_left
          · (intro w; go_simp; try with_reducible rfl)
          try simp only [Act.put, List.getElem_toArray, List.getElem_cons_zero, List.getElem_cons_succ, List.setIfInBounds_toArray, List.set_cons_zero, List.set_cons_succ]
          refine timed_read (i := 10) (v := ?_) 0 rfl (by kernel_rfl) (by kernel_rfl) (by kernel_rfl) (fun _ _ _ h => h) (by kernel_rfl) (by kernel_rfl) rfl (by kernel_rfl) ?_ ?_
          rotate_left
          · (intro wq hSw; (try dsimp only at hSw); have a1 := (hSw.cell (p := ⟨b, off + j * 2, none⟩) hbr hbfp).trans hc1; have a2 := (hSw.cell (p := ⟨b, off + j * 2 + 1, none⟩) hbr hbfp).trans hc2; clear hSw; go_simp; try with_reducible rfl)
          try simp only [Act.put, List.getElem_toArray, List.getElem_cons_zero, List.getElem_cons_succ, List.setIfInBounds_toArray, List.set_cons_zero, List.set_cons_succ]
          refine timed_step (i := 11) (by kernel_rfl) rfl (fun K hK => ?_)
          go_simp
          refine (HP.out).mono ?_
          rintro e w6 ⟨rfl, fp6, hG6, hO6, hF6⟩
          refine hK.out _ _ (timed_holds (((Only.refl fp wr).drew).trans hO6) (timed_nil)) ?_
          clear hK K
          try simp only [Act.put, List.getElem_toArray, List.getElem_cons_zero, List.getElem_cons_succ, List.setIfInBounds_toArray, List.set_cons_zero, List.set_cons_succ]
          refine timed_done (by kernel_rfl) ?_ _
          refine NoPanic.normal ?_
          go_wp2
          go_roundw
          case rel =>
            obtain ⟨l2, f1, f2, f3, f4⟩ := with_put k O U new (by omega) HG.out.fits HW.out HNW.out x y
            have hO2' : Only fp wr w6 := ((Only.refl fp wr).drew).trans hO6
            have hpl := pH_len k U (h ++ new) x y
            rw [f4 h] at hpl
            rw [f4 h] at hG6
            simp only [List.length_append] at hpl
            refine ⟨j + 1, by go_num, by omega, by omega, hO.step hO2' (fun i hi hl => by have := HF.out i hi; omega), Lib.hid (own_only HV.out hO2' (fun g hg hm => HAPJ.out g hm (by rw [hg]; simp))), Nat.le_trans hsz hO2'.size, Lib.hid ⟨_, _, l2, fp6, hG6, f2, f3, by omega, fun b hb => ?_, fun b hb hm => ?_⟩⟩
            · rcases hF6 b hb with hh | hh
              · exact HF.out b hh
              · exact Nat.le_trans hO.size hh
            · rcases hF6 b hb with hh | hh
              · exact HAPJ.out b hh hm
              · have h1 := (HAP.out b hm).2
                have h2 : wr.heap.size ≤ b := hh
                omega
          case measure => simp [intOf]; omega
        · have HUN := Lib.hid (gundo_ok q k U J (h ++ new) fp h.length wr HG.out (by rw [List.length_append]; omega) (by rw [List.length_append]; omega) (by omega))
          have hundo := undo_with k O U J h new (by omega) HFIT.out HG.out.fits HW.out HNW.out
          rw [List.take_left] at HUN
          have HTW := Lib.hid (HT.out.only h00 hO (by simp))
          have hw0 : 0 < wr.heap.size := Nat.lt_of_lt_of_le h00 hO.size
          have HUD := Lib.hid hundo
          clear hundo
          have hEX : (∃ _ : m' ≤ j, True) ∨ (∃ _ : j < m' ∧ 40 ≤ j, True) := by
            rcases Nat.lt_or_ge j m' with h1 | h1
            · exact .inr ⟨⟨h1, by omega⟩, trivial⟩
            · exact .inl ⟨h1, trivial⟩
          have fin : ∀ w6, Gr w6 q k (undoS U J (h ++ new) h.length).1 (undoS U J (h ++ new) h.length).2 h fp → Only fp wr w6 →
              Hid (Calls Tryd.prog 28 #[.pointer (some ⟨q, 0, none⟩)] w6 fun e w' => ∃ A5 c5, (e = .returned (.slice A5 E.length c5) ∧
                (Calls Tryd.prog 27 #[.slice A5 E.length c5, .slice B4 E.length c4] w' fun e w'' => e = .returned (.bool true) ∧ ∃ k, w'.drewN k = w'') ∧
                ∀ d, (Calls Tryd.prog 21 #[.pointer (some ⟨q, 0, none⟩)] (w'.drewN d) fun e w'' => e = .returned (.int .i64 h.length) ∧ (w'.drewN d) = w'')) ∧ Only [] w w') := fun w6 hG6 hO6 => by
            have O6 : Only [] w w6 := hO.step hO6 (fun i hi hl => by have := HF.out i hi; omega)
            have he := gedges_any q k _ _ h fp w6 hG6 (by omega) (by omega) (HT.out.only h00 O6 (by simp)) (by have := O6.size; omega)
            rw [HUD.out, ← HEE.out] at he
            have HV6 := own_only HV.out hO6 (fun g hg hm => HAPJ.out g hm (by rw [hg]; simp))
            refine he.mono ?_
            rintro e w7 ⟨v5, ⟨rfl, hv5⟩, hO7⟩
            have HV7 := own_only HV6 hO7 (fun _ _ => by simp)
            obtain ⟨A5, c5, rfl, -, -, -, hr5⟩ := own_row hv5
            obtain ⟨A4', c4', heq, -, -, -, hr4⟩ := own_row HV7
            simp only [Value.slice.injEq, true_and] at heq
            obtain ⟨rfl, rfl⟩ := heq
            have hG7 := hG6.only hO7 (by simp)
            refine ⟨A5, c5, ⟨rfl, sameEdges_eq A5 B4 E.length c5 c4 E w7 _ _ hr5 hr4 rfl (by have := HEL.out; omega), fun d => ?_⟩, O6.trans hO7⟩
            obtain ⟨A1, A2, A3, c1, c2, c3, po, qi, g⟩ := hG7
            exact gmark_yes q A3 h.length c3 (w7.drewN d) (g.blk.at_ 0) (g.blk.at_ 3)
          have FIN := Lib.hid fin
          clear fin
          rcases hEX with ⟨hx, -⟩ | ⟨⟨hx1, hx2⟩, -⟩
          · have hj1 : ¬ (j : Int) < (m' : Int) := by omega
            clear hgo
            go_wp2_with fail
            refine (HUN.out).mono ?_
            rintro e w6 ⟨rfl, hG6, hO6⟩
            have F6 := FIN.out w6 hG6 hO6
            clear hG6
            go_wp2_with fail
            refine (F6.out).mono ?_
            rintro e w7 ⟨A5, c5, ⟨rfl, hse, hmk⟩, hO7⟩
            have HSE := Lib.hid hse
            have HMK2 := Lib.hid hmk
            clear hse hmk
            go_wp2_with fail
            refine (HSE.out).mono ?_
            rintro e w8 ⟨rfl, d, rfl⟩
            go_wp2_with fail
            refine (HMK2.out d).mono ?_
            rintro e w9 ⟨rfl, rfl⟩
            go_wp2
            go_ret
            exact ⟨rfl, hO7.drewN d⟩
          · have hj1 : (j : Int) < (m' : Int) := by omega
            have hj2 : ¬ (j : Int) < 40 := by omega
            clear hgo
            go_wp2_with fail
            refine (HUN.out).mono ?_
            rintro e w6 ⟨rfl, hG6, hO6⟩
            have F6 := FIN.out w6 hG6 hO6
            clear hG6
            go_wp2_with fail
            refine (F6.out).mono ?_
            rintro e w7 ⟨A5, c5, ⟨rfl, hse, hmk⟩, hO7⟩
            have HSE := Lib.hid hse
            have HMK2 := Lib.hid hmk
            clear hse hmk
            go_wp2_with fail
            refine (HSE.out).mono ?_
            rintro e w8 ⟨rfl, d, rfl⟩
            go_wp2_with fail
            refine (HMK2.out d).mono ?_
            rintro e w9 ⟨rfl, rfl⟩
            go_wp2
            go_ret
            exact ⟨rfl, hO7.drewN d⟩
  · have ho : N < 0 ∨ 500 < N := by
      rcases HN30.out with h | h | h
      · exact .inl h
      · exact .inr h
      · exact absurd h hin
    have HNO := Lib.hid (gof_no N B M cb w2 ho)
    clear hin ho
    go_wp2_with fail
    refine (HNO.out).mono ?_
    rintro e w3 ⟨rfl, rfl⟩
    go_wp2
    go_ret
    exact ⟨rfl, O2⟩

end Go.Proofs.YtfekejhcikkhdaaDoor
