/- TrailUndoes: what was set behind a beginning is undone with it, however many levels are between. -/
import Derived.Test.YtggpbgbnefgebabTrailMany
import Derived.Test.YtggpbgbnefgebabSame
set_option linter.unusedVariables false
set_option linter.unusedSimpArgs false
namespace Go.Proofs.Ytggpbgbnefgebab
open Go.RowKit
attribute [local go_sem ↓] Go.wp_at_zero Go.wp_at_succ

set_option maxRecDepth 100000 in
set_option maxHeartbeats 4000000 in
theorem trailUndoes_walk (A : Option Addr) (n c : Nat) (zs : List Int) (dp : Int) (w : World) (hd0 : 0 ≤ dp) (hd1 : dp ≤ 255) (hnc : n ≤ c) (hc : c ≤ maxLen) (hz : zs.length = n * 3) (hr : Row w w.heap.size A (zs.map (Value.int .i64))) :
    Calls Try.prog 4 #[.slice A n c, .int .u8 dp] w fun e w' => e = .returned (.bool true) ∧ Only [] w w' := by
  unfold maxLen at hc
  have HR := Lib.hid hr
  have HZ := Lib.hid hz
  clear hr hz
  go_enter Try.func4, Try.ntmps4
  go_wp2_with fail
  refine (tnew_ok 5 _ (by omega)).mono ?_
  rintro e w1 ⟨rfl, T1, O1⟩
  go_wp2_with fail
  refine (tworks _).mono ?_
  rintro e w2 ⟨rfl, O2⟩
  have T2 := T1.only O2 (by simp)
  have O3 := O1.trans O2
  clear T1 O1 O2
  go_wp2_with fail
  go_loopw [7] (fun i wr => ∃ (k : Nat) (now : List Int), i = .int .i64 k ∧ k ≤ 5 ∧ Hid (now.length = 5) ∧ Tr wr (w.heap.size + 1) now [] [w.heap.size, w.heap.size + 1] ∧ Only [] w wr) (fun i _ => 5 - (intOf i).toNat)
  case atStart => exact ⟨0, _, rfl, by omega, by show _ = _; simp, T2, O3⟩
  case round =>
    obtain ⟨k, now, rfl, hk, hl, T, O⟩ := hrel
    by_cases hlt : k < 5
    · have TS := Lib.hid (fun (a b : Int) => tset_any (w.heap.size + 1) a b now [] _ wr T (by rw [hl.out]; omega))
      go_wp2_with fail
      refine (TS.out _ _).mono ?_
      rintro e w5 ⟨rfl, T5, O5⟩
      go_wp2
      go_roundw
      case rel => exact ⟨k + 1, _, by go_num, by omega, (by show _ = _; rw [stL_length]; exact hl.out), T5, O.step O5 (fun i hi hlt' => by simp at hi; omega)⟩
      case measure => simp [intOf]; omega
    · have hge : 5 ≤ k := by omega
      obtain ⟨wo, hwo⟩ : ∃ wo : World, wo = wr := ⟨_, rfl⟩
      subst hwo
      have hO := O
      clear T2 O3
      have hn5 : now.length ≤ 1000 := by rw [hl.out]; omega
      have TA := Lib.hid (tall_any _ _ _ _ _ T hn5)
      rw [hl.out] at TA
      clear hn5
      go_wp2_with fail
      refine (TA.out).mono ?_
      rintro e wa ⟨rfl, BW, OA⟩
      have TA1 := T.only OA (by simp)
      have TB := Lib.hid (tbegin_any _ _ _ _ _ TA1 (by rw [hl.out]; omega) (by simp))
      clear TA
      go_wp2_with fail
      refine (TB.out).mono ?_
      rintro e wb ⟨rfl, fpb, Tb, Ob, hfb⟩
      have hgw : wo.heap.size < wa.heap.size := BW.lt
      have hsr := O.size
      have hfp0 : ∀ b ∈ fpb, b ≠ wo.heap.size ∧ w.heap.size ≤ b := fun b hb => by
        rcases hfb b hb with h | h
        · have h1 := T.lies
          obtain ⟨gc, V, gs, hp, hcc, -⟩ := h1
          have := hp.lt
          simp at h
          omega
        · omega
      have BWb := Ob.blk BW (fun hm => by
        have h1 := T.lies
        obtain ⟨gc, V, gs, hp, hcc, -⟩ := h1
        have := hp.lt
        simp at hm
        omega)
      have OB : Only [] w wb := (O.trans OA).step Ob (fun i hi hl' => by simp at hi; omega)
      clear TB TA1 OA Ob T O hO
      go_wp2_with fail
      go_loopw [9, 10] (fun mn i wr => ∃ (j : Nat) (now' : List Int) (rest : List (List Int)) (fp : List Nat), i = .int .i64 j ∧ j ≤ 50 ∧ mn = .int .i64 ((rest.length : Int) + 1) ∧ rest.length ≤ j ∧ Hid (now'.length = 5) ∧ Tr wr (w.heap.size + 1) now' (now :: rest) fp ∧ Only [] w wr ∧ Blk wr wo.heap.size 3 (ints now) ∧ (∀ b ∈ fp, b ≠ wo.heap.size ∧ w.heap.size ≤ b))
        (fun _ i _ => 50 - (intOf i).toNat)
      case atStart => exact ⟨0, now, [], fpb, rfl, by omega, by rfl, by simp, hl, Tb, OB, BWb, hfp0⟩
      case round =>
        obtain ⟨j, now', rest, fp, rfl, hj, rfl, hrj, hl', T, O, BW', hf⟩ := hrel
        by_cases hgo : j < n ∧ j < 50
        · obtain ⟨hjn, hj50⟩ := hgo
          have hz' := HZ.out
          obtain ⟨b, off, rfl, hbB, hbw, hcell⟩ := HR.out.open_ (k := j * 3 + 2) (by rw [List.length_map, hz']; omega)
          obtain ⟨z1, hz1⟩ : ∃ z, zs[j * 3 + 1]? = some z := ⟨_, List.getElem?_eq_getElem (by omega)⟩
          obtain ⟨z2, hz2⟩ : ∃ z, zs[j * 3 + 2]? = some z := ⟨_, List.getElem?_eq_getElem (by omega)⟩
          have hc1 : wr.drew.cell? ⟨b, off + j * 3 + 1, none⟩ = some (.int .i64 z1) := by
            have := (O.cell (p := ⟨b, off + (j * 3 + 1), none⟩) hbw (by simp)).trans (hcell (j * 3 + 1) _ (by rw [List.getElem?_map, hz1]; rfl))
            rw [Nat.add_assoc]
            exact this
          have hc2 : wr.drew.cell? ⟨b, off + j * 3 + 2, none⟩ = some (.int .i64 z2) := by
            have := (O.cell (p := ⟨b, off + (j * 3 + 2), none⟩) hbw (by simp)).trans (hcell (j * 3 + 2) _ (by rw [List.getElem?_map, hz2]; rfl))
            rw [Nat.add_assoc]
            exact this
          have hj0 : (0 : Int) ≤ (j : Int) := Int.natCast_nonneg _
          have hj1 : (j : Int) < (n : Int) := by omega
          have hj2 : (j : Int) < 50 := by omega
          clear hcell hz1 hz2 hz'
          have TS := Lib.hid (tset_any (w.heap.size + 1) z1 z2 now' (now :: rest) fp _ (T.only (Only.refl [] wr).drew (by simp)) (by rw [hl'.out]; omega))
          go_wp2_with fail
          refine wp_region_noPanic ?_
          refine wp_region_timed (F := [⟨[], [11], fun w' => w'.cell? ⟨b, off + j * 3 + 1, none⟩ = some (.int .i64 z1)⟩, ⟨[], [11], fun w' => w'.cell? ⟨b, off + j * 3 + 2, none⟩ = some (.int .i64 z2)⟩]) (by kernel_rfl) (timed_holds (hc1) (timed_holds (hc2) (timed_nil))) ?_
          refine timed_pure (i := 0) (v := ?_) rfl (by kernel_rfl) (by kernel_rfl) (by kernel_rfl) (fun _ _ _ h => h) (by kernel_rfl) (by kernel_rfl) ?_ ?_
          rotate_left
          · (intro w; go_simp; try with_reducible rfl)
          try simp only [Act.put, List.setIfInBounds_toArray, List.set_cons_zero, List.set_cons_succ]
          refine timed_pure (i := 1) (v := ?_) rfl (by kernel_rfl) (by kernel_rfl) (by kernel_rfl) (fun _ _ _ h => h) (by kernel_rfl) (by kernel_rfl) ?_ ?_
          rotate_left
          · (intro w; go_simp; try with_reducible rfl)
          try simp only [Act.put, List.setIfInBounds_toArray, List.set_cons_zero, List.set_cons_succ]
          refine timed_pure (i := 2) (v := ?_) rfl (by kernel_rfl) (by kernel_rfl) (by kernel_rfl) (fun _ _ _ h => h) (by kernel_rfl) (by kernel_rfl) ?_ ?_
          rotate_left
          · (intro w; go_simp; try with_reducible rfl)
          try simp only [Act.put, List.setIfInBounds_toArray, List.set_cons_zero, List.set_cons_succ]
          refine timed_pure (i := 3) (v := ?_) rfl (by kernel_rfl) (by kernel_rfl) (by kernel_rfl) (fun _ _ _ h => h) (by kernel_rfl) (by kernel_rfl) ?_ ?_
          rotate_left
          · (intro w; go_simp; try with_reducible rfl)
          try simp only [Act.put, List.setIfInBounds_toArray, List.set_cons_zero, List.set_cons_succ]
          refine timed_pure (i := 4) (v := ?_) rfl (by kernel_rfl) (by kernel_rfl) (by kernel_rfl) (fun _ _ _ h => h) (by kernel_rfl) (by kernel_rfl) ?_ ?_
          rotate_left
          · (intro w; go_simp; try with_reducible rfl)
          try simp only [Act.put, List.setIfInBounds_toArray, List.set_cons_zero, List.set_cons_succ]
          refine timed_read (i := 5) (v := ?_) 0 rfl (by kernel_rfl) (by kernel_rfl) (by kernel_rfl) (fun _ _ _ h => h) (by kernel_rfl) (by kernel_rfl) rfl (by kernel_rfl) ?_ ?_
          rotate_left
          · (intro w hSw; (try dsimp only at hSw); go_simp; try with_reducible rfl)
          try simp only [Act.put, List.setIfInBounds_toArray, List.set_cons_zero, List.set_cons_succ]
          refine timed_pure (i := 6) (v := ?_) rfl (by kernel_rfl) (by kernel_rfl) (by kernel_rfl) (fun _ _ _ h => h) (by kernel_rfl) (by kernel_rfl) ?_ ?_
          rotate_left
          · (intro w; go_simp; try with_reducible rfl)
          try simp only [Act.put, List.setIfInBounds_toArray, List.set_cons_zero, List.set_cons_succ]
          refine timed_pure (i := 7) (v := ?_) rfl (by kernel_rfl) (by kernel_rfl) (by kernel_rfl) (fun _ _ _ h => h) (by kernel_rfl) (by kernel_rfl) ?_ ?_
          rotate_left
          · (intro w; go_simp; try with_reducible rfl)
          try simp only [Act.put, List.setIfInBounds_toArray, List.set_cons_zero, List.set_cons_succ]
          refine timed_pure (i := 8) (v := ?_) rfl (by kernel_rfl) (by kernel_rfl) (by kernel_rfl) (fun _ _ _ h => h) (by kernel_rfl) (by kernel_rfl) ?_ ?_
          rotate_left
          · (intro w; go_simp; try with_reducible rfl)
          try simp only [Act.put, List.setIfInBounds_toArray, List.set_cons_zero, List.set_cons_succ]
          refine timed_pure (i := 9) (v := ?_) rfl (by kernel_rfl) (by kernel_rfl) (by kernel_rfl) (fun _ _ _ h => h) (by kernel_rfl) (by kernel_rfl) ?_ ?_
          rotate_left
          · (intro w; go_simp; try with_reducible rfl)
          try simp only [Act.put, List.setIfInBounds_toArray, List.set_cons_zero, List.set_cons_succ]
          refine timed_read (i := 10) (v := ?_) 1 rfl (by kernel_rfl) (by kernel_rfl) (by kernel_rfl) (fun _ _ _ h => h) (by kernel_rfl) (by kernel_rfl) rfl (by kernel_rfl) ?_ ?_
          rotate_left
          · (intro w hSw; (try dsimp only at hSw); go_simp; try with_reducible rfl)
          try simp only [Act.put, List.setIfInBounds_toArray, List.set_cons_zero, List.set_cons_succ]
          refine timed_step (i := 11) (by kernel_rfl) rfl (fun K hK => ?_)
          go_simp
          refine (TS.out).mono ?_
          rintro e wt ⟨rfl, Tt, Ot⟩
          refine hK.out _ _ (timed_over (by kernel_rfl) (timed_over (by kernel_rfl) (timed_nil))) ?_
          clear hK K
          try simp only [Act.put, List.setIfInBounds_toArray, List.set_cons_zero, List.set_cons_succ]
          refine timed_done (by kernel_rfl) ?_ _
          refine NoPanic.normal ?_
          have hcl : (stL now' z1 z2).length = 5 := by rw [stL_length]; exact hl'.out
          have HCL := Lib.hid hcl
          have Ot' : Only [] w wt := O.drew.step Ot (fun i hi hl' => by have := hf i hi; omega)
          have BWt : Blk wt wo.heap.size 3 (ints now) := Ot.blk BW'.drew (fun hm => (hf _ hm).1 rfl)
          have hgt := BWt.lt
          have hbeg := Lib.hid (tbegin_any _ _ _ _ _ Tt (by rw [hcl]; omega) (by simp; omega))
          clear hcl
          generalize stL now' z1 z2 = cur at *
          have HRE := Lib.hid (rfl : rest.length = rest.length)
          go_wp2_with fail
          · refine (hbeg.out).mono ?_
            rintro e wu ⟨rfl, fpu, Tu, Ou, hfu⟩
            have Ou' : Only [] w wu := Ot'.step Ou (fun i hi hl' => by have := hf i hi; omega)
            have BWu : Blk wu wo.heap.size 3 (ints now) := Ou.blk BWt (fun hm => (hf _ hm).1 rfl)
            have hfu' : ∀ b ∈ fpu, b ≠ wo.heap.size ∧ w.heap.size ≤ b := fun b hb => by
              rcases hfu b hb with h | h
              · exact hf b h
              · have := Ot'.size; omega
            go_wp2_with fail
            · have Tu2 : Tr wu (w.heap.size + 1) cur ((now :: rest) ++ [cur]) fpu := Tu
              refine (tkeep_any _ cur (now :: rest) cur fpu _ Tu2).mono ?_
              rintro e wv ⟨rfl, Tv, Ov⟩
              have BWv : Blk wv wo.heap.size 3 (ints now) := Ov.blk BWu (fun hm => (hfu' _ hm).1 rfl)
              have Ov' : Only [] w wv := Ou'.step Ov (fun i hi hl' => by have := hfu' i hi; omega)
              go_wp2
              go_roundw
              case rel => exact ⟨j + 1, cur, rest, fpu, by go_num, by omega, by go_num, by omega, HCL.out, Tv, Ov', BWv, hfu'⟩
              case measure => simp [intOf]; omega
            all_goals
              go_roundw
              case rel => exact ⟨j + 1, cur, rest ++ [cur], fpu, by go_num, by omega, by rw [List.length_append, List.length_singleton]; go_num, by simp; omega, HCL.out, Tu, Ou', BWu, hfu'⟩
              case measure => simp [intOf]; omega
          · have hr1 : (1 : Int) < (rest.length : Int) + 1 := by assumption
            rcases List.eq_nil_or_concat rest with hre | ⟨L, x, hre⟩
            · exfalso
              rw [hre] at hr1
              simp at hr1
            · have HRE2 := Lib.hid hre
              have hLl : rest.length = L.length + 1 := by rw [hre]; simp
              have Tt2 : Tr wt (w.heap.size + 1) cur ((now :: L) ++ [x]) fp := by
                have := Tt
                rw [hre] at this
                simpa using this
              have HLL := Lib.hid hLl
              clear hre hLl
              refine (tkeep_any _ cur (now :: L) x fp _ Tt2).mono ?_
              rintro e wv ⟨rfl, Tv, Ov⟩
              have BWv : Blk wv wo.heap.size 3 (ints now) := Ov.blk BWt (fun hm => (hf _ hm).1 rfl)
              have Ov' : Only [] w wv := Ot'.step Ov (fun i hi hl' => by have := hf i hi; omega)
              go_wp2
              go_roundw
              case rel => exact ⟨j + 1, cur, L, fp, by go_num, by omega, by rw [HLL.out]; go_num, by have := HLL.out; omega, HCL.out, Tv, Ov', BWv, hf⟩
              case measure => simp [intOf]; omega
          all_goals
            go_roundw
            case rel => exact ⟨j + 1, cur, rest, fp, by go_num, by omega, by go_num, by omega, HCL.out, Tt, Ot', BWt, hf⟩
            case measure => simp [intOf]; omega
        · have hstop : n ≤ j ∨ 50 ≤ j := by omega
          have hmany : rest.length ≤ 50 := by omega
          obtain ⟨w5, hw5⟩ : ∃ w5 : World, w5 = wr := ⟨_, rfl⟩
          subst hw5
          have HEND : ∀ (G : Prop), (n ≤ j → G) → (j < n → 50 ≤ j → G) → G := fun G h1 h2 => by
            by_cases hlt' : j < n
            · exact h2 hlt' (by omega)
            · exact h1 (by omega)
          clear hgo hstop
          apply HEND
          all_goals
            intros
            clear HEND
            go_wp2_with fail
            go_loopw [11] (fun i wr => ∃ (q m : Nat) (cur : List Int), i = .int .i64 q ∧ q ≤ rest.length + 1 ∧ Hid (q + m = rest.length + 1) ∧ Hid (cur.length = 5) ∧ Hid (m = 0 → cur = now) ∧ Tr wr (w.heap.size + 1) cur ((now :: rest).take m) fp ∧ Only [] w wr ∧ Blk wr wo.heap.size 3 (ints now))
              (fun i _ => rest.length + 1 - (intOf i).toNat)
            case atStart => exact ⟨0, rest.length + 1, now', rfl, by omega, (by show _ = _; omega), hl', (fun h => by omega), (by rw [List.take_of_length_le (by simp)]; exact T), O, BW'⟩
            case round =>
              obtain ⟨q, m, cur, rfl, hq, hqm, hcl, hm0, T, O, BW'⟩ := hrel
              by_cases hlt' : q < rest.length + 1
              · have hm1 : 0 < m := by have := hqm.out; omega
                obtain ⟨m', hm'⟩ : ∃ m', m = m' + 1 := ⟨m - 1, by omega⟩
                obtain ⟨x, hx⟩ : ∃ x, (now :: rest)[m']? = some x := ⟨_, List.getElem?_eq_getElem (by simp; have := hqm.out; omega)⟩
                have HX := Lib.hid hx
                have HM := Lib.hid hm'
                have T' : Tr wr (w.heap.size + 1) cur ((now :: rest).take m' ++ [x]) fp := by
                  have := T
                  rw [hm', List.take_add_one, hx] at this
                  exact this
                have TU := Lib.hid (tundo_any _ _ _ _ _ _ T' (by rw [hcl.out]; omega))
                have hq1 : (q : Int) < (rest.length : Int) + 1 := by omega
                clear hx hm'
                go_wp2_with fail
                refine (TU.out).mono ?_
                rintro e wz ⟨rfl, Tz, hlz, Oz⟩
                have HLZ := Lib.hid hlz
                clear hlz
                go_wp2
                go_roundw
                case rel =>
                  refine ⟨q + 1, m', x, by go_num, by omega, (by show _ = _; have := hqm.out; have := HM.out; omega), (by show _ = _; rw [HLZ.out]; exact hcl.out), (fun h0 => ?_), Tz, O.step Oz (fun i hi hl' => by have := hf i hi; omega), Oz.blk BW' (fun hm => (hf _ hm).1 rfl)⟩
                  have := HX.out
                  rw [h0] at this
                  simp at this
                  exact this.symm
                case measure => simp [intOf]; omega
              · have hm0' : m = 0 := by have := hqm.out; omega
                have hcn : cur = now := hm0.out hm0'
                have hq2 : (rest.length : Int) + 1 ≤ (q : Int) := by omega
                have HCN := Lib.hid hcn
                have HM0 := Lib.hid hm0'
                have TA := Lib.hid (tall_any _ _ _ _ _ T (by rw [hcl.out]; omega))
                rw [hcl.out] at TA
                clear hcn hm0' hlt'
                go_wp2_with fail
                refine (TA.out).mono ?_
                rintro e wy ⟨rfl, By, Oy⟩
                have BWy := Oy.blk BW' (by simp)
                have Ty := T.only Oy (by simp)
                rw [HCN.out] at By
                have hnl : now.length = 5 := by rw [← HCN.out]; exact hcl.out
                have SI := Lib.hid (sameInts_any (some ⟨wr.heap.size, 0, none⟩) (some ⟨wo.heap.size, 0, none⟩) 5 5 5 5 now now wy _ _ (row_blk By) (row_blk BWy) hnl hnl (by omega) (by omega))
                clear hnl
                go_wp2_with fail
                refine (SI.out).mono ?_
                rintro e wx ⟨rfl, kx, rfl⟩
                have TL := Lib.hid (tlevel_any _ _ _ _ _ (Ty.only ((Only.refl [] wy).drewN kx) (by simp)))
                rw [HM0.out] at TL
                have TL' : Hid (Calls Try.prog 18 #[.pointer (some ⟨w.heap.size + 1, 0, none⟩)] (wy.drewN kx) fun e w' => e = .returned (.int .i64 0) ∧ wy.drewN kx = w') := TL
                clear TL
                have hdd : decide (now = now) = true := by simp
                go_wp2_with fail
                refine (TL'.out).mono ?_
                rintro e wv ⟨rfl, rfl⟩
                go_wp2
                go_ret
                exact ⟨rfl, (O.trans Oy).drewN _⟩

end Go.Proofs.Ytggpbgbnefgebab
