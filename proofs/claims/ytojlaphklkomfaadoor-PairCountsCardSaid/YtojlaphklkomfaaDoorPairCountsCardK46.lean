/- PairCounts: the walk. -/
import Derived.Test.YtojlaphklkomfaaDoorPairCountsCardK43
import Derived.Test.YtojlaphklkomfaaDoorPairCountsCardK44
import Derived.Test.YtojlaphklkomfaaDoorPairCountsCardK45
set_option linter.unusedVariables false
set_option linter.unusedSimpArgs false
namespace Go.Proofs.YtojlaphklkomfaaDoor
open Go.RowKit
open Go.Lib hiding intOf
attribute [local go_sem ↓] Go.wp_at_zero Go.wp_at_succ

theorem short8_le {l : List Ev6} : ∀ x ∈ few8 l, x.s.size ≤ 65537 ∧ x.y.size ≤ 65537 := by
  intro x hx
  obtain ⟨y, -, rfl⟩ := List.mem_map.1 hx
  have h1 := short8_size y.s
  have h2 := short8_size y.y
  exact ⟨by show (short8 y.s).size ≤ _; omega, by show (short8 y.y).size ≤ _; omega⟩
theorem sum_take {l : List Tx} {k : Nat} {t : Tx} (h : l[k]? = some t) : ((l.take (k + 1)).map fun t => t.ops.length).sum = ((l.take k).map fun t => t.ops.length).sum + t.ops.length := by
  rw [List.take_add_one, h, Option.toList_some, List.map_append, List.sum_append]
  simp
theorem sum_take_le (l : List Tx) (k : Nat) : ((l.take k).map fun t => t.ops.length).sum ≤ (l.map fun t => t.ops.length).sum := by
  conv => rhs; rw [← List.take_append_drop k l, List.map_append, List.sum_append]
  omega

set_option maxRecDepth 100000 in
set_option maxHeartbeats 8000000 in
theorem pairCounts_walk (A : Option Addr) (n c : Nat) (l : List Ev6) (w : World) (hn : l.length = n) (hc : n ≤ c) (hcm : c ≤ maxLen) (hz : ∀ x ∈ l, x.s.size ≤ maxLen ∧ x.y.size ≤ maxLen ∧ -9223372036854775808 ≤ x.vn ∧ x.vn ≤ 9223372036854775807) (hA : Row w w.heap.size A (logC l)) (hT : UTabs w) (hV : Verbs w) :
    Calls Tryd.prog 4 #[.slice A n c] w fun e w' => e = .returned (.bool true) ∧ Only [] w w' := by
  unfold maxLen at hcm hz
  have HW := Lib.hid (works10_any w hT hV)
  have HF := Lib.hid (fun w' (O : Only [] w w') => few8_any A n c _ l w' hn (by omega) (fun x hx => by have := hz x hx; omega) (hA.only O (by simp)))
  have hfl := few8_len l
  have hfs := @short8_le l
  generalize few8 l = f at *
  have HP := Lib.hid (fun A c w' (O : Only [] w w') hA => phist_any A f.length c f w' rfl (by omega) hA hfs (hT.only O) (hV.only O))
  have HOP := Lib.hid (fun A c w' (O : Only [] w w') hA hE => popen_ok A f.length c f w' rfl (by omega) hA hfs (hT.only O) (hV.only O) hE)
  have HCT := Lib.hid (fun A c k B w' hA => rcount_any A f.length c B f k w' rfl (by omega) hA)
  have hc1 := cnt_le 1 f
  have hc2 := cnt_le 2 f
  have hc3 := cnt_le 3 f
  have HPC := Lib.hid (@pair_counts f)
  have HPN := Lib.hid (@pair_none f)
  generalize pairE f = pe at *
  generalize pairL f = pl at *
  generalize pairH f = ph at *
  clear hn hc hcm hz hA hT hV hfs
  go_enter Tryd.func4, Tryd.ntmps4
  go_wp2_with fail
  refine (HW.out).mono ?_
  rintro e w1 ⟨rfl, O1⟩
  have HO1 := Lib.hid O1
  clear O1 HW
  go_wp2_with fail
  refine (HF.out w1 HO1.out).mono ?_
  rintro e w2 ⟨O2, V, rfl, hown, -⟩
  have HO2 := Lib.hid (HO1.out.trans O2)
  obtain ⟨A2, c2, rfl, -, -, -, hrow⟩ := own_row hown
  have HR2 := Lib.hid hrow
  clear O2 hown hrow HO1 HF
  go_wp2_with fail
  refine (HP.out A2 c2 w2 HO2.out HR2.out).mono ?_
  rintro e w3 ⟨B0, B1, B2, d0, d1, d2, ⟨rfl, hA3⟩, O3⟩
  have HA3 := Lib.hid hA3
  have HO3 := Lib.hid (HO2.out.trans O3)
  have HR3 := Lib.hid (row_up (HR2.out.only O3 (by simp)))
  clear O3 hA3 HP HO2 HR2
  go_upto_region 5 with (fail)
  have HN4 := Lib.hid ((Only.refl [] w3).alloc (.cells #[.slice B0 ph.ss.length d0, .slice B1 ph.ks.length d1, .slice B2 ph.l.length d2] 27))
  have HB4 := Lib.hid (Blk.made w3 27 #[.slice B0 ph.ss.length d0, .slice B1 ph.ks.length d1, .slice B2 ph.l.length d2])
  have HO4 := Lib.hid (HO3.out.trans HN4.out)
  have HL4 := Lib.hid (HA3.out.r2.only HN4.out (by simp))
  have HR4 := Lib.hid (row_up (HR3.out.only HN4.out (by simp)))
  generalize (w3.alloc (.cells #[.slice B0 ph.ss.length d0, .slice B1 ph.ks.length d1, .slice B2 ph.l.length d2] 27)) = w4 at *
  generalize w3.heap.size = gh at *
  have l4 := HB4.out.lt
  have y2 := HB4.out.at_ 2
  simp at y2
  by_cases he : pe = 0
  · have hb : (pe != 0) = false := by simp [he]
    obtain ⟨hq1, hq2⟩ := HPC.out he
    have HSL := Lib.hid (sum_take_le ph.l)
    rw [hq2] at HSL
    have HQ2 := Lib.hid hq2
    have HOP2 := Lib.hid (fun A c w' O hA => HOP.out A c w' O hA he)
    have hpl : ph.l.length ≤ 200 := by omega
    have HQ1 := Lib.hid hq1
    clear he hq1 hq2
    go_wp2_with fail
    clear l4 y2
    go_loopw [6, 7] (fun nv iv wr => ∃ k : Nat, iv = .int .i64 k ∧ k ≤ ph.l.length ∧ nv = .int .i64 ((((ph.l.take k).map fun t => t.ops.length).sum : Nat) : Int) ∧ wr = w4) (fun _ iv _ => ph.l.length - (intOf iv).toNat)
    case atStart => exact ⟨0, rfl, by omega, rfl, rfl⟩
    case round =>
      obtain ⟨k, rfl, hk, rfl, rfl⟩ := hrel
      have l4 := HB4.out.lt
      have y2 := HB4.out.at_ 2
      simp at y2
      have hsk := HSL.out k
      by_cases hlt : k < ph.l.length
      · have h01 : (k : Int) < (ph.l.length : Int) := by omega
        have hk0 : (0 : Int) ≤ (k : Int) := Int.natCast_nonneg _
        have hwk : IntKind.i64.wrap ((k : Int) + 1) = (k : Int) + 1 := IntWalk.i64_in _ (by omega)
        obtain ⟨t, ht⟩ : ∃ t, ph.l[k]? = some t := ⟨_, List.getElem?_eq_getElem hlt⟩
        obtain ⟨b, off, A', cp, rfl, -, hbw, hTx, -⟩ := HL4.out.at_ ht
        have t2 := hTx.c2
        dsimp only at t2
        have HST := Lib.hid (sum_take ht)
        have hs2 := HSL.out (k + 1)
        rw [HST.out] at hs2
        obtain ⟨q, hq⟩ : ∃ q, q = ((ph.l.take k).map fun t => t.ops.length).sum := ⟨_, rfl⟩
        rw [← hq] at hs2 HST hsk
        rw [← hq]
        have hws : IntKind.i64.wrap ((q : Int) + (t.ops.length : Int)) = (q : Int) + (t.ops.length : Int) := IntWalk.i64_in _ (by omega)
        clear hTx ht hq
        go_wp2
        go_roundw
        case rel => exact ⟨k + 1, by go_num, by omega, by rw [HST.out]; go_num, by first | rfl | trivial⟩
        case measure => simp [intOf]; omega
      · have hkn : k = ph.l.length := by omega
        subst hkn
        have hd : decide ((ph.l.length : Int) < (ph.l.length : Int)) = false := by simp
        have hsum : ((ph.l.take ph.l.length).map fun t => t.ops.length).sum = cnt 2 f + cnt 3 f := by rw [List.take_length]; exact HQ2.out
        rw [hsum]
        have hq1 : ph.l.length = cnt 1 f := HQ1.out
        rw [hq1]
        rw [hq1] at y2
        generalize hq1e : cnt 1 f = q1 at *
        generalize hq2e : cnt 2 f = q2 at *
        generalize hq3e : cnt 3 f = q3 at *
        have HC1 := Lib.hid hq1e
        have HC2 := Lib.hid hq2e
        have HC3 := Lib.hid hq3e
        clear hq1e hq2e hq3e
        have hw23 : IntKind.i64.wrap ((q2 : Int) + (q3 : Int)) = (q2 : Int) + (q3 : Int) := IntWalk.i64_in _ (by omega)
        go_upto_region 12 with (fail)
        clear l4 y2 hsk
        refine wp_region_noPanic ?_
        refine wp_region_timed (F := [⟨[], [], fun w' => Only [] wr w'⟩]) (by kernel_rfl) (timed_holds ((Only.refl [] wr).drew) (timed_nil)) ?_
        refine timed_pure (i := 0) (v := ?_) rfl (by kernel_rfl) (by kernel_rfl) (by kernel_rfl) (fun _ _ _ h => h) (by kernel_rfl) (by kernel_rfl) ?_ ?_
        rotate_left
        · (intro w; go_simp; try with_reducible rfl)
        try simp only [Act.put, List.getElem_toArray, List.getElem_cons_zero, List.getElem_cons_succ, List.setIfInBounds_toArray, List.set_cons_zero, List.set_cons_succ]
        refine timed_read (i := 1) (v := ?_) 0 rfl (by kernel_rfl) (by kernel_rfl) (by kernel_rfl) (fun _ _ _ h => h) (by kernel_rfl) (by kernel_rfl) rfl (by kernel_rfl) ?_ ?_
        rotate_left
        · (intro wq hSw; (try dsimp only at hSw); have hb := hSw.blk HB4.out (by simp); have hlb := hb.lt; have y2 := hb.at_ 2; simp at y2; rw [hq1] at y2; clear hb; clear hSw; go_simp; try with_reducible rfl)
        try simp only [Act.put, List.getElem_toArray, List.getElem_cons_zero, List.getElem_cons_succ, List.setIfInBounds_toArray, List.set_cons_zero, List.set_cons_succ]
        refine timed_pure (i := 2) (v := ?_) rfl (by kernel_rfl) (by kernel_rfl) (by kernel_rfl) (fun _ _ _ h => h) (by kernel_rfl) (by kernel_rfl) ?_ ?_
        rotate_left
        · (intro w; go_simp; try with_reducible rfl)
        try simp only [Act.put, List.getElem_toArray, List.getElem_cons_zero, List.getElem_cons_succ, List.setIfInBounds_toArray, List.set_cons_zero, List.set_cons_succ]
        refine timed_pure (i := 3) (v := ?_) rfl (by kernel_rfl) (by kernel_rfl) (by kernel_rfl) (fun _ _ _ h => h) (by kernel_rfl) (by kernel_rfl) ?_ ?_
        rotate_left
        · (intro w; go_simp; try with_reducible rfl)
        try simp only [Act.put, List.getElem_toArray, List.getElem_cons_zero, List.getElem_cons_succ, List.setIfInBounds_toArray, List.set_cons_zero, List.set_cons_succ]
        refine timed_step (i := 4) (by kernel_rfl) rfl (fun K hK => ?_)
        go_simp
        refine (HCT.out _ _ 1 _ _ (HR4.out.only ((Only.refl [] _).drew) (by simp))).mono ?_
        rintro e w5 ⟨rfl, O5⟩
        rw [HC1.out]
        refine hK.out _ _ (timed_holds (((Only.refl [] wr).drew).trans O5) (timed_nil)) ?_
        clear hK K
        try simp only [Act.put, List.getElem_toArray, List.getElem_cons_zero, List.getElem_cons_succ, List.setIfInBounds_toArray, List.set_cons_zero, List.set_cons_succ]
        refine timed_pure (i := 5) (v := ?_) rfl (by kernel_rfl) (by kernel_rfl) (by kernel_rfl) (fun _ _ _ h => h) (by kernel_rfl) (by kernel_rfl) ?_ ?_
        rotate_left
        · (intro w; go_simp; try with_reducible rfl)
        try simp only [Act.put, List.getElem_toArray, List.getElem_cons_zero, List.getElem_cons_succ, List.setIfInBounds_toArray, List.set_cons_zero, List.set_cons_succ]
        refine timed_pure (i := 6) (v := ?_) rfl (by kernel_rfl) (by kernel_rfl) (by kernel_rfl) (fun _ _ _ h => h) (by kernel_rfl) (by kernel_rfl) ?_ ?_
        rotate_left
        · (intro w; go_simp; try with_reducible rfl)
        try simp only [Act.put, List.getElem_toArray, List.getElem_cons_zero, List.getElem_cons_succ, List.setIfInBounds_toArray, List.set_cons_zero, List.set_cons_succ]
        refine timed_pure (i := 7) (v := ?_) rfl (by kernel_rfl) (by kernel_rfl) (by kernel_rfl) (fun _ _ _ h => h) (by kernel_rfl) (by kernel_rfl) ?_ ?_
        rotate_left
        · (intro w; go_simp; try with_reducible rfl)
        try simp only [Act.put, List.getElem_toArray, List.getElem_cons_zero, List.getElem_cons_succ, List.setIfInBounds_toArray, List.set_cons_zero, List.set_cons_succ]
        refine timed_pure (i := 8) (v := ?_) rfl (by kernel_rfl) (by kernel_rfl) (by kernel_rfl) (fun _ _ _ h => h) (by kernel_rfl) (by kernel_rfl) ?_ ?_
        rotate_left
        · (intro w; go_simp; try with_reducible rfl)
        try simp only [Act.put, List.getElem_toArray, List.getElem_cons_zero, List.getElem_cons_succ, List.setIfInBounds_toArray, List.set_cons_zero, List.set_cons_succ]
        refine timed_pure (i := 10) (v := ?_) rfl (by kernel_rfl) (by kernel_rfl) (by kernel_rfl) (fun _ _ _ h => h) (by kernel_rfl) (by kernel_rfl) ?_ ?_
        rotate_left
        · (intro w; go_simp; try with_reducible rfl)
        try simp only [Act.put, List.getElem_toArray, List.getElem_cons_zero, List.getElem_cons_succ, List.setIfInBounds_toArray, List.set_cons_zero, List.set_cons_succ]
        refine timed_step (i := 9) (by kernel_rfl) rfl (fun K hK => ?_)
        go_simp
        refine (HCT.out _ _ 2 _ _ (HR4.out.only (((Only.refl [] _).drew).trans O5) (by simp))).mono ?_
        rintro e w6 ⟨rfl, O6⟩
        rw [HC2.out]
        refine hK.out _ _ (timed_holds ((((Only.refl [] wr).drew).trans O5).trans O6) (timed_nil)) ?_
        clear hK K
        try simp only [Act.put, List.getElem_toArray, List.getElem_cons_zero, List.getElem_cons_succ, List.setIfInBounds_toArray, List.set_cons_zero, List.set_cons_succ]
        refine timed_step (i := 11) (by kernel_rfl) rfl (fun K hK => ?_)
        go_simp
        refine (HCT.out _ _ 3 _ _ (HR4.out.only ((((Only.refl [] _).drew).trans O5).trans O6) (by simp))).mono ?_
        rintro e w7 ⟨rfl, O7⟩
        rw [HC3.out]
        refine hK.out _ _ (timed_holds (((((Only.refl [] wr).drew).trans O5).trans O6).trans O7) (timed_nil)) ?_
        clear hK K
        try simp only [Act.put, List.getElem_toArray, List.getElem_cons_zero, List.getElem_cons_succ, List.setIfInBounds_toArray, List.set_cons_zero, List.set_cons_succ]
        refine timed_pure (i := 12) (v := ?_) rfl (by kernel_rfl) (by kernel_rfl) (by kernel_rfl) (fun _ _ _ h => h) (by kernel_rfl) (by kernel_rfl) ?_ ?_
        rotate_left
        · (intro w; go_simp; try with_reducible rfl)
        try simp only [Act.put, List.getElem_toArray, List.getElem_cons_zero, List.getElem_cons_succ, List.setIfInBounds_toArray, List.set_cons_zero, List.set_cons_succ]
        refine timed_pure (i := 13) (v := ?_) rfl (by kernel_rfl) (by kernel_rfl) (by kernel_rfl) (fun _ _ _ h => h) (by kernel_rfl) (by kernel_rfl) ?_ ?_
        rotate_left
        · (intro w; go_simp; try with_reducible rfl)
        try simp only [Act.put, List.getElem_toArray, List.getElem_cons_zero, List.getElem_cons_succ, List.setIfInBounds_toArray, List.set_cons_zero, List.set_cons_succ]
        refine timed_pure (i := 14) (v := ?_) rfl (by kernel_rfl) (by kernel_rfl) (by kernel_rfl) (fun _ _ _ h => h) (by kernel_rfl) (by kernel_rfl) ?_ ?_
        rotate_left
        · (intro w; go_simp; try with_reducible rfl)
        try simp only [Act.put, List.getElem_toArray, List.getElem_cons_zero, List.getElem_cons_succ, List.setIfInBounds_toArray, List.set_cons_zero, List.set_cons_succ]
        refine timed_pure (i := 15) (v := ?_) rfl (by kernel_rfl) (by kernel_rfl) (by kernel_rfl) (fun _ _ _ h => h) (by kernel_rfl) (by kernel_rfl) ?_ ?_
        rotate_left
        · (intro w; go_simp; try with_reducible rfl)
        try simp only [Act.put, List.getElem_toArray, List.getElem_cons_zero, List.getElem_cons_succ, List.setIfInBounds_toArray, List.set_cons_zero, List.set_cons_succ]
        refine timed_pure (i := 16) (v := ?_) rfl (by kernel_rfl) (by kernel_rfl) (by kernel_rfl) (fun _ _ _ h => h) (by kernel_rfl) (by kernel_rfl) ?_ ?_
        rotate_left
        · (intro w; go_simp; try with_reducible rfl)
        try simp only [Act.put, List.getElem_toArray, List.getElem_cons_zero, List.getElem_cons_succ, List.setIfInBounds_toArray, List.set_cons_zero, List.set_cons_succ]
        refine timed_step (i := 17) (by kernel_rfl) rfl (fun K hK => ?_)
        go_simp
        refine (HOP2.out _ _ _ (HO4.out.trans (((((Only.refl [] _).drew).trans O5).trans O6).trans O7)) (row_up (HR4.out.only (((((Only.refl [] _).drew).trans O5).trans O6).trans O7) (by simp)))).mono ?_
        rintro e w8 ⟨rfl, O8⟩
        refine hK.out _ _ (timed_holds ((((((Only.refl [] wr).drew).trans O5).trans O6).trans O7).trans O8) (timed_nil)) ?_
        clear hK K
        try simp only [Act.put, List.getElem_toArray, List.getElem_cons_zero, List.getElem_cons_succ, List.setIfInBounds_toArray, List.set_cons_zero, List.set_cons_succ]
        refine timed_pure (i := 18) (v := ?_) rfl (by kernel_rfl) (by kernel_rfl) (by kernel_rfl) (fun _ _ _ h => h) (by kernel_rfl) (by kernel_rfl) ?_ ?_
        rotate_left
        · (intro w; go_simp; try with_reducible rfl)
        try simp only [Act.put, List.getElem_toArray, List.getElem_cons_zero, List.getElem_cons_succ, List.setIfInBounds_toArray, List.set_cons_zero, List.set_cons_succ]
        refine timed_pure (i := 19) (v := ?_) rfl (by kernel_rfl) (by kernel_rfl) (by kernel_rfl) (fun _ _ _ h => h) (by kernel_rfl) (by kernel_rfl) ?_ ?_
        rotate_left
        · (intro w; go_simp; try with_reducible rfl)
        try simp only [Act.put, List.getElem_toArray, List.getElem_cons_zero, List.getElem_cons_succ, List.setIfInBounds_toArray, List.set_cons_zero, List.set_cons_succ]
        refine timed_pure (i := 20) (v := ?_) rfl (by kernel_rfl) (by kernel_rfl) (by kernel_rfl) (fun _ _ _ h => h) (by kernel_rfl) (by kernel_rfl) ?_ ?_
        rotate_left
        · (intro w; go_simp; try with_reducible rfl)
        try simp only [Act.put, List.getElem_toArray, List.getElem_cons_zero, List.getElem_cons_succ, List.setIfInBounds_toArray, List.set_cons_zero, List.set_cons_succ]
        refine timed_pure (i := 21) (v := ?_) rfl (by kernel_rfl) (by kernel_rfl) (by kernel_rfl) (fun _ _ _ h => h) (by kernel_rfl) (by kernel_rfl) ?_ ?_
        rotate_left
        · (intro w; go_simp; try with_reducible rfl)
        try simp only [Act.put, List.getElem_toArray, List.getElem_cons_zero, List.getElem_cons_succ, List.setIfInBounds_toArray, List.set_cons_zero, List.set_cons_succ]
        refine timed_done (by kernel_rfl) ?_ _
        refine NoPanic.normal ?_
        have HNW := Lib.hid ( ((((((Only.refl [] wr).drew).trans O5).trans O6).trans O7).trans O8))
        go_wp2
        go_ret
        exact ⟨rfl, HO4.out.trans HNW.out⟩
  · have hb : (pe != 0) = true := by simpa using he
    have hl0 := HPN.out he
    have hl1 : ((ph.l.length : Int) == 0) = true := by rw [hl0]; rfl
    clear he
    go_wp2
    go_ret
    exact ⟨rfl, HO4.out⟩
end Go.Proofs.YtojlaphklkomfaaDoor
