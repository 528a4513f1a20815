/- The document's inner: Writers. A history that is not too great: the law's Few, and that it is one of its own. -/
import Derived.Test.YtjhomlnlmpdklaaGreatDoorInnerLeavesCardK44
import Derived.Test.YtjhomlnlmpdklaaGreatDoorInnerLeavesCardK18
import Derived.Test.YtjhomlnlmpdklaaGreatDoorInnerLeavesCardK25
import Derived.Test.YtjhomlnlmpdklaaGreatDoorInnerLeavesCardK13
set_option linter.unusedVariables false
set_option linter.unusedSimpArgs false
namespace Go.Proofs.YtjhomlnlmpdklaaGreatDoor
open Go.RowKit
open Go.Lib hiding intOf
attribute [local go_sem ↓] Go.wp_at_zero Go.wp_at_succ
set_option maxRecDepth 10000 in
set_option maxHeartbeats 8000000 in
theorem rwriters_any (A0 A1 A2 : Option Addr) (n0 n1 n2 c0 c1 c2 B : Nat) (h : Hst) (key : Int) (w : World) (hg : HIn w B A0 A1 A2 n0 n1 n2 h) :
  Calls Tryz.prog 21 #[hval A0 A1 A2 n0 n1 n2 c0 c1 c2, .int .i64 key] w fun e w' => ∃ A' c', (e = .returned (.slice A' (wrtH h key).length c') ∧ Row w' w'.heap.size A' ((wrtH h key).map (Value.int .i64))) ∧ Only [] w w' := by
 have HM := Lib.hid (fun w' (O : Only [] w w') => refmay_any A0 A1 A2 n0 n1 n2 c0 c1 c2 B h w' (hg.same O))
 have hM : n2 ≤ 1000 := by
  have := hg.sm.nl
  rw [hg.n2] at this
  exact this
 have HL := Lib.hid hg.at_.r2
 have HN2 := Lib.hid hg.n2
 have HNO := Lib.hid hg.sm.no
 obtain ⟨i0, hi, hz0, hz1, hz2⟩ := info_parts info_int
 unfold hval at HM ⊢
 clear hg
 have HO1 := Lib.hid (((Only.refl [] w).alloc (.cells #[.slice A0 n0 c0, .slice A1 n1 c1, .slice A2 n2 c2] 25)).alloc (.cells #[] 3))
 have HB1 := Lib.hid ((Blk.made w 25 #[.slice A0 n0 c0, .slice A1 n1 c1, .slice A2 n2 c2]).alloc (.cells #[] 3))
 have HV1 := Lib.hid (World.ownsRow_lit (w.alloc (.cells #[.slice A0 n0 c0, .slice A1 n1 c1, .slice A2 n2 c2] 25)) (e := 3) (size := 1) #[] 0 (Nat.le_refl _) (by unfold maxLen; omega) rfl)
 rw [World.size_alloc] at HV1
 have HF := Lib.hid (HM.out _ HO1.out)
 clear HM
 unfold wrtH
 cases hm : mayH h with
 | false =>
  rw [mayH_errn2 hm] at HF
  clear hm
  rw [if_neg (by decide)]
  go_enter Tryz.func21, Tryz.ntmps21
  go_wp2_with fail
  refine (HF.out).mono ?_
  rintro e w2 ⟨rfl, O2⟩
  have HO2 := Lib.hid (HO1.out.trans O2)
  have HB2 := Lib.hid (O2.blk HB1.out (by simp))
  have HV2 := Lib.hid (own_only HV1.out O2 (by simp))
  have lB := HB2.out.lt
  have y2 := HB2.out.at_ 2
  simp at y2
  clear O2 HF HB1 HV1
  go_wp2
  go_ret
  first | exact ⟨⟨_, ⟨_, rfl⟩, .inl rfl⟩, HO2.out⟩ | exact ⟨_, _, ⟨rfl, .inl rfl⟩, HO2.out⟩
 | true =>
  rw [mayH_err2 hm] at HF
  clear hm
  rw [if_pos rfl]
  obtain ⟨q, hq⟩ : ∃ q : Tx → Bool, q = writesB key := ⟨_, rfl⟩
  rw [← hq]
  have HQ := Lib.hid hq
  clear hq
  go_enter Tryz.func21, Tryz.ntmps21
  go_wp2_with fail
  refine (HF.out).mono ?_
  rintro e w2 ⟨rfl, O2⟩
  have HO2 := Lib.hid (HO1.out.trans O2)
  have HB2 := Lib.hid (O2.blk HB1.out (by simp))
  have HV2 := Lib.hid (own_only HV1.out O2 (by simp))
  have lB := HB2.out.lt
  have y2 := HB2.out.at_ 2
  simp at y2
  clear O2 HF HB1 HV1
  go_wp2_with fail
  go_loopw [5, 6] (fun V iv wr => ∃ k : Nat, iv = .int .i64 k ∧ k ≤ n2 ∧ Hid (wr.ownsRow (w.heap.size + 1) 3 1 V (whichL q (h.l.take k)).length ((whichL q (h.l.take k)).map (Value.int .i64))) ∧ Hid (Blk wr w.heap.size 25 #[.slice A0 n0 c0, .slice A1 n1 c1, .slice A2 n2 c2]) ∧ Hid (Only [] w wr)) (fun _ iv _ => n2 - (intOf iv).toNat)
  case atStart => exact ⟨0, rfl, by omega, HV2, HB2, HO2⟩
  case round =>
   obtain ⟨k, rfl, hk, hV, hB, hO⟩ := hrel
   clear HV2 HB2 HO2 y2 lB HO1
   have hsz := hO.out.size
   have lB := hB.out.lt
   have y2 := hB.out.at_ 2
   simp at y2
   by_cases hlt : k < n2
   ·obtain ⟨x, hx⟩ : ∃ x, h.l[k]? = some x := ⟨_, List.getElem?_eq_getElem (by rw [HN2.out]; exact hlt)⟩
    obtain ⟨bl, off, A', cp, rfl, -, hbw, hT, hOk⟩ := HL.out.at_ hx
    obtain ⟨a0, a1, a2⟩ := hT.only hO.out hbw (by simp)
    have HWT := Lib.hid (which_take (p := q) hx)
    have hwl := which_le q (h.l.take k)
    rw [List.length_take] at hwl
    have hno := HNO.out x (List.mem_of_getElem? hx)
    have HROW := Lib.hid hOk.row
    obtain ⟨s, f, ops⟩ := x
    dsimp only at a0 a1 a2 hno HROW
    have HLF := Lib.hid (fun w' (O : Only [] w w') => rraw_any s f A' ops.length cp B ops.length ops key w' (HROW.out.only O (by simp)) rfl hno hno)
    rw [List.take_of_length_le (Nat.le_refl _)] at HLF
    have HQX : Hid (q ⟨s, f, ops⟩ = ((leftW key ops).isSome && !decide (f = 2))) := Lib.hid (by rw [HQ.out]; rfl)
    generalize leftW key ops = v at *
    generalize hm : ops.length = m at *
    have h01 : (k : Int) < (n2 : Int) := by omega
    have hk0 : (0 : Int) ≤ (k : Int) := Int.natCast_nonneg _
    have hwk : IntKind.i64.wrap ((k : Int) + 1) = (k : Int) + 1 := IntWalk.i64_in _ (by omega)
    have hbr : bl < wr.heap.size := by omega
    have HC0 := Lib.hid a0
    have HC1 := Lib.hid a1
    have HC2 := Lib.hid a2
    clear hT hOk hx hm a0 a1 a2
    go_upto_region 7 with (fail)
    clear y2 lB
    refine wp_region_noPanic ?_
    refine wp_region_timed (F := [⟨[], [], fun w' => Only [] wr w'⟩]) (by kernel_rfl) (timed_holds ((Only.refl [] wr).drew) (timed_nil)) ?_
    have OW : Only [] wr wr.drew := (Only.refl [] wr).drew
    generalize hwz : wr.drew = wz at *
    clear hwz
    refine timed_pure (i := 0) (v := ?_) rfl (by kernel_rfl) (by kernel_rfl) (by kernel_rfl) (fun _ _ _ h => h) (by kernel_rfl) (by kernel_rfl) ?_ ?_
    rotate_left
    ·(intro w; go_simp; try with_reducible rfl)
    try simp only [Act.put, tdy]
    refine timed_read (i := 1) (v := ?_) 0 rfl (by kernel_rfl) (by kernel_rfl) (by kernel_rfl) (fun _ _ _ h => h) (by kernel_rfl) (by kernel_rfl) rfl (by kernel_rfl) ?_ ?_
    rotate_left
    ·(intro wq hSw; (try dsimp only at hSw); have hb_H := hSw.blk hB.out (by simp); have lb_H := hb_H.lt; have y2 := hb_H.at_ 2; simp at y2; clear hb_H; have t0 := (hSw.cell (p := ⟨bl, off + k * 3, none⟩) hbr (by simp)).trans HC0.out; have t1 := (hSw.cell (p := ⟨bl, off + k * 3 + 1, none⟩) hbr (by simp)).trans HC1.out; have t2 := (hSw.cell (p := ⟨bl, off + k * 3 + 2, none⟩) hbr (by simp)).trans HC2.out; clear hSw; go_simp; try with_reducible rfl)
    try simp only [Act.put, tdy]
    refine timed_pure (i := 2) (v := ?_) rfl (by kernel_rfl) (by kernel_rfl) (by kernel_rfl) (fun _ _ _ h => h) (by kernel_rfl) (by kernel_rfl) ?_ ?_
    rotate_left
    ·(intro w; go_simp; try with_reducible rfl)
    try simp only [Act.put, tdy]
    refine timed_pure (i := 3) (v := ?_) rfl (by kernel_rfl) (by kernel_rfl) (by kernel_rfl) (fun _ _ _ h => h) (by kernel_rfl) (by kernel_rfl) ?_ ?_
    rotate_left
    ·(intro w; go_simp; try with_reducible rfl)
    try simp only [Act.put, tdy]
    refine timed_read (i := 4) (v := ?_) 0 rfl (by kernel_rfl) (by kernel_rfl) (by kernel_rfl) (fun _ _ _ h => h) (by kernel_rfl) (by kernel_rfl) rfl (by kernel_rfl) ?_ ?_
    rotate_left
    ·(intro wq hSw; (try dsimp only at hSw); have hb_H := hSw.blk hB.out (by simp); have lb_H := hb_H.lt; have y2 := hb_H.at_ 2; simp at y2; clear hb_H; have t0 := (hSw.cell (p := ⟨bl, off + k * 3, none⟩) hbr (by simp)).trans HC0.out; have t1 := (hSw.cell (p := ⟨bl, off + k * 3 + 1, none⟩) hbr (by simp)).trans HC1.out; have t2 := (hSw.cell (p := ⟨bl, off + k * 3 + 2, none⟩) hbr (by simp)).trans HC2.out; clear hSw; go_simp; try with_reducible rfl)
    try simp only [Act.put, tdy]
    refine timed_pure (i := 5) (v := ?_) rfl (by kernel_rfl) (by kernel_rfl) (by kernel_rfl) (fun _ _ _ h => h) (by kernel_rfl) (by kernel_rfl) ?_ ?_
    rotate_left
    ·(intro w; go_simp; try with_reducible rfl)
    try simp only [Act.put, tdy]
    refine timed_read (i := 6) (v := ?_) 0 rfl (by kernel_rfl) (by kernel_rfl) (by kernel_rfl) (fun _ _ _ h => h) (by kernel_rfl) (by kernel_rfl) rfl (by kernel_rfl) ?_ ?_
    rotate_left
    ·(intro wq hSw; (try dsimp only at hSw); have hb_H := hSw.blk hB.out (by simp); have lb_H := hb_H.lt; have y2 := hb_H.at_ 2; simp at y2; clear hb_H; have t0 := (hSw.cell (p := ⟨bl, off + k * 3, none⟩) hbr (by simp)).trans HC0.out; have t1 := (hSw.cell (p := ⟨bl, off + k * 3 + 1, none⟩) hbr (by simp)).trans HC1.out; have t2 := (hSw.cell (p := ⟨bl, off + k * 3 + 2, none⟩) hbr (by simp)).trans HC2.out; clear hSw; go_simp; try with_reducible rfl)
    try simp only [Act.put, tdy]
    refine timed_pure (i := 7) (v := ?_) rfl (by kernel_rfl) (by kernel_rfl) (by kernel_rfl) (fun _ _ _ h => h) (by kernel_rfl) (by kernel_rfl) ?_ ?_
    rotate_left
    ·(intro w; go_simp; try with_reducible rfl)
    try simp only [Act.put, tdy]
    refine timed_pure (i := 8) (v := ?_) rfl (by kernel_rfl) (by kernel_rfl) (by kernel_rfl) (fun _ _ _ h => h) (by kernel_rfl) (by kernel_rfl) ?_ ?_
    rotate_left
    ·(intro w; go_simp; try with_reducible rfl)
    try simp only [Act.put, tdy]
    refine timed_pure (i := 9) (v := ?_) rfl (by kernel_rfl) (by kernel_rfl) (by kernel_rfl) (fun _ _ _ h => h) (by kernel_rfl) (by kernel_rfl) ?_ ?_
    rotate_left
    ·(intro w; go_simp; try with_reducible rfl)
    try simp only [Act.put, tdy]
    refine timed_read (i := 10) (v := ?_) 0 rfl (by kernel_rfl) (by kernel_rfl) (by kernel_rfl) (fun _ _ _ h => h) (by kernel_rfl) (by kernel_rfl) rfl (by kernel_rfl) ?_ ?_
    rotate_left
    ·(intro wq hSw; (try dsimp only at hSw); have hb_H := hSw.blk hB.out (by simp); have lb_H := hb_H.lt; have y2 := hb_H.at_ 2; simp at y2; clear hb_H; have t0 := (hSw.cell (p := ⟨bl, off + k * 3, none⟩) hbr (by simp)).trans HC0.out; have t1 := (hSw.cell (p := ⟨bl, off + k * 3 + 1, none⟩) hbr (by simp)).trans HC1.out; have t2 := (hSw.cell (p := ⟨bl, off + k * 3 + 2, none⟩) hbr (by simp)).trans HC2.out; clear hSw; go_simp; try with_reducible rfl)
    try simp only [Act.put, tdy]
    refine timed_pure (i := 11) (v := ?_) rfl (by kernel_rfl) (by kernel_rfl) (by kernel_rfl) (fun _ _ _ h => h) (by kernel_rfl) (by kernel_rfl) ?_ ?_
    rotate_left
    ·(intro w; go_simp; try with_reducible rfl)
    try simp only [Act.put, tdy]
    refine timed_pure (i := 12) (v := ?_) rfl (by kernel_rfl) (by kernel_rfl) (by kernel_rfl) (fun _ _ _ h => h) (by kernel_rfl) (by kernel_rfl) ?_ ?_
    rotate_left
    ·(intro w; go_simp; try with_reducible rfl)
    try simp only [Act.put, tdy]
    apply cut_1_0 (fun w gv => (Only [] wr w) ∧ (True) ∧ (Blk w gv 30 #[.int .i64 0, .int .i64 0]) ∧ (wr.heap.size ≤ gv))
    intro HST13_17
    apply cut_1_0 (fun w gv => (Only [] wr w) ∧ (True) ∧ (Blk w gv 30 #[.int .i64 0, .int .i64 0]) ∧ (wr.heap.size ≤ gv))
    intro HST17
    apply cut_0_0 (fun w  => (Only [] wr w) ∧ (True))
    intro HST13
    ·skip
     refine timed_forks (l := [13, 17]) (by kernel_rfl) (by simp) (fork_cons ⟨_, rfl, fun K hK => ?_⟩ (fork_cons ⟨_, rfl, fun K hK => ?_⟩ (fork_nil)))
     ·go_simp
      refine (HLF.out _ (hO.out.trans OW)).mono ?_
      rintro e w3 ⟨rfl, O3⟩
      unfold optT optV
      have OW1 := OW.trans O3
      have OS := O3
      refine hK.out _ _ (timed_holds (OW1) (timed_nil)) ?_
      clear hK K
      try simp only [Act.put, tdy]
      refine timed_pure (i := 14) (v := ?_) rfl (by kernel_rfl) (by kernel_rfl) (by kernel_rfl) (fun _ _ _ h => h) (by kernel_rfl) (by kernel_rfl) ?_ ?_
      rotate_left
      ·(intro w; go_simp; try with_reducible rfl)
      try simp only [Act.put, tdy]
      refine timed_pure (i := 15) (v := ?_) rfl (by kernel_rfl) (by kernel_rfl) (by kernel_rfl) (fun _ _ _ h => h) (by kernel_rfl) (by kernel_rfl) ?_ ?_
      rotate_left
      ·(intro w; go_simp; try with_reducible rfl)
      try simp only [Act.put, tdy]
      refine timed_pure (i := 16) (v := ?_) rfl (by kernel_rfl) (by kernel_rfl) (by kernel_rfl) (fun _ _ _ h => h) (by kernel_rfl) (by kernel_rfl) ?_ ?_
      rotate_left
      ·(intro w; go_simp; try with_reducible rfl)
      try simp only [Act.put, tdy]
      exact HST13 w3  ⟨OW1, trivial⟩
     ·go_simp
      have OW1 := OW.alloc (.cells #[.int .i64 0, .int .i64 0] 30)
      have OS : Only [] wz (wz.alloc (.cells #[.int .i64 0, .int .i64 0] 30)) := (Only.refl [] wz).alloc (.cells #[.int .i64 0, .int .i64 0] 30)
      have BV := Blk.made wz 30 #[.int .i64 0, .int .i64 0]
      have HGV : wr.heap.size ≤ wz.heap.size := OW.size
      generalize wz.alloc (.cells #[.int .i64 0, .int .i64 0] 30) = w1 at *
      generalize wz.heap.size = gv at *
      refine hK.out _ _ (timed_holds (OW1) (timed_nil)) ?_
      clear hK K
      try simp only [Act.put, tdy]
      exact HST17 w1 gv ⟨OW1, trivial, BV, HGV⟩
    ·skip
     intro wz  ⟨OW, HTT⟩
     refine timed_step (i := 17) (by kernel_rfl) rfl (fun K hK => ?_)
     go_simp
     have OW1 := OW.alloc (.cells #[.int .i64 0, .int .i64 0] 30)
     have OS : Only [] wz (wz.alloc (.cells #[.int .i64 0, .int .i64 0] 30)) := (Only.refl [] wz).alloc (.cells #[.int .i64 0, .int .i64 0] 30)
     have BV := Blk.made wz 30 #[.int .i64 0, .int .i64 0]
     have HGV : wr.heap.size ≤ wz.heap.size := OW.size
     generalize wz.alloc (.cells #[.int .i64 0, .int .i64 0] 30) = w1 at *
     generalize wz.heap.size = gv at *
     refine hK.out _ _ (timed_holds (OW1) (timed_nil)) ?_
     clear hK K
     try simp only [Act.put, tdy]
     exact HST13_17 w1 gv ⟨OW1, trivial, BV, HGV⟩
    ·skip
     intro wz gv ⟨OW, HTT, BV, HGV⟩
     refine timed_step (i := 13) (by kernel_rfl) rfl (fun K hK => ?_)
     go_simp
     refine (HLF.out _ (hO.out.trans OW)).mono ?_
     rintro e w3 ⟨rfl, O3⟩
     unfold optT optV
     have OW1 := OW.trans O3
     have OS := O3
     have BV1 := OS.blk BV (by simp)
     refine hK.out _ _ (timed_holds (OW1) (timed_nil)) ?_
     clear hK K
     try simp only [Act.put, tdy]
     refine timed_pure (i := 14) (v := ?_) rfl (by kernel_rfl) (by kernel_rfl) (by kernel_rfl) (fun _ _ _ h => h) (by kernel_rfl) (by kernel_rfl) ?_ ?_
     rotate_left
     ·(intro w; go_simp; try with_reducible rfl)
     try simp only [Act.put, tdy]
     refine timed_pure (i := 15) (v := ?_) rfl (by kernel_rfl) (by kernel_rfl) (by kernel_rfl) (fun _ _ _ h => h) (by kernel_rfl) (by kernel_rfl) ?_ ?_
     rotate_left
     ·(intro w; go_simp; try with_reducible rfl)
     try simp only [Act.put, tdy]
     refine timed_pure (i := 16) (v := ?_) rfl (by kernel_rfl) (by kernel_rfl) (by kernel_rfl) (fun _ _ _ h => h) (by kernel_rfl) (by kernel_rfl) ?_ ?_
     rotate_left
     ·(intro w; go_simp; try with_reducible rfl)
     try simp only [Act.put, tdy]
     exact HST13_17 w3 gv ⟨OW1, trivial, BV1, HGV⟩
    -- behind all of the crowd
    intro wz gv ⟨OW, HTT, BV, HGV⟩
    refine timed_step (i := 18) (by kernel_rfl) rfl (fun K hK => ?_)
    refine wp_store_blk 30 (.tmp 7) (.tmp 36) rfl gv 30 _ #[.int .i64 (v.getD (0, 0)).1, .int .i64 (v.getD (0, 0)).2] rfl rfl BV rfl (by kernel_rfl) (by kernel_rfl) ?_
    intro w9 b9 o9
    have HV9b := Lib.hid b9
    have OW9 := OW.step o9 (fun i hi hl => by simp at hi; omega)
    clear o9 b9
    refine hK.out _ _ (timed_holds (OW9) (timed_nil)) ?_
    clear hK K
    try simp only [Act.put, tdy]
    refine timed_pure (i := 19) (v := ?_) rfl (by kernel_rfl) (by kernel_rfl) (by kernel_rfl) (fun _ _ _ h => h) (by kernel_rfl) (by kernel_rfl) ?_ ?_
    rotate_left
    ·(intro w; go_simp; try with_reducible rfl)
    try simp only [Act.put, tdy]
    refine timed_done (by kernel_rfl) ?_ _
    refine NoPanic.normal ?_
    have HW9 := Lib.hid OW9
    have HO9 := Lib.hid (hO.out.trans HW9.out)
    have HB9 := Lib.hid (HW9.out.blk hB.out (by simp))
    have HV9 := Lib.hid (own_only hV.out HW9.out (by simp))
    have HC9 := Lib.hid ((HW9.out.cell (p := ⟨bl, off + k * 3 + 1, none⟩) hbr (by simp)).trans HC1.out)
    have hbr9 : bl < w9.heap.size := by have := HW9.out.size; omega
    clear HC0 HC1 HC2 OW OW9 BV HW9 hV hB HLF
    have t1 := HC9.out
    have lB := HB9.out.lt
    have y2 := HB9.out.at_ 2
    simp at y2
    generalize v.isSome = vb at *
    have hsz9 := HO9.out.size
    cases vb with
    | false =>
     have HE : Hid (whichL q (h.l.take (k + 1)) = whichL q (h.l.take k)) := Lib.hid (by rw [HWT.out, HQX.out]; simp)
     go_wp2
     go_roundw
     case rel => first | exact ⟨k + 1, by go_num, by omega, Lib.hid (by rw [HE.out]; exact HV9.out), HB9, HO9⟩ | exact ⟨_, ⟨k + 1, by go_num, by omega, Lib.hid (by rw [HE.out]; exact HV9.out), HB9, HO9⟩, rfl⟩
     case measure => simp [intOf]; omega
    | true =>
     by_cases hf : f = 2
     ·have hf1 : (f != 2) = false := by simp [hf]
      have HE : Hid (whichL q (h.l.take (k + 1)) = whichL q (h.l.take k)) := Lib.hid (by rw [HWT.out, HQX.out, hf]; simp)
      clear hf
      go_wp2
      go_roundw
      case rel => first | exact ⟨k + 1, by go_num, by omega, Lib.hid (by rw [HE.out]; exact HV9.out), HB9, HO9⟩ | exact ⟨_, ⟨k + 1, by go_num, by omega, Lib.hid (by rw [HE.out]; exact HV9.out), HB9, HO9⟩, rfl⟩
      case measure => simp [intOf]; omega
     ·have hf1 : (f != 2) = true := by simp [hf]
      have HE : Hid (whichL q (h.l.take (k + 1)) = whichL q (h.l.take k) ++ [(k : Int)]) := Lib.hid (by rw [HWT.out, HQX.out]; simp [hf])
      clear hf
      go_wp2_with (at_builtin; refine wpList_append_row _ rfl (.tmp 48) (.tmp 50) _ rfl (w.heap.size + 1) 3 i0 _ 1 8 Tryz.underlying37 hi hz0 hz1 hz2 rfl (by omega) _ _ _ rfl (own_only HV9.out ((Only.refl [] _).alloc _) (by simp)) (w9.heap.size + 1) (some ⟨w9.heap.size, 0, none⟩) 1 1 [.int .i64 (k : Int)] rfl rfl (row_lit w9 3 #[.int .i64 (k : Int)]) (by simp [Value.oneCell']) (by unfold maxLen; omega) (by omega) (by have := HO9.out.size; simp; omega) ?_; intro v4 w4 hown4 hgrow hat)
      have hb1 := HB9.out.alloc (.cells #[.int .i64 (k : Int)] 3)
      have hv1 := own_only HV9.out ((Only.refl [] w9).alloc (.cells #[.int .i64 (k : Int)] 3)) (by simp)
      have REL : w4.ownsRow (w.heap.size + 1) 3 1 v4 (whichL q (h.l.take (k + 1))).length ((whichL q (h.l.take (k + 1))).map (Value.int .i64)) ∧ Blk w4 w.heap.size 25 #[.slice A0 n0 c0, .slice A1 n1 c1, .slice (some ⟨bl, off, none⟩) n2 c2] ∧ Only [] w w4 := by
       refine ⟨?_, (only_grown hgrow).blk hb1 (own_apart hv1 hb1 (by decide)), (HO9.out.alloc _).step (only_grown hgrow) (fun i hi hl => own_new HV9.out (S := []) i hi (by omega))⟩
       rw [HE.out]
       simpa using hown4
      have HREL := Lib.hid REL
      clear REL hown4 lB y2 hb1 hv1
      go_wp2
      go_roundw
      case rel => first | exact ⟨k + 1, by go_num, by omega, Lib.hid HREL.out.1, Lib.hid HREL.out.2.1, Lib.hid HREL.out.2.2⟩ | exact ⟨_, ⟨k + 1, by go_num, by omega, Lib.hid HREL.out.1, Lib.hid HREL.out.2.1, Lib.hid HREL.out.2.2⟩, rfl⟩
      case measure => simp [intOf]; omega
   ·have hkn : k = n2 := by omega
    subst hkn
    have hd2 : decide ((k : Int) < (k : Int)) = false := by simp
    have hVV := hV.out
    rw [List.take_of_length_le (by rw [HN2.out]; exact Nat.le_refl _)] at hVV
    obtain ⟨A, c, rfl, -, -, -, hR⟩ := own_row hVV
    have HR := Lib.hid hR
    clear hV hVV hR
    go_wp2
    go_ret
    first | exact ⟨⟨_, ⟨_, rfl⟩, HR.out⟩, hO.out⟩ | exact ⟨_, _, ⟨rfl, HR.out⟩, hO.out⟩
end Go.Proofs.YtjhomlnlmpdklaaGreatDoor

set_option linter.unusedVariables false
set_option linter.unusedSimpArgs false
namespace Go.Proofs.YtjhomlnlmpdklaaGreatDoor
open Go.RowKit
open Go.Lib hiding intOf
def short11 (s : ByteArray) : ByteArray := s.extract 0 (min s.size 100)
theorem short11_size (s : ByteArray) : (short11 s).size ≤ 100 := by
 unfold short11
 rw [ByteArray.size_extract]
 omega
theorem short11_same {s : ByteArray} (h : s.size ≤ 100) : short11 s = s := by
 unfold short11
 rw [Nat.min_eq_left h]
 exact by_inj (by rw [by_extract, List.drop_zero, List.take_of_length_le (by rw [by_length]; exact Nat.le_refl _)])
def fewTx (t : Tx) : Tx := { t with ops := t.ops.take 25 }
def fewH (h : Hst) : Hst := ⟨(h.ss.take 25).map short11, (h.ks.take 45).map short11, (h.l.take 45).map fewTx⟩
theorem few_names (l : List ByteArray) (n : Nat) : (((l.take n).map short11).take n).map short11 = (l.take n).map short11 := by
 rw [List.take_of_length_le (by rw [List.length_map, List.length_take]; omega)]
 conv => rhs; rw [← List.map_id ((l.take n).map short11)]
 refine List.map_congr_left fun z hz => ?_
 obtain ⟨y, -, rfl⟩ := List.mem_map.1 hz
 exact short11_same (short11_size y)
theorem few_few (h : Hst) : fewH (fewH h) = fewH h := by
 unfold fewH
 rw [few_names, few_names]
 congr 1
 dsimp only
 rw [List.take_of_length_le (by rw [List.length_map, List.length_take]; omega)]
 conv => rhs; rw [← List.map_id ((h.l.take 45).map fewTx)]
 refine List.map_congr_left fun z hz => ?_
 obtain ⟨y, -, rfl⟩ := List.mem_map.1 hz
 unfold fewTx
 dsimp only
 rw [List.take_of_length_le (by rw [List.length_take]; omega)]
 rfl
theorem few_small (h : Hst) : HSmall (fewH h) where
 s := fun x hx => by
  obtain ⟨y, -, rfl⟩ := List.mem_map.1 hx
  have := short11_size y
  omega
 k := fun x hx => by
  obtain ⟨y, -, rfl⟩ := List.mem_map.1 hx
  have := short11_size y
  omega
 ns := by unfold fewH; dsimp only; rw [List.length_map, List.length_take]; omega
 nk := by unfold fewH; dsimp only; rw [List.length_map, List.length_take]; omega
 nl := by unfold fewH; dsimp only; rw [List.length_map, List.length_take]; omega
 no := fun t ht => by
  obtain ⟨y, -, rfl⟩ := List.mem_map.1 ht
  unfold fewTx
  dsimp only
  rw [List.length_take]
  omega
end Go.Proofs.YtjhomlnlmpdklaaGreatDoor
