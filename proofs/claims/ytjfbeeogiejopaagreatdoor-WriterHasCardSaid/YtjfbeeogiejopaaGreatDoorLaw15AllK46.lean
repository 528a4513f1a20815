/- The document's inner: Writers. The document's layer 15: Most. Few keeps what numbers are. A history as a value that a call has returned. WriterFresh: the walk. -/
import Derived.Test.YtjfbeeogiejopaaGreatDoorLaw15AllK45
import Derived.Test.YtjfbeeogiejopaaGreatDoorLaw15AllK16
import Derived.Test.YtjfbeeogiejopaaGreatDoorLaw15AllK21
import Derived.Test.YtjfbeeogiejopaaGreatDoorLaw15AllK34
import Derived.Test.YtjfbeeogiejopaaGreatDoorLaw15AllK28
import Derived.Test.YtjfbeeogiejopaaGreatDoorLaw15AllK35
import Derived.Test.YtjfbeeogiejopaaGreatDoorLaw15AllK39
import Derived.Test.YtjfbeeogiejopaaGreatDoorLaw15AllK26
set_option linter.unusedVariables false
set_option linter.unusedSimpArgs false
namespace Go.Proofs.YtjfbeeogiejopaaGreatDoor
open Go.RowKit
open Go.Lib hiding intOf
attribute [local go_sem ↓] Go.wp_at_zero Go.wp_at_succ
set_option maxRecDepth 10000 in
set_option maxHeartbeats 8000000 in
theorem rwriters_any (A0 A1 A2 : Option Addr) (n0 n1 n2 c0 c1 c2 B : Nat) (h : Hst) (key : Int) (w : World) (hg : HIn w B A0 A1 A2 n0 n1 n2 h) :
  Calls Tryz.prog 50 #[hval A0 A1 A2 n0 n1 n2 c0 c1 c2, .int .i64 key] w fun e w' => ∃ A' c', (e = .returned (.slice A' (wrtH h key).length c') ∧ Row w' w'.heap.size A' ((wrtH h key).map (Value.int .i64))) ∧ Only [] w w' := by
 have HM := Lib.hid (fun w' (O : Only [] w w') => refmay_any A0 A1 A2 n0 n1 n2 c0 c1 c2 B h w' (hg.same O))
 have hM : n2 ≤ 1000 := by
  have := hg.sm.nl
  rw [hg.n2] at this
  exact this
 have HL := Lib.hid hg.at_.r2
 have HN2 := Lib.hid hg.n2
 have HNO := Lib.hid hg.sm.no
 obtain ⟨i0, hi, hz0, hz1, hz2⟩ := info_parts info_int
 unfold hval at HM ⊢
 clear hg
 have HO1 := Lib.hid (((Only.refl [] w).alloc (.cells #[.slice A0 n0 c0, .slice A1 n1 c1, .slice A2 n2 c2] 25)).alloc (.cells #[] 3))
 have HB1 := Lib.hid ((Blk.made w 25 #[.slice A0 n0 c0, .slice A1 n1 c1, .slice A2 n2 c2]).alloc (.cells #[] 3))
 have HV1 := Lib.hid (World.ownsRow_lit (w.alloc (.cells #[.slice A0 n0 c0, .slice A1 n1 c1, .slice A2 n2 c2] 25)) (e := 3) (size := 1) #[] 0 (Nat.le_refl _) (by unfold maxLen; omega) rfl)
 rw [World.size_alloc] at HV1
 have HF := Lib.hid (HM.out _ HO1.out)
 clear HM
 unfold wrtH
 cases hm : mayH h with
 | false =>
  rw [mayH_errn2 hm] at HF
  clear hm
  rw [if_neg (by decide)]
  go_enter Tryz.func50, Tryz.ntmps50
  go_wp2_with fail
  refine (HF.out).mono ?_
  rintro e w2 ⟨rfl, O2⟩
  have HO2 := Lib.hid (HO1.out.trans O2)
  have HB2 := Lib.hid (O2.blk HB1.out (by simp))
  have HV2 := Lib.hid (own_only HV1.out O2 (by simp))
  have lB := HB2.out.lt
  have y2 := HB2.out.at_ 2
  simp at y2
  clear O2 HF HB1 HV1
  go_wp2
  go_ret
  first | exact ⟨⟨_, ⟨_, rfl⟩, .inl rfl⟩, HO2.out⟩ | exact ⟨_, _, ⟨rfl, .inl rfl⟩, HO2.out⟩
 | true =>
  rw [mayH_err2 hm] at HF
  clear hm
  rw [if_pos rfl]
  obtain ⟨q, hq⟩ : ∃ q : Tx → Bool, q = writesB key := ⟨_, rfl⟩
  rw [← hq]
  have HQ := Lib.hid hq
  clear hq
  go_enter Tryz.func50, Tryz.ntmps50
  go_wp2_with fail
  refine (HF.out).mono ?_
  rintro e w2 ⟨rfl, O2⟩
  have HO2 := Lib.hid (HO1.out.trans O2)
  have HB2 := Lib.hid (O2.blk HB1.out (by simp))
  have HV2 := Lib.hid (own_only HV1.out O2 (by simp))
  have lB := HB2.out.lt
  have y2 := HB2.out.at_ 2
  simp at y2
  clear O2 HF HB1 HV1
  go_wp2_with fail
  go_loopw [5, 6] (fun V iv wr => ∃ k : Nat, iv = .int .i64 k ∧ k ≤ n2 ∧ Hid (wr.ownsRow (w.heap.size + 1) 3 1 V (whichL q (h.l.take k)).length ((whichL q (h.l.take k)).map (Value.int .i64))) ∧ Hid (Blk wr w.heap.size 25 #[.slice A0 n0 c0, .slice A1 n1 c1, .slice A2 n2 c2]) ∧ Hid (Only [] w wr)) (fun _ iv _ => n2 - (intOf iv).toNat)
  case atStart => exact ⟨0, rfl, by omega, HV2, HB2, HO2⟩
  case round =>
   obtain ⟨k, rfl, hk, hV, hB, hO⟩ := hrel
   clear HV2 HB2 HO2 y2 lB HO1
   have hsz := hO.out.size
   have lB := hB.out.lt
   have y2 := hB.out.at_ 2
   simp at y2
   by_cases hlt : k < n2
   ·obtain ⟨x, hx⟩ : ∃ x, h.l[k]? = some x := ⟨_, List.getElem?_eq_getElem (by rw [HN2.out]; exact hlt)⟩
    obtain ⟨bl, off, A', cp, rfl, -, hbw, hT, hOk⟩ := HL.out.at_ hx
    obtain ⟨a0, a1, a2⟩ := hT.only hO.out hbw (by simp)
    have HWT := Lib.hid (which_take (p := q) hx)
    have hwl := which_le q (h.l.take k)
    rw [List.length_take] at hwl
    have hno := HNO.out x (List.mem_of_getElem? hx)
    have HROW := Lib.hid hOk.row
    obtain ⟨s, f, ops⟩ := x
    dsimp only at a0 a1 a2 hno HROW
    have HLF := Lib.hid (fun w' (O : Only [] w w') => rraw_any s f A' ops.length cp B ops.length ops key w' (HROW.out.only O (by simp)) rfl hno hno)
    rw [List.take_of_length_le (Nat.le_refl _)] at HLF
    have HQX : Hid (q ⟨s, f, ops⟩ = ((leftW key ops).isSome && !decide (f = 2))) := Lib.hid (by rw [HQ.out]; rfl)
    generalize leftW key ops = v at *
    generalize hm : ops.length = m at *
    have h01 : (k : Int) < (n2 : Int) := by omega
    have hk0 : (0 : Int) ≤ (k : Int) := Int.natCast_nonneg _
    have hwk : IntKind.i64.wrap ((k : Int) + 1) = (k : Int) + 1 := IntWalk.i64_in _ (by omega)
    have hbr : bl < wr.heap.size := by omega
    have HC0 := Lib.hid a0
    have HC1 := Lib.hid a1
    have HC2 := Lib.hid a2
    clear hT hOk hx hm a0 a1 a2
    go_upto_region 7 with (fail)
    clear y2 lB
    refine wp_region_noPanic ?_
    refine wp_region_timed (F := [⟨[], [], fun w' => Only [] wr w'⟩]) (by kernel_rfl) (timed_holds ((Only.refl [] wr).drew) (timed_nil)) ?_
    have OW : Only [] wr wr.drew := (Only.refl [] wr).drew
    generalize hwz : wr.drew = wz at *
    clear hwz
    refine tpu (i := 0) (v := ?_) ?_ ?_
    rotate_left
    ·(intro w; go_simp; try with_reducible rfl)
    try simp only [Act.put, tdy]
    refine trd (i := 1) (v := ?_) 0 ?_ ?_
    rotate_left
    ·(intro wq hSw; (try dsimp only at hSw); have hb_H := hSw.blk hB.out (by simp); have lb_H := hb_H.lt; have y2 := hb_H.at_ 2; simp at y2; clear hb_H; have t0 := (hSw.cell (p := ⟨bl, off + k * 3, none⟩) hbr (by simp)).trans HC0.out; have t1 := (hSw.cell (p := ⟨bl, off + k * 3 + 1, none⟩) hbr (by simp)).trans HC1.out; have t2 := (hSw.cell (p := ⟨bl, off + k * 3 + 2, none⟩) hbr (by simp)).trans HC2.out; clear hSw; go_simp; try with_reducible rfl)
    try simp only [Act.put, tdy]
    refine tpu (i := 2) (v := ?_) ?_ ?_
    rotate_left
    ·(intro w; go_simp; try with_reducible rfl)
    try simp only [Act.put, tdy]
    refine tpu (i := 3) (v := ?_) ?_ ?_
    rotate_left
    ·(intro w; go_simp; try with_reducible rfl)
    try simp only [Act.put, tdy]
    refine trd (i := 4) (v := ?_) 0 ?_ ?_
    rotate_left
    ·(intro wq hSw; (try dsimp only at hSw); have hb_H := hSw.blk hB.out (by simp); have lb_H := hb_H.lt; have y2 := hb_H.at_ 2; simp at y2; clear hb_H; have t0 := (hSw.cell (p := ⟨bl, off + k * 3, none⟩) hbr (by simp)).trans HC0.out; have t1 := (hSw.cell (p := ⟨bl, off + k * 3 + 1, none⟩) hbr (by simp)).trans HC1.out; have t2 := (hSw.cell (p := ⟨bl, off + k * 3 + 2, none⟩) hbr (by simp)).trans HC2.out; clear hSw; go_simp; try with_reducible rfl)
    try simp only [Act.put, tdy]
    refine tpu (i := 5) (v := ?_) ?_ ?_
    rotate_left
    ·(intro w; go_simp; try with_reducible rfl)
    try simp only [Act.put, tdy]
    refine trd (i := 6) (v := ?_) 0 ?_ ?_
    rotate_left
    ·(intro wq hSw; (try dsimp only at hSw); have hb_H := hSw.blk hB.out (by simp); have lb_H := hb_H.lt; have y2 := hb_H.at_ 2; simp at y2; clear hb_H; have t0 := (hSw.cell (p := ⟨bl, off + k * 3, none⟩) hbr (by simp)).trans HC0.out; have t1 := (hSw.cell (p := ⟨bl, off + k * 3 + 1, none⟩) hbr (by simp)).trans HC1.out; have t2 := (hSw.cell (p := ⟨bl, off + k * 3 + 2, none⟩) hbr (by simp)).trans HC2.out; clear hSw; go_simp; try with_reducible rfl)
    try simp only [Act.put, tdy]
    refine tpu (i := 7) (v := ?_) ?_ ?_
    rotate_left
    ·(intro w; go_simp; try with_reducible rfl)
    try simp only [Act.put, tdy]
    refine tpu (i := 8) (v := ?_) ?_ ?_
    rotate_left
    ·(intro w; go_simp; try with_reducible rfl)
    try simp only [Act.put, tdy]
    refine tpu (i := 9) (v := ?_) ?_ ?_
    rotate_left
    ·(intro w; go_simp; try with_reducible rfl)
    try simp only [Act.put, tdy]
    refine trd (i := 10) (v := ?_) 0 ?_ ?_
    rotate_left
    ·(intro wq hSw; (try dsimp only at hSw); have hb_H := hSw.blk hB.out (by simp); have lb_H := hb_H.lt; have y2 := hb_H.at_ 2; simp at y2; clear hb_H; have t0 := (hSw.cell (p := ⟨bl, off + k * 3, none⟩) hbr (by simp)).trans HC0.out; have t1 := (hSw.cell (p := ⟨bl, off + k * 3 + 1, none⟩) hbr (by simp)).trans HC1.out; have t2 := (hSw.cell (p := ⟨bl, off + k * 3 + 2, none⟩) hbr (by simp)).trans HC2.out; clear hSw; go_simp; try with_reducible rfl)
    try simp only [Act.put, tdy]
    refine tpu (i := 11) (v := ?_) ?_ ?_
    rotate_left
    ·(intro w; go_simp; try with_reducible rfl)
    try simp only [Act.put, tdy]
    refine tpu (i := 12) (v := ?_) ?_ ?_
    rotate_left
    ·(intro w; go_simp; try with_reducible rfl)
    try simp only [Act.put, tdy]
    apply cut_1_0 (fun w gv => (Only [] wr w) ∧ (True) ∧ (Blk w gv 38 #[.int .i64 0, .int .i64 0]) ∧ (wr.heap.size ≤ gv))
    intro HST13_17
    apply cut_1_0 (fun w gv => (Only [] wr w) ∧ (True) ∧ (Blk w gv 38 #[.int .i64 0, .int .i64 0]) ∧ (wr.heap.size ≤ gv))
    intro HST17
    apply cut_0_0 (fun w  => (Only [] wr w) ∧ (True))
    intro HST13
    ·skip
     refine timed_forks (l := [13, 17]) (by kernel_rfl) (by simp) (fork_cons ⟨_, rfl, fun K hK => ?_⟩ (fork_cons ⟨_, rfl, fun K hK => ?_⟩ (fork_nil)))
     ·go_simp
      refine (HLF.out _ (hO.out.trans OW)).mono ?_
      rintro e w3 ⟨rfl, O3⟩
      unfold optT optV
      have OW1 := OW.trans O3
      have OS := O3
      refine hK.out _ _ (timed_holds (OW1) (timed_nil)) ?_
      clear hK K
      try simp only [Act.put, tdy]
      refine tpu (i := 14) (v := ?_) ?_ ?_
      rotate_left
      ·(intro w; go_simp; try with_reducible rfl)
      try simp only [Act.put, tdy]
      refine tpu (i := 15) (v := ?_) ?_ ?_
      rotate_left
      ·(intro w; go_simp; try with_reducible rfl)
      try simp only [Act.put, tdy]
      refine tpu (i := 16) (v := ?_) ?_ ?_
      rotate_left
      ·(intro w; go_simp; try with_reducible rfl)
      try simp only [Act.put, tdy]
      exact HST13 w3  ⟨OW1, trivial⟩
     ·go_simp
      have OW1 := OW.alloc (.cells #[.int .i64 0, .int .i64 0] 38)
      have OS : Only [] wz (wz.alloc (.cells #[.int .i64 0, .int .i64 0] 38)) := (Only.refl [] wz).alloc (.cells #[.int .i64 0, .int .i64 0] 38)
      have BV := Blk.made wz 38 #[.int .i64 0, .int .i64 0]
      have HGV : wr.heap.size ≤ wz.heap.size := OW.size
      generalize wz.alloc (.cells #[.int .i64 0, .int .i64 0] 38) = w1 at *
      generalize wz.heap.size = gv at *
      refine hK.out _ _ (timed_holds (OW1) (timed_nil)) ?_
      clear hK K
      try simp only [Act.put, tdy]
      exact HST17 w1 gv ⟨OW1, trivial, BV, HGV⟩
    ·skip
     intro wz  ⟨OW, HTT⟩
     refine timed_step (i := 17) (by kernel_rfl) rfl (fun K hK => ?_)
     go_simp
     have OW1 := OW.alloc (.cells #[.int .i64 0, .int .i64 0] 38)
     have OS : Only [] wz (wz.alloc (.cells #[.int .i64 0, .int .i64 0] 38)) := (Only.refl [] wz).alloc (.cells #[.int .i64 0, .int .i64 0] 38)
     have BV := Blk.made wz 38 #[.int .i64 0, .int .i64 0]
     have HGV : wr.heap.size ≤ wz.heap.size := OW.size
     generalize wz.alloc (.cells #[.int .i64 0, .int .i64 0] 38) = w1 at *
     generalize wz.heap.size = gv at *
     refine hK.out _ _ (timed_holds (OW1) (timed_nil)) ?_
     clear hK K
     try simp only [Act.put, tdy]
     exact HST13_17 w1 gv ⟨OW1, trivial, BV, HGV⟩
    ·skip
     intro wz gv ⟨OW, HTT, BV, HGV⟩
     refine timed_step (i := 13) (by kernel_rfl) rfl (fun K hK => ?_)
     go_simp
     refine (HLF.out _ (hO.out.trans OW)).mono ?_
     rintro e w3 ⟨rfl, O3⟩
     unfold optT optV
     have OW1 := OW.trans O3
     have OS := O3
     have BV1 := OS.blk BV (by simp)
     refine hK.out _ _ (timed_holds (OW1) (timed_nil)) ?_
     clear hK K
     try simp only [Act.put, tdy]
     refine tpu (i := 14) (v := ?_) ?_ ?_
     rotate_left
     ·(intro w; go_simp; try with_reducible rfl)
     try simp only [Act.put, tdy]
     refine tpu (i := 15) (v := ?_) ?_ ?_
     rotate_left
     ·(intro w; go_simp; try with_reducible rfl)
     try simp only [Act.put, tdy]
     refine tpu (i := 16) (v := ?_) ?_ ?_
     rotate_left
     ·(intro w; go_simp; try with_reducible rfl)
     try simp only [Act.put, tdy]
     exact HST13_17 w3 gv ⟨OW1, trivial, BV1, HGV⟩
    -- behind all of the crowd
    intro wz gv ⟨OW, HTT, BV, HGV⟩
    refine timed_step (i := 18) (by kernel_rfl) rfl (fun K hK => ?_)
    refine wp_store_blk 38 (.tmp 7) (.tmp 36) rfl gv 38 _ #[.int .i64 (v.getD (0, 0)).1, .int .i64 (v.getD (0, 0)).2] rfl rfl BV rfl (by kernel_rfl) (by kernel_rfl) ?_
    intro w9 b9 o9
    have HV9b := Lib.hid b9
    have OW9 := OW.step o9 (fun i hi hl => by simp at hi; omega)
    clear o9 b9
    refine hK.out _ _ (timed_holds (OW9) (timed_nil)) ?_
    clear hK K
    try simp only [Act.put, tdy]
    refine tpu (i := 19) (v := ?_) ?_ ?_
    rotate_left
    ·(intro w; go_simp; try with_reducible rfl)
    try simp only [Act.put, tdy]
    refine timed_done (by kernel_rfl) ?_ _
    refine NoPanic.normal ?_
    have HW9 := Lib.hid OW9
    have HO9 := Lib.hid (hO.out.trans HW9.out)
    have HB9 := Lib.hid (HW9.out.blk hB.out (by simp))
    have HV9 := Lib.hid (own_only hV.out HW9.out (by simp))
    have HC9 := Lib.hid ((HW9.out.cell (p := ⟨bl, off + k * 3 + 1, none⟩) hbr (by simp)).trans HC1.out)
    have hbr9 : bl < w9.heap.size := by have := HW9.out.size; omega
    clear HC0 HC1 HC2 OW OW9 BV HW9 hV hB HLF
    have t1 := HC9.out
    have lB := HB9.out.lt
    have y2 := HB9.out.at_ 2
    simp at y2
    generalize v.isSome = vb at *
    have hsz9 := HO9.out.size
    cases vb with
    | false =>
     have HE : Hid (whichL q (h.l.take (k + 1)) = whichL q (h.l.take k)) := Lib.hid (by rw [HWT.out, HQX.out]; simp)
     go_wp2
     go_roundw
     case rel => first | exact ⟨k + 1, by go_num, by omega, Lib.hid (by rw [HE.out]; exact HV9.out), HB9, HO9⟩ | exact ⟨_, ⟨k + 1, by go_num, by omega, Lib.hid (by rw [HE.out]; exact HV9.out), HB9, HO9⟩, rfl⟩
     case measure => simp [intOf]; omega
    | true =>
     by_cases hf : f = 2
     ·have hf1 : (f != 2) = false := by simp [hf]
      have HE : Hid (whichL q (h.l.take (k + 1)) = whichL q (h.l.take k)) := Lib.hid (by rw [HWT.out, HQX.out, hf]; simp)
      clear hf
      go_wp2
      go_roundw
      case rel => first | exact ⟨k + 1, by go_num, by omega, Lib.hid (by rw [HE.out]; exact HV9.out), HB9, HO9⟩ | exact ⟨_, ⟨k + 1, by go_num, by omega, Lib.hid (by rw [HE.out]; exact HV9.out), HB9, HO9⟩, rfl⟩
      case measure => simp [intOf]; omega
     ·have hf1 : (f != 2) = true := by simp [hf]
      have HE : Hid (whichL q (h.l.take (k + 1)) = whichL q (h.l.take k) ++ [(k : Int)]) := Lib.hid (by rw [HWT.out, HQX.out]; simp [hf])
      clear hf
      go_wp2_with (at_builtin; refine wpList_append_row _ rfl (.tmp 48) (.tmp 50) _ rfl (w.heap.size + 1) 3 i0 _ 1 8 Tryz.underlying30 hi hz0 hz1 hz2 rfl (by omega) _ _ _ rfl (own_only HV9.out ((Only.refl [] _).alloc _) (by simp)) (w9.heap.size + 1) (some ⟨w9.heap.size, 0, none⟩) 1 1 [.int .i64 (k : Int)] rfl rfl (row_lit w9 3 #[.int .i64 (k : Int)]) (by simp [Value.oneCell']) (by unfold maxLen; omega) (by omega) (by have := HO9.out.size; simp; omega) ?_; intro v4 w4 hown4 hgrow hat)
      have hb1 := HB9.out.alloc (.cells #[.int .i64 (k : Int)] 3)
      have hv1 := own_only HV9.out ((Only.refl [] w9).alloc (.cells #[.int .i64 (k : Int)] 3)) (by simp)
      have REL : w4.ownsRow (w.heap.size + 1) 3 1 v4 (whichL q (h.l.take (k + 1))).length ((whichL q (h.l.take (k + 1))).map (Value.int .i64)) ∧ Blk w4 w.heap.size 25 #[.slice A0 n0 c0, .slice A1 n1 c1, .slice (some ⟨bl, off, none⟩) n2 c2] ∧ Only [] w w4 := by
       refine ⟨?_, (only_grown hgrow).blk hb1 (own_apart hv1 hb1 (by decide)), (HO9.out.alloc _).step (only_grown hgrow) (fun i hi hl => own_new HV9.out (S := []) i hi (by omega))⟩
       rw [HE.out]
       simpa using hown4
      have HREL := Lib.hid REL
      clear REL hown4 lB y2 hb1 hv1
      go_wp2
      go_roundw
      case rel => first | exact ⟨k + 1, by go_num, by omega, Lib.hid HREL.out.1, Lib.hid HREL.out.2.1, Lib.hid HREL.out.2.2⟩ | exact ⟨_, ⟨k + 1, by go_num, by omega, Lib.hid HREL.out.1, Lib.hid HREL.out.2.1, Lib.hid HREL.out.2.2⟩, rfl⟩
      case measure => simp [intOf]; omega
   ·have hkn : k = n2 := by omega
    subst hkn
    have hd2 : decide ((k : Int) < (k : Int)) = false := by simp
    have hVV := hV.out
    rw [List.take_of_length_le (by rw [HN2.out]; exact Nat.le_refl _)] at hVV
    obtain ⟨A, c, rfl, -, -, -, hR⟩ := own_row hVV
    have HR := Lib.hid hR
    clear hV hVV hR
    go_wp2
    go_ret
    first | exact ⟨⟨_, ⟨_, rfl⟩, HR.out⟩, hO.out⟩ | exact ⟨_, _, ⟨rfl, HR.out⟩, hO.out⟩
end Go.Proofs.YtjfbeeogiejopaaGreatDoor

set_option linter.unusedVariables false
set_option linter.unusedSimpArgs false
namespace Go.Proofs.YtjfbeeogiejopaaGreatDoor
open Go.RowKit
open Go.Lib hiding intOf
attribute [local go_sem ↓] Go.wp_at_zero Go.wp_at_succ
set_option maxRecDepth 10000 in
set_option maxHeartbeats 4000000 in
theorem rmost15_any (A0 A1 A2 : Option Addr) (n0 n1 n2 c0 c1 c2 B : Nat) (h : Hst) (w : World) (hg : HIn w B A0 A1 A2 n0 n1 n2 h) :
  Calls Tryz.prog 20 #[hval A0 A1 A2 n0 n1 n2 c0 c1 c2] w fun e w' => e = .returned (.int .i64 (mostH h : Int)) ∧ Only [] w w' := by
 have HF := Lib.hid (fun w' (O : Only [] w w') => refmay_any A0 A1 A2 n0 n1 n2 c0 c1 c2 B h w' (hg.same O))
 have HWR := Lib.hid (fun (key : Int) w' (O : Only [] w w') => rwriters_any A0 A1 A2 n0 n1 n2 c0 c1 c2 B h key w' (hg.same O))
 have HN1 := Lib.hid hg.n1
 have HN2 := Lib.hid hg.n2
 have hn1 : n1 ≤ 1000 := by have := hg.sm.nk; rw [hg.n1] at this; exact this
 have hn2 : n2 ≤ 1000 := by have := hg.sm.nl; rw [hg.n2] at this; exact this
 unfold hval at HF HWR ⊢
 clear hg
 have HO1 := Lib.hid ((Only.refl [] w).alloc (.cells #[.slice A0 n0 c0, .slice A1 n1 c1, .slice A2 n2 c2] 25))
 have HB1 := Lib.hid (Blk.made w 25 #[.slice A0 n0 c0, .slice A1 n1 c1, .slice A2 n2 c2])
 cases hm : mayH h with
 | false =>
  rw [mayH_errn2 hm] at HF
  have HE : Hid (mostH h = 0) := Lib.hid (by unfold mostH; rw [hm]; rfl)
  clear hm HWR
  go_enter Tryz.func20, Tryz.ntmps20
  go_wp2_with fail
  go_loopw [3, 4] (fun nv kv wr => nv = .int .i64 0 ∧ kv = .int .i64 0 ∧ Hid (Blk wr w.heap.size 25 #[.slice A0 n0 c0, .slice A1 n1 c1, .slice A2 n2 c2]) ∧ Hid (Only [] w wr)) (fun _ _ _ => 0)
  case atStart => exact ⟨rfl, rfl, HB1, HO1⟩
  case round =>
   obtain ⟨rfl, rfl, hB, hO⟩ := hrel
   have lB := hB.out.lt
   have y0 := hB.out.at_ 0
   have y1 := hB.out.at_ 1
   have y2 := hB.out.at_ 2
   simp at y0 y1 y2
   clear HB1 HO1
   by_cases h0 : 0 < n1
   ·have d0 : decide ((0 : Int) < (n1 : Int)) = true := decide_eq_true (by omega)
    have d0' : decide (0 < n1) = true := decide_eq_true h0
    go_wp2_with fail
    refine (HF.out _ hO.out).mono ?_
    rintro e w2 ⟨rfl, O2⟩
    have HO2 := Lib.hid (hO.out.trans O2)
    go_wp2
    go_ret
    exact ⟨by rw [HE.out]; rfl, HO2.out⟩
   ·have d0 : decide ((0 : Int) < (n1 : Int)) = false := decide_eq_false (by omega)
    have d0' : decide (0 < n1) = false := decide_eq_false h0
    go_wp2
    go_ret
    exact ⟨by rw [HE.out]; rfl, hO.out⟩
 | true =>
  rw [mayH_err2 hm] at HF
  have HE : Hid (mostH h = mostN h.l n1) := Lib.hid (by unfold mostH; rw [hm, if_pos rfl, HN1.out])
  have HWL : Hid (∀ key : Int, (wrtH h key).length = manyW h.l key) := Lib.hid (fun key => by unfold wrtH manyW; rw [if_pos hm])
  clear hm
  go_enter Tryz.func20, Tryz.ntmps20
  go_wp2_with fail
  go_loopw [3, 4] (fun nv kv wr => ∃ k : Nat, kv = .int .i64 (k : Int) ∧ k ≤ n1 ∧ nv = .int .i64 (mostN h.l k : Int) ∧ Hid (Blk wr w.heap.size 25 #[.slice A0 n0 c0, .slice A1 n1 c1, .slice A2 n2 c2]) ∧ Hid (Only [] w wr)) (fun _ kv _ => n1 - (intOf kv).toNat)
  case atStart => exact ⟨0, rfl, by omega, rfl, HB1, HO1⟩
  case round =>
   obtain ⟨k, rfl, hk, rfl, hB, hO⟩ := hrel
   have lB := hB.out.lt
   have y0 := hB.out.at_ 0
   have y1 := hB.out.at_ 1
   have y2 := hB.out.at_ 2
   simp at y0 y1 y2
   clear HB1 HO1
   by_cases hlt : k < n1
   ·have h01 : (k : Int) < (n1 : Int) := by omega
    have hk0 : (0 : Int) ≤ (k : Int) := Int.natCast_nonneg _
    have hwk : IntKind.i64.wrap ((k : Int) + 1) = (k : Int) + 1 := IntWalk.i64_in _ (by omega)
    have HMX : Hid (mostN h.l (k + 1) = max (mostN h.l k) (manyW h.l (k : Int))) := Lib.hid rfl
    have HCW := Lib.hid (fun w' O => HWR.out (k : Int) w' O)
    rw [HWL.out] at HCW
    have hmk := mostN_le h.l k
    have hmw := manyW_le h.l (k : Int)
    rw [HN2.out] at hmk hmw
    generalize mostN h.l k = mk at *
    generalize manyW h.l (k : Int) = q at *
    go_wp2_with fail
    refine (HF.out _ hO.out).mono ?_
    rintro e w2 ⟨rfl, O2⟩
    have HO2 := Lib.hid (hO.out.trans O2)
    have HB2 := Lib.hid (O2.blk hB.out (by simp))
    clear O2 lB y0 y1 y2 hB hO
    have lB := HB2.out.lt
    have y0 := HB2.out.at_ 0
    have y1 := HB2.out.at_ 1
    have y2 := HB2.out.at_ 2
    simp at y0 y1 y2
    go_wp2_with fail
    refine (HCW.out _ HO2.out).mono ?_
    rintro e w3 ⟨A', c', ⟨rfl, -⟩, O3⟩
    have HO3 := Lib.hid (HO2.out.trans O3)
    have HB3 := Lib.hid (O3.blk HB2.out (by simp))
    have hmax : max (mk : Int) (q : Int) = ((max mk q : Nat) : Int) := by omega
    clear O3 lB y0 y1 y2 HB2 HO2
    go_wp2
    go_roundw
    case rel => exact ⟨k + 1, by go_num, by omega, by rw [HMX.out], HB3, HO3⟩
    case measure => simp [intOf]; omega
   ·have hkn : k = n1 := by omega
    subst hkn
    have hd2 : decide ((k : Int) < (k : Int)) = false := by simp
    go_wp2
    go_ret
    exact ⟨by rw [HE.out]; rfl, hO.out⟩
end Go.Proofs.YtjfbeeogiejopaaGreatDoor

set_option linter.unusedVariables false
set_option linter.unusedSimpArgs false
namespace Go.Proofs.YtjfbeeogiejopaaGreatDoor
theorem few_int {h : Hst} (hI : HInt h) : HInt (fewH h) := fun t ht x hx => by
 obtain ⟨u, hu, rfl⟩ := List.mem_map.1 ht
 exact hI u (List.mem_of_mem_take hu) x (List.mem_of_mem_take hx)
end Go.Proofs.YtjfbeeogiejopaaGreatDoor

set_option linter.unusedVariables false
set_option linter.unusedSimpArgs false
namespace Go.Proofs.YtjfbeeogiejopaaGreatDoor
/-- The value y is a history that lies there. -/
def HAgg (w : World) (m0 m1 m2 : Nat) (G : Hst) (y : Value) : Prop := ∃ B D0 D1 D2 f0 f1 f2, y = .agg #[.slice D0 m0 f0, .slice D1 m1 f1, .slice D2 m2 f2] ∧ HIn w B D0 D1 D2 m0 m1 m2 G
theorem HAgg.same {w w' : World} {m0 m1 m2 : Nat} {G : Hst} {y : Value} (h : HAgg w m0 m1 m2 G y) (O : Only [] w w') : HAgg w' m0 m1 m2 G y := by
 obtain ⟨B, D0, D1, D2, f0, f1, f2, e, hI⟩ := h
 exact ⟨B, D0, D1, D2, f0, f1, f2, e, hI.same O⟩
end Go.Proofs.YtjfbeeogiejopaaGreatDoor

set_option linter.unusedVariables false
set_option linter.unusedSimpArgs false
namespace Go.Proofs.YtjfbeeogiejopaaGreatDoor
open Go.RowKit
open Go.Lib hiding intOf
attribute [local go_sem ↓] Go.wp_at_zero Go.wp_at_succ
set_option maxRecDepth 10000 in
set_option maxHeartbeats 8000000 in
theorem writerFresh_walk (A0 A1 A2 : Option Addr) (c0 c1 c2 : Nat) (h : Hst) (key : Int) (w : World) (hg : HAt w w.heap.size A0 A1 A2 h) (hm0 : h.ss.length ≤ maxLen) (hm1 : h.ks.length ≤ maxLen) (hm2 : h.l.length ≤ maxLen)
  (hz0 : ∀ z ∈ h.ss, z.size ≤ maxLen) (hz1 : ∀ z ∈ h.ks, z.size ≤ maxLen) (hI : HInt h) (hT : UTabs w) (hM : MLen w) (hV : Verbs w) :
  Calls Tryz.prog 4 #[hval A0 A1 A2 h.ss.length h.ks.length h.l.length c0 c1 c2, .int .i64 key] w fun e w' => e = .returned (.bool true) ∧ Only [] w w' := by
 unfold hval
 have HW := Lib.hid (fun w' (h : Only [] w w') => works15_any w' (hT.only h) (hM.only h) (hV.only h))
 have HF0 := Lib.hid (fun w' (O : Only [] w w') => few_first A0 A1 A2 c0 c1 c2 h w' (hg.only O (by simp)).up hm0 hm1 hm2 hz0 hz1 (hT.only O))
 have HFE := Lib.hid (few_few h)
 have HIG := few_int hI
 have HT := Lib.hid hT
 generalize fewH h = G at *
 generalize h.ss.length = n0 at *
 generalize h.ks.length = n1 at *
 generalize h.l.length = n2 at *
 generalize G.ss.length = m0 at *
 generalize G.ks.length = m1 at *
 generalize G.l.length = m2 at *
 clear hg hm0 hm1 hm2 hz0 hz1 hT hM hV hI
 have HB := Lib.hid (Blk.made w 25 #[.slice A0 n0 c0, .slice A1 n1 c1, .slice A2 n2 c2])
 have HO1 := Lib.hid ((Only.refl [] w).alloc (.cells #[.slice A0 n0 c0, .slice A1 n1 c1, .slice A2 n2 c2] 25))
 have HFR := Lib.hid (fun (D0 D1 D2 : Option Addr) (f0 f1 f2 B : Nat) w' (hI : HIn w' B D0 D1 D2 m0 m1 m2 G) => wfresh_any D0 D1 D2 m0 m1 m2 f0 f1 f2 B G key w' hI HIG)
 have HRFR := Lib.hid (fun (D0 D1 D2 : Option Addr) (f0 f1 f2 B : Nat) w' (hI : HIn w' B D0 D1 D2 m0 m1 m2 G) => rfresh15_any D0 D1 D2 m0 m1 m2 f0 f1 f2 B G key w' hI (fun hm => ⟨(may_ops hm).1, (may_ops hm).2.1⟩))
 have HMO := Lib.hid (fun (D0 D1 D2 : Option Addr) (f0 f1 f2 B : Nat) w' (hI : HIn w' B D0 D1 D2 m0 m1 m2 G) => wmost_any D0 D1 D2 m0 m1 m2 f0 f1 f2 B G w' hI)
 have HRMO := Lib.hid (fun (D0 D1 D2 : Option Addr) (f0 f1 f2 B : Nat) w' (hI : HIn w' B D0 D1 D2 m0 m1 m2 G) => rmost15_any D0 D1 D2 m0 m1 m2 f0 f1 f2 B G w' hI)
 unfold hval at HFR HRFR HMO HRMO
 unfold agV at HFR HRFR
 generalize (freshV G key).1 = q1 at *
 generalize (freshV G key).2 = q2 at *
 generalize mostH G = q3 at *
 clear HIG
 go_enter Tryz.func4, Tryz.ntmps4
 go_wp2_with fail
 refine (HF0.out _ HO1.out).mono ?_
 rintro e w2 ⟨B0, B1, B2, d0, d1, d2, ⟨rfl, hI⟩, O2⟩
 have HI := Lib.hid hI
 have HB2 := Lib.hid (O2.blk HB.out (by simp))
 have HO2 := Lib.hid (HO1.out.trans O2)
 clear hI O2 HB HO1 HF0
 go_wp2_with (refine wpList_store_blk rfl 25 (.tmp 2) (.tmp 6) rfl w.heap.size 25 _ #[.slice B0 m0 d0, .slice B1 m1 d1, .slice B2 m2 d2] rfl rfl HB2.out rfl (by kernel_rfl) (by kernel_rfl) ?_; intro w3 hb3 o3; have HB3 := Lib.hid hb3; have HO3 := Lib.hid (HO2.out.step o3 (fun i hi hl => by simp at hi; omega)); have HI3 := Lib.hid (HI.out.past HB2.out o3 (HT.out.only HO3.out)); clear hb3 o3; generalize hg1 : w.heap.size = g at *; clear HI HB2 HO2)
 refine wp_region_noPanic ?_
 refine wp_region_timed (F := [⟨[], [], fun w' => Only [] w3 w'⟩]) (by kernel_rfl) (timed_holds ((Only.refl [] w3).drew) (timed_nil)) ?_
 refine trd (i := 0) (v := ?_) 0 ?_ ?_
 rotate_left
 ·(intro wq hSw; (try dsimp only at hSw); have hb_H := hSw.blk HB3.out (by simp); have lb_H := hb_H.lt; have y0 := hb_H.at_ 0; have y1 := hb_H.at_ 1; have y2 := hb_H.at_ 2; simp at y0 y1 y2; clear hb_H; clear hSw; go_simp; try with_reducible rfl)
 try simp only [Act.put, tdy]
 refine tpu (i := 2) (v := ?_) ?_ ?_
 rotate_left
 ·(intro w; go_simp; try with_reducible rfl)
 try simp only [Act.put, tdy]
 refine trd (i := 4) (v := ?_) 0 ?_ ?_
 rotate_left
 ·(intro wq hSw; (try dsimp only at hSw); have hb_H := hSw.blk HB3.out (by simp); have lb_H := hb_H.lt; have y0 := hb_H.at_ 0; have y1 := hb_H.at_ 1; have y2 := hb_H.at_ 2; simp at y0 y1 y2; clear hb_H; clear hSw; go_simp; try with_reducible rfl)
 try simp only [Act.put, tdy]
 refine tpu (i := 5) (v := ?_) ?_ ?_
 rotate_left
 ·(intro w; go_simp; try with_reducible rfl)
 try simp only [Act.put, tdy]
 refine timed_step (i := 1) (by kernel_rfl) rfl (fun K hK => ?_)
 go_simp
 refine (few_in _ _ _ _ _ _ _ _ _ _ _ _ (HI3.out.same (Only.refl [] w3).drew) HFE.out).mono ?_
 rintro e w4 ⟨D0, D1, D2, f0, f1, f2, ⟨rfl, hI4⟩, O4⟩
 have HI4 := Lib.hid hI4
 have HO4 := Lib.hid ((Only.refl [] w3).drew.trans O4)
 clear hI4 O4
 refine hK.out _ _ (timed_holds (HO4.out) (timed_nil)) ?_
 clear hK K
 try simp only [Act.put, tdy]
 refine timed_step (i := 3) (by kernel_rfl) rfl (fun K hK => ?_)
 go_simp
 refine (HFR.out _ _ _ _ _ _ _ _ HI4.out).mono ?_
 rintro e w5 ⟨rfl, O5⟩
 have HO5 := Lib.hid (HO4.out.trans O5)
 clear O5 HI4
 refine hK.out _ _ (timed_holds (HO5.out) (timed_nil)) ?_
 clear hK K
 try simp only [Act.put, tdy]
 refine timed_step (i := 6) (by kernel_rfl) rfl (fun K hK => ?_)
 go_simp
 refine (HRFR.out _ _ _ _ _ _ _ _ (HI3.out.same HO5.out)).mono ?_
 rintro e w6 ⟨rfl, O6⟩
 have HO6 := Lib.hid (HO5.out.trans O6)
 clear O6
 refine hK.out _ _ (timed_holds (HO6.out) (timed_nil)) ?_
 clear hK K
 try simp only [Act.put, tdy]
 refine tpu (i := 7) (v := ?_) ?_ ?_
 rotate_left
 ·(intro w; go_simp; try with_reducible rfl)
 try simp only [Act.put, tdy]
 refine tpu (i := 8) (v := ?_) ?_ ?_
 rotate_left
 ·(intro w; go_simp; try with_reducible rfl)
 try simp only [Act.put, tdy]
 refine trd (i := 9) (v := ?_) 0 ?_ ?_
 rotate_left
 ·(intro wq hSw; (try dsimp only at hSw); have hb_H := hSw.blk HB3.out (by simp); have lb_H := hb_H.lt; have y0 := hb_H.at_ 0; have y1 := hb_H.at_ 1; have y2 := hb_H.at_ 2; simp at y0 y1 y2; clear hb_H; clear hSw; go_simp; try with_reducible rfl)
 try simp only [Act.put, tdy]
 refine trd (i := 12) (v := ?_) 0 ?_ ?_
 rotate_left
 ·(intro wq hSw; (try dsimp only at hSw); have hb_H := hSw.blk HB3.out (by simp); have lb_H := hb_H.lt; have y0 := hb_H.at_ 0; have y1 := hb_H.at_ 1; have y2 := hb_H.at_ 2; simp at y0 y1 y2; clear hb_H; clear hSw; go_simp; try with_reducible rfl)
 try simp only [Act.put, tdy]
 refine timed_step (i := 10) (by kernel_rfl) rfl (fun K hK => ?_)
 go_simp
 refine (few_in _ _ _ _ _ _ _ _ _ _ _ _ (HI3.out.same HO6.out) HFE.out).mono ?_
 rintro e w8 ⟨E0, E1, E2, k0, k1, k2, ⟨rfl, hI8⟩, O8⟩
 have HI8 := Lib.hid hI8
 have HO8 := Lib.hid (HO6.out.trans O8)
 clear hI8 O8
 refine hK.out _ _ (timed_holds (HO8.out) (timed_nil)) ?_
 clear hK K
 try simp only [Act.put, tdy]
 refine timed_step (i := 11) (by kernel_rfl) rfl (fun K hK => ?_)
 go_simp
 refine (HMO.out _ _ _ _ _ _ _ _ HI8.out).mono ?_
 rintro e w9 ⟨rfl, O9⟩
 have HO9 := Lib.hid (HO8.out.trans O9)
 clear O9 HI8
 refine hK.out _ _ (timed_holds (HO9.out) (timed_nil)) ?_
 clear hK K
 try simp only [Act.put, tdy]
 refine timed_step (i := 13) (by kernel_rfl) rfl (fun K hK => ?_)
 go_simp
 refine (HRMO.out _ _ _ _ _ _ _ _ (HI3.out.same HO9.out)).mono ?_
 rintro e w10 ⟨rfl, O10⟩
 have HO10 := Lib.hid (HO9.out.trans O10)
 clear O10
 refine hK.out _ _ (timed_holds (HO10.out) (timed_nil)) ?_
 clear hK K
 try simp only [Act.put, tdy]
 refine tpu (i := 14) (v := ?_) ?_ ?_
 rotate_left
 ·(intro w; go_simp; try with_reducible rfl)
 try simp only [Act.put, tdy]
 refine tpu (i := 15) (v := ?_) ?_ ?_
 rotate_left
 ·(intro w; go_simp; try with_reducible rfl)
 try simp only [Act.put, tdy]
 refine tpu (i := 16) (v := ?_) ?_ ?_
 rotate_left
 ·(intro w; go_simp; try with_reducible rfl)
 try simp only [Act.put, tdy]
 refine timed_step (i := 17) (by kernel_rfl) rfl (fun K hK => ?_)
 go_simp
 refine (HW.out _ (HO3.out.trans HO10.out)).mono ?_
 rintro e w12 ⟨rfl, O12⟩
 have HO12 := Lib.hid (HO10.out.trans O12)
 clear O12
 refine hK.out _ _ (timed_holds (HO12.out) (timed_nil)) ?_
 clear hK K
 try simp only [Act.put, tdy]
 refine tpu (i := 18) (v := ?_) ?_ ?_
 rotate_left
 ·(intro w; go_simp; try with_reducible rfl)
 try simp only [Act.put, tdy]
 refine tpu (i := 19) (v := ?_) ?_ ?_
 rotate_left
 ·(intro w; go_simp; try with_reducible rfl)
 try simp only [Act.put, tdy]
 refine timed_done (by kernel_rfl) ?_ _
 refine NoPanic.normal ?_
 have HNW := Lib.hid (HO3.out.trans (HO12.out))
 go_wp2
 go_ret
 exact ⟨rfl, HNW.out⟩
end Go.Proofs.YtjfbeeogiejopaaGreatDoor
