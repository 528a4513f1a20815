/- The document's inner: Bad. -/
import Derived.Test.YtjhomlnlmpdklaaGreatDoorInnerLeavesCardK44
import Derived.Test.YtjhomlnlmpdklaaGreatDoorInnerLeavesCardK18
import Derived.Test.YtjhomlnlmpdklaaGreatDoorInnerLeavesCardK25
import Derived.Test.YtjhomlnlmpdklaaGreatDoorInnerLeavesCardK9
set_option linter.unusedVariables false
set_option linter.unusedSimpArgs false
namespace Go.Proofs.YtjhomlnlmpdklaaGreatDoor
open Go.RowKit
open Go.Lib hiding intOf
attribute [local go_sem ↓] Go.wp_at_zero Go.wp_at_succ
set_option maxRecDepth 10000 in
set_option maxHeartbeats 8000000 in
theorem rbad_any (A0 A1 A2 : Option Addr) (n0 n1 n2 c0 c1 c2 B : Nat) (h : Hst) (a : Int) (w : World) (hg : HIn w B A0 A1 A2 n0 n1 n2 h) :
  Calls Tryz.prog 19 #[hval A0 A1 A2 n0 n1 n2 c0 c1 c2, .int .i64 a] w fun e w' => ∃ A' c', (e = .returned (.slice A' (badH h a).length c') ∧ Row w' w'.heap.size A' ((badH h a).map (Value.int .i64))) ∧ Only [] w w' := by
 have HM := Lib.hid (fun w' (O : Only [] w w') => refmay_any A0 A1 A2 n0 n1 n2 c0 c1 c2 B h w' (hg.same O))
 have hM : n2 ≤ 1000 := by
  have := hg.sm.nl
  rw [hg.n2] at this
  exact this
 have HL := Lib.hid hg.at_.r2
 have HN2 := Lib.hid hg.n2
 have HNO := Lib.hid hg.sm.no
 obtain ⟨i0, hi, hz0, hz1, hz2⟩ := info_parts info_int
 unfold hval at HM ⊢
 clear hg
 have HO1 := Lib.hid (((Only.refl [] w).alloc (.cells #[.slice A0 n0 c0, .slice A1 n1 c1, .slice A2 n2 c2] 25)).alloc (.cells #[] 3))
 have HB1 := Lib.hid ((Blk.made w 25 #[.slice A0 n0 c0, .slice A1 n1 c1, .slice A2 n2 c2]).alloc (.cells #[] 3))
 have HV1 := Lib.hid (World.ownsRow_lit (w.alloc (.cells #[.slice A0 n0 c0, .slice A1 n1 c1, .slice A2 n2 c2] 25)) (e := 3) (size := 1) #[] 0 (Nat.le_refl _) (by unfold maxLen; omega) rfl)
 rw [World.size_alloc] at HV1
 have HF := Lib.hid (HM.out _ HO1.out)
 clear HM
 cases hm : mayH h with
 | false =>
  rw [mayH_errn2 hm] at HF
  rw [bad_none (txAt_no hm)]
  clear hm
  go_enter Tryz.func19, Tryz.ntmps19
  go_wp2_with fail
  refine (HF.out).mono ?_
  rintro e w2 ⟨rfl, O2⟩
  have HO2 := Lib.hid (HO1.out.trans O2)
  have HB2 := Lib.hid (O2.blk HB1.out (by simp))
  have HV2 := Lib.hid (own_only HV1.out O2 (by simp))
  have lB := HB2.out.lt
  have y2 := HB2.out.at_ 2
  simp at y2
  clear O2 HF HB1 HV1
  go_wp2
  go_ret
  first | exact ⟨⟨_, ⟨_, rfl⟩, .inl rfl⟩, HO2.out⟩ | exact ⟨_, _, ⟨rfl, .inl rfl⟩, HO2.out⟩
 | true =>
  rw [mayH_err2 hm] at HF
  by_cases h1 : a < 0
  ·rw [bad_none (txAt_neg h1)]
   have d1 : decide (a < 0) = true := decide_eq_true h1
   clear hm h1
   go_enter Tryz.func19, Tryz.ntmps19
   go_wp2_with fail
   refine (HF.out).mono ?_
   rintro e w2 ⟨rfl, O2⟩
   have HO2 := Lib.hid (HO1.out.trans O2)
   have HB2 := Lib.hid (O2.blk HB1.out (by simp))
   have HV2 := Lib.hid (own_only HV1.out O2 (by simp))
   have lB := HB2.out.lt
   have y2 := HB2.out.at_ 2
   simp at y2
   clear O2 HF HB1 HV1
   go_wp2
   go_ret
   first | exact ⟨⟨_, ⟨_, rfl⟩, .inl rfl⟩, HO2.out⟩ | exact ⟨_, _, ⟨rfl, .inl rfl⟩, HO2.out⟩
  ·have d1 : decide (a < 0) = false := decide_eq_false h1
   by_cases h2 : (n2 : Int) ≤ a
   ·rw [bad_none (txAt_big (by rw [HN2.out]; exact h2))]
    have d2 : decide ((n2 : Int) ≤ a) = true := decide_eq_true h2
    clear hm h1 h2
    go_enter Tryz.func19, Tryz.ntmps19
    go_wp2_with fail
    refine (HF.out).mono ?_
    rintro e w2 ⟨rfl, O2⟩
    have HO2 := Lib.hid (HO1.out.trans O2)
    have HB2 := Lib.hid (O2.blk HB1.out (by simp))
    have HV2 := Lib.hid (own_only HV1.out O2 (by simp))
    have lB := HB2.out.lt
    have y2 := HB2.out.at_ 2
    simp at y2
    clear O2 HF HB1 HV1
    go_wp2
    go_ret
    first | exact ⟨⟨_, ⟨_, rfl⟩, .inl rfl⟩, HO2.out⟩ | exact ⟨_, _, ⟨rfl, .inl rfl⟩, HO2.out⟩
   ·have d2 : decide ((n2 : Int) ≤ a) = false := decide_eq_false h2
    obtain ⟨k, rfl⟩ : ∃ k : Nat, a = k := ⟨a.toNat, by omega⟩
    obtain ⟨t, hx⟩ : ∃ t, h.l[k]? = some t := ⟨_, List.getElem?_eq_getElem (by rw [HN2.out]; omega)⟩
    rw [bad_some (txAt_yes hm hx)]
    obtain ⟨bl, off, A', cp, rfl, -, hbw, hT, hOk⟩ := HL.out.at_ hx
    have hno := HNO.out t (List.mem_of_getElem? hx)
    have HT := Lib.hid (hT.only HO1.out hbw (by simp))
    have hk0 : (0 : Int) ≤ (k : Int) := by omega
    have hk2 : (k : Int) < (n2 : Int) := by omega
    have d3 : decide (n2 ≤ k) = false := decide_eq_false (by omega)
    have HROW := Lib.hid hOk.row
    obtain ⟨s, f, ops⟩ := t
    dsimp only at HROW hno HT ⊢
    have HRW := Lib.hid (fun (i : Nat) (key : Int) (hi : i ≤ 1000) w' (O : Only [] w w') => rraw_any s f A' ops.length cp B i ops key w' (HROW.out.only O (by simp)) rfl hno hi)
    generalize hmm : ops.length = m at *
    have hbr : bl < ((w.alloc (.cells #[.slice A0 n0 c0, .slice A1 n1 c1, .slice (some ⟨bl, off, none⟩) n2 c2] 25)).alloc (.cells #[] 3)).heap.size := by simp; omega
    clear hm h1 h2 hx hT hOk
    go_enter Tryz.func19, Tryz.ntmps19
    go_wp2_with fail
    refine (HF.out).mono ?_
    rintro e w2 ⟨rfl, O2⟩
    have HO2 := Lib.hid (HO1.out.trans O2)
    have HB2 := Lib.hid (O2.blk HB1.out (by simp))
    have HV2 := Lib.hid (own_only HV1.out O2 (by simp))
    have lB := HB2.out.lt
    have y2 := HB2.out.at_ 2
    simp at y2
    obtain ⟨t0, t1, t2⟩ := HT.out.only O2 hbr (by simp)
    dsimp only at t0 t1 t2
    rw [hmm] at t2
    clear O2 HF HB1 HV1
    go_upto_region 6 with (fail)
    have HT3 := Lib.hid (Blk.made w2 44 #[.int .i64 s, .int .i64 f, .slice A' m cp])
    have HO3 := Lib.hid (HO2.out.alloc (.cells #[.int .i64 s, .int .i64 f, .slice A' m cp] 44))
    have HV3 := Lib.hid (own_only HV2.out ((Only.refl [] w2).alloc (.cells #[.int .i64 s, .int .i64 f, .slice A' m cp] 44)) (by simp))
    clear t0 t1 t2 y2 lB HB2 HO2 HV2 HT
    generalize (w2.alloc (.cells #[.int .i64 s, .int .i64 f, .slice A' m cp] 44)) = w3 at *
    generalize w2.heap.size = gt at *
    go_loopw [5, 7] (fun V iv wr => ∃ i : Nat, iv = .int .i64 i ∧ i ≤ m ∧ Hid (wr.ownsRow (w.heap.size + 1) 3 1 V (bdL (ops.take i)).length ((bdL (ops.take i)).map (Value.int .i64))) ∧ Hid (Blk wr gt 44 #[.int .i64 s, .int .i64 f, .slice A' m cp]) ∧ Hid (Only [] w wr)) (fun _ iv _ => m - (intOf iv).toNat)
    case atStart => exact ⟨0, rfl, by omega, HV3, HT3, HO3⟩
    case round =>
     obtain ⟨i, rfl, hi', hV, hT, hO⟩ := hrel
     clear HV3 HT3 HO3 HO1
     have hsz := hO.out.size
     have lT := hT.out.lt
     have t2 := hT.out.at_ 2
     simp at t2
     by_cases hlt : i < m
     ·obtain ⟨y, hy⟩ : ∃ y, ops[i]? = some y := ⟨_, List.getElem?_eq_getElem (by rw [hmm]; exact hlt)⟩
      obtain ⟨bo, oo, rfl, -, hbo, hP⟩ := row_op HROW.out hy
      obtain ⟨p0, p1, p2, p3⟩ := hP.only hO.out hbo (by simp)
      have HBT := Lib.hid (bdL_take hy)
      have hbl := bdL_le (ops.take i)
      rw [List.length_take] at hbl
      obtain ⟨yw, yk, yv, yn⟩ := y
      dsimp only at p0 p1 p2 p3
      have HRV := Lib.hid (fun w' (O : Only [] w w') => HRW.out i yk (by omega) w' O)
      have HBO : Hid (badO ops i ⟨yw, yk, yv, yn⟩ = (!yw && ((leftW yk (ops.take i)).isSome && (!decide (yv = 2) && !decide ((yv, yn) = (leftW yk (ops.take i)).getD (0, 0)))))) := Lib.hid rfl
      generalize leftW yk (ops.take i) = v at *
      have h01 : (i : Int) < (m : Int) := by omega
      have hi0 : (0 : Int) ≤ (i : Int) := Int.natCast_nonneg _
      have hwi : IntKind.i64.wrap ((i : Int) + 1) = (i : Int) + 1 := IntWalk.i64_in _ (by omega)
      have hbor : bo < wr.heap.size := by omega
      have HC0 := Lib.hid p0
      have HC1 := Lib.hid p1
      have HC2 := Lib.hid p2
      have HC3 := Lib.hid p3
      clear hP hy p0 p1 p2 p3
      go_upto_region 8 with (fail)
      clear t2 lT
      refine wp_region_noPanic ?_
      refine wp_region_timed (F := [⟨[], [], fun w' => Only [] wr w'⟩]) (by kernel_rfl) (timed_holds ((Only.refl [] wr).drew) (timed_nil)) ?_
      have OW : Only [] wr wr.drew := (Only.refl [] wr).drew
      generalize hwz : wr.drew = wz at *
      clear hwz
      refine timed_read (i := 0) (v := ?_) 0 rfl (by kernel_rfl) (by kernel_rfl) (by kernel_rfl) (fun _ _ _ h => h) (by kernel_rfl) (by kernel_rfl) rfl (by kernel_rfl) ?_ ?_
      rotate_left
      ·(intro wq hSw; (try dsimp only at hSw); have hb_T := hSw.blk hT.out (by simp); have lb_T := hb_T.lt; have t0 := hb_T.at_ 0; have t1 := hb_T.at_ 1; have t2 := hb_T.at_ 2; simp at t0 t1 t2; clear hb_T; have q1 := (hSw.cell (p := ⟨bo, oo + i * 4 + 1, none⟩) hbor (by simp)).trans HC1.out; clear hSw; go_simp; try with_reducible rfl)
      try simp only [Act.put, tdy]
      refine timed_pure (i := 1) (v := ?_) rfl (by kernel_rfl) (by kernel_rfl) (by kernel_rfl) (fun _ _ _ h => h) (by kernel_rfl) (by kernel_rfl) ?_ ?_
      rotate_left
      ·(intro w; go_simp; try with_reducible rfl)
      try simp only [Act.put, tdy]
      refine timed_pure (i := 2) (v := ?_) rfl (by kernel_rfl) (by kernel_rfl) (by kernel_rfl) (fun _ _ _ h => h) (by kernel_rfl) (by kernel_rfl) ?_ ?_
      rotate_left
      ·(intro w; go_simp; try with_reducible rfl)
      try simp only [Act.put, tdy]
      refine timed_read (i := 3) (v := ?_) 0 rfl (by kernel_rfl) (by kernel_rfl) (by kernel_rfl) (fun _ _ _ h => h) (by kernel_rfl) (by kernel_rfl) rfl (by kernel_rfl) ?_ ?_
      rotate_left
      ·(intro wq hSw; (try dsimp only at hSw); have hb_T := hSw.blk hT.out (by simp); have lb_T := hb_T.lt; have t0 := hb_T.at_ 0; have t1 := hb_T.at_ 1; have t2 := hb_T.at_ 2; simp at t0 t1 t2; clear hb_T; have q1 := (hSw.cell (p := ⟨bo, oo + i * 4 + 1, none⟩) hbor (by simp)).trans HC1.out; clear hSw; go_simp; try with_reducible rfl)
      try simp only [Act.put, tdy]
      refine timed_pure (i := 4) (v := ?_) rfl (by kernel_rfl) (by kernel_rfl) (by kernel_rfl) (fun _ _ _ h => h) (by kernel_rfl) (by kernel_rfl) ?_ ?_
      rotate_left
      ·(intro w; go_simp; try with_reducible rfl)
      try simp only [Act.put, tdy]
      refine timed_pure (i := 5) (v := ?_) rfl (by kernel_rfl) (by kernel_rfl) (by kernel_rfl) (fun _ _ _ h => h) (by kernel_rfl) (by kernel_rfl) ?_ ?_
      rotate_left
      ·(intro w; go_simp; try with_reducible rfl)
      try simp only [Act.put, tdy]
      refine timed_pure (i := 6) (v := ?_) rfl (by kernel_rfl) (by kernel_rfl) (by kernel_rfl) (fun _ _ _ h => h) (by kernel_rfl) (by kernel_rfl) ?_ ?_
      rotate_left
      ·(intro w; go_simp; try with_reducible rfl)
      try simp only [Act.put, tdy]
      refine timed_read (i := 7) (v := ?_) 0 rfl (by kernel_rfl) (by kernel_rfl) (by kernel_rfl) (fun _ _ _ h => h) (by kernel_rfl) (by kernel_rfl) rfl (by kernel_rfl) ?_ ?_
      rotate_left
      ·(intro wq hSw; (try dsimp only at hSw); have hb_T := hSw.blk hT.out (by simp); have lb_T := hb_T.lt; have t0 := hb_T.at_ 0; have t1 := hb_T.at_ 1; have t2 := hb_T.at_ 2; simp at t0 t1 t2; clear hb_T; have q1 := (hSw.cell (p := ⟨bo, oo + i * 4 + 1, none⟩) hbor (by simp)).trans HC1.out; clear hSw; go_simp; try with_reducible rfl)
      try simp only [Act.put, tdy]
      apply cut_1_0 (fun w gv => (Only [] wr w) ∧ (True) ∧ (Blk w gv 30 #[.int .i64 0, .int .i64 0]) ∧ (wr.heap.size ≤ gv))
      intro HST8_12
      apply cut_1_0 (fun w gv => (Only [] wr w) ∧ (True) ∧ (Blk w gv 30 #[.int .i64 0, .int .i64 0]) ∧ (wr.heap.size ≤ gv))
      intro HST12
      apply cut_0_0 (fun w  => (Only [] wr w) ∧ (True))
      intro HST8
      ·skip
       refine timed_forks (l := [8, 12]) (by kernel_rfl) (by simp) (fork_cons ⟨_, rfl, fun K hK => ?_⟩ (fork_cons ⟨_, rfl, fun K hK => ?_⟩ (fork_nil)))
       ·go_simp
        refine (HRV.out _ (hO.out.trans OW)).mono ?_
        rintro e w3 ⟨rfl, O3⟩
        unfold optT optV
        have OW1 := OW.trans O3
        have OS := O3
        refine hK.out _ _ (timed_holds (OW1) (timed_nil)) ?_
        clear hK K
        try simp only [Act.put, tdy]
        refine timed_pure (i := 9) (v := ?_) rfl (by kernel_rfl) (by kernel_rfl) (by kernel_rfl) (fun _ _ _ h => h) (by kernel_rfl) (by kernel_rfl) ?_ ?_
        rotate_left
        ·(intro w; go_simp; try with_reducible rfl)
        try simp only [Act.put, tdy]
        refine timed_pure (i := 10) (v := ?_) rfl (by kernel_rfl) (by kernel_rfl) (by kernel_rfl) (fun _ _ _ h => h) (by kernel_rfl) (by kernel_rfl) ?_ ?_
        rotate_left
        ·(intro w; go_simp; try with_reducible rfl)
        try simp only [Act.put, tdy]
        refine timed_pure (i := 11) (v := ?_) rfl (by kernel_rfl) (by kernel_rfl) (by kernel_rfl) (fun _ _ _ h => h) (by kernel_rfl) (by kernel_rfl) ?_ ?_
        rotate_left
        ·(intro w; go_simp; try with_reducible rfl)
        try simp only [Act.put, tdy]
        exact HST8 w3  ⟨OW1, trivial⟩
       ·go_simp
        have OW1 := OW.alloc (.cells #[.int .i64 0, .int .i64 0] 30)
        have OS : Only [] wz (wz.alloc (.cells #[.int .i64 0, .int .i64 0] 30)) := (Only.refl [] wz).alloc (.cells #[.int .i64 0, .int .i64 0] 30)
        have BV := Blk.made wz 30 #[.int .i64 0, .int .i64 0]
        have HGV : wr.heap.size ≤ wz.heap.size := OW.size
        generalize wz.alloc (.cells #[.int .i64 0, .int .i64 0] 30) = w1 at *
        generalize wz.heap.size = gv at *
        refine hK.out _ _ (timed_holds (OW1) (timed_nil)) ?_
        clear hK K
        try simp only [Act.put, tdy]
        exact HST12 w1 gv ⟨OW1, trivial, BV, HGV⟩
      ·skip
       intro wz  ⟨OW, HTT⟩
       refine timed_step (i := 12) (by kernel_rfl) rfl (fun K hK => ?_)
       go_simp
       have OW1 := OW.alloc (.cells #[.int .i64 0, .int .i64 0] 30)
       have OS : Only [] wz (wz.alloc (.cells #[.int .i64 0, .int .i64 0] 30)) := (Only.refl [] wz).alloc (.cells #[.int .i64 0, .int .i64 0] 30)
       have BV := Blk.made wz 30 #[.int .i64 0, .int .i64 0]
       have HGV : wr.heap.size ≤ wz.heap.size := OW.size
       generalize wz.alloc (.cells #[.int .i64 0, .int .i64 0] 30) = w1 at *
       generalize wz.heap.size = gv at *
       refine hK.out _ _ (timed_holds (OW1) (timed_nil)) ?_
       clear hK K
       try simp only [Act.put, tdy]
       exact HST8_12 w1 gv ⟨OW1, trivial, BV, HGV⟩
      ·skip
       intro wz gv ⟨OW, HTT, BV, HGV⟩
       refine timed_step (i := 8) (by kernel_rfl) rfl (fun K hK => ?_)
       go_simp
       refine (HRV.out _ (hO.out.trans OW)).mono ?_
       rintro e w3 ⟨rfl, O3⟩
       unfold optT optV
       have OW1 := OW.trans O3
       have OS := O3
       have BV1 := OS.blk BV (by simp)
       refine hK.out _ _ (timed_holds (OW1) (timed_nil)) ?_
       clear hK K
       try simp only [Act.put, tdy]
       refine timed_pure (i := 9) (v := ?_) rfl (by kernel_rfl) (by kernel_rfl) (by kernel_rfl) (fun _ _ _ h => h) (by kernel_rfl) (by kernel_rfl) ?_ ?_
       rotate_left
       ·(intro w; go_simp; try with_reducible rfl)
       try simp only [Act.put, tdy]
       refine timed_pure (i := 10) (v := ?_) rfl (by kernel_rfl) (by kernel_rfl) (by kernel_rfl) (fun _ _ _ h => h) (by kernel_rfl) (by kernel_rfl) ?_ ?_
       rotate_left
       ·(intro w; go_simp; try with_reducible rfl)
       try simp only [Act.put, tdy]
       refine timed_pure (i := 11) (v := ?_) rfl (by kernel_rfl) (by kernel_rfl) (by kernel_rfl) (fun _ _ _ h => h) (by kernel_rfl) (by kernel_rfl) ?_ ?_
       rotate_left
       ·(intro w; go_simp; try with_reducible rfl)
       try simp only [Act.put, tdy]
       exact HST8_12 w3 gv ⟨OW1, trivial, BV1, HGV⟩
      -- behind all of the crowd
      intro wz gv ⟨OW, HTT, BV, HGV⟩
      refine timed_step (i := 13) (by kernel_rfl) rfl (fun K hK => ?_)
      refine wp_store_blk 30 (.tmp 8) (.tmp 48) rfl gv 30 _ #[.int .i64 (v.getD (0, 0)).1, .int .i64 (v.getD (0, 0)).2] rfl rfl BV rfl (by kernel_rfl) (by kernel_rfl) ?_
      intro w9 b9 o9
      have HV9b := Lib.hid b9
      have OW9 := OW.step o9 (fun i hi hl => by simp at hi; omega)
      clear o9 b9
      refine hK.out _ _ (timed_holds (OW9) (timed_nil)) ?_
      clear hK K
      try simp only [Act.put, tdy]
      refine timed_pure (i := 14) (v := ?_) rfl (by kernel_rfl) (by kernel_rfl) (by kernel_rfl) (fun _ _ _ h => h) (by kernel_rfl) (by kernel_rfl) ?_ ?_
      rotate_left
      ·(intro w; go_simp; try with_reducible rfl)
      try simp only [Act.put, tdy]
      refine timed_done (by kernel_rfl) ?_ _
      refine NoPanic.normal ?_
      have HW9 := Lib.hid OW9
      have HO9 := Lib.hid (hO.out.trans HW9.out)
      have HT9 := Lib.hid (HW9.out.blk hT.out (by simp))
      have HV9 := Lib.hid (own_only hV.out HW9.out (by simp))
      have HQ0 := Lib.hid ((HW9.out.cell (p := ⟨bo, oo + i * 4, none⟩) hbor (by simp)).trans HC0.out)
      have HQ2 := Lib.hid ((HW9.out.cell (p := ⟨bo, oo + i * 4 + 2, none⟩) hbor (by simp)).trans HC2.out)
      have HQ3 := Lib.hid ((HW9.out.cell (p := ⟨bo, oo + i * 4 + 3, none⟩) hbor (by simp)).trans HC3.out)
      have hbo9 : bo < w9.heap.size := by have := HW9.out.size; omega
      clear HC0 HC1 HC2 HC3 OW OW9 BV HW9 hV hT HRV
      obtain ⟨v1, v2, hv12⟩ : ∃ v1 v2, v.getD (0, 0) = (v1, v2) := ⟨_, _, rfl⟩
      rw [hv12] at HBO
      have hv1' : (v.getD (0, 0)).1 = v1 := by rw [hv12]
      have hv2' : (v.getD (0, 0)).2 = v2 := by rw [hv12]
      rw [hv1', hv2'] at HV9b
      rw [hv1', hv2']
      generalize v.isSome = vb at *
      clear hv12 hv1' hv2'
      have lT2 : True := trivial
      cases yw with
      | true =>
       have HE : Hid (bdL (ops.take (i + 1)) = bdL (ops.take i)) := Lib.hid (by rw [HBT.out, HBO.out]; simp)
       go_upto_region 9 with (fail)
       clear lT2
       refine wp_region_noPanic ?_
       refine wp_region_timed (F := [⟨[], [], fun w' => Only [] w9 w'⟩]) (by kernel_rfl) (timed_holds ((Only.refl [] w9).drew) (timed_nil)) ?_
       refine timed_pure (i := 0) (v := ?_) rfl (by kernel_rfl) (by kernel_rfl) (by kernel_rfl) (fun _ _ _ h => h) (by kernel_rfl) (by kernel_rfl) ?_ ?_
       rotate_left
       ·(intro w; go_simp; try with_reducible rfl)
       try simp only [Act.put, tdy]
       refine timed_read (i := 1) (v := ?_) 0 rfl (by kernel_rfl) (by kernel_rfl) (by kernel_rfl) (fun _ _ _ h => h) (by kernel_rfl) (by kernel_rfl) rfl (by kernel_rfl) ?_ ?_
       rotate_left
       ·(intro wq hSw; (try dsimp only at hSw); have hb_T := hSw.blk HT9.out (by simp); have lb_T := hb_T.lt; have t0 := hb_T.at_ 0; have t1 := hb_T.at_ 1; have t2 := hb_T.at_ 2; simp at t0 t1 t2; clear hb_T; have hb_V := hSw.blk HV9b.out (by simp); have lb_V := hb_V.lt; have u0 := hb_V.at_ 0; have u1 := hb_V.at_ 1; simp at u0 u1; clear hb_V; have q0 := (hSw.cell (p := ⟨bo, oo + i * 4, none⟩) hbo9 (by simp)).trans HQ0.out; have q2 := (hSw.cell (p := ⟨bo, oo + i * 4 + 2, none⟩) hbo9 (by simp)).trans HQ2.out; have q3 := (hSw.cell (p := ⟨bo, oo + i * 4 + 3, none⟩) hbo9 (by simp)).trans HQ3.out; clear hSw; go_simp; try with_reducible rfl)
       try simp only [Act.put, tdy]
       refine timed_pure (i := 2) (v := ?_) rfl (by kernel_rfl) (by kernel_rfl) (by kernel_rfl) (fun _ _ _ h => h) (by kernel_rfl) (by kernel_rfl) ?_ ?_
       rotate_left
       ·(intro w; go_simp; try with_reducible rfl)
       try simp only [Act.put, tdy]
       refine timed_pure (i := 3) (v := ?_) rfl (by kernel_rfl) (by kernel_rfl) (by kernel_rfl) (fun _ _ _ h => h) (by kernel_rfl) (by kernel_rfl) ?_ ?_
       rotate_left
       ·(intro w; go_simp; try with_reducible rfl)
       try simp only [Act.put, tdy]
       refine timed_pure (i := 4) (v := ?_) rfl (by kernel_rfl) (by kernel_rfl) (by kernel_rfl) (fun _ _ _ h => h) (by kernel_rfl) (by kernel_rfl) ?_ ?_
       rotate_left
       ·(intro w; go_simp; try with_reducible rfl)
       try simp only [Act.put, tdy]
       refine timed_read (i := 5) (v := ?_) 0 rfl (by kernel_rfl) (by kernel_rfl) (by kernel_rfl) (fun _ _ _ h => h) (by kernel_rfl) (by kernel_rfl) rfl (by kernel_rfl) ?_ ?_
       rotate_left
       ·(intro wq hSw; (try dsimp only at hSw); have hb_T := hSw.blk HT9.out (by simp); have lb_T := hb_T.lt; have t0 := hb_T.at_ 0; have t1 := hb_T.at_ 1; have t2 := hb_T.at_ 2; simp at t0 t1 t2; clear hb_T; have hb_V := hSw.blk HV9b.out (by simp); have lb_V := hb_V.lt; have u0 := hb_V.at_ 0; have u1 := hb_V.at_ 1; simp at u0 u1; clear hb_V; have q0 := (hSw.cell (p := ⟨bo, oo + i * 4, none⟩) hbo9 (by simp)).trans HQ0.out; have q2 := (hSw.cell (p := ⟨bo, oo + i * 4 + 2, none⟩) hbo9 (by simp)).trans HQ2.out; have q3 := (hSw.cell (p := ⟨bo, oo + i * 4 + 3, none⟩) hbo9 (by simp)).trans HQ3.out; clear hSw; go_simp; try with_reducible rfl)
       try simp only [Act.put, tdy]
       refine timed_pure (i := 6) (v := ?_) rfl (by kernel_rfl) (by kernel_rfl) (by kernel_rfl) (fun _ _ _ h => h) (by kernel_rfl) (by kernel_rfl) ?_ ?_
       rotate_left
       ·(intro w; go_simp; try with_reducible rfl)
       try simp only [Act.put, tdy]
       refine timed_pure (i := 7) (v := ?_) rfl (by kernel_rfl) (by kernel_rfl) (by kernel_rfl) (fun _ _ _ h => h) (by kernel_rfl) (by kernel_rfl) ?_ ?_
       rotate_left
       ·(intro w; go_simp; try with_reducible rfl)
       try simp only [Act.put, tdy]
       refine timed_idle (i := 8) rfl (by kernel_rfl) (by kernel_rfl) (by kernel_rfl) (fun _ _ _ h => h) (by kernel_rfl) (by kernel_rfl) ?_
       try simp only [Act.put, tdy]
       refine timed_pure (i := 9) (v := ?_) rfl (by kernel_rfl) (by kernel_rfl) (by kernel_rfl) (fun _ _ _ h => h) (by kernel_rfl) (by kernel_rfl) ?_ ?_
       rotate_left
       ·(intro w; go_simp; try with_reducible rfl)
       try simp only [Act.put, tdy]
       refine timed_pure (i := 10) (v := ?_) rfl (by kernel_rfl) (by kernel_rfl) (by kernel_rfl) (fun _ _ _ h => h) (by kernel_rfl) (by kernel_rfl) ?_ ?_
       rotate_left
       ·(intro w; go_simp; try with_reducible rfl)
       try simp only [Act.put, tdy]
       refine timed_idle (i := 11) rfl (by kernel_rfl) (by kernel_rfl) (by kernel_rfl) (fun _ _ _ h => h) (by kernel_rfl) (by kernel_rfl) ?_
       try simp only [Act.put, tdy]
       refine timed_idle (i := 12) rfl (by kernel_rfl) (by kernel_rfl) (by kernel_rfl) (fun _ _ _ h => h) (by kernel_rfl) (by kernel_rfl) ?_
       try simp only [Act.put, tdy]
       refine timed_idle (i := 13) rfl (by kernel_rfl) (by kernel_rfl) (by kernel_rfl) (fun _ _ _ h => h) (by kernel_rfl) (by kernel_rfl) ?_
       try simp only [Act.put, tdy]
       refine timed_idle (i := 14) rfl (by kernel_rfl) (by kernel_rfl) (by kernel_rfl) (fun _ _ _ h => h) (by kernel_rfl) (by kernel_rfl) ?_
       try simp only [Act.put, tdy]
       refine timed_idle (i := 15) rfl (by kernel_rfl) (by kernel_rfl) (by kernel_rfl) (fun _ _ _ h => h) (by kernel_rfl) (by kernel_rfl) ?_
       try simp only [Act.put, tdy]
       refine timed_idle (i := 16) rfl (by kernel_rfl) (by kernel_rfl) (by kernel_rfl) (fun _ _ _ h => h) (by kernel_rfl) (by kernel_rfl) ?_
       try simp only [Act.put, tdy]
       refine timed_idle (i := 17) rfl (by kernel_rfl) (by kernel_rfl) (by kernel_rfl) (fun _ _ _ h => h) (by kernel_rfl) (by kernel_rfl) ?_
       try simp only [Act.put, tdy]
       refine timed_idle (i := 18) rfl (by kernel_rfl) (by kernel_rfl) (by kernel_rfl) (fun _ _ _ h => h) (by kernel_rfl) (by kernel_rfl) ?_
       try simp only [Act.put, tdy]
       refine timed_pure (i := 19) (v := ?_) rfl (by kernel_rfl) (by kernel_rfl) (by kernel_rfl) (fun _ _ _ h => h) (by kernel_rfl) (by kernel_rfl) ?_ ?_
       rotate_left
       ·(intro w; go_simp; try with_reducible rfl)
       try simp only [Act.put, tdy]
       refine timed_pure (i := 20) (v := ?_) rfl (by kernel_rfl) (by kernel_rfl) (by kernel_rfl) (fun _ _ _ h => h) (by kernel_rfl) (by kernel_rfl) ?_ ?_
       rotate_left
       ·(intro w; go_simp; try with_reducible rfl)
       try simp only [Act.put, tdy]
       refine timed_idle (i := 21) rfl (by kernel_rfl) (by kernel_rfl) (by kernel_rfl) (fun _ _ _ h => h) (by kernel_rfl) (by kernel_rfl) ?_
       try simp only [Act.put, tdy]
       refine timed_idle (i := 22) rfl (by kernel_rfl) (by kernel_rfl) (by kernel_rfl) (fun _ _ _ h => h) (by kernel_rfl) (by kernel_rfl) ?_
       try simp only [Act.put, tdy]
       refine timed_idle (i := 23) rfl (by kernel_rfl) (by kernel_rfl) (by kernel_rfl) (fun _ _ _ h => h) (by kernel_rfl) (by kernel_rfl) ?_
       try simp only [Act.put, tdy]
       refine timed_idle (i := 24) rfl (by kernel_rfl) (by kernel_rfl) (by kernel_rfl) (fun _ _ _ h => h) (by kernel_rfl) (by kernel_rfl) ?_
       try simp only [Act.put, tdy]
       refine timed_idle (i := 25) rfl (by kernel_rfl) (by kernel_rfl) (by kernel_rfl) (fun _ _ _ h => h) (by kernel_rfl) (by kernel_rfl) ?_
       try simp only [Act.put, tdy]
       refine timed_idle (i := 26) rfl (by kernel_rfl) (by kernel_rfl) (by kernel_rfl) (fun _ _ _ h => h) (by kernel_rfl) (by kernel_rfl) ?_
       try simp only [Act.put, tdy]
       refine timed_idle (i := 27) rfl (by kernel_rfl) (by kernel_rfl) (by kernel_rfl) (fun _ _ _ h => h) (by kernel_rfl) (by kernel_rfl) ?_
       try simp only [Act.put, tdy]
       refine timed_idle (i := 28) rfl (by kernel_rfl) (by kernel_rfl) (by kernel_rfl) (fun _ _ _ h => h) (by kernel_rfl) (by kernel_rfl) ?_
       try simp only [Act.put, tdy]
       refine timed_pure (i := 29) (v := ?_) rfl (by kernel_rfl) (by kernel_rfl) (by kernel_rfl) (fun _ _ _ h => h) (by kernel_rfl) (by kernel_rfl) ?_ ?_
       rotate_left
       ·(intro w; go_simp; try with_reducible rfl)
       try simp only [Act.put, tdy]
       refine timed_done (by kernel_rfl) ?_ _
       refine NoPanic.normal ?_
       have HWX := Lib.hid (HO9.out.trans ((Only.refl [] w9).drew))
       have HVX := Lib.hid (own_only HV9.out (Only.refl [] w9).drew (by simp))
       have HTX := Lib.hid HT9.out.drew
       generalize w9.drew = w10 at *
       go_wp2
       go_roundw
       case rel => first | exact ⟨i + 1, by go_num, by omega, Lib.hid (by rw [HE.out]; exact HVX.out), HTX, HWX⟩ | exact ⟨_, ⟨i + 1, by go_num, by omega, Lib.hid (by rw [HE.out]; exact HVX.out), HTX, HWX⟩, rfl⟩
       case measure => simp [intOf]; omega
      | false =>
       cases vb with
       | false =>
        have HE : Hid (bdL (ops.take (i + 1)) = bdL (ops.take i)) := Lib.hid (by rw [HBT.out, HBO.out]; simp)
        go_upto_region 9 with (fail)
        clear lT2
        refine wp_region_noPanic ?_
        refine wp_region_timed (F := [⟨[], [], fun w' => Only [] w9 w'⟩]) (by kernel_rfl) (timed_holds ((Only.refl [] w9).drew) (timed_nil)) ?_
        refine timed_pure (i := 0) (v := ?_) rfl (by kernel_rfl) (by kernel_rfl) (by kernel_rfl) (fun _ _ _ h => h) (by kernel_rfl) (by kernel_rfl) ?_ ?_
        rotate_left
        ·(intro w; go_simp; try with_reducible rfl)
        try simp only [Act.put, tdy]
        refine timed_read (i := 1) (v := ?_) 0 rfl (by kernel_rfl) (by kernel_rfl) (by kernel_rfl) (fun _ _ _ h => h) (by kernel_rfl) (by kernel_rfl) rfl (by kernel_rfl) ?_ ?_
        rotate_left
        ·(intro wq hSw; (try dsimp only at hSw); have hb_T := hSw.blk HT9.out (by simp); have lb_T := hb_T.lt; have t0 := hb_T.at_ 0; have t1 := hb_T.at_ 1; have t2 := hb_T.at_ 2; simp at t0 t1 t2; clear hb_T; have hb_V := hSw.blk HV9b.out (by simp); have lb_V := hb_V.lt; have u0 := hb_V.at_ 0; have u1 := hb_V.at_ 1; simp at u0 u1; clear hb_V; have q0 := (hSw.cell (p := ⟨bo, oo + i * 4, none⟩) hbo9 (by simp)).trans HQ0.out; have q2 := (hSw.cell (p := ⟨bo, oo + i * 4 + 2, none⟩) hbo9 (by simp)).trans HQ2.out; have q3 := (hSw.cell (p := ⟨bo, oo + i * 4 + 3, none⟩) hbo9 (by simp)).trans HQ3.out; clear hSw; go_simp; try with_reducible rfl)
        try simp only [Act.put, tdy]
        refine timed_pure (i := 2) (v := ?_) rfl (by kernel_rfl) (by kernel_rfl) (by kernel_rfl) (fun _ _ _ h => h) (by kernel_rfl) (by kernel_rfl) ?_ ?_
        rotate_left
        ·(intro w; go_simp; try with_reducible rfl)
        try simp only [Act.put, tdy]
        refine timed_pure (i := 3) (v := ?_) rfl (by kernel_rfl) (by kernel_rfl) (by kernel_rfl) (fun _ _ _ h => h) (by kernel_rfl) (by kernel_rfl) ?_ ?_
        rotate_left
        ·(intro w; go_simp; try with_reducible rfl)
        try simp only [Act.put, tdy]
        refine timed_pure (i := 4) (v := ?_) rfl (by kernel_rfl) (by kernel_rfl) (by kernel_rfl) (fun _ _ _ h => h) (by kernel_rfl) (by kernel_rfl) ?_ ?_
        rotate_left
        ·(intro w; go_simp; try with_reducible rfl)
        try simp only [Act.put, tdy]
        refine timed_read (i := 5) (v := ?_) 0 rfl (by kernel_rfl) (by kernel_rfl) (by kernel_rfl) (fun _ _ _ h => h) (by kernel_rfl) (by kernel_rfl) rfl (by kernel_rfl) ?_ ?_
        rotate_left
        ·(intro wq hSw; (try dsimp only at hSw); have hb_T := hSw.blk HT9.out (by simp); have lb_T := hb_T.lt; have t0 := hb_T.at_ 0; have t1 := hb_T.at_ 1; have t2 := hb_T.at_ 2; simp at t0 t1 t2; clear hb_T; have hb_V := hSw.blk HV9b.out (by simp); have lb_V := hb_V.lt; have u0 := hb_V.at_ 0; have u1 := hb_V.at_ 1; simp at u0 u1; clear hb_V; have q0 := (hSw.cell (p := ⟨bo, oo + i * 4, none⟩) hbo9 (by simp)).trans HQ0.out; have q2 := (hSw.cell (p := ⟨bo, oo + i * 4 + 2, none⟩) hbo9 (by simp)).trans HQ2.out; have q3 := (hSw.cell (p := ⟨bo, oo + i * 4 + 3, none⟩) hbo9 (by simp)).trans HQ3.out; clear hSw; go_simp; try with_reducible rfl)
        try simp only [Act.put, tdy]
        refine timed_pure (i := 6) (v := ?_) rfl (by kernel_rfl) (by kernel_rfl) (by kernel_rfl) (fun _ _ _ h => h) (by kernel_rfl) (by kernel_rfl) ?_ ?_
        rotate_left
        ·(intro w; go_simp; try with_reducible rfl)
        try simp only [Act.put, tdy]
        refine timed_pure (i := 7) (v := ?_) rfl (by kernel_rfl) (by kernel_rfl) (by kernel_rfl) (fun _ _ _ h => h) (by kernel_rfl) (by kernel_rfl) ?_ ?_
        rotate_left
        ·(intro w; go_simp; try with_reducible rfl)
        try simp only [Act.put, tdy]
        refine timed_pure (i := 8) (v := ?_) rfl (by kernel_rfl) (by kernel_rfl) (by kernel_rfl) (fun _ _ _ h => h) (by kernel_rfl) (by kernel_rfl) ?_ ?_
        rotate_left
        ·(intro w; go_simp; try with_reducible rfl)
        try simp only [Act.put, tdy]
        refine timed_pure (i := 9) (v := ?_) rfl (by kernel_rfl) (by kernel_rfl) (by kernel_rfl) (fun _ _ _ h => h) (by kernel_rfl) (by kernel_rfl) ?_ ?_
        rotate_left
        ·(intro w; go_simp; try with_reducible rfl)
        try simp only [Act.put, tdy]
        refine timed_pure (i := 10) (v := ?_) rfl (by kernel_rfl) (by kernel_rfl) (by kernel_rfl) (fun _ _ _ h => h) (by kernel_rfl) (by kernel_rfl) ?_ ?_
        rotate_left
        ·(intro w; go_simp; try with_reducible rfl)
        try simp only [Act.put, tdy]
        refine timed_idle (i := 11) rfl (by kernel_rfl) (by kernel_rfl) (by kernel_rfl) (fun _ _ _ h => h) (by kernel_rfl) (by kernel_rfl) ?_
        try simp only [Act.put, tdy]
        refine timed_idle (i := 12) rfl (by kernel_rfl) (by kernel_rfl) (by kernel_rfl) (fun _ _ _ h => h) (by kernel_rfl) (by kernel_rfl) ?_
        try simp only [Act.put, tdy]
        refine timed_idle (i := 13) rfl (by kernel_rfl) (by kernel_rfl) (by kernel_rfl) (fun _ _ _ h => h) (by kernel_rfl) (by kernel_rfl) ?_
        try simp only [Act.put, tdy]
        refine timed_idle (i := 14) rfl (by kernel_rfl) (by kernel_rfl) (by kernel_rfl) (fun _ _ _ h => h) (by kernel_rfl) (by kernel_rfl) ?_
        try simp only [Act.put, tdy]
        refine timed_idle (i := 15) rfl (by kernel_rfl) (by kernel_rfl) (by kernel_rfl) (fun _ _ _ h => h) (by kernel_rfl) (by kernel_rfl) ?_
        try simp only [Act.put, tdy]
        refine timed_idle (i := 16) rfl (by kernel_rfl) (by kernel_rfl) (by kernel_rfl) (fun _ _ _ h => h) (by kernel_rfl) (by kernel_rfl) ?_
        try simp only [Act.put, tdy]
        refine timed_idle (i := 17) rfl (by kernel_rfl) (by kernel_rfl) (by kernel_rfl) (fun _ _ _ h => h) (by kernel_rfl) (by kernel_rfl) ?_
        try simp only [Act.put, tdy]
        refine timed_idle (i := 18) rfl (by kernel_rfl) (by kernel_rfl) (by kernel_rfl) (fun _ _ _ h => h) (by kernel_rfl) (by kernel_rfl) ?_
        try simp only [Act.put, tdy]
        refine timed_pure (i := 19) (v := ?_) rfl (by kernel_rfl) (by kernel_rfl) (by kernel_rfl) (fun _ _ _ h => h) (by kernel_rfl) (by kernel_rfl) ?_ ?_
        rotate_left
        ·(intro w; go_simp; try with_reducible rfl)
        try simp only [Act.put, tdy]
        refine timed_pure (i := 20) (v := ?_) rfl (by kernel_rfl) (by kernel_rfl) (by kernel_rfl) (fun _ _ _ h => h) (by kernel_rfl) (by kernel_rfl) ?_ ?_
        rotate_left
        ·(intro w; go_simp; try with_reducible rfl)
        try simp only [Act.put, tdy]
        refine timed_idle (i := 21) rfl (by kernel_rfl) (by kernel_rfl) (by kernel_rfl) (fun _ _ _ h => h) (by kernel_rfl) (by kernel_rfl) ?_
        try simp only [Act.put, tdy]
        refine timed_idle (i := 22) rfl (by kernel_rfl) (by kernel_rfl) (by kernel_rfl) (fun _ _ _ h => h) (by kernel_rfl) (by kernel_rfl) ?_
        try simp only [Act.put, tdy]
        refine timed_idle (i := 23) rfl (by kernel_rfl) (by kernel_rfl) (by kernel_rfl) (fun _ _ _ h => h) (by kernel_rfl) (by kernel_rfl) ?_
        try simp only [Act.put, tdy]
        refine timed_idle (i := 24) rfl (by kernel_rfl) (by kernel_rfl) (by kernel_rfl) (fun _ _ _ h => h) (by kernel_rfl) (by kernel_rfl) ?_
        try simp only [Act.put, tdy]
        refine timed_idle (i := 25) rfl (by kernel_rfl) (by kernel_rfl) (by kernel_rfl) (fun _ _ _ h => h) (by kernel_rfl) (by kernel_rfl) ?_
        try simp only [Act.put, tdy]
        refine timed_idle (i := 26) rfl (by kernel_rfl) (by kernel_rfl) (by kernel_rfl) (fun _ _ _ h => h) (by kernel_rfl) (by kernel_rfl) ?_
        try simp only [Act.put, tdy]
        refine timed_idle (i := 27) rfl (by kernel_rfl) (by kernel_rfl) (by kernel_rfl) (fun _ _ _ h => h) (by kernel_rfl) (by kernel_rfl) ?_
        try simp only [Act.put, tdy]
        refine timed_idle (i := 28) rfl (by kernel_rfl) (by kernel_rfl) (by kernel_rfl) (fun _ _ _ h => h) (by kernel_rfl) (by kernel_rfl) ?_
        try simp only [Act.put, tdy]
        refine timed_pure (i := 29) (v := ?_) rfl (by kernel_rfl) (by kernel_rfl) (by kernel_rfl) (fun _ _ _ h => h) (by kernel_rfl) (by kernel_rfl) ?_ ?_
        rotate_left
        ·(intro w; go_simp; try with_reducible rfl)
        try simp only [Act.put, tdy]
        refine timed_done (by kernel_rfl) ?_ _
        refine NoPanic.normal ?_
        have HWX := Lib.hid (HO9.out.trans ((Only.refl [] w9).drew))
        have HVX := Lib.hid (own_only HV9.out (Only.refl [] w9).drew (by simp))
        have HTX := Lib.hid HT9.out.drew
        generalize w9.drew = w10 at *
        go_wp2
        go_roundw
        case rel => first | exact ⟨i + 1, by go_num, by omega, Lib.hid (by rw [HE.out]; exact HVX.out), HTX, HWX⟩ | exact ⟨_, ⟨i + 1, by go_num, by omega, Lib.hid (by rw [HE.out]; exact HVX.out), HTX, HWX⟩, rfl⟩
        case measure => simp [intOf]; omega
       | true =>
        by_cases hv : yv = 2
        ·have hv1 : (yv != 2) = false := by simp [hv]
         have HE : Hid (bdL (ops.take (i + 1)) = bdL (ops.take i)) := Lib.hid (by rw [HBT.out, HBO.out, hv]; simp)
         clear hv
         go_upto_region 9 with (fail)
         clear lT2
         refine wp_region_noPanic ?_
         refine wp_region_timed (F := [⟨[], [], fun w' => Only [] w9 w'⟩]) (by kernel_rfl) (timed_holds ((Only.refl [] w9).drew) (timed_nil)) ?_
         refine timed_pure (i := 0) (v := ?_) rfl (by kernel_rfl) (by kernel_rfl) (by kernel_rfl) (fun _ _ _ h => h) (by kernel_rfl) (by kernel_rfl) ?_ ?_
         rotate_left
         ·(intro w; go_simp; try with_reducible rfl)
         try simp only [Act.put, tdy]
         refine timed_read (i := 1) (v := ?_) 0 rfl (by kernel_rfl) (by kernel_rfl) (by kernel_rfl) (fun _ _ _ h => h) (by kernel_rfl) (by kernel_rfl) rfl (by kernel_rfl) ?_ ?_
         rotate_left
         ·(intro wq hSw; (try dsimp only at hSw); have hb_T := hSw.blk HT9.out (by simp); have lb_T := hb_T.lt; have t0 := hb_T.at_ 0; have t1 := hb_T.at_ 1; have t2 := hb_T.at_ 2; simp at t0 t1 t2; clear hb_T; have hb_V := hSw.blk HV9b.out (by simp); have lb_V := hb_V.lt; have u0 := hb_V.at_ 0; have u1 := hb_V.at_ 1; simp at u0 u1; clear hb_V; have q0 := (hSw.cell (p := ⟨bo, oo + i * 4, none⟩) hbo9 (by simp)).trans HQ0.out; have q2 := (hSw.cell (p := ⟨bo, oo + i * 4 + 2, none⟩) hbo9 (by simp)).trans HQ2.out; have q3 := (hSw.cell (p := ⟨bo, oo + i * 4 + 3, none⟩) hbo9 (by simp)).trans HQ3.out; clear hSw; go_simp; try with_reducible rfl)
         try simp only [Act.put, tdy]
         refine timed_pure (i := 2) (v := ?_) rfl (by kernel_rfl) (by kernel_rfl) (by kernel_rfl) (fun _ _ _ h => h) (by kernel_rfl) (by kernel_rfl) ?_ ?_
         rotate_left
         ·(intro w; go_simp; try with_reducible rfl)
         try simp only [Act.put, tdy]
         refine timed_pure (i := 3) (v := ?_) rfl (by kernel_rfl) (by kernel_rfl) (by kernel_rfl) (fun _ _ _ h => h) (by kernel_rfl) (by kernel_rfl) ?_ ?_
         rotate_left
         ·(intro w; go_simp; try with_reducible rfl)
         try simp only [Act.put, tdy]
         refine timed_pure (i := 4) (v := ?_) rfl (by kernel_rfl) (by kernel_rfl) (by kernel_rfl) (fun _ _ _ h => h) (by kernel_rfl) (by kernel_rfl) ?_ ?_
         rotate_left
         ·(intro w; go_simp; try with_reducible rfl)
         try simp only [Act.put, tdy]
         refine timed_read (i := 5) (v := ?_) 0 rfl (by kernel_rfl) (by kernel_rfl) (by kernel_rfl) (fun _ _ _ h => h) (by kernel_rfl) (by kernel_rfl) rfl (by kernel_rfl) ?_ ?_
         rotate_left
         ·(intro wq hSw; (try dsimp only at hSw); have hb_T := hSw.blk HT9.out (by simp); have lb_T := hb_T.lt; have t0 := hb_T.at_ 0; have t1 := hb_T.at_ 1; have t2 := hb_T.at_ 2; simp at t0 t1 t2; clear hb_T; have hb_V := hSw.blk HV9b.out (by simp); have lb_V := hb_V.lt; have u0 := hb_V.at_ 0; have u1 := hb_V.at_ 1; simp at u0 u1; clear hb_V; have q0 := (hSw.cell (p := ⟨bo, oo + i * 4, none⟩) hbo9 (by simp)).trans HQ0.out; have q2 := (hSw.cell (p := ⟨bo, oo + i * 4 + 2, none⟩) hbo9 (by simp)).trans HQ2.out; have q3 := (hSw.cell (p := ⟨bo, oo + i * 4 + 3, none⟩) hbo9 (by simp)).trans HQ3.out; clear hSw; go_simp; try with_reducible rfl)
         try simp only [Act.put, tdy]
         refine timed_pure (i := 6) (v := ?_) rfl (by kernel_rfl) (by kernel_rfl) (by kernel_rfl) (fun _ _ _ h => h) (by kernel_rfl) (by kernel_rfl) ?_ ?_
         rotate_left
         ·(intro w; go_simp; try with_reducible rfl)
         try simp only [Act.put, tdy]
         refine timed_pure (i := 7) (v := ?_) rfl (by kernel_rfl) (by kernel_rfl) (by kernel_rfl) (fun _ _ _ h => h) (by kernel_rfl) (by kernel_rfl) ?_ ?_
         rotate_left
         ·(intro w; go_simp; try with_reducible rfl)
         try simp only [Act.put, tdy]
         refine timed_pure (i := 8) (v := ?_) rfl (by kernel_rfl) (by kernel_rfl) (by kernel_rfl) (fun _ _ _ h => h) (by kernel_rfl) (by kernel_rfl) ?_ ?_
         rotate_left
         ·(intro w; go_simp; try with_reducible rfl)
         try simp only [Act.put, tdy]
         refine timed_pure (i := 9) (v := ?_) rfl (by kernel_rfl) (by kernel_rfl) (by kernel_rfl) (fun _ _ _ h => h) (by kernel_rfl) (by kernel_rfl) ?_ ?_
         rotate_left
         ·(intro w; go_simp; try with_reducible rfl)
         try simp only [Act.put, tdy]
         refine timed_pure (i := 10) (v := ?_) rfl (by kernel_rfl) (by kernel_rfl) (by kernel_rfl) (fun _ _ _ h => h) (by kernel_rfl) (by kernel_rfl) ?_ ?_
         rotate_left
         ·(intro w; go_simp; try with_reducible rfl)
         try simp only [Act.put, tdy]
         refine timed_pure (i := 11) (v := ?_) rfl (by kernel_rfl) (by kernel_rfl) (by kernel_rfl) (fun _ _ _ h => h) (by kernel_rfl) (by kernel_rfl) ?_ ?_
         rotate_left
         ·(intro w; go_simp; try with_reducible rfl)
         try simp only [Act.put, tdy]
         refine timed_read (i := 12) (v := ?_) 0 rfl (by kernel_rfl) (by kernel_rfl) (by kernel_rfl) (fun _ _ _ h => h) (by kernel_rfl) (by kernel_rfl) rfl (by kernel_rfl) ?_ ?_
         rotate_left
         ·(intro wq hSw; (try dsimp only at hSw); have hb_T := hSw.blk HT9.out (by simp); have lb_T := hb_T.lt; have t0 := hb_T.at_ 0; have t1 := hb_T.at_ 1; have t2 := hb_T.at_ 2; simp at t0 t1 t2; clear hb_T; have hb_V := hSw.blk HV9b.out (by simp); have lb_V := hb_V.lt; have u0 := hb_V.at_ 0; have u1 := hb_V.at_ 1; simp at u0 u1; clear hb_V; have q0 := (hSw.cell (p := ⟨bo, oo + i * 4, none⟩) hbo9 (by simp)).trans HQ0.out; have q2 := (hSw.cell (p := ⟨bo, oo + i * 4 + 2, none⟩) hbo9 (by simp)).trans HQ2.out; have q3 := (hSw.cell (p := ⟨bo, oo + i * 4 + 3, none⟩) hbo9 (by simp)).trans HQ3.out; clear hSw; go_simp; try with_reducible rfl)
         try simp only [Act.put, tdy]
         refine timed_pure (i := 13) (v := ?_) rfl (by kernel_rfl) (by kernel_rfl) (by kernel_rfl) (fun _ _ _ h => h) (by kernel_rfl) (by kernel_rfl) ?_ ?_
         rotate_left
         ·(intro w; go_simp; try with_reducible rfl)
         try simp only [Act.put, tdy]
         refine timed_pure (i := 14) (v := ?_) rfl (by kernel_rfl) (by kernel_rfl) (by kernel_rfl) (fun _ _ _ h => h) (by kernel_rfl) (by kernel_rfl) ?_ ?_
         rotate_left
         ·(intro w; go_simp; try with_reducible rfl)
         try simp only [Act.put, tdy]
         refine timed_pure (i := 15) (v := ?_) rfl (by kernel_rfl) (by kernel_rfl) (by kernel_rfl) (fun _ _ _ h => h) (by kernel_rfl) (by kernel_rfl) ?_ ?_
         rotate_left
         ·(intro w; go_simp; try with_reducible rfl)
         try simp only [Act.put, tdy]
         refine timed_pure (i := 16) (v := ?_) rfl (by kernel_rfl) (by kernel_rfl) (by kernel_rfl) (fun _ _ _ h => h) (by kernel_rfl) (by kernel_rfl) ?_ ?_
         rotate_left
         ·(intro w; go_simp; try with_reducible rfl)
         try simp only [Act.put, tdy]
         refine timed_read (i := 17) (v := ?_) 0 rfl (by kernel_rfl) (by kernel_rfl) (by kernel_rfl) (fun _ _ _ h => h) (by kernel_rfl) (by kernel_rfl) rfl (by kernel_rfl) ?_ ?_
         rotate_left
         ·(intro wq hSw; (try dsimp only at hSw); have hb_T := hSw.blk HT9.out (by simp); have lb_T := hb_T.lt; have t0 := hb_T.at_ 0; have t1 := hb_T.at_ 1; have t2 := hb_T.at_ 2; simp at t0 t1 t2; clear hb_T; have hb_V := hSw.blk HV9b.out (by simp); have lb_V := hb_V.lt; have u0 := hb_V.at_ 0; have u1 := hb_V.at_ 1; simp at u0 u1; clear hb_V; have q0 := (hSw.cell (p := ⟨bo, oo + i * 4, none⟩) hbo9 (by simp)).trans HQ0.out; have q2 := (hSw.cell (p := ⟨bo, oo + i * 4 + 2, none⟩) hbo9 (by simp)).trans HQ2.out; have q3 := (hSw.cell (p := ⟨bo, oo + i * 4 + 3, none⟩) hbo9 (by simp)).trans HQ3.out; clear hSw; go_simp; try with_reducible rfl)
         try simp only [Act.put, tdy]
         refine timed_pure (i := 18) (v := ?_) rfl (by kernel_rfl) (by kernel_rfl) (by kernel_rfl) (fun _ _ _ h => h) (by kernel_rfl) (by kernel_rfl) ?_ ?_
         rotate_left
         ·(intro w; go_simp; try with_reducible rfl)
         try simp only [Act.put, tdy]
         refine timed_pure (i := 19) (v := ?_) rfl (by kernel_rfl) (by kernel_rfl) (by kernel_rfl) (fun _ _ _ h => h) (by kernel_rfl) (by kernel_rfl) ?_ ?_
         rotate_left
         ·(intro w; go_simp; try with_reducible rfl)
         try simp only [Act.put, tdy]
         refine timed_pure (i := 20) (v := ?_) rfl (by kernel_rfl) (by kernel_rfl) (by kernel_rfl) (fun _ _ _ h => h) (by kernel_rfl) (by kernel_rfl) ?_ ?_
         rotate_left
         ·(intro w; go_simp; try with_reducible rfl)
         try simp only [Act.put, tdy]
         refine timed_idle (i := 21) rfl (by kernel_rfl) (by kernel_rfl) (by kernel_rfl) (fun _ _ _ h => h) (by kernel_rfl) (by kernel_rfl) ?_
         try simp only [Act.put, tdy]
         refine timed_idle (i := 22) rfl (by kernel_rfl) (by kernel_rfl) (by kernel_rfl) (fun _ _ _ h => h) (by kernel_rfl) (by kernel_rfl) ?_
         try simp only [Act.put, tdy]
         refine timed_idle (i := 23) rfl (by kernel_rfl) (by kernel_rfl) (by kernel_rfl) (fun _ _ _ h => h) (by kernel_rfl) (by kernel_rfl) ?_
         try simp only [Act.put, tdy]
         refine timed_idle (i := 24) rfl (by kernel_rfl) (by kernel_rfl) (by kernel_rfl) (fun _ _ _ h => h) (by kernel_rfl) (by kernel_rfl) ?_
         try simp only [Act.put, tdy]
         refine timed_idle (i := 25) rfl (by kernel_rfl) (by kernel_rfl) (by kernel_rfl) (fun _ _ _ h => h) (by kernel_rfl) (by kernel_rfl) ?_
         try simp only [Act.put, tdy]
         refine timed_idle (i := 26) rfl (by kernel_rfl) (by kernel_rfl) (by kernel_rfl) (fun _ _ _ h => h) (by kernel_rfl) (by kernel_rfl) ?_
         try simp only [Act.put, tdy]
         refine timed_idle (i := 27) rfl (by kernel_rfl) (by kernel_rfl) (by kernel_rfl) (fun _ _ _ h => h) (by kernel_rfl) (by kernel_rfl) ?_
         try simp only [Act.put, tdy]
         refine timed_idle (i := 28) rfl (by kernel_rfl) (by kernel_rfl) (by kernel_rfl) (fun _ _ _ h => h) (by kernel_rfl) (by kernel_rfl) ?_
         try simp only [Act.put, tdy]
         refine timed_pure (i := 29) (v := ?_) rfl (by kernel_rfl) (by kernel_rfl) (by kernel_rfl) (fun _ _ _ h => h) (by kernel_rfl) (by kernel_rfl) ?_ ?_
         rotate_left
         ·(intro w; go_simp; try with_reducible rfl)
         try simp only [Act.put, tdy]
         refine timed_done (by kernel_rfl) ?_ _
         refine NoPanic.normal ?_
         have HWX := Lib.hid (HO9.out.trans ((Only.refl [] w9).drew))
         have HVX := Lib.hid (own_only HV9.out (Only.refl [] w9).drew (by simp))
         have HTX := Lib.hid HT9.out.drew
         generalize w9.drew = w10 at *
         go_wp2
         go_roundw
         case rel => first | exact ⟨i + 1, by go_num, by omega, Lib.hid (by rw [HE.out]; exact HVX.out), HTX, HWX⟩ | exact ⟨_, ⟨i + 1, by go_num, by omega, Lib.hid (by rw [HE.out]; exact HVX.out), HTX, HWX⟩, rfl⟩
         case measure => simp [intOf]; omega
        ·have hv1 : (yv != 2) = true := by simp [hv]
         by_cases h1 : yv = v1
         ·by_cases h2 : yn = v2
          ·have HE : Hid (bdL (ops.take (i + 1)) = bdL (ops.take i)) := Lib.hid (by rw [HBT.out, HBO.out, h1, h2]; simp)
           subst h1 h2
           clear hv
           go_upto_region 9 with (fail)
           clear lT2
           refine wp_region_noPanic ?_
           refine wp_region_timed (F := [⟨[], [], fun w' => Only [] w9 w'⟩]) (by kernel_rfl) (timed_holds ((Only.refl [] w9).drew) (timed_nil)) ?_
           refine timed_pure (i := 0) (v := ?_) rfl (by kernel_rfl) (by kernel_rfl) (by kernel_rfl) (fun _ _ _ h => h) (by kernel_rfl) (by kernel_rfl) ?_ ?_
           rotate_left
           ·(intro w; go_simp; try with_reducible rfl)
           try simp only [Act.put, tdy]
           refine timed_read (i := 1) (v := ?_) 0 rfl (by kernel_rfl) (by kernel_rfl) (by kernel_rfl) (fun _ _ _ h => h) (by kernel_rfl) (by kernel_rfl) rfl (by kernel_rfl) ?_ ?_
           rotate_left
           ·(intro wq hSw; (try dsimp only at hSw); have hb_T := hSw.blk HT9.out (by simp); have lb_T := hb_T.lt; have t0 := hb_T.at_ 0; have t1 := hb_T.at_ 1; have t2 := hb_T.at_ 2; simp at t0 t1 t2; clear hb_T; have hb_V := hSw.blk HV9b.out (by simp); have lb_V := hb_V.lt; have u0 := hb_V.at_ 0; have u1 := hb_V.at_ 1; simp at u0 u1; clear hb_V; have q0 := (hSw.cell (p := ⟨bo, oo + i * 4, none⟩) hbo9 (by simp)).trans HQ0.out; have q2 := (hSw.cell (p := ⟨bo, oo + i * 4 + 2, none⟩) hbo9 (by simp)).trans HQ2.out; have q3 := (hSw.cell (p := ⟨bo, oo + i * 4 + 3, none⟩) hbo9 (by simp)).trans HQ3.out; clear hSw; go_simp; try with_reducible rfl)
           try simp only [Act.put, tdy]
           refine timed_pure (i := 2) (v := ?_) rfl (by kernel_rfl) (by kernel_rfl) (by kernel_rfl) (fun _ _ _ h => h) (by kernel_rfl) (by kernel_rfl) ?_ ?_
           rotate_left
           ·(intro w; go_simp; try with_reducible rfl)
           try simp only [Act.put, tdy]
           refine timed_pure (i := 3) (v := ?_) rfl (by kernel_rfl) (by kernel_rfl) (by kernel_rfl) (fun _ _ _ h => h) (by kernel_rfl) (by kernel_rfl) ?_ ?_
           rotate_left
           ·(intro w; go_simp; try with_reducible rfl)
           try simp only [Act.put, tdy]
           refine timed_pure (i := 4) (v := ?_) rfl (by kernel_rfl) (by kernel_rfl) (by kernel_rfl) (fun _ _ _ h => h) (by kernel_rfl) (by kernel_rfl) ?_ ?_
           rotate_left
           ·(intro w; go_simp; try with_reducible rfl)
           try simp only [Act.put, tdy]
           refine timed_read (i := 5) (v := ?_) 0 rfl (by kernel_rfl) (by kernel_rfl) (by kernel_rfl) (fun _ _ _ h => h) (by kernel_rfl) (by kernel_rfl) rfl (by kernel_rfl) ?_ ?_
           rotate_left
           ·(intro wq hSw; (try dsimp only at hSw); have hb_T := hSw.blk HT9.out (by simp); have lb_T := hb_T.lt; have t0 := hb_T.at_ 0; have t1 := hb_T.at_ 1; have t2 := hb_T.at_ 2; simp at t0 t1 t2; clear hb_T; have hb_V := hSw.blk HV9b.out (by simp); have lb_V := hb_V.lt; have u0 := hb_V.at_ 0; have u1 := hb_V.at_ 1; simp at u0 u1; clear hb_V; have q0 := (hSw.cell (p := ⟨bo, oo + i * 4, none⟩) hbo9 (by simp)).trans HQ0.out; have q2 := (hSw.cell (p := ⟨bo, oo + i * 4 + 2, none⟩) hbo9 (by simp)).trans HQ2.out; have q3 := (hSw.cell (p := ⟨bo, oo + i * 4 + 3, none⟩) hbo9 (by simp)).trans HQ3.out; clear hSw; go_simp; try with_reducible rfl)
           try simp only [Act.put, tdy]
           refine timed_pure (i := 6) (v := ?_) rfl (by kernel_rfl) (by kernel_rfl) (by kernel_rfl) (fun _ _ _ h => h) (by kernel_rfl) (by kernel_rfl) ?_ ?_
           rotate_left
           ·(intro w; go_simp; try with_reducible rfl)
           try simp only [Act.put, tdy]
           refine timed_pure (i := 7) (v := ?_) rfl (by kernel_rfl) (by kernel_rfl) (by kernel_rfl) (fun _ _ _ h => h) (by kernel_rfl) (by kernel_rfl) ?_ ?_
           rotate_left
           ·(intro w; go_simp; try with_reducible rfl)
           try simp only [Act.put, tdy]
           refine timed_pure (i := 8) (v := ?_) rfl (by kernel_rfl) (by kernel_rfl) (by kernel_rfl) (fun _ _ _ h => h) (by kernel_rfl) (by kernel_rfl) ?_ ?_
           rotate_left
           ·(intro w; go_simp; try with_reducible rfl)
           try simp only [Act.put, tdy]
           refine timed_pure (i := 9) (v := ?_) rfl (by kernel_rfl) (by kernel_rfl) (by kernel_rfl) (fun _ _ _ h => h) (by kernel_rfl) (by kernel_rfl) ?_ ?_
           rotate_left
           ·(intro w; go_simp; try with_reducible rfl)
           try simp only [Act.put, tdy]
           refine timed_pure (i := 10) (v := ?_) rfl (by kernel_rfl) (by kernel_rfl) (by kernel_rfl) (fun _ _ _ h => h) (by kernel_rfl) (by kernel_rfl) ?_ ?_
           rotate_left
           ·(intro w; go_simp; try with_reducible rfl)
           try simp only [Act.put, tdy]
           refine timed_pure (i := 11) (v := ?_) rfl (by kernel_rfl) (by kernel_rfl) (by kernel_rfl) (fun _ _ _ h => h) (by kernel_rfl) (by kernel_rfl) ?_ ?_
           rotate_left
           ·(intro w; go_simp; try with_reducible rfl)
           try simp only [Act.put, tdy]
           refine timed_read (i := 12) (v := ?_) 0 rfl (by kernel_rfl) (by kernel_rfl) (by kernel_rfl) (fun _ _ _ h => h) (by kernel_rfl) (by kernel_rfl) rfl (by kernel_rfl) ?_ ?_
           rotate_left
           ·(intro wq hSw; (try dsimp only at hSw); have hb_T := hSw.blk HT9.out (by simp); have lb_T := hb_T.lt; have t0 := hb_T.at_ 0; have t1 := hb_T.at_ 1; have t2 := hb_T.at_ 2; simp at t0 t1 t2; clear hb_T; have hb_V := hSw.blk HV9b.out (by simp); have lb_V := hb_V.lt; have u0 := hb_V.at_ 0; have u1 := hb_V.at_ 1; simp at u0 u1; clear hb_V; have q0 := (hSw.cell (p := ⟨bo, oo + i * 4, none⟩) hbo9 (by simp)).trans HQ0.out; have q2 := (hSw.cell (p := ⟨bo, oo + i * 4 + 2, none⟩) hbo9 (by simp)).trans HQ2.out; have q3 := (hSw.cell (p := ⟨bo, oo + i * 4 + 3, none⟩) hbo9 (by simp)).trans HQ3.out; clear hSw; go_simp; try with_reducible rfl)
           try simp only [Act.put, tdy]
           refine timed_pure (i := 13) (v := ?_) rfl (by kernel_rfl) (by kernel_rfl) (by kernel_rfl) (fun _ _ _ h => h) (by kernel_rfl) (by kernel_rfl) ?_ ?_
           rotate_left
           ·(intro w; go_simp; try with_reducible rfl)
           try simp only [Act.put, tdy]
           refine timed_pure (i := 14) (v := ?_) rfl (by kernel_rfl) (by kernel_rfl) (by kernel_rfl) (fun _ _ _ h => h) (by kernel_rfl) (by kernel_rfl) ?_ ?_
           rotate_left
           ·(intro w; go_simp; try with_reducible rfl)
           try simp only [Act.put, tdy]
           refine timed_pure (i := 15) (v := ?_) rfl (by kernel_rfl) (by kernel_rfl) (by kernel_rfl) (fun _ _ _ h => h) (by kernel_rfl) (by kernel_rfl) ?_ ?_
           rotate_left
           ·(intro w; go_simp; try with_reducible rfl)
           try simp only [Act.put, tdy]
           refine timed_pure (i := 16) (v := ?_) rfl (by kernel_rfl) (by kernel_rfl) (by kernel_rfl) (fun _ _ _ h => h) (by kernel_rfl) (by kernel_rfl) ?_ ?_
           rotate_left
           ·(intro w; go_simp; try with_reducible rfl)
           try simp only [Act.put, tdy]
           refine timed_read (i := 17) (v := ?_) 0 rfl (by kernel_rfl) (by kernel_rfl) (by kernel_rfl) (fun _ _ _ h => h) (by kernel_rfl) (by kernel_rfl) rfl (by kernel_rfl) ?_ ?_
           rotate_left
           ·(intro wq hSw; (try dsimp only at hSw); have hb_T := hSw.blk HT9.out (by simp); have lb_T := hb_T.lt; have t0 := hb_T.at_ 0; have t1 := hb_T.at_ 1; have t2 := hb_T.at_ 2; simp at t0 t1 t2; clear hb_T; have hb_V := hSw.blk HV9b.out (by simp); have lb_V := hb_V.lt; have u0 := hb_V.at_ 0; have u1 := hb_V.at_ 1; simp at u0 u1; clear hb_V; have q0 := (hSw.cell (p := ⟨bo, oo + i * 4, none⟩) hbo9 (by simp)).trans HQ0.out; have q2 := (hSw.cell (p := ⟨bo, oo + i * 4 + 2, none⟩) hbo9 (by simp)).trans HQ2.out; have q3 := (hSw.cell (p := ⟨bo, oo + i * 4 + 3, none⟩) hbo9 (by simp)).trans HQ3.out; clear hSw; go_simp; try with_reducible rfl)
           try simp only [Act.put, tdy]
           refine timed_pure (i := 18) (v := ?_) rfl (by kernel_rfl) (by kernel_rfl) (by kernel_rfl) (fun _ _ _ h => h) (by kernel_rfl) (by kernel_rfl) ?_ ?_
           rotate_left
           ·(intro w; go_simp; try with_reducible rfl)
           try simp only [Act.put, tdy]
           refine timed_pure (i := 19) (v := ?_) rfl (by kernel_rfl) (by kernel_rfl) (by kernel_rfl) (fun _ _ _ h => h) (by kernel_rfl) (by kernel_rfl) ?_ ?_
           rotate_left
           ·(intro w; go_simp; try with_reducible rfl)
           try simp only [Act.put, tdy]
           refine timed_pure (i := 20) (v := ?_) rfl (by kernel_rfl) (by kernel_rfl) (by kernel_rfl) (fun _ _ _ h => h) (by kernel_rfl) (by kernel_rfl) ?_ ?_
           rotate_left
           ·(intro w; go_simp; try with_reducible rfl)
           try simp only [Act.put, tdy]
           refine timed_pure (i := 21) (v := ?_) rfl (by kernel_rfl) (by kernel_rfl) (by kernel_rfl) (fun _ _ _ h => h) (by kernel_rfl) (by kernel_rfl) ?_ ?_
           rotate_left
           ·(intro w; go_simp; try with_reducible rfl)
           try simp only [Act.put, tdy]
           refine timed_read (i := 22) (v := ?_) 0 rfl (by kernel_rfl) (by kernel_rfl) (by kernel_rfl) (fun _ _ _ h => h) (by kernel_rfl) (by kernel_rfl) rfl (by kernel_rfl) ?_ ?_
           rotate_left
           ·(intro wq hSw; (try dsimp only at hSw); have hb_T := hSw.blk HT9.out (by simp); have lb_T := hb_T.lt; have t0 := hb_T.at_ 0; have t1 := hb_T.at_ 1; have t2 := hb_T.at_ 2; simp at t0 t1 t2; clear hb_T; have hb_V := hSw.blk HV9b.out (by simp); have lb_V := hb_V.lt; have u0 := hb_V.at_ 0; have u1 := hb_V.at_ 1; simp at u0 u1; clear hb_V; have q0 := (hSw.cell (p := ⟨bo, oo + i * 4, none⟩) hbo9 (by simp)).trans HQ0.out; have q2 := (hSw.cell (p := ⟨bo, oo + i * 4 + 2, none⟩) hbo9 (by simp)).trans HQ2.out; have q3 := (hSw.cell (p := ⟨bo, oo + i * 4 + 3, none⟩) hbo9 (by simp)).trans HQ3.out; clear hSw; go_simp; try with_reducible rfl)
           try simp only [Act.put, tdy]
           refine timed_pure (i := 23) (v := ?_) rfl (by kernel_rfl) (by kernel_rfl) (by kernel_rfl) (fun _ _ _ h => h) (by kernel_rfl) (by kernel_rfl) ?_ ?_
           rotate_left
           ·(intro w; go_simp; try with_reducible rfl)
           try simp only [Act.put, tdy]
           refine timed_pure (i := 24) (v := ?_) rfl (by kernel_rfl) (by kernel_rfl) (by kernel_rfl) (fun _ _ _ h => h) (by kernel_rfl) (by kernel_rfl) ?_ ?_
           rotate_left
           ·(intro w; go_simp; try with_reducible rfl)
           try simp only [Act.put, tdy]
           refine timed_pure (i := 25) (v := ?_) rfl (by kernel_rfl) (by kernel_rfl) (by kernel_rfl) (fun _ _ _ h => h) (by kernel_rfl) (by kernel_rfl) ?_ ?_
           rotate_left
           ·(intro w; go_simp; try with_reducible rfl)
           try simp only [Act.put, tdy]
           refine timed_read (i := 26) (v := ?_) 0 rfl (by kernel_rfl) (by kernel_rfl) (by kernel_rfl) (fun _ _ _ h => h) (by kernel_rfl) (by kernel_rfl) rfl (by kernel_rfl) ?_ ?_
           rotate_left
           ·(intro wq hSw; (try dsimp only at hSw); have hb_T := hSw.blk HT9.out (by simp); have lb_T := hb_T.lt; have t0 := hb_T.at_ 0; have t1 := hb_T.at_ 1; have t2 := hb_T.at_ 2; simp at t0 t1 t2; clear hb_T; have hb_V := hSw.blk HV9b.out (by simp); have lb_V := hb_V.lt; have u0 := hb_V.at_ 0; have u1 := hb_V.at_ 1; simp at u0 u1; clear hb_V; have q0 := (hSw.cell (p := ⟨bo, oo + i * 4, none⟩) hbo9 (by simp)).trans HQ0.out; have q2 := (hSw.cell (p := ⟨bo, oo + i * 4 + 2, none⟩) hbo9 (by simp)).trans HQ2.out; have q3 := (hSw.cell (p := ⟨bo, oo + i * 4 + 3, none⟩) hbo9 (by simp)).trans HQ3.out; clear hSw; go_simp; try with_reducible rfl)
           try simp only [Act.put, tdy]
           refine timed_read (i := 27) (v := ?_) 0 rfl (by kernel_rfl) (by kernel_rfl) (by kernel_rfl) (fun _ _ _ h => h) (by kernel_rfl) (by kernel_rfl) rfl (by kernel_rfl) ?_ ?_
           rotate_left
           ·(intro wq hSw; (try dsimp only at hSw); have hb_T := hSw.blk HT9.out (by simp); have lb_T := hb_T.lt; have t0 := hb_T.at_ 0; have t1 := hb_T.at_ 1; have t2 := hb_T.at_ 2; simp at t0 t1 t2; clear hb_T; have hb_V := hSw.blk HV9b.out (by simp); have lb_V := hb_V.lt; have u0 := hb_V.at_ 0; have u1 := hb_V.at_ 1; simp at u0 u1; clear hb_V; have q0 := (hSw.cell (p := ⟨bo, oo + i * 4, none⟩) hbo9 (by simp)).trans HQ0.out; have q2 := (hSw.cell (p := ⟨bo, oo + i * 4 + 2, none⟩) hbo9 (by simp)).trans HQ2.out; have q3 := (hSw.cell (p := ⟨bo, oo + i * 4 + 3, none⟩) hbo9 (by simp)).trans HQ3.out; clear hSw; go_simp; try with_reducible rfl)
           try simp only [Act.put, tdy]
           refine timed_pure (i := 28) (v := ?_) rfl (by kernel_rfl) (by kernel_rfl) (by kernel_rfl) (fun _ _ _ h => h) (by kernel_rfl) (by kernel_rfl) ?_ ?_
           rotate_left
           ·(intro w; go_simp; try with_reducible rfl)
           try simp only [Act.put, tdy]
           refine timed_pure (i := 29) (v := ?_) rfl (by kernel_rfl) (by kernel_rfl) (by kernel_rfl) (fun _ _ _ h => h) (by kernel_rfl) (by kernel_rfl) ?_ ?_
           rotate_left
           ·(intro w; go_simp; try with_reducible rfl)
           try simp only [Act.put, tdy]
           refine timed_done (by kernel_rfl) ?_ _
           refine NoPanic.normal ?_
           have HWX := Lib.hid (HO9.out.trans ((Only.refl [] w9).drew))
           have HVX := Lib.hid (own_only HV9.out (Only.refl [] w9).drew (by simp))
           have HTX := Lib.hid HT9.out.drew
           generalize w9.drew = w10 at *
           go_wp2
           go_roundw
           case rel => first | exact ⟨i + 1, by go_num, by omega, Lib.hid (by rw [HE.out]; exact HVX.out), HTX, HWX⟩ | exact ⟨_, ⟨i + 1, by go_num, by omega, Lib.hid (by rw [HE.out]; exact HVX.out), HTX, HWX⟩, rfl⟩
           case measure => simp [intOf]; omega
          ·have HE : Hid (bdL (ops.take (i + 1)) = bdL (ops.take i) ++ [(i : Int)]) := Lib.hid (by rw [HBT.out, HBO.out]; simp [h2, hv])
           have h3 : (yn == v2) = false := by simpa using h2
           subst h1
           clear hv
           go_upto_region 9 with (fail)
           clear lT2
           refine wp_region_noPanic ?_
           refine wp_region_timed (F := [⟨[], [], fun w' => Only [] w9 w'⟩]) (by kernel_rfl) (timed_holds ((Only.refl [] w9).drew) (timed_nil)) ?_
           refine timed_pure (i := 0) (v := ?_) rfl (by kernel_rfl) (by kernel_rfl) (by kernel_rfl) (fun _ _ _ h => h) (by kernel_rfl) (by kernel_rfl) ?_ ?_
           rotate_left
           ·(intro w; go_simp; try with_reducible rfl)
           try simp only [Act.put, tdy]
           refine timed_read (i := 1) (v := ?_) 0 rfl (by kernel_rfl) (by kernel_rfl) (by kernel_rfl) (fun _ _ _ h => h) (by kernel_rfl) (by kernel_rfl) rfl (by kernel_rfl) ?_ ?_
           rotate_left
           ·(intro wq hSw; (try dsimp only at hSw); have hb_T := hSw.blk HT9.out (by simp); have lb_T := hb_T.lt; have t0 := hb_T.at_ 0; have t1 := hb_T.at_ 1; have t2 := hb_T.at_ 2; simp at t0 t1 t2; clear hb_T; have hb_V := hSw.blk HV9b.out (by simp); have lb_V := hb_V.lt; have u0 := hb_V.at_ 0; have u1 := hb_V.at_ 1; simp at u0 u1; clear hb_V; have q0 := (hSw.cell (p := ⟨bo, oo + i * 4, none⟩) hbo9 (by simp)).trans HQ0.out; have q2 := (hSw.cell (p := ⟨bo, oo + i * 4 + 2, none⟩) hbo9 (by simp)).trans HQ2.out; have q3 := (hSw.cell (p := ⟨bo, oo + i * 4 + 3, none⟩) hbo9 (by simp)).trans HQ3.out; clear hSw; go_simp; try with_reducible rfl)
           try simp only [Act.put, tdy]
           refine timed_pure (i := 2) (v := ?_) rfl (by kernel_rfl) (by kernel_rfl) (by kernel_rfl) (fun _ _ _ h => h) (by kernel_rfl) (by kernel_rfl) ?_ ?_
           rotate_left
           ·(intro w; go_simp; try with_reducible rfl)
           try simp only [Act.put, tdy]
           refine timed_pure (i := 3) (v := ?_) rfl (by kernel_rfl) (by kernel_rfl) (by kernel_rfl) (fun _ _ _ h => h) (by kernel_rfl) (by kernel_rfl) ?_ ?_
           rotate_left
           ·(intro w; go_simp; try with_reducible rfl)
           try simp only [Act.put, tdy]
           refine timed_pure (i := 4) (v := ?_) rfl (by kernel_rfl) (by kernel_rfl) (by kernel_rfl) (fun _ _ _ h => h) (by kernel_rfl) (by kernel_rfl) ?_ ?_
           rotate_left
           ·(intro w; go_simp; try with_reducible rfl)
           try simp only [Act.put, tdy]
           refine timed_read (i := 5) (v := ?_) 0 rfl (by kernel_rfl) (by kernel_rfl) (by kernel_rfl) (fun _ _ _ h => h) (by kernel_rfl) (by kernel_rfl) rfl (by kernel_rfl) ?_ ?_
           rotate_left
           ·(intro wq hSw; (try dsimp only at hSw); have hb_T := hSw.blk HT9.out (by simp); have lb_T := hb_T.lt; have t0 := hb_T.at_ 0; have t1 := hb_T.at_ 1; have t2 := hb_T.at_ 2; simp at t0 t1 t2; clear hb_T; have hb_V := hSw.blk HV9b.out (by simp); have lb_V := hb_V.lt; have u0 := hb_V.at_ 0; have u1 := hb_V.at_ 1; simp at u0 u1; clear hb_V; have q0 := (hSw.cell (p := ⟨bo, oo + i * 4, none⟩) hbo9 (by simp)).trans HQ0.out; have q2 := (hSw.cell (p := ⟨bo, oo + i * 4 + 2, none⟩) hbo9 (by simp)).trans HQ2.out; have q3 := (hSw.cell (p := ⟨bo, oo + i * 4 + 3, none⟩) hbo9 (by simp)).trans HQ3.out; clear hSw; go_simp; try with_reducible rfl)
           try simp only [Act.put, tdy]
           refine timed_pure (i := 6) (v := ?_) rfl (by kernel_rfl) (by kernel_rfl) (by kernel_rfl) (fun _ _ _ h => h) (by kernel_rfl) (by kernel_rfl) ?_ ?_
           rotate_left
           ·(intro w; go_simp; try with_reducible rfl)
           try simp only [Act.put, tdy]
           refine timed_pure (i := 7) (v := ?_) rfl (by kernel_rfl) (by kernel_rfl) (by kernel_rfl) (fun _ _ _ h => h) (by kernel_rfl) (by kernel_rfl) ?_ ?_
           rotate_left
           ·(intro w; go_simp; try with_reducible rfl)
           try simp only [Act.put, tdy]
           refine timed_pure (i := 8) (v := ?_) rfl (by kernel_rfl) (by kernel_rfl) (by kernel_rfl) (fun _ _ _ h => h) (by kernel_rfl) (by kernel_rfl) ?_ ?_
           rotate_left
           ·(intro w; go_simp; try with_reducible rfl)
           try simp only [Act.put, tdy]
           refine timed_pure (i := 9) (v := ?_) rfl (by kernel_rfl) (by kernel_rfl) (by kernel_rfl) (fun _ _ _ h => h) (by kernel_rfl) (by kernel_rfl) ?_ ?_
           rotate_left
           ·(intro w; go_simp; try with_reducible rfl)
           try simp only [Act.put, tdy]
           refine timed_pure (i := 10) (v := ?_) rfl (by kernel_rfl) (by kernel_rfl) (by kernel_rfl) (fun _ _ _ h => h) (by kernel_rfl) (by kernel_rfl) ?_ ?_
           rotate_left
           ·(intro w; go_simp; try with_reducible rfl)
           try simp only [Act.put, tdy]
           refine timed_pure (i := 11) (v := ?_) rfl (by kernel_rfl) (by kernel_rfl) (by kernel_rfl) (fun _ _ _ h => h) (by kernel_rfl) (by kernel_rfl) ?_ ?_
           rotate_left
           ·(intro w; go_simp; try with_reducible rfl)
           try simp only [Act.put, tdy]
           refine timed_read (i := 12) (v := ?_) 0 rfl (by kernel_rfl) (by kernel_rfl) (by kernel_rfl) (fun _ _ _ h => h) (by kernel_rfl) (by kernel_rfl) rfl (by kernel_rfl) ?_ ?_
           rotate_left
           ·(intro wq hSw; (try dsimp only at hSw); have hb_T := hSw.blk HT9.out (by simp); have lb_T := hb_T.lt; have t0 := hb_T.at_ 0; have t1 := hb_T.at_ 1; have t2 := hb_T.at_ 2; simp at t0 t1 t2; clear hb_T; have hb_V := hSw.blk HV9b.out (by simp); have lb_V := hb_V.lt; have u0 := hb_V.at_ 0; have u1 := hb_V.at_ 1; simp at u0 u1; clear hb_V; have q0 := (hSw.cell (p := ⟨bo, oo + i * 4, none⟩) hbo9 (by simp)).trans HQ0.out; have q2 := (hSw.cell (p := ⟨bo, oo + i * 4 + 2, none⟩) hbo9 (by simp)).trans HQ2.out; have q3 := (hSw.cell (p := ⟨bo, oo + i * 4 + 3, none⟩) hbo9 (by simp)).trans HQ3.out; clear hSw; go_simp; try with_reducible rfl)
           try simp only [Act.put, tdy]
           refine timed_pure (i := 13) (v := ?_) rfl (by kernel_rfl) (by kernel_rfl) (by kernel_rfl) (fun _ _ _ h => h) (by kernel_rfl) (by kernel_rfl) ?_ ?_
           rotate_left
           ·(intro w; go_simp; try with_reducible rfl)
           try simp only [Act.put, tdy]
           refine timed_pure (i := 14) (v := ?_) rfl (by kernel_rfl) (by kernel_rfl) (by kernel_rfl) (fun _ _ _ h => h) (by kernel_rfl) (by kernel_rfl) ?_ ?_
           rotate_left
           ·(intro w; go_simp; try with_reducible rfl)
           try simp only [Act.put, tdy]
           refine timed_pure (i := 15) (v := ?_) rfl (by kernel_rfl) (by kernel_rfl) (by kernel_rfl) (fun _ _ _ h => h) (by kernel_rfl) (by kernel_rfl) ?_ ?_
           rotate_left
           ·(intro w; go_simp; try with_reducible rfl)
           try simp only [Act.put, tdy]
           refine timed_pure (i := 16) (v := ?_) rfl (by kernel_rfl) (by kernel_rfl) (by kernel_rfl) (fun _ _ _ h => h) (by kernel_rfl) (by kernel_rfl) ?_ ?_
           rotate_left
           ·(intro w; go_simp; try with_reducible rfl)
           try simp only [Act.put, tdy]
           refine timed_read (i := 17) (v := ?_) 0 rfl (by kernel_rfl) (by kernel_rfl) (by kernel_rfl) (fun _ _ _ h => h) (by kernel_rfl) (by kernel_rfl) rfl (by kernel_rfl) ?_ ?_
           rotate_left
           ·(intro wq hSw; (try dsimp only at hSw); have hb_T := hSw.blk HT9.out (by simp); have lb_T := hb_T.lt; have t0 := hb_T.at_ 0; have t1 := hb_T.at_ 1; have t2 := hb_T.at_ 2; simp at t0 t1 t2; clear hb_T; have hb_V := hSw.blk HV9b.out (by simp); have lb_V := hb_V.lt; have u0 := hb_V.at_ 0; have u1 := hb_V.at_ 1; simp at u0 u1; clear hb_V; have q0 := (hSw.cell (p := ⟨bo, oo + i * 4, none⟩) hbo9 (by simp)).trans HQ0.out; have q2 := (hSw.cell (p := ⟨bo, oo + i * 4 + 2, none⟩) hbo9 (by simp)).trans HQ2.out; have q3 := (hSw.cell (p := ⟨bo, oo + i * 4 + 3, none⟩) hbo9 (by simp)).trans HQ3.out; clear hSw; go_simp; try with_reducible rfl)
           try simp only [Act.put, tdy]
           refine timed_pure (i := 18) (v := ?_) rfl (by kernel_rfl) (by kernel_rfl) (by kernel_rfl) (fun _ _ _ h => h) (by kernel_rfl) (by kernel_rfl) ?_ ?_
           rotate_left
           ·(intro w; go_simp; try with_reducible rfl)
           try simp only [Act.put, tdy]
           refine timed_pure (i := 19) (v := ?_) rfl (by kernel_rfl) (by kernel_rfl) (by kernel_rfl) (fun _ _ _ h => h) (by kernel_rfl) (by kernel_rfl) ?_ ?_
           rotate_left
           ·(intro w; go_simp; try with_reducible rfl)
           try simp only [Act.put, tdy]
           refine timed_pure (i := 20) (v := ?_) rfl (by kernel_rfl) (by kernel_rfl) (by kernel_rfl) (fun _ _ _ h => h) (by kernel_rfl) (by kernel_rfl) ?_ ?_
           rotate_left
           ·(intro w; go_simp; try with_reducible rfl)
           try simp only [Act.put, tdy]
           refine timed_pure (i := 21) (v := ?_) rfl (by kernel_rfl) (by kernel_rfl) (by kernel_rfl) (fun _ _ _ h => h) (by kernel_rfl) (by kernel_rfl) ?_ ?_
           rotate_left
           ·(intro w; go_simp; try with_reducible rfl)
           try simp only [Act.put, tdy]
           refine timed_read (i := 22) (v := ?_) 0 rfl (by kernel_rfl) (by kernel_rfl) (by kernel_rfl) (fun _ _ _ h => h) (by kernel_rfl) (by kernel_rfl) rfl (by kernel_rfl) ?_ ?_
           rotate_left
           ·(intro wq hSw; (try dsimp only at hSw); have hb_T := hSw.blk HT9.out (by simp); have lb_T := hb_T.lt; have t0 := hb_T.at_ 0; have t1 := hb_T.at_ 1; have t2 := hb_T.at_ 2; simp at t0 t1 t2; clear hb_T; have hb_V := hSw.blk HV9b.out (by simp); have lb_V := hb_V.lt; have u0 := hb_V.at_ 0; have u1 := hb_V.at_ 1; simp at u0 u1; clear hb_V; have q0 := (hSw.cell (p := ⟨bo, oo + i * 4, none⟩) hbo9 (by simp)).trans HQ0.out; have q2 := (hSw.cell (p := ⟨bo, oo + i * 4 + 2, none⟩) hbo9 (by simp)).trans HQ2.out; have q3 := (hSw.cell (p := ⟨bo, oo + i * 4 + 3, none⟩) hbo9 (by simp)).trans HQ3.out; clear hSw; go_simp; try with_reducible rfl)
           try simp only [Act.put, tdy]
           refine timed_pure (i := 23) (v := ?_) rfl (by kernel_rfl) (by kernel_rfl) (by kernel_rfl) (fun _ _ _ h => h) (by kernel_rfl) (by kernel_rfl) ?_ ?_
           rotate_left
           ·(intro w; go_simp; try with_reducible rfl)
           try simp only [Act.put, tdy]
           refine timed_pure (i := 24) (v := ?_) rfl (by kernel_rfl) (by kernel_rfl) (by kernel_rfl) (fun _ _ _ h => h) (by kernel_rfl) (by kernel_rfl) ?_ ?_
           rotate_left
           ·(intro w; go_simp; try with_reducible rfl)
           try simp only [Act.put, tdy]
           refine timed_pure (i := 25) (v := ?_) rfl (by kernel_rfl) (by kernel_rfl) (by kernel_rfl) (fun _ _ _ h => h) (by kernel_rfl) (by kernel_rfl) ?_ ?_
           rotate_left
           ·(intro w; go_simp; try with_reducible rfl)
           try simp only [Act.put, tdy]
           refine timed_read (i := 26) (v := ?_) 0 rfl (by kernel_rfl) (by kernel_rfl) (by kernel_rfl) (fun _ _ _ h => h) (by kernel_rfl) (by kernel_rfl) rfl (by kernel_rfl) ?_ ?_
           rotate_left
           ·(intro wq hSw; (try dsimp only at hSw); have hb_T := hSw.blk HT9.out (by simp); have lb_T := hb_T.lt; have t0 := hb_T.at_ 0; have t1 := hb_T.at_ 1; have t2 := hb_T.at_ 2; simp at t0 t1 t2; clear hb_T; have hb_V := hSw.blk HV9b.out (by simp); have lb_V := hb_V.lt; have u0 := hb_V.at_ 0; have u1 := hb_V.at_ 1; simp at u0 u1; clear hb_V; have q0 := (hSw.cell (p := ⟨bo, oo + i * 4, none⟩) hbo9 (by simp)).trans HQ0.out; have q2 := (hSw.cell (p := ⟨bo, oo + i * 4 + 2, none⟩) hbo9 (by simp)).trans HQ2.out; have q3 := (hSw.cell (p := ⟨bo, oo + i * 4 + 3, none⟩) hbo9 (by simp)).trans HQ3.out; clear hSw; go_simp; try with_reducible rfl)
           try simp only [Act.put, tdy]
           refine timed_read (i := 27) (v := ?_) 0 rfl (by kernel_rfl) (by kernel_rfl) (by kernel_rfl) (fun _ _ _ h => h) (by kernel_rfl) (by kernel_rfl) rfl (by kernel_rfl) ?_ ?_
           rotate_left
           ·(intro wq hSw; (try dsimp only at hSw); have hb_T := hSw.blk HT9.out (by simp); have lb_T := hb_T.lt; have t0 := hb_T.at_ 0; have t1 := hb_T.at_ 1; have t2 := hb_T.at_ 2; simp at t0 t1 t2; clear hb_T; have hb_V := hSw.blk HV9b.out (by simp); have lb_V := hb_V.lt; have u0 := hb_V.at_ 0; have u1 := hb_V.at_ 1; simp at u0 u1; clear hb_V; have q0 := (hSw.cell (p := ⟨bo, oo + i * 4, none⟩) hbo9 (by simp)).trans HQ0.out; have q2 := (hSw.cell (p := ⟨bo, oo + i * 4 + 2, none⟩) hbo9 (by simp)).trans HQ2.out; have q3 := (hSw.cell (p := ⟨bo, oo + i * 4 + 3, none⟩) hbo9 (by simp)).trans HQ3.out; clear hSw; go_simp; try with_reducible rfl)
           try simp only [Act.put, tdy]
           refine timed_pure (i := 28) (v := ?_) rfl (by kernel_rfl) (by kernel_rfl) (by kernel_rfl) (fun _ _ _ h => h) (by kernel_rfl) (by kernel_rfl) ?_ ?_
           rotate_left
           ·(intro w; go_simp; try with_reducible rfl)
           try simp only [Act.put, tdy]
           refine timed_pure (i := 29) (v := ?_) rfl (by kernel_rfl) (by kernel_rfl) (by kernel_rfl) (fun _ _ _ h => h) (by kernel_rfl) (by kernel_rfl) ?_ ?_
           rotate_left
           ·(intro w; go_simp; try with_reducible rfl)
           try simp only [Act.put, tdy]
           refine timed_done (by kernel_rfl) ?_ _
           refine NoPanic.normal ?_
           have HWX := Lib.hid (HO9.out.trans ((Only.refl [] w9).drew))
           have HVX := Lib.hid (own_only HV9.out (Only.refl [] w9).drew (by simp))
           have HTX := Lib.hid HT9.out.drew
           generalize w9.drew = w10 at *
           have hszx := HWX.out.size
           go_wp2_with (at_builtin; refine wpList_append_row _ rfl (.tmp 80) (.tmp 82) _ rfl (w.heap.size + 1) 3 i0 _ 1 8 Tryz.underlying37 hi hz0 hz1 hz2 rfl (by omega) _ _ _ rfl (own_only HVX.out ((Only.refl [] _).alloc _) (by simp)) (w10.heap.size + 1) (some ⟨w10.heap.size, 0, none⟩) 1 1 [.int .i64 (i : Int)] rfl rfl (row_lit w10 3 #[.int .i64 (i : Int)]) (by simp [Value.oneCell']) (by unfold maxLen; omega) (by omega) (by have := HWX.out.size; simp; omega) ?_; intro v4 w4 hown4 hgrow hat)
           have hb1 := HTX.out.alloc (.cells #[.int .i64 (i : Int)] 3)
           have hv1 := own_only HVX.out ((Only.refl [] w10).alloc (.cells #[.int .i64 (i : Int)] 3)) (by simp)
           have REL : w4.ownsRow (w.heap.size + 1) 3 1 v4 (bdL (ops.take (i + 1))).length ((bdL (ops.take (i + 1))).map (Value.int .i64)) ∧ Blk w4 gt 44 #[.int .i64 s, .int .i64 f, .slice (some ⟨bo, oo, none⟩) m cp] ∧ Only [] w w4 := by
            refine ⟨?_, (only_grown hgrow).blk hb1 (own_apart hv1 hb1 (by decide)), (HWX.out.alloc _).step (only_grown hgrow) (fun i hi hl => own_new HVX.out (S := []) i hi (by omega))⟩
            rw [HE.out]
            simpa using hown4
           have HREL := Lib.hid REL
           clear REL hown4 hb1 hv1
           go_wp2
           go_roundw
           case rel => first | exact ⟨i + 1, by go_num, by omega, Lib.hid HREL.out.1, Lib.hid HREL.out.2.1, Lib.hid HREL.out.2.2⟩ | exact ⟨_, ⟨i + 1, by go_num, by omega, Lib.hid HREL.out.1, Lib.hid HREL.out.2.1, Lib.hid HREL.out.2.2⟩, rfl⟩
           case measure => simp [intOf]; omega
         ·have HE : Hid (bdL (ops.take (i + 1)) = bdL (ops.take i) ++ [(i : Int)]) := Lib.hid (by rw [HBT.out, HBO.out]; simp [h1, hv])
          have h3 : (yv == v1) = false := by simpa using h1
          clear hv
          go_upto_region 9 with (fail)
          clear lT2
          refine wp_region_noPanic ?_
          refine wp_region_timed (F := [⟨[], [], fun w' => Only [] w9 w'⟩]) (by kernel_rfl) (timed_holds ((Only.refl [] w9).drew) (timed_nil)) ?_
          refine timed_pure (i := 0) (v := ?_) rfl (by kernel_rfl) (by kernel_rfl) (by kernel_rfl) (fun _ _ _ h => h) (by kernel_rfl) (by kernel_rfl) ?_ ?_
          rotate_left
          ·(intro w; go_simp; try with_reducible rfl)
          try simp only [Act.put, tdy]
          refine timed_read (i := 1) (v := ?_) 0 rfl (by kernel_rfl) (by kernel_rfl) (by kernel_rfl) (fun _ _ _ h => h) (by kernel_rfl) (by kernel_rfl) rfl (by kernel_rfl) ?_ ?_
          rotate_left
          ·(intro wq hSw; (try dsimp only at hSw); have hb_T := hSw.blk HT9.out (by simp); have lb_T := hb_T.lt; have t0 := hb_T.at_ 0; have t1 := hb_T.at_ 1; have t2 := hb_T.at_ 2; simp at t0 t1 t2; clear hb_T; have hb_V := hSw.blk HV9b.out (by simp); have lb_V := hb_V.lt; have u0 := hb_V.at_ 0; have u1 := hb_V.at_ 1; simp at u0 u1; clear hb_V; have q0 := (hSw.cell (p := ⟨bo, oo + i * 4, none⟩) hbo9 (by simp)).trans HQ0.out; have q2 := (hSw.cell (p := ⟨bo, oo + i * 4 + 2, none⟩) hbo9 (by simp)).trans HQ2.out; have q3 := (hSw.cell (p := ⟨bo, oo + i * 4 + 3, none⟩) hbo9 (by simp)).trans HQ3.out; clear hSw; go_simp; try with_reducible rfl)
          try simp only [Act.put, tdy]
          refine timed_pure (i := 2) (v := ?_) rfl (by kernel_rfl) (by kernel_rfl) (by kernel_rfl) (fun _ _ _ h => h) (by kernel_rfl) (by kernel_rfl) ?_ ?_
          rotate_left
          ·(intro w; go_simp; try with_reducible rfl)
          try simp only [Act.put, tdy]
          refine timed_pure (i := 3) (v := ?_) rfl (by kernel_rfl) (by kernel_rfl) (by kernel_rfl) (fun _ _ _ h => h) (by kernel_rfl) (by kernel_rfl) ?_ ?_
          rotate_left
          ·(intro w; go_simp; try with_reducible rfl)
          try simp only [Act.put, tdy]
          refine timed_pure (i := 4) (v := ?_) rfl (by kernel_rfl) (by kernel_rfl) (by kernel_rfl) (fun _ _ _ h => h) (by kernel_rfl) (by kernel_rfl) ?_ ?_
          rotate_left
          ·(intro w; go_simp; try with_reducible rfl)
          try simp only [Act.put, tdy]
          refine timed_read (i := 5) (v := ?_) 0 rfl (by kernel_rfl) (by kernel_rfl) (by kernel_rfl) (fun _ _ _ h => h) (by kernel_rfl) (by kernel_rfl) rfl (by kernel_rfl) ?_ ?_
          rotate_left
          ·(intro wq hSw; (try dsimp only at hSw); have hb_T := hSw.blk HT9.out (by simp); have lb_T := hb_T.lt; have t0 := hb_T.at_ 0; have t1 := hb_T.at_ 1; have t2 := hb_T.at_ 2; simp at t0 t1 t2; clear hb_T; have hb_V := hSw.blk HV9b.out (by simp); have lb_V := hb_V.lt; have u0 := hb_V.at_ 0; have u1 := hb_V.at_ 1; simp at u0 u1; clear hb_V; have q0 := (hSw.cell (p := ⟨bo, oo + i * 4, none⟩) hbo9 (by simp)).trans HQ0.out; have q2 := (hSw.cell (p := ⟨bo, oo + i * 4 + 2, none⟩) hbo9 (by simp)).trans HQ2.out; have q3 := (hSw.cell (p := ⟨bo, oo + i * 4 + 3, none⟩) hbo9 (by simp)).trans HQ3.out; clear hSw; go_simp; try with_reducible rfl)
          try simp only [Act.put, tdy]
          refine timed_pure (i := 6) (v := ?_) rfl (by kernel_rfl) (by kernel_rfl) (by kernel_rfl) (fun _ _ _ h => h) (by kernel_rfl) (by kernel_rfl) ?_ ?_
          rotate_left
          ·(intro w; go_simp; try with_reducible rfl)
          try simp only [Act.put, tdy]
          refine timed_pure (i := 7) (v := ?_) rfl (by kernel_rfl) (by kernel_rfl) (by kernel_rfl) (fun _ _ _ h => h) (by kernel_rfl) (by kernel_rfl) ?_ ?_
          rotate_left
          ·(intro w; go_simp; try with_reducible rfl)
          try simp only [Act.put, tdy]
          refine timed_pure (i := 8) (v := ?_) rfl (by kernel_rfl) (by kernel_rfl) (by kernel_rfl) (fun _ _ _ h => h) (by kernel_rfl) (by kernel_rfl) ?_ ?_
          rotate_left
          ·(intro w; go_simp; try with_reducible rfl)
          try simp only [Act.put, tdy]
          refine timed_pure (i := 9) (v := ?_) rfl (by kernel_rfl) (by kernel_rfl) (by kernel_rfl) (fun _ _ _ h => h) (by kernel_rfl) (by kernel_rfl) ?_ ?_
          rotate_left
          ·(intro w; go_simp; try with_reducible rfl)
          try simp only [Act.put, tdy]
          refine timed_pure (i := 10) (v := ?_) rfl (by kernel_rfl) (by kernel_rfl) (by kernel_rfl) (fun _ _ _ h => h) (by kernel_rfl) (by kernel_rfl) ?_ ?_
          rotate_left
          ·(intro w; go_simp; try with_reducible rfl)
          try simp only [Act.put, tdy]
          refine timed_pure (i := 11) (v := ?_) rfl (by kernel_rfl) (by kernel_rfl) (by kernel_rfl) (fun _ _ _ h => h) (by kernel_rfl) (by kernel_rfl) ?_ ?_
          rotate_left
          ·(intro w; go_simp; try with_reducible rfl)
          try simp only [Act.put, tdy]
          refine timed_read (i := 12) (v := ?_) 0 rfl (by kernel_rfl) (by kernel_rfl) (by kernel_rfl) (fun _ _ _ h => h) (by kernel_rfl) (by kernel_rfl) rfl (by kernel_rfl) ?_ ?_
          rotate_left
          ·(intro wq hSw; (try dsimp only at hSw); have hb_T := hSw.blk HT9.out (by simp); have lb_T := hb_T.lt; have t0 := hb_T.at_ 0; have t1 := hb_T.at_ 1; have t2 := hb_T.at_ 2; simp at t0 t1 t2; clear hb_T; have hb_V := hSw.blk HV9b.out (by simp); have lb_V := hb_V.lt; have u0 := hb_V.at_ 0; have u1 := hb_V.at_ 1; simp at u0 u1; clear hb_V; have q0 := (hSw.cell (p := ⟨bo, oo + i * 4, none⟩) hbo9 (by simp)).trans HQ0.out; have q2 := (hSw.cell (p := ⟨bo, oo + i * 4 + 2, none⟩) hbo9 (by simp)).trans HQ2.out; have q3 := (hSw.cell (p := ⟨bo, oo + i * 4 + 3, none⟩) hbo9 (by simp)).trans HQ3.out; clear hSw; go_simp; try with_reducible rfl)
          try simp only [Act.put, tdy]
          refine timed_pure (i := 13) (v := ?_) rfl (by kernel_rfl) (by kernel_rfl) (by kernel_rfl) (fun _ _ _ h => h) (by kernel_rfl) (by kernel_rfl) ?_ ?_
          rotate_left
          ·(intro w; go_simp; try with_reducible rfl)
          try simp only [Act.put, tdy]
          refine timed_pure (i := 14) (v := ?_) rfl (by kernel_rfl) (by kernel_rfl) (by kernel_rfl) (fun _ _ _ h => h) (by kernel_rfl) (by kernel_rfl) ?_ ?_
          rotate_left
          ·(intro w; go_simp; try with_reducible rfl)
          try simp only [Act.put, tdy]
          refine timed_pure (i := 15) (v := ?_) rfl (by kernel_rfl) (by kernel_rfl) (by kernel_rfl) (fun _ _ _ h => h) (by kernel_rfl) (by kernel_rfl) ?_ ?_
          rotate_left
          ·(intro w; go_simp; try with_reducible rfl)
          try simp only [Act.put, tdy]
          refine timed_pure (i := 16) (v := ?_) rfl (by kernel_rfl) (by kernel_rfl) (by kernel_rfl) (fun _ _ _ h => h) (by kernel_rfl) (by kernel_rfl) ?_ ?_
          rotate_left
          ·(intro w; go_simp; try with_reducible rfl)
          try simp only [Act.put, tdy]
          refine timed_read (i := 17) (v := ?_) 0 rfl (by kernel_rfl) (by kernel_rfl) (by kernel_rfl) (fun _ _ _ h => h) (by kernel_rfl) (by kernel_rfl) rfl (by kernel_rfl) ?_ ?_
          rotate_left
          ·(intro wq hSw; (try dsimp only at hSw); have hb_T := hSw.blk HT9.out (by simp); have lb_T := hb_T.lt; have t0 := hb_T.at_ 0; have t1 := hb_T.at_ 1; have t2 := hb_T.at_ 2; simp at t0 t1 t2; clear hb_T; have hb_V := hSw.blk HV9b.out (by simp); have lb_V := hb_V.lt; have u0 := hb_V.at_ 0; have u1 := hb_V.at_ 1; simp at u0 u1; clear hb_V; have q0 := (hSw.cell (p := ⟨bo, oo + i * 4, none⟩) hbo9 (by simp)).trans HQ0.out; have q2 := (hSw.cell (p := ⟨bo, oo + i * 4 + 2, none⟩) hbo9 (by simp)).trans HQ2.out; have q3 := (hSw.cell (p := ⟨bo, oo + i * 4 + 3, none⟩) hbo9 (by simp)).trans HQ3.out; clear hSw; go_simp; try with_reducible rfl)
          try simp only [Act.put, tdy]
          refine timed_pure (i := 18) (v := ?_) rfl (by kernel_rfl) (by kernel_rfl) (by kernel_rfl) (fun _ _ _ h => h) (by kernel_rfl) (by kernel_rfl) ?_ ?_
          rotate_left
          ·(intro w; go_simp; try with_reducible rfl)
          try simp only [Act.put, tdy]
          refine timed_pure (i := 19) (v := ?_) rfl (by kernel_rfl) (by kernel_rfl) (by kernel_rfl) (fun _ _ _ h => h) (by kernel_rfl) (by kernel_rfl) ?_ ?_
          rotate_left
          ·(intro w; go_simp; try with_reducible rfl)
          try simp only [Act.put, tdy]
          refine timed_pure (i := 20) (v := ?_) rfl (by kernel_rfl) (by kernel_rfl) (by kernel_rfl) (fun _ _ _ h => h) (by kernel_rfl) (by kernel_rfl) ?_ ?_
          rotate_left
          ·(intro w; go_simp; try with_reducible rfl)
          try simp only [Act.put, tdy]
          refine timed_pure (i := 21) (v := ?_) rfl (by kernel_rfl) (by kernel_rfl) (by kernel_rfl) (fun _ _ _ h => h) (by kernel_rfl) (by kernel_rfl) ?_ ?_
          rotate_left
          ·(intro w; go_simp; try with_reducible rfl)
          try simp only [Act.put, tdy]
          refine timed_read (i := 22) (v := ?_) 0 rfl (by kernel_rfl) (by kernel_rfl) (by kernel_rfl) (fun _ _ _ h => h) (by kernel_rfl) (by kernel_rfl) rfl (by kernel_rfl) ?_ ?_
          rotate_left
          ·(intro wq hSw; (try dsimp only at hSw); have hb_T := hSw.blk HT9.out (by simp); have lb_T := hb_T.lt; have t0 := hb_T.at_ 0; have t1 := hb_T.at_ 1; have t2 := hb_T.at_ 2; simp at t0 t1 t2; clear hb_T; have hb_V := hSw.blk HV9b.out (by simp); have lb_V := hb_V.lt; have u0 := hb_V.at_ 0; have u1 := hb_V.at_ 1; simp at u0 u1; clear hb_V; have q0 := (hSw.cell (p := ⟨bo, oo + i * 4, none⟩) hbo9 (by simp)).trans HQ0.out; have q2 := (hSw.cell (p := ⟨bo, oo + i * 4 + 2, none⟩) hbo9 (by simp)).trans HQ2.out; have q3 := (hSw.cell (p := ⟨bo, oo + i * 4 + 3, none⟩) hbo9 (by simp)).trans HQ3.out; clear hSw; go_simp; try with_reducible rfl)
          try simp only [Act.put, tdy]
          refine timed_pure (i := 23) (v := ?_) rfl (by kernel_rfl) (by kernel_rfl) (by kernel_rfl) (fun _ _ _ h => h) (by kernel_rfl) (by kernel_rfl) ?_ ?_
          rotate_left
          ·(intro w; go_simp; try with_reducible rfl)
          try simp only [Act.put, tdy]
          refine timed_pure (i := 24) (v := ?_) rfl (by kernel_rfl) (by kernel_rfl) (by kernel_rfl) (fun _ _ _ h => h) (by kernel_rfl) (by kernel_rfl) ?_ ?_
          rotate_left
          ·(intro w; go_simp; try with_reducible rfl)
          try simp only [Act.put, tdy]
          refine timed_pure (i := 25) (v := ?_) rfl (by kernel_rfl) (by kernel_rfl) (by kernel_rfl) (fun _ _ _ h => h) (by kernel_rfl) (by kernel_rfl) ?_ ?_
          rotate_left
          ·(intro w; go_simp; try with_reducible rfl)
          try simp only [Act.put, tdy]
          refine timed_read (i := 26) (v := ?_) 0 rfl (by kernel_rfl) (by kernel_rfl) (by kernel_rfl) (fun _ _ _ h => h) (by kernel_rfl) (by kernel_rfl) rfl (by kernel_rfl) ?_ ?_
          rotate_left
          ·(intro wq hSw; (try dsimp only at hSw); have hb_T := hSw.blk HT9.out (by simp); have lb_T := hb_T.lt; have t0 := hb_T.at_ 0; have t1 := hb_T.at_ 1; have t2 := hb_T.at_ 2; simp at t0 t1 t2; clear hb_T; have hb_V := hSw.blk HV9b.out (by simp); have lb_V := hb_V.lt; have u0 := hb_V.at_ 0; have u1 := hb_V.at_ 1; simp at u0 u1; clear hb_V; have q0 := (hSw.cell (p := ⟨bo, oo + i * 4, none⟩) hbo9 (by simp)).trans HQ0.out; have q2 := (hSw.cell (p := ⟨bo, oo + i * 4 + 2, none⟩) hbo9 (by simp)).trans HQ2.out; have q3 := (hSw.cell (p := ⟨bo, oo + i * 4 + 3, none⟩) hbo9 (by simp)).trans HQ3.out; clear hSw; go_simp; try with_reducible rfl)
          try simp only [Act.put, tdy]
          refine timed_read (i := 27) (v := ?_) 0 rfl (by kernel_rfl) (by kernel_rfl) (by kernel_rfl) (fun _ _ _ h => h) (by kernel_rfl) (by kernel_rfl) rfl (by kernel_rfl) ?_ ?_
          rotate_left
          ·(intro wq hSw; (try dsimp only at hSw); have hb_T := hSw.blk HT9.out (by simp); have lb_T := hb_T.lt; have t0 := hb_T.at_ 0; have t1 := hb_T.at_ 1; have t2 := hb_T.at_ 2; simp at t0 t1 t2; clear hb_T; have hb_V := hSw.blk HV9b.out (by simp); have lb_V := hb_V.lt; have u0 := hb_V.at_ 0; have u1 := hb_V.at_ 1; simp at u0 u1; clear hb_V; have q0 := (hSw.cell (p := ⟨bo, oo + i * 4, none⟩) hbo9 (by simp)).trans HQ0.out; have q2 := (hSw.cell (p := ⟨bo, oo + i * 4 + 2, none⟩) hbo9 (by simp)).trans HQ2.out; have q3 := (hSw.cell (p := ⟨bo, oo + i * 4 + 3, none⟩) hbo9 (by simp)).trans HQ3.out; clear hSw; go_simp; try with_reducible rfl)
          try simp only [Act.put, tdy]
          refine timed_pure (i := 28) (v := ?_) rfl (by kernel_rfl) (by kernel_rfl) (by kernel_rfl) (fun _ _ _ h => h) (by kernel_rfl) (by kernel_rfl) ?_ ?_
          rotate_left
          ·(intro w; go_simp; try with_reducible rfl)
          try simp only [Act.put, tdy]
          refine timed_pure (i := 29) (v := ?_) rfl (by kernel_rfl) (by kernel_rfl) (by kernel_rfl) (fun _ _ _ h => h) (by kernel_rfl) (by kernel_rfl) ?_ ?_
          rotate_left
          ·(intro w; go_simp; try with_reducible rfl)
          try simp only [Act.put, tdy]
          refine timed_done (by kernel_rfl) ?_ _
          refine NoPanic.normal ?_
          have HWX := Lib.hid (HO9.out.trans ((Only.refl [] w9).drew))
          have HVX := Lib.hid (own_only HV9.out (Only.refl [] w9).drew (by simp))
          have HTX := Lib.hid HT9.out.drew
          generalize w9.drew = w10 at *
          have hszx := HWX.out.size
          go_wp2_with (at_builtin; refine wpList_append_row _ rfl (.tmp 80) (.tmp 82) _ rfl (w.heap.size + 1) 3 i0 _ 1 8 Tryz.underlying37 hi hz0 hz1 hz2 rfl (by omega) _ _ _ rfl (own_only HVX.out ((Only.refl [] _).alloc _) (by simp)) (w10.heap.size + 1) (some ⟨w10.heap.size, 0, none⟩) 1 1 [.int .i64 (i : Int)] rfl rfl (row_lit w10 3 #[.int .i64 (i : Int)]) (by simp [Value.oneCell']) (by unfold maxLen; omega) (by omega) (by have := HWX.out.size; simp; omega) ?_; intro v4 w4 hown4 hgrow hat)
          have hb1 := HTX.out.alloc (.cells #[.int .i64 (i : Int)] 3)
          have hv1 := own_only HVX.out ((Only.refl [] w10).alloc (.cells #[.int .i64 (i : Int)] 3)) (by simp)
          have REL : w4.ownsRow (w.heap.size + 1) 3 1 v4 (bdL (ops.take (i + 1))).length ((bdL (ops.take (i + 1))).map (Value.int .i64)) ∧ Blk w4 gt 44 #[.int .i64 s, .int .i64 f, .slice (some ⟨bo, oo, none⟩) m cp] ∧ Only [] w w4 := by
           refine ⟨?_, (only_grown hgrow).blk hb1 (own_apart hv1 hb1 (by decide)), (HWX.out.alloc _).step (only_grown hgrow) (fun i hi hl => own_new HVX.out (S := []) i hi (by omega))⟩
           rw [HE.out]
           simpa using hown4
          have HREL := Lib.hid REL
          clear REL hown4 hb1 hv1
          go_wp2
          go_roundw
          case rel => first | exact ⟨i + 1, by go_num, by omega, Lib.hid HREL.out.1, Lib.hid HREL.out.2.1, Lib.hid HREL.out.2.2⟩ | exact ⟨_, ⟨i + 1, by go_num, by omega, Lib.hid HREL.out.1, Lib.hid HREL.out.2.1, Lib.hid HREL.out.2.2⟩, rfl⟩
          case measure => simp [intOf]; omega
     ·have him : i = m := by omega
      subst him
      have hd2 : decide ((i : Int) < (i : Int)) = false := by simp
      have hVV := hV.out
      rw [List.take_of_length_le (by omega)] at hVV
      obtain ⟨A, c, rfl, -, -, -, hR⟩ := own_row hVV
      have HR := Lib.hid hR
      clear hV hVV hR
      go_wp2
      go_ret
      first | exact ⟨⟨_, ⟨_, rfl⟩, HR.out⟩, hO.out⟩ | exact ⟨_, _, ⟨rfl, HR.out⟩, hO.out⟩
end Go.Proofs.YtjhomlnlmpdklaaGreatDoor
