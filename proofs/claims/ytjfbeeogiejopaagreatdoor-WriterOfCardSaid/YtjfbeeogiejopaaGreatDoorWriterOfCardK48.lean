/- The document's layer 15: Values. -/
import Derived.Test.YtjfbeeogiejopaaGreatDoorWriterOfCardK43
import Derived.Test.YtjfbeeogiejopaaGreatDoorWriterOfCardK35
import Derived.Test.YtjfbeeogiejopaaGreatDoorWriterOfCardK44
import Derived.Test.YtjfbeeogiejopaaGreatDoorWriterOfCardK47
import Derived.Test.YtjfbeeogiejopaaGreatDoorWriterOfCardK31
import Derived.Test.YtjfbeeogiejopaaGreatDoorWriterOfCardK32
import Derived.Deep.CutBlock
import Derived.Deep.DeepCutAuto
set_option linter.unusedVariables false
set_option linter.unusedSimpArgs false
namespace Go.Proofs.YtjfbeeogiejopaaGreatDoor
open Go.RowKit
open Go.Lib hiding intOf
attribute [local go_sem ↓] Go.wp_at_zero Go.wp_at_succ
set_option maxRecDepth 10000 in
set_option maxHeartbeats 8000000 in
theorem rvalues15_any (A0 A1 A2 : Option Addr) (n0 n1 n2 c0 c1 c2 B : Nat) (h : Hst) (a b : Int) (w : World) (hg : HIn w B A0 A1 A2 n0 n1 n2 h) :
  Calls Tryz.prog 15 #[hval A0 A1 A2 n0 n1 n2 c0 c1 c2, .agg #[.int .i64 a, .int .i64 b]] w fun e w' => ∃ A' m c', (e = .returned (.slice A' m c') ∧ (valsH h a b).length = m ∧ Row w' w'.heap.size A' (edgeC (valsH h a b))) ∧ Only [] w w' := by
 obtain ⟨i0, hi, hz0, hz1, hz2⟩ := info_parts info_val
 have HRD := Lib.hid (fun w' (O : Only [] w w') => rread15_any A0 A1 A2 n0 n1 n2 c0 c1 c2 B h a b w' (hg.same O))
 have HL := Lib.hid hg.at_.r2
 have HN2 := Lib.hid hg.n2
 have HNO := Lib.hid hg.sm.no
 have hn2 : n2 ≤ 999 ∨ n2 = 1000 := by have := hg.sm.nl; rw [hg.n2] at this; omega
 have HM := Lib.hid (fun (t : Tx) (o : Op4) (hr : readO h a b = some (t, o)) => (show n2 ≤ 40 by rw [← hg.n2]; exact (may_ops (read_inv hr).1).1))
 unfold hval at HRD ⊢
 clear hg
 have HO1 := Lib.hid (((Only.refl [] w).alloc (.cells #[.slice A0 n0 c0, .slice A1 n1 c1, .slice A2 n2 c2] 25)).alloc (.cells #[.int .i64 a, .int .i64 b] 27))
 have HB1 := Lib.hid ((Blk.made w 25 #[.slice A0 n0 c0, .slice A1 n1 c1, .slice A2 n2 c2]).alloc (.cells #[.int .i64 a, .int .i64 b] 27))
 have HP1 := Lib.hid (Blk.made (w.alloc (.cells #[.slice A0 n0 c0, .slice A1 n1 c1, .slice A2 n2 c2] 25)) 27 #[.int .i64 a, .int .i64 b])
 simp only [World.size_alloc] at HP1
 go_enter Tryz.func15, Tryz.ntmps15
 go_upto_region 1 with (fail)
 generalize ((w.alloc (.cells #[.slice A0 n0 c0, .slice A1 n1 c1, .slice A2 n2 c2] 25)).alloc (.cells #[.int .i64 a, .int .i64 b] 27)) = w1 at *
 generalize hgp : w.heap.size + 1 = gp at *
 generalize hgg : w.heap.size = g at *
 have hgz : g ≤ w1.heap.size := by have := HO1.out.size; omega
 have lB := HB1.out.lt
 have y0 := HB1.out.at_ 0
 have y1 := HB1.out.at_ 1
 have y2 := HB1.out.at_ 2
 have lP := HP1.out.lt
 have p0 := HP1.out.at_ 0
 have p1 := HP1.out.at_ 1
 simp at y0 y1 y2 p0 p1
 go_wp2_with fail
 refine (HRD.out _ HO1.out).mono ?_
 rintro e w2 ⟨rfl, O2⟩
 have HO2 := Lib.hid (HO1.out.trans O2)
 have HB2 := Lib.hid (O2.blk HB1.out (by simp))
 have HP2 := Lib.hid (O2.blk HP1.out (by simp))
 have hgz2 : g ≤ w2.heap.size := by have := HO2.out.size; omega
 clear O2 HO1 HB1 HP1 HRD lB y0 y1 y2 lP p0 p1 hgz
 cases hr : readO h a b with
 | none =>
  have HE := Lib.hid (valsH_none hr)
  rw [Option.isSome_none]
  clear hr HM
  go_wp2
  go_ret
  exact ⟨_, 0, _, ⟨rfl, by rw [HE.out]; rfl, by rw [HE.out]; exact .inl rfl⟩, HO2.out.alloc _⟩
 | some x =>
  obtain ⟨t0, o0⟩ := x
  have HE := Lib.hid (valsH_some hr)
  have hn40 := HM.out _ _ hr
  obtain ⟨-, i, j, rfl, rfl, hx, hj, -⟩ := read_inv hr
  obtain ⟨bl, off, A', cp, rfl, -, hbw, hT, hOk⟩ := HL.out.at_ hx
  have hi2 : i < n2 := by rw [← HN2.out]; exact (List.getElem?_eq_some_iff.1 hx).1
  obtain ⟨bo, oo, rfl, -, hbo, hP⟩ := row_op hOk.row hj
  have hjm := (List.getElem?_eq_some_iff.1 hj).1
  have HTC := Lib.hid (hT.only HO2.out (by omega) (by simp)).c2
  have HPO := Lib.hid (hP.only HO2.out (by omega) (by simp)).c1
  have hbr : bl < w2.heap.size := by omega
  have hbor : bo < w2.heap.size := by omega
  dsimp only at HTC HE
  generalize t0.ops.length = m at *
  have hi0 : (0 : Int) ≤ (i : Int) := by omega
  have hj0 : (0 : Int) ≤ (j : Int) := by omega
  have hi2' : (i : Int) < (n2 : Int) := by omega
  have hjm' : (j : Int) < (m : Int) := by omega
  rw [Option.isSome_some]
  obtain ⟨ow, ok, ov, on⟩ := o0
  dsimp only at HE HPO
  clear hr hx hj hT hOk hP HM hn2
  have O3 : Only [] w2 (w2.alloc (.cells #[.int .i64 0, .int .i64 0] 38)) := (Only.refl [] w2).alloc _
  have HV3 := Lib.hid (World.ownsRow_lit (base := g) w2 (e := 38) (size := 2) #[.int .i64 0, .int .i64 0] 1 hgz2 (by unfold maxLen; omega) rfl)
  have HO3 := Lib.hid (HO2.out.trans O3)
  have HB3 := Lib.hid (O3.blk HB2.out (by simp))
  have HP3 := Lib.hid (O3.blk HP2.out (by simp))
  have HTC3 := Lib.hid ((O3.cell (p := ⟨bl, off + i * 3 + 2, none⟩) hbr (by simp)).trans HTC.out)
  have HPO3 := Lib.hid ((O3.cell (p := ⟨bo, oo + j * 4 + 1, none⟩) hbor (by simp)).trans HPO.out)
  have hbr3 : Hid (bl < g) := Lib.hid (by omega)
  have hbor3 : Hid (bo < g) := Lib.hid (by omega)
  clear O3
  go_upto_region 4 with (fail)
  clear HO2 HB2 HP2 HTC HPO hbr hbor
  generalize hgl : w2.heap.size = gl at *
  generalize (w2.alloc (.cells #[.int .i64 0, .int .i64 0] 38)) = w3 at *
  go_wp2_with fail
  go_loopw [5, 6] (fun V iv wr => ∃ k : Nat, iv = .int .i64 k ∧ k ≤ n2 ∧ Hid (wr.ownsRow g 38 2 V (valsO (i : Int) ok (h.l.take k)).length (edgeC (valsO (i : Int) ok (h.l.take k)))) ∧ Hid (Blk wr g 25 #[.slice A0 n0 c0, .slice A1 n1 c1, .slice (some ⟨bl, off, none⟩) n2 c2]) ∧ Hid (Blk wr gp 27 #[.int .i64 (i : Int), .int .i64 (j : Int)]) ∧ Hid (wr.cell? ⟨bl, off + i * 3 + 2, none⟩ = some (.slice (some ⟨bo, oo, none⟩) m cp)) ∧ Hid (wr.cell? ⟨bo, oo + j * 4 + 1, none⟩ = some (.int .i64 ok)) ∧ Hid (Only [] w wr)) (fun _ iv _ => n2 - (intOf iv).toNat)
  case atStart => exact ⟨0, rfl, by omega, HV3, HB3, HP3, HTC3, HPO3, HO3⟩
  case round =>
   obtain ⟨k, rfl, hk, hV, hB, hP, hTC, hPO, hO⟩ := hrel
   clear HV3 HB3 HP3 HTC3 HPO3 HO3
   have hsz : g ≤ wr.heap.size := by have := hO.out.size; omega
   have lB := hB.out.lt
   have y2 := hB.out.at_ 2
   simp at y2
   by_cases hlt : k < n2
   ·obtain ⟨x, hx⟩ : ∃ x, h.l[k]? = some x := ⟨_, List.getElem?_eq_getElem (by rw [HN2.out]; exact hlt)⟩
    obtain ⟨blk_, offk, Ak, cpk, ek, -, hbwk, hTk, hOkk⟩ := HL.out.at_ hx
    have ek' := Option.some.inj ek
    simp only [Addr.mk.injEq, and_true] at ek'
    obtain ⟨rfl, rfl⟩ := ek'
    clear ek
    have hTr := hTk.only hO.out (by omega) (by simp)
    have HC0 := Lib.hid hTr.c0
    have HC1 := Lib.hid hTr.c1
    have HC2 := Lib.hid hTr.c2
    dsimp only at HC0 HC1 HC2
    have HWT := Lib.hid (valsO_take (a := (i : Int)) (key := ok) hx)
    have hwl : (valsO (i : Int) ok (h.l.take k)).length ≤ 41 := by
     have := leftL_le (i : Int) ok (h.l.take k)
     rw [List.length_take] at this
     unfold valsO
     rw [List.length_cons]
     omega
    have hxo := HNO.out x (List.mem_of_getElem? hx)
    have hrow := hOkk.row
    have HRV := Lib.hid (fun (w' : World) (O : Only [] w w') => (rraw_any x.s x.f Ak x.ops.length cpk B x.ops.length x.ops ok w' (hrow.only O (by simp)) rfl hxo hxo))
    rw [List.take_length] at HRV
    have HFT : Hid (forT (i : Int) ok k x = if (k : Int) = (i : Int) ∨ x.f = 2 then none else leftW ok x.ops) := Lib.hid rfl
    generalize valsO (i : Int) ok (h.l.take k) = pre at *
    have h01 : (k : Int) < (n2 : Int) := by omega
    have hk0 : (0 : Int) ≤ (k : Int) := Int.natCast_nonneg _
    have hwk : IntKind.i64.wrap ((k : Int) + 1) = (k : Int) + 1 := IntWalk.i64_in _ (by omega)
    have hbrk : bl < wr.heap.size := by have := hbr3.out; omega
    have hbork : bo < wr.heap.size := by have := hbor3.out; omega
    generalize forT (i : Int) ok k x = fv at *
    obtain ⟨s, f, ops⟩ := x
    dsimp only at HC0 HC1 HC2 HRV HFT
    generalize leftW ok ops = v at *
    generalize ops.length = mk at *
    clear hx hxo hrow hTr hTk hOkk
    go_upto_region 7 with (fail)
    clear lB y2
    refine wp_region_noPanic ?_
    refine wp_region_timed (F := [⟨[], [], fun w' => Only [] wr w'⟩]) (by kernel_rfl) (timed_holds ((Only.refl [] wr).drew) (timed_nil)) ?_
    have OW : Only [] wr wr.drew := (Only.refl [] wr).drew
    generalize hwz : wr.drew = wz at *
    clear hwz
    refine timed_pure (i := 0) (v := ?_) rfl (by kernel_rfl) (by kernel_rfl) (by kernel_rfl) (fun _ _ _ h => h) (by kernel_rfl) (by kernel_rfl) ?_ ?_
    rotate_left
    ·(intro w; go_simp; try with_reducible rfl)
    try simp only [Act.put, tdy]
    refine timed_read (i := 1) (v := ?_) 0 rfl (by kernel_rfl) (by kernel_rfl) (by kernel_rfl) (fun _ _ _ h => h) (by kernel_rfl) (by kernel_rfl) rfl (by kernel_rfl) ?_ ?_
    rotate_left
    ·(intro wq hSw; (try dsimp only at hSw); have hb_H := hSw.blk hB.out (by simp); have lb_H := hb_H.lt; have y0 := hb_H.at_ 0; have y1 := hb_H.at_ 1; have y2 := hb_H.at_ 2; simp at y0 y1 y2; clear hb_H; have hb_P := hSw.blk hP.out (by simp); have lb_P := hb_P.lt; have p0 := hb_P.at_ 0; have p1 := hb_P.at_ 1; simp at p0 p1; clear hb_P; have t0 := (hSw.cell (p := ⟨bl, off + k * 3, none⟩) hbrk (by simp)).trans HC0.out; have t1 := (hSw.cell (p := ⟨bl, off + k * 3 + 1, none⟩) hbrk (by simp)).trans HC1.out; have t2 := (hSw.cell (p := ⟨bl, off + k * 3 + 2, none⟩) hbrk (by simp)).trans HC2.out; have q2 := (hSw.cell (p := ⟨bl, off + i * 3 + 2, none⟩) hbrk (by simp)).trans hTC.out; have q1 := (hSw.cell (p := ⟨bo, oo + j * 4 + 1, none⟩) hbork (by simp)).trans hPO.out; clear hSw; go_simp; try with_reducible rfl)
    try simp only [Act.put, tdy]
    refine timed_pure (i := 2) (v := ?_) rfl (by kernel_rfl) (by kernel_rfl) (by kernel_rfl) (fun _ _ _ h => h) (by kernel_rfl) (by kernel_rfl) ?_ ?_
    rotate_left
    ·(intro w; go_simp; try with_reducible rfl)
    try simp only [Act.put, tdy]
    refine timed_pure (i := 3) (v := ?_) rfl (by kernel_rfl) (by kernel_rfl) (by kernel_rfl) (fun _ _ _ h => h) (by kernel_rfl) (by kernel_rfl) ?_ ?_
    rotate_left
    ·(intro w; go_simp; try with_reducible rfl)
    try simp only [Act.put, tdy]
    refine timed_read (i := 4) (v := ?_) 0 rfl (by kernel_rfl) (by kernel_rfl) (by kernel_rfl) (fun _ _ _ h => h) (by kernel_rfl) (by kernel_rfl) rfl (by kernel_rfl) ?_ ?_
    rotate_left
    ·(intro wq hSw; (try dsimp only at hSw); have hb_H := hSw.blk hB.out (by simp); have lb_H := hb_H.lt; have y0 := hb_H.at_ 0; have y1 := hb_H.at_ 1; have y2 := hb_H.at_ 2; simp at y0 y1 y2; clear hb_H; have hb_P := hSw.blk hP.out (by simp); have lb_P := hb_P.lt; have p0 := hb_P.at_ 0; have p1 := hb_P.at_ 1; simp at p0 p1; clear hb_P; have t0 := (hSw.cell (p := ⟨bl, off + k * 3, none⟩) hbrk (by simp)).trans HC0.out; have t1 := (hSw.cell (p := ⟨bl, off + k * 3 + 1, none⟩) hbrk (by simp)).trans HC1.out; have t2 := (hSw.cell (p := ⟨bl, off + k * 3 + 2, none⟩) hbrk (by simp)).trans HC2.out; have q2 := (hSw.cell (p := ⟨bl, off + i * 3 + 2, none⟩) hbrk (by simp)).trans hTC.out; have q1 := (hSw.cell (p := ⟨bo, oo + j * 4 + 1, none⟩) hbork (by simp)).trans hPO.out; clear hSw; go_simp; try with_reducible rfl)
    try simp only [Act.put, tdy]
    refine timed_pure (i := 5) (v := ?_) rfl (by kernel_rfl) (by kernel_rfl) (by kernel_rfl) (fun _ _ _ h => h) (by kernel_rfl) (by kernel_rfl) ?_ ?_
    rotate_left
    ·(intro w; go_simp; try with_reducible rfl)
    try simp only [Act.put, tdy]
    refine timed_read (i := 6) (v := ?_) 0 rfl (by kernel_rfl) (by kernel_rfl) (by kernel_rfl) (fun _ _ _ h => h) (by kernel_rfl) (by kernel_rfl) rfl (by kernel_rfl) ?_ ?_
    rotate_left
    ·(intro wq hSw; (try dsimp only at hSw); have hb_H := hSw.blk hB.out (by simp); have lb_H := hb_H.lt; have y0 := hb_H.at_ 0; have y1 := hb_H.at_ 1; have y2 := hb_H.at_ 2; simp at y0 y1 y2; clear hb_H; have hb_P := hSw.blk hP.out (by simp); have lb_P := hb_P.lt; have p0 := hb_P.at_ 0; have p1 := hb_P.at_ 1; simp at p0 p1; clear hb_P; have t0 := (hSw.cell (p := ⟨bl, off + k * 3, none⟩) hbrk (by simp)).trans HC0.out; have t1 := (hSw.cell (p := ⟨bl, off + k * 3 + 1, none⟩) hbrk (by simp)).trans HC1.out; have t2 := (hSw.cell (p := ⟨bl, off + k * 3 + 2, none⟩) hbrk (by simp)).trans HC2.out; have q2 := (hSw.cell (p := ⟨bl, off + i * 3 + 2, none⟩) hbrk (by simp)).trans hTC.out; have q1 := (hSw.cell (p := ⟨bo, oo + j * 4 + 1, none⟩) hbork (by simp)).trans hPO.out; clear hSw; go_simp; try with_reducible rfl)
    try simp only [Act.put, tdy]
    refine timed_pure (i := 7) (v := ?_) rfl (by kernel_rfl) (by kernel_rfl) (by kernel_rfl) (fun _ _ _ h => h) (by kernel_rfl) (by kernel_rfl) ?_ ?_
    rotate_left
    ·(intro w; go_simp; try with_reducible rfl)
    try simp only [Act.put, tdy]
    refine timed_pure (i := 8) (v := ?_) rfl (by kernel_rfl) (by kernel_rfl) (by kernel_rfl) (fun _ _ _ h => h) (by kernel_rfl) (by kernel_rfl) ?_ ?_
    rotate_left
    ·(intro w; go_simp; try with_reducible rfl)
    try simp only [Act.put, tdy]
    refine timed_pure (i := 9) (v := ?_) rfl (by kernel_rfl) (by kernel_rfl) (by kernel_rfl) (fun _ _ _ h => h) (by kernel_rfl) (by kernel_rfl) ?_ ?_
    rotate_left
    ·(intro w; go_simp; try with_reducible rfl)
    try simp only [Act.put, tdy]
    refine timed_read (i := 10) (v := ?_) 0 rfl (by kernel_rfl) (by kernel_rfl) (by kernel_rfl) (fun _ _ _ h => h) (by kernel_rfl) (by kernel_rfl) rfl (by kernel_rfl) ?_ ?_
    rotate_left
    ·(intro wq hSw; (try dsimp only at hSw); have hb_H := hSw.blk hB.out (by simp); have lb_H := hb_H.lt; have y0 := hb_H.at_ 0; have y1 := hb_H.at_ 1; have y2 := hb_H.at_ 2; simp at y0 y1 y2; clear hb_H; have hb_P := hSw.blk hP.out (by simp); have lb_P := hb_P.lt; have p0 := hb_P.at_ 0; have p1 := hb_P.at_ 1; simp at p0 p1; clear hb_P; have t0 := (hSw.cell (p := ⟨bl, off + k * 3, none⟩) hbrk (by simp)).trans HC0.out; have t1 := (hSw.cell (p := ⟨bl, off + k * 3 + 1, none⟩) hbrk (by simp)).trans HC1.out; have t2 := (hSw.cell (p := ⟨bl, off + k * 3 + 2, none⟩) hbrk (by simp)).trans HC2.out; have q2 := (hSw.cell (p := ⟨bl, off + i * 3 + 2, none⟩) hbrk (by simp)).trans hTC.out; have q1 := (hSw.cell (p := ⟨bo, oo + j * 4 + 1, none⟩) hbork (by simp)).trans hPO.out; clear hSw; go_simp; try with_reducible rfl)
    try simp only [Act.put, tdy]
    refine timed_pure (i := 11) (v := ?_) rfl (by kernel_rfl) (by kernel_rfl) (by kernel_rfl) (fun _ _ _ h => h) (by kernel_rfl) (by kernel_rfl) ?_ ?_
    rotate_left
    ·(intro w; go_simp; try with_reducible rfl)
    try simp only [Act.put, tdy]
    refine timed_pure (i := 12) (v := ?_) rfl (by kernel_rfl) (by kernel_rfl) (by kernel_rfl) (fun _ _ _ h => h) (by kernel_rfl) (by kernel_rfl) ?_ ?_
    rotate_left
    ·(intro w; go_simp; try with_reducible rfl)
    try simp only [Act.put, tdy]
    refine timed_read (i := 13) (v := ?_) 0 rfl (by kernel_rfl) (by kernel_rfl) (by kernel_rfl) (fun _ _ _ h => h) (by kernel_rfl) (by kernel_rfl) rfl (by kernel_rfl) ?_ ?_
    rotate_left
    ·(intro wq hSw; (try dsimp only at hSw); have hb_H := hSw.blk hB.out (by simp); have lb_H := hb_H.lt; have y0 := hb_H.at_ 0; have y1 := hb_H.at_ 1; have y2 := hb_H.at_ 2; simp at y0 y1 y2; clear hb_H; have hb_P := hSw.blk hP.out (by simp); have lb_P := hb_P.lt; have p0 := hb_P.at_ 0; have p1 := hb_P.at_ 1; simp at p0 p1; clear hb_P; have t0 := (hSw.cell (p := ⟨bl, off + k * 3, none⟩) hbrk (by simp)).trans HC0.out; have t1 := (hSw.cell (p := ⟨bl, off + k * 3 + 1, none⟩) hbrk (by simp)).trans HC1.out; have t2 := (hSw.cell (p := ⟨bl, off + k * 3 + 2, none⟩) hbrk (by simp)).trans HC2.out; have q2 := (hSw.cell (p := ⟨bl, off + i * 3 + 2, none⟩) hbrk (by simp)).trans hTC.out; have q1 := (hSw.cell (p := ⟨bo, oo + j * 4 + 1, none⟩) hbork (by simp)).trans hPO.out; clear hSw; go_simp; try with_reducible rfl)
    try simp only [Act.put, tdy]
    refine timed_pure (i := 14) (v := ?_) rfl (by kernel_rfl) (by kernel_rfl) (by kernel_rfl) (fun _ _ _ h => h) (by kernel_rfl) (by kernel_rfl) ?_ ?_
    rotate_left
    ·(intro w; go_simp; try with_reducible rfl)
    try simp only [Act.put, tdy]
    refine timed_read (i := 15) (v := ?_) 0 rfl (by kernel_rfl) (by kernel_rfl) (by kernel_rfl) (fun _ _ _ h => h) (by kernel_rfl) (by kernel_rfl) rfl (by kernel_rfl) ?_ ?_
    rotate_left
    ·(intro wq hSw; (try dsimp only at hSw); have hb_H := hSw.blk hB.out (by simp); have lb_H := hb_H.lt; have y0 := hb_H.at_ 0; have y1 := hb_H.at_ 1; have y2 := hb_H.at_ 2; simp at y0 y1 y2; clear hb_H; have hb_P := hSw.blk hP.out (by simp); have lb_P := hb_P.lt; have p0 := hb_P.at_ 0; have p1 := hb_P.at_ 1; simp at p0 p1; clear hb_P; have t0 := (hSw.cell (p := ⟨bl, off + k * 3, none⟩) hbrk (by simp)).trans HC0.out; have t1 := (hSw.cell (p := ⟨bl, off + k * 3 + 1, none⟩) hbrk (by simp)).trans HC1.out; have t2 := (hSw.cell (p := ⟨bl, off + k * 3 + 2, none⟩) hbrk (by simp)).trans HC2.out; have q2 := (hSw.cell (p := ⟨bl, off + i * 3 + 2, none⟩) hbrk (by simp)).trans hTC.out; have q1 := (hSw.cell (p := ⟨bo, oo + j * 4 + 1, none⟩) hbork (by simp)).trans hPO.out; clear hSw; go_simp; try with_reducible rfl)
    try simp only [Act.put, tdy]
    refine timed_pure (i := 16) (v := ?_) rfl (by kernel_rfl) (by kernel_rfl) (by kernel_rfl) (fun _ _ _ h => h) (by kernel_rfl) (by kernel_rfl) ?_ ?_
    rotate_left
    ·(intro w; go_simp; try with_reducible rfl)
    try simp only [Act.put, tdy]
    refine timed_pure (i := 17) (v := ?_) rfl (by kernel_rfl) (by kernel_rfl) (by kernel_rfl) (fun _ _ _ h => h) (by kernel_rfl) (by kernel_rfl) ?_ ?_
    rotate_left
    ·(intro w; go_simp; try with_reducible rfl)
    try simp only [Act.put, tdy]
    refine timed_read (i := 18) (v := ?_) 0 rfl (by kernel_rfl) (by kernel_rfl) (by kernel_rfl) (fun _ _ _ h => h) (by kernel_rfl) (by kernel_rfl) rfl (by kernel_rfl) ?_ ?_
    rotate_left
    ·(intro wq hSw; (try dsimp only at hSw); have hb_H := hSw.blk hB.out (by simp); have lb_H := hb_H.lt; have y0 := hb_H.at_ 0; have y1 := hb_H.at_ 1; have y2 := hb_H.at_ 2; simp at y0 y1 y2; clear hb_H; have hb_P := hSw.blk hP.out (by simp); have lb_P := hb_P.lt; have p0 := hb_P.at_ 0; have p1 := hb_P.at_ 1; simp at p0 p1; clear hb_P; have t0 := (hSw.cell (p := ⟨bl, off + k * 3, none⟩) hbrk (by simp)).trans HC0.out; have t1 := (hSw.cell (p := ⟨bl, off + k * 3 + 1, none⟩) hbrk (by simp)).trans HC1.out; have t2 := (hSw.cell (p := ⟨bl, off + k * 3 + 2, none⟩) hbrk (by simp)).trans HC2.out; have q2 := (hSw.cell (p := ⟨bl, off + i * 3 + 2, none⟩) hbrk (by simp)).trans hTC.out; have q1 := (hSw.cell (p := ⟨bo, oo + j * 4 + 1, none⟩) hbork (by simp)).trans hPO.out; clear hSw; go_simp; try with_reducible rfl)
    try simp only [Act.put, tdy]
    refine timed_pure (i := 19) (v := ?_) rfl (by kernel_rfl) (by kernel_rfl) (by kernel_rfl) (fun _ _ _ h => h) (by kernel_rfl) (by kernel_rfl) ?_ ?_
    rotate_left
    ·(intro w; go_simp; try with_reducible rfl)
    try simp only [Act.put, tdy]
    refine timed_read (i := 20) (v := ?_) 0 rfl (by kernel_rfl) (by kernel_rfl) (by kernel_rfl) (fun _ _ _ h => h) (by kernel_rfl) (by kernel_rfl) rfl (by kernel_rfl) ?_ ?_
    rotate_left
    ·(intro wq hSw; (try dsimp only at hSw); have hb_H := hSw.blk hB.out (by simp); have lb_H := hb_H.lt; have y0 := hb_H.at_ 0; have y1 := hb_H.at_ 1; have y2 := hb_H.at_ 2; simp at y0 y1 y2; clear hb_H; have hb_P := hSw.blk hP.out (by simp); have lb_P := hb_P.lt; have p0 := hb_P.at_ 0; have p1 := hb_P.at_ 1; simp at p0 p1; clear hb_P; have t0 := (hSw.cell (p := ⟨bl, off + k * 3, none⟩) hbrk (by simp)).trans HC0.out; have t1 := (hSw.cell (p := ⟨bl, off + k * 3 + 1, none⟩) hbrk (by simp)).trans HC1.out; have t2 := (hSw.cell (p := ⟨bl, off + k * 3 + 2, none⟩) hbrk (by simp)).trans HC2.out; have q2 := (hSw.cell (p := ⟨bl, off + i * 3 + 2, none⟩) hbrk (by simp)).trans hTC.out; have q1 := (hSw.cell (p := ⟨bo, oo + j * 4 + 1, none⟩) hbork (by simp)).trans hPO.out; clear hSw; go_simp; try with_reducible rfl)
    try simp only [Act.put, tdy]
    refine timed_pure (i := 21) (v := ?_) rfl (by kernel_rfl) (by kernel_rfl) (by kernel_rfl) (fun _ _ _ h => h) (by kernel_rfl) (by kernel_rfl) ?_ ?_
    rotate_left
    ·(intro w; go_simp; try with_reducible rfl)
    try simp only [Act.put, tdy]
    refine timed_pure (i := 22) (v := ?_) rfl (by kernel_rfl) (by kernel_rfl) (by kernel_rfl) (fun _ _ _ h => h) (by kernel_rfl) (by kernel_rfl) ?_ ?_
    rotate_left
    ·(intro w; go_simp; try with_reducible rfl)
    try simp only [Act.put, tdy]
    refine timed_read (i := 23) (v := ?_) 0 rfl (by kernel_rfl) (by kernel_rfl) (by kernel_rfl) (fun _ _ _ h => h) (by kernel_rfl) (by kernel_rfl) rfl (by kernel_rfl) ?_ ?_
    rotate_left
    ·(intro wq hSw; (try dsimp only at hSw); have hb_H := hSw.blk hB.out (by simp); have lb_H := hb_H.lt; have y0 := hb_H.at_ 0; have y1 := hb_H.at_ 1; have y2 := hb_H.at_ 2; simp at y0 y1 y2; clear hb_H; have hb_P := hSw.blk hP.out (by simp); have lb_P := hb_P.lt; have p0 := hb_P.at_ 0; have p1 := hb_P.at_ 1; simp at p0 p1; clear hb_P; have t0 := (hSw.cell (p := ⟨bl, off + k * 3, none⟩) hbrk (by simp)).trans HC0.out; have t1 := (hSw.cell (p := ⟨bl, off + k * 3 + 1, none⟩) hbrk (by simp)).trans HC1.out; have t2 := (hSw.cell (p := ⟨bl, off + k * 3 + 2, none⟩) hbrk (by simp)).trans HC2.out; have q2 := (hSw.cell (p := ⟨bl, off + i * 3 + 2, none⟩) hbrk (by simp)).trans hTC.out; have q1 := (hSw.cell (p := ⟨bo, oo + j * 4 + 1, none⟩) hbork (by simp)).trans hPO.out; clear hSw; go_simp; try with_reducible rfl)
    try simp only [Act.put, tdy]
    apply cut_1_0 (fun w gv => (Only [] wr w) ∧ (True) ∧ (Blk w gv 38 #[.int .i64 0, .int .i64 0]) ∧ (wr.heap.size ≤ gv))
    intro HST24_28
    apply cut_1_0 (fun w gv => (Only [] wr w) ∧ (True) ∧ (Blk w gv 38 #[.int .i64 0, .int .i64 0]) ∧ (wr.heap.size ≤ gv))
    intro HST28
    apply cut_0_0 (fun w  => (Only [] wr w) ∧ (True))
    intro HST24
    ·skip
     refine timed_forks (l := [24, 28]) (by kernel_rfl) (by simp) (fork_cons ⟨_, rfl, fun K hK => ?_⟩ (fork_cons ⟨_, rfl, fun K hK => ?_⟩ (fork_nil)))
     ·go_simp
      refine (HRV.out _ (hO.out.trans OW)).mono ?_
      rintro e w3 ⟨rfl, O3⟩
      unfold optT optV
      have OW1 := OW.trans O3
      have OS := O3
      refine hK.out _ _ (timed_holds (OW1) (timed_nil)) ?_
      clear hK K
      try simp only [Act.put, tdy]
      refine timed_pure (i := 25) (v := ?_) rfl (by kernel_rfl) (by kernel_rfl) (by kernel_rfl) (fun _ _ _ h => h) (by kernel_rfl) (by kernel_rfl) ?_ ?_
      rotate_left
      ·(intro w; go_simp; try with_reducible rfl)
      try simp only [Act.put, tdy]
      refine timed_pure (i := 26) (v := ?_) rfl (by kernel_rfl) (by kernel_rfl) (by kernel_rfl) (fun _ _ _ h => h) (by kernel_rfl) (by kernel_rfl) ?_ ?_
      rotate_left
      ·(intro w; go_simp; try with_reducible rfl)
      try simp only [Act.put, tdy]
      refine timed_pure (i := 27) (v := ?_) rfl (by kernel_rfl) (by kernel_rfl) (by kernel_rfl) (fun _ _ _ h => h) (by kernel_rfl) (by kernel_rfl) ?_ ?_
      rotate_left
      ·(intro w; go_simp; try with_reducible rfl)
      try simp only [Act.put, tdy]
      exact HST24 w3  ⟨OW1, trivial⟩
     ·go_simp
      have OW1 := OW.alloc (.cells #[.int .i64 0, .int .i64 0] 38)
      have OS : Only [] wz (wz.alloc (.cells #[.int .i64 0, .int .i64 0] 38)) := (Only.refl [] wz).alloc (.cells #[.int .i64 0, .int .i64 0] 38)
      have BV := Blk.made wz 38 #[.int .i64 0, .int .i64 0]
      have HGV : wr.heap.size ≤ wz.heap.size := OW.size
      generalize wz.alloc (.cells #[.int .i64 0, .int .i64 0] 38) = w1 at *
      generalize wz.heap.size = gv at *
      refine hK.out _ _ (timed_holds (OW1) (timed_nil)) ?_
      clear hK K
      try simp only [Act.put, tdy]
      exact HST28 w1 gv ⟨OW1, trivial, BV, HGV⟩
    ·skip
     intro wz  ⟨OW, HTT⟩
     refine timed_step (i := 28) (by kernel_rfl) rfl (fun K hK => ?_)
     go_simp
     have OW1 := OW.alloc (.cells #[.int .i64 0, .int .i64 0] 38)
     have OS : Only [] wz (wz.alloc (.cells #[.int .i64 0, .int .i64 0] 38)) := (Only.refl [] wz).alloc (.cells #[.int .i64 0, .int .i64 0] 38)
     have BV := Blk.made wz 38 #[.int .i64 0, .int .i64 0]
     have HGV : wr.heap.size ≤ wz.heap.size := OW.size
     generalize wz.alloc (.cells #[.int .i64 0, .int .i64 0] 38) = w1 at *
     generalize wz.heap.size = gv at *
     refine hK.out _ _ (timed_holds (OW1) (timed_nil)) ?_
     clear hK K
     try simp only [Act.put, tdy]
     exact HST24_28 w1 gv ⟨OW1, trivial, BV, HGV⟩
    ·skip
     intro wz gv ⟨OW, HTT, BV, HGV⟩
     refine timed_step (i := 24) (by kernel_rfl) rfl (fun K hK => ?_)
     go_simp
     refine (HRV.out _ (hO.out.trans OW)).mono ?_
     rintro e w3 ⟨rfl, O3⟩
     unfold optT optV
     have OW1 := OW.trans O3
     have OS := O3
     have BV1 := OS.blk BV (by simp)
     refine hK.out _ _ (timed_holds (OW1) (timed_nil)) ?_
     clear hK K
     try simp only [Act.put, tdy]
     refine timed_pure (i := 25) (v := ?_) rfl (by kernel_rfl) (by kernel_rfl) (by kernel_rfl) (fun _ _ _ h => h) (by kernel_rfl) (by kernel_rfl) ?_ ?_
     rotate_left
     ·(intro w; go_simp; try with_reducible rfl)
     try simp only [Act.put, tdy]
     refine timed_pure (i := 26) (v := ?_) rfl (by kernel_rfl) (by kernel_rfl) (by kernel_rfl) (fun _ _ _ h => h) (by kernel_rfl) (by kernel_rfl) ?_ ?_
     rotate_left
     ·(intro w; go_simp; try with_reducible rfl)
     try simp only [Act.put, tdy]
     refine timed_pure (i := 27) (v := ?_) rfl (by kernel_rfl) (by kernel_rfl) (by kernel_rfl) (fun _ _ _ h => h) (by kernel_rfl) (by kernel_rfl) ?_ ?_
     rotate_left
     ·(intro w; go_simp; try with_reducible rfl)
     try simp only [Act.put, tdy]
     exact HST24_28 w3 gv ⟨OW1, trivial, BV1, HGV⟩
    -- behind all of the crowd
    intro wz gv ⟨OW, HTT, BV, HGV⟩
    refine timed_step (i := 29) (by kernel_rfl) rfl (fun K hK => ?_)
    refine wp_store_blk 38 (.tmp 7) (.tmp 49) rfl gv 38 _ #[.int .i64 (v.getD (0, 0)).1, .int .i64 (v.getD (0, 0)).2] rfl rfl BV rfl (by kernel_rfl) (by kernel_rfl) ?_
    intro w9 b9 o9
    have HV9b := Lib.hid b9
    have OW9 := OW.step o9 (fun i hi hl => by simp at hi; omega)
    clear o9 b9
    refine hK.out _ _ (timed_holds (OW9) (timed_nil)) ?_
    clear hK K
    try simp only [Act.put, tdy]
    refine timed_pure (i := 30) (v := ?_) rfl (by kernel_rfl) (by kernel_rfl) (by kernel_rfl) (fun _ _ _ h => h) (by kernel_rfl) (by kernel_rfl) ?_ ?_
    rotate_left
    ·(intro w; go_simp; try with_reducible rfl)
    try simp only [Act.put, tdy]
    refine timed_done (by kernel_rfl) ?_ _
    refine NoPanic.normal ?_
    have HW9 := Lib.hid OW9
    have HO7 := Lib.hid (hO.out.trans HW9.out)
    have HB7 := Lib.hid (HW9.out.blk hB.out (by simp))
    have HP7 := Lib.hid (HW9.out.blk hP.out (by simp))
    have HV7 := Lib.hid (own_only hV.out HW9.out (by simp))
    have HQ1 := Lib.hid ((HW9.out.cell (p := ⟨bl, off + k * 3 + 1, none⟩) hbrk (by simp)).trans HC1.out)
    have HTC7 := Lib.hid ((HW9.out.cell (p := ⟨bl, off + i * 3 + 2, none⟩) hbrk (by simp)).trans hTC.out)
    have HPO7 := Lib.hid ((HW9.out.cell (p := ⟨bo, oo + j * 4 + 1, none⟩) hbork (by simp)).trans hPO.out)
    have hbr7 : bl < w9.heap.size := by have := HW9.out.size; omega
    have hbor7 : bo < w9.heap.size := by have := HW9.out.size; omega
    clear hB hP hV hO HW9 HC0 HC1 HC2 HRV hbrk hbork hTC hPO
    generalize hf1 : (v.getD (0, 0)).1 = f1 at *
    generalize hf2 : (v.getD (0, 0)).2 = f2 at *
    have HFIT : Hid (fv = if (!decide (k = i) && (!decide (f = 2) && v.isSome)) = true then some (f1, f2) else none) := Lib.hid (by
     rw [HFT.out]
     by_cases q1 : k = i
     ·simp [q1]
     ·by_cases q2 : f = 2
      ·simp [q2]
      ·rw [if_neg (by omega)]
       cases v with
       | none => simp
       | some u => subst hf1 hf2; simp [q1, q2])
    generalize hfs : v.isSome = fs at *
    clear hf1 hf2 hfs HFT
    obtain ⟨ft, hft⟩ : ∃ ft, ft = (!decide (k = i) && (!decide (f = 2) && fs)) := ⟨_, rfl⟩
    rw [← hft] at HFIT
    have HF2 := Lib.hid hft
    clear hft
    have hsz7 : g ≤ w9.heap.size := by have := HO7.out.size; omega
    go_upto_region 8 with (fail)
    go_cut [66] (fun z wx => z = .bool ft ∧ wx = w9)
    case first =>
     have lB := HB7.out.lt
     have y2 := HB7.out.at_ 2
     have lP := HP7.out.lt
     have p0 := HP7.out.at_ 0
     simp at y2 p0
     have c1 := HQ1.out
     by_cases e1 : k = i
     ·obtain rfl : ft = false := by rw [HF2.out]; simp [e1]
      subst e1
      go_wp2
      go_meet
      exact ⟨rfl, rfl⟩
     ·have e1' : ((k : Int) != (i : Int)) = true := by simp; omega
      have e1'' : (k != i) = true := by simpa using e1
      by_cases e2 : f = 2
      ·obtain rfl : ft = false := by rw [HF2.out]; simp [e2]
       have e2' : (f != 2) = false := by simp [e2]
       clear e1 e2
       go_wp2
       go_meet
       exact ⟨rfl, rfl⟩
      ·have e2' : (f != 2) = true := by simp [e2]
       obtain rfl : ft = fs := by rw [HF2.out]; simp [e1, e2]
       clear e1 e2
       cases ft with
       | false =>
        go_wp2
        go_meet
        exact ⟨rfl, rfl⟩
       | true =>
        go_wp2
        go_meet
        exact ⟨rfl, rfl⟩
    case rest =>
     obtain ⟨rfl, rfl⟩ := hcut
     cases ft with
     | false =>
      have HE2 : Hid (valsO (i : Int) ok (h.l.take (k + 1)) = pre) := Lib.hid (by rw [HWT.out, HFIT.out]; simp)
      clear HWT
      go_wp2
      go_roundw
      case rel => exact ⟨k + 1, by go_num, by omega, Lib.hid (by rw [HE2.out]; exact HV7.out), HB7, HP7, HTC7, HPO7, HO7⟩
      case measure => simp [intOf]; omega
     | true =>
      have HE2 : Hid (valsO (i : Int) ok (h.l.take (k + 1)) = pre ++ [(f1, f2)]) := Lib.hid (by rw [HWT.out, HFIT.out]; rfl)
      clear HWT HFIT HF2
      have lU := HV9b.out.lt
      have u0 := HV9b.out.at_ 0
      have u1 := HV9b.out.at_ 1
      simp at u0 u1
      go_wp2_with (at_builtin; refine wpList_append_row _ rfl (.tmp 67) (.tmp 69) _ rfl g 38 i0 _ 2 16 Tryz.underlying33 hi hz0 hz1 hz2 rfl (by omega) _ _ _ rfl (own_only HV7.out ((Only.refl [] _).alloc _) (by simp)) (wc.heap.size + 1) (some ⟨wc.heap.size, 0, none⟩) 1 1 [.int .i64 f1, .int .i64 f2] rfl rfl (row_lit wc 38 #[.int .i64 f1, .int .i64 f2]) (by intro u hu; simp at hu; rcases hu with rfl | rfl <;> rfl) (by unfold maxLen; omega) (by omega) (by simp; omega) ?_; intro v8 w8 hown8 hgrow hat)
      have REL : w8.ownsRow g 38 2 v8 (valsO (i : Int) ok (h.l.take (k + 1))).length (edgeC (valsO (i : Int) ok (h.l.take (k + 1)))) := by
       rw [HE2.out, edgeC_append]
       simpa [edgeC] using hown8
      have HV8 := Lib.hid REL
      have HVa := own_only HV7.out ((Only.refl [] wc).alloc (.cells #[.int .i64 f1, .int .i64 f2] 38)) (by simp)
      have HB8 := Lib.hid ((only_grown hgrow).blk (HB7.out.alloc (.cells #[.int .i64 f1, .int .i64 f2] 38)) (own_apart HVa (HB7.out.alloc (.cells #[.int .i64 f1, .int .i64 f2] 38)) (by decide)))
      have HP8 := Lib.hid ((only_grown hgrow).blk (HP7.out.alloc (.cells #[.int .i64 f1, .int .i64 f2] 38)) (own_apart HVa (HP7.out.alloc (.cells #[.int .i64 f1, .int .i64 f2] 38)) (by decide)))
      have O8 : Only u5.ownBlock.toList wc w8 := ((Only.refl _ wc).alloc (.cells #[.int .i64 f1, .int .i64 f2] 38)).step (only_grown hgrow) (fun x hx _ => hx)
      have HTC8 := Lib.hid ((O8.cell (p := ⟨bl, off + i * 3 + 2, none⟩) hbr7 (fun hm => by have := (HV7.out.lt bl (by simpa using hm)).1; have := hbr3.out; omega)).trans HTC7.out)
      have HPO8 := Lib.hid ((O8.cell (p := ⟨bo, oo + j * 4 + 1, none⟩) hbor7 (fun hm => by have := (HV7.out.lt bo (by simpa using hm)).1; have := hbor3.out; omega)).trans HPO7.out)
      have HO8 := Lib.hid ((HO7.out.alloc (.cells #[.int .i64 f1, .int .i64 f2] 38)).step (only_grown hgrow) (fun i hi hl => by have := own_new HVa (S := []) i hi; rw [hgg] at hl; exact this hl))
      clear REL hown8 hgrow hat HVa O8 lU u0 u1
      go_wp2
      go_roundw
      case rel => first | exact ⟨k + 1, by go_num, by omega, HV8, HB8, HP8, HTC8, HPO8, HO8⟩ | exact ⟨_, ⟨k + 1, by go_num, by omega, HV8, HB8, HP8, HTC8, HPO8, HO8⟩, rfl⟩
      case measure => simp [intOf]; omega
   ·have hkn : k = n2 := by omega
    subst hkn
    have hd2 : decide ((k : Int) < (k : Int)) = false := by simp
    have hVV := hV.out
    rw [List.take_of_length_le (by rw [HN2.out]; exact Nat.le_refl _)] at hVV
    have hll : (valsO (i : Int) ok h.l).length ≤ 1000 := by
     have := leftL_le (i : Int) ok h.l
     rw [HN2.out] at this
     unfold valsO
     rw [List.length_cons]
     omega
    obtain ⟨A8, c8, e8, -, -, -, hrow8⟩ := own_row hVV
    subst e8
    have HS := Lib.hid (rvsorted_any A8 _ c8 _ _ wr rfl hll hrow8)
    generalize (valsO (i : Int) ok h.l).length = q8 at *
    clear hV hVV hrow8 hll
    go_wp2_with fail
    refine (HS.out).mono ?_
    rintro e w9 ⟨O9, V9, rfl, hr9⟩
    obtain ⟨A9, c9, rfl, -, -, -, hrow9⟩ := own_row hr9
    have HR9 := Lib.hid hrow9
    have HO9 := Lib.hid (hO.out.trans O9)
    clear O9 hr9 hrow9 HS
    go_wp2
    go_ret
    exact ⟨_, _, _, ⟨rfl, by rw [HE.out], by rw [HE.out]; exact HR9.out⟩, HO9.out⟩
end Go.Proofs.YtjfbeeogiejopaaGreatDoor
