/- Parts. -/
import Derived.Test.YtjfbeeogiejopaaGreatDoorWorldAllCardK35
import Derived.Test.YtjfbeeogiejopaaGreatDoorWorldAllCardK36
import Derived.Test.YtjfbeeogiejopaaGreatDoorWorldAllCardK6
import Derived.Test.YtjfbeeogiejopaaGreatDoorWorldAllCardK25
import Derived.Test.YtjfbeeogiejopaaGreatDoorWorldAllCardK19
import Derived.BigQuiet
set_option maxRecDepth 10000
set_option maxHeartbeats 16000000
set_option linter.unusedVariables false
set_option linter.unusedSimpArgs false
namespace Go.Proofs.YtjfbeeogiejopaaGreatDoor
open Go.RowKit
open Go.Lib hiding intOf
attribute [local go_sem ↓] Go.wp_at_zero Go.wp_at_succ
theorem opAt_inv {h : Hst} {a b : Int} {t : Tx} {o : Op4} (ho : opAtH h a b = some (t, o)) : ∃ i j : Nat, a = i ∧ b = j ∧ h.l[i]? = some t ∧ t.ops[j]? = some o := by
 unfold opAtH txAtH at ho
 split at ho
 ·rename_i hc
  cases hx : h.l[a.toNat]? with
  | none => rw [hx] at ho; cases ho
  | some x =>
   rw [hx] at ho;simp only [Option.bind_some] at ho
   split at ho
   ·rename_i hb
    cases hy : x.ops[b.toNat]? with
    | none => rw [hy] at ho; cases ho
    | some y =>
     rw [hy] at ho;simp at ho;obtain ⟨rfl, rfl⟩ := ho;exact ⟨a.toNat, b.toNat, by omega, by omega, hx, hy⟩
   ·cases ho
 ·cases ho
theorem rown_any (A0 A1 A2 : Option Addr) (n0 n1 n2 c0 c1 c2 B : Nat) (h : Hst) (a b : Int) (w : World) (hg : HIn w B A0 A1 A2 n0 n1 n2 h) :
  Calls Tryz.prog 61 #[hval A0 A1 A2 n0 n1 n2 c0 c1 c2, .agg #[.int .i64 a, .int .i64 b]] w fun e w' => e = .returned (optT (ownO h a b)) ∧ Only [] w w' := by
 have HTH := Hd (fun w' (O : Only [] w w') => rthere_any A0 A1 A2 n0 n1 n2 c0 c1 c2 B h a b w' (hg.same O));have HL := Hd hg.at_.r2;have HN2 := Hd hg.n2;have HNO := Hd hg.sm.no;unfold hval at HTH ⊢;clear hg;have HO1 := Hd ((((Only.refl [] w).alloc (.cells #[.slice A0 n0 c0, .slice A1 n1 c1, .slice A2 n2 c2] 25)).alloc (.cells #[.int .i64 a, .int .i64 b] 27)).alloc (.cells #[.int .i64 0, .int .i64 0] 38));have HB1 := Hd (((Blk.made w 25 #[.slice A0 n0 c0, .slice A1 n1 c1, .slice A2 n2 c2]).alloc (.cells #[.int .i64 a, .int .i64 b] 27)).alloc (.cells #[.int .i64 0, .int .i64 0] 38));have HP1 := Hd ((Blk.made (w.alloc (.cells #[.slice A0 n0 c0, .slice A1 n1 c1, .slice A2 n2 c2] 25)) 27 #[.int .i64 a, .int .i64 b]).alloc (.cells #[.int .i64 0, .int .i64 0] 38));have HR1 := Hd (Blk.made ((w.alloc (.cells #[.slice A0 n0 c0, .slice A1 n1 c1, .slice A2 n2 c2] 25)).alloc (.cells #[.int .i64 a, .int .i64 b] 27)) 38 #[.int .i64 0, .int .i64 0]);simp only [World.size_alloc] at HP1 HR1
 cases ho : opAtH h a b with
 | none =>
  rw [own_none ho];have HF := Hd (HTH.out _ HO1.out);rw [there_none ho] at HF;clear ho HTH;go_enter Tryz.func61, Tryz.ntmps61;go_wp2_with fail
  generalize (((w.alloc (.cells #[.slice A0 n0 c0, .slice A1 n1 c1, .slice A2 n2 c2] 25)).alloc (.cells #[.int .i64 a, .int .i64 b] 27)).alloc (.cells #[.int .i64 0, .int .i64 0] 38)) = w1 at *;generalize hgr : w.heap.size + 1 + 1 = gr at *;generalize hgp : w.heap.size + 1 = gp at *;generalize hgg : w.heap.size = g at *;refine (HF.out).mono ?_;rintro e w2 ⟨rfl, O2⟩;have HO2 := Hd (HO1.out.trans O2);have HR2 := Hd (O2.blk HR1.out (by simp));clear O2 HF;go_wp2_with (refine wpList_store_blk rfl 38 (.tmp 4) (.tmp 10) rfl gr 38 _ #[.int .i64 0, .int .i64 0] rfl rfl HR2.out rfl (by kernel_rfl) (by kernel_rfl) ?_; intro w9 b9 o9; have HB9 := Hd b9; have HN9 := Hd o9; clear b9 o9)
  refine bodyPost_ret (results_row2 Tryz.results61 _ _ gr 38 #[.int .i64 0, .int .i64 0] _ rfl HB9.out Tryz.underlying38 rfl (by kernel_rfl)) rfl ?_;exact ⟨rfl, HO2.out.step HN9.out (fun i hi hl => by simp at hi; omega)⟩
 | some x =>
  obtain ⟨t, o⟩ := x;rw [own_some ho];have HF := Hd (HTH.out _ HO1.out);rw [there_some ho] at HF;obtain ⟨i, j, rfl, rfl, hx, hj⟩ := opAt_inv ho;obtain ⟨bl, off, A', cp, rfl, -, hbw, hT, hOk⟩ := HL.out.at_ hx;have hno := HNO.out t (List.mem_of_getElem? hx);have hi2 : i < n2 := by rw [← HN2.out]; exact (List.getElem?_eq_some_iff.1 hx).1
  have hjl := (List.getElem?_eq_some_iff.1 hj).1;have HT := Hd (hT.only HO1.out hbw (by simp));obtain ⟨bo, oo, rfl, -, hbo, hP⟩ := row_op hOk.row hj;have HPO := Hd (hP.only HO1.out hbo (by simp)).c1;have HROW := Hd hOk.row;rw [show ((j : Int).toNat) = j from by simp];obtain ⟨s, f, ops⟩ := t;dsimp only at HROW hno HT hj hjl ⊢;have HRW := Hd (fun w' (O : Only [] w w') => rraw_any s f (some ⟨bo, oo, none⟩) ops.length cp B j ops o.key w' (HROW.out.only O (by simp)) rfl hno (by omega));generalize leftW o.key (ops.take j) = v at *;generalize o.key = ok at *;generalize hmm : ops.length = m at *;have hi0 : (0 : Int) ≤ (i : Int) := by omega
  have hj0 : (0 : Int) ≤ (j : Int) := by omega
  have hi2' : (i : Int) < (n2 : Int) := by omega
  have hjm : (j : Int) < (m : Int) := by omega
  clear ho HTH hx hj hT hOk hP HROW;go_enter Tryz.func61, Tryz.ntmps61;go_wp2_with fail
  generalize (((w.alloc (.cells #[.slice A0 n0 c0, .slice A1 n1 c1, .slice (some ⟨bl, off, none⟩) n2 c2] 25)).alloc (.cells #[.int .i64 (i : Int), .int .i64 (j : Int)] 27)).alloc (.cells #[.int .i64 0, .int .i64 0] 38)) = w1 at *;have hbr : bl < w1.heap.size := by have := HO1.out.size; omega
  have hbor : bo < w1.heap.size := by have := HO1.out.size; omega
  generalize hgr : w.heap.size + 1 + 1 = gr at *;generalize hgp : w.heap.size + 1 = gp at *;generalize hgg : w.heap.size = g at *;refine (HF.out).mono ?_;rintro e w2 ⟨rfl, O2⟩;have HO2 := Hd (HO1.out.trans O2);have HR2 := Hd (O2.blk HR1.out (by simp));have HB2 := Hd (O2.blk HB1.out (by simp));have HP2 := Hd (O2.blk HP1.out (by simp));obtain ⟨t0, t1, t2⟩ := HT.out.only O2 hbr (by simp);dsimp only at t0 t1 t2;rw [hmm] at t2;have HC0 := Hd t0;have HC1 := Hd t1;have HC2 := Hd t2;have HCK := Hd ((O2.cell (p := ⟨bo, oo + j * 4 + 1, none⟩) hbor (by simp)).trans HPO.out);have hbr2 : bl < w2.heap.size := by have := O2.size; omega
  have hbo2 : bo < w2.heap.size := by have := O2.size; omega
  clear O2 HF t0 t1 t2;go_upto_region 3 with (fail)
  refine wp_region_noPanic ?_;refine wp_region_timed (F := [⟨[], [], fun w' => Only [gr] w2 w'⟩]) (by kernel_rfl) (th1 ((Only.refl [gr] w2).drew)) ?_;refine tp (i := 0) ?_;(try simp only [tdz]);refine trd (i := 1) (v := ?_) 0 ?_ ?_;rotate_left
  ·(intro wq hSw; have hb_H := hSw.blk HB2.out (by simp; omega); have lb_H := hb_H.lt; have y2 := hb_H.at_ 2; simp at y2; clear hb_H; have hb_P := hSw.blk HP2.out (by simp; omega); have lb_P := hb_P.lt; have p0 := hb_P.at_ 0; have p1 := hb_P.at_ 1; simp at p0 p1; clear hb_P; have t0 := (hSw.cell (p := ⟨bl, off + i * 3, none⟩) hbr2 (by simp; omega)).trans HC0.out; have t1 := (hSw.cell (p := ⟨bl, off + i * 3 + 1, none⟩) hbr2 (by simp; omega)).trans HC1.out; have t2 := (hSw.cell (p := ⟨bl, off + i * 3 + 2, none⟩) hbr2 (by simp; omega)).trans HC2.out; have q1 := (hSw.cell (p := ⟨bo, oo + j * 4 + 1, none⟩) hbo2 (by simp; omega)).trans HCK.out; clear hSw; go_simp; try with_reducible rfl)
  (try simp only [tdz]);refine tp (i := 2) ?_;(try simp only [tdz]);refine trd (i := 3) (v := ?_) 0 ?_ ?_;rotate_left
  ·(intro wq hSw; have hb_H := hSw.blk HB2.out (by simp; omega); have lb_H := hb_H.lt; have y2 := hb_H.at_ 2; simp at y2; clear hb_H; have hb_P := hSw.blk HP2.out (by simp; omega); have lb_P := hb_P.lt; have p0 := hb_P.at_ 0; have p1 := hb_P.at_ 1; simp at p0 p1; clear hb_P; have t0 := (hSw.cell (p := ⟨bl, off + i * 3, none⟩) hbr2 (by simp; omega)).trans HC0.out; have t1 := (hSw.cell (p := ⟨bl, off + i * 3 + 1, none⟩) hbr2 (by simp; omega)).trans HC1.out; have t2 := (hSw.cell (p := ⟨bl, off + i * 3 + 2, none⟩) hbr2 (by simp; omega)).trans HC2.out; have q1 := (hSw.cell (p := ⟨bo, oo + j * 4 + 1, none⟩) hbo2 (by simp; omega)).trans HCK.out; clear hSw; go_simp; try with_reducible rfl)
  (try simp only [tdz]);refine tp (i := 4) ?_;(try simp only [tdz]);refine trd (i := 5) (v := ?_) 0 ?_ ?_;rotate_left
  ·(intro wq hSw; have hb_H := hSw.blk HB2.out (by simp; omega); have lb_H := hb_H.lt; have y2 := hb_H.at_ 2; simp at y2; clear hb_H; have hb_P := hSw.blk HP2.out (by simp; omega); have lb_P := hb_P.lt; have p0 := hb_P.at_ 0; have p1 := hb_P.at_ 1; simp at p0 p1; clear hb_P; have t0 := (hSw.cell (p := ⟨bl, off + i * 3, none⟩) hbr2 (by simp; omega)).trans HC0.out; have t1 := (hSw.cell (p := ⟨bl, off + i * 3 + 1, none⟩) hbr2 (by simp; omega)).trans HC1.out; have t2 := (hSw.cell (p := ⟨bl, off + i * 3 + 2, none⟩) hbr2 (by simp; omega)).trans HC2.out; have q1 := (hSw.cell (p := ⟨bo, oo + j * 4 + 1, none⟩) hbo2 (by simp; omega)).trans HCK.out; clear hSw; go_simp; try with_reducible rfl)
  (try simp only [tdz]);refine tp (i := 6) ?_;(try simp only [tdz]);refine trd (i := 7) (v := ?_) 0 ?_ ?_;rotate_left
  ·(intro wq hSw; have hb_H := hSw.blk HB2.out (by simp; omega); have lb_H := hb_H.lt; have y2 := hb_H.at_ 2; simp at y2; clear hb_H; have hb_P := hSw.blk HP2.out (by simp; omega); have lb_P := hb_P.lt; have p0 := hb_P.at_ 0; have p1 := hb_P.at_ 1; simp at p0 p1; clear hb_P; have t0 := (hSw.cell (p := ⟨bl, off + i * 3, none⟩) hbr2 (by simp; omega)).trans HC0.out; have t1 := (hSw.cell (p := ⟨bl, off + i * 3 + 1, none⟩) hbr2 (by simp; omega)).trans HC1.out; have t2 := (hSw.cell (p := ⟨bl, off + i * 3 + 2, none⟩) hbr2 (by simp; omega)).trans HC2.out; have q1 := (hSw.cell (p := ⟨bo, oo + j * 4 + 1, none⟩) hbo2 (by simp; omega)).trans HCK.out; clear hSw; go_simp; try with_reducible rfl)
  (try simp only [tdz]);refine tp (i := 8) ?_;(try simp only [tdz]);refine trd (i := 9) (v := ?_) 0 ?_ ?_;rotate_left
  ·(intro wq hSw; have hb_H := hSw.blk HB2.out (by simp; omega); have lb_H := hb_H.lt; have y2 := hb_H.at_ 2; simp at y2; clear hb_H; have hb_P := hSw.blk HP2.out (by simp; omega); have lb_P := hb_P.lt; have p0 := hb_P.at_ 0; have p1 := hb_P.at_ 1; simp at p0 p1; clear hb_P; have t0 := (hSw.cell (p := ⟨bl, off + i * 3, none⟩) hbr2 (by simp; omega)).trans HC0.out; have t1 := (hSw.cell (p := ⟨bl, off + i * 3 + 1, none⟩) hbr2 (by simp; omega)).trans HC1.out; have t2 := (hSw.cell (p := ⟨bl, off + i * 3 + 2, none⟩) hbr2 (by simp; omega)).trans HC2.out; have q1 := (hSw.cell (p := ⟨bo, oo + j * 4 + 1, none⟩) hbo2 (by simp; omega)).trans HCK.out; clear hSw; go_simp; try with_reducible rfl)
  (try simp only [tdz]);refine tp (i := 10) ?_;(try simp only [tdz]);refine trd (i := 11) (v := ?_) 0 ?_ ?_;rotate_left
  ·(intro wq hSw; have hb_H := hSw.blk HB2.out (by simp; omega); have lb_H := hb_H.lt; have y2 := hb_H.at_ 2; simp at y2; clear hb_H; have hb_P := hSw.blk HP2.out (by simp; omega); have lb_P := hb_P.lt; have p0 := hb_P.at_ 0; have p1 := hb_P.at_ 1; simp at p0 p1; clear hb_P; have t0 := (hSw.cell (p := ⟨bl, off + i * 3, none⟩) hbr2 (by simp; omega)).trans HC0.out; have t1 := (hSw.cell (p := ⟨bl, off + i * 3 + 1, none⟩) hbr2 (by simp; omega)).trans HC1.out; have t2 := (hSw.cell (p := ⟨bl, off + i * 3 + 2, none⟩) hbr2 (by simp; omega)).trans HC2.out; have q1 := (hSw.cell (p := ⟨bo, oo + j * 4 + 1, none⟩) hbo2 (by simp; omega)).trans HCK.out; clear hSw; go_simp; try with_reducible rfl)
  (try simp only [tdz]);refine tp (i := 12) ?_;(try simp only [tdz]);refine tp (i := 13) ?_;(try simp only [tdz]);refine trd (i := 14) (v := ?_) 0 ?_ ?_;rotate_left
  ·(intro wq hSw; have hb_H := hSw.blk HB2.out (by simp; omega); have lb_H := hb_H.lt; have y2 := hb_H.at_ 2; simp at y2; clear hb_H; have hb_P := hSw.blk HP2.out (by simp; omega); have lb_P := hb_P.lt; have p0 := hb_P.at_ 0; have p1 := hb_P.at_ 1; simp at p0 p1; clear hb_P; have t0 := (hSw.cell (p := ⟨bl, off + i * 3, none⟩) hbr2 (by simp; omega)).trans HC0.out; have t1 := (hSw.cell (p := ⟨bl, off + i * 3 + 1, none⟩) hbr2 (by simp; omega)).trans HC1.out; have t2 := (hSw.cell (p := ⟨bl, off + i * 3 + 2, none⟩) hbr2 (by simp; omega)).trans HC2.out; have q1 := (hSw.cell (p := ⟨bo, oo + j * 4 + 1, none⟩) hbo2 (by simp; omega)).trans HCK.out; clear hSw; go_simp; try with_reducible rfl)
  (try simp only [tdz]);refine tp (i := 15) ?_;(try simp only [tdz]);refine trd (i := 16) (v := ?_) 0 ?_ ?_;rotate_left
  ·(intro wq hSw; have hb_H := hSw.blk HB2.out (by simp; omega); have lb_H := hb_H.lt; have y2 := hb_H.at_ 2; simp at y2; clear hb_H; have hb_P := hSw.blk HP2.out (by simp; omega); have lb_P := hb_P.lt; have p0 := hb_P.at_ 0; have p1 := hb_P.at_ 1; simp at p0 p1; clear hb_P; have t0 := (hSw.cell (p := ⟨bl, off + i * 3, none⟩) hbr2 (by simp; omega)).trans HC0.out; have t1 := (hSw.cell (p := ⟨bl, off + i * 3 + 1, none⟩) hbr2 (by simp; omega)).trans HC1.out; have t2 := (hSw.cell (p := ⟨bl, off + i * 3 + 2, none⟩) hbr2 (by simp; omega)).trans HC2.out; have q1 := (hSw.cell (p := ⟨bo, oo + j * 4 + 1, none⟩) hbo2 (by simp; omega)).trans HCK.out; clear hSw; go_simp; try with_reducible rfl)
  (try simp only [tdz]);refine tp (i := 17) ?_;(try simp only [tdz]);refine tp (i := 18) ?_;(try simp only [tdz]);refine trd (i := 19) (v := ?_) 0 ?_ ?_;rotate_left
  ·(intro wq hSw; have hb_H := hSw.blk HB2.out (by simp; omega); have lb_H := hb_H.lt; have y2 := hb_H.at_ 2; simp at y2; clear hb_H; have hb_P := hSw.blk HP2.out (by simp; omega); have lb_P := hb_P.lt; have p0 := hb_P.at_ 0; have p1 := hb_P.at_ 1; simp at p0 p1; clear hb_P; have t0 := (hSw.cell (p := ⟨bl, off + i * 3, none⟩) hbr2 (by simp; omega)).trans HC0.out; have t1 := (hSw.cell (p := ⟨bl, off + i * 3 + 1, none⟩) hbr2 (by simp; omega)).trans HC1.out; have t2 := (hSw.cell (p := ⟨bl, off + i * 3 + 2, none⟩) hbr2 (by simp; omega)).trans HC2.out; have q1 := (hSw.cell (p := ⟨bo, oo + j * 4 + 1, none⟩) hbo2 (by simp; omega)).trans HCK.out; clear hSw; go_simp; try with_reducible rfl)
  (try simp only [tdz]);refine tst (i := 20) fun K hK => ?_;go_simp;refine (HRW.out _ (HO2.out.trans (Only.refl [] w2).drew)).mono ?_;rintro e w3 ⟨rfl, O3⟩;unfold optT optV;have HR3 := Hd (O3.blk (HR2.out.drew) (by simp));have O3 := O3.wide (T := [gr]) (fun i hi => by cases hi);refine hK.out _ _ (th1 (((Only.refl [gr] w2).drew).trans O3)) ?_;clear hK K;(try simp only [tdz]);refine tp (i := 21) ?_;(try simp only [tdz]);refine tp (i := 22) ?_;(try simp only [tdz]);refine tst (i := 23) fun K hK => ?_;refine wp_store_blk 38 (.tmp 4) (.tmp 32) rfl gr 38 _ #[.int .i64 (v.getD (0, 0)).1, .int .i64 (v.getD (0, 0)).2] rfl rfl HR3.out rfl (by kernel_rfl) (by kernel_rfl) ?_;intro w9 b9 o9;have HB9 := Hd b9;refine hK.out _ _ (th1 ((((Only.refl [gr] w2).drew).trans O3).trans o9)) ?_;clear hK K;(try simp only [tdz]);refine tp (i := 24) ?_;(try simp only [tdz]);refine timed_done (by kernel_rfl) ?_ _;refine NoPanic.normal ?_;have HNW := Hd ( ((((Only.refl [gr] w2).drew).trans O3).trans o9));go_wp2
  refine bodyPost_ret (results_row2 Tryz.results61 _ _ gr 38 #[.int .i64 (v.getD (0, 0)).1, .int .i64 (v.getD (0, 0)).2] _ rfl HB9.out Tryz.underlying38 rfl (by kernel_rfl)) rfl ?_;exact ⟨rfl, HO2.out.step HNW.out (fun i hi hl => by simp at hi; omega)⟩
theorem rlost_any (A0 A1 A2 : Option Addr) (n0 n1 n2 c0 c1 c2 B : Nat) (h : Hst) (w : World) (hg : LRow w B A2 h.l) (hn2 : h.l.length = n2) (hM : n2 ≤ 1000) (hno : ∀ t ∈ h.l, t.ops.length ≤ 1000) :
  Calls Tryz.prog 54 #[hval A0 A1 A2 n0 n1 n2 c0 c1 c2] w fun e w' =>
   ∃ A c, (e = .returned (.slice A (lostP (plsL h.l)).length c) ∧ Row w' w'.heap.size A (placeC (lostP (plsL h.l)))) ∧ Only [] w w' := by
 unfold hval;obtain ⟨i0, hi, hz0, hz1, hz2⟩ := info_parts info_place;have HG := Hd hg;have HN2 := Hd hn2;have HNO := Hd hno;have HO := Hd (((Only.refl [] w).alloc (.cells #[.slice A0 n0 c0, .slice A1 n1 c1, .slice A2 n2 c2] 25)).alloc (.cells #[] 27));have HB := Hd ((Blk.made w 25 #[.slice A0 n0 c0, .slice A1 n1 c1, .slice A2 n2 c2]).alloc (.cells #[] 27));have HV := Hd (World.ownsRow_lit (w.alloc (.cells #[.slice A0 n0 c0, .slice A1 n1 c1, .slice A2 n2 c2] 25)) (e := 27) (size := 2) #[] 0 (Nat.le_refl _) (by unfold maxLen; omega) rfl);rw [World.size_alloc] at HV;clear hg hn2 hno;go_enter Tryz.func54, Tryz.ntmps54;go_wp2_with fail
 go_loopw [3, 4] (fun V iv wr => ∃ k : Nat, iv = .int .i64 k ∧ k ≤ n2 ∧ Hid (wr.ownsRow (w.heap.size + 1) 27 2 V (lostP (plsL (h.l.take k))).length (placeC (lostP (plsL (h.l.take k))))) ∧ Hid (Blk wr w.heap.size 25 #[.slice A0 n0 c0, .slice A1 n1 c1, .slice A2 n2 c2]) ∧ Hid (Only [] w wr)) (fun _ iv _ => n2 - (intOf iv).toNat)
 case atStart => exact ⟨0, rfl, by omega, HV, HB, HO⟩
 case round =>
  obtain ⟨k, rfl, hk, hV, hB, hO⟩ := hrel;clear HV HB HO
  by_cases hlt : k < n2
  ·obtain ⟨x, hx⟩ : ∃ x, h.l[k]? = some x := ⟨_, List.getElem?_eq_getElem (by rw [HN2.out]; exact hlt)⟩;obtain ⟨b, off, A', cp, rfl, -, hbw, hT, hOk⟩ := HG.out.at_ hx;have HT := Hd hT;have HPT := Hd (plsL_take hx);have hpl := plsL_len (h.l.take k) (fun t ht => HNO.out t (List.mem_of_mem_take ht));rw [List.length_take] at hpl;have hm1 := HNO.out x (List.mem_of_getElem? hx);have HROW := Hd hOk.row;obtain ⟨s, f, ops⟩ := x;dsimp only at HT HPT hm1 HROW;generalize hm : ops.length = m at *;have HMM := Hd hm;have h01 : (k : Int) < (n2 : Int) := by omega
   have hk0 : (0 : Int) ≤ (k : Int) := Int.natCast_nonneg _;have hwk : IntKind.i64.wrap ((k : Int) + 1) = (k : Int) + 1 := IntWalk.i64_in _ (by omega);have hV' : Hid (wr.ownsRow (w.heap.size + 1) 27 2 u3 (lostP (plsL (h.l.take k) ++ plsT k (ops.take 0))).length (placeC (lostP (plsL (h.l.take k) ++ plsT k (ops.take 0))))) := by simpa [plsT] using hV
   have hB' := hB;have hO' := hO;clear hT hOk hx hm hV;have lB := hB'.out.lt;have b2 := hB'.out.at_ 2;simp at b2;go_wp2_with fail
   clear lB b2 hB hO
   go_loopw [3, 5] (fun V iv wr => ∃ j : Nat, iv = .int .i64 j ∧ j ≤ m ∧ Hid (wr.ownsRow (w.heap.size + 1) 27 2 V (lostP (plsL (h.l.take k) ++ plsT k (ops.take j))).length (placeC (lostP (plsL (h.l.take k) ++ plsT k (ops.take j))))) ∧ Hid (Blk wr w.heap.size 25 #[.slice A0 n0 c0, .slice A1 n1 c1, .slice (some ⟨b, off, none⟩) n2 c2]) ∧ Hid (Only [] w wr)) (fun _ iv _ => m - (intOf iv).toNat)
   case atStart => exact ⟨0, rfl, by omega, hV', hB', hO'⟩
   case round =>
    obtain ⟨j, rfl, hj, hV, hB, hO⟩ := hrel;clear hV' hB' hO';have hsz := hO.out.size;have lB := hB.out.lt;have b2 := hB.out.at_ 2;simp at b2;obtain ⟨a0, a1, a2⟩ := HT.out.only hO.out hbw (by simp);dsimp only at a2;rw [HMM.out] at a2;have hbr : b < wr.heap.size := by omega
    clear a0 a1
    by_cases hlt2 : j < m
    ·obtain ⟨y, hy⟩ : ∃ y, ops[j]? = some y := ⟨_, List.getElem?_eq_getElem (by rw [HMM.out]; exact hlt2)⟩;obtain ⟨b', off', rfl, -, hbw', hP⟩ := row_op HROW.out hy;obtain ⟨p0, p1, p2, p3⟩ := hP.only hO.out hbw' (by simp);have HTT := Hd (plsT_take (i := k) hy);have hll := lostP_le (plsL (h.l.take k) ++ plsT k (ops.take j));rw [List.length_append, plsT_len, List.length_take] at hll;obtain ⟨yw, yk, yv, yn⟩ := y;dsimp only at p0 p1 p2 p3;have h02 : (j : Int) < (m : Int) := by omega
     have hj0 : (0 : Int) ≤ (j : Int) := Int.natCast_nonneg _;have hwj : IntKind.i64.wrap ((j : Int) + 1) = (j : Int) + 1 := IntWalk.i64_in _ (by omega);have hbr' : b' < wr.heap.size := by omega
     clear hP hy p0 p1 p3
     by_cases hv2 : yv = 2
     ·have HE : Hid (lostP (plsL (h.l.take k) ++ plsT k (ops.take (j + 1))) = lostP (plsL (h.l.take k) ++ plsT k (ops.take j)) ++ [((k : Int), (j : Int))]) := Hd (by
       rw [HTT.out, ← List.append_assoc, lostP_hit _ (by exact hv2)])
      subst hv2;go_wp2_with (at_builtin; refine wpList_append_row _ rfl (.tmp 37) (.tmp 41) _ rfl (w.heap.size + 1) 27 i0 _ 2 16 Tryz.underlying79 hi hz0 hz1 hz2 rfl (by omega) _ _ _ rfl (own_only hV.out ((Only.refl [] _).alloc _) (by simp)) (wr.heap.size + 1) (some ⟨wr.heap.size, 0, none⟩) 1 1 [.int .i64 (k : Int), .int .i64 (j : Int)] rfl rfl (row_lit wr 27 #[.int .i64 (k : Int), .int .i64 (j : Int)]) (by intro u hu; simp at hu; rcases hu with rfl | rfl <;> rfl) (by unfold maxLen; omega) (by omega) (by simp; omega) ?_; intro v4 w4 hown4 hgrow hat)
      have hb1 := hB.out.alloc (.cells #[.int .i64 (k : Int), .int .i64 (j : Int)] 27);have hv1 := own_only hV.out ((Only.refl [] wr).alloc (.cells #[.int .i64 (k : Int), .int .i64 (j : Int)] 27)) (by simp);have REL : w4.ownsRow (w.heap.size + 1) 27 2 v4 (lostP (plsL (h.l.take k) ++ plsT k (ops.take (j + 1)))).length (placeC (lostP (plsL (h.l.take k) ++ plsT k (ops.take (j + 1))))) ∧ Blk w4 w.heap.size 25 #[.slice A0 n0 c0, .slice A1 n1 c1, .slice (some ⟨b, off, none⟩) n2 c2] ∧ Only [] w w4 := by
       refine ⟨?_, (only_grown hgrow).blk hb1 (own_apart hv1 hb1 (by decide)), (hO.out.alloc _).step (only_grown hgrow) (fun i hi hl => own_new hV.out (S := []) i hi (by omega))⟩;rw [HE.out, placeC_append]
       simpa [placeC] using hown4
      have HREL := Hd REL;clear REL hown4 lB b2 a2 p2 hb1 hv1;go_wp2
      go_roundw
      case rel => first | exact ⟨j + 1, by go_num, by omega, Hd HREL.out.1, Hd HREL.out.2.1, Hd HREL.out.2.2⟩ | exact ⟨_, ⟨j + 1, by go_num, by omega, Hd HREL.out.1, Hd HREL.out.2.1, Hd HREL.out.2.2⟩, rfl⟩
      case measure => simp [intOf]; omega
     ·have HE : Hid (lostP (plsL (h.l.take k) ++ plsT k (ops.take (j + 1))) = lostP (plsL (h.l.take k) ++ plsT k (ops.take j))) := Hd (by
       rw [HTT.out, ← List.append_assoc, lostP_miss _ (by exact hv2)])
      have hf1 : (yv == 2) = false := by simpa using hv2
      clear hv2;go_wp2
      go_roundw
      case rel => exact ⟨j + 1, by go_num, by omega, Hd (by rw [HE.out]; exact hV.out), hB, hO⟩
      case measure => simp [intOf]; omega
    ·have hjm : j = m := by omega
     subst hjm;have hd3 : decide ((j : Int) < (j : Int)) = false := by simp
     have hVE : Hid (wr.ownsRow (w.heap.size + 1) 27 2 u3 (lostP (plsL (h.l.take (k + 1)))).length (placeC (lostP (plsL (h.l.take (k + 1)))))) := Hd (by
      have := hV.out;rw [show ops.take j = ops from List.take_of_length_le (by rw [HMM.out]; exact Nat.le_refl _)] at this;rw [HPT.out];exact this)
     clear hV;go_wp2
     go_roundw
     case rel => exact ⟨k + 1, by go_num, by omega, hVE, hB, hO⟩
     case measure => simp [intOf]; omega
  ·have hkn : k = n2 := by omega
   subst hkn;have lB := hB.out.lt;have b2 := hB.out.at_ 2;simp at b2;have hd2 : decide ((k : Int) < (k : Int)) = false := by simp
   have hVV := hV.out;rw [List.take_of_length_le (by rw [HN2.out]; exact Nat.le_refl _)] at hVV;obtain ⟨A, c, rfl, -, -, -, hR⟩ := own_row hVV;have HR := Hd hR;clear hV hVV hR;go_wp2
   go_ret
   first | exact ⟨⟨_, ⟨_, rfl⟩, HR.out⟩, hO.out⟩ | exact ⟨_, _, ⟨rfl, HR.out⟩, hO.out⟩
end Go.Proofs.YtjfbeeogiejopaaGreatDoor
