/- Parts. -/
import Derived.Test.YthdofaoamljkfaaGreatDoorLaw24AllK41
set_option maxRecDepth 10000
set_option maxHeartbeats 16000000
set_option linter.unusedVariables false
set_option linter.unusedSimpArgs false
namespace Go.Proofs.YthdofaoamljkfaaGreatDoor
open Go.RowKit
open Go.Lib hiding intOf
attribute [local go_sem ↓] Go.wp_at_zero Go.wp_at_succ
theorem opAt_inv {h : Hst} {a b : Int} {t : Tx} {o : Op4} (ho : opAtH h a b = some (t, o)) : ∃ i j : Nat, a = i ∧ b = j ∧ h.l[i]? = some t ∧ t.ops[j]? = some o := by
 unfold opAtH txAtH at ho
 split at ho
 ·rename_i hc
  cases hx : h.l[a.toNat]? with
  | none => rw [hx] at ho; cases ho
  | some x =>
   rw [hx] at ho;simp only [Option.bind_some] at ho
   split at ho
   ·rename_i hb
    cases hy : x.ops[b.toNat]? with
    | none => rw [hy] at ho; cases ho
    | some y =>
     rw [hy] at ho;simp at ho;obtain ⟨rfl, rfl⟩ := ho;exact ⟨a.toNat, b.toNat, by omega, by omega, hx, hy⟩
   ·cases ho
 ·cases ho
theorem rown_any (A0 A1 A2 : Option Addr) (n0 n1 n2 c0 c1 c2 B : Nat) (h : Hst) (a b : Int) (w : World) (hg : HIn w B A0 A1 A2 n0 n1 n2 h) :
  Calls Tryz.prog 54 #[hval A0 A1 A2 n0 n1 n2 c0 c1 c2, .agg #[.int .i64 a, .int .i64 b]] w fun e w' => e = .returned (optT (ownO h a b)) ∧ Only [] w w' := by
 have HTH := Hd (fun w' (O : Only [] w w') => rthere_any A0 A1 A2 n0 n1 n2 c0 c1 c2 B h a b w' (hg.same O));have HL := Hd hg.at_.r2;have HN2 := Hd hg.n2;have HNO := Hd hg.sm.no;unfold hval at HTH ⊢;clear hg;have HO1 := Hd ((((Only.refl [] w).alloc (.cells #[.slice A0 n0 c0, .slice A1 n1 c1, .slice A2 n2 c2] 25)).alloc (.cells #[.int .i64 a, .int .i64 b] 56)).alloc (.cells #[.int .i64 0, .int .i64 0] 68));have HB1 := Hd (((Blk.made w 25 #[.slice A0 n0 c0, .slice A1 n1 c1, .slice A2 n2 c2]).alloc (.cells #[.int .i64 a, .int .i64 b] 56)).alloc (.cells #[.int .i64 0, .int .i64 0] 68));have HP1 := Hd ((Blk.made (w.alloc (.cells #[.slice A0 n0 c0, .slice A1 n1 c1, .slice A2 n2 c2] 25)) 56 #[.int .i64 a, .int .i64 b]).alloc (.cells #[.int .i64 0, .int .i64 0] 68));have HR1 := Hd (Blk.made ((w.alloc (.cells #[.slice A0 n0 c0, .slice A1 n1 c1, .slice A2 n2 c2] 25)).alloc (.cells #[.int .i64 a, .int .i64 b] 56)) 68 #[.int .i64 0, .int .i64 0]);simp only [World.size_alloc] at HP1 HR1
 cases ho : opAtH h a b with
 | none =>
  rw [own_none ho];have HF := Hd (HTH.out _ HO1.out);rw [there_none ho] at HF;clear ho HTH;go_enter Tryz.func54, Tryz.ntmps54;go_wp2_with fail
  generalize (((w.alloc (.cells #[.slice A0 n0 c0, .slice A1 n1 c1, .slice A2 n2 c2] 25)).alloc (.cells #[.int .i64 a, .int .i64 b] 56)).alloc (.cells #[.int .i64 0, .int .i64 0] 68)) = w1 at *;generalize hgr : w.heap.size + 1 + 1 = gr at *;generalize hgp : w.heap.size + 1 = gp at *;generalize hgg : w.heap.size = g at *;refine (HF.out).mono ?_;rintro e w2 ⟨rfl, O2⟩;have HO2 := Hd (HO1.out.trans O2);have HR2 := Hd (O2.blk HR1.out (by simp));clear O2 HF;go_wp2_with (refine wpList_store_blk rfl 68 (.tmp 4) (.tmp 10) rfl gr 68 _ #[.int .i64 0, .int .i64 0] rfl rfl HR2.out rfl (by kernel_rfl) (by kernel_rfl) ?_; intro w9 b9 o9; have HB9 := Hd b9; have HN9 := Hd o9; clear b9 o9)
  refine bodyPost_ret (results_row2 Tryz.results54 _ _ gr 68 #[.int .i64 0, .int .i64 0] _ rfl HB9.out Tryz.underlying68 rfl (by kernel_rfl)) rfl ?_;exact ⟨rfl, HO2.out.step HN9.out (fun i hi hl => by simp at hi; omega)⟩
 | some x =>
  obtain ⟨t, o⟩ := x;rw [own_some ho];have HF := Hd (HTH.out _ HO1.out);rw [there_some ho] at HF;obtain ⟨i, j, rfl, rfl, hx, hj⟩ := opAt_inv ho;obtain ⟨bl, off, A', cp, rfl, -, hbw, hT, hOk⟩ := HL.out.at_ hx;have hno := HNO.out t (List.mem_of_getElem? hx);have hi2 : i < n2 := by rw [← HN2.out]; exact (List.getElem?_eq_some_iff.1 hx).1
  have hjl := (List.getElem?_eq_some_iff.1 hj).1;have HT := Hd (hT.only HO1.out hbw (by simp));obtain ⟨bo, oo, rfl, -, hbo, hP⟩ := row_op hOk.row hj;have HPO := Hd (hP.only HO1.out hbo (by simp)).c1;have HROW := Hd hOk.row;rw [show ((j : Int).toNat) = j from by simp];obtain ⟨s, f, ops⟩ := t;dsimp only at HROW hno HT hj hjl ⊢;have HRW := Hd (fun w' (O : Only [] w w') => rraw_any s f (some ⟨bo, oo, none⟩) ops.length cp B j ops o.key w' (HROW.out.only O (by simp)) rfl hno (by omega));generalize leftW o.key (ops.take j) = v at *;generalize o.key = ok at *;generalize hmm : ops.length = m at *;have hi0 : (0 : Int) ≤ (i : Int) := by omega
  have hj0 : (0 : Int) ≤ (j : Int) := by omega
  have hi2' : (i : Int) < (n2 : Int) := by omega
  have hjm : (j : Int) < (m : Int) := by omega
  clear ho HTH hx hj hT hOk hP HROW;go_enter Tryz.func54, Tryz.ntmps54;go_wp2_with fail
  generalize (((w.alloc (.cells #[.slice A0 n0 c0, .slice A1 n1 c1, .slice (some ⟨bl, off, none⟩) n2 c2] 25)).alloc (.cells #[.int .i64 (i : Int), .int .i64 (j : Int)] 56)).alloc (.cells #[.int .i64 0, .int .i64 0] 68)) = w1 at *;have hbr : bl < w1.heap.size := by have := HO1.out.size; omega
  have hbor : bo < w1.heap.size := by have := HO1.out.size; omega
  generalize hgr : w.heap.size + 1 + 1 = gr at *;generalize hgp : w.heap.size + 1 = gp at *;generalize hgg : w.heap.size = g at *;refine (HF.out).mono ?_;rintro e w2 ⟨rfl, O2⟩;have HO2 := Hd (HO1.out.trans O2);have HR2 := Hd (O2.blk HR1.out (by simp));have HB2 := Hd (O2.blk HB1.out (by simp));have HP2 := Hd (O2.blk HP1.out (by simp));obtain ⟨t0, t1, t2⟩ := HT.out.only O2 hbr (by simp);dsimp only at t0 t1 t2;rw [hmm] at t2;have HC0 := Hd t0;have HC1 := Hd t1;have HC2 := Hd t2;have HCK := Hd ((O2.cell (p := ⟨bo, oo + j * 4 + 1, none⟩) hbor (by simp)).trans HPO.out);have hbr2 : bl < w2.heap.size := by have := O2.size; omega
  have hbo2 : bo < w2.heap.size := by have := O2.size; omega
  clear O2 HF t0 t1 t2;go_upto_region 3 with (fail)
  have RD0 := Hd fun wq (hSw : Only [gr] w2 wq) => aI (Bk1 (hSw.blk HB2.out (by simp; omega)) 2) (aI (Bk2 (hSw.blk HP2.out (by simp; omega))) (aI ((hSw.cell (p := ⟨bl, off + i * 3, none⟩) hbr2 (by simp; omega)).trans HC0.out) (aI ((hSw.cell (p := ⟨bl, off + i * 3 + 1, none⟩) hbr2 (by simp; omega)).trans HC1.out) (aI ((hSw.cell (p := ⟨bl, off + i * 3 + 2, none⟩) hbr2 (by simp; omega)).trans HC2.out) ((hSw.cell (p := ⟨bo, oo + j * 4 + 1, none⟩) hbo2 (by simp; omega)).trans HCK.out)))));refine rg1 [] [gr] w2 ?_;refine tQ 0 (h := trq 1 0 RD0 (h := tQ 2 (h := trq 3 0 RD0 (h := tQ 4 (h := trq 5 0 RD0 (h := tQ 6 (h := trq 7 0 RD0 (h := tQ 8 (h := trq 9 0 RD0 (h := tQ 10 (h := trq 11 0 RD0 (h := tQ 12 (h := tQ 13 (h := trq 14 0 RD0 (h := tQ 15 (h := trq 16 0 RD0 (h := tQ 17 (h := tQ 18 (h := trq 19 0 RD0 (h := ?_))))))))))))))))))));refine tst (i := 20) fun K hK => ?_;go_simp;refine (HRW.out _ (HO2.out.trans (Only.refl [] w2).drew)).mono ?_;rintro e w3 ⟨rfl, O3⟩;unfold optT optV;have HR3 := Hd (O3.blk (HR2.out.drew) (by simp));have O3 := O3.wide (T := [gr]) (fun i hi => by cases hi);refine kOut hK (((Only.refl [gr] w2).drew).trans O3) (h := ?_);clear hK K;refine tQ 21 (h := tQ 22 (h := ?_));refine tst (i := 23) fun K hK => ?_;refine wp_store_blk 68 (.tmp 4) (.tmp 32) rfl gr 68 _ #[.int .i64 (v.getD (0, 0)).1, .int .i64 (v.getD (0, 0)).2] rfl rfl HR3.out rfl (by kernel_rfl) (by kernel_rfl) ?_;intro w9 b9 o9;have HB9 := Hd b9;refine kOut hK ((((Only.refl [gr] w2).drew).trans O3).trans o9) (h := ?_);clear hK K;refine tQ 24 (h := ?_);refine tdn ?_;have HNW := Hd ( ((((Only.refl [gr] w2).drew).trans O3).trans o9));go_wp2
  refine bodyPost_ret (results_row2 Tryz.results54 _ _ gr 68 #[.int .i64 (v.getD (0, 0)).1, .int .i64 (v.getD (0, 0)).2] _ rfl HB9.out Tryz.underlying68 rfl (by kernel_rfl)) rfl ?_;exact ⟨rfl, HO2.out.step HNW.out (fun i hi hl => by simp at hi; omega)⟩
theorem router_any (A0 A1 A2 : Option Addr) (n0 n1 n2 c0 c1 c2 B : Nat) (h : Hst) (a b : Int) (w : World) (hg : HIn w B A0 A1 A2 n0 n1 n2 h) :
  Calls Tryz.prog 34 #[hval A0 A1 A2 n0 n1 n2 c0 c1 c2, .agg #[.int .i64 a, .int .i64 b]] w fun e w' => e = .returned (.bool (outerB h a b)) ∧ Only [] w w' := by
 have HTH := Hd (fun w' (O : Only [] w w') => rthere_any A0 A1 A2 n0 n1 n2 c0 c1 c2 B h a b w' (hg.same O));have HL := Hd hg.at_.r2;have HN2 := Hd hg.n2;have HNO := Hd hg.sm.no;have HOW := Hd (fun w' (O : Only [] w w') => rown_any A0 A1 A2 n0 n1 n2 c0 c1 c2 B h a b w' (hg.same O));unfold hval at HTH HOW ⊢;clear hg;have HO1 := Hd (((Only.refl [] w).alloc (.cells #[.slice A0 n0 c0, .slice A1 n1 c1, .slice A2 n2 c2] 25)).alloc (.cells #[.int .i64 a, .int .i64 b] 56));have HB1 := Hd ((Blk.made w 25 #[.slice A0 n0 c0, .slice A1 n1 c1, .slice A2 n2 c2]).alloc (.cells #[.int .i64 a, .int .i64 b] 56));have HP1 := Hd (Blk.made (w.alloc (.cells #[.slice A0 n0 c0, .slice A1 n1 c1, .slice A2 n2 c2] 25)) 56 #[.int .i64 a, .int .i64 b]);simp only [World.size_alloc] at HP1
 cases ho : opAtH h a b with
 | none =>
  rw [outer_none ho];have HF := HTH;rw [there_none ho] at HF;clear ho HTH;go_enter Tryz.func34, Tryz.ntmps34;go_wp2_with fail
  generalize ((w.alloc (.cells #[.slice A0 n0 c0, .slice A1 n1 c1, .slice A2 n2 c2] 25)).alloc (.cells #[.int .i64 a, .int .i64 b] 56)) = w1 at *;generalize hgp : w.heap.size + 1 = gp at *;generalize hgg : w.heap.size = g at *;have RD0 := Hd fun wq (hSw : Only [] w1 wq) => aI (Bk3 (hSw.blk HB1.out (by simp))) (Bk2 (hSw.blk HP1.out (by simp)));refine rg1 [] [] w1 ?_;refine trq 0 0 RD0 (h := trq 1 0 RD0 (h := ?_));refine tst (i := 2) fun K hK => ?_;go_simp;refine (HF.out _ (HO1.out.trans (Only.refl [] w1).drew)).mono ?_;rintro e w3 ⟨rfl, O3⟩;refine kOut hK (((Only.refl [] w1).drew).trans O3) (h := ?_);clear hK K;refine tQ 3 (h := tQ 4 (h := tiq 5 (h := tiq 6 (h := tiq 7 (h := tiq 8 (h := tiq 9 (h := tiq 10 (h := tiq 11 (h := tiq 12 (h := tiq 13 (h := tiq 14 (h := tiq 15 (h := tiq 16 (h := tQ 17 (h := ?_)))))))))))))));refine tdn ?_;have HNW := Hd (HO1.out.trans (((Only.refl [] w1).drew).trans O3));go_wp2
  go_ret
  exact ⟨rfl, HNW.out⟩
 | some x =>
  obtain ⟨t, o⟩ := x;have HF := HTH;rw [there_some ho] at HF;have HOV : Hid (outerB h a b = (!o.wr && !(ownO h a b).isSome)) := Hd (by rw [outer_some ho, own_some ho]);obtain ⟨r, hr⟩ : ∃ r, r = outerB h a b := ⟨_, rfl⟩;rw [← hr];rw [← hr] at HOV;obtain ⟨i, j, rfl, rfl, hx, hj⟩ := opAt_inv ho;obtain ⟨bl, off, A', cp, rfl, -, hbw, hT, hOk⟩ := HL.out.at_ hx;have hi2 : i < n2 := by rw [← HN2.out]; exact (List.getElem?_eq_some_iff.1 hx).1
  have hjl := (List.getElem?_eq_some_iff.1 hj).1;have HT := Hd (hT.only HO1.out hbw (by simp)).c2;obtain ⟨bo, oo, rfl, -, hbo, hP⟩ := row_op hOk.row hj;have HPO := Hd (hP.only HO1.out hbo (by simp)).c0;dsimp only at HT;generalize ownO h (i : Int) (j : Int) = v at *;generalize o.wr = ow at *;generalize hmm : t.ops.length = m at *;have hi0 : (0 : Int) ≤ (i : Int) := by omega
  have hj0 : (0 : Int) ≤ (j : Int) := by omega
  have hi2' : (i : Int) < (n2 : Int) := by omega
  have hjm : (j : Int) < (m : Int) := by omega
  clear ho HTH hx hj hT hOk hP hr
  cases ow with
  | true =>
   go_enter Tryz.func34, Tryz.ntmps34;go_wp2_with fail
   generalize ((w.alloc (.cells #[.slice A0 n0 c0, .slice A1 n1 c1, .slice (some ⟨bl, off, none⟩) n2 c2] 25)).alloc (.cells #[.int .i64 (i : Int), .int .i64 (j : Int)] 56)) = w1 at *;have hbr : bl < w1.heap.size := by have := HO1.out.size; omega
   have hbor : bo < w1.heap.size := by have := HO1.out.size; omega
   generalize hgp : w.heap.size + 1 = gp at *;generalize hgg : w.heap.size = g at *;have RD0 := Hd fun wq (hSw : Only [] w1 wq) => aI (Bk3 (hSw.blk HB1.out (by simp))) (aI (Bk2 (hSw.blk HP1.out (by simp))) (aI ((hSw.cell (p := ⟨bl, off + i * 3 + 2, none⟩) hbr (by simp)).trans HT.out) ((hSw.cell (p := ⟨bo, oo + j * 4, none⟩) hbor (by simp)).trans HPO.out)));refine rg1 [] [] w1 ?_;refine trq 0 0 RD0 (h := trq 1 0 RD0 (h := ?_));refine tst (i := 2) fun K hK => ?_;go_simp;refine (HF.out _ (HO1.out.trans (Only.refl [] w1).drew)).mono ?_;rintro e w3 ⟨rfl, O3⟩;refine kOut hK (((Only.refl [] w1).drew).trans O3) (h := ?_);clear hK K;refine tQ 3 (h := tQ 4 (h := tQ 5 (h := trq 6 0 RD0 (h := tQ 7 (h := trq 8 0 RD0 (h := tQ 9 (h := tQ 10 (h := trq 11 0 RD0 (h := tQ 12 (h := trq 13 0 RD0 (h := tQ 14 (h := tQ 15 (h := trq 16 0 RD0 (h := tQ 17 (h := ?_)))))))))))))));refine tdn ?_;have HNW := Hd (HO1.out.trans (((Only.refl [] w1).drew).trans O3));go_wp2
   go_ret
   exact ⟨by rw [HOV.out]; rfl, HNW.out⟩
  | false =>
   go_enter Tryz.func34, Tryz.ntmps34;go_wp2_with fail
   generalize ((w.alloc (.cells #[.slice A0 n0 c0, .slice A1 n1 c1, .slice (some ⟨bl, off, none⟩) n2 c2] 25)).alloc (.cells #[.int .i64 (i : Int), .int .i64 (j : Int)] 56)) = w1 at *;have hbr : bl < w1.heap.size := by have := HO1.out.size; omega
   have hbor : bo < w1.heap.size := by have := HO1.out.size; omega
   generalize hgp : w.heap.size + 1 = gp at *;generalize hgg : w.heap.size = g at *;have RD0 := Hd fun wq (hSw : Only [] w1 wq) => aI (Bk3 (hSw.blk HB1.out (by simp))) (aI (Bk2 (hSw.blk HP1.out (by simp))) (aI ((hSw.cell (p := ⟨bl, off + i * 3 + 2, none⟩) hbr (by simp)).trans HT.out) ((hSw.cell (p := ⟨bo, oo + j * 4, none⟩) hbor (by simp)).trans HPO.out)));refine rg1 [] [] w1 ?_;refine trq 0 0 RD0 (h := trq 1 0 RD0 (h := ?_));refine tst (i := 2) fun K hK => ?_;go_simp;refine (HF.out _ (HO1.out.trans (Only.refl [] w1).drew)).mono ?_;rintro e w3 ⟨rfl, O3⟩;refine kOut hK (((Only.refl [] w1).drew).trans O3) (h := ?_);clear hK K;refine tQ 3 (h := tQ 4 (h := tQ 5 (h := trq 6 0 RD0 (h := tQ 7 (h := trq 8 0 RD0 (h := tQ 9 (h := tQ 10 (h := trq 11 0 RD0 (h := tQ 12 (h := trq 13 0 RD0 (h := tQ 14 (h := tQ 15 (h := trq 16 0 RD0 (h := tQ 17 (h := ?_)))))))))))))));refine tdn ?_;have HNW := Hd (HO1.out.trans (((Only.refl [] w1).drew).trans O3));have HB3 := Hd (O3.blk (HB1.out.drew) (by simp));have HP3 := Hd (O3.blk (HP1.out.drew) (by simp));have HFO := Hd (HOW.out _ HNW.out);clear O3;have lB := HB3.out.lt;have y0 := HB3.out.at_ 0;have y1 := HB3.out.at_ 1;have y2 := HB3.out.at_ 2;have lP := HP3.out.lt;have p0 := HP3.out.at_ 0;have p1 := HP3.out.at_ 1;simp at y0 y1 y2 p0 p1;go_wp2_with fail
   refine (HFO.out).mono ?_;rintro e w4 ⟨rfl, O4⟩;unfold optT optV;have HO4 := Hd (HNW.out.trans O4);clear O4 y0 y1 y2 p0 p1 lB lP HFO;go_upto_region 4 with (fail)
   have HO5 := Hd (HO4.out.alloc (.cells #[.int .i64 (v.getD (0, 0)).1, .int .i64 (v.getD (0, 0)).2] 68));generalize (w4.alloc (.cells #[.int .i64 (v.getD (0, 0)).1, .int .i64 (v.getD (0, 0)).2] 68)) = w5 at *;generalize v.isSome = vb at *;go_wp2
   go_ret
   exact ⟨by rw [HOV.out]; rfl, HO5.out⟩
end Go.Proofs.YthdofaoamljkfaaGreatDoor
