/- Parts. -/
import Derived.Test.YtjfbeeogiejopaaGreatDoorWorldNextCardK23
set_option maxRecDepth 10000
set_option maxHeartbeats 16000000
set_option linter.unusedVariables false
set_option linter.unusedSimpArgs false
namespace Go.Proofs.YtjfbeeogiejopaaGreatDoor
open Go.RowKit
open Go.Lib hiding intOf
attribute [local go_sem ↓] Go.wp_at_zero Go.wp_at_succ
theorem rvalues15_own (A0 A1 A2 : Option Addr) (n0 n1 n2 c0 c1 c2 B : Nat) (h : Hst) (a b : Int) (w : World) (hg : HIn w B A0 A1 A2 n0 n1 n2 h) :
  Calls Tryz.prog 15 #[hval A0 A1 A2 n0 n1 n2 c0 c1 c2, .agg #[.int .i64 a, .int .i64 b]] w fun e w' => ∃ V, (e = .returned V ∧ w'.ownsRow w.heap.size 38 2 V (valsH h a b).length (edgeC (valsH h a b))) ∧ Only [] w w' := by
 obtain ⟨i0, hi, hz0, hz1, hz2⟩ := info_parts info_val;have HRD := Hd (fun w' (O : Only [] w w') => rread15_any A0 A1 A2 n0 n1 n2 c0 c1 c2 B h a b w' (hg.same O));have HL := Hd hg.at_.r2;have HN2 := Hd hg.n2;have HNO := Hd hg.sm.no;have hn2 : n2 ≤ 999 ∨ n2 = 1000 := by have := hg.sm.nl; rw [hg.n2] at this; omega
 have HM := Hd (fun (t : Tx) (o : Op4) (hr : readO h a b = some (t, o)) => (show n2 ≤ 40 by rw [← hg.n2]; exact (may_ops (read_inv hr).1).1));unfold hval at HRD ⊢;clear hg;have HO1 := Hd (((Only.refl [] w).alloc (.cells #[.slice A0 n0 c0, .slice A1 n1 c1, .slice A2 n2 c2] 25)).alloc (.cells #[.int .i64 a, .int .i64 b] 27));have HB1 := Hd ((Blk.made w 25 #[.slice A0 n0 c0, .slice A1 n1 c1, .slice A2 n2 c2]).alloc (.cells #[.int .i64 a, .int .i64 b] 27));have HP1 := Hd (Blk.made (w.alloc (.cells #[.slice A0 n0 c0, .slice A1 n1 c1, .slice A2 n2 c2] 25)) 27 #[.int .i64 a, .int .i64 b]);simp only [World.size_alloc] at HP1;go_enter Tryz.func15, Tryz.ntmps15;go_upto_region 1 with (fail)
 generalize ((w.alloc (.cells #[.slice A0 n0 c0, .slice A1 n1 c1, .slice A2 n2 c2] 25)).alloc (.cells #[.int .i64 a, .int .i64 b] 27)) = w1 at *;generalize hgp : w.heap.size + 1 = gp at *;generalize hgg : w.heap.size = g at *;have hgz : g ≤ w1.heap.size := by have := HO1.out.size; omega
 have lB := HB1.out.lt;have y0 := HB1.out.at_ 0;have y1 := HB1.out.at_ 1;have y2 := HB1.out.at_ 2;have lP := HP1.out.lt;have p0 := HP1.out.at_ 0;have p1 := HP1.out.at_ 1;simp at y0 y1 y2 p0 p1;go_wp2_with fail
 refine (HRD.out _ HO1.out).mono ?_;rintro e w2 ⟨rfl, O2⟩;have HO2 := Hd (HO1.out.trans O2);have HB2 := Hd (O2.blk HB1.out (by simp));have HP2 := Hd (O2.blk HP1.out (by simp));have hgz2 : g ≤ w2.heap.size := by have := HO2.out.size; omega
 clear O2 HO1 HB1 HP1 HRD lB y0 y1 y2 lP p0 p1 hgz
 cases hr : readO h a b with
 | none =>
  have HE := Hd (valsH_none hr);rw [Option.isSome_none];clear hr HM;go_wp2
  go_ret
  exact ⟨_, ⟨rfl, by rw [HE.out, hgg]; exact World.ownsRow_lit w2 (e := 38) (size := 2) #[] 0 hgz2 (by unfold maxLen; omega) rfl⟩, HO2.out.alloc _⟩
 | some x =>
  obtain ⟨t0, o0⟩ := x;have HE := Hd (valsH_some hr);have hn40 := HM.out _ _ hr;obtain ⟨-, i, j, rfl, rfl, hx, hj, -⟩ := read_inv hr;obtain ⟨bl, off, A', cp, rfl, -, hbw, hT, hOk⟩ := HL.out.at_ hx;have hi2 : i < n2 := by rw [← HN2.out]; exact (List.getElem?_eq_some_iff.1 hx).1
  obtain ⟨bo, oo, rfl, -, hbo, hP⟩ := row_op hOk.row hj;have hjm := (List.getElem?_eq_some_iff.1 hj).1;have HTC := Hd (hT.only HO2.out (by omega) (by simp)).c2;have HPO := Hd (hP.only HO2.out (by omega) (by simp)).c1;have hbr : bl < w2.heap.size := by omega
  have hbor : bo < w2.heap.size := by omega
  dsimp only at HTC HE;generalize t0.ops.length = m at *;have hi0 : (0 : Int) ≤ (i : Int) := by omega
  have hj0 : (0 : Int) ≤ (j : Int) := by omega
  have hi2' : (i : Int) < (n2 : Int) := by omega
  have hjm' : (j : Int) < (m : Int) := by omega
  rw [Option.isSome_some];obtain ⟨ow, ok, ov, on⟩ := o0;dsimp only at HE HPO;clear hr hx hj hT hOk hP HM hn2;have O3 : Only [] w2 (w2.alloc (.cells #[.int .i64 0, .int .i64 0] 38)) := (Only.refl [] w2).alloc _;have HV3 := Hd (World.ownsRow_lit (base := g) w2 (e := 38) (size := 2) #[.int .i64 0, .int .i64 0] 1 hgz2 (by unfold maxLen; omega) rfl);have HO3 := Hd (HO2.out.trans O3);have HB3 := Hd (O3.blk HB2.out (by simp));have HP3 := Hd (O3.blk HP2.out (by simp));have HTC3 := Hd ((O3.cell (p := ⟨bl, off + i * 3 + 2, none⟩) hbr (by simp)).trans HTC.out);have HPO3 := Hd ((O3.cell (p := ⟨bo, oo + j * 4 + 1, none⟩) hbor (by simp)).trans HPO.out);have hbr3 : Hid (bl < g) := Hd (by omega);have hbor3 : Hid (bo < g) := Hd (by omega);clear O3;go_upto_region 4 with (fail)
  clear HO2 HB2 HP2 HTC HPO hbr hbor;generalize hgl : w2.heap.size = gl at *;generalize (w2.alloc (.cells #[.int .i64 0, .int .i64 0] 38)) = w3 at *;go_wp2_with fail
  go_loopw [5, 6] (fun V iv wr => ∃ k : Nat, iv = .int .i64 k ∧ k ≤ n2 ∧ Hid (wr.ownsRow g 38 2 V (valsO (i : Int) ok (h.l.take k)).length (edgeC (valsO (i : Int) ok (h.l.take k)))) ∧ Hid (Blk wr g 25 #[.slice A0 n0 c0, .slice A1 n1 c1, .slice (some ⟨bl, off, none⟩) n2 c2]) ∧ Hid (Blk wr gp 27 #[.int .i64 (i : Int), .int .i64 (j : Int)]) ∧ Hid (wr.cell? ⟨bl, off + i * 3 + 2, none⟩ = some (.slice (some ⟨bo, oo, none⟩) m cp)) ∧ Hid (wr.cell? ⟨bo, oo + j * 4 + 1, none⟩ = some (.int .i64 ok)) ∧ Hid (Only [] w wr)) (fun _ iv _ => n2 - (intOf iv).toNat)
  case atStart => exact ⟨0, rfl, by omega, HV3, HB3, HP3, HTC3, HPO3, HO3⟩
  case round =>
   obtain ⟨k, rfl, hk, hV, hB, hP, hTC, hPO, hO⟩ := hrel;clear HV3 HB3 HP3 HTC3 HPO3 HO3;have hsz : g ≤ wr.heap.size := by have := hO.out.size; omega
   have lB := hB.out.lt;have y2 := hB.out.at_ 2;simp at y2
   by_cases hlt : k < n2
   ·obtain ⟨x, hx⟩ : ∃ x, h.l[k]? = some x := ⟨_, List.getElem?_eq_getElem (by rw [HN2.out]; exact hlt)⟩;obtain ⟨blk_, offk, Ak, cpk, ek, -, hbwk, hTk, hOkk⟩ := HL.out.at_ hx;have ek' := Option.some.inj ek;simp only [Addr.mk.injEq, and_true] at ek';obtain ⟨rfl, rfl⟩ := ek';clear ek;have hTr := hTk.only hO.out (by omega) (by simp);have HC0 := Hd hTr.c0;have HC1 := Hd hTr.c1;have HC2 := Hd hTr.c2;dsimp only at HC0 HC1 HC2;have HWT := Hd (valsO_take (a := (i : Int)) (key := ok) hx);have hwl : (valsO (i : Int) ok (h.l.take k)).length ≤ 41 := by
     have := leftL_le (i : Int) ok (h.l.take k);rw [List.length_take] at this;unfold valsO;rw [List.length_cons];omega
    have hxo := HNO.out x (List.mem_of_getElem? hx);have hrow := hOkk.row;have HRV := Hd (fun (w' : World) (O : Only [] w w') => (rraw_any x.s x.f Ak x.ops.length cpk B x.ops.length x.ops ok w' (hrow.only O (by simp)) rfl hxo hxo));rw [List.take_length] at HRV;have HFT : Hid (forT (i : Int) ok k x = if (k : Int) = (i : Int) ∨ x.f = 2 then none else leftW ok x.ops) := Hd rfl;generalize valsO (i : Int) ok (h.l.take k) = pre at *;have h01 : (k : Int) < (n2 : Int) := by omega
    have hk0 : (0 : Int) ≤ (k : Int) := Int.natCast_nonneg _;have hwk : IntKind.i64.wrap ((k : Int) + 1) = (k : Int) + 1 := IntWalk.i64_in _ (by omega);have hbrk : bl < wr.heap.size := by have := hbr3.out; omega
    have hbork : bo < wr.heap.size := by have := hbor3.out; omega
    generalize forT (i : Int) ok k x = fv at *;obtain ⟨s, f, ops⟩ := x;dsimp only at HC0 HC1 HC2 HRV HFT;generalize leftW ok ops = v at *;generalize ops.length = mk at *;clear hx hxo hrow hTr hTk hOkk;go_upto_region 7 with (fail)
    clear lB y2;have RD0 := Hd fun wq (hSw : Only [] wr wq) => aI (Bk3 (hSw.blk hB.out (by simp))) (aI (Bk2 (hSw.blk hP.out (by simp))) (aI ((hSw.cell (p := ⟨bl, off + k * 3, none⟩) hbrk (by simp)).trans HC0.out) (aI ((hSw.cell (p := ⟨bl, off + k * 3 + 1, none⟩) hbrk (by simp)).trans HC1.out) (aI ((hSw.cell (p := ⟨bl, off + k * 3 + 2, none⟩) hbrk (by simp)).trans HC2.out) (aI ((hSw.cell (p := ⟨bl, off + i * 3 + 2, none⟩) hbrk (by simp)).trans hTC.out) ((hSw.cell (p := ⟨bo, oo + j * 4 + 1, none⟩) hbork (by simp)).trans hPO.out))))));refine rg1 [] [] wr ?_;have OW : Only [] wr wr.drew := (Only.refl [] wr).drew;generalize hwz : wr.drew = wz at *;clear hwz;refine tQ 0 (h := trq 1 0 RD0 (h := tQ 2 (h := tQ 3 (h := trq 4 0 RD0 (h := tQ 5 (h := trq 6 0 RD0 (h := tQ 7 (h := tQ 8 (h := tQ 9 (h := trq 10 0 RD0 (h := tQ 11 (h := tQ 12 (h := trq 13 0 RD0 (h := tQ 14 (h := trq 15 0 RD0 (h := tQ 16 (h := tQ 17 (h := trq 18 0 RD0 (h := tQ 19 (h := trq 20 0 RD0 (h := tQ 21 (h := tQ 22 (h := trq 23 0 RD0 (h := ?_))))))))))))))))))))))))
    apply cut_1_0 (fun w gv => (Only [] wr w) ∧ (True) ∧ (Blk w gv 38 #[.int .i64 0, .int .i64 0]) ∧ (wr.heap.size ≤ gv))
    intro HST24_28
    apply cut_1_0 (fun w gv => (Only [] wr w) ∧ (True) ∧ (Blk w gv 38 #[.int .i64 0, .int .i64 0]) ∧ (wr.heap.size ≤ gv))
    intro HST28
    apply cut_0_0 (fun w  => (Only [] wr w) ∧ (True))
    intro HST24
    ·refine timed_forks (l := [24, 28]) (by kernel_rfl) (by simp) (fork_cons ⟨_, rfl, fun K hK => ?_⟩ (fork_cons ⟨_, rfl, fun K hK => ?_⟩ (fork_nil)))
     ·go_simp;refine (HRV.out _ (hO.out.trans OW)).mono ?_;rintro e w3 ⟨rfl, O3⟩;unfold optT optV;have OW1 := OW.trans O3;have OS := O3;refine kOut hK (OW1) (h := ?_);clear hK K;refine tQ 25 (h := tQ 26 (h := tQ 27 (h := ?_)));exact HST24 w3  ⟨OW1, trivial⟩
     ·go_simp;have OW1 := OW.alloc (.cells #[.int .i64 0, .int .i64 0] 38);have OS : Only [] wz (wz.alloc (.cells #[.int .i64 0, .int .i64 0] 38)) := (Only.refl [] wz).alloc (.cells #[.int .i64 0, .int .i64 0] 38);have BV := Blk.made wz 38 #[.int .i64 0, .int .i64 0];have HGV : wr.heap.size ≤ wz.heap.size := OW.size;generalize wz.alloc (.cells #[.int .i64 0, .int .i64 0] 38) = w1 at *;generalize wz.heap.size = gv at *;refine kOut hK (OW1) (h := ?_);clear hK K;exact HST28 w1 gv ⟨OW1, trivial, BV, HGV⟩
    ·intro wz  ⟨OW, HTT⟩;refine tst (i := 28) fun K hK => ?_;go_simp;have OW1 := OW.alloc (.cells #[.int .i64 0, .int .i64 0] 38);have OS : Only [] wz (wz.alloc (.cells #[.int .i64 0, .int .i64 0] 38)) := (Only.refl [] wz).alloc (.cells #[.int .i64 0, .int .i64 0] 38);have BV := Blk.made wz 38 #[.int .i64 0, .int .i64 0];have HGV : wr.heap.size ≤ wz.heap.size := OW.size;generalize wz.alloc (.cells #[.int .i64 0, .int .i64 0] 38) = w1 at *;generalize wz.heap.size = gv at *;refine kOut hK (OW1) (h := ?_);clear hK K;exact HST24_28 w1 gv ⟨OW1, trivial, BV, HGV⟩
    ·intro wz gv ⟨OW, HTT, BV, HGV⟩;refine tst (i := 24) fun K hK => ?_;go_simp;refine (HRV.out _ (hO.out.trans OW)).mono ?_;rintro e w3 ⟨rfl, O3⟩;unfold optT optV;have OW1 := OW.trans O3;have OS := O3;have BV1 := OS.blk BV (by simp);refine kOut hK (OW1) (h := ?_);clear hK K;refine tQ 25 (h := tQ 26 (h := tQ 27 (h := ?_)));exact HST24_28 w3 gv ⟨OW1, trivial, BV1, HGV⟩
    -- behind all of the crowd
    intro wz gv ⟨OW, HTT, BV, HGV⟩;refine tst (i := 29) fun K hK => ?_;refine wp_store_blk 38 (.tmp 7) (.tmp 49) rfl gv 38 _ #[.int .i64 (v.getD (0, 0)).1, .int .i64 (v.getD (0, 0)).2] rfl rfl BV rfl (by kernel_rfl) (by kernel_rfl) ?_;intro w9 b9 o9;have HV9b := Hd b9;have OW9 := OW.step o9 (fun i hi hl => by simp at hi; omega);clear o9 b9;refine kOut hK (OW9) (h := ?_);clear hK K;refine tQ 30 (h := ?_);refine tdn ?_;have HW9 := Hd OW9;have HO7 := Hd (hO.out.trans HW9.out);have HB7 := Hd (HW9.out.blk hB.out (by simp));have HP7 := Hd (HW9.out.blk hP.out (by simp));have HV7 := Hd (own_only hV.out HW9.out (by simp));have HQ1 := Hd ((HW9.out.cell (p := ⟨bl, off + k * 3 + 1, none⟩) hbrk (by simp)).trans HC1.out);have HTC7 := Hd ((HW9.out.cell (p := ⟨bl, off + i * 3 + 2, none⟩) hbrk (by simp)).trans hTC.out);have HPO7 := Hd ((HW9.out.cell (p := ⟨bo, oo + j * 4 + 1, none⟩) hbork (by simp)).trans hPO.out);have hbr7 : bl < w9.heap.size := by have := HW9.out.size; omega
    have hbor7 : bo < w9.heap.size := by have := HW9.out.size; omega
    clear hB hP hV hO HW9 HC0 HC1 HC2 HRV hbrk hbork hTC hPO;generalize hf1 : (v.getD (0, 0)).1 = f1 at *;generalize hf2 : (v.getD (0, 0)).2 = f2 at *;have HFIT : Hid (fv = if (!decide (k = i) && (!decide (f = 2) && v.isSome)) = true then some (f1, f2) else none) := Hd (by
     rw [HFT.out]
     by_cases q1 : k = i
     ·simp [q1]
     ·by_cases q2 : f = 2
      ·simp [q2]
      ·rw [if_neg (by omega)]
       cases v with
       | none => simp
       | some u => subst hf1 hf2; simp [q1, q2])
    generalize hfs : v.isSome = fs at *;clear hf1 hf2 hfs HFT;obtain ⟨ft, hft⟩ : ∃ ft, ft = (!decide (k = i) && (!decide (f = 2) && fs)) := ⟨_, rfl⟩;rw [← hft] at HFIT;have HF2 := Hd hft;clear hft;have hsz7 : g ≤ w9.heap.size := by have := HO7.out.size; omega
    go_upto_region 8 with (fail)
    go_cut [66] (fun z wx => z = .bool ft ∧ wx = w9)
    case first =>
     have lB := HB7.out.lt;have y2 := HB7.out.at_ 2;have lP := HP7.out.lt;have p0 := HP7.out.at_ 0;simp at y2 p0;have c1 := HQ1.out
     by_cases e1 : k = i
     ·obtain rfl : ft = false := by rw [HF2.out]; simp [e1]
      subst e1;go_wp2
      go_meet
      exact ⟨rfl, rfl⟩
     ·have e1' : ((k : Int) != (i : Int)) = true := by simp; omega
      have e1'' : (k != i) = true := by simpa using e1
      by_cases e2 : f = 2
      ·obtain rfl : ft = false := by rw [HF2.out]; simp [e2]
       have e2' : (f != 2) = false := by simp [e2]
       clear e1 e2;go_wp2
       go_meet
       exact ⟨rfl, rfl⟩
      ·have e2' : (f != 2) = true := by simp [e2]
       obtain rfl : ft = fs := by rw [HF2.out]; simp [e1, e2]
       clear e1 e2
       cases ft with
       | false =>
        go_wp2
        go_meet
        exact ⟨rfl, rfl⟩
       | true =>
        go_wp2
        go_meet
        exact ⟨rfl, rfl⟩
    case rest =>
     obtain ⟨rfl, rfl⟩ := hcut
     cases ft with
     | false =>
      have HE2 : Hid (valsO (i : Int) ok (h.l.take (k + 1)) = pre) := Hd (by rw [HWT.out, HFIT.out]; simp);clear HWT;go_wp2
      go_roundw
      case rel => exact ⟨k + 1, by go_num, by omega, Hd (by rw [HE2.out]; exact HV7.out), HB7, HP7, HTC7, HPO7, HO7⟩
      case measure => simp [intOf]; omega
     | true =>
      have HE2 : Hid (valsO (i : Int) ok (h.l.take (k + 1)) = pre ++ [(f1, f2)]) := Hd (by rw [HWT.out, HFIT.out]; rfl);clear HWT HFIT HF2;have lU := HV9b.out.lt;have u0 := HV9b.out.at_ 0;have u1 := HV9b.out.at_ 1;simp at u0 u1;go_wp2_with (at_builtin; refine wpList_append_row _ rfl (.tmp 67) (.tmp 69) _ rfl g 38 i0 _ 2 16 Tryz.underlying33 hi hz0 hz1 hz2 rfl (by omega) _ _ _ rfl (own_only HV7.out ((Only.refl [] _).alloc _) (by simp)) (wc.heap.size + 1) (some ⟨wc.heap.size, 0, none⟩) 1 1 [.int .i64 f1, .int .i64 f2] rfl rfl (row_lit wc 38 #[.int .i64 f1, .int .i64 f2]) (by intro u hu; simp at hu; rcases hu with rfl | rfl <;> rfl) (by unfold maxLen; omega) (by omega) (by simp; omega) ?_; intro v8 w8 hown8 hgrow hat)
      have REL : w8.ownsRow g 38 2 v8 (valsO (i : Int) ok (h.l.take (k + 1))).length (edgeC (valsO (i : Int) ok (h.l.take (k + 1)))) := by
       rw [HE2.out, edgeC_append]
       simpa [edgeC] using hown8
      have HV8 := Hd REL;have HVa := own_only HV7.out ((Only.refl [] wc).alloc (.cells #[.int .i64 f1, .int .i64 f2] 38)) (by simp);have HB8 := Hd ((only_grown hgrow).blk (HB7.out.alloc (.cells #[.int .i64 f1, .int .i64 f2] 38)) (own_apart HVa (HB7.out.alloc (.cells #[.int .i64 f1, .int .i64 f2] 38)) (by decide)));have HP8 := Hd ((only_grown hgrow).blk (HP7.out.alloc (.cells #[.int .i64 f1, .int .i64 f2] 38)) (own_apart HVa (HP7.out.alloc (.cells #[.int .i64 f1, .int .i64 f2] 38)) (by decide)));have O8 : Only u5.ownBlock.toList wc w8 := ((Only.refl _ wc).alloc (.cells #[.int .i64 f1, .int .i64 f2] 38)).step (only_grown hgrow) (fun x hx _ => hx);have HTC8 := Hd ((O8.cell (p := ⟨bl, off + i * 3 + 2, none⟩) hbr7 (fun hm => by have := (HV7.out.lt bl (by simpa using hm)).1; have := hbr3.out; omega)).trans HTC7.out);have HPO8 := Hd ((O8.cell (p := ⟨bo, oo + j * 4 + 1, none⟩) hbor7 (fun hm => by have := (HV7.out.lt bo (by simpa using hm)).1; have := hbor3.out; omega)).trans HPO7.out);have HO8 := Hd ((HO7.out.alloc (.cells #[.int .i64 f1, .int .i64 f2] 38)).step (only_grown hgrow) (fun i hi hl => by have := own_new HVa (S := []) i hi; rw [hgg] at hl; exact this hl));clear REL hown8 hgrow hat HVa O8 lU u0 u1;go_wp2
      go_roundw
      case rel => first | exact ⟨k + 1, by go_num, by omega, HV8, HB8, HP8, HTC8, HPO8, HO8⟩ | exact ⟨_, ⟨k + 1, by go_num, by omega, HV8, HB8, HP8, HTC8, HPO8, HO8⟩, rfl⟩
      case measure => simp [intOf]; omega
   ·have hkn : k = n2 := by omega
    subst hkn;have hd2 : decide ((k : Int) < (k : Int)) = false := by simp
    have hVV := hV.out;rw [List.take_of_length_le (by rw [HN2.out]; exact Nat.le_refl _)] at hVV;have hll : (valsO (i : Int) ok h.l).length ≤ 1000 := by
     have := leftL_le (i : Int) ok h.l;rw [HN2.out] at this;unfold valsO;rw [List.length_cons];omega
    obtain ⟨A8, c8, e8, -, -, -, hrow8⟩ := own_row hVV;subst e8;have HS := Hd (rvsorted_any A8 _ c8 _ _ wr rfl hll hrow8);generalize (valsO (i : Int) ok h.l).length = q8 at *;clear hV hVV hrow8 hll;go_wp2_with fail
    refine (HS.out).mono ?_;rintro e w9 ⟨O9, V9, rfl, hr9⟩;obtain ⟨A9, c9, rfl, -, -, -, -⟩ := own_row hr9;have HR9 := Hd (own_low hr9 (show g ≤ wr.heap.size by have := hO.out.size; omega));have HO9 := Hd (hO.out.trans O9);clear O9 hr9 HS;go_wp2
    go_ret
    exact ⟨_, ⟨rfl, by rw [HE.out, hgg]; exact HR9.out⟩, HO9.out⟩
theorem wroteN_take {l : List Tx} {key n : Int} {k : Nat} {t : Tx} (h : l[k]? = some t) : wroteN (l.take (k + 1)) key n = (wroteN (l.take k) key n || t.ops.any (hitN key n)) := by
 unfold wroteN;rw [List.take_add_one, h, List.any_append];simp
theorem anyN_take {l : List Op4} {key n : Int} {k : Nat} {o : Op4} (h : l[k]? = some o) : (l.take (k + 1)).any (hitN key n) = ((l.take k).any (hitN key n) || hitN key n o) := by
 rw [List.take_add_one, h, List.any_append];simp
theorem wroteN_hit {l : List Tx} {key n : Int} {k j : Nat} {t : Tx} {o : Op4} (h : l[k]? = some t) (ho : t.ops[j]? = some o) (hh : hitN key n o = true) : wroteN l key n = true := by
 unfold wroteN;exact List.any_eq_true.2 ⟨t, List.mem_of_getElem? h, List.any_eq_true.2 ⟨o, List.mem_of_getElem? ho, hh⟩⟩
theorem rwritten15_any (A0 A1 A2 : Option Addr) (n0 n1 n2 c0 c1 c2 B : Nat) (h : Hst) (key n : Int) (w : World) (hg : HIn w B A0 A1 A2 n0 n1 n2 h) :
  Calls Tryz.prog 48 #[hval A0 A1 A2 n0 n1 n2 c0 c1 c2, .int .i64 key, .int .i64 n] w fun e w' => e = .returned (.bool (wroteN h.l key n)) ∧ Only [] w w' := by
 have HL := Hd hg.at_.r2;have HN2 := Hd hg.n2;have HNO := Hd hg.sm.no;have hn2 : n2 ≤ 1000 := by have := hg.sm.nl; rw [hg.n2] at this; exact this
 unfold hval;clear hg;have HO1 := Hd ((Only.refl [] w).alloc (.cells #[.slice A0 n0 c0, .slice A1 n1 c1, .slice A2 n2 c2] 25));have HB1 := Hd (Blk.made w 25 #[.slice A0 n0 c0, .slice A1 n1 c1, .slice A2 n2 c2]);go_enter Tryz.func48, Tryz.ntmps48;go_wp2_with fail
 go_loopw [7] (fun iv wr => ∃ i : Nat, iv = .int .i64 (i : Int) ∧ i ≤ n2 ∧ Hid (wroteN (h.l.take i) key n = false) ∧ Hid (Blk wr w.heap.size 25 #[.slice A0 n0 c0, .slice A1 n1 c1, .slice A2 n2 c2]) ∧ Hid (Only [] w wr)) (fun iv _ => n2 - (intOf iv).toNat)
 case atStart => exact ⟨0, rfl, by omega, Hd rfl, HB1, HO1⟩
 case round =>
  obtain ⟨i, rfl, hi, hW, hB, hO⟩ := hrel;obtain ⟨wo, hwo⟩ : ∃ wo : World, wo = wr := ⟨_, rfl⟩;subst hwo;clear HB1 HO1
  by_cases hlt : i < n2
  ·obtain ⟨x, hx⟩ : ∃ x, h.l[i]? = some x := ⟨_, List.getElem?_eq_getElem (by rw [HN2.out]; exact hlt)⟩;obtain ⟨bl, off, A', cp, rfl, -, hbw, hT, hOk⟩ := HL.out.at_ hx;have HT2 := Hd (hT.only hO.out hbw (by simp)).c2;have HROW := Hd hOk.row;have HWT := Hd (wroteN_take (key := key) (n := n) hx);have HHIT := Hd (fun (j : Nat) (o : Op4) (ho : x.ops[j]? = some o) (hh : hitN key n o = true) => wroteN_hit hx ho hh);have hm := HNO.out x (List.mem_of_getElem? hx);have h01 : (i : Int) < (n2 : Int) := by omega
   have hi0 : (0 : Int) ≤ (i : Int) := Int.natCast_nonneg _;have hwi : IntKind.i64.wrap ((i : Int) + 1) = (i : Int) + 1 := IntWalk.i64_in _ (by omega);have hbr : bl < wo.heap.size := by have := hO.out.size; omega
   dsimp only at HT2;generalize hm0 : x.ops.length = m at *;have HM0 := Hd hm0;clear hT hOk hx hm0;have lB := hB.out.lt;have y2 := hB.out.at_ 2;simp at y2;go_wp2_with fail
   go_loopw [8] (fun jv wr => ∃ j : Nat, jv = .int .i64 (j : Int) ∧ j ≤ m ∧ Hid ((x.ops.take j).any (hitN key n) = false) ∧ Hid (Only [] wo wr)) (fun jv _ => m - (intOf jv).toNat)
   case atStart => exact ⟨0, rfl, by omega, Hd rfl, Hd (Only.refl [] wo)⟩
   case round =>
    obtain ⟨j, rfl, hj, hA, hOi⟩ := hrel;clear lB y2;have hB2 := hOi.out.blk hB.out (by simp);have lB := hB2.lt;have y2 := hB2.at_ 2;simp at y2;have t2 := (hOi.out.cell (p := ⟨bl, off + i * 3 + 2, none⟩) hbr (by simp)).trans HT2.out;have hbr2 : bl < wr.heap.size := by have := hOi.out.size; omega
    clear hB2
    by_cases hlt2 : j < m
    ·obtain ⟨o, ho⟩ : ∃ o, x.ops[j]? = some o := ⟨_, List.getElem?_eq_getElem (by rw [HM0.out]; exact hlt2)⟩;obtain ⟨bo, oo, rfl, -, hbo, hP⟩ := row_op HROW.out ho;have hP2 := hP.only (hO.out.trans hOi.out) hbo (by simp);have p0 := hP2.c0;have p1 := hP2.c1;have p2 := hP2.c2;have p3 := hP2.c3;have HAT := Hd (anyN_take (key := key) (n := n) ho);have HH := Hd (fun hh => HHIT.out j o ho hh);have h02 : (j : Int) < (m : Int) := by omega
     have hj0 : (0 : Int) ≤ (j : Int) := Int.natCast_nonneg _;have hwj : IntKind.i64.wrap ((j : Int) + 1) = (j : Int) + 1 := IntWalk.i64_in _ (by omega);have hbor : bo < wr.heap.size := by have := (hO.out.trans hOi.out).size; omega
     obtain ⟨ow, ok, ov, on⟩ := o;dsimp only at p0 p1 p2 p3;have HN : Hid (hitN key n ⟨ow, ok, ov, on⟩ = (ow && (decide (ok = key) && decide (on = n)))) := Hd rfl;generalize hitN key n ⟨ow, ok, ov, on⟩ = hb at *;clear hP hP2 ho;have MISS : hb = false → Hid ((x.ops.take (j + 1)).any (hitN key n) = false) := fun e => Hd (by rw [HAT.out, hA.out, e]; rfl)
     cases ow with
     | false =>
      have HMS := MISS (by rw [HN.out]; rfl);clear MISS;go_wp2
      go_roundw
      case rel => exact ⟨j + 1, by go_num, by omega, HMS, Hd (hOi.out.alloc _)⟩
      case measure => simp [intOf]; omega
     | true =>
      by_cases q1 : ok = key
      ·have d1 : (ok == key) = true := by simpa using q1
       by_cases q2 : on = n
       ·have d2 : (on == n) = true := by simpa using q2
        have HW1 := Hd (HH.out (by rw [HN.out]; simp [q1, q2]));clear MISS q1 q2;go_wp2
        go_ret
        exact ⟨by rw [HW1.out]; rfl, (hO.out.trans hOi.out).alloc _⟩
       ·have d2 : (on == n) = false := by simpa using q2
        have HMS := MISS (by rw [HN.out]; simp [q2]);clear MISS q1 q2;go_wp2
        go_roundw
        case rel => exact ⟨j + 1, by go_num, by omega, HMS, Hd (hOi.out.alloc _)⟩
        case measure => simp [intOf]; omega
      ·have d1 : (ok == key) = false := by simpa using q1
       have HMS := MISS (by rw [HN.out]; simp [q1]);clear MISS q1;go_wp2
       go_roundw
       case rel => exact ⟨j + 1, by go_num, by omega, HMS, Hd (hOi.out.alloc _)⟩
       case measure => simp [intOf]; omega
    ·have hjm : j = m := by omega
     subst hjm;have hd2 : decide ((j : Int) < (j : Int)) = false := by simp
     have HW2 : Hid (wroteN (h.l.take (i + 1)) key n = false) := Hd (by
      have := hA.out;rw [List.take_of_length_le (by rw [HM0.out]; exact Nat.le_refl _)] at this;rw [HWT.out, hW.out, this]
      rfl)
     go_wp2
     go_roundw
     case rel => exact ⟨i + 1, by go_num, by omega, HW2, Hd (hOi.out.blk hB.out (by simp)), Hd (hO.out.trans hOi.out)⟩
     case measure => simp [intOf]; omega
  ·have hin : i = n2 := by omega
   subst hin;have hd2 : decide ((i : Int) < (i : Int)) = false := by simp
   have HWE : Hid (wroteN h.l key n = false) := Hd (by
    have := hW.out
    rwa [List.take_of_length_le (by rw [HN2.out]; exact Nat.le_refl _)] at this)
   have lB := hB.out.lt;have y2 := hB.out.at_ 2;simp at y2;go_wp2
   go_ret
   exact ⟨by rw [HWE.out]; rfl, hO.out⟩
theorem rfresh15_any (A0 A1 A2 : Option Addr) (n0 n1 n2 c0 c1 c2 B : Nat) (h : Hst) (key : Int) (w : World) (hg : HIn w B A0 A1 A2 n0 n1 n2 h) (hX : mayH h = true → h.l.length ≤ 40 ∧ ∀ t ∈ h.l, t.ops.length ≤ 20) :
  Calls Tryz.prog 18 #[hval A0 A1 A2 n0 n1 n2 c0 c1 c2, .int .i64 key] w fun e w' => e = .returned (agV (freshV h key)) ∧ Only [] w w' := by
 have HF := Hd (fun w' (O : Only [] w w') => refmay_any A0 A1 A2 n0 n1 n2 c0 c1 c2 B h w' (hg.same O));have HKF := Hd (fun (q : Nat) w' (O : Only [] w w') => rwritten15_any A0 A1 A2 n0 n1 n2 c0 c1 c2 B h key (q : Int) w' (hg.same O));have HN1 := Hd hg.n1;unfold hval at HF HKF ⊢;clear hg;have HO1 := Hd (((Only.refl [] w).alloc (.cells #[.slice A0 n0 c0, .slice A1 n1 c1, .slice A2 n2 c2] 25)).alloc (.cells #[.int .i64 0, .int .i64 0] 38));have HB1 := Hd ((Blk.made w 25 #[.slice A0 n0 c0, .slice A1 n1 c1, .slice A2 n2 c2]).alloc (.cells #[.int .i64 0, .int .i64 0] 38));have HR1 := Hd (Blk.made (w.alloc (.cells #[.slice A0 n0 c0, .slice A1 n1 c1, .slice A2 n2 c2] 25)) 38 #[.int .i64 0, .int .i64 0]);simp only [World.size_alloc] at HR1
 by_cases hc : mayH h = true ∧ 0 ≤ key ∧ key < (h.ks.length : Int)
 ·have HE : Hid (freshV h key = (1, (freshN h.l key : Int))) := Hd (by unfold freshV; rw [if_pos hc]);have HBD := Hd (fun (q : Nat) (hq : ∀ m : Nat, m < q → wroteN h.l key (m : Int) = true) => fresh_bound (hX hc.1).1 (hX hc.1).2 hq);have HIS := Hd (fun (q : Nat) (hq : ∀ m : Nat, m < q → wroteN h.l key (m : Int) = true) (hb : q ≤ 800) (hw : wroteN h.l key (q : Int) = false) => fresh_is (by omega) hq hw);obtain ⟨hm, h1, h2⟩ := hc;rw [HN1.out] at h2;rw [mayH_err2 hm] at HF;have d1 : decide (key < 0) = false := decide_eq_false (by omega);have d2 : decide ((n1 : Int) ≤ key) = false := decide_eq_false (by omega);clear hm h1 h2 hX;go_enter Tryz.func18, Tryz.ntmps18;go_upto_region 1 with (fail)
  generalize ((w.alloc (.cells #[.slice A0 n0 c0, .slice A1 n1 c1, .slice A2 n2 c2] 25)).alloc (.cells #[.int .i64 0, .int .i64 0] 38)) = w1 at *;generalize hgr : w.heap.size + 1 = gr at *;generalize hgg : w.heap.size = g at *;have lB := HB1.out.lt;have y0 := HB1.out.at_ 0;have y1 := HB1.out.at_ 1;have y2 := HB1.out.at_ 2;simp at y0 y1 y2;go_wp2_with fail
  refine (HF.out _ HO1.out).mono ?_;rintro e w2 ⟨rfl, O2⟩;have HO2 := Hd (HO1.out.trans O2);have HB2 := Hd (O2.blk HB1.out (by simp));have HR2 := Hd (O2.blk HR1.out (by simp));clear O2 HO1 HB1 HR1 HF lB y0 y1 y2;have lB := HB2.out.lt;have y1 := HB2.out.at_ 1;simp at y1;go_wp2_with fail
  go_loopw [5] (fun v wr => ∃ q : Nat, v = .int .i64 (q : Int) ∧ q ≤ 800 ∧ Hid (∀ m : Nat, m < q → wroteN h.l key (m : Int) = true) ∧ Hid (Blk wr g 25 #[.slice A0 n0 c0, .slice A1 n1 c1, .slice A2 n2 c2]) ∧ Hid (Blk wr gr 38 #[.int .i64 0, .int .i64 0]) ∧ Hid (Only [] w wr)) (fun v _ => 801 - (intOf v).toNat)
  case atStart => exact ⟨0, rfl, by omega, Hd (fun m hm => by omega), HB2, HR2, HO2⟩
  case round =>
   obtain ⟨q, rfl, hq, hall, hB, hR, hO⟩ := hrel;clear HB2 HR2 HO2 lB y1;have HCALL := Hd (HKF.out q wr hO.out);have hwq : IntKind.i64.wrap ((q : Int) + 1) = (q : Int) + 1 := IntWalk.i64_in _ (by omega);obtain ⟨bb, hbb⟩ : ∃ bb, bb = wroteN h.l key (q : Int) := ⟨_, rfl⟩;rw [← hbb] at HCALL;have HBB := Hd hbb;clear hbb;have lB := hB.out.lt;have y0 := hB.out.at_ 0;have y1 := hB.out.at_ 1;have y2 := hB.out.at_ 2;simp at y0 y1 y2;go_wp2_with fail
   refine (HCALL.out).mono ?_;rintro e w3 ⟨rfl, O3⟩;have HB3 := Hd (O3.blk hB.out (by simp));have HR3 := Hd (O3.blk hR.out (by simp));have HO3 := Hd (hO.out.trans O3);clear O3 hB hR hO lB y0 y1 y2 HCALL
   cases bb with
   | true =>
    have HALL : Hid (∀ m : Nat, m < q + 1 → wroteN h.l key (m : Int) = true) := Hd (fun m hm => by
     by_cases e : m = q
     ·subst e; exact HBB.out.symm
     ·exact hall.out m (by omega))
    have hq8 := HBD.out (q + 1) HALL.out;go_wp2
    go_roundw
    case rel => exact ⟨q + 1, by go_num, hq8, HALL, HB3, HR3, HO3⟩
    case measure => simp [intOf]; omega
   | false =>
    have HFE := Hd (HIS.out q hall.out hq HBB.out.symm);go_wp2_with (refine wpList_store_blk rfl 38 (.tmp 4) (.tmp 28) rfl gr 38 _ #[.int .i64 1, .int .i64 (q : Int)] rfl rfl HR3.out rfl (by kernel_rfl) (by kernel_rfl) ?_; intro w9 b9 o9; have HB9 := Hd b9; have HN9 := Hd o9; clear b9 o9)
    refine bodyPost_ret (results_row1 Tryz.results18 _ _ gr 38 #[.int .i64 1, .int .i64 (q : Int)] _ rfl HB9.out Tryz.underlying38 rfl (by kernel_rfl)) rfl ?_;exact ⟨by rw [HE.out, HFE.out]; rfl, HO3.out.step HN9.out (fun i hi hl => by simp at hi; omega)⟩
 ·have HE : Hid (freshV h key = (0, 0)) := Hd (by unfold freshV; rw [if_neg hc]);rw [HN1.out] at hc;obtain ⟨ee, hee⟩ : ∃ ee, ee = errH h := ⟨_, rfl⟩;rw [← hee] at HF;have hc2 : ee ≠ 0 ∨ ee = 0 ∧ (key < 0 ∨ (n1 : Int) ≤ key) := by
   cases hm : mayH h with
   | false => exact .inl (by rw [hee, mayH_errn2 hm]; decide)
   | true =>
    refine .inr ⟨by rw [hee, mayH_err2 hm], ?_⟩
    by_cases h1 : 0 ≤ key
    ·by_cases h2 : key < (n1 : Int)
     ·exact absurd ⟨hm, h1, h2⟩ hc
     ·exact .inr (by omega)
    ·exact .inl (by omega)
  clear hc hee HKF hX;go_enter Tryz.func18, Tryz.ntmps18;go_upto_region 1 with (fail)
  generalize ((w.alloc (.cells #[.slice A0 n0 c0, .slice A1 n1 c1, .slice A2 n2 c2] 25)).alloc (.cells #[.int .i64 0, .int .i64 0] 38)) = w1 at *;generalize hgr : w.heap.size + 1 = gr at *;generalize hgg : w.heap.size = g at *;have lB := HB1.out.lt;have y0 := HB1.out.at_ 0;have y1 := HB1.out.at_ 1;have y2 := HB1.out.at_ 2;simp at y0 y1 y2;go_wp2_with fail
  refine (HF.out _ HO1.out).mono ?_;rintro e w2 ⟨rfl, O2⟩;have HO2 := Hd (HO1.out.trans O2);have HB2 := Hd (O2.blk HB1.out (by simp));have HR2 := Hd (O2.blk HR1.out (by simp));clear O2 HO1 HB1 HR1 HF lB y0 y1 y2;have lB := HB2.out.lt;have y1 := HB2.out.at_ 1;simp at y1;rcases hc2 with q0 | ⟨rfl, hc2⟩
  ·have d0 : (ee != 0) = true := by simpa using q0
   clear q0;go_wp2_with (refine wpList_store_blk rfl 38 (.tmp 4) (.tmp 20) rfl gr 38 _ #[.int .i64 0, .int .i64 0] rfl rfl HR2.out rfl (by kernel_rfl) (by kernel_rfl) ?_; intro w9 b9 o9; have HB9 := Hd b9; have HN9 := Hd o9; clear b9 o9)
   refine bodyPost_ret (results_row1 Tryz.results18 _ _ gr 38 #[.int .i64 0, .int .i64 0] _ rfl HB9.out Tryz.underlying38 rfl (by kernel_rfl)) rfl ?_;exact ⟨by rw [HE.out]; rfl, HO2.out.step HN9.out (fun i hi hl => by simp at hi; omega)⟩
  ·by_cases q1 : key < 0
   ·have d1 : decide (key < 0) = true := decide_eq_true q1;clear hc2 q1;go_wp2_with (refine wpList_store_blk rfl 38 (.tmp 4) (.tmp 20) rfl gr 38 _ #[.int .i64 0, .int .i64 0] rfl rfl HR2.out rfl (by kernel_rfl) (by kernel_rfl) ?_; intro w9 b9 o9; have HB9 := Hd b9; have HN9 := Hd o9; clear b9 o9)
    refine bodyPost_ret (results_row1 Tryz.results18 _ _ gr 38 #[.int .i64 0, .int .i64 0] _ rfl HB9.out Tryz.underlying38 rfl (by kernel_rfl)) rfl ?_;exact ⟨by rw [HE.out]; rfl, HO2.out.step HN9.out (fun i hi hl => by simp at hi; omega)⟩
   ·have d1 : decide (key < 0) = false := decide_eq_false q1;have d2 : decide ((n1 : Int) ≤ key) = true := decide_eq_true (hc2.resolve_left q1);clear hc2 q1;go_wp2_with (refine wpList_store_blk rfl 38 (.tmp 4) (.tmp 20) rfl gr 38 _ #[.int .i64 0, .int .i64 0] rfl rfl HR2.out rfl (by kernel_rfl) (by kernel_rfl) ?_; intro w9 b9 o9; have HB9 := Hd b9; have HN9 := Hd o9; clear b9 o9)
    refine bodyPost_ret (results_row1 Tryz.results18 _ _ gr 38 #[.int .i64 0, .int .i64 0] _ rfl HB9.out Tryz.underlying38 rfl (by kernel_rfl)) rfl ?_;exact ⟨by rw [HE.out]; rfl, HO2.out.step HN9.out (fun i hi hl => by simp at hi; omega)⟩
theorem opAt_inv {h : Hst} {a b : Int} {t : Tx} {o : Op4} (ho : opAtH h a b = some (t, o)) : ∃ i j : Nat, a = i ∧ b = j ∧ h.l[i]? = some t ∧ t.ops[j]? = some o := by
 unfold opAtH txAtH at ho
 split at ho
 ·rename_i hc
  cases hx : h.l[a.toNat]? with
  | none => rw [hx] at ho; cases ho
  | some x =>
   rw [hx] at ho;simp only [Option.bind_some] at ho
   split at ho
   ·rename_i hb
    cases hy : x.ops[b.toNat]? with
    | none => rw [hy] at ho; cases ho
    | some y =>
     rw [hy] at ho;simp at ho;obtain ⟨rfl, rfl⟩ := ho;exact ⟨a.toNat, b.toNat, by omega, by omega, hx, hy⟩
   ·cases ho
 ·cases ho
theorem rown_any (A0 A1 A2 : Option Addr) (n0 n1 n2 c0 c1 c2 B : Nat) (h : Hst) (a b : Int) (w : World) (hg : HIn w B A0 A1 A2 n0 n1 n2 h) :
  Calls Tryz.prog 61 #[hval A0 A1 A2 n0 n1 n2 c0 c1 c2, .agg #[.int .i64 a, .int .i64 b]] w fun e w' => e = .returned (optT (ownO h a b)) ∧ Only [] w w' := by
 have HTH := Hd (fun w' (O : Only [] w w') => rthere_any A0 A1 A2 n0 n1 n2 c0 c1 c2 B h a b w' (hg.same O));have HL := Hd hg.at_.r2;have HN2 := Hd hg.n2;have HNO := Hd hg.sm.no;unfold hval at HTH ⊢;clear hg;have HO1 := Hd ((((Only.refl [] w).alloc (.cells #[.slice A0 n0 c0, .slice A1 n1 c1, .slice A2 n2 c2] 25)).alloc (.cells #[.int .i64 a, .int .i64 b] 27)).alloc (.cells #[.int .i64 0, .int .i64 0] 38));have HB1 := Hd (((Blk.made w 25 #[.slice A0 n0 c0, .slice A1 n1 c1, .slice A2 n2 c2]).alloc (.cells #[.int .i64 a, .int .i64 b] 27)).alloc (.cells #[.int .i64 0, .int .i64 0] 38));have HP1 := Hd ((Blk.made (w.alloc (.cells #[.slice A0 n0 c0, .slice A1 n1 c1, .slice A2 n2 c2] 25)) 27 #[.int .i64 a, .int .i64 b]).alloc (.cells #[.int .i64 0, .int .i64 0] 38));have HR1 := Hd (Blk.made ((w.alloc (.cells #[.slice A0 n0 c0, .slice A1 n1 c1, .slice A2 n2 c2] 25)).alloc (.cells #[.int .i64 a, .int .i64 b] 27)) 38 #[.int .i64 0, .int .i64 0]);simp only [World.size_alloc] at HP1 HR1
 cases ho : opAtH h a b with
 | none =>
  rw [own_none ho];have HF := Hd (HTH.out _ HO1.out);rw [there_none ho] at HF;clear ho HTH;go_enter Tryz.func61, Tryz.ntmps61;go_wp2_with fail
  generalize (((w.alloc (.cells #[.slice A0 n0 c0, .slice A1 n1 c1, .slice A2 n2 c2] 25)).alloc (.cells #[.int .i64 a, .int .i64 b] 27)).alloc (.cells #[.int .i64 0, .int .i64 0] 38)) = w1 at *;generalize hgr : w.heap.size + 1 + 1 = gr at *;generalize hgp : w.heap.size + 1 = gp at *;generalize hgg : w.heap.size = g at *;refine (HF.out).mono ?_;rintro e w2 ⟨rfl, O2⟩;have HO2 := Hd (HO1.out.trans O2);have HR2 := Hd (O2.blk HR1.out (by simp));clear O2 HF;go_wp2_with (refine wpList_store_blk rfl 38 (.tmp 4) (.tmp 10) rfl gr 38 _ #[.int .i64 0, .int .i64 0] rfl rfl HR2.out rfl (by kernel_rfl) (by kernel_rfl) ?_; intro w9 b9 o9; have HB9 := Hd b9; have HN9 := Hd o9; clear b9 o9)
  refine bodyPost_ret (results_row2 Tryz.results61 _ _ gr 38 #[.int .i64 0, .int .i64 0] _ rfl HB9.out Tryz.underlying38 rfl (by kernel_rfl)) rfl ?_;exact ⟨rfl, HO2.out.step HN9.out (fun i hi hl => by simp at hi; omega)⟩
 | some x =>
  obtain ⟨t, o⟩ := x;rw [own_some ho];have HF := Hd (HTH.out _ HO1.out);rw [there_some ho] at HF;obtain ⟨i, j, rfl, rfl, hx, hj⟩ := opAt_inv ho;obtain ⟨bl, off, A', cp, rfl, -, hbw, hT, hOk⟩ := HL.out.at_ hx;have hno := HNO.out t (List.mem_of_getElem? hx);have hi2 : i < n2 := by rw [← HN2.out]; exact (List.getElem?_eq_some_iff.1 hx).1
  have hjl := (List.getElem?_eq_some_iff.1 hj).1;have HT := Hd (hT.only HO1.out hbw (by simp));obtain ⟨bo, oo, rfl, -, hbo, hP⟩ := row_op hOk.row hj;have HPO := Hd (hP.only HO1.out hbo (by simp)).c1;have HROW := Hd hOk.row;rw [show ((j : Int).toNat) = j from by simp];obtain ⟨s, f, ops⟩ := t;dsimp only at HROW hno HT hj hjl ⊢;have HRW := Hd (fun w' (O : Only [] w w') => rraw_any s f (some ⟨bo, oo, none⟩) ops.length cp B j ops o.key w' (HROW.out.only O (by simp)) rfl hno (by omega));generalize leftW o.key (ops.take j) = v at *;generalize o.key = ok at *;generalize hmm : ops.length = m at *;have hi0 : (0 : Int) ≤ (i : Int) := by omega
  have hj0 : (0 : Int) ≤ (j : Int) := by omega
  have hi2' : (i : Int) < (n2 : Int) := by omega
  have hjm : (j : Int) < (m : Int) := by omega
  clear ho HTH hx hj hT hOk hP HROW;go_enter Tryz.func61, Tryz.ntmps61;go_wp2_with fail
  generalize (((w.alloc (.cells #[.slice A0 n0 c0, .slice A1 n1 c1, .slice (some ⟨bl, off, none⟩) n2 c2] 25)).alloc (.cells #[.int .i64 (i : Int), .int .i64 (j : Int)] 27)).alloc (.cells #[.int .i64 0, .int .i64 0] 38)) = w1 at *;have hbr : bl < w1.heap.size := by have := HO1.out.size; omega
  have hbor : bo < w1.heap.size := by have := HO1.out.size; omega
  generalize hgr : w.heap.size + 1 + 1 = gr at *;generalize hgp : w.heap.size + 1 = gp at *;generalize hgg : w.heap.size = g at *;refine (HF.out).mono ?_;rintro e w2 ⟨rfl, O2⟩;have HO2 := Hd (HO1.out.trans O2);have HR2 := Hd (O2.blk HR1.out (by simp));have HB2 := Hd (O2.blk HB1.out (by simp));have HP2 := Hd (O2.blk HP1.out (by simp));obtain ⟨t0, t1, t2⟩ := HT.out.only O2 hbr (by simp);dsimp only at t0 t1 t2;rw [hmm] at t2;have HC0 := Hd t0;have HC1 := Hd t1;have HC2 := Hd t2;have HCK := Hd ((O2.cell (p := ⟨bo, oo + j * 4 + 1, none⟩) hbor (by simp)).trans HPO.out);have hbr2 : bl < w2.heap.size := by have := O2.size; omega
  have hbo2 : bo < w2.heap.size := by have := O2.size; omega
  clear O2 HF t0 t1 t2;go_upto_region 3 with (fail)
  have RD0 := Hd fun wq (hSw : Only [gr] w2 wq) => aI (Bk1 (hSw.blk HB2.out (by simp; omega)) 2) (aI (Bk2 (hSw.blk HP2.out (by simp; omega))) (aI ((hSw.cell (p := ⟨bl, off + i * 3, none⟩) hbr2 (by simp; omega)).trans HC0.out) (aI ((hSw.cell (p := ⟨bl, off + i * 3 + 1, none⟩) hbr2 (by simp; omega)).trans HC1.out) (aI ((hSw.cell (p := ⟨bl, off + i * 3 + 2, none⟩) hbr2 (by simp; omega)).trans HC2.out) ((hSw.cell (p := ⟨bo, oo + j * 4 + 1, none⟩) hbo2 (by simp; omega)).trans HCK.out)))));refine rg1 [] [gr] w2 ?_;refine tQ 0 (h := trq 1 0 RD0 (h := tQ 2 (h := trq 3 0 RD0 (h := tQ 4 (h := trq 5 0 RD0 (h := tQ 6 (h := trq 7 0 RD0 (h := tQ 8 (h := trq 9 0 RD0 (h := tQ 10 (h := trq 11 0 RD0 (h := tQ 12 (h := tQ 13 (h := trq 14 0 RD0 (h := tQ 15 (h := trq 16 0 RD0 (h := tQ 17 (h := tQ 18 (h := trq 19 0 RD0 (h := ?_))))))))))))))))))));refine tst (i := 20) fun K hK => ?_;go_simp;refine (HRW.out _ (HO2.out.trans (Only.refl [] w2).drew)).mono ?_;rintro e w3 ⟨rfl, O3⟩;unfold optT optV;have HR3 := Hd (O3.blk (HR2.out.drew) (by simp));have O3 := O3.wide (T := [gr]) (fun i hi => by cases hi);refine kOut hK (((Only.refl [gr] w2).drew).trans O3) (h := ?_);clear hK K;refine tQ 21 (h := tQ 22 (h := ?_));refine tst (i := 23) fun K hK => ?_;refine wp_store_blk 38 (.tmp 4) (.tmp 32) rfl gr 38 _ #[.int .i64 (v.getD (0, 0)).1, .int .i64 (v.getD (0, 0)).2] rfl rfl HR3.out rfl (by kernel_rfl) (by kernel_rfl) ?_;intro w9 b9 o9;have HB9 := Hd b9;refine kOut hK ((((Only.refl [gr] w2).drew).trans O3).trans o9) (h := ?_);clear hK K;refine tQ 24 (h := ?_);refine tdn ?_;have HNW := Hd ( ((((Only.refl [gr] w2).drew).trans O3).trans o9));go_wp2
  refine bodyPost_ret (results_row2 Tryz.results61 _ _ gr 38 #[.int .i64 (v.getD (0, 0)).1, .int .i64 (v.getD (0, 0)).2] _ rfl HB9.out Tryz.underlying38 rfl (by kernel_rfl)) rfl ?_;exact ⟨rfl, HO2.out.step HNW.out (fun i hi hl => by simp at hi; omega)⟩
theorem rlost_any (A0 A1 A2 : Option Addr) (n0 n1 n2 c0 c1 c2 B : Nat) (h : Hst) (w : World) (hg : LRow w B A2 h.l) (hn2 : h.l.length = n2) (hM : n2 ≤ 1000) (hno : ∀ t ∈ h.l, t.ops.length ≤ 1000) :
  Calls Tryz.prog 54 #[hval A0 A1 A2 n0 n1 n2 c0 c1 c2] w fun e w' =>
   ∃ A c, (e = .returned (.slice A (lostP (plsL h.l)).length c) ∧ Row w' w'.heap.size A (placeC (lostP (plsL h.l)))) ∧ Only [] w w' := by
 unfold hval;obtain ⟨i0, hi, hz0, hz1, hz2⟩ := info_parts info_place;have HG := Hd hg;have HN2 := Hd hn2;have HNO := Hd hno;have HO := Hd (((Only.refl [] w).alloc (.cells #[.slice A0 n0 c0, .slice A1 n1 c1, .slice A2 n2 c2] 25)).alloc (.cells #[] 27));have HB := Hd ((Blk.made w 25 #[.slice A0 n0 c0, .slice A1 n1 c1, .slice A2 n2 c2]).alloc (.cells #[] 27));have HV := Hd (World.ownsRow_lit (w.alloc (.cells #[.slice A0 n0 c0, .slice A1 n1 c1, .slice A2 n2 c2] 25)) (e := 27) (size := 2) #[] 0 (Nat.le_refl _) (by unfold maxLen; omega) rfl);rw [World.size_alloc] at HV;clear hg hn2 hno;go_enter Tryz.func54, Tryz.ntmps54;go_wp2_with fail
 go_loopw [3, 4] (fun V iv wr => ∃ k : Nat, iv = .int .i64 k ∧ k ≤ n2 ∧ Hid (wr.ownsRow (w.heap.size + 1) 27 2 V (lostP (plsL (h.l.take k))).length (placeC (lostP (plsL (h.l.take k))))) ∧ Hid (Blk wr w.heap.size 25 #[.slice A0 n0 c0, .slice A1 n1 c1, .slice A2 n2 c2]) ∧ Hid (Only [] w wr)) (fun _ iv _ => n2 - (intOf iv).toNat)
 case atStart => exact ⟨0, rfl, by omega, HV, HB, HO⟩
 case round =>
  obtain ⟨k, rfl, hk, hV, hB, hO⟩ := hrel;clear HV HB HO
  by_cases hlt : k < n2
  ·obtain ⟨x, hx⟩ : ∃ x, h.l[k]? = some x := ⟨_, List.getElem?_eq_getElem (by rw [HN2.out]; exact hlt)⟩;obtain ⟨b, off, A', cp, rfl, -, hbw, hT, hOk⟩ := HG.out.at_ hx;have HT := Hd hT;have HPT := Hd (plsL_take hx);have hpl := plsL_len (h.l.take k) (fun t ht => HNO.out t (List.mem_of_mem_take ht));rw [List.length_take] at hpl;have hm1 := HNO.out x (List.mem_of_getElem? hx);have HROW := Hd hOk.row;obtain ⟨s, f, ops⟩ := x;dsimp only at HT HPT hm1 HROW;generalize hm : ops.length = m at *;have HMM := Hd hm;have h01 : (k : Int) < (n2 : Int) := by omega
   have hk0 : (0 : Int) ≤ (k : Int) := Int.natCast_nonneg _;have hwk : IntKind.i64.wrap ((k : Int) + 1) = (k : Int) + 1 := IntWalk.i64_in _ (by omega);have hV' : Hid (wr.ownsRow (w.heap.size + 1) 27 2 u3 (lostP (plsL (h.l.take k) ++ plsT k (ops.take 0))).length (placeC (lostP (plsL (h.l.take k) ++ plsT k (ops.take 0))))) := by simpa [plsT] using hV
   have hB' := hB;have hO' := hO;clear hT hOk hx hm hV;have lB := hB'.out.lt;have b2 := hB'.out.at_ 2;simp at b2;go_wp2_with fail
   clear lB b2 hB hO
   go_loopw [3, 5] (fun V iv wr => ∃ j : Nat, iv = .int .i64 j ∧ j ≤ m ∧ Hid (wr.ownsRow (w.heap.size + 1) 27 2 V (lostP (plsL (h.l.take k) ++ plsT k (ops.take j))).length (placeC (lostP (plsL (h.l.take k) ++ plsT k (ops.take j))))) ∧ Hid (Blk wr w.heap.size 25 #[.slice A0 n0 c0, .slice A1 n1 c1, .slice (some ⟨b, off, none⟩) n2 c2]) ∧ Hid (Only [] w wr)) (fun _ iv _ => m - (intOf iv).toNat)
   case atStart => exact ⟨0, rfl, by omega, hV', hB', hO'⟩
   case round =>
    obtain ⟨j, rfl, hj, hV, hB, hO⟩ := hrel;clear hV' hB' hO';have hsz := hO.out.size;have lB := hB.out.lt;have b2 := hB.out.at_ 2;simp at b2;obtain ⟨a0, a1, a2⟩ := HT.out.only hO.out hbw (by simp);dsimp only at a2;rw [HMM.out] at a2;have hbr : b < wr.heap.size := by omega
    clear a0 a1
    by_cases hlt2 : j < m
    ·obtain ⟨y, hy⟩ : ∃ y, ops[j]? = some y := ⟨_, List.getElem?_eq_getElem (by rw [HMM.out]; exact hlt2)⟩;obtain ⟨b', off', rfl, -, hbw', hP⟩ := row_op HROW.out hy;obtain ⟨p0, p1, p2, p3⟩ := hP.only hO.out hbw' (by simp);have HTT := Hd (plsT_take (i := k) hy);have hll := lostP_le (plsL (h.l.take k) ++ plsT k (ops.take j));rw [List.length_append, plsT_len, List.length_take] at hll;obtain ⟨yw, yk, yv, yn⟩ := y;dsimp only at p0 p1 p2 p3;have h02 : (j : Int) < (m : Int) := by omega
     have hj0 : (0 : Int) ≤ (j : Int) := Int.natCast_nonneg _;have hwj : IntKind.i64.wrap ((j : Int) + 1) = (j : Int) + 1 := IntWalk.i64_in _ (by omega);have hbr' : b' < wr.heap.size := by omega
     clear hP hy p0 p1 p3
     by_cases hv2 : yv = 2
     ·have HE : Hid (lostP (plsL (h.l.take k) ++ plsT k (ops.take (j + 1))) = lostP (plsL (h.l.take k) ++ plsT k (ops.take j)) ++ [((k : Int), (j : Int))]) := Hd (by
       rw [HTT.out, ← List.append_assoc, lostP_hit _ (by exact hv2)])
      subst hv2;go_wp2_with (at_builtin; refine wpList_append_row _ rfl (.tmp 37) (.tmp 41) _ rfl (w.heap.size + 1) 27 i0 _ 2 16 Tryz.underlying79 hi hz0 hz1 hz2 rfl (by omega) _ _ _ rfl (own_only hV.out ((Only.refl [] _).alloc _) (by simp)) (wr.heap.size + 1) (some ⟨wr.heap.size, 0, none⟩) 1 1 [.int .i64 (k : Int), .int .i64 (j : Int)] rfl rfl (row_lit wr 27 #[.int .i64 (k : Int), .int .i64 (j : Int)]) (by intro u hu; simp at hu; rcases hu with rfl | rfl <;> rfl) (by unfold maxLen; omega) (by omega) (by simp; omega) ?_; intro v4 w4 hown4 hgrow hat)
      have hb1 := hB.out.alloc (.cells #[.int .i64 (k : Int), .int .i64 (j : Int)] 27);have hv1 := own_only hV.out ((Only.refl [] wr).alloc (.cells #[.int .i64 (k : Int), .int .i64 (j : Int)] 27)) (by simp);have REL : w4.ownsRow (w.heap.size + 1) 27 2 v4 (lostP (plsL (h.l.take k) ++ plsT k (ops.take (j + 1)))).length (placeC (lostP (plsL (h.l.take k) ++ plsT k (ops.take (j + 1))))) ∧ Blk w4 w.heap.size 25 #[.slice A0 n0 c0, .slice A1 n1 c1, .slice (some ⟨b, off, none⟩) n2 c2] ∧ Only [] w w4 := by
       refine ⟨?_, (only_grown hgrow).blk hb1 (own_apart hv1 hb1 (by decide)), (hO.out.alloc _).step (only_grown hgrow) (fun i hi hl => own_new hV.out (S := []) i hi (by omega))⟩;rw [HE.out, placeC_append]
       simpa [placeC] using hown4
      have HREL := Hd REL;clear REL hown4 lB b2 a2 p2 hb1 hv1;go_wp2
      go_roundw
      case rel => first | exact ⟨j + 1, by go_num, by omega, Hd HREL.out.1, Hd HREL.out.2.1, Hd HREL.out.2.2⟩ | exact ⟨_, ⟨j + 1, by go_num, by omega, Hd HREL.out.1, Hd HREL.out.2.1, Hd HREL.out.2.2⟩, rfl⟩
      case measure => simp [intOf]; omega
     ·have HE : Hid (lostP (plsL (h.l.take k) ++ plsT k (ops.take (j + 1))) = lostP (plsL (h.l.take k) ++ plsT k (ops.take j))) := Hd (by
       rw [HTT.out, ← List.append_assoc, lostP_miss _ (by exact hv2)])
      have hf1 : (yv == 2) = false := by simpa using hv2
      clear hv2;go_wp2
      go_roundw
      case rel => exact ⟨j + 1, by go_num, by omega, Hd (by rw [HE.out]; exact hV.out), hB, hO⟩
      case measure => simp [intOf]; omega
    ·have hjm : j = m := by omega
     subst hjm;have hd3 : decide ((j : Int) < (j : Int)) = false := by simp
     have hVE : Hid (wr.ownsRow (w.heap.size + 1) 27 2 u3 (lostP (plsL (h.l.take (k + 1)))).length (placeC (lostP (plsL (h.l.take (k + 1)))))) := Hd (by
      have := hV.out;rw [show ops.take j = ops from List.take_of_length_le (by rw [HMM.out]; exact Nat.le_refl _)] at this;rw [HPT.out];exact this)
     clear hV;go_wp2
     go_roundw
     case rel => exact ⟨k + 1, by go_num, by omega, hVE, hB, hO⟩
     case measure => simp [intOf]; omega
  ·have hkn : k = n2 := by omega
   subst hkn;have lB := hB.out.lt;have b2 := hB.out.at_ 2;simp at b2;have hd2 : decide ((k : Int) < (k : Int)) = false := by simp
   have hVV := hV.out;rw [List.take_of_length_le (by rw [HN2.out]; exact Nat.le_refl _)] at hVV;obtain ⟨A, c, rfl, -, -, -, hR⟩ := own_row hVV;have HR := Hd hR;clear hV hVV hR;go_wp2
   go_ret
   first | exact ⟨⟨_, ⟨_, rfl⟩, HR.out⟩, hO.out⟩ | exact ⟨_, _, ⟨rfl, HR.out⟩, hO.out⟩
end Go.Proofs.YtjfbeeogiejopaaGreatDoor
