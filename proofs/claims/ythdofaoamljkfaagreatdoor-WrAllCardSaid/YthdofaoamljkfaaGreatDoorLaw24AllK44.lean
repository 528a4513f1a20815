/- Parts. -/
import Derived.Test.YthdofaoamljkfaaGreatDoorLaw24AllK43
set_option maxRecDepth 10000
set_option maxHeartbeats 16000000
set_option linter.unusedVariables false
set_option linter.unusedSimpArgs false
namespace Go.Proofs.YthdofaoamljkfaaGreatDoor
open Go.RowKit
open Go.Lib hiding intOf
attribute [local go_sem ↓] Go.wp_at_zero Go.wp_at_succ
theorem rof15_any (A0 A1 A2 : Option Addr) (n0 n1 n2 c0 c1 c2 B : Nat) (h : Hst) (a b : Int) (w : World) (hg : HIn w B A0 A1 A2 n0 n1 n2 h) :
  Calls Tryz.prog 33 #[hval A0 A1 A2 n0 n1 n2 c0 c1 c2, .agg #[.int .i64 a, .int .i64 b]] w fun e w' => ∃ V, (e = .returned V ∧ w'.ownsRow w.heap.size 3 1 V (wrOf h a b).length ((wrOf h a b).map (Value.int .i64))) ∧ Only [] w w' := by
 obtain ⟨i0, hi, hz0, hz1, hz2⟩ := info_parts info_int;have HRD := Hd (fun w' (O : Only [] w w') => rread15_any A0 A1 A2 n0 n1 n2 c0 c1 c2 B h a b w' (hg.same O));have HL := Hd hg.at_.r2;have HN2 := Hd hg.n2;have HNO := Hd hg.sm.no;have hn2 : n2 ≤ 1000 := by have := hg.sm.nl; rw [hg.n2] at this; exact this
 unfold hval at HRD ⊢;clear hg;have HO1 := Hd ((((Only.refl [] w).alloc (.cells #[.slice A0 n0 c0, .slice A1 n1 c1, .slice A2 n2 c2] 25)).alloc (.cells #[.int .i64 a, .int .i64 b] 56)).alloc (.cells #[] 3));have HB1 := Hd (((Blk.made w 25 #[.slice A0 n0 c0, .slice A1 n1 c1, .slice A2 n2 c2]).alloc (.cells #[.int .i64 a, .int .i64 b] 56)).alloc (.cells #[] 3));have HP1 := Hd ((Blk.made (w.alloc (.cells #[.slice A0 n0 c0, .slice A1 n1 c1, .slice A2 n2 c2] 25)) 56 #[.int .i64 a, .int .i64 b]).alloc (.cells #[] 3));have HV1 := Hd (World.ownsRow_lit (base := w.heap.size) ((w.alloc (.cells #[.slice A0 n0 c0, .slice A1 n1 c1, .slice A2 n2 c2] 25)).alloc (.cells #[.int .i64 a, .int .i64 b] 56)) (e := 3) (size := 1) #[] 0 (by simp; omega) (by unfold maxLen; omega) rfl);simp only [World.size_alloc] at HP1 HV1;go_enter Tryz.func33, Tryz.ntmps33;go_upto_region 2 with (fail)
 generalize (((w.alloc (.cells #[.slice A0 n0 c0, .slice A1 n1 c1, .slice A2 n2 c2] 25)).alloc (.cells #[.int .i64 a, .int .i64 b] 56)).alloc (.cells #[] 3)) = w1 at *;generalize hgl : w.heap.size + 1 + 1 = gl at *;generalize hgp : w.heap.size + 1 = gp at *;generalize hgg : w.heap.size = g at *;have hgz : g ≤ w1.heap.size := by have := HO1.out.size; omega
 have lB := HB1.out.lt;have y0 := HB1.out.at_ 0;have y1 := HB1.out.at_ 1;have y2 := HB1.out.at_ 2;have lP := HP1.out.lt;have p0 := HP1.out.at_ 0;have p1 := HP1.out.at_ 1;simp at y0 y1 y2 p0 p1;go_wp2_with fail
 refine (HRD.out _ HO1.out).mono ?_;rintro e w2 ⟨rfl, O2⟩;have HO2 := Hd (HO1.out.trans O2);have HB2 := Hd (O2.blk HB1.out (by simp));have HP2 := Hd (O2.blk HP1.out (by simp));have HV2 := Hd (own_only HV1.out O2 (by simp));have hgz2 : g ≤ w2.heap.size := by have := HO2.out.size; omega
 clear O2 HO1 HB1 HP1 HV1 HRD lB y0 y1 y2 lP p0 p1 hgz
 cases hr : readO h a b with
 | none =>
  have HE := Hd (wrOf_none hr);rw [Option.isSome_none];clear hr;go_wp2
  go_ret
  exact ⟨_, ⟨rfl, by rw [HE.out, hgg]; exact HV2.out⟩, HO2.out⟩
 | some x =>
  obtain ⟨t0, o0⟩ := x;have HE := Hd (wrOf_some hr);obtain ⟨-, i, j, rfl, rfl, hx, hj, -⟩ := read_inv hr;obtain ⟨bl, off, A', cp, rfl, -, hbw, hT, hOk⟩ := HL.out.at_ hx;have hi2 : i < n2 := by rw [← HN2.out]; exact (List.getElem?_eq_some_iff.1 hx).1
  obtain ⟨bo, oo, rfl, -, hbo, hP⟩ := row_op hOk.row hj;have hjm := (List.getElem?_eq_some_iff.1 hj).1;have HTC := Hd (hT.only HO2.out (by omega) (by simp)).c2;have HPO := Hd (hP.only HO2.out (by omega) (by simp));have hbr : bl < w2.heap.size := by omega
  have hbor : bo < w2.heap.size := by omega
  dsimp only at HTC HE;generalize t0.ops.length = m at *;have hi0 : (0 : Int) ≤ (i : Int) := by omega
  have hj0 : (0 : Int) ≤ (j : Int) := by omega
  have hi2' : (i : Int) < (n2 : Int) := by omega
  have hjm' : (j : Int) < (m : Int) := by omega
  rw [Option.isSome_some];obtain ⟨ow, ok, ov, on⟩ := o0;dsimp only at HE HPO;clear hr hx hj hT hOk hP;go_upto_region 4 with (fail)
  have RD0 := Hd fun wq (hSw : Only [] w2 wq) => aI (Bk3 (hSw.blk HB2.out (by simp))) (aI (Bk2 (hSw.blk HP2.out (by simp))) (aI ((hSw.cell (p := ⟨bl, off + i * 3 + 2, none⟩) hbr (by simp)).trans HTC.out) (aI ((HPO.out.only hSw hbor (by simp)).c0) (aI ((HPO.out.only hSw hbor (by simp)).c1) (aI ((HPO.out.only hSw hbor (by simp)).c2) ((HPO.out.only hSw hbor (by simp)).c3))))));refine rg1 [] [] w2 ?_;have OW : Only [] w2 w2.drew := (Only.refl [] w2).drew;have HGV3 : w2.heap.size ≤ w2.drew.heap.size := OW.size;generalize hwz : w2.drew = wz at *;clear hwz;refine tQ 0 (h := ?_);refine trd (i := 1) (v := ?_) 0 ?_ ?_;rotate_left
  ·(intro wq q; obtain ⟨⟨lb_H, y0, y1, y2⟩, ⟨lb_P, p0, p1⟩, t2, r0, r1, r2, r3⟩ := RD0.out wq q; simp at y0 y1 y2; simp at p0 p1; dsimp only at r0 r1 r2 r3; clear q; go_simp; try with_reducible rfl)
  (try simp only [tdz]);refine tQ 2 (h := ?_);refine trd (i := 3) (v := ?_) 0 ?_ ?_;rotate_left
  ·(intro wq q; obtain ⟨⟨lb_H, y0, y1, y2⟩, ⟨lb_P, p0, p1⟩, t2, r0, r1, r2, r3⟩ := RD0.out wq q; simp at y0 y1 y2; simp at p0 p1; dsimp only at r0 r1 r2 r3; clear q; go_simp; try with_reducible rfl)
  (try simp only [tdz]);refine tQ 4 (h := tQ 5 (h := ?_));refine trd (i := 6) (v := ?_) 0 ?_ ?_;rotate_left
  ·(intro wq q; obtain ⟨⟨lb_H, y0, y1, y2⟩, ⟨lb_P, p0, p1⟩, t2, r0, r1, r2, r3⟩ := RD0.out wq q; simp at y0 y1 y2; simp at p0 p1; dsimp only at r0 r1 r2 r3; clear q; go_simp; try with_reducible rfl)
  (try simp only [tdz]);refine tQ 7 (h := ?_);refine trd (i := 8) (v := ?_) 0 ?_ ?_;rotate_left
  ·(intro wq q; obtain ⟨⟨lb_H, y0, y1, y2⟩, ⟨lb_P, p0, p1⟩, t2, r0, r1, r2, r3⟩ := RD0.out wq q; simp at y0 y1 y2; simp at p0 p1; dsimp only at r0 r1 r2 r3; clear q; go_simp; try with_reducible rfl)
  (try simp only [tdz]);refine tQ 9 (h := ?_);refine trd (i := 10) (v := ?_) 0 ?_ ?_;rotate_left
  ·(intro wq q; obtain ⟨⟨lb_H, y0, y1, y2⟩, ⟨lb_P, p0, p1⟩, t2, r0, r1, r2, r3⟩ := RD0.out wq q; simp at y0 y1 y2; simp at p0 p1; dsimp only at r0 r1 r2 r3; clear q; go_simp; try with_reducible rfl)
  (try simp only [tdz]);refine tst (i := 11) fun K hK => ?_;go_simp;have BL8 := Blk.made wz 70 #[.bool false, .int .i64 0, .int .i64 0, .int .i64 0];have OW1 := OW.alloc (.cells #[.bool false, .int .i64 0, .int .i64 0, .int .i64 0] 70);generalize wz.alloc (.cells #[.bool false, .int .i64 0, .int .i64 0, .int .i64 0] 70) = w8 at *;generalize wz.heap.size = g8 at *;refine kOut hK (OW1) (h := ?_);clear hK K;refine tst (i := 12) fun K hK => ?_;refine wp_store_blk 70 (.tmp 6) (.tmp 26) rfl g8 70 _ #[.bool ow, .int .i64 ok, .int .i64 ov, .int .i64 on] rfl rfl BL8 rfl (by kernel_rfl) (by kernel_rfl) ?_;intro w3 b9 o9;have HG3 := Hd b9;have OW3 := OW1.step o9 (fun i hi hl => by simp at hi; omega);clear o9 b9;refine kOut hK (OW3) (h := ?_);clear hK K;refine tdn ?_;have HW3 := Hd OW3;clear OW OW1 BL8 OW3;have HO3 := Hd (HO2.out.trans HW3.out);have HB3 := Hd (HW3.out.blk HB2.out (by simp));have HP3 := Hd (HW3.out.blk HP2.out (by simp));have HV3 := Hd (own_only HV2.out HW3.out (by simp));have hgz3 : g ≤ w3.heap.size := by have := HO3.out.size; omega
  clear HO2 HB2 HP2 HV2 HTC HPO hbr hbor HW3 HGV3 hgz2;have lR := HG3.out.lt;have r1 := HG3.out.at_ 1;have r2 := HG3.out.at_ 2;have r3 := HG3.out.at_ 3;simp at r1 r2 r3;go_upto_region 5 with (fail)
  go_upto_if 30 with (fail)
  go_cut [5] (fun v wx => Hid (wx.ownsRow g 3 1 v (headW (ov, on)).length ((headW (ov, on)).map (Value.int .i64))) ∧ Hid (Only (Value.slice (some ⟨gl, 0, none⟩) 0 0).ownBlock.toList w3 wx))
  case first =>
   by_cases hv : ov = 1
   ·have d1 : (ov != 1) = false := by simp [hv]
    have HW : Hid (headW (ov, on) = []) := Hd (by unfold headW; rw [if_pos hv]);clear hv;go_wp2
    go_meet
    exact ⟨Hd (by rw [HW.out]; exact HV3.out), Hd (Only.refl _ _)⟩
   ·have d1 : (ov != 1) = true := by simp [hv]
    have HW : Hid (headW (ov, on) = [-1]) := Hd (by unfold headW; rw [if_neg hv]);clear hv;go_wp2_with (at_builtin; refine wpList_append_row _ rfl (.tmp 31) (.tmp 32) _ rfl g 3 i0 _ 1 8 Tryz.underlying26 hi hz0 hz1 hz2 rfl (by omega) _ 0 [] rfl (own_only HV3.out ((Only.refl [] _).alloc _) (by simp)) (w3.heap.size + 1) (some ⟨w3.heap.size, 0, none⟩) 1 1 [.int .i64 (-1)] rfl rfl (row_lit w3 3 #[.int .i64 (-1)]) (by simp [Value.oneCell']) (by unfold maxLen; omega) (by omega) (by simp; omega) ?_; intro v4 w4 hown4 hgrow hat)
    go_meet
    refine ⟨Hd ?_, Hd (((Only.refl _ w3).alloc (.cells #[.int .i64 (-1)] 3)).step (only_grown hgrow) (fun i hi _ => hi))⟩;rw [HW.out]
    simpa using hown4
  case rest =>
   obtain ⟨HV, HOC⟩ := hcut;have HO5 := Hd (HO3.out.step HOC.out (fun i hi hl => by have := (HV3.out.lt i (by simpa using hi)).1; rw [hgg] at hl; omega));have HR5 := Hd (HOC.out.blk HG3.out (own_apart HV3.out HG3.out (by decide)));have HB5 := Hd (HOC.out.blk HB3.out (own_apart HV3.out HB3.out (by decide)));have HP5 := Hd (HOC.out.blk HP3.out (own_apart HV3.out HP3.out (by decide)));clear HOC HO3 HG3 HB3 HP3 HV3 lR r1 r2 r3;obtain ⟨w5, hw5⟩ : ∃ w5 : World, w5 = wc := ⟨_, rfl⟩;subst hw5;go_wp2_with fail
   go_loopw [5, 7] (fun V iv wr => ∃ k : Nat, iv = .int .i64 k ∧ k ≤ n2 ∧ Hid (wr.ownsRow g 3 1 V (headW (ov, on) ++ whoL (i : Int) ok (ov, on) (h.l.take k)).length ((headW (ov, on) ++ whoL (i : Int) ok (ov, on) (h.l.take k)).map (Value.int .i64))) ∧ Hid (Blk wr g8 70 #[.bool ow, .int .i64 ok, .int .i64 ov, .int .i64 on]) ∧ Hid (Blk wr g 25 #[.slice A0 n0 c0, .slice A1 n1 c1, .slice (some ⟨bl, off, none⟩) n2 c2]) ∧ Hid (Blk wr gp 56 #[.int .i64 (i : Int), .int .i64 (j : Int)]) ∧ Hid (Only [] w wr)) (fun _ iv _ => n2 - (intOf iv).toNat)
   case atStart => exact ⟨0, rfl, by omega, Hd (by simpa [whoL] using HV.out), HR5, HB5, HP5, HO5⟩
   case round =>
    obtain ⟨k, rfl, hk, hV, hR, hB, hP, hO⟩ := hrel;clear HV HR5 HB5 HP5 HO5;have hsz : g ≤ wr.heap.size := by have := hO.out.size; omega
    have lB := hB.out.lt;have y2 := hB.out.at_ 2;simp at y2
    by_cases hlt : k < n2
    ·obtain ⟨x, hx⟩ : ∃ x, h.l[k]? = some x := ⟨_, List.getElem?_eq_getElem (by rw [HN2.out]; exact hlt)⟩;obtain ⟨blk_, offk, Ak, cpk, ek, -, hbwk, hTk, hOkk⟩ := HL.out.at_ hx;have ek' := Option.some.inj ek;simp only [Addr.mk.injEq, and_true] at ek';obtain ⟨rfl, rfl⟩ := ek';clear ek;have hTr := hTk.only hO.out (by omega) (by simp);have HC0 := Hd hTr.c0;have HC1 := Hd hTr.c1;have HC2 := Hd hTr.c2;dsimp only at HC0 HC1 HC2;have HWT : Hid (headW (ov, on) ++ whoL (i : Int) ok (ov, on) (h.l.take (k + 1)) = (headW (ov, on) ++ whoL (i : Int) ok (ov, on) (h.l.take k)) ++ if fitsO (ov, on) (forT (i : Int) ok k x) = true then [(k : Int)] else []) := Hd (by rw [whoL_take hx, List.append_assoc]);have hwl := whoL_le (i : Int) ok (ov, on) (h.l.take k);have hhl := headW_le (ov, on);rw [List.length_take] at hwl;have hxo := HNO.out x (List.mem_of_getElem? hx);have hrow := hOkk.row;have HRV := Hd (fun (w' : World) (O : Only [] w w') => (rraw_any x.s x.f Ak x.ops.length cpk B x.ops.length x.ops ok w' (hrow.only O (by simp)) rfl hxo hxo));rw [List.take_length] at HRV;have HFT : Hid (forT (i : Int) ok k x = if (k : Int) = (i : Int) ∨ x.f = 2 then none else leftW ok x.ops) := Hd rfl;have hlen : (headW (ov, on) ++ whoL (i : Int) ok (ov, on) (h.l.take k)).length ≤ 1 + k := by rw [List.length_append]; omega
     generalize headW (ov, on) ++ whoL (i : Int) ok (ov, on) (h.l.take k) = pre at *;have h01 : (k : Int) < (n2 : Int) := by omega
     have hk0 : (0 : Int) ≤ (k : Int) := Int.natCast_nonneg _;have hwk : IntKind.i64.wrap ((k : Int) + 1) = (k : Int) + 1 := IntWalk.i64_in _ (by omega);have hbrk : bl < wr.heap.size := by omega
     generalize forT (i : Int) ok k x = fv at *;obtain ⟨s, f, ops⟩ := x;dsimp only at HC0 HC1 HC2 HRV HFT;generalize leftW ok ops = v at *;generalize ops.length = mk at *;clear hx hwl hhl hxo hrow hTr hTk hOkk;go_upto_region 10 with (fail)
     clear lB y2;have RD0 := Hd fun wq (hSw : Only [] wr wq) => aI (Bk3 (hSw.blk hB.out (by simp))) (aI (Bk1 (hSw.blk hR.out (by simp)) 1) (aI ((hSw.cell (p := ⟨bl, off + k * 3, none⟩) hbrk (by simp)).trans HC0.out) (aI ((hSw.cell (p := ⟨bl, off + k * 3 + 1, none⟩) hbrk (by simp)).trans HC1.out) ((hSw.cell (p := ⟨bl, off + k * 3 + 2, none⟩) hbrk (by simp)).trans HC2.out))));refine rg1 [] [] wr ?_;have OW : Only [] wr wr.drew := (Only.refl [] wr).drew;generalize hwz : wr.drew = wz at *;clear hwz;refine tQ 0 (h := trq 1 0 RD0 (h := tQ 2 (h := tQ 3 (h := trq 4 0 RD0 (h := tQ 5 (h := trq 6 0 RD0 (h := tQ 7 (h := tQ 8 (h := tQ 9 (h := trq 10 0 RD0 (h := tQ 11 (h := tQ 12 (h := trq 13 0 RD0 (h := ?_))))))))))))))
     apply cut_1_0 (fun w gv => (Only [] wr w) ∧ (True) ∧ (Blk w gv 68 #[.int .i64 0, .int .i64 0]) ∧ (wr.heap.size ≤ gv))
     intro HST14_18
     apply cut_1_0 (fun w gv => (Only [] wr w) ∧ (True) ∧ (Blk w gv 68 #[.int .i64 0, .int .i64 0]) ∧ (wr.heap.size ≤ gv))
     intro HST18
     apply cut_0_0 (fun w  => (Only [] wr w) ∧ (True))
     intro HST14
     ·refine timed_forks (l := [14, 18]) (by kernel_rfl) (by simp) (fork_cons ⟨_, rfl, fun K hK => ?_⟩ (fork_cons ⟨_, rfl, fun K hK => ?_⟩ (fork_nil)))
      ·go_simp;refine (HRV.out _ (hO.out.trans OW)).mono ?_;rintro e w3 ⟨rfl, O3⟩;unfold optT optV;have OW1 := OW.trans O3;have OS := O3;refine kOut hK (OW1) (h := ?_);clear hK K;refine tQ 15 (h := tQ 16 (h := tQ 17 (h := ?_)));exact HST14 w3  ⟨OW1, trivial⟩
      ·go_simp;have OW1 := OW.alloc (.cells #[.int .i64 0, .int .i64 0] 68);have OS : Only [] wz (wz.alloc (.cells #[.int .i64 0, .int .i64 0] 68)) := (Only.refl [] wz).alloc (.cells #[.int .i64 0, .int .i64 0] 68);have BV := Blk.made wz 68 #[.int .i64 0, .int .i64 0];have HGV : wr.heap.size ≤ wz.heap.size := OW.size;generalize wz.alloc (.cells #[.int .i64 0, .int .i64 0] 68) = w1 at *;generalize wz.heap.size = gv at *;refine kOut hK (OW1) (h := ?_);clear hK K;exact HST18 w1 gv ⟨OW1, trivial, BV, HGV⟩
     ·intro wz  ⟨OW, HTT⟩;refine tst (i := 18) fun K hK => ?_;go_simp;have OW1 := OW.alloc (.cells #[.int .i64 0, .int .i64 0] 68);have OS : Only [] wz (wz.alloc (.cells #[.int .i64 0, .int .i64 0] 68)) := (Only.refl [] wz).alloc (.cells #[.int .i64 0, .int .i64 0] 68);have BV := Blk.made wz 68 #[.int .i64 0, .int .i64 0];have HGV : wr.heap.size ≤ wz.heap.size := OW.size;generalize wz.alloc (.cells #[.int .i64 0, .int .i64 0] 68) = w1 at *;generalize wz.heap.size = gv at *;refine kOut hK (OW1) (h := ?_);clear hK K;exact HST14_18 w1 gv ⟨OW1, trivial, BV, HGV⟩
     ·intro wz gv ⟨OW, HTT, BV, HGV⟩;refine tst (i := 14) fun K hK => ?_;go_simp;refine (HRV.out _ (hO.out.trans OW)).mono ?_;rintro e w3 ⟨rfl, O3⟩;unfold optT optV;have OW1 := OW.trans O3;have OS := O3;have BV1 := OS.blk BV (by simp);refine kOut hK (OW1) (h := ?_);clear hK K;refine tQ 15 (h := tQ 16 (h := tQ 17 (h := ?_)));exact HST14_18 w3 gv ⟨OW1, trivial, BV1, HGV⟩
     -- behind all of the crowd
     intro wz gv ⟨OW, HTT, BV, HGV⟩;refine tst (i := 19) fun K hK => ?_;refine wp_store_blk 68 (.tmp 8) (.tmp 57) rfl gv 68 _ #[.int .i64 (v.getD (0, 0)).1, .int .i64 (v.getD (0, 0)).2] rfl rfl BV rfl (by kernel_rfl) (by kernel_rfl) ?_;intro w9 b9 o9;have HV9b := Hd b9;have OW9 := OW.step o9 (fun i hi hl => by simp at hi; omega);clear o9 b9;refine kOut hK (OW9) (h := ?_);clear hK K;refine tQ 20 (h := ?_);refine tdn ?_;have HW9 := Hd OW9;have HO7 := Hd (hO.out.trans HW9.out);have HB7 := Hd (HW9.out.blk hB.out (by simp));have HR7 := Hd (HW9.out.blk hR.out (by simp));have HP7 := Hd (HW9.out.blk hP.out (by simp));have HV7 := Hd (own_only hV.out HW9.out (by simp));have HQ1 := Hd ((HW9.out.cell (p := ⟨bl, off + k * 3 + 1, none⟩) hbrk (by simp)).trans HC1.out);have hbr7 : bl < w9.heap.size := by have := HW9.out.size; omega
     clear hB hR hP hV hO HW9 HC0 HC1 HC2 HRV hbrk;generalize hf1 : (v.getD (0, 0)).1 = f1 at *;generalize hf2 : (v.getD (0, 0)).2 = f2 at *;have HFIT : Hid (fitsO (ov, on) fv = (!decide (k = i) && (!decide (f = 2) && (v.isSome && (decide (ov = 2) || (decide (ov = f1) && decide (on = f2))))))) := Hd (by
      rw [HFT.out]
      by_cases q1 : k = i
      ·simp [q1, fitsO]
      ·by_cases q2 : f = 2
       ·simp [q2, fitsO]
       ·rw [if_neg (by omega)]
        cases v with
        | none => simp [fitsO]
        | some u => subst hf1 hf2; simp [fitsO, fitsV, Prod.ext_iff, q1, q2])
     generalize hfs : v.isSome = fs at *;clear hf1 hf2 hfs HFT;generalize hft : fitsO (ov, on) fv = ft at *;clear hft;have hsz7 : g ≤ w9.heap.size := by have := HO7.out.size; omega
     go_upto_region 11 with (fail)
     go_cut [86] (fun z wx => z = .bool ft ∧ wx = w9)
     case first =>
      have lU := HV9b.out.lt;have u0 := HV9b.out.at_ 0;have u1 := HV9b.out.at_ 1;have lR := HR7.out.lt;have r2 := HR7.out.at_ 2;have r3 := HR7.out.at_ 3;have lB := HB7.out.lt;have y2 := HB7.out.at_ 2;have lP := HP7.out.lt;have p0 := HP7.out.at_ 0;simp at u0 u1 r2 r3 y2 p0;have c1 := HQ1.out
      by_cases e1 : k = i
      ·obtain rfl : ft = false := by rw [HFIT.out]; simp [e1]
       subst e1;go_wp2
       go_meet
       exact ⟨rfl, rfl⟩
      ·have e1' : ((k : Int) != (i : Int)) = true := by simp; omega
       have e1'' : (k != i) = true := by simpa using e1
       by_cases e2 : f = 2
       ·obtain rfl : ft = false := by rw [HFIT.out]; simp [e2]
        have e2' : (f != 2) = false := by simp [e2]
        clear e1 e2;go_wp2
        go_meet
        exact ⟨rfl, rfl⟩
       ·have e2' : (f != 2) = true := by simp [e2]
        cases fs with
        | false =>
         obtain rfl : ft = false := by rw [HFIT.out]; simp
         clear e1 e2;go_wp2
         go_meet
         exact ⟨rfl, rfl⟩
        | true =>
         by_cases q1 : ov = 2
         ·obtain rfl : ft = true := by rw [HFIT.out]; simp [q1, e1, e2]
          have d1 : (ov == 2) = true := by simpa using q1
          clear q1 e1 e2;go_wp2
          go_meet
          exact ⟨rfl, rfl⟩
         ·have d1 : (ov == 2) = false := by simpa using q1
          by_cases q2 : f1 = ov
          ·by_cases q3 : f2 = on
           ·obtain rfl : ft = true := by rw [HFIT.out]; simp [q2, q3, e1, e2]
            subst q2 q3;clear q1 e1 e2;go_wp2
            go_meet
            exact ⟨rfl, rfl⟩
           ·obtain rfl : ft = false := by rw [HFIT.out]; simp [q1, Ne.symm q3]
            have d3 : (f2 == on) = false := by simpa using q3
            subst q2;clear q1 q3 e1 e2;go_wp2
            go_meet
            exact ⟨rfl, rfl⟩
          ·obtain rfl : ft = false := by rw [HFIT.out]; simp [q1, Ne.symm q2]
           have d3 : (f1 == ov) = false := by simpa using q2
           clear q1 q2 e1 e2;go_wp2
           go_meet
           exact ⟨rfl, rfl⟩
     case rest =>
      obtain ⟨rfl, rfl⟩ := hcut
      cases ft with
      | false =>
       have HE2 : Hid (headW (ov, on) ++ whoL (i : Int) ok (ov, on) (h.l.take (k + 1)) = pre) := Hd (by rw [HWT.out]; simp);clear HWT;go_wp2
       go_roundw
       case rel => exact ⟨k + 1, by go_num, by omega, Hd (by rw [HE2.out]; exact HV7.out), HR7, HB7, HP7, HO7⟩
       case measure => simp [intOf]; omega
      | true =>
       go_wp2_with (at_builtin; refine wpList_append_row _ rfl (.tmp 87) (.tmp 89) _ rfl g 3 i0 _ 1 8 Tryz.underlying26 hi hz0 hz1 hz2 rfl (by omega) _ _ _ rfl (own_only HV7.out ((Only.refl [] _).alloc _) (by simp)) (wc.heap.size + 1) (some ⟨wc.heap.size, 0, none⟩) 1 1 [.int .i64 (k : Int)] rfl rfl (row_lit wc 3 #[.int .i64 (k : Int)]) (by simp [Value.oneCell']) (by unfold maxLen; omega) (by omega) (by simp; omega) ?_; intro v8 w8 hown8 hgrow hat)
       have REL : w8.ownsRow g 3 1 v8 (headW (ov, on) ++ whoL (i : Int) ok (ov, on) (h.l.take (k + 1))).length ((headW (ov, on) ++ whoL (i : Int) ok (ov, on) (h.l.take (k + 1))).map (Value.int .i64)) := by
        rw [HWT.out]
        simpa using hown8
       have HV8 := Hd REL;have HVa := own_only HV7.out ((Only.refl [] wc).alloc (.cells #[.int .i64 (k : Int)] 3)) (by simp);have HR8 := Hd ((only_grown hgrow).blk (HR7.out.alloc (.cells #[.int .i64 (k : Int)] 3)) (own_apart HVa (HR7.out.alloc (.cells #[.int .i64 (k : Int)] 3)) (by decide)));have HB8 := Hd ((only_grown hgrow).blk (HB7.out.alloc (.cells #[.int .i64 (k : Int)] 3)) (own_apart HVa (HB7.out.alloc (.cells #[.int .i64 (k : Int)] 3)) (by decide)));have HP8 := Hd ((only_grown hgrow).blk (HP7.out.alloc (.cells #[.int .i64 (k : Int)] 3)) (own_apart HVa (HP7.out.alloc (.cells #[.int .i64 (k : Int)] 3)) (by decide)));have HO8 := Hd ((HO7.out.alloc (.cells #[.int .i64 (k : Int)] 3)).step (only_grown hgrow) (fun i hi hl => by have := own_new HVa (S := []) i hi; rw [hgg] at hl; exact this hl));clear REL hown8 hgrow hat HVa HWT;go_wp2
       go_roundw
       case rel => first | exact ⟨k + 1, by go_num, by omega, HV8, HR8, HB8, HP8, HO8⟩ | exact ⟨_, ⟨k + 1, by go_num, by omega, HV8, HR8, HB8, HP8, HO8⟩, rfl⟩
       case measure => simp [intOf]; omega
    ·have hkn : k = n2 := by omega
     subst hkn;have hd2 : decide ((k : Int) < (k : Int)) = false := by simp
     have HVV : Hid (wr.ownsRow g 3 1 u5 (wrOf h (i : Int) (j : Int)).length ((wrOf h (i : Int) (j : Int)).map (Value.int .i64))) := Hd (by
      have := hV.out;rw [List.take_of_length_le (by rw [HN2.out]; exact Nat.le_refl _)] at this;rw [HE.out];exact this)
     clear hV;go_wp2
     go_ret
     exact ⟨_, ⟨rfl, by rw [hgg]; exact HVV.out⟩, hO.out⟩
end Go.Proofs.YthdofaoamljkfaaGreatDoor
