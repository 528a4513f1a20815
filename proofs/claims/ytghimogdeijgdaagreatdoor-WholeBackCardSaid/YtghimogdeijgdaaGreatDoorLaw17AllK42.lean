/- Parts. -/
import Derived.Test.YtghimogdeijgdaaGreatDoorLaw17AllK38
set_option maxRecDepth 10000
set_option maxHeartbeats 16000000
set_option linter.unusedVariables false
set_option linter.unusedSimpArgs false
namespace Go.Proofs.YtghimogdeijgdaaGreatDoor
open Go.RowKit
open Go.Lib hiding intOf
attribute [local go_sem ↓] Go.wp_at_zero Go.wp_at_succ
theorem eqH_l {g h : Hst} (hn : g.l ≠ h.l) : eqH g h = false := by unfold eqH; rw [decide_eq_false hn]; simp
set_option maxRecDepth 100000 in
theorem rsame10_any (A0 A1 A2 : Option Addr) (n0 n1 n2 c0 c1 c2 B : Nat) (g : Hst) (Z0 Z1 Z2 : Option Addr) (m0 m1 m2 d0 d1 d2 B' : Nat) (h : Hst) (w : World) (hg : HIn w B A0 A1 A2 n0 n1 n2 g) (hh : HIn w B' Z0 Z1 Z2 m0 m1 m2 h) :
  Calls Tryz.prog 10 #[hval A0 A1 A2 n0 n1 n2 c0 c1 c2, hval Z0 Z1 Z2 m0 m1 m2 d0 d1 d2] w fun e w' => e = .returned (.bool (eqH g h)) ∧ Only [] w w' := by
 unfold hval;have HB0 := Hd ((Blk.made w 25 #[.slice A0 n0 c0, .slice A1 n1 c1, .slice A2 n2 c2]).alloc (.cells #[.slice Z0 m0 d0, .slice Z1 m1 d1, .slice Z2 m2 d2] 25));have hb1 := Blk.made (w.alloc (.cells #[.slice A0 n0 c0, .slice A1 n1 c1, .slice A2 n2 c2] 25)) 25 #[.slice Z0 m0 d0, .slice Z1 m1 d1, .slice Z2 m2 d2];simp only [World.size_alloc] at hb1;have HB1 := Hd hb1;have HO1 := Hd (((Only.refl [] w).alloc (.cells #[.slice A0 n0 c0, .slice A1 n1 c1, .slice A2 n2 c2] 25)).alloc (.cells #[.slice Z0 m0 d0, .slice Z1 m1 d1, .slice Z2 m2 d2] 25));have HG := Hd (hg.same HO1.out);have HH := Hd (hh.same HO1.out);clear hg hh hb1;go_enter Tryz.func10, Tryz.ntmps10;go_upto_region 1 with (fail)
 generalize ((w.alloc (.cells #[.slice A0 n0 c0, .slice A1 n1 c1, .slice A2 n2 c2] 25)).alloc (.cells #[.slice Z0 m0 d0, .slice Z1 m1 d1, .slice Z2 m2 d2] 25)) = w1 at *;generalize w.heap.size + 1 = g1 at *;generalize w.heap.size = g0 at *;have p0 := (Only.refl [] w1).blk HB0.out (by simp);have p1 := (Only.refl [] w1).blk HB1.out (by simp);have l0 := p0.lt;have l1 := p1.lt;have x0 := p0.at_ 0;have x1 := p0.at_ 1;have x2 := p0.at_ 2;have y0 := p1.at_ 0;have y1 := p1.at_ 1;have y2 := p1.at_ 2;simp at x0 x1 x2 y0 y1 y2;clear p0 p1;have HS := Hd (rtexts_any A0 Z0 n0 m0 c0 d0 g.ss h.ss w1 B B' HG.out.at_.r0 HH.out.at_.r0 HG.out.n0 HH.out.n0 (by have := HG.out.n0; have := HG.out.sm.ns; omega) (by have := HH.out.n0; have := HH.out.sm.ns; omega));have HK := Hd (fun w' (O : Only [] w1 w') => rtexts_any A1 Z1 n1 m1 c1 d1 g.ks h.ks w' B B' (HG.out.same O).at_.r1 (HH.out.same O).at_.r1 HG.out.n1 HH.out.n1 (by have := HG.out.n1; have := HG.out.sm.nk; omega) (by have := HH.out.n1; have := HH.out.sm.nk; omega));have hM : n2 ≤ 1000 := by rw [← HG.out.n2]; exact HG.out.sm.nl
 cases e3 : decide (g.ss = h.ss) with
 | false =>
  rw [e3] at HS;have HE := Hd (show eqH g h = false by unfold eqH; rw [e3]; simp);clear e3;go_wp2_with fail
  refine (HS.out).mono ?_;rintro e w2 ⟨rfl, q2, rfl⟩;have HN2 := Hd ((Only.refl [] w1).drewN q2);clear l0 l1 x0 x1 x2 y0 y1 y2;generalize w1.drewN q2 = w2 at *;go_wp2
  go_ret
  exact ⟨by rw [HE.out]; rfl, HO1.out.trans HN2.out⟩
 | true =>
  rw [e3] at HS;have E3 := Hd e3;clear e3;go_wp2_with fail
  refine (HS.out).mono ?_;rintro e w2 ⟨rfl, q2, rfl⟩;have HN2 := Hd ((Only.refl [] w1).drewN q2);clear l0 l1 x0 x1 x2 y0 y1 y2;generalize w1.drewN q2 = w2 at *;have p0 := HN2.out.blk HB0.out (by simp);have p1 := HN2.out.blk HB1.out (by simp);have l0 := p0.lt;have l1 := p1.lt;have x0 := p0.at_ 0;have x1 := p0.at_ 1;have x2 := p0.at_ 2;have y0 := p1.at_ 0;have y1 := p1.at_ 1;have y2 := p1.at_ 2;simp at x0 x1 x2 y0 y1 y2;clear p0 p1
  cases e4 : decide (g.ks = h.ks) with
  | false =>
   rw [e4] at HK;have HE := Hd (show eqH g h = false by unfold eqH; rw [e4]; simp);clear e4;go_wp2_with fail
   refine (HK.out _ HN2.out).mono ?_;rintro e w3 ⟨rfl, q3, rfl⟩;have HN3 := Hd (HN2.out.drewN q3);clear l0 l1 x0 x1 x2 y0 y1 y2;generalize w2.drewN q3 = w3 at *;go_wp2
   go_ret
   exact ⟨by rw [HE.out]; rfl, HO1.out.trans HN3.out⟩
  | true =>
   rw [e4] at HK;have E4 := Hd e4;clear e4;go_wp2_with fail
   refine (HK.out _ HN2.out).mono ?_;rintro e w3 ⟨rfl, q3, rfl⟩;have HN3 := Hd (HN2.out.drewN q3);clear l0 l1 x0 x1 x2 y0 y1 y2;generalize w2.drewN q3 = w3 at *;have p0 := HN3.out.blk HB0.out (by simp);have p1 := HN3.out.blk HB1.out (by simp);have l0 := p0.lt;have l1 := p1.lt;have x0 := p0.at_ 0;have x1 := p0.at_ 1;have x2 := p0.at_ 2;have y0 := p1.at_ 0;have y1 := p1.at_ 1;have y2 := p1.at_ 2;simp at x0 x1 x2 y0 y1 y2;clear p0 p1
   by_cases hlen : n2 = m2
   ·subst hlen;have hb2 : ((n2 : Int) != (n2 : Int)) = false := by simp
    go_wp2_with fail
    clear l0 l1 x0 x1 x2 y0 y1 y2
    go_loopw [5] (fun i wr => ∃ k : Nat, i = .int .i64 k ∧ k ≤ n2 ∧ Hid (g.l.take k = h.l.take k) ∧ Hid (Only [] w1 wr)) (fun i _ => n2 - (intOf i).toNat)
    case atStart => exact ⟨0, rfl, by omega, Hd rfl, HN3⟩
    case round =>
     obtain ⟨k, rfl, hk, hsame, hO⟩ := hrel;have hsz := hO.out.size;have hxl := HG.out.n2;have hyl := HH.out.n2;have b0 := hO.out.blk HB0.out (by simp);have b1 := hO.out.blk HB1.out (by simp);have l0 := b0.lt;have l1 := b1.lt;have x2 := b0.at_ 2;have y2 := b1.at_ 2;simp at x2 y2;have HC0 := Hd b0;have HC1 := Hd b1;clear b0 b1
     by_cases hlt : k < n2
     ·obtain ⟨x, hx⟩ : ∃ x, g.l[k]? = some x := ⟨_, List.getElem?_eq_getElem (by omega)⟩;obtain ⟨y, hy⟩ : ∃ y, h.l[k]? = some y := ⟨_, List.getElem?_eq_getElem (by omega)⟩;have HX := Hd hx;have HY := Hd hy;have hn1 := HG.out.sm.no x (List.mem_of_getElem? hx);have hn2 := HH.out.sm.no y (List.mem_of_getElem? hy);obtain ⟨b, off, Z, cz, rfl, -, hbw, hT, hOk⟩ := HG.out.at_.r2.at_ hx;obtain ⟨b', off', Z', cz', rfl, -, hbw', hT', hOk'⟩ := HH.out.at_.r2.at_ hy;obtain ⟨s, f, ops⟩ := x;obtain ⟨s', f', ops'⟩ := y;have HT1 := Hd (hT.only hO.out hbw (by simp));have HT2 := Hd (hT'.only hO.out hbw' (by simp));dsimp only at hn1 hn2;have hbr : b < wr.heap.size := by omega
      have hbr' : b' < wr.heap.size := by omega
      have HSO := Hd (fun w' (O : Only [] wr w') => rsameops_any Z Z' ops.length ops'.length cz cz' ops ops' w' B B' (hOk.row.only (hO.out.trans O) (by simp)) (hOk'.row.only (hO.out.trans O) (by simp)) rfl rfl (by omega) (by omega));have hk0 : (0 : Int) ≤ (k : Int) := Int.natCast_nonneg _;have hk1 : (k : Int) < (n2 : Int) := by omega
      have hwk : IntKind.i64.wrap ((k : Int) + 1) = (k : Int) + 1 := IntWalk.i64_in _ (by omega);generalize hlm : ops.length = mo at *;generalize hlm2 : ops'.length = mo' at *;have HLM := Hd hlm;have HLM2 := Hd hlm2;clear hlm hlm2;clear hx hy hxl hyl hT hT' hOk hOk';go_upto_region 6 with (fail)
      clear l0 l1 x2 y2
      by_cases hs : s = s'
      ·by_cases hf : f = f'
       ·have q1 : (s != s') = false := by simp [hs]
        have q2 : (f != f') = false := by simp [hf]
        subst hs hf;have HEO : Hid (decide (Tx.mk s f ops = Tx.mk s f ops') = decide (ops = ops')) := Hd (by simp)
        cases ho : decide (ops = ops') with
        | true =>
         rw [ho] at HSO HEO;have HXY := Hd (of_decide_eq_true HEO.out);clear ho;refine rg1 [] [] wr ?_;refine tQ 0 (h := ?_);refine trd (i := 1) (v := ?_) 0 ?_ ?_;rotate_left
         ·(intro wq hSw; have hb := hSw.blk HC0.out (by simp); have hb1 := hSw.blk HC1.out (by simp); have l0 := hb.lt; have l1 := hb1.lt; have x2 := hb.at_ 2; have y2 := hb1.at_ 2; simp at x2 y2; obtain ⟨a0, a1, a2⟩ := HT1.out.only hSw hbr (by simp); obtain ⟨e0, e1, e2⟩ := HT2.out.only hSw hbr' (by simp); dsimp only at a0 a1 a2 e0 e1 e2; try rw [HLM.out] at a2; try rw [HLM2.out] at e2; clear hSw; go_simp; try with_reducible rfl)
         (try simp only [tdz]);refine tQ 2 (h := tQ 3 (h := tQ 4 (h := ?_)));refine trd (i := 5) (v := ?_) 0 ?_ ?_;rotate_left
         ·(intro wq hSw; have hb := hSw.blk HC0.out (by simp); have hb1 := hSw.blk HC1.out (by simp); have l0 := hb.lt; have l1 := hb1.lt; have x2 := hb.at_ 2; have y2 := hb1.at_ 2; simp at x2 y2; obtain ⟨a0, a1, a2⟩ := HT1.out.only hSw hbr (by simp); obtain ⟨e0, e1, e2⟩ := HT2.out.only hSw hbr' (by simp); dsimp only at a0 a1 a2 e0 e1 e2; try rw [HLM.out] at a2; try rw [HLM2.out] at e2; clear hSw; go_simp; try with_reducible rfl)
         (try simp only [tdz]);refine tQ 6 (h := ?_);refine trd (i := 7) (v := ?_) 0 ?_ ?_;rotate_left
         ·(intro wq hSw; have hb := hSw.blk HC0.out (by simp); have hb1 := hSw.blk HC1.out (by simp); have l0 := hb.lt; have l1 := hb1.lt; have x2 := hb.at_ 2; have y2 := hb1.at_ 2; simp at x2 y2; obtain ⟨a0, a1, a2⟩ := HT1.out.only hSw hbr (by simp); obtain ⟨e0, e1, e2⟩ := HT2.out.only hSw hbr' (by simp); dsimp only at a0 a1 a2 e0 e1 e2; try rw [HLM.out] at a2; try rw [HLM2.out] at e2; clear hSw; go_simp; try with_reducible rfl)
         (try simp only [tdz]);refine tQ 8 (h := tQ 9 (h := tQ 10 (h := ?_)));refine trd (i := 11) (v := ?_) 0 ?_ ?_;rotate_left
         ·(intro wq hSw; have hb := hSw.blk HC0.out (by simp); have hb1 := hSw.blk HC1.out (by simp); have l0 := hb.lt; have l1 := hb1.lt; have x2 := hb.at_ 2; have y2 := hb1.at_ 2; simp at x2 y2; obtain ⟨a0, a1, a2⟩ := HT1.out.only hSw hbr (by simp); obtain ⟨e0, e1, e2⟩ := HT2.out.only hSw hbr' (by simp); dsimp only at a0 a1 a2 e0 e1 e2; try rw [HLM.out] at a2; try rw [HLM2.out] at e2; clear hSw; go_simp; try with_reducible rfl)
         (try simp only [tdz]);refine tQ 12 (h := tQ 13 (h := tQ 14 (h := ?_)));refine trd (i := 15) (v := ?_) 0 ?_ ?_;rotate_left
         ·(intro wq hSw; have hb := hSw.blk HC0.out (by simp); have hb1 := hSw.blk HC1.out (by simp); have l0 := hb.lt; have l1 := hb1.lt; have x2 := hb.at_ 2; have y2 := hb1.at_ 2; simp at x2 y2; obtain ⟨a0, a1, a2⟩ := HT1.out.only hSw hbr (by simp); obtain ⟨e0, e1, e2⟩ := HT2.out.only hSw hbr' (by simp); dsimp only at a0 a1 a2 e0 e1 e2; try rw [HLM.out] at a2; try rw [HLM2.out] at e2; clear hSw; go_simp; try with_reducible rfl)
         (try simp only [tdz]);refine tQ 16 (h := tQ 17 (h := tQ 18 (h := ?_)));refine trd (i := 19) (v := ?_) 0 ?_ ?_;rotate_left
         ·(intro wq hSw; have hb := hSw.blk HC0.out (by simp); have hb1 := hSw.blk HC1.out (by simp); have l0 := hb.lt; have l1 := hb1.lt; have x2 := hb.at_ 2; have y2 := hb1.at_ 2; simp at x2 y2; obtain ⟨a0, a1, a2⟩ := HT1.out.only hSw hbr (by simp); obtain ⟨e0, e1, e2⟩ := HT2.out.only hSw hbr' (by simp); dsimp only at a0 a1 a2 e0 e1 e2; try rw [HLM.out] at a2; try rw [HLM2.out] at e2; clear hSw; go_simp; try with_reducible rfl)
         (try simp only [tdz]);refine tQ 20 (h := ?_);refine trd (i := 21) (v := ?_) 0 ?_ ?_;rotate_left
         ·(intro wq hSw; have hb := hSw.blk HC0.out (by simp); have hb1 := hSw.blk HC1.out (by simp); have l0 := hb.lt; have l1 := hb1.lt; have x2 := hb.at_ 2; have y2 := hb1.at_ 2; simp at x2 y2; obtain ⟨a0, a1, a2⟩ := HT1.out.only hSw hbr (by simp); obtain ⟨e0, e1, e2⟩ := HT2.out.only hSw hbr' (by simp); dsimp only at a0 a1 a2 e0 e1 e2; try rw [HLM.out] at a2; try rw [HLM2.out] at e2; clear hSw; go_simp; try with_reducible rfl)
         (try simp only [tdz]);refine tQ 22 (h := tQ 23 (h := tQ 24 (h := ?_)));refine trd (i := 25) (v := ?_) 0 ?_ ?_;rotate_left
         ·(intro wq hSw; have hb := hSw.blk HC0.out (by simp); have hb1 := hSw.blk HC1.out (by simp); have l0 := hb.lt; have l1 := hb1.lt; have x2 := hb.at_ 2; have y2 := hb1.at_ 2; simp at x2 y2; obtain ⟨a0, a1, a2⟩ := HT1.out.only hSw hbr (by simp); obtain ⟨e0, e1, e2⟩ := HT2.out.only hSw hbr' (by simp); dsimp only at a0 a1 a2 e0 e1 e2; try rw [HLM.out] at a2; try rw [HLM2.out] at e2; clear hSw; go_simp; try with_reducible rfl)
         (try simp only [tdz]);refine tQ 26 (h := tQ 27 (h := tQ 28 (h := tQ 29 (h := ?_))));refine trd (i := 30) (v := ?_) 0 ?_ ?_;rotate_left
         ·(intro wq hSw; have hb := hSw.blk HC0.out (by simp); have hb1 := hSw.blk HC1.out (by simp); have l0 := hb.lt; have l1 := hb1.lt; have x2 := hb.at_ 2; have y2 := hb1.at_ 2; simp at x2 y2; obtain ⟨a0, a1, a2⟩ := HT1.out.only hSw hbr (by simp); obtain ⟨e0, e1, e2⟩ := HT2.out.only hSw hbr' (by simp); dsimp only at a0 a1 a2 e0 e1 e2; try rw [HLM.out] at a2; try rw [HLM2.out] at e2; clear hSw; go_simp; try with_reducible rfl)
         (try simp only [tdz]);refine tQ 31 (h := tQ 32 (h := tQ 33 (h := ?_)));refine trd (i := 34) (v := ?_) 0 ?_ ?_;rotate_left
         ·(intro wq hSw; have hb := hSw.blk HC0.out (by simp); have hb1 := hSw.blk HC1.out (by simp); have l0 := hb.lt; have l1 := hb1.lt; have x2 := hb.at_ 2; have y2 := hb1.at_ 2; simp at x2 y2; obtain ⟨a0, a1, a2⟩ := HT1.out.only hSw hbr (by simp); obtain ⟨e0, e1, e2⟩ := HT2.out.only hSw hbr' (by simp); dsimp only at a0 a1 a2 e0 e1 e2; try rw [HLM.out] at a2; try rw [HLM2.out] at e2; clear hSw; go_simp; try with_reducible rfl)
         (try simp only [tdz]);refine tQ 35 (h := ?_);refine trd (i := 36) (v := ?_) 0 ?_ ?_;rotate_left
         ·(intro wq hSw; have hb := hSw.blk HC0.out (by simp); have hb1 := hSw.blk HC1.out (by simp); have l0 := hb.lt; have l1 := hb1.lt; have x2 := hb.at_ 2; have y2 := hb1.at_ 2; simp at x2 y2; obtain ⟨a0, a1, a2⟩ := HT1.out.only hSw hbr (by simp); obtain ⟨e0, e1, e2⟩ := HT2.out.only hSw hbr' (by simp); dsimp only at a0 a1 a2 e0 e1 e2; try rw [HLM.out] at a2; try rw [HLM2.out] at e2; clear hSw; go_simp; try with_reducible rfl)
         (try simp only [tdz]);refine tQ 37 (h := tQ 38 (h := tQ 39 (h := ?_)));refine trd (i := 40) (v := ?_) 0 ?_ ?_;rotate_left
         ·(intro wq hSw; have hb := hSw.blk HC0.out (by simp); have hb1 := hSw.blk HC1.out (by simp); have l0 := hb.lt; have l1 := hb1.lt; have x2 := hb.at_ 2; have y2 := hb1.at_ 2; simp at x2 y2; obtain ⟨a0, a1, a2⟩ := HT1.out.only hSw hbr (by simp); obtain ⟨e0, e1, e2⟩ := HT2.out.only hSw hbr' (by simp); dsimp only at a0 a1 a2 e0 e1 e2; try rw [HLM.out] at a2; try rw [HLM2.out] at e2; clear hSw; go_simp; try with_reducible rfl)
         (try simp only [tdz]);refine tst (i := 41) fun K hK => ?_;go_simp;refine (HSO.out _ ((Only.refl [] _).drew)).mono ?_;rintro e w5 ⟨rfl, q5, e5⟩;have O5 : Only [] wr.drew w5 := e5 ▸ (Only.refl [] wr.drew).drewN q5;clear e5;refine kOut hK (((Only.refl [] wr).drew).trans O5) (h := ?_);clear hK K;refine tQ 42 (h := tQ 43 (h := ?_));refine tdn ?_;have HNW := Hd (hO.out.trans (((Only.refl [] wr).drew).trans O5));go_wp2
         go_roundw
         case rel => exact ⟨k + 1, by go_num, by omega, Hd ((takeG_eq hsame.out HX.out HY.out).2 HXY.out), HNW⟩
         case measure => simp [intOf]; omega
        | false =>
         rw [ho] at HSO HEO;have HXY := Hd (of_decide_eq_false HEO.out);clear ho;refine rg1 [] [] wr ?_;refine tQ 0 (h := ?_);refine trd (i := 1) (v := ?_) 0 ?_ ?_;rotate_left
         ·(intro wq hSw; have hb := hSw.blk HC0.out (by simp); have hb1 := hSw.blk HC1.out (by simp); have l0 := hb.lt; have l1 := hb1.lt; have x2 := hb.at_ 2; have y2 := hb1.at_ 2; simp at x2 y2; obtain ⟨a0, a1, a2⟩ := HT1.out.only hSw hbr (by simp); obtain ⟨e0, e1, e2⟩ := HT2.out.only hSw hbr' (by simp); dsimp only at a0 a1 a2 e0 e1 e2; try rw [HLM.out] at a2; try rw [HLM2.out] at e2; clear hSw; go_simp; try with_reducible rfl)
         (try simp only [tdz]);refine tQ 2 (h := tQ 3 (h := tQ 4 (h := ?_)));refine trd (i := 5) (v := ?_) 0 ?_ ?_;rotate_left
         ·(intro wq hSw; have hb := hSw.blk HC0.out (by simp); have hb1 := hSw.blk HC1.out (by simp); have l0 := hb.lt; have l1 := hb1.lt; have x2 := hb.at_ 2; have y2 := hb1.at_ 2; simp at x2 y2; obtain ⟨a0, a1, a2⟩ := HT1.out.only hSw hbr (by simp); obtain ⟨e0, e1, e2⟩ := HT2.out.only hSw hbr' (by simp); dsimp only at a0 a1 a2 e0 e1 e2; try rw [HLM.out] at a2; try rw [HLM2.out] at e2; clear hSw; go_simp; try with_reducible rfl)
         (try simp only [tdz]);refine tQ 6 (h := ?_);refine trd (i := 7) (v := ?_) 0 ?_ ?_;rotate_left
         ·(intro wq hSw; have hb := hSw.blk HC0.out (by simp); have hb1 := hSw.blk HC1.out (by simp); have l0 := hb.lt; have l1 := hb1.lt; have x2 := hb.at_ 2; have y2 := hb1.at_ 2; simp at x2 y2; obtain ⟨a0, a1, a2⟩ := HT1.out.only hSw hbr (by simp); obtain ⟨e0, e1, e2⟩ := HT2.out.only hSw hbr' (by simp); dsimp only at a0 a1 a2 e0 e1 e2; try rw [HLM.out] at a2; try rw [HLM2.out] at e2; clear hSw; go_simp; try with_reducible rfl)
         (try simp only [tdz]);refine tQ 8 (h := tQ 9 (h := tQ 10 (h := ?_)));refine trd (i := 11) (v := ?_) 0 ?_ ?_;rotate_left
         ·(intro wq hSw; have hb := hSw.blk HC0.out (by simp); have hb1 := hSw.blk HC1.out (by simp); have l0 := hb.lt; have l1 := hb1.lt; have x2 := hb.at_ 2; have y2 := hb1.at_ 2; simp at x2 y2; obtain ⟨a0, a1, a2⟩ := HT1.out.only hSw hbr (by simp); obtain ⟨e0, e1, e2⟩ := HT2.out.only hSw hbr' (by simp); dsimp only at a0 a1 a2 e0 e1 e2; try rw [HLM.out] at a2; try rw [HLM2.out] at e2; clear hSw; go_simp; try with_reducible rfl)
         (try simp only [tdz]);refine tQ 12 (h := tQ 13 (h := tQ 14 (h := ?_)));refine trd (i := 15) (v := ?_) 0 ?_ ?_;rotate_left
         ·(intro wq hSw; have hb := hSw.blk HC0.out (by simp); have hb1 := hSw.blk HC1.out (by simp); have l0 := hb.lt; have l1 := hb1.lt; have x2 := hb.at_ 2; have y2 := hb1.at_ 2; simp at x2 y2; obtain ⟨a0, a1, a2⟩ := HT1.out.only hSw hbr (by simp); obtain ⟨e0, e1, e2⟩ := HT2.out.only hSw hbr' (by simp); dsimp only at a0 a1 a2 e0 e1 e2; try rw [HLM.out] at a2; try rw [HLM2.out] at e2; clear hSw; go_simp; try with_reducible rfl)
         (try simp only [tdz]);refine tQ 16 (h := tQ 17 (h := tQ 18 (h := ?_)));refine trd (i := 19) (v := ?_) 0 ?_ ?_;rotate_left
         ·(intro wq hSw; have hb := hSw.blk HC0.out (by simp); have hb1 := hSw.blk HC1.out (by simp); have l0 := hb.lt; have l1 := hb1.lt; have x2 := hb.at_ 2; have y2 := hb1.at_ 2; simp at x2 y2; obtain ⟨a0, a1, a2⟩ := HT1.out.only hSw hbr (by simp); obtain ⟨e0, e1, e2⟩ := HT2.out.only hSw hbr' (by simp); dsimp only at a0 a1 a2 e0 e1 e2; try rw [HLM.out] at a2; try rw [HLM2.out] at e2; clear hSw; go_simp; try with_reducible rfl)
         (try simp only [tdz]);refine tQ 20 (h := ?_);refine trd (i := 21) (v := ?_) 0 ?_ ?_;rotate_left
         ·(intro wq hSw; have hb := hSw.blk HC0.out (by simp); have hb1 := hSw.blk HC1.out (by simp); have l0 := hb.lt; have l1 := hb1.lt; have x2 := hb.at_ 2; have y2 := hb1.at_ 2; simp at x2 y2; obtain ⟨a0, a1, a2⟩ := HT1.out.only hSw hbr (by simp); obtain ⟨e0, e1, e2⟩ := HT2.out.only hSw hbr' (by simp); dsimp only at a0 a1 a2 e0 e1 e2; try rw [HLM.out] at a2; try rw [HLM2.out] at e2; clear hSw; go_simp; try with_reducible rfl)
         (try simp only [tdz]);refine tQ 22 (h := tQ 23 (h := tQ 24 (h := ?_)));refine trd (i := 25) (v := ?_) 0 ?_ ?_;rotate_left
         ·(intro wq hSw; have hb := hSw.blk HC0.out (by simp); have hb1 := hSw.blk HC1.out (by simp); have l0 := hb.lt; have l1 := hb1.lt; have x2 := hb.at_ 2; have y2 := hb1.at_ 2; simp at x2 y2; obtain ⟨a0, a1, a2⟩ := HT1.out.only hSw hbr (by simp); obtain ⟨e0, e1, e2⟩ := HT2.out.only hSw hbr' (by simp); dsimp only at a0 a1 a2 e0 e1 e2; try rw [HLM.out] at a2; try rw [HLM2.out] at e2; clear hSw; go_simp; try with_reducible rfl)
         (try simp only [tdz]);refine tQ 26 (h := tQ 27 (h := tQ 28 (h := tQ 29 (h := ?_))));refine trd (i := 30) (v := ?_) 0 ?_ ?_;rotate_left
         ·(intro wq hSw; have hb := hSw.blk HC0.out (by simp); have hb1 := hSw.blk HC1.out (by simp); have l0 := hb.lt; have l1 := hb1.lt; have x2 := hb.at_ 2; have y2 := hb1.at_ 2; simp at x2 y2; obtain ⟨a0, a1, a2⟩ := HT1.out.only hSw hbr (by simp); obtain ⟨e0, e1, e2⟩ := HT2.out.only hSw hbr' (by simp); dsimp only at a0 a1 a2 e0 e1 e2; try rw [HLM.out] at a2; try rw [HLM2.out] at e2; clear hSw; go_simp; try with_reducible rfl)
         (try simp only [tdz]);refine tQ 31 (h := tQ 32 (h := tQ 33 (h := ?_)));refine trd (i := 34) (v := ?_) 0 ?_ ?_;rotate_left
         ·(intro wq hSw; have hb := hSw.blk HC0.out (by simp); have hb1 := hSw.blk HC1.out (by simp); have l0 := hb.lt; have l1 := hb1.lt; have x2 := hb.at_ 2; have y2 := hb1.at_ 2; simp at x2 y2; obtain ⟨a0, a1, a2⟩ := HT1.out.only hSw hbr (by simp); obtain ⟨e0, e1, e2⟩ := HT2.out.only hSw hbr' (by simp); dsimp only at a0 a1 a2 e0 e1 e2; try rw [HLM.out] at a2; try rw [HLM2.out] at e2; clear hSw; go_simp; try with_reducible rfl)
         (try simp only [tdz]);refine tQ 35 (h := ?_);refine trd (i := 36) (v := ?_) 0 ?_ ?_;rotate_left
         ·(intro wq hSw; have hb := hSw.blk HC0.out (by simp); have hb1 := hSw.blk HC1.out (by simp); have l0 := hb.lt; have l1 := hb1.lt; have x2 := hb.at_ 2; have y2 := hb1.at_ 2; simp at x2 y2; obtain ⟨a0, a1, a2⟩ := HT1.out.only hSw hbr (by simp); obtain ⟨e0, e1, e2⟩ := HT2.out.only hSw hbr' (by simp); dsimp only at a0 a1 a2 e0 e1 e2; try rw [HLM.out] at a2; try rw [HLM2.out] at e2; clear hSw; go_simp; try with_reducible rfl)
         (try simp only [tdz]);refine tQ 37 (h := tQ 38 (h := tQ 39 (h := ?_)));refine trd (i := 40) (v := ?_) 0 ?_ ?_;rotate_left
         ·(intro wq hSw; have hb := hSw.blk HC0.out (by simp); have hb1 := hSw.blk HC1.out (by simp); have l0 := hb.lt; have l1 := hb1.lt; have x2 := hb.at_ 2; have y2 := hb1.at_ 2; simp at x2 y2; obtain ⟨a0, a1, a2⟩ := HT1.out.only hSw hbr (by simp); obtain ⟨e0, e1, e2⟩ := HT2.out.only hSw hbr' (by simp); dsimp only at a0 a1 a2 e0 e1 e2; try rw [HLM.out] at a2; try rw [HLM2.out] at e2; clear hSw; go_simp; try with_reducible rfl)
         (try simp only [tdz]);refine tst (i := 41) fun K hK => ?_;go_simp;refine (HSO.out _ ((Only.refl [] _).drew)).mono ?_;rintro e w5 ⟨rfl, q5, e5⟩;have O5 : Only [] wr.drew w5 := e5 ▸ (Only.refl [] wr.drew).drewN q5;clear e5;refine kOut hK (((Only.refl [] wr).drew).trans O5) (h := ?_);clear hK K;refine tQ 42 (h := tQ 43 (h := ?_));refine tdn ?_;have HNW := Hd (hO.out.trans (((Only.refl [] wr).drew).trans O5));go_wp2
         go_ret
         exact ⟨by rw [eqH_l fun e => HXY.out (by have h1 := HX.out; have h2 := HY.out; rw [e] at h1; rw [h1] at h2; exact Option.some.inj h2)]; rfl, HO1.out.trans HNW.out⟩
       ·have q1 : (s != s') = false := by simp [hs]
        have q2 : (f != f') = true := by simp [hf]
        have HXY : Hid (Tx.mk s f ops ≠ Tx.mk s' f' ops') := Hd (fun e => by injection e; contradiction);clear hs hf;refine rg1 [] [] wr ?_;refine tQ 0 (h := ?_);refine trd (i := 1) (v := ?_) 0 ?_ ?_;rotate_left
        ·(intro wq hSw; have hb := hSw.blk HC0.out (by simp); have hb1 := hSw.blk HC1.out (by simp); have l0 := hb.lt; have l1 := hb1.lt; have x2 := hb.at_ 2; have y2 := hb1.at_ 2; simp at x2 y2; obtain ⟨a0, a1, a2⟩ := HT1.out.only hSw hbr (by simp); obtain ⟨e0, e1, e2⟩ := HT2.out.only hSw hbr' (by simp); dsimp only at a0 a1 a2 e0 e1 e2; try rw [HLM.out] at a2; try rw [HLM2.out] at e2; clear hSw; go_simp; try with_reducible rfl)
        (try simp only [tdz]);refine tQ 2 (h := tQ 3 (h := tQ 4 (h := ?_)));refine trd (i := 5) (v := ?_) 0 ?_ ?_;rotate_left
        ·(intro wq hSw; have hb := hSw.blk HC0.out (by simp); have hb1 := hSw.blk HC1.out (by simp); have l0 := hb.lt; have l1 := hb1.lt; have x2 := hb.at_ 2; have y2 := hb1.at_ 2; simp at x2 y2; obtain ⟨a0, a1, a2⟩ := HT1.out.only hSw hbr (by simp); obtain ⟨e0, e1, e2⟩ := HT2.out.only hSw hbr' (by simp); dsimp only at a0 a1 a2 e0 e1 e2; try rw [HLM.out] at a2; try rw [HLM2.out] at e2; clear hSw; go_simp; try with_reducible rfl)
        (try simp only [tdz]);refine tQ 6 (h := ?_);refine trd (i := 7) (v := ?_) 0 ?_ ?_;rotate_left
        ·(intro wq hSw; have hb := hSw.blk HC0.out (by simp); have hb1 := hSw.blk HC1.out (by simp); have l0 := hb.lt; have l1 := hb1.lt; have x2 := hb.at_ 2; have y2 := hb1.at_ 2; simp at x2 y2; obtain ⟨a0, a1, a2⟩ := HT1.out.only hSw hbr (by simp); obtain ⟨e0, e1, e2⟩ := HT2.out.only hSw hbr' (by simp); dsimp only at a0 a1 a2 e0 e1 e2; try rw [HLM.out] at a2; try rw [HLM2.out] at e2; clear hSw; go_simp; try with_reducible rfl)
        (try simp only [tdz]);refine tQ 8 (h := tQ 9 (h := tQ 10 (h := ?_)));refine trd (i := 11) (v := ?_) 0 ?_ ?_;rotate_left
        ·(intro wq hSw; have hb := hSw.blk HC0.out (by simp); have hb1 := hSw.blk HC1.out (by simp); have l0 := hb.lt; have l1 := hb1.lt; have x2 := hb.at_ 2; have y2 := hb1.at_ 2; simp at x2 y2; obtain ⟨a0, a1, a2⟩ := HT1.out.only hSw hbr (by simp); obtain ⟨e0, e1, e2⟩ := HT2.out.only hSw hbr' (by simp); dsimp only at a0 a1 a2 e0 e1 e2; try rw [HLM.out] at a2; try rw [HLM2.out] at e2; clear hSw; go_simp; try with_reducible rfl)
        (try simp only [tdz]);refine tQ 12 (h := tQ 13 (h := tQ 14 (h := ?_)));refine trd (i := 15) (v := ?_) 0 ?_ ?_;rotate_left
        ·(intro wq hSw; have hb := hSw.blk HC0.out (by simp); have hb1 := hSw.blk HC1.out (by simp); have l0 := hb.lt; have l1 := hb1.lt; have x2 := hb.at_ 2; have y2 := hb1.at_ 2; simp at x2 y2; obtain ⟨a0, a1, a2⟩ := HT1.out.only hSw hbr (by simp); obtain ⟨e0, e1, e2⟩ := HT2.out.only hSw hbr' (by simp); dsimp only at a0 a1 a2 e0 e1 e2; try rw [HLM.out] at a2; try rw [HLM2.out] at e2; clear hSw; go_simp; try with_reducible rfl)
        (try simp only [tdz]);refine tQ 16 (h := tQ 17 (h := tQ 18 (h := ?_)));refine trd (i := 19) (v := ?_) 0 ?_ ?_;rotate_left
        ·(intro wq hSw; have hb := hSw.blk HC0.out (by simp); have hb1 := hSw.blk HC1.out (by simp); have l0 := hb.lt; have l1 := hb1.lt; have x2 := hb.at_ 2; have y2 := hb1.at_ 2; simp at x2 y2; obtain ⟨a0, a1, a2⟩ := HT1.out.only hSw hbr (by simp); obtain ⟨e0, e1, e2⟩ := HT2.out.only hSw hbr' (by simp); dsimp only at a0 a1 a2 e0 e1 e2; try rw [HLM.out] at a2; try rw [HLM2.out] at e2; clear hSw; go_simp; try with_reducible rfl)
        (try simp only [tdz]);refine tQ 20 (h := ?_);refine trd (i := 21) (v := ?_) 0 ?_ ?_;rotate_left
        ·(intro wq hSw; have hb := hSw.blk HC0.out (by simp); have hb1 := hSw.blk HC1.out (by simp); have l0 := hb.lt; have l1 := hb1.lt; have x2 := hb.at_ 2; have y2 := hb1.at_ 2; simp at x2 y2; obtain ⟨a0, a1, a2⟩ := HT1.out.only hSw hbr (by simp); obtain ⟨e0, e1, e2⟩ := HT2.out.only hSw hbr' (by simp); dsimp only at a0 a1 a2 e0 e1 e2; try rw [HLM.out] at a2; try rw [HLM2.out] at e2; clear hSw; go_simp; try with_reducible rfl)
        (try simp only [tdz]);refine tQ 22 (h := tQ 23 (h := tQ 24 (h := ?_)));refine trd (i := 25) (v := ?_) 0 ?_ ?_;rotate_left
        ·(intro wq hSw; have hb := hSw.blk HC0.out (by simp); have hb1 := hSw.blk HC1.out (by simp); have l0 := hb.lt; have l1 := hb1.lt; have x2 := hb.at_ 2; have y2 := hb1.at_ 2; simp at x2 y2; obtain ⟨a0, a1, a2⟩ := HT1.out.only hSw hbr (by simp); obtain ⟨e0, e1, e2⟩ := HT2.out.only hSw hbr' (by simp); dsimp only at a0 a1 a2 e0 e1 e2; try rw [HLM.out] at a2; try rw [HLM2.out] at e2; clear hSw; go_simp; try with_reducible rfl)
        (try simp only [tdz]);refine tQ 26 (h := tQ 27 (h := tQ 28 (h := tiq 29 (h := tiq 30 (h := tiq 31 (h := tiq 32 (h := tiq 33 (h := tiq 34 (h := tiq 35 (h := tiq 36 (h := tiq 37 (h := tiq 38 (h := tiq 39 (h := tiq 40 (h := tiq 41 (h := tiq 42 (h := tQ 43 (h := ?_))))))))))))))))));refine tdn ?_;have HNW := Hd (hO.out.trans ((Only.refl [] wr).drew));go_wp2
        go_ret
        exact ⟨by rw [eqH_l fun e => HXY.out (by have h1 := HX.out; have h2 := HY.out; rw [e] at h1; rw [h1] at h2; exact Option.some.inj h2)]; rfl, HO1.out.trans HNW.out⟩
      ·have q1 : (s != s') = true := by simp [hs]
       have HXY : Hid (Tx.mk s f ops ≠ Tx.mk s' f' ops') := Hd (fun e => by injection e; contradiction);clear hs;refine rg1 [] [] wr ?_;refine tQ 0 (h := ?_);refine trd (i := 1) (v := ?_) 0 ?_ ?_;rotate_left
       ·(intro wq hSw; have hb := hSw.blk HC0.out (by simp); have hb1 := hSw.blk HC1.out (by simp); have l0 := hb.lt; have l1 := hb1.lt; have x2 := hb.at_ 2; have y2 := hb1.at_ 2; simp at x2 y2; obtain ⟨a0, a1, a2⟩ := HT1.out.only hSw hbr (by simp); obtain ⟨e0, e1, e2⟩ := HT2.out.only hSw hbr' (by simp); dsimp only at a0 a1 a2 e0 e1 e2; try rw [HLM.out] at a2; try rw [HLM2.out] at e2; clear hSw; go_simp; try with_reducible rfl)
       (try simp only [tdz]);refine tQ 2 (h := tQ 3 (h := tQ 4 (h := ?_)));refine trd (i := 5) (v := ?_) 0 ?_ ?_;rotate_left
       ·(intro wq hSw; have hb := hSw.blk HC0.out (by simp); have hb1 := hSw.blk HC1.out (by simp); have l0 := hb.lt; have l1 := hb1.lt; have x2 := hb.at_ 2; have y2 := hb1.at_ 2; simp at x2 y2; obtain ⟨a0, a1, a2⟩ := HT1.out.only hSw hbr (by simp); obtain ⟨e0, e1, e2⟩ := HT2.out.only hSw hbr' (by simp); dsimp only at a0 a1 a2 e0 e1 e2; try rw [HLM.out] at a2; try rw [HLM2.out] at e2; clear hSw; go_simp; try with_reducible rfl)
       (try simp only [tdz]);refine tQ 6 (h := ?_);refine trd (i := 7) (v := ?_) 0 ?_ ?_;rotate_left
       ·(intro wq hSw; have hb := hSw.blk HC0.out (by simp); have hb1 := hSw.blk HC1.out (by simp); have l0 := hb.lt; have l1 := hb1.lt; have x2 := hb.at_ 2; have y2 := hb1.at_ 2; simp at x2 y2; obtain ⟨a0, a1, a2⟩ := HT1.out.only hSw hbr (by simp); obtain ⟨e0, e1, e2⟩ := HT2.out.only hSw hbr' (by simp); dsimp only at a0 a1 a2 e0 e1 e2; try rw [HLM.out] at a2; try rw [HLM2.out] at e2; clear hSw; go_simp; try with_reducible rfl)
       (try simp only [tdz]);refine tQ 8 (h := tQ 9 (h := tQ 10 (h := ?_)));refine trd (i := 11) (v := ?_) 0 ?_ ?_;rotate_left
       ·(intro wq hSw; have hb := hSw.blk HC0.out (by simp); have hb1 := hSw.blk HC1.out (by simp); have l0 := hb.lt; have l1 := hb1.lt; have x2 := hb.at_ 2; have y2 := hb1.at_ 2; simp at x2 y2; obtain ⟨a0, a1, a2⟩ := HT1.out.only hSw hbr (by simp); obtain ⟨e0, e1, e2⟩ := HT2.out.only hSw hbr' (by simp); dsimp only at a0 a1 a2 e0 e1 e2; try rw [HLM.out] at a2; try rw [HLM2.out] at e2; clear hSw; go_simp; try with_reducible rfl)
       (try simp only [tdz]);refine tQ 12 (h := tQ 13 (h := tiq 14 (h := tiq 15 (h := tiq 16 (h := tiq 17 (h := tiq 18 (h := tiq 19 (h := tiq 20 (h := tiq 21 (h := tiq 22 (h := tiq 23 (h := tiq 24 (h := tiq 25 (h := tiq 26 (h := tQ 27 (h := tQ 28 (h := tiq 29 (h := tiq 30 (h := tiq 31 (h := tiq 32 (h := tiq 33 (h := tiq 34 (h := tiq 35 (h := tiq 36 (h := tiq 37 (h := tiq 38 (h := tiq 39 (h := tiq 40 (h := tiq 41 (h := tiq 42 (h := tQ 43 (h := ?_))))))))))))))))))))))))))))))));refine tdn ?_;have HNW := Hd (hO.out.trans ((Only.refl [] wr).drew));go_wp2
       go_ret
       exact ⟨by rw [eqH_l fun e => HXY.out (by have h1 := HX.out; have h2 := HY.out; rw [e] at h1; rw [h1] at h2; exact Option.some.inj h2)]; rfl, HO1.out.trans HNW.out⟩
     ·have hkn : k = n2 := by omega
      subst hkn;have hd : decide ((k : Int) < (k : Int)) = false := by simp
      have HE : Hid (eqH g h = true) := Hd (by
       have h1 := hsame.out;rw [List.take_of_length_le (by omega), List.take_of_length_le (by omega)] at h1;unfold eqH;rw [E3.out, E4.out, h1];simp)
      clear hxl hyl;go_wp2
      go_ret
      exact ⟨by rw [HE.out]; rfl, HO1.out.trans hO.out⟩
   ·have hb2 : ((n2 : Int) != (m2 : Int)) = true := by simp; omega
    have HE : Hid (eqH g h = false) := Hd (eqH_l fun e => hlen (by rw [← HG.out.n2, ← HH.out.n2, e]));clear hlen;go_wp2
    go_ret
    exact ⟨by rw [HE.out]; rfl, HO1.out.trans HN3.out⟩
end Go.Proofs.YtghimogdeijgdaaGreatDoor
