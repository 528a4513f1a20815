/- Parts. -/
import Derived.Test.YtghimogdeijgdaaGreatDoorLaw17AllK38
set_option maxRecDepth 10000
set_option maxHeartbeats 16000000
set_option linter.unusedVariables false
set_option linter.unusedSimpArgs false
namespace Go.Proofs.YtghimogdeijgdaaGreatDoor
open Go.RowKit
open Go.Lib hiding intOf
attribute [local go_sem ↓] Go.wp_at_zero Go.wp_at_succ
attribute [local go_sem ↓] run_neq_op4
theorem info_wbool : (Tryz.prog.info? 4).map (fun i => (i.zero, i.size, i.bytes)) = some (some (.bool false), 1, 1) := by kernel_rfl
theorem info_wval : (Tryz.prog.info? 53).map (fun i => (i.zero, i.size, i.bytes)) = some (some (.agg #[.int .i64 0, .int .i64 0]), 2, 16) := by kernel_rfl
def okB5 (h g : Hst) : Bool := mayH h && (wholeB g && (decide (h.ss = g.ss) && (decide (h.ks = g.ks) && decide (h.l.length = g.l.length))))
theorem isWld_ok5 {h g : Hst} (e : okB5 h g = false) : isWld h g = false := by
 unfold okB5 at e;unfold isWld matchB;generalize mayH h = a1 at *;generalize wholeB g = a2 at *;generalize decide (h.ss = g.ss) = a3 at *;generalize decide (h.ks = g.ks) = a4 at *;generalize decide (h.l.length = g.l.length) = a5 at *
 revert e
 cases a1 <;> cases a2 <;> cases a3 <;> cases a4 <;> cases a5 <;> simp
theorem isWld_yes5 {h g : Hst} (e : okB5 h g = true) (ht : txsSB h.l g.l = true) : isWld h g = true := by
 unfold okB5 at e;unfold isWld matchB;rw [ht]
 cases h1 : mayH h <;> cases h2 : wholeB g <;> cases h3 : decide (h.ss = g.ss) <;> cases h4 : decide (h.ks = g.ks) <;> cases h5 : decide (h.l.length = g.l.length) <;> simp [h1, h2, h3, h4, h5] at e ⊢
theorem wwld_any (A0 A1 A2 Z0 Z1 Z2 : Option Addr) (n0 n1 n2 c0 c1 c2 m0 m1 m2 d0 d1 d2 B B' : Nat) (h g : Hst) (w : World) (hg : HIn w B A0 A1 A2 n0 n1 n2 h) (hz : HIn w B' Z0 Z1 Z2 m0 m1 m2 g) :
  Calls Tryz.prog 14 #[hval A0 A1 A2 n0 n1 n2 c0 c1 c2, hval Z0 Z1 Z2 m0 m1 m2 d0 d1 d2] w fun e w' => ∃ Y, (e = .returned (.tuple #[Y, .bool (isWld h g)]) ∧ WAgg w' w.heap.size (wldR h g) Y) ∧ Only [] w w' := by
 have HI := Hd hg;have HZ := Hd hz;have HMY := Hd (fun w' (O : Only [] w w') => hmay_any A0 A1 A2 n0 n1 n2 c0 c1 c2 B h w' (hg.same O));have HIS := Hd (fun w' (O : Only [] w w') => wis_any Z0 Z1 Z2 m0 m1 m2 d0 d1 d2 B' g w' (hz.same O));have HE0 := Hd (fun w' (O : Only [] w w') => eqstr_any A0 Z0 n0 m0 c0 d0 h.ss g.ss w' B B' (hg.same O).at_.r0 (hz.same O).at_.r0 hg.n0 hz.n0 (by have := hg.sm.ns; have := hg.n0; omega) (by have := hz.sm.ns; have := hz.n0; omega));have HE1 := Hd (fun w' (O : Only [] w w') => eqstr_any A1 Z1 n1 m1 c1 d1 h.ks g.ks w' B B' (hg.same O).at_.r1 (hz.same O).at_.r1 hg.n1 hz.n1 (by have := hg.sm.nk; have := hg.n1; omega) (by have := hz.sm.nk; have := hz.n1; omega));unfold hval at HMY HIS ⊢;have O1 : Only [] w (((w.alloc (.cells #[.slice A0 n0 c0, .slice A1 n1 c1, .slice A2 n2 c2] 25)).alloc (.cells #[.slice Z0 m0 d0, .slice Z1 m1 d1, .slice Z2 m2 d2] 25)).alloc (.cells #[.slice none 0 0, .slice none 0 0] 29)) := (((Only.refl [] w).alloc _).alloc _).alloc _;have HO1 := Hd O1;have HB1 := Hd (((Blk.made w 25 #[.slice A0 n0 c0, .slice A1 n1 c1, .slice A2 n2 c2]).alloc (.cells #[.slice Z0 m0 d0, .slice Z1 m1 d1, .slice Z2 m2 d2] 25)).alloc (.cells #[.slice none 0 0, .slice none 0 0] 29));have HG1 := Hd ((Blk.made (w.alloc (.cells #[.slice A0 n0 c0, .slice A1 n1 c1, .slice A2 n2 c2] 25)) 25 #[.slice Z0 m0 d0, .slice Z1 m1 d1, .slice Z2 m2 d2]).alloc (.cells #[.slice none 0 0, .slice none 0 0] 29));have HR1 := Hd (Blk.made ((w.alloc (.cells #[.slice A0 n0 c0, .slice A1 n1 c1, .slice A2 n2 c2] 25)).alloc (.cells #[.slice Z0 m0 d0, .slice Z1 m1 d1, .slice Z2 m2 d2] 25)) 29 #[.slice none 0 0, .slice none 0 0]);simp only [World.size_alloc] at HG1 HR1;have HN := Hd hg.n2;have HM := Hd hz.n2;have hn2 : n2 ≤ 1000 := by rw [← hg.n2]; exact hg.sm.nl
 have hm2 : m2 ≤ 1000 := by rw [← hz.n2]; exact hz.sm.nl
 clear O1 hg hz;go_enter Tryz.func14, Tryz.ntmps14;go_upto_region 1 with (fail)
 generalize (((w.alloc (.cells #[.slice A0 n0 c0, .slice A1 n1 c1, .slice A2 n2 c2] 25)).alloc (.cells #[.slice Z0 m0 d0, .slice Z1 m1 d1, .slice Z2 m2 d2] 25)).alloc (.cells #[.slice none 0 0, .slice none 0 0] 29)) = w1 at *;generalize hgr : w.heap.size + 1 + 1 = gr at *;generalize hgg : w.heap.size + 1 = gg at *;go_cut [44] (fun bv wx => bv = .bool (!okB5 h g) ∧ Hid (Only [] w1 wx))
 case first =>
  have lHB_ := HB1.out.lt;have y0 := HB1.out.at_ 0;have y1 := HB1.out.at_ 1;have y2 := HB1.out.at_ 2;have lHG_ := HG1.out.lt;have z0 := HG1.out.at_ 0;have z1 := HG1.out.at_ 1;have z2 := HG1.out.at_ 2;simp at y0 y1 y2 z0 z1 z2;have HQ1 := Hd (Only.refl [] w1)
  cases hm : mayH h with
  | false =>
   rw [errH_not hm] at HMY;have HOK : Hid (okB5 h g = false) := Hd (by unfold okB5; rw [hm]; rfl);clear hm;go_wp2_with fail
   refine (HMY.out _ HO1.out).mono ?_;rintro e w2 ⟨rfl, O2⟩;have HQ2 := Hd O2;clear O2 lHB_ lHG_ y0 y1 y2 z0 z1 z2;go_wp2
   go_meet
   exact ⟨by rw [HOK.out]; rfl, HQ2⟩
  | true =>
   rw [errH_yes hm] at HMY;clear lHB_ lHG_ y0 y1 y2 z0 z1 z2;have lHB_ := HB1.out.lt;have y0 := HB1.out.at_ 0;have y1 := HB1.out.at_ 1;have y2 := HB1.out.at_ 2;have lHG_ := HG1.out.lt;have z0 := HG1.out.at_ 0;have z1 := HG1.out.at_ 1;have z2 := HG1.out.at_ 2;simp at y0 y1 y2 z0 z1 z2;go_wp2_with fail
   refine (HMY.out _ HO1.out).mono ?_;rintro e w2 ⟨rfl, O2⟩;clear lHB_ lHG_ y0 y1 y2 z0 z1 z2;have HO2 := Hd (HO1.out.trans O2);have HB2 := Hd (O2.blk HB1.out (by simp));have HG2 := Hd (O2.blk HG1.out (by simp));have HQ2 := Hd (HQ1.out.trans O2);clear HO1 HB1 HG1 HQ1;clear O2
   cases hb : wholeB g with
   | false =>
    rw [hb] at HIS;have HOK : Hid (okB5 h g = false) := Hd (by unfold okB5; rw [hm, hb]; rfl);clear hm hb;have lHG_ := HG2.out.lt;have z0 := HG2.out.at_ 0;have z1 := HG2.out.at_ 1;have z2 := HG2.out.at_ 2;simp at z0 z1 z2;go_wp2_with fail
    refine (HIS.out _ HO2.out).mono ?_;rintro e w3 ⟨rfl, O3⟩;have HQ3 := Hd (HQ2.out.trans O3);clear lHG_ z0 z1 z2;clear O3;go_wp2
    go_meet
    exact ⟨by rw [HOK.out]; rfl, HQ3⟩
   | true =>
    rw [hb] at HIS;have lHB_ := HB2.out.lt;have y0 := HB2.out.at_ 0;have y1 := HB2.out.at_ 1;have y2 := HB2.out.at_ 2;have lHG_ := HG2.out.lt;have z0 := HG2.out.at_ 0;have z1 := HG2.out.at_ 1;have z2 := HG2.out.at_ 2;simp at y0 y1 y2 z0 z1 z2;go_wp2_with fail
    refine (HIS.out _ HO2.out).mono ?_;rintro e w3 ⟨rfl, O3⟩;clear lHB_ lHG_ y0 y1 y2 z0 z1 z2;have HO3 := Hd (HO2.out.trans O3);have HB3 := Hd (O3.blk HB2.out (by simp));have HG3 := Hd (O3.blk HG2.out (by simp));have HQ3 := Hd (HQ2.out.trans O3);clear HO2 HB2 HG2 HQ2;clear O3
    cases hs : decide (h.ss = g.ss) with
    | false =>
     rw [hs] at HE0;have HOK : Hid (okB5 h g = false) := Hd (by unfold okB5; rw [hm, hb, hs]; rfl);clear hm hb hs;have lHB_ := HB3.out.lt;have y0 := HB3.out.at_ 0;have y1 := HB3.out.at_ 1;have y2 := HB3.out.at_ 2;have lHG_ := HG3.out.lt;have z0 := HG3.out.at_ 0;have z1 := HG3.out.at_ 1;have z2 := HG3.out.at_ 2;simp at y0 y1 y2 z0 z1 z2;go_wp2_with fail
     refine (HE0.out _ HO3.out).mono ?_;rintro e w4 ⟨rfl, q4, rfl⟩;have HQ4 := Hd (HQ3.out.drewN q4);clear lHB_ lHG_ y0 y1 y2 z0 z1 z2;go_wp2
     go_meet
     exact ⟨by rw [HOK.out]; rfl, HQ4⟩
    | true =>
     rw [hs] at HE0;have lHB_ := HB3.out.lt;have y0 := HB3.out.at_ 0;have y1 := HB3.out.at_ 1;have y2 := HB3.out.at_ 2;have lHG_ := HG3.out.lt;have z0 := HG3.out.at_ 0;have z1 := HG3.out.at_ 1;have z2 := HG3.out.at_ 2;simp at y0 y1 y2 z0 z1 z2;go_wp2_with fail
     refine (HE0.out _ HO3.out).mono ?_;rintro e w4 ⟨rfl, q4, hq4⟩;clear lHB_ lHG_ y0 y1 y2 z0 z1 z2;have O4 : Only [] w3 w4 := by rw [← hq4]; exact (Only.refl [] w3).drewN q4
     have HO4 := Hd (HO3.out.trans O4);have HB4 := Hd (O4.blk HB3.out (by simp));have HG4 := Hd (O4.blk HG3.out (by simp));have HQ4 := Hd (HQ3.out.trans O4);clear HO3 HB3 HG3 HQ3;clear O4 hq4
     cases hk : decide (h.ks = g.ks) with
     | false =>
      rw [hk] at HE1;have HOK : Hid (okB5 h g = false) := Hd (by unfold okB5; rw [hm, hb, hs, hk]; rfl);clear hm hb hs hk;have lHB_ := HB4.out.lt;have y0 := HB4.out.at_ 0;have y1 := HB4.out.at_ 1;have y2 := HB4.out.at_ 2;have lHG_ := HG4.out.lt;have z0 := HG4.out.at_ 0;have z1 := HG4.out.at_ 1;have z2 := HG4.out.at_ 2;simp at y0 y1 y2 z0 z1 z2;go_wp2_with fail
      refine (HE1.out _ HO4.out).mono ?_;rintro e w5 ⟨rfl, q5, rfl⟩;have HQ5 := Hd (HQ4.out.drewN q5);clear lHB_ lHG_ y0 y1 y2 z0 z1 z2;go_wp2
      go_meet
      exact ⟨by rw [HOK.out]; rfl, HQ5⟩
     | true =>
      rw [hk] at HE1;have lHB_ := HB4.out.lt;have y0 := HB4.out.at_ 0;have y1 := HB4.out.at_ 1;have y2 := HB4.out.at_ 2;have lHG_ := HG4.out.lt;have z0 := HG4.out.at_ 0;have z1 := HG4.out.at_ 1;have z2 := HG4.out.at_ 2;simp at y0 y1 y2 z0 z1 z2;go_wp2_with fail
      refine (HE1.out _ HO4.out).mono ?_;rintro e w5 ⟨rfl, q5, hq5⟩;clear lHB_ lHG_ y0 y1 y2 z0 z1 z2;have O5 : Only [] w4 w5 := by rw [← hq5]; exact (Only.refl [] w4).drewN q5
      have HO5 := Hd (HO4.out.trans O5);have HB5 := Hd (O5.blk HB4.out (by simp));have HG5 := Hd (O5.blk HG4.out (by simp));have HQ5 := Hd (HQ4.out.trans O5);clear HO4 HB4 HG4 HQ4;clear O5 hq5;obtain ⟨b5, hb5⟩ : ∃ b, b = ((n2 : Int) != (m2 : Int)) := ⟨_, rfl⟩;have HOK : Hid ((!okB5 h g) = b5) := Hd (by
       unfold okB5;rw [hm, hb, hs, hk, hb5, HN.out, HM.out]
       by_cases e : n2 = m2
       ·simp [e]
       ·have e' : ¬ (n2 : Int) = (m2 : Int) := by omega
        simp [e, e'])
      clear hm hb hs hk;have hb5' := hb5.symm;clear hb5;have lHB_ := HB5.out.lt;have y0 := HB5.out.at_ 0;have y1 := HB5.out.at_ 1;have y2 := HB5.out.at_ 2;have lHG_ := HG5.out.lt;have z0 := HG5.out.at_ 0;have z1 := HG5.out.at_ 1;have z2 := HG5.out.at_ 2;simp at y0 y1 y2 z0 z1 z2;go_wp2
      go_meet
      exact ⟨by rw [HOK.out], HQ5⟩
 case rest =>
  obtain ⟨rfl, HOc⟩ := hcut;have HO2 := Hd (HO1.out.trans HOc.out);have HB2 := Hd (HOc.out.blk HB1.out (by simp));have HG2 := Hd (HOc.out.blk HG1.out (by simp));have HR2 := Hd (HOc.out.blk HR1.out (by simp));clear HO1 HB1 HG1 HR1 HOc HMY HIS HE0 HE1
  cases hok : okB5 h g with
  | false =>
   have HW : Hid (isWld h g = false) := Hd (isWld_ok5 hok);clear hok HB2 HG2;go_wp2_with (refine wpList_store_blk rfl 29 (.tmp 4) (.tmp 45) rfl gr 29 _ #[.slice none 0 0, .slice none 0 0] rfl rfl HR2.out rfl (by kernel_rfl) (by kernel_rfl) ?_; intro w9 b9 o9; have HB9 := Hd b9; have HN9 := Hd o9; clear b9 o9)
   refine bodyPost_ret (results_row2 Tryz.results14 _ _ gr 29 #[.slice none 0 0, .slice none 0 0] _ rfl HB9.out Tryz.underlying29 rfl (by kernel_rfl)) rfl ?_;exact ⟨_, ⟨by rw [HW.out]; rfl, by unfold wldR; rw [HW.out]; exact wagg_none⟩, HO2.out.step HN9.out (fun i hi hl => by simp at hi; omega)⟩
  | true =>
   have HOK := Hd hok;have hnm : m2 = n2 := by
    unfold okB5 at hok;simp only [Bool.and_eq_true, decide_eq_true_eq] at hok;rw [← HN.out, ← HM.out];exact hok.2.2.2.2.symm
   clear hok;subst hnm;have HW2 : Hid (isWld h g = txsSB h.l g.l) := Hd (by
    cases ht : txsSB h.l g.l with
    | true => exact isWld_yes5 HOK.out ht
    | false => exact isWld_no (by unfold matchB; rw [ht, Bool.and_false, Bool.and_false, Bool.and_false]))
   go_upto_region 4 with (fail)
   have HS3 : Hid (WS w (wc.alloc (.cells #[.slice none 0 0, .slice none 0 0] 29)) gr wc.heap.size [] [] (.slice none 0 0) (.slice none 0 0) [(gg, 25, #[.slice Z0 m0 d0, .slice Z1 m1 d1, .slice Z2 m2 d2]), (w.heap.size, 25, #[.slice A0 n0 c0, .slice A1 n1 c1, .slice A2 m2 c2])]) := Hd (by
    have OA : Only [] wc (wc.alloc (.cells #[.slice none 0 0, .slice none 0 0] 29)) := (Only.refl [] wc).alloc _;have hlt := HR2.out.lt;refine ⟨HO2.out.trans OA, OA.blk HR2.out (by simp), Blk.made wc 29 _, World.ownsRow_nil _ _ _ _, World.ownsRow_nil _ _ _ _, hlt, by omega, fun b hb => ?_, fun b hb => ?_⟩
    ·simp at hb;rcases hb with rfl | rfl
     ·exact OA.blk HG2.out (by simp)
     ·exact OA.blk HB2.out (by simp)
    ·simp at hb;rcases hb with rfl | rfl
     ·exact ⟨(by decide : 25 ≠ 4), (by decide : 25 ≠ 53), (by decide : 25 ≠ 29)⟩
     ·exact ⟨(by decide : 25 ≠ 4), (by decide : 25 ≠ 53), (by decide : 25 ≠ 29)⟩)
   have hg60 : w.heap.size ≤ wc.heap.size := HO2.out.size;clear HO2 HB2 HG2 HR2;generalize (wc.alloc (.cells #[.slice none 0 0, .slice none 0 0] 29)) = w3 at *;generalize wc.heap.size = g6 at *;obtain ⟨i0, hi, hz0, hz1, hz2⟩ := info_parts info_wbool;obtain ⟨j0, hjv, hj0v, hj1v, hj2v⟩ := info_parts info_wval;have HNO := Hd HI.out.sm.no;have HMO := Hd HZ.out.sm.no;have HIL := Hd HI.out.at_.r2;have HZL := Hd HZ.out.at_.r2;have hb3 := HS3.out.at_ 1 rfl;have lB := hb3.lt;have y2 := hb3.at_ 2;simp at y2;go_wp2_with fail
   clear hb3 lB y2
   go_loopw [49] (fun iv wr => ∃ (k : Nat) (V1 V2 : Value), iv = .int .i64 k ∧ k ≤ m2 ∧ Hid (txsSB (h.l.take k) (g.l.take k) = true) ∧ Hid (WS w wr gr g6 (comsT (h.l.take k) (g.l.take k)) (readsT (h.l.take k) (g.l.take k)) V1 V2 [(gg, 25, #[.slice Z0 m0 d0, .slice Z1 m1 d1, .slice Z2 m2 d2]), (w.heap.size, 25, #[.slice A0 n0 c0, .slice A1 n1 c1, .slice A2 m2 c2])])) (fun iv _ => m2 - (intOf iv).toNat)
   case atStart => exact ⟨0, _, _, rfl, by omega, Hd rfl, HS3⟩
   case round =>
    obtain ⟨k, V1, V2, rfl, hk, hT, hS⟩ := hrel;clear HS3
    by_cases hlt : k < m2
    ·obtain ⟨t, ht⟩ : ∃ t, h.l[k]? = some t := ⟨_, List.getElem?_eq_getElem (by rw [HN.out]; exact hlt)⟩;obtain ⟨u, hu⟩ : ∃ u, g.l[k]? = some u := ⟨_, List.getElem?_eq_getElem (by rw [HM.out]; exact hlt)⟩;obtain ⟨bt, ot, AT, cT, rfl, -, hbtw, hTA, hTOk⟩ := HIL.out.at_ ht;obtain ⟨bu, ou, AU, cU, rfl, -, hbuw, hUA, hUOk⟩ := HZL.out.at_ hu;have hno := HNO.out t (List.mem_of_getElem? ht);have hmo := HMO.out u (List.mem_of_getElem? hu);have HT := Hd ht;have HU := Hd hu;have HTA := Hd hTA;have HUA := Hd hUA;have HTR := Hd hTOk.row;have HUR := Hd hUOk.row;have HCT := Hd (comsT_take ht hu);have HRT := Hd (readsT_take ht hu);have HTT := Hd (txsSB_take ht hu);obtain ⟨ts, tf, ops⟩ := t;obtain ⟨us, uf, pps⟩ := u;dsimp only at hno hmo HTA HUA HTR HUR HCT HRT;generalize hmt : ops.length = mt at *;generalize hmu : pps.length = mu at *;have HMT := Hd hmt;have HMU := Hd hmu;clear ht hu hTA hUA hTOk hUOk hmt hmu;have h01 : (k : Int) < (m2 : Int) := by omega
     have hk0 : (0 : Int) ≤ (k : Int) := Int.natCast_nonneg _;have hwk : IntKind.i64.wrap ((k : Int) + 1) = (k : Int) + 1 := IntWalk.i64_in _ (by omega);obtain ⟨a0, a1, a2⟩ := HTA.out.only hS.out.o hbtw (by simp);have hbtr : bt < wr.heap.size := Nat.lt_of_lt_of_le hbtw hS.out.o.size;dsimp only at a0 a1 a2;rw [HMT.out] at a2;go_upto_region 7 with (fail)
     have HS4 := Hd (hS.out.alloc 48 #[.int .i64 ts, .int .i64 tf, .slice AT mt cT] ⟨by decide, by decide, by decide⟩);clear a0 a1 a2 hS;generalize (wr.alloc (.cells #[.int .i64 ts, .int .i64 tf, .slice AT mt cT] 48)) = w4 at *;generalize wr.heap.size = g8 at *;obtain ⟨a0, a1, a2⟩ := HUA.out.only HS4.out.o hbuw (by simp);have hbur : bu < w4.heap.size := Nat.lt_of_lt_of_le hbuw HS4.out.o.size;dsimp only at a0 a1 a2;rw [HMU.out] at a2;have hb4 := HS4.out.at_ 1 rfl;have lG := hb4.lt;have z2 := hb4.at_ 2;simp at z2;go_upto_region 8 with (fail)
     have HS5 := Hd (HS4.out.alloc 48 #[.int .i64 us, .int .i64 uf, .slice AU mu cU] ⟨by decide, by decide, by decide⟩);clear a0 a1 a2 HS4 hb4 lG z2;generalize (w4.alloc (.cells #[.int .i64 us, .int .i64 uf, .slice AU mu cU] 48)) = w5 at *;generalize w4.heap.size = g9 at *;have hb8 := HS5.out.at_ 1 rfl;have hb9 := HS5.out.at_ 0 rfl;have l8 := hb8.lt;have l9 := hb9.lt;have p0 := hb8.at_ 0;have p1 := hb8.at_ 1;have p2 := hb8.at_ 2;have q0 := hb9.at_ 0;have q1 := hb9.at_ 1;have q2 := hb9.at_ 2;simp at p0 p1 p2 q0 q1 q2;have HHD : Hid (headB ⟨ts, tf, ops⟩ ⟨us, uf, pps⟩ = (decide (ts = us) && ((decide (tf = 3) || decide (tf = uf)) && decide (mt = mu)))) := Hd (by unfold headB; dsimp only; rw [HMT.out, HMU.out]);go_cut [84] (fun bv wx => bv = .bool (!headB ⟨ts, tf, ops⟩ ⟨us, uf, pps⟩) ∧ Hid (WS w wx gr g6 (comsT (h.l.take k) (g.l.take k)) (readsT (h.l.take k) (g.l.take k)) V1 V2 [(g9, 48, #[.int .i64 us, .int .i64 uf, .slice AU mu cU]), (g8, 48, #[.int .i64 ts, .int .i64 tf, .slice AT mt cT]), (gg, 25, #[.slice Z0 m0 d0, .slice Z1 m1 d1, .slice (some ⟨bu, ou, none⟩) m2 d2]), (w.heap.size, 25, #[.slice A0 n0 c0, .slice A1 n1 c1, .slice (some ⟨bt, ot, none⟩) m2 c2])]))
     case first =>
      clear hb8 hb9
      by_cases h1 : ts = us
      ·have e1 : (ts != us) = false := by simp [h1]
       obtain ⟨b5, hb5⟩ : ∃ b, b = ((mt : Int) != (mu : Int)) := ⟨_, rfl⟩;have HB5 : Hid (b5 = !decide (mt = mu)) := Hd (by
        rw [hb5]
        by_cases e : mt = mu
        ·simp [e]
        ·have e' : ¬ (mt : Int) = (mu : Int) := by omega
         simp [e, e'])
       have hb5' := hb5.symm;clear hb5
       by_cases h2 : tf = 3
       ·have e2 : (tf != 3) = false := by simp [h2]
        have HQ : Hid ((!headB ⟨ts, tf, ops⟩ ⟨us, uf, pps⟩) = b5) := Hd (by rw [HHD.out, HB5.out]; simp [h1, h2]);clear h1 h2;go_wp2
        go_meet
        exact ⟨by rw [HQ.out], HS5⟩
       ·have e2 : (tf != 3) = true := by simp [h2]
        by_cases h3 : tf = uf
        ·have e3 : (tf != uf) = false := by simp [h3]
         have HQ : Hid ((!headB ⟨ts, tf, ops⟩ ⟨us, uf, pps⟩) = b5) := Hd (by rw [HHD.out, HB5.out]; simp [h1, h3]);clear h1 h2 h3;go_wp2
         go_meet
         exact ⟨by rw [HQ.out], HS5⟩
        ·have e3 : (tf != uf) = true := by simp [h3]
         have HQ : Hid ((!headB ⟨ts, tf, ops⟩ ⟨us, uf, pps⟩) = true) := Hd (by rw [HHD.out]; simp [h2, h3]);clear h1 h2 h3;go_wp2
         go_meet
         exact ⟨by rw [HQ.out], HS5⟩
      ·have e1 : (ts != us) = true := by simp [h1]
       have HQ : Hid ((!headB ⟨ts, tf, ops⟩ ⟨us, uf, pps⟩) = true) := Hd (by rw [HHD.out]; simp [h1]);clear h1;go_wp2
       go_meet
       exact ⟨by rw [HQ.out], HS5⟩
     case rest =>
      obtain ⟨rfl, HS6⟩ := hcut;clear HS5 hb8 hb9 l8 l9 p0 p1 p2 q0 q1 q2
      cases hd : headB ⟨ts, tf, ops⟩ ⟨us, uf, pps⟩ with
      | false =>
       have HW : Hid (isWld h g = false) := Hd (isWld_head HT.out HU.out hd);clear hd;go_wp2_with (refine wpList_store_blk rfl 29 (.tmp 4) (.tmp 85) rfl gr 29 _ #[.slice none 0 0, .slice none 0 0] rfl rfl HS6.out.br rfl (by kernel_rfl) (by kernel_rfl) ?_; intro w9 b9 o9; have HB9 := Hd b9; have HN9 := Hd o9; clear b9 o9)
       refine bodyPost_ret (results_row2 Tryz.results14 _ _ gr 29 #[.slice none 0 0, .slice none 0 0] _ rfl HB9.out Tryz.underlying29 rfl (by kernel_rfl)) rfl ?_;exact ⟨_, ⟨by rw [HW.out]; rfl, by unfold wldR; rw [HW.out]; exact wagg_none⟩, HS6.out.o.step HN9.out (fun i hi hl => by simp at hi; have := HS6.out.b; omega)⟩
      | true =>
       have h9 := hd;rw [HHD.out] at h9;simp only [Bool.and_eq_true, decide_eq_true_eq] at h9;obtain ⟨-, -, hml⟩ := h9;clear HHD;have HHD2 := Hd hd;clear hd;subst hml;have hbw := HS6.out.bw;have lW := hbw.lt;have w0 := hbw.at_ 0;simp at w0;have hb8 := HS6.out.at_ 1 rfl;have l8 := hb8.lt;have p1 := hb8.at_ 1;have hb9 := HS6.out.at_ 0 rfl;have l9 := hb9.lt;have q1 := hb9.at_ 1;simp at p1 q1;have hgw : w.heap.size ≤ wc.heap.size := HS6.out.o.size;have hcl := comsT_le (h.l.take k) (g.l.take k);rw [List.length_take] at hcl;clear hbw hb8 hb9;go_upto_if 88 with (fail)
       go_cut [5] (fun bv wx => ∃ V1' : Value, Hid (WS w wx gr g6 (comsT (h.l.take (k + 1)) (g.l.take (k + 1))) (readsT (h.l.take k) (g.l.take k)) V1' V2 [(g9, 48, #[.int .i64 us, .int .i64 uf, .slice AU mt cU]), (g8, 48, #[.int .i64 ts, .int .i64 tf, .slice AT mt cT]), (gg, 25, #[.slice Z0 m0 d0, .slice Z1 m1 d1, .slice (some ⟨bu, ou, none⟩) m2 d2]), (w.heap.size, 25, #[.slice A0 n0 c0, .slice A1 n1 c1, .slice (some ⟨bt, ot, none⟩) m2 c2])]))
       case first =>
        by_cases hf : tf = 3
        ·have e1 : (tf == 3) = true := by simp [hf]
         obtain ⟨ub, hub⟩ : ∃ b, b = (uf == 1) := ⟨_, rfl⟩;have HCE : Hid ((comsT (h.l.take (k + 1)) (g.l.take (k + 1))) = (comsT (h.l.take k) (g.l.take k)) ++ [ub]) := Hd (by
          rw [HCT.out, if_pos hf, hub]
          by_cases e : uf = 1 <;> simp [e])
         have hub' := hub.symm;clear hub hf;generalize hcc : (comsT (h.l.take k) (g.l.take k)) = cc at *;go_wp2_with (
          at_builtin
          refine wpList_append_row _ rfl (.tmp 90) (.tmp 94) _ rfl w.heap.size 4 i0 _ 1 1 Tryz.underlying26 hi hz0 hz1 hz2 rfl (by omega) V1 cc.length (cc.map Value.bool) (by rfl) (own_only HS6.out.c ((Only.refl [] wc).alloc _) (by simp)) (wc.heap.size + 1) (some ⟨wc.heap.size, 0, none⟩) 1 1 [.bool ub] (by rfl) (by rfl) (row_lit wc 4 #[.bool ub]) (by simp [Value.oneCell']) (by unfold maxLen; omega) (by omega) (by simp; omega) ?_;intro v6 w6 hown6 hgrow6 hat6;have hgr : World.grownBy (wc.alloc (.cells #[.bool ub] 4)) w6 V1.ownBlock := hgrow6;obtain ⟨A6, c6, e6, -, -, -, -⟩ := own_row hown6;subst e6;have hM6 := HS6.out.midC ((Only.refl [] wc).alloc _) hgr;have HS7 := Hd (HS6.out.addC ((Only.refl [] wc).alloc _) hgr hown6);clear hown6 hgrow6 hat6 hgr lW w0 l8 p1 l9 q1;have lW := hM6.lt;have w0 := hM6.at_ 0;have fw := hM6.free 0;simp at w0;clear hM6)
         go_wp2
         go_meet
         exact ⟨_, by rw [HCE.out]; exact HS7⟩
        ·have e1 : (tf == 3) = false := by simp [hf]
         have HCE : Hid ((comsT (h.l.take (k + 1)) (g.l.take (k + 1))) = (comsT (h.l.take k) (g.l.take k))) := Hd (by rw [HCT.out, if_neg hf, List.append_nil]);clear hf;go_wp2
         go_meet
         exact ⟨V1, by rw [HCE.out]; exact HS6⟩
       case rest =>
        obtain ⟨V1', HS7⟩ := hcut;clear HS6 lW w0 l8 p1 l9 q1 HCT;obtain ⟨CC, hCC⟩ : ∃ c, (comsT (h.l.take (k + 1)) (g.l.take (k + 1))) = c := ⟨_, rfl⟩;rw [hCC] at HS7;have HC1 := Hd hCC;clear hCC;obtain ⟨RR, hRR⟩ : ∃ c, (readsT (h.l.take k) (g.l.take k)) = c := ⟨_, rfl⟩;have hrl := readsT_le 1000 (h.l.take k) (g.l.take k) (fun t ht => HNO.out t (List.mem_of_mem_take ht));rw [List.length_take] at hrl;rw [hRR] at HS7 HRT hrl;clear hRR;have hb8 := HS7.out.at_ 1 rfl;have l8 := hb8.lt;have p2 := hb8.at_ 2;simp at p2;go_wp2_with fail
        clear hb8 l8 p2;obtain ⟨wd, hwd⟩ : ∃ wd, wd = wc := ⟨_, rfl⟩;subst hwd
        go_loopw [100] (fun jv wr => ∃ (j : Nat) (V2' : Value), jv = .int .i64 j ∧ j ≤ mt ∧ Hid (opsSB (ops.take j) (pps.take j) = true) ∧ Hid (WS w wr gr g6 CC (RR ++ readsO (ops.take j) (pps.take j)) V1' V2' [(g9, 48, #[.int .i64 us, .int .i64 uf, .slice AU mt cU]), (g8, 48, #[.int .i64 ts, .int .i64 tf, .slice AT mt cT]), (gg, 25, #[.slice Z0 m0 d0, .slice Z1 m1 d1, .slice (some ⟨bu, ou, none⟩) m2 d2]), (w.heap.size, 25, #[.slice A0 n0 c0, .slice A1 n1 c1, .slice (some ⟨bt, ot, none⟩) m2 c2])])) (fun jv _ => mt - (intOf jv).toNat)
        case atStart => exact ⟨0, V2, rfl, by omega, Hd rfl, Hd (by rw [List.take_zero, List.take_zero, readsO_nil, List.append_nil]; exact HS7.out)⟩
        case round =>
         obtain ⟨j, V2', rfl, hj, hQ, hS⟩ := hrel;clear HS7
         by_cases hlt2 : j < mt
         ·obtain ⟨o, ho⟩ : ∃ o, ops[j]? = some o := ⟨_, List.getElem?_eq_getElem (by rw [HMT.out]; exact hlt2)⟩;obtain ⟨p, hp⟩ : ∃ p, pps[j]? = some p := ⟨_, List.getElem?_eq_getElem (by rw [HMU.out]; exact hlt2)⟩;obtain ⟨bo, oo, rfl, -, hbow, hP⟩ := row_op (HTR.out) ho;obtain ⟨bp, op, rfl, -, hbpw, hR⟩ := row_op (HUR.out) hp;obtain ⟨a0, a1, a2, a3⟩ := hP.only hS.out.o hbow (by simp);have hbor : bo < wr.heap.size := Nat.lt_of_lt_of_le hbow hS.out.o.size;have HR := Hd hR;have HO := Hd ho;have HP := Hd hp;have HRO := Hd (readsO_take ho hp);have HQT := Hd (opsSB_take ho hp);have hrj := readsO_le (ops.take j) (pps.take j);rw [List.length_take] at hrj;have h02 : (j : Int) < (mt : Int) := by omega
          have hj0 : (0 : Int) ≤ (j : Int) := Int.natCast_nonneg _;have hwj : IntKind.i64.wrap ((j : Int) + 1) = (j : Int) + 1 := IntWalk.i64_in _ (by omega);obtain ⟨ow, ok, ov, on⟩ := o;obtain ⟨pw, pk, pv, pn⟩ := p;dsimp only at a0 a1 a2 a3 HRO;clear ho hp hP hR;go_upto_region 15 with (fail)
          have HS8 := Hd (hS.out.alloc 55 #[.bool ow, .int .i64 ok, .int .i64 ov, .int .i64 on] ⟨by decide, by decide, by decide⟩);have hgo : w.heap.size ≤ wr.heap.size := hS.out.o.size;clear a0 a1 a2 a3 hS;generalize (wr.alloc (.cells #[.bool ow, .int .i64 ok, .int .i64 ov, .int .i64 on] 55)) = w8 at *;generalize wr.heap.size = go at *;obtain ⟨⟨fw, fk, fv, fn⟩, hff⟩ : ∃ f, fillP ⟨ow, ok, ov, on⟩ ⟨pw, pk, pv, pn⟩ = f := ⟨_, rfl⟩;have hbO := HS8.out.at_ 0 rfl;have lO := hbO.lt;have o2 := hbO.at_ 2;simp at o2;go_upto_if 108 with (fail)
          go_cut [5] (fun bv wx => ∃ V : Value, Hid (WS w wx gr g6 CC (RR ++ readsO (ops.take (j + 1)) (pps.take (j + 1))) V1' V ((go, 55, #[.bool fw, .int .i64 fk, .int .i64 fv, .int .i64 fn]) :: [(g9, 48, #[.int .i64 us, .int .i64 uf, .slice (some ⟨bp, op, none⟩) mt cU]), (g8, 48, #[.int .i64 ts, .int .i64 tf, .slice (some ⟨bo, oo, none⟩) mt cT]), (gg, 25, #[.slice Z0 m0 d0, .slice Z1 m1 d1, .slice (some ⟨bu, ou, none⟩) m2 d2]), (w.heap.size, 25, #[.slice A0 n0 c0, .slice A1 n1 c1, .slice (some ⟨bt, ot, none⟩) m2 c2])])))
          case first =>
           by_cases e : ov = 2
           ·have hf2 : Op4.mk ow ok pv pn = ⟨fw, fk, fv, fn⟩ := by rw [← hff]; unfold fillP; rw [if_pos e]
            obtain ⟨rfl, rfl, rfl, rfl⟩ := Op4.mk.inj hf2;have HRE : Hid (RR ++ readsO (ops.take (j + 1)) (pps.take (j + 1)) = (RR ++ readsO (ops.take j) (pps.take j)) ++ [(pv, pn)]) := Hd (by rw [HRO.out, if_pos e, List.append_assoc]);have e1 : (ov == 2) = true := by simp [e]
            obtain ⟨a0, a1, a2, a3⟩ := HR.out.only HS8.out.o hbpw (by simp);have hbpr : bp < w8.heap.size := Nat.lt_of_lt_of_le hbpw HS8.out.o.size;dsimp only at a2 a3;have hb9 := HS8.out.at_ 1 rfl;have l9 := hb9.lt;have q2 := hb9.at_ 2;simp at q2;have hrl2 : (RR ++ readsO (ops.take j) (pps.take j)).length ≤ 1001000 := by rw [List.length_append]; omega
            generalize RR ++ readsO (ops.take j) (pps.take j) = rr at *;clear e hf2 hff a0 a1 hb9;go_upto_region 17 with (refine wpList_store_mid rfl 53 (.tmp 115) (.tmp 114) rfl go 2 #[.int .i64 pv, .int .i64 pn] rfl rfl (blk_there hbO) (by kernel_rfl) (by kernel_rfl) ?_)
            have HS9 : Hid (WS w (w8.setCells go 2 [.int .i64 pv, .int .i64 pn]) gr g6 CC rr V1' V2' ((go, 55, #[.bool ow, .int .i64 ok, .int .i64 pv, .int .i64 pn]) :: [(g9, 48, #[.int .i64 us, .int .i64 uf, .slice (some ⟨bp, op, none⟩) mt cU]), (g8, 48, #[.int .i64 ts, .int .i64 tf, .slice (some ⟨bo, oo, none⟩) mt cT]), (gg, 25, #[.slice Z0 m0 d0, .slice Z1 m1 d1, .slice (some ⟨bu, ou, none⟩) m2 d2]), (w.heap.size, 25, #[.slice A0 n0 c0, .slice A1 n1 c1, .slice (some ⟨bt, ot, none⟩) m2 c2])])) := Hd (HS8.out.putV (fun b hb => by
             simp at hb;rcases hb with rfl | rfl | rfl | rfl
             ·exact (by decide : 48 ≠ 55)
             ·exact (by decide : 48 ≠ 55)
             ·exact (by decide : 25 ≠ 55)
             ·exact (by decide : 25 ≠ 55)) hgo _ _)
            clear hbO lO o2 a2 a3 l9 q2 HS8;generalize (w8.setCells go 2 [.int .i64 pv, .int .i64 pn]) = w9 at *;have hbO := HS9.out.at_ 0 rfl;have lO := hbO.lt;have o2 := hbO.at_ 2;have o3 := hbO.at_ 3;have hbw := HS9.out.bw;have lW := hbw.lt;have w1 := hbw.at_ 1;simp at o2 o3 w1;have hgw9 : w.heap.size ≤ w9.heap.size := HS9.out.o.size;clear hbO hbw;go_wp2_with (
             at_builtin
             refine wpList_append_row _ rfl (.tmp 117) (.tmp 120) _ rfl w.heap.size 53 j0 _ 2 16 Tryz.underlying27 hjv hj0v hj1v hj2v rfl (by omega) V2' rr.length (edgeC rr) (by rfl) (own_only HS9.out.l ((Only.refl [] w9).alloc _) (by simp)) (w9.heap.size + 1) (some ⟨w9.heap.size, 0, none⟩) 1 1 [.int .i64 pv, .int .i64 pn] (by rfl) (by rfl) (row_lit w9 53 #[.int .i64 pv, .int .i64 pn]) (by intro u hu; simp at hu; rcases hu with rfl | rfl <;> rfl) (by unfold maxLen; omega) (by omega) (by simp; omega) ?_;intro v6 w6 hown6 hgrow6 hat6;have hgr : World.grownBy (w9.alloc (.cells #[.int .i64 pv, .int .i64 pn] 53)) w6 V2'.ownBlock := hgrow6;obtain ⟨A6, c6, e6, -, -, -, -⟩ := own_row hown6;subst e6;have hM6 := HS9.out.midL ((Only.refl [] w9).alloc _) hgr;have HSA := Hd (HS9.out.addL ((Only.refl [] w9).alloc _) hgr hown6);clear hown6 hgrow6 hat6 hgr lW w1 lO o2 o3;have lW := hM6.lt;have w1 := hM6.at_ 1;have fw1 := hM6.free 1;simp at w1;clear hM6)
            go_wp2
            go_meet
            exact ⟨_, by rw [HRE.out]; exact HSA⟩
           ·have hf2 : Op4.mk ow ok ov on = ⟨fw, fk, fv, fn⟩ := by rw [← hff]; unfold fillP; rw [if_neg e]
            obtain ⟨rfl, rfl, rfl, rfl⟩ := Op4.mk.inj hf2;have HRE : Hid (readsO (ops.take (j + 1)) (pps.take (j + 1)) = readsO (ops.take j) (pps.take j)) := Hd (by rw [HRO.out, if_neg e, List.append_nil]);have e1 : (ov == 2) = false := by simp [e]
            clear e hf2 hff hbO;go_wp2
            go_meet
            exact ⟨V2', by rw [HRE.out]; exact HS8⟩
          case rest =>
           obtain ⟨V2n, HS9⟩ := hcut;clear HS8 hbO lO o2;obtain ⟨nb, hnb⟩ : ∃ b, neqOp fw fk fv fn pw pk pv pn = b := ⟨_, rfl⟩;have HNB : Hid (nb = !sameOB ⟨ow, ok, ov, on⟩ ⟨pw, pk, pv, pn⟩) := Hd (by rw [← hnb, ← fillP_same, hff]; rfl);have HbO := Hd (HS9.out.at_ 0 rfl);have HbU := Hd (HS9.out.at_ 1 rfl);clear hff;go_upto_region 18 with (fail)
           refine rg1 [] [] wc ?_;have OW : Only [] wc wc.drew := (Only.refl [] wc).drew;generalize wc.drew = wz at *;refine trd (i := 0) (v := ?_) 0 ?_ ?_;rotate_left
           ·(intro wq hSw; have hb_O := hSw.blk HbO.out (by simp); have lb_O := hb_O.lt; have o0 := hb_O.at_ 0; have o1 := hb_O.at_ 1; have o2 := hb_O.at_ 2; have o3 := hb_O.at_ 3; simp at o0 o1 o2 o3; clear hb_O; obtain ⟨lb_U, q2⟩ := Bk1 (hSw.blk HbU.out (by simp)) 2; simp at q2; obtain ⟨a0, a1, a2, a3⟩ := HR.out.only (HS9.out.o.trans hSw) hbpw (by simp); dsimp only at a0 a1 a2 a3; have hbpq : bp < wq.heap.size := Nat.lt_of_lt_of_le hbpw (HS9.out.o.trans hSw).size; clear hSw; go_simp; try with_reducible rfl)
           (try simp only [tdz]);refine tQ 1 (h := ?_);refine trd (i := 2) (v := ?_) 0 ?_ ?_;rotate_left
           ·(intro wq hSw; have hb_O := hSw.blk HbO.out (by simp); have lb_O := hb_O.lt; have o0 := hb_O.at_ 0; have o1 := hb_O.at_ 1; have o2 := hb_O.at_ 2; have o3 := hb_O.at_ 3; simp at o0 o1 o2 o3; clear hb_O; obtain ⟨lb_U, q2⟩ := Bk1 (hSw.blk HbU.out (by simp)) 2; simp at q2; obtain ⟨a0, a1, a2, a3⟩ := HR.out.only (HS9.out.o.trans hSw) hbpw (by simp); dsimp only at a0 a1 a2 a3; have hbpq : bp < wq.heap.size := Nat.lt_of_lt_of_le hbpw (HS9.out.o.trans hSw).size; clear hSw; go_simp; try with_reducible rfl)
           (try simp only [tdz]);refine tQ 3 (h := tQ 4 (h := ?_));refine trd (i := 5) (v := ?_) 0 ?_ ?_;rotate_left
           ·(intro wq hSw; have hb_O := hSw.blk HbO.out (by simp); have lb_O := hb_O.lt; have o0 := hb_O.at_ 0; have o1 := hb_O.at_ 1; have o2 := hb_O.at_ 2; have o3 := hb_O.at_ 3; simp at o0 o1 o2 o3; clear hb_O; obtain ⟨lb_U, q2⟩ := Bk1 (hSw.blk HbU.out (by simp)) 2; simp at q2; obtain ⟨a0, a1, a2, a3⟩ := HR.out.only (HS9.out.o.trans hSw) hbpw (by simp); dsimp only at a0 a1 a2 a3; have hbpq : bp < wq.heap.size := Nat.lt_of_lt_of_le hbpw (HS9.out.o.trans hSw).size; clear hSw; go_simp; try with_reducible rfl)
           (try simp only [tdz]);refine tQ 6 (h := ?_);refine tdn ?_;have HSB := Hd (HS9.out.same OW);clear OW HS9 HbO HbU hnb
           cases hq : sameOB ⟨ow, ok, ov, on⟩ ⟨pw, pk, pv, pn⟩ with
           | false =>
            obtain rfl : nb = true := by rw [HNB.out, hq]; rfl
            have HW : Hid (isWld h g = false) := Hd (isWld_op HT.out HU.out HO.out HP.out hq);clear hq;go_wp2_with (refine wpList_store_blk rfl 29 (.tmp 4) (.tmp 130) rfl gr 29 _ #[.slice none 0 0, .slice none 0 0] rfl rfl HSB.out.br rfl (by kernel_rfl) (by kernel_rfl) ?_; intro w9 b9 o9; have HB9 := Hd b9; have HN9 := Hd o9; clear b9 o9)
            refine bodyPost_ret (results_row2 Tryz.results14 _ _ gr 29 #[.slice none 0 0, .slice none 0 0] _ rfl HB9.out Tryz.underlying29 rfl (by kernel_rfl)) rfl ?_;exact ⟨_, ⟨by rw [HW.out]; rfl, by unfold wldR; rw [HW.out]; exact wagg_none⟩, HSB.out.o.step HN9.out (fun i hi hl => by simp at hi; have := HSB.out.b; omega)⟩
           | true =>
            obtain rfl : nb = false := by rw [HNB.out, hq]; rfl
            have HQN : Hid (opsSB (ops.take (j + 1)) (pps.take (j + 1)) = true) := Hd (by rw [HQT.out, hQ.out, hq]; rfl);have HSN := Hd (HSB.out.less (F' := [(g9, 48, #[.int .i64 us, .int .i64 uf, .slice (some ⟨bp, op, none⟩) mt cU]), (g8, 48, #[.int .i64 ts, .int .i64 tf, .slice (some ⟨bo, oo, none⟩) mt cT]), (gg, 25, #[.slice Z0 m0 d0, .slice Z1 m1 d1, .slice (some ⟨bu, ou, none⟩) m2 d2]), (w.heap.size, 25, #[.slice A0 n0 c0, .slice A1 n1 c1, .slice (some ⟨bt, ot, none⟩) m2 c2])]) (fun b hb => List.mem_cons_of_mem _ hb));clear hq;go_wp2
            go_roundw
            case rel => exact ⟨j + 1, V2n, by go_num, by omega, HQN, HSN⟩
            case measure => simp [intOf]; omega
         ·have hjm : j = mt := by omega
          subst hjm;have hd3 : decide ((j : Int) < (j : Int)) = false := by simp
          have e1 : ops.take j = ops := List.take_of_length_le (by rw [HMT.out]; exact Nat.le_refl _);have e2 : pps.take j = pps := List.take_of_length_le (by rw [HMU.out]; exact Nat.le_refl _);have HSN : Hid (WS w wr gr g6 (comsT (h.l.take (k + 1)) (g.l.take (k + 1))) (readsT (h.l.take (k + 1)) (g.l.take (k + 1))) V1' V2' [(gg, 25, #[.slice Z0 m0 d0, .slice Z1 m1 d1, .slice (some ⟨bu, ou, none⟩) m2 d2]), (w.heap.size, 25, #[.slice A0 n0 c0, .slice A1 n1 c1, .slice (some ⟨bt, ot, none⟩) m2 c2])]) := Hd (by
           have h9 := hS.out;rw [e1, e2, ← HRT.out, ← HC1.out] at h9;exact h9.less (fun b hb => List.mem_cons_of_mem _ (List.mem_cons_of_mem _ hb)))
          have HTN : Hid (txsSB (h.l.take (k + 1)) (g.l.take (k + 1)) = true) := Hd (by
           have h9 := hQ.out;rw [e1, e2] at h9;rw [HTT.out, hT.out, sameTB_head, HHD2.out];exact h9)
          clear hS hQ e1 e2;go_wp2
          go_roundw
          case rel => exact ⟨k + 1, V1', V2', by go_num, by omega, HTN, HSN⟩
          case measure => simp [intOf]; omega
    ·have hkn : k = m2 := by omega
     subst hkn;have hd2 : decide ((k : Int) < (k : Int)) = false := by simp
     have t1 : h.l.take k = h.l := List.take_of_length_le (by rw [HN.out]; exact Nat.le_refl _);have t2 : g.l.take k = g.l := List.take_of_length_le (by rw [HM.out]; exact Nat.le_refl _);have HWT : Hid (isWld h g = true) := Hd (by
      have h9 := hT.out;rw [t1, t2] at h9;rw [HW2.out, h9])
     have h9 := hS.out;rw [t1, t2] at h9;have HWL : Hid (wldR h g = ⟨comsT h.l g.l, readsT h.l g.l⟩) := Hd (by unfold wldR; rw [if_pos HWT.out]; rfl);generalize comsT h.l g.l = cc at *;generalize readsT h.l g.l = rr at *;obtain ⟨Aa, ca, e1, -, -, -, -⟩ := own_row h9.c;obtain ⟨Ab, cb, e2, -, -, -, -⟩ := own_row h9.l;subst e1 e2;have HS9 := Hd h9;have lW := h9.bw.lt;have w0 := h9.bw.at_ 0;have w1 := h9.bw.at_ 1;simp at w0 w1;clear hS hT t1 t2 h9;go_wp2_with (refine wpList_store_blk rfl 29 (.tmp 4) (.tmp 133) rfl gr 29 _ #[.slice Aa cc.length ca, .slice Ab rr.length cb] rfl rfl HS9.out.br rfl (by kernel_rfl) (by kernel_rfl) ?_; intro w9 b9 o9; have HB9 := Hd b9; have HN9 := Hd o9; clear b9 o9)
     refine bodyPost_ret (results_row2 Tryz.results14 _ _ gr 29 #[.slice Aa cc.length ca, .slice Ab rr.length cb] _ rfl HB9.out Tryz.underlying29 rfl (by kernel_rfl)) rfl ?_;exact ⟨_, ⟨by rw [HWT.out]; rfl, by rw [HWL.out]; exact ⟨Aa, ca, Ab, cb, rfl, HS9.out.done HN9.out⟩⟩, HS9.out.o.step HN9.out (fun i hi hl => by simp at hi; have := HS9.out.b; omega)⟩
end Go.Proofs.YtghimogdeijgdaaGreatDoor
