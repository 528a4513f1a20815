/- Parts. -/
import Derived.Test.YtjfbeeogiejopaaGreatDoorWorldAllCardK27
import Derived.Test.YtjfbeeogiejopaaGreatDoorWorldAllCardK39
import Derived.BigQuiet
import Derived.Test.YtjfbeeogiejopaaGreatDoorWorldAllCardK40
import Derived.Test.YtjfbeeogiejopaaGreatDoorWorldAllCardK44
import Derived.Test.YtjfbeeogiejopaaGreatDoorWorldAllCardK24
import Derived.Test.YtjfbeeogiejopaaGreatDoorWorldAllCardK41
import Derived.Test.YtjfbeeogiejopaaGreatDoorWorldAllCardK30
import Derived.Test.YtjfbeeogiejopaaGreatDoorWorldAllCardK35
set_option maxRecDepth 10000
set_option maxHeartbeats 16000000
set_option linter.unusedVariables false
set_option linter.unusedSimpArgs false
namespace Go.Proofs.YtjfbeeogiejopaaGreatDoor
open Go.RowKit
open Go.Lib hiding intOf
attribute [local go_sem ↓] Go.wp_at_zero Go.wp_at_succ
theorem rinfos_any (A0 A1 A2 : Option Addr) (n0 n1 n2 c0 c1 c2 B : Nat) (h : Hst) (w : World) (hg : LRow w B A2 h.l) (hn2 : h.l.length = n2) (hM : n2 ≤ 1000) :
  Calls Tryz.prog 53 #[hval A0 A1 A2 n0 n1 n2 c0 c1 c2] w fun e w' =>
   ∃ A c, (e = .returned (.slice A (whichL (fun t => decide (t.f = 3)) h.l).length c) ∧ Row w' w'.heap.size A ((whichL (fun t => decide (t.f = 3)) h.l).map (Value.int .i64))) ∧ Only [] w w' := by
 unfold hval;obtain ⟨i0, hi, hz0, hz1, hz2⟩ := info_parts info_int;have HG := Hd hg;have HN2 := Hd hn2;have HO := Hd (((Only.refl [] w).alloc (.cells #[.slice A0 n0 c0, .slice A1 n1 c1, .slice A2 n2 c2] 25)).alloc (.cells #[] 3));have HB := Hd ((Blk.made w 25 #[.slice A0 n0 c0, .slice A1 n1 c1, .slice A2 n2 c2]).alloc (.cells #[] 3));have HV := Hd (World.ownsRow_lit (w.alloc (.cells #[.slice A0 n0 c0, .slice A1 n1 c1, .slice A2 n2 c2] 25)) (e := 3) (size := 1) #[] 0 (Nat.le_refl _) (by unfold maxLen; omega) rfl);rw [World.size_alloc] at HV;clear hg hn2;obtain ⟨q, hq⟩ : ∃ q : Tx → Bool, q = fun t => decide (t.f = 3) := ⟨_, rfl⟩;rw [← hq];have HQ := Hd hq;clear hq;go_enter Tryz.func53, Tryz.ntmps53;go_wp2_with fail
 go_loopw [3, 4] (fun V iv wr => ∃ k : Nat, iv = .int .i64 k ∧ k ≤ n2 ∧ Hid (wr.ownsRow (w.heap.size + 1) 3 1 V (whichL q (h.l.take k)).length ((whichL q (h.l.take k)).map (Value.int .i64))) ∧ Hid (Blk wr w.heap.size 25 #[.slice A0 n0 c0, .slice A1 n1 c1, .slice A2 n2 c2]) ∧ Hid (Only [] w wr)) (fun _ iv _ => n2 - (intOf iv).toNat)
 case atStart => exact ⟨0, rfl, by omega, HV, HB, HO⟩
 case round =>
  obtain ⟨k, rfl, hk, hV, hB, hO⟩ := hrel;clear HV HB HO;have hsz := hO.out.size;have lB := hB.out.lt;have b2 := hB.out.at_ 2;simp at b2
  by_cases hlt : k < n2
  ·obtain ⟨x, hx⟩ : ∃ x, h.l[k]? = some x := ⟨_, List.getElem?_eq_getElem (by rw [HN2.out]; exact hlt)⟩;obtain ⟨b, off, A', cp, rfl, -, hbw, hT, hOk⟩ := HG.out.at_ hx;obtain ⟨a0, a1, a2⟩ := hT.only hO.out hbw (by simp);have HWT := Hd (which_take (p := q) hx);have hwl := which_le q (h.l.take k);rw [List.length_take] at hwl;obtain ⟨s, f, ops⟩ := x;dsimp only at a0 a1 a2;have h01 : (k : Int) < (n2 : Int) := by omega
   have hk0 : (0 : Int) ≤ (k : Int) := Int.natCast_nonneg _;have hwk : IntKind.i64.wrap ((k : Int) + 1) = (k : Int) + 1 := IntWalk.i64_in _ (by omega);have hbr : b < wr.heap.size := by omega
   have HQX : Hid (q ⟨s, f, ops⟩ = decide (f = 3)) := Hd (by rw [HQ.out]);clear hT hOk hx a2
   by_cases hf : f = 3
   ·have HE : Hid (whichL q (h.l.take (k + 1)) = whichL q (h.l.take k) ++ [(k : Int)]) := Hd (by rw [HWT.out, HQX.out, decide_eq_true hf]; simp);subst hf;go_wp2_with (at_builtin; refine wpList_append_row _ rfl (.tmp 20) (.tmp 22) _ rfl (w.heap.size + 1) 3 i0 _ 1 8 Tryz.underlying30 hi hz0 hz1 hz2 rfl (by omega) _ _ _ rfl (own_only hV.out ((Only.refl [] _).alloc _) (by simp)) (wr.heap.size + 1) (some ⟨wr.heap.size, 0, none⟩) 1 1 [.int .i64 (k : Int)] rfl rfl (row_lit wr 3 #[.int .i64 (k : Int)]) (by simp [Value.oneCell']) (by unfold maxLen; omega) (by omega) (by simp; omega) ?_; intro v4 w4 hown4 hgrow hat)
    have hb1 := hB.out.alloc (.cells #[.int .i64 (k : Int)] 3);have hv1 := own_only hV.out ((Only.refl [] wr).alloc (.cells #[.int .i64 (k : Int)] 3)) (by simp);have REL : w4.ownsRow (w.heap.size + 1) 3 1 v4 (whichL q (h.l.take (k + 1))).length ((whichL q (h.l.take (k + 1))).map (Value.int .i64)) ∧ Blk w4 w.heap.size 25 #[.slice A0 n0 c0, .slice A1 n1 c1, .slice (some ⟨b, off, none⟩) n2 c2] ∧ Only [] w w4 := by
     refine ⟨?_, (only_grown hgrow).blk hb1 (own_apart hv1 hb1 (by decide)), (hO.out.alloc _).step (only_grown hgrow) (fun i hi hl => own_new hV.out (S := []) i hi (by omega))⟩;rw [HE.out]
     simpa using hown4
    have HREL := Hd REL;clear REL hown4 lB b2 hb1 hv1;go_wp2
    go_roundw
    case rel => first | exact ⟨k + 1, by go_num, by omega, Hd HREL.out.1, Hd HREL.out.2.1, Hd HREL.out.2.2⟩ | exact ⟨_, ⟨k + 1, by go_num, by omega, Hd HREL.out.1, Hd HREL.out.2.1, Hd HREL.out.2.2⟩, rfl⟩
    case measure => simp [intOf]; omega
   ·have HE : Hid (whichL q (h.l.take (k + 1)) = whichL q (h.l.take k)) := Hd (by rw [HWT.out, HQX.out, decide_eq_false hf]; simp);have hf1 : (f == 3) = false := by simpa using hf
    clear hf;go_wp2
    go_roundw
    case rel => exact ⟨k + 1, by go_num, by omega, Hd (by rw [HE.out]; exact hV.out), hB, hO⟩
    case measure => simp [intOf]; omega
  ·have hkn : k = n2 := by omega
   subst hkn;have hd2 : decide ((k : Int) < (k : Int)) = false := by simp
   have hVV := hV.out;rw [List.take_of_length_le (by rw [HN2.out]; exact Nat.le_refl _)] at hVV;obtain ⟨A, c, rfl, -, -, -, hR⟩ := own_row hVV;have HR := Hd hR;clear hV hVV hR;go_wp2
   go_ret
   first | exact ⟨⟨_, ⟨_, rfl⟩, HR.out⟩, hO.out⟩ | exact ⟨_, _, ⟨rfl, HR.out⟩, hO.out⟩

theorem rmay16_any (A0 A1 A2 Ac Al : Option Addr) (n0 n1 n2 nc nl c0 c1 c2 cc cl B Bl : Nat) (h : Hst) (x : Wld) (w : World) (hg : HIn w B A0 A1 A2 n0 n1 n2 h) (hl : Row w Bl Al (edgeC x.l)) (hcl : x.c.length = nc) (hll : x.l.length = nl) (hM : nl ≤ 100000) :
  Calls Tryz.prog 27 #[hval A0 A1 A2 n0 n1 n2 c0 c1 c2, .agg #[.slice Ac nc cc, .slice Al nl cl]] w fun e w' => e = .returned (.bool (mayW h x)) ∧ Only [] w w' := by
 have HMY := Hd (fun w' (O : Only [] w w') => refmay_any A0 A1 A2 n0 n1 n2 c0 c1 c2 B h w' (hg.same O));have HIN := Hd (fun w' (O : Only [] w w') => rinfos_any A0 A1 A2 n0 n1 n2 c0 c1 c2 B h w' (hg.same O).at_.r2 hg.n2 (by have := hg.sm.nl; rw [hg.n2] at this; exact this));have HLS := Hd (fun w' (O : Only [] w w') => rlost_any A0 A1 A2 n0 n1 n2 c0 c1 c2 B h w' (hg.same O).at_.r2 hg.n2 (by have := hg.sm.nl; rw [hg.n2] at this; exact this) hg.sm.no);have HG := Hd hl;have HM := Hd hll;rw [lostP_eq] at HLS;have HA := Hd (fun hm => mayW_a (h := h) (x := x) hm);have HB := Hd (fun hm => mayW_b (h := h) (x := x) hm);have HC := Hd (fun hm => mayW_c (h := h) (x := x) hm);have HD := Hd (fun hm h1 h2 => mayW_d (h := h) (x := x) hm h1 h2);rw [hcl] at HB HD;rw [hll] at HC HD;rw [List.length_map] at HLS;unfold infoB at HB HD;obtain ⟨ni, hni⟩ : ∃ ni, (whichL (fun t : Tx => decide (t.f = 3)) h.l).length = ni := ⟨_, rfl⟩;obtain ⟨no, hno⟩ : ∃ no, (lostX h.l).length = no := ⟨_, rfl⟩;rw [hni] at HB HD HIN;rw [hno] at HC HD HLS;generalize mayW h x = q at *;generalize x.l = xl at *;unfold hval at *;clear hg hl hcl hll hni hno;have HO1 := Hd (((Only.refl [] w).alloc (.cells #[.slice A0 n0 c0, .slice A1 n1 c1, .slice A2 n2 c2] 25)).alloc (.cells #[.slice Ac nc cc, .slice Al nl cl] 51));have HB1 := Hd ((Blk.made w 25 #[.slice A0 n0 c0, .slice A1 n1 c1, .slice A2 n2 c2]).alloc (.cells #[.slice Ac nc cc, .slice Al nl cl] 51));have HW1 := Hd (Blk.made (w.alloc (.cells #[.slice A0 n0 c0, .slice A1 n1 c1, .slice A2 n2 c2] 25)) 51 #[.slice Ac nc cc, .slice Al nl cl]);simp only [World.size_alloc] at HW1
 cases hm : mayH h with
 | false =>
  have HE := Hd (HA.out hm);rw [errH_not hm] at HMY;clear HA HB HC HD HIN HLS HG HM hm;go_enter Tryz.func27, Tryz.ntmps27;go_upto_region 1 with (fail)
  generalize ((w.alloc (.cells #[.slice A0 n0 c0, .slice A1 n1 c1, .slice A2 n2 c2] 25)).alloc (.cells #[.slice Ac nc cc, .slice Al nl cl] 51)) = w1 at *;generalize hgw : w.heap.size + 1 = gw at *;generalize hgg : w.heap.size = g at *;refine wp_region_noPanic ?_;refine wp_region_timed (F := [⟨[], [], fun w' => Only [] w1 w'⟩]) (by kernel_rfl) (th1 ((Only.refl [] w1).drew)) ?_;have OW : Only [] w1 w1.drew := (Only.refl [] w1).drew;generalize w1.drew = wz at *;refine trd (i := 0) (v := ?_) 0 ?_ ?_;rotate_left
  ·(intro wq hSw; obtain ⟨lb_H, y0, y1, y2⟩ := Bk3 (hSw.blk HB1.out (by simp)); simp at y0 y1 y2; obtain ⟨lb_W, x0, x1⟩ := Bk2 (hSw.blk HW1.out (by simp)); simp at x0 x1; clear hSw; go_simp; try with_reducible rfl)
  (try simp only [tdz]);refine tst (i := 1) fun K hK => ?_;go_simp;refine (HMY.out _ (HO1.out.trans OW)).mono ?_;rintro e wa ⟨rfl, Oa⟩;have OW1 := OW.trans Oa;clear Oa;refine hK.out _ _ (th1 (OW1)) ?_;clear hK K;(try simp only [tdz]);refine tp (i := 2) ?_;(try simp only [tdz]);refine tp (i := 3) ?_;(try simp only [tdz]);refine tid (i := 4) (tid (i := 5) (tid (i := 6) (tid (i := 7) (tid (i := 8) (tid (i := 9) (tid (i := 10) ?_))))));(try simp only [tdz]);refine tp (i := 11) ?_;(try simp only [tdz]);refine tp (i := 12) ?_;(try simp only [tdz]);refine tid (i := 13) (tid (i := 14) (tid (i := 15) (tid (i := 16) (tid (i := 17) (tid (i := 18) (tid (i := 19) ?_))))));(try simp only [tdz]);refine tp (i := 20) ?_;(try simp only [tdz]);refine timed_done (by kernel_rfl) ?_ _;refine NoPanic.normal ?_;have HO2 := Hd (HO1.out.trans OW1);go_wp2
  go_ret
  exact ⟨by rw [HE.out]; rfl, HO2.out⟩
 | true =>
  rw [errH_yes hm] at HMY;have HDD := Hd (fun h1 h2 => HD.out hm h1 h2);clear HA HD hm
  by_cases hc : nc = ni
  ·subst hc
   by_cases hl : nl = no
   ·subst hl;have HE := Hd (HDD.out rfl rfl);clear HDD HB HC;go_enter Tryz.func27, Tryz.ntmps27;go_upto_region 1 with (fail)
    generalize ((w.alloc (.cells #[.slice A0 n0 c0, .slice A1 n1 c1, .slice A2 n2 c2] 25)).alloc (.cells #[.slice Ac nc cc, .slice Al nl cl] 51)) = w1 at *;generalize hgw : w.heap.size + 1 = gw at *;generalize hgg : w.heap.size = g at *;have RD0 := Hd fun wq (hSw : Only [] w1 wq) => And.intro (Bk3 (hSw.blk HB1.out (by simp))) (Bk2 (hSw.blk HW1.out (by simp)));refine wp_region_noPanic ?_;refine wp_region_timed (F := [⟨[], [], fun w' => Only [] w1 w'⟩]) (by kernel_rfl) (th1 ((Only.refl [] w1).drew)) ?_;have OW : Only [] w1 w1.drew := (Only.refl [] w1).drew;generalize w1.drew = wz at *;refine trd (i := 0) (v := ?_) 0 ?_ ?_;rotate_left
    ·(intro wq q; obtain ⟨⟨lb_H, y0, y1, y2⟩, ⟨lb_W, x0, x1⟩⟩ := RD0.out wq q; simp at y0 y1 y2; simp at x0 x1; clear q; go_simp; try with_reducible rfl)
    (try simp only [tdz]);refine tst (i := 1) fun K hK => ?_;go_simp;refine (HMY.out _ (HO1.out.trans OW)).mono ?_;rintro e wa ⟨rfl, Oa⟩;have OW1 := OW.trans Oa;clear Oa;refine hK.out _ _ (th1 (OW1)) ?_;clear hK K;(try simp only [tdz]);refine tp (i := 2) ?_;(try simp only [tdz]);refine tp (i := 3) ?_;(try simp only [tdz]);refine tp (i := 4) ?_;(try simp only [tdz]);refine trd (i := 5) (v := ?_) 0 ?_ ?_;rotate_left
    ·(intro wq q; obtain ⟨⟨lb_H, y0, y1, y2⟩, ⟨lb_W, x0, x1⟩⟩ := RD0.out wq q; simp at y0 y1 y2; simp at x0 x1; clear q; go_simp; try with_reducible rfl)
    (try simp only [tdz]);refine tp (i := 6) ?_;(try simp only [tdz]);refine trd (i := 7) (v := ?_) 0 ?_ ?_;rotate_left
    ·(intro wq q; obtain ⟨⟨lb_H, y0, y1, y2⟩, ⟨lb_W, x0, x1⟩⟩ := RD0.out wq q; simp at y0 y1 y2; simp at x0 x1; clear q; go_simp; try with_reducible rfl)
    (try simp only [tdz]);refine tst (i := 8) fun K hK => ?_;go_simp;refine (HIN.out _ (HO1.out.trans OW1)).mono ?_;rintro e wb ⟨Ai, ci, ⟨rfl, -⟩, Ob⟩;have OW2 := OW1.trans Ob;clear Ob;refine hK.out _ _ (th1 (OW2)) ?_;clear hK K;(try simp only [tdz]);refine tp (i := 9) ?_;(try simp only [tdz]);refine tp (i := 10) ?_;(try simp only [tdz]);refine tp (i := 11) ?_;(try simp only [tdz]);refine tp (i := 12) ?_;(try simp only [tdz]);refine tp (i := 13) ?_;(try simp only [tdz]);refine trd (i := 14) (v := ?_) 0 ?_ ?_;rotate_left
    ·(intro wq q; obtain ⟨⟨lb_H, y0, y1, y2⟩, ⟨lb_W, x0, x1⟩⟩ := RD0.out wq q; simp at y0 y1 y2; simp at x0 x1; clear q; go_simp; try with_reducible rfl)
    (try simp only [tdz]);refine tp (i := 15) ?_;(try simp only [tdz]);refine trd (i := 16) (v := ?_) 0 ?_ ?_;rotate_left
    ·(intro wq q; obtain ⟨⟨lb_H, y0, y1, y2⟩, ⟨lb_W, x0, x1⟩⟩ := RD0.out wq q; simp at y0 y1 y2; simp at x0 x1; clear q; go_simp; try with_reducible rfl)
    (try simp only [tdz]);refine tst (i := 17) fun K hK => ?_;go_simp;refine (HLS.out _ (HO1.out.trans OW2)).mono ?_;rintro e wc ⟨AL, cL, ⟨rfl, -⟩, Oc⟩;have OW3 := OW2.trans Oc;clear Oc;refine hK.out _ _ (th1 (OW3)) ?_;clear hK K;(try simp only [tdz]);refine tp (i := 18) ?_;(try simp only [tdz]);refine tp (i := 19) ?_;(try simp only [tdz]);refine tp (i := 20) ?_;(try simp only [tdz]);refine timed_done (by kernel_rfl) ?_ _;refine NoPanic.normal ?_;have HO2 := Hd (HO1.out.trans OW3);have HW2 := Hd (OW3.blk HW1.out (by simp));clear OW OW1 OW2 OW3 HB1 HW1 HMY HIN HLS HO1;go_wp2_with fail
    go_loopw [5] (fun iv wr => ∃ k : Nat, iv = .int .i64 (k : Int) ∧ k ≤ nl ∧ Hid ((xl.take k).any (fun v => !okV v) = false) ∧ Hid (Blk wr gw 51 #[.slice Ac nc cc, .slice Al nl cl]) ∧ Hid (Only [] w wr)) (fun iv _ => nl - (intOf iv).toNat)
    case atStart => exact ⟨0, rfl, by omega, Hd rfl, HW2, HO2⟩
    case round =>
     obtain ⟨k, rfl, hk, hn, hW, hO⟩ := hrel;clear HW2 HO2;have lW := hW.out.lt;have x1 := hW.out.at_ 1;simp at x1
     by_cases hlt : k < nl
     ·obtain ⟨u, hu⟩ : ∃ u, xl[k]? = some u := ⟨_, List.getElem?_eq_getElem (by rw [HM.out]; exact hlt)⟩;obtain ⟨b, off, rfl, hbB, hbw, hcx⟩ := (HG.out.only hO.out (by simp)).open_ (k := k * 2) (by rw [edgeC_len, HM.out]; omega);have hE := edgeC_get xl k u hu;have e0 := hcx _ _ hE.1;have e1 := hcx _ _ hE.2;rw [← Nat.add_assoc] at e1;have h01 : (k : Int) < (nl : Int) := by omega
      have hk0 : (0 : Int) ≤ (k : Int) := Int.natCast_nonneg _;have hwk : IntKind.i64.wrap ((k : Int) + 1) = (k : Int) + 1 := IntWalk.i64_in _ (by omega);have HTK := Hd (anyE_take hu);have HTT := Hd (fun h => anyE_true hu h);obtain ⟨v1, v2⟩ := u;dsimp only at e0 e1;clear hcx hE hu;have hcase : (v1 = 1 ∧ okV (v1, v2) = true) ∨ ((v1 == 1) = false ∧ ((v1 = 0 ∧ v2 = 0 ∧ okV (v1, v2) = true) ∨ (okV (v1, v2) = false ∧ ((v1 == 0) = false ∨ ((v1 == 0) = true ∧ (v2 == 0) = false))))) := by
       unfold okV
       by_cases h1 : v1 = 1
       ·exact .inl ⟨h1, by simp [h1]⟩
       ·refine .inr ⟨by simp [h1], ?_⟩
        by_cases h0 : v1 = 0
        ·by_cases h2 : v2 = 0
         ·exact .inl ⟨h0, h2, by simp [h0, h2]⟩
         ·exact .inr ⟨by simp [h0, h2], .inr ⟨by simp [h0], by simp [h2]⟩⟩
        ·exact .inr ⟨by simp [h0, h1], .inl (by simp [h0])⟩
      have O2 : Only [] wr (wr.alloc (.cells #[.int .i64 v1, .int .i64 v2] 38)) := (Only.refl [] wr).alloc _;have HW3 := Hd (O2.blk hW.out (by simp));have HO3 := Hd (hO.out.trans O2);clear O2;rcases hcase with ⟨rfl, ho⟩ | ⟨hb, ⟨rfl, rfl, ho⟩ | ⟨ho, hb0 | ⟨hb0, hb1⟩⟩⟩
      ·have HN := Hd (HTK.out.trans (by rw [hn.out, ho]));clear HTK HTT hn ho;go_wp2
       go_roundw
       case rel => exact ⟨k + 1, by go_num, by omega, HN, HW3, HO3⟩
       case measure => simp [intOf]; omega
      ·have HN := Hd (HTK.out.trans (by rw [hn.out, ho]));clear HTK HTT hn ho;go_wp2
       go_roundw
       case rel => exact ⟨k + 1, by go_num, by omega, HN, HW3, HO3⟩
       case measure => simp [intOf]; omega
      ·have HF := Hd (HTT.out ho);clear HTK HTT hn ho;have hq1 : (v1 != 1) = true := by simp [bne, hb]
       have hq2 : (v1 != 0) = true := by simp [bne, hb0]
       go_wp2
       go_ret
       exact ⟨by rw [HE.out, HF.out]; rfl, HO3.out⟩
      ·have HF := Hd (HTT.out ho);clear HTK HTT hn ho;have hq1 : (v1 != 1) = true := by simp [bne, hb]
       have hq2 : (v1 != 0) = false := by simp [bne, hb0]
       have hq3 : (v2 != 0) = true := by simp [bne, hb1]
       go_wp2
       go_ret
       exact ⟨by rw [HE.out, HF.out]; rfl, HO3.out⟩
     ·have hkn : k = nl := by omega
      subst hkn;have hd2 : decide ((k : Int) < (k : Int)) = false := by simp
      rw [List.take_of_length_le (by rw [HM.out]; omega)] at hn;go_wp2
      go_ret
      exact ⟨by rw [HE.out, hn.out]; rfl, hO.out⟩
   ·have HE := Hd (HC.out hl);have hne : ((nl : Int) == (no : Int)) = false := by simp; omega
    have hne2 : (nl == no) = false := by simp; omega
    have hne3 : decide (nl = no) = false := by simp; omega
    clear HDD HB HC HG HM hl;go_enter Tryz.func27, Tryz.ntmps27;go_upto_region 1 with (fail)
    generalize ((w.alloc (.cells #[.slice A0 n0 c0, .slice A1 n1 c1, .slice A2 n2 c2] 25)).alloc (.cells #[.slice Ac nc cc, .slice Al nl cl] 51)) = w1 at *;generalize hgw : w.heap.size + 1 = gw at *;generalize hgg : w.heap.size = g at *;have RD0 := Hd fun wq (hSw : Only [] w1 wq) => And.intro (Bk3 (hSw.blk HB1.out (by simp))) (Bk2 (hSw.blk HW1.out (by simp)));refine wp_region_noPanic ?_;refine wp_region_timed (F := [⟨[], [], fun w' => Only [] w1 w'⟩]) (by kernel_rfl) (th1 ((Only.refl [] w1).drew)) ?_;have OW : Only [] w1 w1.drew := (Only.refl [] w1).drew;generalize w1.drew = wz at *;refine trd (i := 0) (v := ?_) 0 ?_ ?_;rotate_left
    ·(intro wq q; obtain ⟨⟨lb_H, y0, y1, y2⟩, ⟨lb_W, x0, x1⟩⟩ := RD0.out wq q; simp at y0 y1 y2; simp at x0 x1; clear q; go_simp; try with_reducible rfl)
    (try simp only [tdz]);refine tst (i := 1) fun K hK => ?_;go_simp;refine (HMY.out _ (HO1.out.trans OW)).mono ?_;rintro e wa ⟨rfl, Oa⟩;have OW1 := OW.trans Oa;clear Oa;refine hK.out _ _ (th1 (OW1)) ?_;clear hK K;(try simp only [tdz]);refine tp (i := 2) ?_;(try simp only [tdz]);refine tp (i := 3) ?_;(try simp only [tdz]);refine tp (i := 4) ?_;(try simp only [tdz]);refine trd (i := 5) (v := ?_) 0 ?_ ?_;rotate_left
    ·(intro wq q; obtain ⟨⟨lb_H, y0, y1, y2⟩, ⟨lb_W, x0, x1⟩⟩ := RD0.out wq q; simp at y0 y1 y2; simp at x0 x1; clear q; go_simp; try with_reducible rfl)
    (try simp only [tdz]);refine tp (i := 6) ?_;(try simp only [tdz]);refine trd (i := 7) (v := ?_) 0 ?_ ?_;rotate_left
    ·(intro wq q; obtain ⟨⟨lb_H, y0, y1, y2⟩, ⟨lb_W, x0, x1⟩⟩ := RD0.out wq q; simp at y0 y1 y2; simp at x0 x1; clear q; go_simp; try with_reducible rfl)
    (try simp only [tdz]);refine tst (i := 8) fun K hK => ?_;go_simp;refine (HIN.out _ (HO1.out.trans OW1)).mono ?_;rintro e wb ⟨Ai, ci, ⟨rfl, -⟩, Ob⟩;have OW2 := OW1.trans Ob;clear Ob;refine hK.out _ _ (th1 (OW2)) ?_;clear hK K;(try simp only [tdz]);refine tp (i := 9) ?_;(try simp only [tdz]);refine tp (i := 10) ?_;(try simp only [tdz]);refine tp (i := 11) ?_;(try simp only [tdz]);refine tp (i := 12) ?_;(try simp only [tdz]);refine tp (i := 13) ?_;(try simp only [tdz]);refine trd (i := 14) (v := ?_) 0 ?_ ?_;rotate_left
    ·(intro wq q; obtain ⟨⟨lb_H, y0, y1, y2⟩, ⟨lb_W, x0, x1⟩⟩ := RD0.out wq q; simp at y0 y1 y2; simp at x0 x1; clear q; go_simp; try with_reducible rfl)
    (try simp only [tdz]);refine tp (i := 15) ?_;(try simp only [tdz]);refine trd (i := 16) (v := ?_) 0 ?_ ?_;rotate_left
    ·(intro wq q; obtain ⟨⟨lb_H, y0, y1, y2⟩, ⟨lb_W, x0, x1⟩⟩ := RD0.out wq q; simp at y0 y1 y2; simp at x0 x1; clear q; go_simp; try with_reducible rfl)
    (try simp only [tdz]);refine tst (i := 17) fun K hK => ?_;go_simp;refine (HLS.out _ (HO1.out.trans OW2)).mono ?_;rintro e wc ⟨AL, cL, ⟨rfl, -⟩, Oc⟩;have OW3 := OW2.trans Oc;clear Oc;refine hK.out _ _ (th1 (OW3)) ?_;clear hK K;(try simp only [tdz]);refine tp (i := 18) ?_;(try simp only [tdz]);refine tp (i := 19) ?_;(try simp only [tdz]);refine tp (i := 20) ?_;(try simp only [tdz]);refine timed_done (by kernel_rfl) ?_ _;refine NoPanic.normal ?_;have HO2 := Hd (HO1.out.trans OW3);go_wp2
    go_ret
    exact ⟨by rw [HE.out]; rfl, HO2.out⟩
  ·have HE := Hd (HB.out hc);have hne : ((nc : Int) == (ni : Int)) = false := by simp; omega
   have hne4 : ((nc : Int) != (ni : Int)) = true := by simp; omega
   have hne5 : (nc != ni) = true := by simp; omega
   have hne2 : (nc == ni) = false := by simp; omega
   have hne3 : decide (nc = ni) = false := by simp; omega
   clear HDD HB HC HLS HG HM hc;go_enter Tryz.func27, Tryz.ntmps27;go_upto_region 1 with (fail)
   generalize ((w.alloc (.cells #[.slice A0 n0 c0, .slice A1 n1 c1, .slice A2 n2 c2] 25)).alloc (.cells #[.slice Ac nc cc, .slice Al nl cl] 51)) = w1 at *;generalize hgw : w.heap.size + 1 = gw at *;generalize hgg : w.heap.size = g at *;have RD0 := Hd fun wq (hSw : Only [] w1 wq) => And.intro (Bk3 (hSw.blk HB1.out (by simp))) (Bk2 (hSw.blk HW1.out (by simp)));refine wp_region_noPanic ?_;refine wp_region_timed (F := [⟨[], [], fun w' => Only [] w1 w'⟩]) (by kernel_rfl) (th1 ((Only.refl [] w1).drew)) ?_;have OW : Only [] w1 w1.drew := (Only.refl [] w1).drew;generalize w1.drew = wz at *;refine trd (i := 0) (v := ?_) 0 ?_ ?_;rotate_left
   ·(intro wq q; obtain ⟨⟨lb_H, y0, y1, y2⟩, ⟨lb_W, x0, x1⟩⟩ := RD0.out wq q; simp at y0 y1 y2; simp at x0 x1; clear q; go_simp; try with_reducible rfl)
   (try simp only [tdz]);refine tst (i := 1) fun K hK => ?_;go_simp;refine (HMY.out _ (HO1.out.trans OW)).mono ?_;rintro e wa ⟨rfl, Oa⟩;have OW1 := OW.trans Oa;clear Oa;refine hK.out _ _ (th1 (OW1)) ?_;clear hK K;(try simp only [tdz]);refine tp (i := 2) ?_;(try simp only [tdz]);refine tp (i := 3) ?_;(try simp only [tdz]);refine tp (i := 4) ?_;(try simp only [tdz]);refine trd (i := 5) (v := ?_) 0 ?_ ?_;rotate_left
   ·(intro wq q; obtain ⟨⟨lb_H, y0, y1, y2⟩, ⟨lb_W, x0, x1⟩⟩ := RD0.out wq q; simp at y0 y1 y2; simp at x0 x1; clear q; go_simp; try with_reducible rfl)
   (try simp only [tdz]);refine tp (i := 6) ?_;(try simp only [tdz]);refine trd (i := 7) (v := ?_) 0 ?_ ?_;rotate_left
   ·(intro wq q; obtain ⟨⟨lb_H, y0, y1, y2⟩, ⟨lb_W, x0, x1⟩⟩ := RD0.out wq q; simp at y0 y1 y2; simp at x0 x1; clear q; go_simp; try with_reducible rfl)
   (try simp only [tdz]);refine tst (i := 8) fun K hK => ?_;go_simp;refine (HIN.out _ (HO1.out.trans OW1)).mono ?_;rintro e wb ⟨Ai, ci, ⟨rfl, -⟩, Ob⟩;have OW2 := OW1.trans Ob;clear Ob;refine hK.out _ _ (th1 (OW2)) ?_;clear hK K;(try simp only [tdz]);refine tp (i := 9) ?_;(try simp only [tdz]);refine tp (i := 10) ?_;(try simp only [tdz]);refine tp (i := 11) ?_;(try simp only [tdz]);refine tp (i := 12) ?_;(try simp only [tdz]);refine tid (i := 13) (tid (i := 14) (tid (i := 15) (tid (i := 16) (tid (i := 17) (tid (i := 18) (tid (i := 19) ?_))))));(try simp only [tdz]);refine tp (i := 20) ?_;(try simp only [tdz]);refine timed_done (by kernel_rfl) ?_ _;refine NoPanic.normal ?_;have HO2 := Hd (HO1.out.trans OW2);go_wp2
   go_ret
   exact ⟨by rw [HE.out]; rfl, HO2.out⟩
end Go.Proofs.YtjfbeeogiejopaaGreatDoor
