/- Parts. -/
import Derived.Test.YtjfbeeogiejopaaGreatDoorWorldAllCardK28
import Derived.Test.YtjfbeeogiejopaaGreatDoorWorldAllCardK29
import Derived.Test.YtjfbeeogiejopaaGreatDoorWorldAllCardK19
import Derived.Test.YtjfbeeogiejopaaGreatDoorWorldAllCardK22
set_option maxRecDepth 10000
set_option maxHeartbeats 16000000
set_option linter.unusedVariables false
set_option linter.unusedSimpArgs false
namespace Go.Proofs.YtjfbeeogiejopaaGreatDoor
open Go.RowKit
open Go.Lib hiding intOf
attribute [local go_sem ↓] Go.wp_at_zero Go.wp_at_succ
theorem mayone_any (v : V2) (w : World) : Calls Tryz.prog 60 #[agV v] w fun e w' => e = .returned (.bool (!okV v)) ∧ Only [] w w' := by
 obtain ⟨v1, v2⟩ := v;unfold agV;dsimp only;have HO := Hd ((Only.refl [] w).alloc (.cells #[.int .i64 v1, .int .i64 v2] 38));have hcase : (v1 = 1 ∧ okV (v1, v2) = true) ∨ (v1 ≠ 1 ∧ (v1 == 1) = false ∧ ((v1 = 0 ∧ v2 = 0 ∧ okV (v1, v2) = true) ∨ (okV (v1, v2) = false ∧ ((v1 == 0) = false ∨ ((v1 == 0) = true ∧ (v2 == 0) = false))))) := by
  unfold okV
  by_cases h1 : v1 = 1
  ·exact .inl ⟨h1, by simp [h1]⟩
  ·refine .inr ⟨h1, by simp [h1], ?_⟩
   by_cases h0 : v1 = 0
   ·by_cases h2 : v2 = 0
    ·exact .inl ⟨h0, h2, by simp [h0, h2]⟩
    ·exact .inr ⟨by simp [h0, h2], .inr ⟨by simp [h0], by simp [h2]⟩⟩
   ·exact .inr ⟨by simp [h0, h1], .inl (by simp [h0])⟩
 rcases hcase with ⟨rfl, ho⟩ | ⟨h1, hb, ⟨rfl, rfl, ho⟩ | ⟨ho, hb0 | ⟨hb0, hb1⟩⟩⟩
 all_goals
  rw [ho];have HH := Hd ho;clear ho;go_enter Tryz.func60, Tryz.ntmps60;go_wp2
  go_ret
  first | exact ⟨rfl, HO.out⟩ | exact ⟨by show Ending.returned (Value.bool (v1 != 1)) = Ending.returned (Value.bool true); rw [show (v1 != 1) = true by simp [bne, hb]], HO.out⟩
theorem anyE_take {l : List V2} {k : Nat} {v : V2} (h : l[k]? = some v) : (l.take (k + 1)).any (fun v => !okV v) = ((l.take k).any (fun v => !okV v) || !okV v) := by
 rw [List.take_add_one, h, List.any_append];simp
theorem anyE_true {l : List V2} {k : Nat} {v : V2} (h : l[k]? = some v) (hv : okV v = false) : l.any (fun v => !okV v) = true := by
 rw [List.any_eq_true];exact ⟨v, List.mem_of_getElem? h, by rw [hv]; rfl⟩
theorem indexf_any (A : Option Addr) (m c B : Nat) (l : List V2) (w : World) (hg : Row w B A (edgeC l)) (hm : l.length = m) (hM : m ≤ 100000) :
  Calls Tryz.prog 86 #[.slice A m c, .func (.func 60) #[] #[]] w fun e w' => ∃ r : Int, (e = .returned (.int .i64 r) ∧ decide (0 ≤ r) = l.any (fun v => !okV v)) ∧ Only [] w w' := by
 have HG := Hd hg;have HM := Hd hm;have HY := Hd (fun v w' => mayone_any v w');clear hg hm;go_enter Tryz.func86, Tryz.ntmps86;go_wp2_with fail
 go_loopw [8] (fun iv wr => ∃ k : Nat, iv = .int .i64 (k : Int) ∧ k ≤ m ∧ Hid ((l.take k).any (fun v => !okV v) = false) ∧ Hid (Only [] w wr)) (fun iv _ => m - (intOf iv).toNat)
 case atStart => exact ⟨0, rfl, by omega, Hd rfl, Hd (Only.refl [] w)⟩
 case round =>
  obtain ⟨k, rfl, hk, hn, hO⟩ := hrel
  by_cases hlt : k < m
  ·obtain ⟨u, hu⟩ : ∃ u, l[k]? = some u := ⟨_, List.getElem?_eq_getElem (by rw [HM.out]; exact hlt)⟩;obtain ⟨b, off, rfl, hbB, hbw, hc⟩ := (HG.out.only hO.out (by simp)).open_ (k := k * 2) (by rw [edgeC_len, HM.out]; omega);have hE := edgeC_get l k u hu;have c0 := hc _ _ hE.1;have c1 := hc _ _ hE.2;rw [← Nat.add_assoc] at c1;have h01 : (k : Int) < (m : Int) := by omega
   have hk0 : (0 : Int) ≤ (k : Int) := Int.natCast_nonneg _;have hwk : IntKind.i64.wrap ((k : Int) + 1) = (k : Int) + 1 := IntWalk.i64_in _ (by omega);have HTK := Hd (anyE_take hu);have HTT := Hd (fun h => anyE_true hu h);have HYU := Hd (fun w' => HY.out u w');obtain ⟨d, hd⟩ : ∃ d, d = okV u := ⟨_, rfl⟩;rw [← hd] at HTK HTT HYU;unfold agV at HYU;obtain ⟨u1, u2⟩ := u;dsimp only at *;clear hc hE hu hd;go_wp2_with fail
   refine (HYU.out _).mono ?_;rintro e w2 ⟨rfl, O2⟩;have HO2 := Hd (hO.out.trans O2);clear O2 hO c0 c1 HYU
   cases d with
   | true =>
    have HN := Hd (HTK.out.trans (by rw [hn.out]));clear HTK HTT hn;go_wp2
    go_roundw
    case rel => exact ⟨k + 1, by go_num, by omega, HN, HO2⟩
    case measure => simp [intOf]; omega
   | false =>
    have HE := Hd (HTT.out rfl);clear HTK HTT hn;go_wp2
    go_ret
    exact ⟨(k : Int), ⟨rfl, by rw [HE.out]; simp⟩, HO2.out⟩
  ·have hkm : k = m := by omega
   subst hkm;have hd2 : decide ((k : Int) < (k : Int)) = false := by simp
   rw [List.take_of_length_le (by rw [HM.out]; omega)] at hn;go_wp2
   go_ret
   exact ⟨-1, ⟨rfl, by rw [hn.out]; rfl⟩, hO.out⟩
theorem containsf_any (A : Option Addr) (m c B : Nat) (l : List V2) (w : World) (hg : Row w B A (edgeC l)) (hm : l.length = m) (hM : m ≤ 100000) :
  Calls Tryz.prog 59 #[.slice A m c, .func (.func 60) #[] #[]] w fun e w' => e = .returned (.bool (l.any (fun v => !okV v))) ∧ Only [] w w' := by
 have HX := Hd (fun w' (O : Only [] w w') => indexf_any A m c B l w' (hg.only O (by simp)) hm hM);generalize l.any (fun v => !okV v) = q at *;clear hg hm;go_enter Tryz.func59, Tryz.ntmps59;go_wp2_with fail
 refine (HX.out _ (Only.refl [] w)).mono ?_;rintro e w2 ⟨r, ⟨rfl, hr⟩, O2⟩;have HR := Hd hr;have HO := Hd O2;clear hr O2 HX;go_wp2
 go_ret
 exact ⟨by rw [← HR.out]; rfl, HO.out⟩
theorem mayW_a {h : Hst} {x : Wld} (hm : mayH h = false) : mayW h x = false := by unfold mayW; rw [hm]; rfl
theorem mayW_b {h : Hst} {x : Wld} (hm : x.c.length ≠ (whichL infoB h.l).length) : mayW h x = false := by unfold mayW; rw [decide_eq_false hm, Bool.false_and, Bool.and_false]
theorem mayW_c {h : Hst} {x : Wld} (hm : x.l.length ≠ (lostX h.l).length) : mayW h x = false := by unfold mayW; rw [decide_eq_false hm, Bool.false_and, Bool.and_false, Bool.and_false]
theorem mayW_d {h : Hst} {x : Wld} (hm : mayH h = true) (h1 : x.c.length = (whichL infoB h.l).length) (h2 : x.l.length = (lostX h.l).length) : mayW h x = !(x.l.any (fun v => !okV v)) := by
 unfold mayW;rw [hm, decide_eq_true h1, decide_eq_true h2, Bool.true_and, Bool.true_and, Bool.true_and]
 induction x.l with
 | nil => rfl
 | cons v l ih => rw [List.all_cons, List.any_cons, ih]; simp
theorem wmay_any (A0 A1 A2 Ac Al : Option Addr) (n0 n1 n2 nc nl c0 c1 c2 cc cl B Bl : Nat) (h : Hst) (x : Wld) (w : World) (hg : HIn w B A0 A1 A2 n0 n1 n2 h) (hl : Row w Bl Al (edgeC x.l)) (hcl : x.c.length = nc) (hll : x.l.length = nl) (hM : nl ≤ 100000) :
  Calls Tryz.prog 26 #[hval A0 A1 A2 n0 n1 n2 c0 c1 c2, .agg #[.slice Ac nc cc, .slice Al nl cl]] w fun e w' => e = .returned (.bool (mayW h x)) ∧ Only [] w w' := by
 have HMY := Hd (fun w' (O : Only [] w w') => hmay_any A0 A1 A2 n0 n1 n2 c0 c1 c2 B h w' (hg.same O));have HIN := Hd (fun w' (O : Only [] w w') => kinfos_any A0 A1 A2 n0 n1 n2 c0 c1 c2 B h w' (hg.same O).at_.r2 hg.n2 (by have := hg.sm.nl; rw [hg.n2] at this; exact this));have HLS := Hd (fun w' (O : Only [] w w') => klost_any A0 A1 A2 n0 n1 n2 c0 c1 c2 B h w' (hg.same O).at_.r2 hg.n2 (by have := hg.sm.nl; rw [hg.n2] at this; exact this) hg.sm.no);have HCF := Hd (fun w' (O : Only [] w w') => containsf_any Al nl cl Bl x.l w' (hl.only O (by simp)) hll hM);rw [lostP_eq] at HLS;have HA := Hd (fun hm => mayW_a (h := h) (x := x) hm);have HB := Hd (fun hm => mayW_b (h := h) (x := x) hm);have HC := Hd (fun hm => mayW_c (h := h) (x := x) hm);have HD := Hd (fun hm h1 h2 => mayW_d (h := h) (x := x) hm h1 h2);rw [hcl] at HB HD;rw [hll] at HC HD;rw [List.length_map] at HLS;unfold infoB at HB HD;obtain ⟨ni, hni⟩ : ∃ ni, (whichL (fun t : Tx => decide (t.f = 3)) h.l).length = ni := ⟨_, rfl⟩;obtain ⟨no, hno⟩ : ∃ no, (lostX h.l).length = no := ⟨_, rfl⟩;rw [hni] at HB HD HIN;rw [hno] at HC HD HLS;generalize mayW h x = q at *;generalize x.l.any (fun v => !okV v) = qq at *;unfold hval at *;clear hg hl hcl hll hni hno;have HO1 := Hd (((Only.refl [] w).alloc (.cells #[.slice A0 n0 c0, .slice A1 n1 c1, .slice A2 n2 c2] 25)).alloc (.cells #[.slice Ac nc cc, .slice Al nl cl] 51));have HB1 := Hd ((Blk.made w 25 #[.slice A0 n0 c0, .slice A1 n1 c1, .slice A2 n2 c2]).alloc (.cells #[.slice Ac nc cc, .slice Al nl cl] 51));have HW1 := Hd (Blk.made (w.alloc (.cells #[.slice A0 n0 c0, .slice A1 n1 c1, .slice A2 n2 c2] 25)) 51 #[.slice Ac nc cc, .slice Al nl cl]);simp only [World.size_alloc] at HW1
 cases hm : mayH h with
 | false =>
  have HE := Hd (HA.out hm);rw [errH_not hm] at HMY;clear HA HB HC HD HIN HLS HCF hm;go_enter Tryz.func26, Tryz.ntmps26;go_upto_region 1 with (fail)
  generalize ((w.alloc (.cells #[.slice A0 n0 c0, .slice A1 n1 c1, .slice A2 n2 c2] 25)).alloc (.cells #[.slice Ac nc cc, .slice Al nl cl] 51)) = w1 at *;generalize w.heap.size = g at *;refine wp_region_noPanic ?_;refine wp_region_timed (F := [⟨[], [], fun w' => Only [] w1 w'⟩]) (by kernel_rfl) (th1 ((Only.refl [] w1).drew)) ?_;have OW : Only [] w1 w1.drew := (Only.refl [] w1).drew;generalize w1.drew = wz at *;refine trd (i := 0) (v := ?_) 0 ?_ ?_;rotate_left
  ·(intro wq hSw; obtain ⟨lb_H, y0, y1, y2⟩ := Bk3 (hSw.blk HB1.out (by simp)); simp at y0 y1 y2; obtain ⟨lb_W, x0, x1⟩ := Bk2 (hSw.blk HW1.out (by simp)); simp at x0 x1; clear hSw; go_simp; try with_reducible rfl)
  (try simp only [tdz]);refine tst (i := 1) fun K hK => ?_;go_simp;refine (HMY.out _ (HO1.out.trans OW)).mono ?_;rintro e wa ⟨rfl, Oa⟩;have OW1 := OW.trans Oa;clear Oa;refine hK.out _ _ (th1 (OW1)) ?_;clear hK K;(try simp only [tdz]);refine tp (i := 2) ?_;(try simp only [tdz]);refine tp (i := 3) ?_;(try simp only [tdz]);refine tid (i := 4) (tid (i := 5) (tid (i := 6) (tid (i := 7) (tid (i := 8) (tid (i := 9) (tid (i := 10) ?_))))));(try simp only [tdz]);refine tp (i := 11) ?_;(try simp only [tdz]);refine tp (i := 12) ?_;(try simp only [tdz]);refine tid (i := 13) (tid (i := 14) (tid (i := 15) (tid (i := 16) (tid (i := 17) (tid (i := 18) (tid (i := 19) ?_))))));(try simp only [tdz]);refine tp (i := 20) ?_;(try simp only [tdz]);refine tp (i := 21) ?_;(try simp only [tdz]);refine tid (i := 22) (tid (i := 23) (tid (i := 24) (tid (i := 25) ?_)));(try simp only [tdz]);refine tp (i := 26) ?_;(try simp only [tdz]);refine tp (i := 27) ?_;(try simp only [tdz]);refine timed_done (by kernel_rfl) ?_ _;refine NoPanic.normal ?_;have HO2 := Hd (HO1.out.trans OW1);go_wp2
  go_ret
  exact ⟨by rw [HE.out]; rfl, HO2.out⟩
 | true =>
  rw [errH_yes hm] at HMY;have HDD := Hd (fun h1 h2 => HD.out hm h1 h2);clear HA HD hm
  by_cases hc : nc = ni
  ·subst hc
   by_cases hl : nl = no
   ·subst hl;have HE := Hd (HDD.out rfl rfl);clear HDD HB HC;go_enter Tryz.func26, Tryz.ntmps26;go_upto_region 1 with (fail)
    generalize ((w.alloc (.cells #[.slice A0 n0 c0, .slice A1 n1 c1, .slice A2 n2 c2] 25)).alloc (.cells #[.slice Ac nc cc, .slice Al nl cl] 51)) = w1 at *;generalize w.heap.size = g at *;have RD0 := Hd fun wq (hSw : Only [] w1 wq) => And.intro (Bk3 (hSw.blk HB1.out (by simp))) (Bk2 (hSw.blk HW1.out (by simp)));refine wp_region_noPanic ?_;refine wp_region_timed (F := [⟨[], [], fun w' => Only [] w1 w'⟩]) (by kernel_rfl) (th1 ((Only.refl [] w1).drew)) ?_;have OW : Only [] w1 w1.drew := (Only.refl [] w1).drew;generalize w1.drew = wz at *;refine trd (i := 0) (v := ?_) 0 ?_ ?_;rotate_left
    ·(intro wq q; obtain ⟨⟨lb_H, y0, y1, y2⟩, ⟨lb_W, x0, x1⟩⟩ := RD0.out wq q; simp at y0 y1 y2; simp at x0 x1; clear q; go_simp; try with_reducible rfl)
    (try simp only [tdz]);refine tst (i := 1) fun K hK => ?_;go_simp;refine (HMY.out _ (HO1.out.trans OW)).mono ?_;rintro e wa ⟨rfl, Oa⟩;have OW1 := OW.trans Oa;clear Oa;refine hK.out _ _ (th1 (OW1)) ?_;clear hK K;(try simp only [tdz]);refine tp (i := 2) ?_;(try simp only [tdz]);refine tp (i := 3) ?_;(try simp only [tdz]);refine tp (i := 4) ?_;(try simp only [tdz]);refine trd (i := 5) (v := ?_) 0 ?_ ?_;rotate_left
    ·(intro wq q; obtain ⟨⟨lb_H, y0, y1, y2⟩, ⟨lb_W, x0, x1⟩⟩ := RD0.out wq q; simp at y0 y1 y2; simp at x0 x1; clear q; go_simp; try with_reducible rfl)
    (try simp only [tdz]);refine tp (i := 6) ?_;(try simp only [tdz]);refine trd (i := 7) (v := ?_) 0 ?_ ?_;rotate_left
    ·(intro wq q; obtain ⟨⟨lb_H, y0, y1, y2⟩, ⟨lb_W, x0, x1⟩⟩ := RD0.out wq q; simp at y0 y1 y2; simp at x0 x1; clear q; go_simp; try with_reducible rfl)
    (try simp only [tdz]);refine tst (i := 8) fun K hK => ?_;go_simp;refine (HIN.out _ (HO1.out.trans OW1)).mono ?_;rintro e wb ⟨Ai, ci, ⟨rfl, -⟩, Ob⟩;have OW2 := OW1.trans Ob;clear Ob;refine hK.out _ _ (th1 (OW2)) ?_;clear hK K;(try simp only [tdz]);refine tp (i := 9) ?_;(try simp only [tdz]);refine tp (i := 10) ?_;(try simp only [tdz]);refine tp (i := 11) ?_;(try simp only [tdz]);refine tp (i := 12) ?_;(try simp only [tdz]);refine tp (i := 13) ?_;(try simp only [tdz]);refine trd (i := 14) (v := ?_) 0 ?_ ?_;rotate_left
    ·(intro wq q; obtain ⟨⟨lb_H, y0, y1, y2⟩, ⟨lb_W, x0, x1⟩⟩ := RD0.out wq q; simp at y0 y1 y2; simp at x0 x1; clear q; go_simp; try with_reducible rfl)
    (try simp only [tdz]);refine tp (i := 15) ?_;(try simp only [tdz]);refine trd (i := 16) (v := ?_) 0 ?_ ?_;rotate_left
    ·(intro wq q; obtain ⟨⟨lb_H, y0, y1, y2⟩, ⟨lb_W, x0, x1⟩⟩ := RD0.out wq q; simp at y0 y1 y2; simp at x0 x1; clear q; go_simp; try with_reducible rfl)
    (try simp only [tdz]);refine tst (i := 17) fun K hK => ?_;go_simp;refine (HLS.out _ (HO1.out.trans OW2)).mono ?_;rintro e wc ⟨VL, ⟨rfl, hl3⟩, Oc⟩;obtain ⟨AL, cL, rfl, -, -, -, -⟩ := own_row hl3;have OW3 := OW2.trans Oc;clear Oc hl3;refine hK.out _ _ (th1 (OW3)) ?_;clear hK K;(try simp only [tdz]);refine tp (i := 18) ?_;(try simp only [tdz]);refine tp (i := 19) ?_;(try simp only [tdz]);refine tp (i := 20) ?_;(try simp only [tdz]);refine tp (i := 21) ?_;(try simp only [tdz]);refine tp (i := 22) ?_;(try simp only [tdz]);refine trd (i := 23) (v := ?_) 0 ?_ ?_;rotate_left
    ·(intro wq q; obtain ⟨⟨lb_H, y0, y1, y2⟩, ⟨lb_W, x0, x1⟩⟩ := RD0.out wq q; simp at y0 y1 y2; simp at x0 x1; clear q; go_simp; try with_reducible rfl)
    (try simp only [tdz]);refine tst (i := 24) fun K hK => ?_;go_simp;refine (HCF.out _ (HO1.out.trans OW3)).mono ?_;rintro e wd ⟨rfl, Od⟩;have OW4 := OW3.trans Od;clear Od;refine hK.out _ _ (th1 (OW4)) ?_;clear hK K;(try simp only [tdz]);refine tp (i := 25) ?_;(try simp only [tdz]);refine tp (i := 26) ?_;(try simp only [tdz]);refine tp (i := 27) ?_;(try simp only [tdz]);refine timed_done (by kernel_rfl) ?_ _;refine NoPanic.normal ?_;have HO2 := Hd (HO1.out.trans OW4);go_wp2
    go_ret
    exact ⟨by rw [HE.out]; rfl, HO2.out⟩
   ·have HE := Hd (HC.out hl);have hne : ((nl : Int) == (no : Int)) = false := by simp; omega
    have hne2 : (nl == no) = false := by simp; omega
    have hne3 : decide (nl = no) = false := by simp; omega
    clear HDD HB HC HCF hl;go_enter Tryz.func26, Tryz.ntmps26;go_upto_region 1 with (fail)
    generalize ((w.alloc (.cells #[.slice A0 n0 c0, .slice A1 n1 c1, .slice A2 n2 c2] 25)).alloc (.cells #[.slice Ac nc cc, .slice Al nl cl] 51)) = w1 at *;generalize w.heap.size = g at *;have RD0 := Hd fun wq (hSw : Only [] w1 wq) => And.intro (Bk3 (hSw.blk HB1.out (by simp))) (Bk2 (hSw.blk HW1.out (by simp)));refine wp_region_noPanic ?_;refine wp_region_timed (F := [⟨[], [], fun w' => Only [] w1 w'⟩]) (by kernel_rfl) (th1 ((Only.refl [] w1).drew)) ?_;have OW : Only [] w1 w1.drew := (Only.refl [] w1).drew;generalize w1.drew = wz at *;refine trd (i := 0) (v := ?_) 0 ?_ ?_;rotate_left
    ·(intro wq q; obtain ⟨⟨lb_H, y0, y1, y2⟩, ⟨lb_W, x0, x1⟩⟩ := RD0.out wq q; simp at y0 y1 y2; simp at x0 x1; clear q; go_simp; try with_reducible rfl)
    (try simp only [tdz]);refine tst (i := 1) fun K hK => ?_;go_simp;refine (HMY.out _ (HO1.out.trans OW)).mono ?_;rintro e wa ⟨rfl, Oa⟩;have OW1 := OW.trans Oa;clear Oa;refine hK.out _ _ (th1 (OW1)) ?_;clear hK K;(try simp only [tdz]);refine tp (i := 2) ?_;(try simp only [tdz]);refine tp (i := 3) ?_;(try simp only [tdz]);refine tp (i := 4) ?_;(try simp only [tdz]);refine trd (i := 5) (v := ?_) 0 ?_ ?_;rotate_left
    ·(intro wq q; obtain ⟨⟨lb_H, y0, y1, y2⟩, ⟨lb_W, x0, x1⟩⟩ := RD0.out wq q; simp at y0 y1 y2; simp at x0 x1; clear q; go_simp; try with_reducible rfl)
    (try simp only [tdz]);refine tp (i := 6) ?_;(try simp only [tdz]);refine trd (i := 7) (v := ?_) 0 ?_ ?_;rotate_left
    ·(intro wq q; obtain ⟨⟨lb_H, y0, y1, y2⟩, ⟨lb_W, x0, x1⟩⟩ := RD0.out wq q; simp at y0 y1 y2; simp at x0 x1; clear q; go_simp; try with_reducible rfl)
    (try simp only [tdz]);refine tst (i := 8) fun K hK => ?_;go_simp;refine (HIN.out _ (HO1.out.trans OW1)).mono ?_;rintro e wb ⟨Ai, ci, ⟨rfl, -⟩, Ob⟩;have OW2 := OW1.trans Ob;clear Ob;refine hK.out _ _ (th1 (OW2)) ?_;clear hK K;(try simp only [tdz]);refine tp (i := 9) ?_;(try simp only [tdz]);refine tp (i := 10) ?_;(try simp only [tdz]);refine tp (i := 11) ?_;(try simp only [tdz]);refine tp (i := 12) ?_;(try simp only [tdz]);refine tp (i := 13) ?_;(try simp only [tdz]);refine trd (i := 14) (v := ?_) 0 ?_ ?_;rotate_left
    ·(intro wq q; obtain ⟨⟨lb_H, y0, y1, y2⟩, ⟨lb_W, x0, x1⟩⟩ := RD0.out wq q; simp at y0 y1 y2; simp at x0 x1; clear q; go_simp; try with_reducible rfl)
    (try simp only [tdz]);refine tp (i := 15) ?_;(try simp only [tdz]);refine trd (i := 16) (v := ?_) 0 ?_ ?_;rotate_left
    ·(intro wq q; obtain ⟨⟨lb_H, y0, y1, y2⟩, ⟨lb_W, x0, x1⟩⟩ := RD0.out wq q; simp at y0 y1 y2; simp at x0 x1; clear q; go_simp; try with_reducible rfl)
    (try simp only [tdz]);refine tst (i := 17) fun K hK => ?_;go_simp;refine (HLS.out _ (HO1.out.trans OW2)).mono ?_;rintro e wc ⟨VL, ⟨rfl, hl3⟩, Oc⟩;obtain ⟨AL, cL, rfl, -, -, -, -⟩ := own_row hl3;have OW3 := OW2.trans Oc;clear Oc hl3;refine hK.out _ _ (th1 (OW3)) ?_;clear hK K;(try simp only [tdz]);refine tp (i := 18) ?_;(try simp only [tdz]);refine tp (i := 19) ?_;(try simp only [tdz]);refine tp (i := 20) ?_;(try simp only [tdz]);refine tp (i := 21) ?_;(try simp only [tdz]);refine tid (i := 22) (tid (i := 23) (tid (i := 24) (tid (i := 25) ?_)));(try simp only [tdz]);refine tp (i := 26) ?_;(try simp only [tdz]);refine tp (i := 27) ?_;(try simp only [tdz]);refine timed_done (by kernel_rfl) ?_ _;refine NoPanic.normal ?_;have HO2 := Hd (HO1.out.trans OW3);go_wp2
    go_ret
    exact ⟨by rw [HE.out]; rfl, HO2.out⟩
  ·have HE := Hd (HB.out hc);have hne : ((nc : Int) == (ni : Int)) = false := by simp; omega
   have hne2 : (nc == ni) = false := by simp; omega
   have hne3 : decide (nc = ni) = false := by simp; omega
   clear HDD HB HC HCF HLS hc;go_enter Tryz.func26, Tryz.ntmps26;go_upto_region 1 with (fail)
   generalize ((w.alloc (.cells #[.slice A0 n0 c0, .slice A1 n1 c1, .slice A2 n2 c2] 25)).alloc (.cells #[.slice Ac nc cc, .slice Al nl cl] 51)) = w1 at *;generalize w.heap.size = g at *;have RD0 := Hd fun wq (hSw : Only [] w1 wq) => And.intro (Bk3 (hSw.blk HB1.out (by simp))) (Bk2 (hSw.blk HW1.out (by simp)));refine wp_region_noPanic ?_;refine wp_region_timed (F := [⟨[], [], fun w' => Only [] w1 w'⟩]) (by kernel_rfl) (th1 ((Only.refl [] w1).drew)) ?_;have OW : Only [] w1 w1.drew := (Only.refl [] w1).drew;generalize w1.drew = wz at *;refine trd (i := 0) (v := ?_) 0 ?_ ?_;rotate_left
   ·(intro wq q; obtain ⟨⟨lb_H, y0, y1, y2⟩, ⟨lb_W, x0, x1⟩⟩ := RD0.out wq q; simp at y0 y1 y2; simp at x0 x1; clear q; go_simp; try with_reducible rfl)
   (try simp only [tdz]);refine tst (i := 1) fun K hK => ?_;go_simp;refine (HMY.out _ (HO1.out.trans OW)).mono ?_;rintro e wa ⟨rfl, Oa⟩;have OW1 := OW.trans Oa;clear Oa;refine hK.out _ _ (th1 (OW1)) ?_;clear hK K;(try simp only [tdz]);refine tp (i := 2) ?_;(try simp only [tdz]);refine tp (i := 3) ?_;(try simp only [tdz]);refine tp (i := 4) ?_;(try simp only [tdz]);refine trd (i := 5) (v := ?_) 0 ?_ ?_;rotate_left
   ·(intro wq q; obtain ⟨⟨lb_H, y0, y1, y2⟩, ⟨lb_W, x0, x1⟩⟩ := RD0.out wq q; simp at y0 y1 y2; simp at x0 x1; clear q; go_simp; try with_reducible rfl)
   (try simp only [tdz]);refine tp (i := 6) ?_;(try simp only [tdz]);refine trd (i := 7) (v := ?_) 0 ?_ ?_;rotate_left
   ·(intro wq q; obtain ⟨⟨lb_H, y0, y1, y2⟩, ⟨lb_W, x0, x1⟩⟩ := RD0.out wq q; simp at y0 y1 y2; simp at x0 x1; clear q; go_simp; try with_reducible rfl)
   (try simp only [tdz]);refine tst (i := 8) fun K hK => ?_;go_simp;refine (HIN.out _ (HO1.out.trans OW1)).mono ?_;rintro e wb ⟨Ai, ci, ⟨rfl, -⟩, Ob⟩;have OW2 := OW1.trans Ob;clear Ob;refine hK.out _ _ (th1 (OW2)) ?_;clear hK K;(try simp only [tdz]);refine tp (i := 9) ?_;(try simp only [tdz]);refine tp (i := 10) ?_;(try simp only [tdz]);refine tp (i := 11) ?_;(try simp only [tdz]);refine tp (i := 12) ?_;(try simp only [tdz]);refine tid (i := 13) (tid (i := 14) (tid (i := 15) (tid (i := 16) (tid (i := 17) (tid (i := 18) (tid (i := 19) ?_))))));(try simp only [tdz]);refine tp (i := 20) ?_;(try simp only [tdz]);refine tp (i := 21) ?_;(try simp only [tdz]);refine tid (i := 22) (tid (i := 23) (tid (i := 24) (tid (i := 25) ?_)));(try simp only [tdz]);refine tp (i := 26) ?_;(try simp only [tdz]);refine tp (i := 27) ?_;(try simp only [tdz]);refine timed_done (by kernel_rfl) ?_ _;refine NoPanic.normal ?_;have HO2 := Hd (HO1.out.trans OW2);go_wp2
   go_ret
   exact ⟨by rw [HE.out]; rfl, HO2.out⟩
end Go.Proofs.YtjfbeeogiejopaaGreatDoor
