/- Parts. -/
import Derived.Test.YtjfbeeogiejopaaGreatDoorWorldNextCardK27
set_option maxRecDepth 10000
set_option maxHeartbeats 16000000
set_option linter.unusedVariables false
set_option linter.unusedSimpArgs false
namespace Go.Proofs.YtjfbeeogiejopaaGreatDoor
open Go.RowKit
open Go.Lib hiding intOf
attribute [local go_sem ↓] Go.wp_at_zero Go.wp_at_succ
theorem rmay16_any (A0 A1 A2 Ac Al : Option Addr) (n0 n1 n2 nc nl c0 c1 c2 cc cl B Bl : Nat) (h : Hst) (x : Wld) (w : World) (hg : HIn w B A0 A1 A2 n0 n1 n2 h) (hl : Row w Bl Al (edgeC x.l)) (hcl : x.c.length = nc) (hll : x.l.length = nl) (hM : nl ≤ 100000) :
  Calls Tryz.prog 27 #[hval A0 A1 A2 n0 n1 n2 c0 c1 c2, .agg #[.slice Ac nc cc, .slice Al nl cl]] w fun e w' => e = .returned (.bool (mayW h x)) ∧ Only [] w w' := by
 have HMY := Hd (fun w' (O : Only [] w w') => refmay_any A0 A1 A2 n0 n1 n2 c0 c1 c2 B h w' (hg.same O));have HIN := Hd (fun w' (O : Only [] w w') => rinfos_any A0 A1 A2 n0 n1 n2 c0 c1 c2 B h w' (hg.same O).at_.r2 hg.n2 (by have := hg.sm.nl; rw [hg.n2] at this; exact this));have HLS := Hd (fun w' (O : Only [] w w') => rlost_any A0 A1 A2 n0 n1 n2 c0 c1 c2 B h w' (hg.same O).at_.r2 hg.n2 (by have := hg.sm.nl; rw [hg.n2] at this; exact this) hg.sm.no);have HG := Hd hl;have HM := Hd hll;rw [lostP_eq] at HLS;have HA := Hd (fun hm => mayW_a (h := h) (x := x) hm);have HB := Hd (fun hm => mayW_b (h := h) (x := x) hm);have HC := Hd (fun hm => mayW_c (h := h) (x := x) hm);have HD := Hd (fun hm h1 h2 => mayW_d (h := h) (x := x) hm h1 h2);rw [hcl] at HB HD;rw [hll] at HC HD;rw [List.length_map] at HLS;unfold infoB at HB HD;obtain ⟨ni, hni⟩ : ∃ ni, (whichL (fun t : Tx => decide (t.f = 3)) h.l).length = ni := ⟨_, rfl⟩;obtain ⟨no, hno⟩ : ∃ no, (lostX h.l).length = no := ⟨_, rfl⟩;rw [hni] at HB HD HIN;rw [hno] at HC HD HLS;generalize mayW h x = q at *;generalize x.l = xl at *;unfold hval at *;clear hg hl hcl hll hni hno;have HO1 := Hd (((Only.refl [] w).alloc (.cells #[.slice A0 n0 c0, .slice A1 n1 c1, .slice A2 n2 c2] 25)).alloc (.cells #[.slice Ac nc cc, .slice Al nl cl] 51));have HB1 := Hd ((Blk.made w 25 #[.slice A0 n0 c0, .slice A1 n1 c1, .slice A2 n2 c2]).alloc (.cells #[.slice Ac nc cc, .slice Al nl cl] 51));have HW1 := Hd (Blk.made (w.alloc (.cells #[.slice A0 n0 c0, .slice A1 n1 c1, .slice A2 n2 c2] 25)) 51 #[.slice Ac nc cc, .slice Al nl cl]);simp only [World.size_alloc] at HW1
 cases hm : mayH h with
 | false =>
  have HE := Hd (HA.out hm);rw [errH_not hm] at HMY;clear HA HB HC HD HIN HLS HG HM hm;go_enter Tryz.func27, Tryz.ntmps27;go_upto_region 1 with (fail)
  generalize ((w.alloc (.cells #[.slice A0 n0 c0, .slice A1 n1 c1, .slice A2 n2 c2] 25)).alloc (.cells #[.slice Ac nc cc, .slice Al nl cl] 51)) = w1 at *;generalize hgw : w.heap.size + 1 = gw at *;generalize hgg : w.heap.size = g at *;refine rg1 [] [] w1 ?_;have OW : Only [] w1 w1.drew := (Only.refl [] w1).drew;generalize w1.drew = wz at *;refine trd (i := 0) (v := ?_) 0 ?_ ?_;rotate_left
  ·(intro wq hSw; obtain ⟨lb_H, y0, y1, y2⟩ := Bk3 (hSw.blk HB1.out (by simp)); simp at y0 y1 y2; obtain ⟨lb_W, x0, x1⟩ := Bk2 (hSw.blk HW1.out (by simp)); simp at x0 x1; clear hSw; go_simp; try with_reducible rfl)
  (try simp only [tdz]);refine tst (i := 1) fun K hK => ?_;go_simp;refine (HMY.out _ (HO1.out.trans OW)).mono ?_;rintro e wa ⟨rfl, Oa⟩;have OW1 := OW.trans Oa;clear Oa;refine kOut hK (OW1) (h := ?_);clear hK K;refine tQ 2 (h := tQ 3 (h := tiq 4 (h := tiq 5 (h := tiq 6 (h := tiq 7 (h := tiq 8 (h := tiq 9 (h := tiq 10 (h := tQ 11 (h := tQ 12 (h := tiq 13 (h := tiq 14 (h := tiq 15 (h := tiq 16 (h := tiq 17 (h := tiq 18 (h := tiq 19 (h := tQ 20 (h := ?_)))))))))))))))))));refine tdn ?_;have HO2 := Hd (HO1.out.trans OW1);go_wp2
  go_ret
  exact ⟨by rw [HE.out]; rfl, HO2.out⟩
 | true =>
  rw [errH_yes hm] at HMY;have HDD := Hd (fun h1 h2 => HD.out hm h1 h2);clear HA HD hm
  by_cases hc : nc = ni
  ·subst hc
   by_cases hl : nl = no
   ·subst hl;have HE := Hd (HDD.out rfl rfl);clear HDD HB HC;go_enter Tryz.func27, Tryz.ntmps27;go_upto_region 1 with (fail)
    generalize ((w.alloc (.cells #[.slice A0 n0 c0, .slice A1 n1 c1, .slice A2 n2 c2] 25)).alloc (.cells #[.slice Ac nc cc, .slice Al nl cl] 51)) = w1 at *;generalize hgw : w.heap.size + 1 = gw at *;generalize hgg : w.heap.size = g at *;have RD0 := Hd fun wq (hSw : Only [] w1 wq) => aI (Bk3 (hSw.blk HB1.out (by simp))) (Bk2 (hSw.blk HW1.out (by simp)));refine rg1 [] [] w1 ?_;have OW : Only [] w1 w1.drew := (Only.refl [] w1).drew;generalize w1.drew = wz at *;refine trq 0 0 RD0 (h := ?_);refine tst (i := 1) fun K hK => ?_;go_simp;refine (HMY.out _ (HO1.out.trans OW)).mono ?_;rintro e wa ⟨rfl, Oa⟩;have OW1 := OW.trans Oa;clear Oa;refine kOut hK (OW1) (h := ?_);clear hK K;refine tQ 2 (h := tQ 3 (h := tQ 4 (h := trq 5 0 RD0 (h := tQ 6 (h := trq 7 0 RD0 (h := ?_))))));refine tst (i := 8) fun K hK => ?_;go_simp;refine (HIN.out _ (HO1.out.trans OW1)).mono ?_;rintro e wb ⟨Ai, ci, ⟨rfl, -⟩, Ob⟩;have OW2 := OW1.trans Ob;clear Ob;refine kOut hK (OW2) (h := ?_);clear hK K;refine tQ 9 (h := tQ 10 (h := tQ 11 (h := tQ 12 (h := tQ 13 (h := trq 14 0 RD0 (h := tQ 15 (h := trq 16 0 RD0 (h := ?_))))))));refine tst (i := 17) fun K hK => ?_;go_simp;refine (HLS.out _ (HO1.out.trans OW2)).mono ?_;rintro e wc ⟨AL, cL, ⟨rfl, -⟩, Oc⟩;have OW3 := OW2.trans Oc;clear Oc;refine kOut hK (OW3) (h := ?_);clear hK K;refine tQ 18 (h := tQ 19 (h := tQ 20 (h := ?_)));refine tdn ?_;have HO2 := Hd (HO1.out.trans OW3);have HW2 := Hd (OW3.blk HW1.out (by simp));clear OW OW1 OW2 OW3 HB1 HW1 HMY HIN HLS HO1;go_wp2_with fail
    go_loopw [5] (fun iv wr => ∃ k : Nat, iv = .int .i64 (k : Int) ∧ k ≤ nl ∧ Hid ((xl.take k).any (fun v => !okV v) = false) ∧ Hid (Blk wr gw 51 #[.slice Ac nc cc, .slice Al nl cl]) ∧ Hid (Only [] w wr)) (fun iv _ => nl - (intOf iv).toNat)
    case atStart => exact ⟨0, rfl, by omega, Hd rfl, HW2, HO2⟩
    case round =>
     obtain ⟨k, rfl, hk, hn, hW, hO⟩ := hrel;clear HW2 HO2;have lW := hW.out.lt;have x1 := hW.out.at_ 1;simp at x1
     by_cases hlt : k < nl
     ·obtain ⟨u, hu⟩ : ∃ u, xl[k]? = some u := ⟨_, List.getElem?_eq_getElem (by rw [HM.out]; exact hlt)⟩;obtain ⟨b, off, rfl, hbB, hbw, hcx⟩ := (HG.out.only hO.out (by simp)).open_ (k := k * 2) (by rw [edgeC_len, HM.out]; omega);have hE := edgeC_get xl k u hu;have e0 := hcx _ _ hE.1;have e1 := hcx _ _ hE.2;rw [← Nat.add_assoc] at e1;have h01 : (k : Int) < (nl : Int) := by omega
      have hk0 : (0 : Int) ≤ (k : Int) := Int.natCast_nonneg _;have hwk : IntKind.i64.wrap ((k : Int) + 1) = (k : Int) + 1 := IntWalk.i64_in _ (by omega);have HTK := Hd (anyE_take hu);have HTT := Hd (fun h => anyE_true hu h);obtain ⟨v1, v2⟩ := u;dsimp only at e0 e1;clear hcx hE hu;have hcase : (v1 = 1 ∧ okV (v1, v2) = true) ∨ ((v1 == 1) = false ∧ ((v1 = 0 ∧ v2 = 0 ∧ okV (v1, v2) = true) ∨ (okV (v1, v2) = false ∧ ((v1 == 0) = false ∨ ((v1 == 0) = true ∧ (v2 == 0) = false))))) := by
       unfold okV
       by_cases h1 : v1 = 1
       ·exact .inl ⟨h1, by simp [h1]⟩
       ·refine .inr ⟨by simp [h1], ?_⟩
        by_cases h0 : v1 = 0
        ·by_cases h2 : v2 = 0
         ·exact .inl ⟨h0, h2, by simp [h0, h2]⟩
         ·exact .inr ⟨by simp [h0, h2], .inr ⟨by simp [h0], by simp [h2]⟩⟩
        ·exact .inr ⟨by simp [h0, h1], .inl (by simp [h0])⟩
      have O2 : Only [] wr (wr.alloc (.cells #[.int .i64 v1, .int .i64 v2] 38)) := (Only.refl [] wr).alloc _;have HW3 := Hd (O2.blk hW.out (by simp));have HO3 := Hd (hO.out.trans O2);clear O2;rcases hcase with ⟨rfl, ho⟩ | ⟨hb, ⟨rfl, rfl, ho⟩ | ⟨ho, hb0 | ⟨hb0, hb1⟩⟩⟩
      ·have HN := Hd (HTK.out.trans (by rw [hn.out, ho]));clear HTK HTT hn ho;go_wp2
       go_roundw
       case rel => exact ⟨k + 1, by go_num, by omega, HN, HW3, HO3⟩
       case measure => simp [intOf]; omega
      ·have HN := Hd (HTK.out.trans (by rw [hn.out, ho]));clear HTK HTT hn ho;go_wp2
       go_roundw
       case rel => exact ⟨k + 1, by go_num, by omega, HN, HW3, HO3⟩
       case measure => simp [intOf]; omega
      ·have HF := Hd (HTT.out ho);clear HTK HTT hn ho;have hq1 : (v1 != 1) = true := by simp [bne, hb]
       have hq2 : (v1 != 0) = true := by simp [bne, hb0]
       go_wp2
       go_ret
       exact ⟨by rw [HE.out, HF.out]; rfl, HO3.out⟩
      ·have HF := Hd (HTT.out ho);clear HTK HTT hn ho;have hq1 : (v1 != 1) = true := by simp [bne, hb]
       have hq2 : (v1 != 0) = false := by simp [bne, hb0]
       have hq3 : (v2 != 0) = true := by simp [bne, hb1]
       go_wp2
       go_ret
       exact ⟨by rw [HE.out, HF.out]; rfl, HO3.out⟩
     ·have hkn : k = nl := by omega
      subst hkn;have hd2 : decide ((k : Int) < (k : Int)) = false := by simp
      rw [List.take_of_length_le (by rw [HM.out]; omega)] at hn;go_wp2
      go_ret
      exact ⟨by rw [HE.out, hn.out]; rfl, hO.out⟩
   ·have HE := Hd (HC.out hl);have hne : ((nl : Int) == (no : Int)) = false := by simp; omega
    have hne2 : (nl == no) = false := by simp; omega
    have hne3 : decide (nl = no) = false := by simp; omega
    clear HDD HB HC HG HM hl;go_enter Tryz.func27, Tryz.ntmps27;go_upto_region 1 with (fail)
    generalize ((w.alloc (.cells #[.slice A0 n0 c0, .slice A1 n1 c1, .slice A2 n2 c2] 25)).alloc (.cells #[.slice Ac nc cc, .slice Al nl cl] 51)) = w1 at *;generalize hgw : w.heap.size + 1 = gw at *;generalize hgg : w.heap.size = g at *;have RD0 := Hd fun wq (hSw : Only [] w1 wq) => aI (Bk3 (hSw.blk HB1.out (by simp))) (Bk2 (hSw.blk HW1.out (by simp)));refine rg1 [] [] w1 ?_;have OW : Only [] w1 w1.drew := (Only.refl [] w1).drew;generalize w1.drew = wz at *;refine trq 0 0 RD0 (h := ?_);refine tst (i := 1) fun K hK => ?_;go_simp;refine (HMY.out _ (HO1.out.trans OW)).mono ?_;rintro e wa ⟨rfl, Oa⟩;have OW1 := OW.trans Oa;clear Oa;refine kOut hK (OW1) (h := ?_);clear hK K;refine tQ 2 (h := tQ 3 (h := tQ 4 (h := trq 5 0 RD0 (h := tQ 6 (h := trq 7 0 RD0 (h := ?_))))));refine tst (i := 8) fun K hK => ?_;go_simp;refine (HIN.out _ (HO1.out.trans OW1)).mono ?_;rintro e wb ⟨Ai, ci, ⟨rfl, -⟩, Ob⟩;have OW2 := OW1.trans Ob;clear Ob;refine kOut hK (OW2) (h := ?_);clear hK K;refine tQ 9 (h := tQ 10 (h := tQ 11 (h := tQ 12 (h := tQ 13 (h := trq 14 0 RD0 (h := tQ 15 (h := trq 16 0 RD0 (h := ?_))))))));refine tst (i := 17) fun K hK => ?_;go_simp;refine (HLS.out _ (HO1.out.trans OW2)).mono ?_;rintro e wc ⟨AL, cL, ⟨rfl, -⟩, Oc⟩;have OW3 := OW2.trans Oc;clear Oc;refine kOut hK (OW3) (h := ?_);clear hK K;refine tQ 18 (h := tQ 19 (h := tQ 20 (h := ?_)));refine tdn ?_;have HO2 := Hd (HO1.out.trans OW3);go_wp2
    go_ret
    exact ⟨by rw [HE.out]; rfl, HO2.out⟩
  ·have HE := Hd (HB.out hc);have hne : ((nc : Int) == (ni : Int)) = false := by simp; omega
   have hne4 : ((nc : Int) != (ni : Int)) = true := by simp; omega
   have hne5 : (nc != ni) = true := by simp; omega
   have hne2 : (nc == ni) = false := by simp; omega
   have hne3 : decide (nc = ni) = false := by simp; omega
   clear HDD HB HC HLS HG HM hc;go_enter Tryz.func27, Tryz.ntmps27;go_upto_region 1 with (fail)
   generalize ((w.alloc (.cells #[.slice A0 n0 c0, .slice A1 n1 c1, .slice A2 n2 c2] 25)).alloc (.cells #[.slice Ac nc cc, .slice Al nl cl] 51)) = w1 at *;generalize hgw : w.heap.size + 1 = gw at *;generalize hgg : w.heap.size = g at *;have RD0 := Hd fun wq (hSw : Only [] w1 wq) => aI (Bk3 (hSw.blk HB1.out (by simp))) (Bk2 (hSw.blk HW1.out (by simp)));refine rg1 [] [] w1 ?_;have OW : Only [] w1 w1.drew := (Only.refl [] w1).drew;generalize w1.drew = wz at *;refine trq 0 0 RD0 (h := ?_);refine tst (i := 1) fun K hK => ?_;go_simp;refine (HMY.out _ (HO1.out.trans OW)).mono ?_;rintro e wa ⟨rfl, Oa⟩;have OW1 := OW.trans Oa;clear Oa;refine kOut hK (OW1) (h := ?_);clear hK K;refine tQ 2 (h := tQ 3 (h := tQ 4 (h := trq 5 0 RD0 (h := tQ 6 (h := trq 7 0 RD0 (h := ?_))))));refine tst (i := 8) fun K hK => ?_;go_simp;refine (HIN.out _ (HO1.out.trans OW1)).mono ?_;rintro e wb ⟨Ai, ci, ⟨rfl, -⟩, Ob⟩;have OW2 := OW1.trans Ob;clear Ob;refine kOut hK (OW2) (h := ?_);clear hK K;refine tQ 9 (h := tQ 10 (h := tQ 11 (h := tQ 12 (h := tiq 13 (h := tiq 14 (h := tiq 15 (h := tiq 16 (h := tiq 17 (h := tiq 18 (h := tiq 19 (h := tQ 20 (h := ?_))))))))))));refine tdn ?_;have HO2 := Hd (HO1.out.trans OW2);go_wp2
   go_ret
   exact ⟨by rw [HE.out]; rfl, HO2.out⟩
theorem idxE_take_succ {α : Type} [BEq α] [LawfulBEq α] [DecidableEq α] {vs : List α} {x y : α} {q : Nat} (hy : vs[q]? = some y) (hn : idxE (vs.take q) x < 0) : idxE (vs.take (q + 1)) x = if y = x then (q : Int) else -1 := by
 have hm : ¬ x ∈ vs.take q := by
  have := idxE_mem (vs.take q) x;rw [decide_eq_false (by omega)] at this
  simpa using this.symm
 have hno : ∀ j, j < q → ∀ z, (vs.take (q + 1))[j]? = some z → z ≠ x := by
  intro j hj z hz e;subst e;rw [List.getElem?_take] at hz;rw [if_pos (by omega)] at hz;exact hm (List.mem_of_getElem? (i := j) (by rw [List.getElem?_take, if_pos hj]; exact hz))
 have hq : (vs.take (q + 1))[q]? = some y := by rw [List.getElem?_take, if_pos (by omega)]; exact hy
 by_cases h : y = x
 ·rw [if_pos h];exact idxE_at (by rw [hq, h]) hno
 ·rw [if_neg h];refine idxE_none fun j hj z hz => ?_;have hl : (vs.take (q + 1)).length = q + 1 := by have := (List.getElem?_eq_some_iff.1 hy).1; rw [List.length_take]; omega
  rcases Nat.lt_or_ge j q with h1 | h1
  ·exact hno j h1 z hz
  ·have e : j = q := by omega
   subst e;rw [hq] at hz
   cases hz
   exact h
theorem idxE_take_pos {α : Type} [BEq α] [LawfulBEq α] [DecidableEq α] {vs : List α} {x : α} {q : Nat} (h : 0 ≤ idxE (vs.take q) x) : idxE (vs.take q) x = idxE vs x := by
 have hm : x ∈ vs.take q := by
  have := idxE_mem (vs.take q) x;rw [decide_eq_true h] at this
  simpa using this.symm
 have h1 := List.idxOf_lt_length_of_mem hm;have h2 := List.idxOf_lt_length_of_mem (List.mem_of_mem_take hm);unfold idxE;rw [if_pos h1, if_pos h2]
 conv => rhs; rw [← List.take_append_drop q vs]
 rw [List.idxOf_append, if_pos hm]
theorem idxE_bd {α : Type} [BEq α] [LawfulBEq α] (vs : List α) (x : α) : -1 ≤ idxE vs x ∧ idxE vs x < (vs.length : Int) := by
 unfold idxE
 split <;> omega
def placeZ (vals : List (List V2)) (l : List V2) : List Int := List.zipWith (fun vs x => idxE vs x) vals l
theorem placeZ_get {vals : List (List V2)} {l : List V2} {k : Nat} {vs : List V2} {x : V2} (hv : vals[k]? = some vs) (hx : l[k]? = some x) : (placeZ vals l)[k]? = some (idxE vs x) := by
 unfold placeZ;rw [List.getElem?_zipWith, hv, hx]
theorem placeZ_len (vals : List (List V2)) (l : List V2) : (placeZ vals l).length = min vals.length l.length := by simp [placeZ]
theorem placeZ_is : ∀ (vals : List (List V2)) (l : List V2), (placeZ vals l).all (fun z => decide (0 ≤ z)) = isB vals l
 | [], l => by cases l <;> rfl
 | vs :: r, [] => rfl
 | vs :: r, x :: xs => by
  have ih := placeZ_is r xs;unfold placeZ isB at ih ⊢;rw [List.zipWith_cons_cons, List.zip_cons_cons, List.all_cons, List.all_cons, ih, idxE_mem]
theorem vv_get {w : World} {B n cp k : Nat} {A : Option Addr} {xs : List SlA} {x : SlA} (hT : w.ownsRow B 33 1 (.slice A n cp) n (xs.map slC)) (hX : VVown w B xs) (hx : xs[k]? = some x) :
  ∃ bT oT, A = some ⟨bT, oT, none⟩ ∧ B ≤ bT ∧ bT < w.heap.size ∧ w.cell? ⟨bT, oT + k, none⟩ = some (.slice x.A x.l.length x.cp) ∧ Row w w.heap.size x.A (edgeC x.l) := by
 have hk := (List.getElem?_eq_some_iff.1 hx).1;obtain ⟨bT, oT, rfl, -, hb, hc⟩ := (own_row_at hT).1.open_ (k := k) (by rw [List.length_map]; exact hk);exact ⟨bT, oT, rfl, (hT.lt bT rfl).1, hb, hc k _ (by rw [List.getElem?_map, hx]; rfl), (own_row_at (hX x (List.mem_of_getElem? hx))).1⟩
theorem row_val {w : World} {B q : Nat} {A : Option Addr} {l : List V2} {v : V2} (h : Row w B A (edgeC l)) (hv : l[q]? = some v) :
  ∃ b o, A = some ⟨b, o, none⟩ ∧ b < B ∧ b < w.heap.size ∧ w.cell? ⟨b, o + q * 2, none⟩ = some (.int .i64 v.1) ∧ w.cell? ⟨b, o + q * 2 + 1, none⟩ = some (.int .i64 v.2) := by
 have hq := (List.getElem?_eq_some_iff.1 hv).1;obtain ⟨b, o, rfl, hB, hb, hc⟩ := h.open_ (k := q * 2) (by rw [edgeC_len]; omega);have hE := edgeC_get l q v hv;exact ⟨b, o, rfl, hB, hb, hc _ _ hE.1, by rw [Nat.add_assoc]; exact hc _ _ hE.2⟩
theorem rplaces16_any (A0 A1 A2 Ac Al : Option Addr) (n0 n1 n2 nc nl c0 c1 c2 cc cl B Bc Bl : Nat) (h : Hst) (c : List Bool) (l : List V2) (w : World) (hg : HIn w B A0 A1 A2 n0 n1 n2 h) (hm : mayH h = true) (hc : Row w Bc Ac (c.map Value.bool)) (hcl : c.length = nc) (hci : (whichL infoB h.l).length = nc) (hl : Row w Bl Al (edgeC l)) (hll : l.length = nl) (hli : (lostX h.l).length = nl) :
  Calls Tryz.prog 69 #[hval A0 A1 A2 n0 n1 n2 c0 c1 c2, .agg #[.slice Ac nc cc, .slice Al nl cl]] w fun e w' => ∃ V, (e = .returned V ∧ w'.ownsRow w.heap.size 3 1 V nl ((placeZ (allT h c) l).map (Value.int .i64))) ∧ Only [] w w' := by
 obtain ⟨i0, hi, hz0, hz1, hz2⟩ := info_parts info_int;have HTR := Hd (fun w' (O : Only [] w w') => rtries16_any A0 A1 A2 Ac Al n0 n1 n2 nc nl c0 c1 c2 cc cl B Bc h c w' (hg.same O) hm (hc.only O (by simp)) hcl hci);have HAL := Hd ((allT_len h c).trans hli);have HLR := Hd hl;have HLL := Hd hll;have hnl : nl ≤ 40000 := by rw [← hli]; exact lostX_len (may_ops hm).1 (may_ops hm).2.1
 have HFW : Hid (∀ vs ∈ allT h c, vs.length ≤ 1000) := Hd (allT_few (may_ops hm).1 c);generalize allT h c = vals at *;unfold hval at *;clear hg hm hc hcl hci hl hll hli;have HO1 := Hd (((Only.refl [] w).alloc (.cells #[.slice A0 n0 c0, .slice A1 n1 c1, .slice A2 n2 c2] 25)).alloc (.cells #[.slice Ac nc cc, .slice Al nl cl] 51));have HB1 := Hd ((Blk.made w 25 #[.slice A0 n0 c0, .slice A1 n1 c1, .slice A2 n2 c2]).alloc (.cells #[.slice Ac nc cc, .slice Al nl cl] 51));have HW1 := Hd (Blk.made (w.alloc (.cells #[.slice A0 n0 c0, .slice A1 n1 c1, .slice A2 n2 c2] 25)) 51 #[.slice Ac nc cc, .slice Al nl cl]);simp only [World.size_alloc] at HW1;go_enter Tryz.func69, Tryz.ntmps69;go_upto_region 1 with (fail)
 generalize ((w.alloc (.cells #[.slice A0 n0 c0, .slice A1 n1 c1, .slice A2 n2 c2] 25)).alloc (.cells #[.slice Ac nc cc, .slice Al nl cl] 51)) = w1 at *;generalize hgw : w.heap.size + 1 = gw at *;generalize hgg : w.heap.size = g at *;have lHB_ := HB1.out.lt;have y0 := HB1.out.at_ 0;have y1 := HB1.out.at_ 1;have y2 := HB1.out.at_ 2;have lHW_ := HW1.out.lt;have x0 := HW1.out.at_ 0;have x1 := HW1.out.at_ 1;simp at y0 y1 y2 x0 x1;go_wp2_with fail
 refine (HTR.out _ HO1.out).mono ?_;rintro e w2 ⟨VT, ⟨xs, rfl, hxs, hT, hX⟩, O2⟩;clear lHB_ lHW_ y0 y1 y2 x0 x1;rw [HAL.out] at hT;obtain ⟨AT, cT, rfl, -, -, -, -⟩ := own_row hT;have HT2 := Hd hT;have HX2 := Hd hX;have HXS := Hd hxs;have hg1 : g ≤ w1.heap.size := by have := HO1.out.size; omega
 have HO2 := Hd (HO1.out.trans O2);have HW2 := Hd (O2.blk HW1.out (by simp));clear HO1 HW1;clear O2 HB1 HTR hT hX hxs;generalize w1.heap.size = g1 at *;go_upto_region 2 with (fail)
 have hg2 : g ≤ w2.heap.size := by have := HO2.out.size; omega
 have HV3 := Hd (World.ownsRow_lit (base := g) w2 (e := 3) (size := 1) #[] 0 hg2 (by unfold maxLen; omega) rfl);have O3 : Only [] w2 (w2.alloc (.cells #[] 3)) := (Only.refl [] w2).alloc _;have HO3 := Hd (HO2.out.trans O3);have HW3 := Hd (O3.blk HW2.out (by simp));have HT3 := Hd (own_only HT2.out O3 (by simp));have HX3 := Hd (HX2.out.same O3);clear HO2 HW2 HT2 HX2;clear O3;generalize (w2.alloc (.cells #[] 3)) = w3 at *;generalize w2.heap.size = gl at *;go_wp2_with fail
 go_loopw [6, 7] (fun V iv wr => ∃ k : Nat, iv = .int .i64 (k : Int) ∧ k ≤ nl ∧ Hid (wr.ownsRow g 3 1 V k (((placeZ vals l).take k).map (Value.int .i64))) ∧ Hid (VVown wr g1 xs) ∧ Hid (wr.ownsRow g1 33 1 (.slice AT nl cT) nl (xs.map slC)) ∧ Hid (Blk wr gw 51 #[.slice Ac nc cc, .slice Al nl cl]) ∧ Hid (Only [] w wr)) (fun _ iv _ => nl - (intOf iv).toNat)
 case atStart => exact ⟨0, rfl, by omega, HV3, HX3, HT3, HW3, HO3⟩
 case round =>
  obtain ⟨k, rfl, hk, hV, hX, hT, hW, hO⟩ := hrel;clear HV3 HX3 HT3 HW3 HO3
  by_cases hlt : k < nl
  ·have hxl : xs.length = nl := by have := congrArg List.length HXS.out; rw [List.length_map, HAL.out] at this; exact this
   obtain ⟨x, hx⟩ : ∃ x, xs[k]? = some x := ⟨_, List.getElem?_eq_getElem (by omega)⟩;obtain ⟨u, hu⟩ : ∃ u, l[k]? = some u := ⟨_, List.getElem?_eq_getElem (by rw [HLL.out]; exact hlt)⟩;have hxv : vals[k]? = some x.l := by rw [← HXS.out, List.getElem?_map, hx]; rfl
   have hxf := HFW.out _ (List.mem_of_getElem? hxv);have HPG := Hd (placeZ_get hxv hu);obtain ⟨bT, oT, rfl, hbg, hbT, hcT, hrx⟩ := vv_get hT.out hX.out hx;obtain ⟨bl, ol, rfl, -, hbl, hu0, hu1⟩ := row_val (HLR.out.only hO.out (by simp)) hu;have HT0 := Hd hcT;have HU0 := Hd hu0;have HU1 := Hd hu1;have HRX := Hd hrx;obtain ⟨xl, xA, xc⟩ := x;dsimp only at *;obtain ⟨m, hm⟩ : ∃ m, xl.length = m := ⟨_, rfl⟩;rw [hm] at HT0 hxf;have HM := Hd hm;obtain ⟨u1, u2⟩ := u;dsimp only at HU0 HU1;have hk0 : (0 : Int) ≤ (k : Int) := Int.natCast_nonneg _;have h01 : (k : Int) < (nl : Int) := by omega
   have hwk : IntKind.i64.wrap ((k : Int) + 1) = (k : Int) + 1 := IntWalk.i64_in _ (by omega);clear hcT hu0 hu1 hrx hxv hx hu hm;obtain ⟨wo, hwo⟩ : ∃ wo : World, wo = wr := ⟨_, rfl⟩;subst hwo;go_wp2_with fail
   go_loopw [8, 9] (fun av qv wr => ∃ q : Nat, qv = .int .i64 (q : Int) ∧ q ≤ m ∧ av = .int .i64 (idxE (xl.take q) (u1, u2)) ∧ Hid (Only [] wo wr)) (fun _ qv _ => m - (intOf qv).toNat)
   case atStart => exact ⟨0, rfl, by omega, rfl, Hd (Only.refl [] _)⟩
   case round =>
    obtain ⟨q, rfl, hq, rfl, hQ⟩ := hrel;have hTS := Hd (fun y hy hn => idxE_take_succ (vs := xl) (x := ((u1, u2) : V2)) (q := q) (y := y) hy hn);have hTP := Hd (fun hn => idxE_take_pos (vs := xl) (x := ((u1, u2) : V2)) (q := q) hn);have hbd := idxE_bd (xl.take q) ((u1, u2) : V2);have hlen : (xl.take q).length = q := by rw [List.length_take, HM.out]; omega
    rw [hlen] at hbd;obtain ⟨a, ha⟩ : ∃ a, idxE (xl.take q) ((u1, u2) : V2) = a := ⟨_, rfl⟩;have HA := Hd ha;rw [ha] at hTS hTP hbd ⊢;clear ha hlen;obtain ⟨bb, hbb⟩ : ∃ bb, bb = (decide (q < m) && decide (a < 0)) := ⟨_, rfl⟩;have HBB := Hd hbb;clear hbb;have t0 := (hQ.out.cell (p := ⟨bT, oT + k, none⟩) hbT (by simp)).trans HT0.out;have hbT' : bT < wr.heap.size := by have := hQ.out.size; omega
    have hq0 : (0 : Int) ≤ (q : Int) := Int.natCast_nonneg _;go_upto_region 7 with (fail)
    go_cut [30] (fun z wx => z = .bool bb ∧ wx = wr)
    case first =>
     by_cases h1 : q < m
     ·have d1 : (q : Int) < (m : Int) := by omega
      by_cases h2 : a < 0
      ·obtain rfl : bb = true := by rw [HBB.out]; simp [h1, h2]
       have d2 : decide (a < 0) = true := decide_eq_true h2;go_wp2
       go_meet
       exact ⟨rfl, rfl⟩
      ·obtain rfl : bb = false := by rw [HBB.out]; simp [h2]
       have d2 : decide (a < 0) = false := decide_eq_false h2;go_wp2
       go_meet
       exact ⟨rfl, rfl⟩
     ·obtain rfl : bb = false := by rw [HBB.out]; simp [h1]
      have d1 : decide ((q : Int) < (m : Int)) = false := decide_eq_false (by omega);have d1' : decide (q < m) = false := decide_eq_false h1;go_wp2
      go_meet
      exact ⟨rfl, rfl⟩
    case rest =>
     obtain ⟨rfl, rfl⟩ := hcut
     cases bb with
     | true =>
      have hb := HBB.out;have hqm : q < m := by
       by_cases h : q < m
       ·exact h
       ·simp [h] at hb
      have ha0 : a < 0 := by
       by_cases h : a < 0
       ·exact h
       ·simp [h] at hb
      obtain ⟨v, hv⟩ : ∃ v, xl[q]? = some v := ⟨_, List.getElem?_eq_getElem (by rw [HM.out]; exact hqm)⟩;have hts := hTS.out v hv ha0;obtain ⟨bx, ox, rfl, -, hbx, hv0, hv1⟩ := row_val HRX.out hv;have HV0 := Hd hv0;have HV1 := Hd hv1;obtain ⟨v1, v2⟩ := v;dsimp only at HV0 HV1;have hqm' : (q : Int) < (m : Int) := by omega
      have hwq : IntKind.i64.wrap ((q : Int) + 1) = (q : Int) + 1 := IntWalk.i64_in _ (by omega);obtain ⟨z, hz⟩ : ∃ z, z = decide (((v1, v2) : V2) = (u1, u2)) := ⟨_, rfl⟩;have HTS : Hid (idxE (xl.take (q + 1)) ((u1, u2) : V2) = if z = true then (q : Int) else -1) := Hd (by rw [hts, hz]; simp);have am : a = -1 := by omega
      have hcase : (z = true ∧ v1 = u1 ∧ v2 = u2) ∨ (z = false ∧ ((v1 == u1) = false ∨ ((v1 == u1) = true ∧ (v2 == u2) = false))) := by
       by_cases e0 : v1 = u1
       ·by_cases e1 : v2 = u2
        ·exact .inl ⟨by rw [hz]; simp [e0, e1], e0, e1⟩
        ·exact .inr ⟨by rw [hz]; simp [e1], .inr ⟨by simp [e0], by simp [e1]⟩⟩
       ·exact .inr ⟨by rw [hz]; simp [e0], .inl (by simp [e0])⟩
      subst am;clear hz hts hTS hTP hv hv0 hv1 hbd t0 HA HBB hb;have hbl2 : bl < wc.heap.size := by have := hQ.out.size; omega
      have hbx2 : bx < wc.heap.size := by have := hQ.out.size; omega
      have hbT2 : bT < wc.heap.size := hbT';have hWq := Hd (hQ.out.blk hW.out (by simp));have HT1 := Hd ((hQ.out.cell (p := ⟨bT, oT + k, none⟩) hbT (by simp)).trans HT0.out);have HU2 := Hd ((hQ.out.cell (p := ⟨bl, ol + k * 2, none⟩) hbl (by simp)).trans HU0.out);have HU3 := Hd ((hQ.out.cell (p := ⟨bl, ol + k * 2 + 1, none⟩) hbl (by simp)).trans HU1.out);have HV2 := Hd ((hQ.out.cell (p := ⟨bx, ox + q * 2, none⟩) hbx (by simp)).trans HV0.out);have HV3 := Hd ((hQ.out.cell (p := ⟨bx, ox + q * 2 + 1, none⟩) hbx (by simp)).trans HV1.out);go_upto_region 9 with (fail)
      go_cut [45] (fun y wx => y = .bool z ∧ Hid (Only [] wc wx))
      case first =>
       rcases hcase with ⟨rfl, rfl, rfl⟩ | ⟨rfl, hcase | hcase⟩
       ·have RD0 := Hd fun wq (hSw : Only [] wc wq) => aI (Bk2 (hSw.blk hWq.out (by simp))) (aI ((hSw.cell (p := ⟨bT, oT + k, none⟩) hbT2 (by simp)).trans HT1.out) (aI ((hSw.cell (p := ⟨bl, ol + k * 2, none⟩) hbl2 (by simp)).trans HU2.out) (aI ((hSw.cell (p := ⟨bl, ol + k * 2 + 1, none⟩) hbl2 (by simp)).trans HU3.out) (aI ((hSw.cell (p := ⟨bx, ox + q * 2, none⟩) hbx2 (by simp)).trans HV2.out) ((hSw.cell (p := ⟨bx, ox + q * 2 + 1, none⟩) hbx2 (by simp)).trans HV3.out)))));refine rg1 [] [] wc ?_;have OW : Only [] wc wc.drew := (Only.refl [] wc).drew;generalize wc.drew = wz at *;refine tQ 0 (h := tQ 1 (h := tQ 2 (h := trq 3 0 RD0 (h := tQ 4 (h := tQ 5 (h := trq 6 0 RD0 (h := tQ 7 (h := trq 8 0 RD0 (h := tQ 9 (h := tQ 10 (h := trq 11 0 RD0 (h := tQ 12 (h := ?_)))))))))))));refine tdn ?_;go_wp2
        go_meet
        exact ⟨rfl, Hd OW⟩
       ·have RD0 := Hd fun wq (hSw : Only [] wc wq) => aI (Bk2 (hSw.blk hWq.out (by simp))) (aI ((hSw.cell (p := ⟨bT, oT + k, none⟩) hbT2 (by simp)).trans HT1.out) (aI ((hSw.cell (p := ⟨bl, ol + k * 2, none⟩) hbl2 (by simp)).trans HU2.out) (aI ((hSw.cell (p := ⟨bl, ol + k * 2 + 1, none⟩) hbl2 (by simp)).trans HU3.out) (aI ((hSw.cell (p := ⟨bx, ox + q * 2, none⟩) hbx2 (by simp)).trans HV2.out) ((hSw.cell (p := ⟨bx, ox + q * 2 + 1, none⟩) hbx2 (by simp)).trans HV3.out)))));refine rg1 [] [] wc ?_;have OW : Only [] wc wc.drew := (Only.refl [] wc).drew;generalize wc.drew = wz at *;refine tQ 0 (h := tQ 1 (h := tQ 2 (h := trq 3 0 RD0 (h := tQ 4 (h := tQ 5 (h := trq 6 0 RD0 (h := tQ 7 (h := trq 8 0 RD0 (h := tQ 9 (h := tQ 10 (h := trq 11 0 RD0 (h := tQ 12 (h := ?_)))))))))))));refine tdn ?_;go_wp2
        go_meet
        exact ⟨rfl, Hd OW⟩
       ·obtain ⟨hc0, hc1⟩ := hcase;have RD0 := Hd fun wq (hSw : Only [] wc wq) => aI (Bk2 (hSw.blk hWq.out (by simp))) (aI ((hSw.cell (p := ⟨bT, oT + k, none⟩) hbT2 (by simp)).trans HT1.out) (aI ((hSw.cell (p := ⟨bl, ol + k * 2, none⟩) hbl2 (by simp)).trans HU2.out) (aI ((hSw.cell (p := ⟨bl, ol + k * 2 + 1, none⟩) hbl2 (by simp)).trans HU3.out) (aI ((hSw.cell (p := ⟨bx, ox + q * 2, none⟩) hbx2 (by simp)).trans HV2.out) ((hSw.cell (p := ⟨bx, ox + q * 2 + 1, none⟩) hbx2 (by simp)).trans HV3.out)))));refine rg1 [] [] wc ?_;have OW : Only [] wc wc.drew := (Only.refl [] wc).drew;generalize wc.drew = wz at *;refine tQ 0 (h := tQ 1 (h := tQ 2 (h := trq 3 0 RD0 (h := tQ 4 (h := tQ 5 (h := trq 6 0 RD0 (h := tQ 7 (h := trq 8 0 RD0 (h := tQ 9 (h := tQ 10 (h := trq 11 0 RD0 (h := tQ 12 (h := ?_)))))))))))));refine tdn ?_;go_wp2
        go_meet
        exact ⟨rfl, Hd OW⟩
      case rest =>
       obtain ⟨rfl, HQ2⟩ := hcut;have hQ3 := Hd (hQ.out.trans HQ2.out);clear HQ2 hQ hWq HT1 HU2 HU3 HV2 HV3 hcase
       cases z with
       | true =>
        have HN := Hd (HTS.out.trans (if_pos rfl));clear HTS;go_wp2
        go_roundw
        case rel => exact ⟨q + 1, by go_num, by omega, by rw [HN.out], hQ3⟩
        case measure => simp [intOf]; omega
       | false =>
        have HN := Hd (HTS.out.trans (if_neg (by simp)));clear HTS;go_wp2
        go_roundw
        case rel => exact ⟨q + 1, by go_num, by omega, by rw [HN.out], hQ3⟩
        case measure => simp [intOf]; omega
     | false =>
      have hb := HBB.out;have HE : Hid (a = idxE xl (u1, u2)) := Hd (by
       by_cases h1 : q < m
       ·by_cases h2 : a < 0
        ·simp [h1, h2] at hb
        ·exact hTP.out (by omega)
       ·rw [← HA.out, List.take_of_length_le (by rw [HM.out]; omega)])
      clear hb HBB hTS hTP HA t0;have hsz : g ≤ wc.heap.size := by have := hO.out.size; have := hQ.out.size; omega
      have hVq := Hd (own_only hV.out hQ.out (by simp));have hXq := Hd (hX.out.same hQ.out);have hTq := Hd (own_only hT.out hQ.out (by simp));have hWq := Hd (hQ.out.blk hW.out (by simp));have hOq := Hd (hO.out.trans hQ.out);clear hV hX hT hW hO hQ;go_wp2_with (at_builtin; refine wpList_append_row _ rfl (.tmp 47) (.tmp 49) _ rfl g 3 i0 _ 1 8 Tryz.underlying30 hi hz0 hz1 hz2 rfl (by omega) _ _ _ rfl (own_only hVq.out ((Only.refl [] _).alloc _) (by simp)) (wc.heap.size + 1) (some ⟨wc.heap.size, 0, none⟩) 1 1 [.int .i64 a] rfl rfl (row_lit wc 3 #[.int .i64 a]) (by simp [Value.oneCell']) (by unfold maxLen; omega) (by omega) (by simp; omega) ?_; intro v8 w8 hown8 hgrow hat)
      have OA : Only [] wc (wc.alloc (.cells #[.int .i64 a] 3)) := (Only.refl [] wc).alloc _;have OG : Only u6.ownBlock.toList (wc.alloc (.cells #[.int .i64 a] 3)) w8 := only_grown hgrow;have HVa := own_only hVq.out OA (by simp);have HT' : ((placeZ vals l).take (k + 1)).map (Value.int .i64) = ((placeZ vals l).take k).map (Value.int .i64) ++ [.int .i64 a] := by rw [List.take_add_one, HPG.out, HE.out]; simp
      rw [← HT'] at hown8;have hV8 := Hd hown8;have t8 := own_only hTq.out OA (by simp);have hT8 := Hd (own_only t8 OG (own_two t8 HVa (by decide)));have hX8 : Hid (VVown w8 g1 xs) := Hd (fun x hx => by
       have h1 := (hXq.out.same OA) x hx;exact own_only h1 OG (own_two h1 HVa (by decide)))
      have hW8 := Hd (OG.blk (OA.blk hWq.out (by simp)) (own_apart HVa (OA.blk hWq.out (by simp)) (by decide)));have hO8 := Hd ((hOq.out.trans OA).step OG (fun i hi hl => by have := (HVa.lt i (by simpa using hi)).1; omega));clear OA OG HVa HT' hown8 hgrow hat t8 hVq hXq hTq hWq hOq;go_wp2
      go_roundw
      case rel => exact ⟨k + 1, by go_num, by omega, hV8, hX8, hT8, hW8, hO8⟩
      case measure => simp [intOf]; omega
  ·have hkn : k = nl := by omega
   subst hkn;have hd2 : decide ((k : Int) < (k : Int)) = false := by simp
   have hVV := hV.out;rw [List.take_of_length_le (by rw [placeZ_len, HAL.out, HLL.out]; omega)] at hVV;have HVV := Hd hVV;clear hV hVV;go_wp2
   go_ret
   exact ⟨_, ⟨rfl, by rw [hgg]; exact HVV.out⟩, hO.out⟩
theorem rtried16_any (A0 A1 A2 Ac Al : Option Addr) (n0 n1 n2 nc nl c0 c1 c2 cc cl B Bc Bl : Nat) (h : Hst) (x : Wld) (w : World) (hg : HIn w B A0 A1 A2 n0 n1 n2 h) (hc : Row w Bc Ac (x.c.map Value.bool)) (hl : Row w Bl Al (edgeC x.l)) (hcl : x.c.length = nc) (hll : x.l.length = nl) (hM : nl ≤ 100000) :
  Calls Tryz.prog 38 #[hval A0 A1 A2 n0 n1 n2 c0 c1 c2, .agg #[.slice Ac nc cc, .slice Al nl cl]] w fun e w' => e = .returned (.bool (mayW h x && isB (allT h x.c) x.l)) ∧ Only [] w w' := by
 have HMY := Hd (fun w' (O : Only [] w w') => rmay16_any A0 A1 A2 Ac Al n0 n1 n2 nc nl c0 c1 c2 cc cl B Bl h x w' (hg.same O) (hl.only O (by simp)) hcl hll hM);have HPL := Hd (fun w' (O : Only [] w w') (hm : mayW h x = true) => rplaces16_any A0 A1 A2 Ac Al n0 n1 n2 nc nl c0 c1 c2 cc cl B Bc Bl h x.c x.l w' (hg.same O) (mayW_inv hm).1 (hc.only O (by simp)) hcl (by rw [← hcl]; exact (mayW_inv hm).2.1.symm) (hl.only O (by simp)) hll (by rw [← hll]; exact (mayW_inv hm).2.2.1.symm));have HPI := Hd (placeZ_is (allT h x.c) x.l);have HPN : Hid (mayW h x = true → (placeZ (allT h x.c) x.l).length = nl) := Hd (fun hm => by rw [placeZ_len, allT_len, hll, ← (mayW_inv hm).2.2.1, hll, Nat.min_self]);generalize placeZ (allT h x.c) x.l = ps at *;generalize isB (allT h x.c) x.l = tt at *;unfold hval at *;clear hg hc hl hcl hll;have HO1 := Hd (((Only.refl [] w).alloc (.cells #[.slice A0 n0 c0, .slice A1 n1 c1, .slice A2 n2 c2] 25)).alloc (.cells #[.slice Ac nc cc, .slice Al nl cl] 51));have HB1 := Hd ((Blk.made w 25 #[.slice A0 n0 c0, .slice A1 n1 c1, .slice A2 n2 c2]).alloc (.cells #[.slice Ac nc cc, .slice Al nl cl] 51));have HW1 := Hd (Blk.made (w.alloc (.cells #[.slice A0 n0 c0, .slice A1 n1 c1, .slice A2 n2 c2] 25)) 51 #[.slice Ac nc cc, .slice Al nl cl]);simp only [World.size_alloc] at HW1
 cases hm : mayW h x with
 | false =>
  rw [hm] at HMY;clear hm HPL HPI HPN;go_enter Tryz.func38, Tryz.ntmps38;go_upto_region 1 with (fail)
  generalize ((w.alloc (.cells #[.slice A0 n0 c0, .slice A1 n1 c1, .slice A2 n2 c2] 25)).alloc (.cells #[.slice Ac nc cc, .slice Al nl cl] 51)) = w1 at *;generalize hgw : w.heap.size + 1 = gw at *;generalize hgg : w.heap.size = g at *;have lHB_ := HB1.out.lt;have y0 := HB1.out.at_ 0;have y1 := HB1.out.at_ 1;have y2 := HB1.out.at_ 2;have lHW_ := HW1.out.lt;have x0 := HW1.out.at_ 0;have x1 := HW1.out.at_ 1;simp at y0 y1 y2 x0 x1;go_wp2_with fail
  refine (HMY.out _ HO1.out).mono ?_;rintro e w2 ⟨rfl, O2⟩;clear lHB_ lHW_ y0 y1 y2 x0 x1;have HO2 := Hd (HO1.out.trans O2);clear HO1;clear O2;go_wp2
  go_ret
  exact ⟨rfl, HO2.out⟩
 | true =>
  rw [hm] at HMY;have HPL1 := Hd (fun w' O => HPL.out w' O hm);have HPN1 := Hd (HPN.out hm);rw [Bool.true_and];clear hm HPL HPN;go_enter Tryz.func38, Tryz.ntmps38;go_upto_region 1 with (fail)
  generalize ((w.alloc (.cells #[.slice A0 n0 c0, .slice A1 n1 c1, .slice A2 n2 c2] 25)).alloc (.cells #[.slice Ac nc cc, .slice Al nl cl] 51)) = w1 at *;generalize hgw : w.heap.size + 1 = gw at *;generalize hgg : w.heap.size = g at *;have lHB_ := HB1.out.lt;have y0 := HB1.out.at_ 0;have y1 := HB1.out.at_ 1;have y2 := HB1.out.at_ 2;have lHW_ := HW1.out.lt;have x0 := HW1.out.at_ 0;have x1 := HW1.out.at_ 1;simp at y0 y1 y2 x0 x1;go_wp2_with fail
  refine (HMY.out _ HO1.out).mono ?_;rintro e w2 ⟨rfl, O2⟩;clear lHB_ lHW_ y0 y1 y2 x0 x1;have HO2 := Hd (HO1.out.trans O2);have HB2 := Hd (O2.blk HB1.out (by simp));have HW2 := Hd (O2.blk HW1.out (by simp));clear HO1 HB1 HW1;clear O2;have lHB_ := HB2.out.lt;have y0 := HB2.out.at_ 0;have y1 := HB2.out.at_ 1;have y2 := HB2.out.at_ 2;have lHW_ := HW2.out.lt;have x0 := HW2.out.at_ 0;have x1 := HW2.out.at_ 1;simp at y0 y1 y2 x0 x1;go_wp2_with fail
  refine (HPL1.out _ HO2.out).mono ?_;rintro e w3 ⟨V, ⟨rfl, hv⟩, O3⟩;clear lHB_ lHW_ y0 y1 y2 x0 x1;obtain ⟨AV, cV, rfl, -, -, -, hrv⟩ := own_row hv;have HRV := Hd hrv;have HO3 := Hd (HO2.out.trans O3);obtain ⟨Bv, hBv⟩ : ∃ Bv, Bv = w3.heap.size := ⟨_, rfl⟩;rw [← hBv] at HRV;clear hv hrv O3 HO2 HB2 HW2 HPL1 HMY hBv;go_wp2_with fail
  go_loopw [6] (fun iv wr => ∃ k : Nat, iv = .int .i64 (k : Int) ∧ k ≤ nl ∧ Hid ((ps.take k).all (fun z => decide (0 ≤ z)) = true) ∧ Hid (Row wr Bv AV (ps.map (Value.int .i64))) ∧ Hid (Only [] w wr)) (fun iv _ => nl - (intOf iv).toNat)
  case atStart => exact ⟨0, rfl, by omega, Hd rfl, HRV, HO3⟩
  case round =>
   obtain ⟨k, rfl, hk, hn, hV, hO⟩ := hrel;clear HRV HO3
   by_cases hlt : k < nl
   ·obtain ⟨z, hz⟩ : ∃ z, ps[k]? = some z := ⟨_, List.getElem?_eq_getElem (by rw [HPN1.out]; exact hlt)⟩;obtain ⟨b, o, rfl, -, hb, hcz⟩ := hV.out.open_ (k := k) (by rw [List.length_map, HPN1.out]; exact hlt);have z0 := hcz k _ (by rw [List.getElem?_map, hz]; rfl);have HN1 : Hid ((ps.take (k + 1)).all (fun z => decide (0 ≤ z)) = decide (0 ≤ z)) := Hd (by rw [List.take_add_one, hz, List.all_append, hn.out]; simp);have HZ := Hd (List.mem_of_getElem? hz);have h01 : (k : Int) < (nl : Int) := by omega
    have hk0 : (0 : Int) ≤ (k : Int) := Int.natCast_nonneg _;have hwk : IntKind.i64.wrap ((k : Int) + 1) = (k : Int) + 1 := IntWalk.i64_in _ (by omega);clear hcz hz hn
    by_cases hp : z < 0
    ·have d1 : decide (z < 0) = true := decide_eq_true hp;have HE : Hid (tt = false) := Hd (by
      rw [← HPI.out];refine List.all_eq_false.2 ⟨z, HZ.out, by simp; omega⟩)
     go_wp2
     go_ret
     exact ⟨by rw [HE.out]; rfl, hO.out⟩
    ·have d1 : decide (z < 0) = false := decide_eq_false hp;have HN2 : Hid ((ps.take (k + 1)).all (fun z => decide (0 ≤ z)) = true) := Hd (by rw [HN1.out]; simp; omega);clear hp HN1;go_wp2
     go_roundw
     case rel => exact ⟨k + 1, by go_num, by omega, HN2, hV, hO⟩
     case measure => simp [intOf]; omega
   ·have hkn : k = nl := by omega
    subst hkn;have hd2 : decide ((k : Int) < (k : Int)) = false := by simp
    have HE : Hid (tt = true) := Hd (by
     have := hn.out;rw [List.take_of_length_le (by rw [HPN1.out]; exact Nat.le_refl _)] at this;rw [← HPI.out, this])
    clear hn;go_wp2
    go_ret
    exact ⟨by rw [HE.out]; rfl, hO.out⟩
def eqW (x y : Wld) : Bool := decide (x.c = y.c) && decide (x.l = y.l)
theorem eqW_iff {x y : Wld} : eqW x y = true ↔ x = y := by
 obtain ⟨a, b⟩ := x;obtain ⟨c, d⟩ := y;unfold eqW;simp
theorem take_eq_succ {α : Type} {l m : List α} {k : Nat} {a b : α} (ha : l[k]? = some a) (hb : m[k]? = some b) : l.take (k + 1) = m.take (k + 1) ↔ l.take k = m.take k ∧ a = b := by
 have h1 := (List.getElem?_eq_some_iff.1 ha).1;have h2 := (List.getElem?_eq_some_iff.1 hb).1;rw [List.take_add_one, List.take_add_one, ha, hb]
 constructor
 ·intro h;have h3 := List.append_inj h (by rw [List.length_take, List.length_take]; omega);exact ⟨h3.1, by simpa using h3.2⟩
 ·rintro ⟨h3, rfl⟩;rw [h3]
theorem ne_at {α : Type} {l m : List α} {k : Nat} {a b : α} (ha : l[k]? = some a) (hb : m[k]? = some b) (hn : a ≠ b) : l ≠ m := by
 rintro rfl;rw [ha] at hb;exact hn (Option.some.inj hb)
theorem rsame16_any (Aa Ab Ac Ad : Option Addr) (na nb nc nd ca cb cc cd Ba Bb Bc Bd : Nat) (x y : Wld) (w : World) (ha : Row w Ba Aa (x.c.map Value.bool)) (hb : Row w Bb Ab (edgeC x.l)) (hc : Row w Bc Ac (y.c.map Value.bool)) (hd : Row w Bd Ad (edgeC y.l)) (hla : x.c.length = na) (hlb : x.l.length = nb) (hlc : y.c.length = nc) (hld : y.l.length = nd) (hM : na ≤ 100000) (hM2 : nb ≤ 100000) :
  Calls Tryz.prog 34 #[.agg #[.slice Aa na ca, .slice Ab nb cb], .agg #[.slice Ac nc cc, .slice Ad nd cd]] w fun e w' => e = .returned (.bool (eqW x y)) ∧ Only [] w w' := by
 have HRA := Hd ha;have HRB := Hd hb;have HRC := Hd hc;have HRD := Hd hd;have HLA := Hd hla;have HLB := Hd hlb;have HLC := Hd hlc;have HLD := Hd hld;clear ha hb hc hd hla hlb hlc hld;obtain ⟨xc, xl⟩ := x;obtain ⟨yc, yl⟩ := y;dsimp only at *;obtain ⟨bb, hbb⟩ : ∃ bb, bb = eqW ⟨xc, xl⟩ ⟨yc, yl⟩ := ⟨_, rfl⟩;rw [← hbb];have HBF : Hid ((xc ≠ yc ∨ xl ≠ yl) → bb = false) := Hd (fun h => by
  rw [hbb];unfold eqW;rcases h with h | h <;> simp [h])
 have HBT : Hid (xc = yc → xl = yl → bb = true) := Hd (fun h1 h2 => by
  rw [hbb];unfold eqW;simp [h1, h2])
 clear hbb;have HO1 := Hd (((Only.refl [] w).alloc (.cells #[.slice Aa na ca, .slice Ab nb cb] 51)).alloc (.cells #[.slice Ac nc cc, .slice Ad nd cd] 51));have HX1 := Hd ((Blk.made w 51 #[.slice Aa na ca, .slice Ab nb cb]).alloc (.cells #[.slice Ac nc cc, .slice Ad nd cd] 51));have HY1 := Hd (Blk.made (w.alloc (.cells #[.slice Aa na ca, .slice Ab nb cb] 51)) 51 #[.slice Ac nc cc, .slice Ad nd cd]);simp only [World.size_alloc] at HY1;go_enter Tryz.func34, Tryz.ntmps34;go_upto_region 1 with (fail)
 generalize ((w.alloc (.cells #[.slice Aa na ca, .slice Ab nb cb] 51)).alloc (.cells #[.slice Ac nc cc, .slice Ad nd cd] 51)) = w1 at *;generalize hgy : w.heap.size + 1 = gy at *;generalize hgg : w.heap.size = g at *;have lHX_ := HX1.out.lt;have x0 := HX1.out.at_ 0;have x1 := HX1.out.at_ 1;have lHY_ := HY1.out.lt;have y0 := HY1.out.at_ 0;have y1 := HY1.out.at_ 1;simp at x0 x1 y0 y1
 by_cases e1 : na = nc
 ·by_cases e2 : nb = nd
  ·subst e1 e2;go_upto_region 3 with (fail)
   clear lHX_ lHY_ x0 x1 y0 y1;go_wp2_with fail
   go_loopw [5] (fun iv wr => ∃ k : Nat, iv = .int .i64 (k : Int) ∧ k ≤ na ∧ Hid (xc.take k = yc.take k) ∧ Hid (Blk wr g 51 #[.slice Aa na ca, .slice Ab nb cb]) ∧ Hid (Blk wr gy 51 #[.slice Ac na cc, .slice Ad nb cd]) ∧ Hid (Only [] w wr)) (fun iv _ => na - (intOf iv).toNat)
   case atStart => exact ⟨0, rfl, by omega, Hd rfl, HX1, HY1, HO1⟩
   case round =>
    obtain ⟨k, rfl, hk, hn, hX, hY, hO⟩ := hrel;clear HX1 HY1 HO1;have lhX_ := hX.out.lt;have x0 := hX.out.at_ 0;have x1 := hX.out.at_ 1;have lhY_ := hY.out.lt;have y0 := hY.out.at_ 0;have y1 := hY.out.at_ 1;simp at x0 x1 y0 y1
    by_cases hlt : k < na
    ·obtain ⟨u, hu⟩ : ∃ u, xc[k]? = some u := ⟨_, List.getElem?_eq_getElem (by rw [HLA.out]; exact hlt)⟩;obtain ⟨v, hv⟩ : ∃ v, yc[k]? = some v := ⟨_, List.getElem?_eq_getElem (by rw [HLC.out]; exact hlt)⟩;obtain ⟨b1, o1, rfl, -, hb1, hc1⟩ := (HRA.out.only hO.out (by simp)).open_ (k := k) (by rw [List.length_map, HLA.out]; exact hlt);obtain ⟨b2, o2, rfl, -, hb2, hc2⟩ := (HRC.out.only hO.out (by simp)).open_ (k := k) (by rw [List.length_map, HLC.out]; exact hlt);have HU := Hd (hc1 k _ (by rw [List.getElem?_map, hu]; rfl));have HV := Hd (hc2 k _ (by rw [List.getElem?_map, hv]; rfl));have HTE := Hd (take_eq_succ hu hv);have HNE := Hd (ne_at hu hv);have h01 : (k : Int) < (na : Int) := by omega
     have hk0 : (0 : Int) ≤ (k : Int) := Int.natCast_nonneg _;have hwk : IntKind.i64.wrap ((k : Int) + 1) = (k : Int) + 1 := IntWalk.i64_in _ (by omega);clear hc1 hc2 hu hv;go_upto_region 6 with (fail)
     clear lhX_ lhY_ x0 x1 y0 y1
     by_cases huv : u = v
     ·subst huv;have HN1 := Hd (HTE.out.2 ⟨hn.out, rfl⟩);clear HTE HNE hn;have RD0 := Hd fun wq (hSw : Only [] wr wq) => aI (Bk2 (hSw.blk hX.out (by simp))) (aI (Bk2 (hSw.blk hY.out (by simp))) (aI ((hSw.cell (p := ⟨b1, o1 + k, none⟩) hb1 (by simp)).trans HU.out) ((hSw.cell (p := ⟨b2, o2 + k, none⟩) hb2 (by simp)).trans HV.out)));refine rg1 [] [] wr ?_;have OW : Only [] wr wr.drew := (Only.refl [] wr).drew;generalize wr.drew = wz at *;refine tQ 0 (h := trq 1 0 RD0 (h := tQ 2 (h := tQ 3 (h := trq 4 0 RD0 (h := tQ 5 (h := trq 6 0 RD0 (h := tQ 7 (h := tQ 8 (h := trq 9 0 RD0 (h := tQ 10 (h := ?_)))))))))));refine tdn ?_;have hX9 := Hd (OW.blk hX.out (by simp));have hY9 := Hd (OW.blk hY.out (by simp));have hO9 := Hd (hO.out.trans OW);clear OW hX hY hO HU HV;go_wp2
      go_roundw
      case rel => exact ⟨k + 1, by go_num, by omega, HN1, hX9, hY9, hO9⟩
      case measure => simp [intOf]; omega
     ·have d1 : (u == v) = false := by simp [huv]
      have d2 : (u != v) = true := by simp [huv]
      have HE := Hd (HBF.out (.inl (HNE.out huv)));clear HTE HNE huv;have RD0 := Hd fun wq (hSw : Only [] wr wq) => aI (Bk2 (hSw.blk hX.out (by simp))) (aI (Bk2 (hSw.blk hY.out (by simp))) (aI ((hSw.cell (p := ⟨b1, o1 + k, none⟩) hb1 (by simp)).trans HU.out) ((hSw.cell (p := ⟨b2, o2 + k, none⟩) hb2 (by simp)).trans HV.out)));refine rg1 [] [] wr ?_;have OW : Only [] wr wr.drew := (Only.refl [] wr).drew;generalize wr.drew = wz at *;refine tQ 0 (h := trq 1 0 RD0 (h := tQ 2 (h := tQ 3 (h := trq 4 0 RD0 (h := tQ 5 (h := trq 6 0 RD0 (h := tQ 7 (h := tQ 8 (h := trq 9 0 RD0 (h := tQ 10 (h := ?_)))))))))));refine tdn ?_;have hO9 := Hd (hO.out.trans OW);clear OW hX hY hO HU HV;go_wp2
      go_ret
      exact ⟨by rw [HE.out]; rfl, hO9.out⟩
    ·have hkn : na = k := by omega
     subst hkn;have hd2 : decide ((na : Int) < (na : Int)) = false := by simp
     have HCE : Hid (xc = yc) := Hd (by
      have := hn.out
      rwa [List.take_of_length_le (by rw [HLA.out]; exact Nat.le_refl _), List.take_of_length_le (by rw [HLC.out]; exact Nat.le_refl _)] at this)
     clear hn;go_upto_region 8 with (fail)
     clear lhX_ lhY_ x0 x1 y0 y1;obtain ⟨wo, hwo⟩ : ∃ wo : World, wo = wr := ⟨_, rfl⟩;subst hwo;go_wp2_with fail
     go_loopw [6] (fun iv wr => ∃ k : Nat, iv = .int .i64 (k : Int) ∧ k ≤ nb ∧ Hid (xl.take k = yl.take k) ∧ Hid (Blk wr g 51 #[.slice Aa na ca, .slice Ab nb cb]) ∧ Hid (Blk wr gy 51 #[.slice Ac na cc, .slice Ad nb cd]) ∧ Hid (Only [] w wr)) (fun iv _ => nb - (intOf iv).toNat)
     case atStart => exact ⟨0, rfl, by omega, Hd rfl, hX, hY, hO⟩
     case round =>
      clear hX hY hO;obtain ⟨k, rfl, hk, hn, hX, hY, hO⟩ := hrel;have lhX_ := hX.out.lt;have x0 := hX.out.at_ 0;have x1 := hX.out.at_ 1;have lhY_ := hY.out.lt;have y0 := hY.out.at_ 0;have y1 := hY.out.at_ 1;simp at x0 x1 y0 y1
      by_cases hlt : k < nb
      ·obtain ⟨u, hu⟩ : ∃ u, xl[k]? = some u := ⟨_, List.getElem?_eq_getElem (by rw [HLB.out]; exact hlt)⟩;obtain ⟨v, hv⟩ : ∃ v, yl[k]? = some v := ⟨_, List.getElem?_eq_getElem (by rw [HLD.out]; exact hlt)⟩;obtain ⟨b1, o1, rfl, -, hb1, h10, h11⟩ := row_val (HRB.out.only hO.out (by simp)) hu;obtain ⟨b2, o2, rfl, -, hb2, h20, h21⟩ := row_val (HRD.out.only hO.out (by simp)) hv;have HU0 := Hd h10;have HU1 := Hd h11;have HV0 := Hd h20;have HV1 := Hd h21;have HTE := Hd (take_eq_succ hu hv);have HNE := Hd (ne_at hu hv);have h01 : (k : Int) < (nb : Int) := by omega
       have hk0 : (0 : Int) ≤ (k : Int) := Int.natCast_nonneg _;have hwk : IntKind.i64.wrap ((k : Int) + 1) = (k : Int) + 1 := IntWalk.i64_in _ (by omega);obtain ⟨u1, u2⟩ := u;obtain ⟨v1, v2⟩ := v;dsimp only at HU0 HU1 HV0 HV1;clear h10 h11 h20 h21 hu hv;go_upto_region 11 with (fail)
       clear lhX_ lhY_ x0 x1 y0 y1;have hcase : (u1 = v1 ∧ u2 = v2) ∨ (((u1, u2) : V2) ≠ (v1, v2) ∧ ((u1 == v1) = false ∨ ((u1 == v1) = true ∧ (u2 == v2) = false))) := by
        by_cases e0 : u1 = v1
        ·by_cases e1 : u2 = v2
         ·exact .inl ⟨e0, e1⟩
         ·exact .inr ⟨by simp [e1], .inr ⟨by simp [e0], by simp [e1]⟩⟩
        ·exact .inr ⟨by simp [e0], .inl (by simp [e0])⟩
       rcases hcase with ⟨rfl, rfl⟩ | ⟨hne, hcase⟩
       ·have HN1 := Hd (HTE.out.2 ⟨hn.out, rfl⟩);clear HTE HNE hn;have RD0 := Hd fun wq (hSw : Only [] wr wq) => aI (Bk2 (hSw.blk hX.out (by simp))) (aI (Bk2 (hSw.blk hY.out (by simp))) (aI ((hSw.cell (p := ⟨b1, o1 + k * 2, none⟩) hb1 (by simp)).trans HU0.out) (aI ((hSw.cell (p := ⟨b1, o1 + k * 2 + 1, none⟩) hb1 (by simp)).trans HU1.out) (aI ((hSw.cell (p := ⟨b2, o2 + k * 2, none⟩) hb2 (by simp)).trans HV0.out) ((hSw.cell (p := ⟨b2, o2 + k * 2 + 1, none⟩) hb2 (by simp)).trans HV1.out)))));refine rg1 [] [] wr ?_;have OW : Only [] wr wr.drew := (Only.refl [] wr).drew;generalize wr.drew = wz at *;refine tQ 0 (h := trq 1 0 RD0 (h := tQ 2 (h := tQ 3 (h := trq 4 0 RD0 (h := tQ 5 (h := trq 6 0 RD0 (h := tQ 7 (h := tQ 8 (h := trq 9 0 RD0 (h := tQ 10 (h := ?_)))))))))));refine tdn ?_;have hX9 := Hd (OW.blk hX.out (by simp));have hY9 := Hd (OW.blk hY.out (by simp));have hO9 := Hd (hO.out.trans OW);clear OW hX hY hO HU0 HU1 HV0 HV1;go_wp2
        go_roundw
        case rel => exact ⟨k + 1, by go_num, by omega, HN1, hX9, hY9, hO9⟩
        case measure => simp [intOf]; omega
       ·have HE := Hd (HBF.out (.inr (HNE.out hne)));clear HTE HNE hne;rcases hcase with hc0 | ⟨hc0, hc1⟩
        ·have RD0 := Hd fun wq (hSw : Only [] wr wq) => aI (Bk2 (hSw.blk hX.out (by simp))) (aI (Bk2 (hSw.blk hY.out (by simp))) (aI ((hSw.cell (p := ⟨b1, o1 + k * 2, none⟩) hb1 (by simp)).trans HU0.out) (aI ((hSw.cell (p := ⟨b1, o1 + k * 2 + 1, none⟩) hb1 (by simp)).trans HU1.out) (aI ((hSw.cell (p := ⟨b2, o2 + k * 2, none⟩) hb2 (by simp)).trans HV0.out) ((hSw.cell (p := ⟨b2, o2 + k * 2 + 1, none⟩) hb2 (by simp)).trans HV1.out)))));refine rg1 [] [] wr ?_;have OW : Only [] wr wr.drew := (Only.refl [] wr).drew;generalize wr.drew = wz at *;refine tQ 0 (h := trq 1 0 RD0 (h := tQ 2 (h := tQ 3 (h := trq 4 0 RD0 (h := tQ 5 (h := trq 6 0 RD0 (h := tQ 7 (h := tQ 8 (h := trq 9 0 RD0 (h := tQ 10 (h := ?_)))))))))));refine tdn ?_;have hO9 := Hd (hO.out.trans OW);clear OW hX hY hO HU0 HU1 HV0 HV1;go_wp2
         go_ret
         exact ⟨by rw [HE.out]; rfl, hO9.out⟩
        ·have RD0 := Hd fun wq (hSw : Only [] wr wq) => aI (Bk2 (hSw.blk hX.out (by simp))) (aI (Bk2 (hSw.blk hY.out (by simp))) (aI ((hSw.cell (p := ⟨b1, o1 + k * 2, none⟩) hb1 (by simp)).trans HU0.out) (aI ((hSw.cell (p := ⟨b1, o1 + k * 2 + 1, none⟩) hb1 (by simp)).trans HU1.out) (aI ((hSw.cell (p := ⟨b2, o2 + k * 2, none⟩) hb2 (by simp)).trans HV0.out) ((hSw.cell (p := ⟨b2, o2 + k * 2 + 1, none⟩) hb2 (by simp)).trans HV1.out)))));refine rg1 [] [] wr ?_;have OW : Only [] wr wr.drew := (Only.refl [] wr).drew;generalize wr.drew = wz at *;refine tQ 0 (h := trq 1 0 RD0 (h := tQ 2 (h := tQ 3 (h := trq 4 0 RD0 (h := tQ 5 (h := trq 6 0 RD0 (h := tQ 7 (h := tQ 8 (h := trq 9 0 RD0 (h := tQ 10 (h := ?_)))))))))));refine tdn ?_;have hO9 := Hd (hO.out.trans OW);clear OW hX hY hO HU0 HU1 HV0 HV1;go_wp2
         go_ret
         exact ⟨by rw [HE.out]; rfl, hO9.out⟩
      ·have hkn : nb = k := by omega
       subst hkn;have hd3 : decide ((nb : Int) < (nb : Int)) = false := by simp
       have HLE : Hid (xl = yl) := Hd (by
        have := hn.out
        rwa [List.take_of_length_le (by rw [HLB.out]; exact Nat.le_refl _), List.take_of_length_le (by rw [HLD.out]; exact Nat.le_refl _)] at this)
       have HE := Hd (HBT.out HCE.out HLE.out);clear hn;go_wp2
       go_ret
       exact ⟨by rw [HE.out]; rfl, hO.out⟩
  ·have HE := Hd (HBF.out (.inr (fun h => e2 (by rw [← HLB.out, ← HLD.out, h]))));subst e1;have q1 : ((nb : Int) == (nd : Int)) = false := by simp; omega
   have q2 : ((nb : Int) != (nd : Int)) = true := by simp; omega
   have q3 : (nb == nd) = false := by simp; omega
   have q4 : (nb != nd) = true := by simp; omega
   have q5 : decide (nb = nd) = false := by simp; omega
   go_wp2
   go_ret
   exact ⟨by rw [HE.out]; rfl, HO1.out⟩
 ·have HE := Hd (HBF.out (.inl (fun h => e1 (by rw [← HLA.out, ← HLC.out, h]))));have q1 : ((na : Int) == (nc : Int)) = false := by simp; omega
  have q2 : ((na : Int) != (nc : Int)) = true := by simp; omega
  have q3 : (na == nc) = false := by simp; omega
  have q4 : (na != nc) = true := by simp; omega
  have q5 : decide (na = nc) = false := by simp; omega
  go_wp2
  go_ret
  exact ⟨by rw [HE.out]; rfl, HO1.out⟩
end Go.Proofs.YtjfbeeogiejopaaGreatDoor
