/- Parts. -/
import Derived.Test.YtjfbeeogiejopaaGreatDoorWorldNextCardK24
set_option maxRecDepth 10000
set_option maxHeartbeats 16000000
set_option linter.unusedVariables false
set_option linter.unusedSimpArgs false
namespace Go.Proofs.YtjfbeeogiejopaaGreatDoor
open Go.RowKit
open Go.Lib hiding intOf
attribute [local go_sem ↓] Go.wp_at_zero Go.wp_at_succ
def preT (h : Hst) (i : Nat) (t : Tx) (j : Nat) (o : Op4) : List V2 :=
 match leftW o.key (t.ops.take j) with
 | some v => [v]
 | none => sortV (valsO (i : Int) o.key h.l)
theorem triesO_pre (h : Hst) (i : Nat) (t : Tx) (j : Nat) (o : Op4) : triesO h i t j o true = preT h i t j o ++ [(1, (freshN h.l o.key : Int))] := by
 unfold triesO preT;rw [if_pos rfl]
 cases leftW o.key (t.ops.take j) <;> rfl
theorem preT_some {h : Hst} {i : Nat} {t : Tx} {j : Nat} {o : Op4} {v : V2} (hv : leftW o.key (t.ops.take j) = some v) : preT h i t j o = [v] := by unfold preT; rw [hv]
theorem preT_none {h : Hst} {i : Nat} {t : Tx} {j : Nat} {o : Op4} (hv : leftW o.key (t.ops.take j) = none) : preT h i t j o = sortV (valsO (i : Int) o.key h.l) := by unfold preT; rw [hv]
theorem preT_le {h : Hst} (hl : h.l.length ≤ 40) (i : Nat) (t : Tx) (j : Nat) (o : Op4) : (preT h i t j o).length ≤ 41 := by
 unfold preT
 split
 ·simp
 ·have h1 := sortV_le (valsO (i : Int) o.key h.l);have h2 := valsO_len (i : Int) o.key h.l;omega
theorem rtries16_any (A0 A1 A2 Ac Al : Option Addr) (n0 n1 n2 nc nl' c0 c1 c2 cc cl B Bc : Nat) (h : Hst) (c : List Bool) (w : World) (hg : HIn w B A0 A1 A2 n0 n1 n2 h) (hm : mayH h = true) (hc : Row w Bc Ac (c.map Value.bool)) (hcl : c.length = nc) (hci : (whichL infoB h.l).length = nc) :
  Calls Tryz.prog 30 #[hval A0 A1 A2 n0 n1 n2 c0 c1 c2, .agg #[.slice Ac nc cc, .slice Al nl' cl]] w fun e w' => ∃ V, (∃ xs : List SlA, e = .returned V ∧ xs.map (fun x => x.l) = allT h c ∧ w'.ownsRow w.heap.size 33 1 V (allT h c).length (xs.map slC) ∧ VVown w' w.heap.size xs) ∧ Only [] w w' := by
 obtain ⟨i0, hi, hz0, hz1, hz2⟩ := info_parts info_vsl;obtain ⟨iv, hiv, hv0, hv1, hv2⟩ := info_parts info_val;have hn2 : n2 ≤ 40 := by rw [← hg.n2]; exact (may_ops hm).1
 have HCM := Hd (fun w' (O : Only [] w w') => rcommits16_any A0 A1 A2 Ac Al n0 n1 n2 nc nl' c0 c1 c2 cc cl B Bc h c w' (hg.same O) (hc.only O (by simp)) hcl hci);have HLS := Hd (fun w' (O : Only [] w w') => rlost_any A0 A1 A2 n0 n1 n2 c0 c1 c2 B h w' (hg.same O).at_.r2 hg.n2 (by omega) hg.sm.no);have HOW := Hd (fun (a b : Int) w' (O : Only [] w w') => rown_any A0 A1 A2 n0 n1 n2 c0 c1 c2 B h a b w' (hg.same O));have HVA := Hd (fun (a b : Int) w' (O : Only [] w w') => rvalues15_own A0 A1 A2 n0 n1 n2 c0 c1 c2 B h a b w' (hg.same O));have HFR := Hd (fun (k : Int) w' (O : Only [] w w') => rfresh15_any A0 A1 A2 n0 n1 n2 c0 c1 c2 B h k w' (hg.same O) (fun _ => ⟨(may_ops hm).1, (may_ops hm).2.1⟩));have HLN := Hd (lostX_len (may_ops hm).1 (may_ops hm).2.1);have HN2 := Hd hg.n2;have HL := Hd hg.at_.r2;have HAL := Hd (allT_len h c);have HMO := Hd hm;rw [lostP_eq] at HLS;obtain ⟨nl, hnl⟩ : ∃ nl, (lostX h.l).length = nl := ⟨_, rfl⟩;have HNL := Hd hnl;rw [List.length_map, hnl] at HLS;rw [allT_len, hnl];unfold hval at *;unfold agV at HFR;clear hg hm hc hnl;have HO1 := Hd (((Only.refl [] w).alloc (.cells #[.slice A0 n0 c0, .slice A1 n1 c1, .slice A2 n2 c2] 25)).alloc (.cells #[.slice Ac nc cc, .slice Al nl' cl] 51));have HB1 := Hd ((Blk.made w 25 #[.slice A0 n0 c0, .slice A1 n1 c1, .slice A2 n2 c2]).alloc (.cells #[.slice Ac nc cc, .slice Al nl' cl] 51));have HW1 := Hd (Blk.made (w.alloc (.cells #[.slice A0 n0 c0, .slice A1 n1 c1, .slice A2 n2 c2] 25)) 51 #[.slice Ac nc cc, .slice Al nl' cl]);simp only [World.size_alloc] at HW1;go_enter Tryz.func30, Tryz.ntmps30;go_upto_region 1 with (fail)
 generalize ((w.alloc (.cells #[.slice A0 n0 c0, .slice A1 n1 c1, .slice A2 n2 c2] 25)).alloc (.cells #[.slice Ac nc cc, .slice Al nl' cl] 51)) = w1 at *;generalize hgw : w.heap.size + 1 = gw at *;generalize hgg : w.heap.size = g at *;have RD0 := Hd fun wq (hSw : Only [] w1 wq) => aI (Bk3 (hSw.blk HB1.out (by simp))) (Bk2 (hSw.blk HW1.out (by simp)));refine rg1 [] [] w1 ?_;have OW : Only [] w1 w1.drew := (Only.refl [] w1).drew;generalize w1.drew = wz at *;refine trq 0 0 RD0 (h := trq 1 0 RD0 (h := trq 3 0 RD0 (h := ?_)));refine tst (i := 2) fun K hK => ?_;go_simp;refine (HCM.out _ (HO1.out.trans OW)).mono ?_;rintro e w2 ⟨VC, ⟨rfl, hc2⟩, O2⟩;obtain ⟨AC, cC, rfl, -, -, -, -⟩ := own_row hc2;have OW1 := OW.trans O2;have OC1 := own_low hc2 (show g ≤ wz.heap.size from by have := (HO1.out.trans OW).size; omega);clear O2 hc2;refine kOut hK (OW1) (h := ?_);clear hK K;refine tst (i := 4) fun K hK => ?_;go_simp;refine (HLS.out _ (HO1.out.trans OW1)).mono ?_;rintro e w3 ⟨AL, cL, ⟨rfl, hl3⟩, O3⟩;have OW2 := OW1.trans O3;have OC2 := own_only OC1 O3 (by simp);clear O3;refine kOut hK (OW2) (h := ?_);clear hK K;refine tQ 5 (h := tQ 6 (h := ?_));refine tdn ?_;have HO3 := Hd (HO1.out.trans OW2);have HB3 := Hd (OW2.blk HB1.out (by simp));have HC3 := Hd OC2;have HL3 := Hd hl3;clear OW OW1 OW2 OC1 OC2 hl3 HO1 HB1 HW1 HCM HLS;have hgB : g ≤ w3.heap.size := by have := HO3.out.size; omega
 have HV4 := Hd (World.ownsRow_lit (base := w3.heap.size) w3 (e := 33) (size := 1) #[] 0 (Nat.le_refl _) (by unfold maxLen; omega) rfl);have OA : Only [] w3 (w3.alloc (.cells #[] 33)) := (Only.refl [] w3).alloc _;have HO4 := Hd (HO3.out.trans OA);have HB4 := Hd (OA.blk HB3.out (by simp));have HC4 := Hd (own_only HC3.out OA (by simp));have HL4 := Hd (HL3.out.only OA (by simp));clear HO3 HB3 HC3 HL3;go_upto_region 3 with (fail)
 have hBL4 : w3.heap.size ≤ (w3.alloc (.cells #[] 33)).heap.size := OA.size;clear OA;generalize (w3.alloc (.cells #[] 33)) = w4 at *;generalize w3.heap.size = BL at *;go_wp2_with fail
 go_loopw [7, 8] (fun V iv wr => ∃ (k : Nat) (xs : List SlA), iv = .int .i64 (k : Int) ∧ k ≤ nl ∧ BL ≤ wr.heap.size ∧ Hid (xs.map (fun x => x.l) = (allT h c).take k) ∧ Hid (wr.ownsRow BL 33 1 V k (xs.map slC)) ∧ Hid (VVown wr BL xs) ∧ Hid (wr.ownsRow g 4 1 (.slice AC n2 cC) n2 ((comL h.l c).map Value.bool)) ∧ Hid (Row wr BL AL (placeC ((lostX h.l).map fun x => ((x.1 : Int), (x.2.1 : Int))))) ∧ Hid (Blk wr g 25 #[.slice A0 n0 c0, .slice A1 n1 c1, .slice A2 n2 c2]) ∧ Hid (Only [] w wr)) (fun _ iv _ => nl - (intOf iv).toNat)
 case atStart => exact ⟨0, [], rfl, by omega, hBL4, Hd rfl, HV4, Hd (fun x hx => by cases hx), HC4, HL4, HB4, HO4⟩
 case round =>
  obtain ⟨k, xs, rfl, hk, hzB, hxs, hV, hX, hC, hL, hB, hO⟩ := hrel;clear HV4 HC4 HL4 HB4 HO4
  by_cases hlt : k < nl
  ·obtain ⟨x, hx⟩ : ∃ x, (lostX h.l)[k]? = some x := ⟨_, List.getElem?_eq_getElem (by rw [HNL.out]; exact hlt)⟩;obtain ⟨t, ht, ho, hlost⟩ := lostX_mem hx;have hi2 : x.1 < n2 := by rw [← HN2.out]; exact (List.getElem?_eq_some_iff.1 ht).1
   obtain ⟨b, hb⟩ : ∃ b, (comL h.l c)[x.1]? = some b := ⟨_, List.getElem?_eq_getElem (by rw [comL_len, HN2.out]; exact hi2)⟩;have HTK : Hid ((allT h c).take (k + 1) = (allT h c).take k ++ [triesO h x.1 t x.2.1 x.2.2 b]) := Hd (by
    rw [List.take_add_one, allT_get hx];unfold triesX atB;rw [ht, List.getD_eq_getElem?_getD, hb]
    rfl)
   obtain ⟨b4, o4, rfl, -, hbr4, hc4⟩ := hL.out.open_ (k := k * 2) (by have e := edgeC_len ((lostX h.l).map fun x => ((x.1 : Int), (x.2.1 : Int))); rw [List.length_map, HNL.out] at e; exact Nat.lt_of_lt_of_eq (show k * 2 < nl * 2 by omega) e.symm);have hpl := placeC_at (l := (lostX h.l).map fun x => ((x.1 : Int), (x.2.1 : Int))) (k := k) (x := ((x.1 : Int), (x.2.1 : Int))) (by rw [List.getElem?_map, hx]; rfl);have p0 := hc4 _ _ hpl.1;have p1 := hc4 _ _ hpl.2;rw [← Nat.add_assoc] at p1;obtain ⟨b5, o5, rfl, -, hbr5, hc5⟩ := (own_row_at hC.out).1.open_ (k := x.1) (by rw [List.length_map, comL_len, HN2.out]; exact hi2);have HQ0 := Hd (hc5 x.1 _ (by rw [List.getElem?_map, hb]; rfl));have hat := opAt_yes (txAt_yes HMO.out ht) ho;have hkr := (may_ops HMO.out).2.2 t (List.mem_of_getElem? ht) x.2.2 (List.mem_of_getElem? ho);have hwf : x.2.2.wr = false := by
    cases hw : x.2.2.wr with
    | false => rfl
    | true => have := hkr.2.2.2 hw; omega
   have HOV : Hid (ownO h (x.1 : Int) (x.2.1 : Int) = leftW x.2.2.key (t.ops.take x.2.1)) := Hd (by rw [own_some hat]; rfl);have HVE : Hid (valsH h (x.1 : Int) (x.2.1 : Int) = sortV (valsO (x.1 : Int) x.2.2.key h.l)) := Hd (valsH_some (read_some hat hwf));have HFV : Hid (freshV h x.2.2.key = (1, (freshN h.l x.2.2.key : Int))) := Hd (by unfold freshV; rw [if_pos ⟨HMO.out, hkr.1, hkr.2.1⟩]);have HTP := Hd (triesO_pre h x.1 t x.2.1 x.2.2);have HPS := Hd (fun v => preT_some (h := h) (i := x.1) (t := t) (j := x.2.1) (o := x.2.2) (v := v));have HPN := Hd (preT_none (h := h) (i := x.1) (t := t) (j := x.2.1) (o := x.2.2));have HPL := Hd (preT_le (may_ops HMO.out).1 x.1 t x.2.1 x.2.2);obtain ⟨bl, off, A', cp, rfl, -, hbw, hT, hOk⟩ := HL.out.at_ ht;obtain ⟨bo, oo, rfl, -, hbo, hP⟩ := row_op hOk.row ho;have hjm := (List.getElem?_eq_some_iff.1 ho).1;have HTC := Hd (fun w' (O : Only [] w w') => (hT.only O (by omega) (by simp)).c2);have HPO := Hd (fun w' (O : Only [] w w') => (hP.only O (by omega) (by simp)).c1);dsimp only at HTC;have HOW1 := Hd (HOW.out (x.1 : Int) (x.2.1 : Int));have HVA1 := Hd (HVA.out (x.1 : Int) (x.2.1 : Int));have HFR1 := Hd (HFR.out x.2.2.key);rw [HOV.out] at HOW1;rw [HVE.out] at HVA1;rw [HFV.out] at HFR1;obtain ⟨i, j, o⟩ := x;dsimp only at *;have hblB : Hid (bl < g ∧ bo < g) := Hd (by omega);have hblw : bl < w.heap.size := by omega
   have hbow : bo < w.heap.size := by omega
   have hTF : Hid (triesO h i t j o false = [(0, 0)]) := Hd rfl;generalize triesO h i t j o = T at *;generalize preT h i t j o = T0 at *;generalize t.ops.length = m at *;generalize leftW o.key (t.ops.take j) = v at *;generalize sortV (valsO (i : Int) o.key h.l) = L at *;generalize freshN h.l o.key = fr at *;generalize o.key = ok at *;clear hx ht ho hb hc4 hc5 hpl hat hkr hwf hT hOk hP hlost HOV HVE HFV;have h01 : (k : Int) < (nl : Int) := by omega
   have hk0 : (0 : Int) ≤ (k : Int) := Int.natCast_nonneg _;have hwk : IntKind.i64.wrap ((k : Int) + 1) = (k : Int) + 1 := IntWalk.i64_in _ (by have := HLN.out; have := HNL.out; omega);have hnl : nl ≤ 40000 := by have := HLN.out; have := HNL.out; omega
   go_upto_region 7 with (fail)
   have O5 : Only [] wr (wr.alloc (.cells #[.int .i64 (i : Int), .int .i64 (j : Int)] 27)) := (Only.refl [] wr).alloc _;have hP5 := Hd (Blk.made wr 27 #[.int .i64 (i : Int), .int .i64 (j : Int)]);have HQ5 := Hd ((O5.cell (p := ⟨b5, o5 + i, none⟩) hbr5 (by simp)).trans HQ0.out);have hb5 : b5 < (wr.alloc (.cells #[.int .i64 (i : Int), .int .i64 (j : Int)] 27)).heap.size := by have := O5.size; omega
   have hzB5 : BL ≤ (wr.alloc (.cells #[.int .i64 (i : Int), .int .i64 (j : Int)] 27)).heap.size := Nat.le_trans hzB O5.size;have hi0 : (0 : Int) ≤ (i : Int) := Int.natCast_nonneg _;have hi3 : (i : Int) < (n2 : Int) := by omega
   have hj0 : (0 : Int) ≤ (j : Int) := Int.natCast_nonneg _;have hj3 : (j : Int) < (m : Int) := by omega
   have hO5 := Hd (hO.out.trans O5);have hB5 := Hd (O5.blk hB.out (by simp));have hC5 := Hd (own_only hC.out O5 (by simp));have hL5 := Hd (hL.out.only O5 (by simp));have hV5 := Hd (own_only hV.out O5 (by simp));have hX5 := Hd (hX.out.same O5);clear hO hB hC hL hV hX;clear O5 HQ0 hbr4 hbr5 p0 p1;generalize (wr.alloc (.cells #[.int .i64 (i : Int), .int .i64 (j : Int)] 27)) = w5 at *;generalize wr.heap.size = gp at *;have q0 := HQ5.out;have lhP_ := hP5.out.lt;have p0 := hP5.out.at_ 0;have p1 := hP5.out.at_ 1;simp at p0 p1
   cases b with
   | false =>
    rw [hTF.out] at HTK;clear hTF HOW HVA HFR HOW1 HVA1 HFR1 HPS HPN HPL HTP;have RW := row_lit (w5.alloc (.cells #[.int .i64 0, .int .i64 0] 38)) 33 #[.slice (some ⟨w5.heap.size, 0, none⟩) 1 1];have OA : Only [] w5 ((w5.alloc (.cells #[.int .i64 0, .int .i64 0] 38)).alloc (.cells #[.slice (some ⟨w5.heap.size, 0, none⟩) 1 1] 33)) := ((Only.refl [] w5).alloc _).alloc _;simp only [World.size_alloc] at RW;have OT := own_low (own_only (own_lit1 w5 (0, 0)) ((Only.refl [] _).alloc (.cells #[.slice (some ⟨w5.heap.size, 0, none⟩) 1 1] 33)) (by simp)) hzB5;dsimp only at OT;go_wp2_with (at_builtin; refine wpList_append_row _ rfl (.tmp 35) (.tmp 38) _ rfl BL 33 i0 _ 1 24 Tryz.underlying54 hi hz0 hz1 hz2 rfl (by omega) u7 k (xs.map slC) rfl (own_only hV5.out OA (by simp)) _ _ 1 1 [.slice (some ⟨w5.heap.size, 0, none⟩) 1 1] rfl rfl RW (by simp [Value.oneCell']) (by unfold maxLen; omega) (by omega) (by simp; omega) ?_; intro V9 w9 hown9 hgrow9 hat9)
    have OG : Only u7.ownBlock.toList _ w9 := only_grown hgrow9;have hzB9 : BL ≤ w9.heap.size := Nat.le_trans hzB5 (Nat.le_trans OA.size OG.size);have HV6 := own_only hV5.out OA (by simp);have HV9 := Hd hown9;have HX9 : Hid (VVown w9 BL (xs ++ [⟨[(0, 0)], some ⟨w5.heap.size, 0, none⟩, 1⟩])) := Hd (by
     intro x hx;rcases List.mem_append.1 hx with hx | hx
     ·have h1 := (hX5.out.same OA) x hx;exact own_only h1 OG (own_two h1 HV6 (by decide))
     ·have e : x = ⟨[(0, 0)], some ⟨w5.heap.size, 0, none⟩, 1⟩ := by simpa using hx
      subst e;exact own_only OT OG (own_two OT HV6 (by decide)))
    have h6 := own_only hC5.out OA (by simp);have HC9 := Hd (own_only h6 OG (own_two h6 HV6 (by decide)));have HL9 := Hd ((hL5.out.only OA (by simp)).only OG (fun i hi => (HV6.lt i (by simpa using hi)).1));have h8 := OA.blk hB5.out (by simp);have HB9 := Hd (OG.blk h8 (own_apart HV6 h8 (by decide)));have HO9 := Hd ((hO5.out.trans OA).step OG (fun i hi hl => by have := (HV6.lt i (by simpa using hi)).1; omega));have HXS : Hid ((xs ++ [(⟨[(0, 0)], some ⟨w5.heap.size, 0, none⟩, 1⟩ : SlA)]).map (fun x => x.l) = (allT h c).take (k + 1)) := Hd (by rw [HTK.out, List.map_append, hxs.out]; rfl);rw [show xs.map slC ++ [Value.slice (some ⟨w5.heap.size, 0, none⟩) 1 1] = (xs ++ [(⟨[(0, 0)], some ⟨w5.heap.size, 0, none⟩, 1⟩ : SlA)]).map slC by rw [List.map_append]; rfl] at HV9;clear HV6 h6 h8 hB5 hV5 hX5 hC5 hL5 hO5 hP5 OT OA OG hown9 hgrow9 hat9 HQ5 hxs RW;go_wp2
    go_roundw
    case rel => exact ⟨k + 1, _, by go_num, by omega, hzB9, HXS, HV9, HX9, HC9, HL9, HB9, HO9⟩
    case measure => simp [intOf]; omega
   | true =>
    rw [HTP.out] at HTK;clear hTF HTP HOW HVA HFR lhP_;have lhB_ := hB5.out.lt;have y0 := hB5.out.at_ 0;have y1 := hB5.out.at_ 1;have y2 := hB5.out.at_ 2;simp at y0 y1 y2;go_wp2_with fail
    refine (HOW1.out _ hO5.out).mono ?_;rintro e w6 ⟨rfl, O6⟩;clear lhB_ y0 y1 y2;have hzB6 : BL ≤ w6.heap.size := Nat.le_trans hzB5 O6.size;have hP6 := Hd (O6.blk hP5.out (by simp));have hO6 := Hd (hO5.out.trans O6);have hB6 := Hd (O6.blk hB5.out (by simp));have hC6 := Hd (own_only hC5.out O6 (by simp));have hL6 := Hd (hL5.out.only O6 (by simp));have hV6 := Hd (own_only hV5.out O6 (by simp));have hX6 := Hd (hX5.out.same O6);clear hP5 hO5 hB5 hC5 hL5 hV5 hX5;clear O6 p0 p1 q0 HQ5 HOW1;unfold optT optV;have HPS1 : Hid (v.isSome = true → T0 = [((v.getD (0, 0)).1, (v.getD (0, 0)).2)]) := Hd (fun hs => by
     cases v with
     | none => cases hs
     | some u => exact HPS.out u rfl)
    have HPN1 : Hid (v.isSome = false → T0 = L) := Hd (fun hs => by
     cases v with
     | none => exact HPN.out rfl
     | some u => cases hs)
    generalize (v.getD (0, 0)).1 = f1 at *;generalize (v.getD (0, 0)).2 = f2 at *;generalize v.isSome = fs at *;clear HPS HPN;go_upto_region 10 with (fail)
    have O7 : Only [] w6 (w6.alloc (.cells #[.int .i64 f1, .int .i64 f2] 38)) := (Only.refl [] w6).alloc _;have hzB7 : BL ≤ (w6.alloc (.cells #[.int .i64 f1, .int .i64 f2] 38)).heap.size := Nat.le_trans hzB6 O7.size;have hU7 := Hd (Blk.made w6 38 #[.int .i64 f1, .int .i64 f2]);have hP7 := Hd (O7.blk hP6.out (by simp));have hO7 := Hd (hO6.out.trans O7);have hB7 := Hd (O7.blk hB6.out (by simp));have hC7 := Hd (own_only hC6.out O7 (by simp));have hL7 := Hd (hL6.out.only O7 (by simp));have hV7 := Hd (own_only hV6.out O7 (by simp));have hX7 := Hd (hX6.out.same O7);clear hP6 hO6 hB6 hC6 hL6 hV6 hX6;clear O7;generalize (w6.alloc (.cells #[.int .i64 f1, .int .i64 f2] 38)) = w7 at *;generalize w6.heap.size = gu at *;have lhU_ := hU7.out.lt;have u0 := hU7.out.at_ 0;have u1 := hU7.out.at_ 1;simp at u0 u1;go_upto_region 11 with (fail)
    have O8 : Only [] w7 (w7.alloc (.cells #[.int .i64 f1, .int .i64 f2] 38)) := (Only.refl [] w7).alloc _;have HT8 := Hd (own_lit1 w7 (f1, f2));have HXL : Hid (∀ x ∈ xs, ∀ q, (slC x).ownBlock = some q → q < w7.heap.size) := Hd (fun x hx q hq => ((hX7.out x hx).lt q hq).2);have hgz : BL ≤ w7.heap.size := hzB7;clear hU7 lhU_ u0 u1;have hP8 := Hd (O8.blk hP7.out (by simp));have hO8 := Hd (hO7.out.trans O8);have hB8 := Hd (O8.blk hB7.out (by simp));have hC8 := Hd (own_only hC7.out O8 (by simp));have hL8 := Hd (hL7.out.only O8 (by simp));have hV8 := Hd (own_only hV7.out O8 (by simp));have hX8 := Hd (hX7.out.same O8);clear hP7 hO7 hB7 hC7 hL7 hV7 hX7;clear O8;generalize (w7.alloc (.cells #[.int .i64 f1, .int .i64 f2] 38)) = w8 at *;generalize w7.heap.size = gz at *;have hgz8 : gz ≤ w8.heap.size := by have := HT8.out.lt gz rfl; omega
    go_upto_if 49 with (fail)
    go_cut [12] (fun V wx => Hid (wx.ownsRow gz 38 2 V T0.length (edgeC T0)) ∧ Hid (Only [] w8 wx))
    case first =>
     cases fs with
     | true =>
      have HE := Hd (HPS1.out rfl);go_wp2
      go_meet
      exact ⟨Hd (by rw [HE.out]; exact HT8.out), Hd (Only.refl [] _)⟩
     | false =>
      have HE := Hd (HPN1.out rfl);have lhB_ := hB8.out.lt;have y0 := hB8.out.at_ 0;have y1 := hB8.out.at_ 1;have y2 := hB8.out.at_ 2;have lhP_ := hP8.out.lt;have p0 := hP8.out.at_ 0;have p1 := hP8.out.at_ 1;simp at y0 y1 y2 p0 p1;go_wp2_with fail
      refine (HVA1.out _ hO8.out).mono ?_;rintro e w9 ⟨VV, ⟨rfl, ho9⟩, O9⟩;have HV9 := Hd (own_low ho9 hgz8);have HO9 := Hd O9;clear ho9 O9;go_wp2
      go_meet
      exact ⟨Hd (by rw [HE.out]; exact HV9.out), HO9⟩
    case rest =>
     obtain ⟨HT9, HOC⟩ := hcut;have hP9 := Hd (HOC.out.blk hP8.out (by simp));have hO9 := Hd (hO8.out.trans HOC.out);have hB9 := Hd (HOC.out.blk hB8.out (by simp));have hC9 := Hd (own_only hC8.out HOC.out (by simp));have hL9 := Hd (hL8.out.only HOC.out (by simp));have hV9 := Hd (own_only hV8.out HOC.out (by simp));have hX9 := Hd (hX8.out.same HOC.out);clear hP8 hO8 hB8 hC8 hL8 hV8 hX8;have hgz9 : gz ≤ wc.heap.size := by have := HOC.out.size; omega
     clear HOC HT8 HVA1 HPS1 HPN1;obtain ⟨w9, hw9⟩ : ∃ w9 : World, w9 = wc := ⟨_, rfl⟩;subst hw9;have HTC9 := Hd (HTC.out _ hO9.out);have HPO9 := Hd (HPO.out _ hO9.out);have hbl9 : bl < w9.heap.size := by have := hO9.out.size; omega
     have hbo9 : bo < w9.heap.size := by have := hO9.out.size; omega
     obtain ⟨SS, hSS⟩ : ∃ SS, SS = u7.ownBlock.toList ++ u12.ownBlock.toList := ⟨_, rfl⟩;have HS7 : Hid (∀ i ∈ u7.ownBlock.toList, i ∈ SS) := Hd (fun i hi => by rw [hSS]; exact List.mem_append_left _ hi);have HS12 : Hid (∀ i ∈ u12.ownBlock.toList, i ∈ SS) := Hd (fun i hi => by rw [hSS]; exact List.mem_append_right _ hi);have HSL : Hid (∀ i ∈ SS, BL ≤ i) := Hd (fun i hi => by
      rw [hSS] at hi;rcases List.mem_append.1 hi with hi | hi
      ·exact (hV9.out.lt i (by simpa using hi)).1
      ·exact Nat.le_trans hgz (HT9.out.lt i (by simpa using hi)).1)
     have HNH : Hid (g ∉ SS) := Hd (fun hi => by
      rw [hSS] at hi;rcases List.mem_append.1 hi with hi | hi
      ·exact own_apart hV9.out hB9.out (by decide) hi
      ·exact own_apart HT9.out hB9.out (by decide) hi)
     have HNP : Hid (gp ∉ SS) := Hd (fun hi => by
      rw [hSS] at hi;rcases List.mem_append.1 hi with hi | hi
      ·exact own_apart hV9.out hP9.out (by decide) hi
      ·exact own_apart HT9.out hP9.out (by decide) hi)
     clear hSS;go_upto_region 13 with (fail)
     have RD0 := Hd fun wq (hSw : Only SS w9 wq) => aI (Bk3 (hSw.blk hB9.out HNH.out)) (aI (Bk2 (hSw.blk hP9.out HNP.out)) (aI ((hSw.cell (p := ⟨bl, off + i * 3 + 2, none⟩) hbl9 (fun hm => by have := HSL.out bl hm; omega)).trans HTC9.out) ((hSw.cell (p := ⟨bo, oo + j * 4 + 1, none⟩) hbo9 (fun hm => by have := HSL.out bo hm; omega)).trans HPO9.out)));refine rg1 [] SS w9 ?_;have OW : Only [] w9 w9.drew := (Only.refl [] w9).drew;generalize w9.drew = wz at *;refine tQ 0 (h := tQ 1 (h := trq 2 0 RD0 (h := tQ 3 (h := trq 4 0 RD0 (h := tQ 5 (h := trq 6 0 RD0 (h := tQ 7 (h := tQ 8 (h := trq 9 0 RD0 (h := tQ 10 (h := trq 11 0 RD0 (h := tQ 12 (h := tQ 13 (h := trq 14 0 RD0 (h := ?_)))))))))))))));refine tst (i := 15) fun K hK => ?_;go_simp;refine (HFR1.out _ (hO9.out.trans OW)).mono ?_;rintro e wa ⟨rfl, Oa⟩;have OW1 := OW.trans Oa;clear Oa;refine kOut hK (OW1.wide (fun i hi => by cases hi)) (h := ?_);clear hK K;refine tst (i := 16) fun K hK => ?_;go_simp;have OW2 := OW1.alloc (.cells #[.int .i64 1, .int .i64 (fr : Int)] 38);have RW2 := row_lit wa 38 #[.int .i64 1, .int .i64 (fr : Int)];generalize wa.alloc (.cells #[.int .i64 1, .int .i64 (fr : Int)] 38) = wb at *;generalize wa.heap.size = gb at *;refine kOut hK (OW2.wide (fun i hi => by cases hi)) (h := ?_);clear hK K;refine tst (i := 17) fun K hK => ?_;refine step_append_row _ rfl (.tmp 54) (.tmp 69) 33 rfl gz 38 iv _ 2 16 Tryz.underlying33 hiv hv0 hv1 hv2 rfl (by omega) u12 T0.length (edgeC T0) (by rfl) (own_only HT9.out OW2 (by simp)) _ (some ⟨gb, 0, none⟩) 1 1 [.int .i64 1, .int .i64 (fr : Int)] (by rfl) (by rfl) RW2 (by intro u hu; simp at hu; rcases hu with rfl | rfl <;> rfl) (by have := HPL.out; unfold maxLen; omega) (by have := HPL.out; omega) (by have := OW2.size; omega) ?_;intro V13 wd hownd hgrowd hatd;have OGd : Only u12.ownBlock.toList wb wd := only_grown hgrowd;obtain ⟨AT, cT, rfl, -, -, -, -⟩ := own_row hownd;have OW3 := (OW2.wide (fun i hi => by cases hi)).trans (OGd.wide (fun i hi _ => HS12.out i hi));refine kOut hK (OW3) (h := ?_);clear hK K;refine tst (i := 18) fun K hK => ?_;go_simp;have RW4 := row_lit wd 33 #[.slice AT (T0.length + 1) cT];have OA4 : Only [] wd (wd.alloc (.cells #[.slice AT (T0.length + 1) cT] 33)) := (Only.refl [] wd).alloc _;have OW4 := OW3.trans (OA4.wide (fun i hi => by cases hi));generalize wd.alloc (.cells #[.slice AT (T0.length + 1) cT] 33) = we at *;generalize wd.heap.size = ge at *;refine kOut hK (OW4) (h := ?_);clear hK K;refine tst (i := 19) fun K hK => ?_;refine step_append_row _ rfl (.tmp 53) (.tmp 71) 54 rfl BL 33 i0 _ 1 24 Tryz.underlying54 hi hz0 hz1 hz2 rfl (by omega) u7 k (xs.map slC) (by rfl) (own_only (own_only (own_only hV9.out OW2 (by simp)) OGd (own_two (own_only hV9.out OW2 (by simp)) (own_only HT9.out OW2 (by simp)) (by decide))) OA4 (by simp)) _ (some ⟨ge, 0, none⟩) 1 1 [.slice AT (T0.length + 1) cT] (by rfl) (by rfl) RW4 (by intro u hu; simp at hu; subst hu; rfl) (by unfold maxLen; omega) (by omega) (by have := OW2.size; have := OGd.size; have := OA4.size; omega) ?_;intro V9 wf hown9 hgrow9 hat9;have OG : Only u7.ownBlock.toList we wf := only_grown hgrow9;refine kOut hK (OW4.trans (OG.wide (fun i hi _ => HS7.out i hi))) (h := ?_);clear hK K;refine tQ 20 (h := ?_);refine tdn ?_;have hz : BL ≤ w9.heap.size := Nat.le_trans hgz hgz9;have hzB9 : BL ≤ wf.heap.size := Nat.le_trans hz (Nat.le_trans OW2.size (Nat.le_trans OGd.size (Nat.le_trans OA4.size OG.size)));have v1 := own_only hV9.out OW2 (by simp);have t1 := own_only HT9.out OW2 (by simp);have v2 := own_only v1 OGd (own_two v1 t1 (by decide));have v3 := own_only v2 OA4 (by simp);have HVf := Hd hown9;have ot := own_low (own_only hownd OA4 (by simp)) hgz;have HXf : Hid (VVown wf BL (xs ++ [⟨T0 ++ [(1, (fr : Int))], AT, cT⟩])) := Hd (by
      intro x hx;rcases List.mem_append.1 hx with hx | hx
      ·have h1 := (hX9.out.same OW2) x hx;have h2 := own_only h1 OGd (fun q hq hm => by
        have e1 := HXL.out x hx q hq;have e2 := HT9.out.lt q (by simpa using hm);omega)
       have h3 := own_only h2 OA4 (by simp);exact own_only h3 OG (own_two h3 v3 (by decide))
      ·have e : x = ⟨T0 ++ [(1, (fr : Int))], AT, cT⟩ := by simpa using hx
       subst e;have h3 : we.ownsRow BL 38 2 (slC ⟨T0 ++ [(1, (fr : Int))], AT, cT⟩) (T0 ++ [((1, (fr : Int)) : V2)]).length (edgeC (T0 ++ [(1, (fr : Int))])) := by
        unfold slC;rw [edgeC_append, List.length_append];exact ot
       exact own_only h3 OG (own_two h3 v3 (by decide)))
     have c1 := own_only hC9.out OW2 (by simp);have c2 := own_only c1 OGd (own_two c1 t1 (by decide));have c3 := own_only c2 OA4 (by simp);have HCf := Hd (own_only c3 OG (own_two c3 v3 (by decide)));have HLf := Hd ((((hL9.out.only OW2 (by simp)).only OGd (fun i hi => Nat.le_trans hgz (t1.lt i (by simpa using hi)).1)).only OA4 (by simp)).only OG (fun i hi => (v3.lt i (by simpa using hi)).1));have b1 := OW2.blk hB9.out (by simp);have b2 := OGd.blk b1 (own_apart t1 b1 (by decide));have b3 := OA4.blk b2 (by simp);have HBf := Hd (OG.blk b3 (own_apart v3 b3 (by decide)));have HOf := Hd ((((hO9.out.trans OW2).step OGd (fun i hi hl => by have := (t1.lt i (by simpa using hi)).1; omega)).trans OA4).step OG (fun i hi hl => by have := (v3.lt i (by simpa using hi)).1; omega));have HXS : Hid ((xs ++ [(⟨T0 ++ [(1, (fr : Int))], AT, cT⟩ : SlA)]).map (fun x => x.l) = (allT h c).take (k + 1)) := Hd (by rw [HTK.out, List.map_append, hxs.out]; rfl);rw [show xs.map slC ++ [Value.slice AT (T0.length + 1) cT] = (xs ++ [(⟨T0 ++ [(1, (fr : Int))], AT, cT⟩ : SlA)]).map slC by rw [List.map_append]; simp [slC]] at HVf;clear v1 t1 v2 v3 ot c1 c2 c3 b1 b2 b3 hB9 hV9 hX9 hC9 hL9 hO9 hP9 OW OW1 OW2 OW3 OW4 OGd OA4 OG hown9 hownd hgrow9 hgrowd hatd hat9 RW2 RW4 HT9 hxs;go_wp2
     go_roundw
     case rel => exact ⟨k + 1, _, by go_num, by omega, hzB9, HXS, HVf, HXf, HCf, HLf, HBf, HOf⟩
     case measure => simp [intOf]; omega
  ·have hkn : k = nl := by omega
   subst hkn;have hd2 : decide ((k : Int) < (k : Int)) = false := by simp
   rw [List.take_of_length_le (by rw [HAL.out, HNL.out]; omega)] at hxs;go_wp2
   go_ret
   exact ⟨_, ⟨xs, rfl, hxs.out, by rw [hgg]; exact own_low hV.out hgB, by rw [hgg]; exact fun x hx => own_low (hX.out x hx) hgB⟩, hO.out⟩
theorem mayW_inv {h : Hst} {x : Wld} (hm : mayW h x = true) : mayH h = true ∧ x.c.length = (whichL infoB h.l).length ∧ x.l.length = (lostX h.l).length ∧ x.l.all okV = true := by
 unfold mayW at hm;simp only [Bool.and_eq_true, decide_eq_true_eq] at hm;exact ⟨hm.1, hm.2.1, hm.2.2.1, hm.2.2.2⟩
theorem VVown.low {w : World} {b b' : Nat} {xs : List SlA} (h : VVown w b xs) (hb : b' ≤ b) : VVown w b' xs := fun x hx => own_low (h x hx) hb
def firstP (h : Hst) (b : Bool) (x : Pl) : V2 :=
 match h.l[x.1]? with
 | some t => firstX t x.2.1 x.2.2 b
 | none => (0, 0)
def firstL (h : Hst) (c : List Bool) : List V2 := (lostX h.l).map fun x => firstP h (atB (comL h.l c) x.1) x
theorem firstL_get {h : Hst} {c : List Bool} {k : Nat} {x : Pl} (hx : (lostX h.l)[k]? = some x) : (firstL h c)[k]? = some (firstP h (atB (comL h.l c) x.1) x) := by
 unfold firstL;rw [List.getElem?_map, hx]
 rfl
theorem firstL_len (h : Hst) (c : List Bool) : (firstL h c).length = (lostX h.l).length := by simp [firstL]
theorem wfirstof_any (A0 A1 A2 Ac : Option Addr) (n0 n1 n2 nc c0 c1 c2 cc B Bc : Nat) (h : Hst) (c : List Bool) (w : World) (hg : HIn w B A0 A1 A2 n0 n1 n2 h) (hm : mayH h = true) (hc : Row w Bc Ac (c.map Value.bool)) (hcl : c.length = nc) (hci : (whichL infoB h.l).length = nc) :
  Calls Tryz.prog 62 #[hval A0 A1 A2 n0 n1 n2 c0 c1 c2, .slice Ac nc cc] w fun e w' => ∃ V, (e = .returned (.agg #[.slice Ac nc cc, V]) ∧ w'.ownsRow w.heap.size 38 2 V (lostX h.l).length (edgeC (firstL h c))) ∧ Only [] w w' := by
 obtain ⟨i0, hi, hz0, hz1, hz2⟩ := info_parts info_val;have hn2 : n2 ≤ 40 := by rw [← hg.n2]; exact (may_ops hm).1
 have HCM := Hd (fun w' (O : Only [] w w') => wcommitted_any A0 A1 A2 Ac n0 n1 n2 nc c0 c1 c2 cc B Bc h c w' (hg.same O) (hc.only O (by simp)) hcl hci);have HLS := Hd (fun w' (O : Only [] w w') => klost_any A0 A1 A2 n0 n1 n2 c0 c1 c2 B h w' (hg.same O).at_.r2 hg.n2 (by omega) (fun t ht => Nat.le_trans ((may_ops hm).2.1 t ht) (by omega)));have HTR := Hd (fun (x : Pl) (t : Tx) (b : Bool) w' (hx : h.l[x.1]? = some t) (ho : t.ops[x.2.1]? = some x.2.2) (O : Only [] w w') => kfirst_any A0 A1 A2 n0 n1 n2 c0 c1 c2 B h x.1 x.2.1 t x.2.2 b w' (hg.same O) hx ho);have HLN := Hd (lostX_len (may_ops hm).1 (may_ops hm).2.1);have HN2 := Hd hg.n2;have HAL := Hd (firstL_len h c);rw [lostP_eq] at HLS;obtain ⟨nl, hnl⟩ : ∃ nl, (lostX h.l).length = nl := ⟨_, rfl⟩;have HNL := Hd hnl;rw [List.length_map, hnl] at HLS;rw [hnl];unfold hval at *;clear hg hm hc hnl;have HO1 := Hd ((((Only.refl [] w).alloc (.cells #[.slice A0 n0 c0, .slice A1 n1 c1, .slice A2 n2 c2] 25)).alloc (.cells #[.slice none 0 0, .slice none 0 0] 51)).alloc (.cells #[.slice Ac nc cc, .slice none 0 0] 51));have HB1 := Hd (((Blk.made w 25 #[.slice A0 n0 c0, .slice A1 n1 c1, .slice A2 n2 c2]).alloc (.cells #[.slice none 0 0, .slice none 0 0] 51)).alloc (.cells #[.slice Ac nc cc, .slice none 0 0] 51));have HR1 := Hd ((Blk.made (w.alloc (.cells #[.slice A0 n0 c0, .slice A1 n1 c1, .slice A2 n2 c2] 25)) 51 #[.slice none 0 0, .slice none 0 0]).alloc (.cells #[.slice Ac nc cc, .slice none 0 0] 51));have HW1 := Hd (Blk.made ((w.alloc (.cells #[.slice A0 n0 c0, .slice A1 n1 c1, .slice A2 n2 c2] 25)).alloc (.cells #[.slice none 0 0, .slice none 0 0] 51)) 51 #[.slice Ac nc cc, .slice none 0 0]);simp only [World.size_alloc] at HR1 HW1;go_enter Tryz.func62, Tryz.ntmps62;go_upto_region 2 with (fail)
 generalize (((w.alloc (.cells #[.slice A0 n0 c0, .slice A1 n1 c1, .slice A2 n2 c2] 25)).alloc (.cells #[.slice none 0 0, .slice none 0 0] 51)).alloc (.cells #[.slice Ac nc cc, .slice none 0 0] 51)) = w1 at *;generalize hgw : w.heap.size + 1 + 1 = gw at *;generalize hgr : w.heap.size + 1 = gr at *;generalize hgg : w.heap.size = g at *;have lB := HB1.out.lt;have y0 := HB1.out.at_ 0;have y1 := HB1.out.at_ 1;have y2 := HB1.out.at_ 2;simp at y0 y1 y2;go_wp2_with fail
 refine (HCM.out _ HO1.out).mono ?_;rintro e w2 ⟨VC, ⟨rfl, hc2⟩, O2⟩;obtain ⟨AC, cC, rfl, -, -, -, -⟩ := own_row hc2;have HC2 := Hd (own_low hc2 (show g ≤ w1.heap.size by have := HO1.out.size; omega));have HO2 := Hd (HO1.out.trans O2);have HB2 := Hd (O2.blk HB1.out (by simp));have HR2 := Hd (O2.blk HR1.out (by simp));have HW2 := Hd (O2.blk HW1.out (by simp));clear O2 HO1 HB1 HR1 HW1 hc2 HCM lB y0 y1 y2;have lB := HB2.out.lt;have y0 := HB2.out.at_ 0;have y1 := HB2.out.at_ 1;have y2 := HB2.out.at_ 2;simp at y0 y1 y2;go_wp2_with fail
 refine (HLS.out _ HO2.out).mono ?_;rintro e w3 ⟨VL, ⟨rfl, hl3⟩, O3⟩;obtain ⟨AL, cL, rfl, -, -, -, -⟩ := own_row hl3;have HL3 := Hd (own_low hl3 (show g ≤ w2.heap.size by have := HO2.out.size; omega));have HO3 := Hd (HO2.out.trans O3);have HB3 := Hd (O3.blk HB2.out (by simp));have HR3 := Hd (O3.blk HR2.out (by simp));have HW3 := Hd (O3.blk HW2.out (by simp));have HC3 := Hd (own_only HC2.out O3 (by simp));clear O3 HO2 HB2 HR2 HW2 HC2 hl3 HLS lB y0 y1 y2;go_wp2_with fail
 go_loopw [17] (fun iv wr => ∃ (k : Nat) (V : Value), iv = .int .i64 (k : Int) ∧ k ≤ nl ∧ Hid (wr.ownsRow g 38 2 V k (edgeC ((firstL h c).take k))) ∧ Hid (Blk wr gw 51 #[.slice Ac nc cc, V]) ∧ Hid (Blk wr gr 51 #[.slice none 0 0, .slice none 0 0]) ∧ Hid (wr.ownsRow g 4 1 (.slice AC n2 cC) n2 ((comL h.l c).map Value.bool)) ∧ Hid (wr.ownsRow g 27 2 (.slice AL nl cL) nl (placeC ((lostX h.l).map fun x => ((x.1 : Int), (x.2.1 : Int))))) ∧ Hid (Blk wr g 25 #[.slice A0 n0 c0, .slice A1 n1 c1, .slice A2 n2 c2]) ∧ Hid (Only [] w wr)) (fun iv _ => nl - (intOf iv).toNat)
 case atStart => exact ⟨0, .slice none 0 0, rfl, by omega, Hd (World.ownsRow_nil _ _ _ _), HW3, HR3, HC3, HL3, HB3, HO3⟩
 case round =>
  obtain ⟨k, V, rfl, hk, hV, hW, hR, hC, hL, hB, hO⟩ := hrel;clear HC3 HL3 HB3 HO3 HW3 HR3
  by_cases hlt : k < nl
  ·obtain ⟨x, hx⟩ : ∃ x, (lostX h.l)[k]? = some x := ⟨_, List.getElem?_eq_getElem (by rw [HNL.out]; exact hlt)⟩;obtain ⟨t, ht, ho, -⟩ := lostX_mem hx;have hi2 : x.1 < n2 := by rw [← HN2.out]; exact (List.getElem?_eq_some_iff.1 ht).1
   obtain ⟨b, hb⟩ : ∃ b, (comL h.l c)[x.1]? = some b := ⟨_, List.getElem?_eq_getElem (by rw [comL_len, HN2.out]; exact hi2)⟩;have HTK : Hid ((firstL h c).take (k + 1) = (firstL h c).take k ++ [firstX t x.2.1 x.2.2 b]) := Hd (by
    rw [List.take_add_one, firstL_get hx];unfold firstP atB;rw [ht, List.getD_eq_getElem?_getD, hb]
    rfl)
   have HT := Hd (fun w' (O : Only [] w w') => HTR.out x t b w' ht ho O);obtain ⟨b4, o4, rfl, -, hbr4, hc4⟩ := (own_row_at hL.out).1.open_ (k := k * 2) (by have e := edgeC_len ((lostX h.l).map fun x => ((x.1 : Int), (x.2.1 : Int))); rw [List.length_map, HNL.out] at e; exact Nat.lt_of_lt_of_eq (show k * 2 < nl * 2 by omega) e.symm);have hpl := placeC_at (l := (lostX h.l).map fun x => ((x.1 : Int), (x.2.1 : Int))) (k := k) (x := ((x.1 : Int), (x.2.1 : Int))) (by rw [List.getElem?_map, hx]; rfl);have p0 := hc4 _ _ hpl.1;have p1 := hc4 _ _ hpl.2;rw [← Nat.add_assoc] at p1;obtain ⟨b5, o5, rfl, -, hbr5, hc5⟩ := (own_row_at hC.out).1.open_ (k := x.1) (by rw [List.length_map, comL_len, HN2.out]; exact hi2);have q0 := hc5 x.1 _ (by rw [List.getElem?_map, hb]; rfl);have HQ0 := Hd q0;obtain ⟨i, j, o⟩ := x;dsimp only at *;generalize firstX t j o b = T at *;obtain ⟨T1, T2⟩ := T;unfold agV at HT;dsimp only at HT;obtain ⟨AV, cV, rfl, -, -, -, -⟩ := own_row hV.out;clear hx ht ho hb hc4 hc5 hpl q0;have h01 : (k : Int) < (nl : Int) := by omega
   have hk0 : (0 : Int) ≤ (k : Int) := Int.natCast_nonneg _;have hwk : IntKind.i64.wrap ((k : Int) + 1) = (k : Int) + 1 := IntWalk.i64_in _ (by have := HLN.out; have := HNL.out; omega);go_upto_region 6 with (fail)
   have O4 : Only [] wr (wr.alloc (.cells #[.int .i64 (i : Int), .int .i64 (j : Int)] 27)) := (Only.refl [] wr).alloc _;have HP4 := Hd (Blk.made wr 27 #[.int .i64 (i : Int), .int .i64 (j : Int)]);have HO4 := Hd (hO.out.trans O4);have HB4 := Hd (O4.blk hB.out (by simp));have HR4 := Hd (O4.blk hR.out (by simp));have HW4 := Hd (O4.blk hW.out (by simp));have HV4 := Hd (own_only hV.out O4 (by simp));have HC4 := Hd (own_only hC.out O4 (by simp));have HL4 := Hd (own_only hL.out O4 (by simp));have HQ4 := Hd ((O4.cell (p := ⟨b5, o5 + i, none⟩) hbr5 (by simp)).trans HQ0.out);have hb4 : b5 < (wr.alloc (.cells #[.int .i64 (i : Int), .int .i64 (j : Int)] 27)).heap.size := by have := O4.size; omega
   have hi0 : (0 : Int) ≤ (i : Int) := Int.natCast_nonneg _;have hi3 : (i : Int) < (n2 : Int) := by omega
   have HNH : Hid (g ∉ (Value.slice AV k cV).ownBlock.toList) := Hd (own_apart HV4.out HB4.out (by decide));have HNW : Hid (gw ∉ (Value.slice AV k cV).ownBlock.toList) := Hd (own_apart HV4.out HW4.out (by decide));have HNP : Hid (wr.heap.size ∉ (Value.slice AV k cV).ownBlock.toList) := Hd (own_apart HV4.out HP4.out (by decide));have HNC : Hid (b5 ∉ (Value.slice AV k cV).ownBlock.toList) := Hd (own_two HC4.out HV4.out (by decide) b5 rfl);clear O4 hB hV hR hW hC hL hO HQ0 hbr4 hbr5 p0 p1;generalize (wr.alloc (.cells #[.int .i64 (i : Int), .int .i64 (j : Int)] 27)) = w4 at *;generalize wr.heap.size = gp at *;have RD0 := Hd fun wq (hSw : Only (Value.slice AV k cV).ownBlock.toList w4 wq) => aI (Bk3 (hSw.blk HB4.out HNH.out)) (aI (Bk2 (hSw.blk HP4.out HNP.out)) (aI (Bk1 (hSw.blk HW4.out HNW.out) 1) ((hSw.cell (p := ⟨b5, o5 + i, none⟩) hb4 HNC.out).trans HQ4.out)));refine rgo (F := [⟨[], [13], fun w' => Only (Value.slice AV k cV).ownBlock.toList w4 w'⟩]) (th1 ((Only.refl (Value.slice AV k cV).ownBlock.toList w4).drew)) ?_;have OW : Only [] w4 w4.drew := (Only.refl [] w4).drew;generalize w4.drew = wz at *;refine tQ 0 (h := trq 1 0 RD0 (h := trq 2 0 RD0 (h := trq 3 0 RD0 (h := tQ 4 (h := tQ 5 (h := trq 6 0 RD0 (h := tQ 7 (h := trq 8 0 RD0 (h := ?_)))))))));refine tst (i := 9) fun K hK => ?_;go_simp;refine (HT.out _ (HO4.out.trans OW)).mono ?_;rintro e w5 ⟨rfl, O5⟩;have OW1 := OW.trans O5;clear O5;refine kOut hK (OW1.wide (fun i hi => by cases hi)) (h := ?_);clear hK K;refine tst (i := 10) fun K hK => ?_;go_simp;have OW2 := OW1.alloc (.cells #[.int .i64 T1, .int .i64 T2] 38);have RW2 := row_lit w5 38 #[.int .i64 T1, .int .i64 T2];generalize w5.alloc (.cells #[.int .i64 T1, .int .i64 T2] 38) = w6 at *;generalize w5.heap.size = gl at *;refine kOut hK (OW2.wide (fun i hi => by cases hi)) (h := ?_);clear hK K;refine tst (i := 11) fun K hK => ?_;refine step_append_row _ rfl (.tmp 22) (.tmp 31) 33 rfl g 38 i0 _ 2 16 Tryz.underlying33 hi hz0 hz1 hz2 rfl (by omega) _ k (edgeC ((firstL h c).take k)) (by rfl) (own_only HV4.out OW2 (by simp)) _ (some ⟨gl, 0, none⟩) 1 1 [.int .i64 T1, .int .i64 T2] (by rfl) (by rfl) RW2 (by intro u hu; simp at hu; rcases hu with rfl | rfl <;> rfl) (by have := HLN.out; have := HNL.out; unfold maxLen; omega) (by have := HLN.out; have := HNL.out; omega) (by have := (HO4.out.trans OW2).size; omega) ?_;intro V9 w9 hown9 hgrow9 hat9;obtain ⟨A9, c9, rfl, -, -, -, -⟩ := own_row hown9;have OG : Only (Value.slice AV k cV).ownBlock.toList w6 w9 := only_grown hgrow9;have HV6 := own_only HV4.out OW2 (by simp);have h8 := OW2.blk HW4.out (by simp);have HW9 := OG.blk h8 (own_apart HV6 h8 (by decide));have x1 := HW9.at_ 1;have lX := HW9.lt;have fx := HW9.free 1;simp at x1;refine kOut hK ((OW2.wide (fun i hi => by cases hi)).trans OG) (h := ?_);clear hK K;refine tQ 12 (h := ?_);refine tst (i := 13) fun K hK => ?_;go_simp;skip;refine hK.out _ _ (timed_over (by kernel_rfl) (timed_nil)) ?_;clear hK K;(try simp only [tdz]);refine tdn ?_;have HV9 := own_only hown9 ((Only.refl [gw] w9).put (p := ⟨gw, 1, none⟩) (fun _ => by simp) (.slice A9 (k + 1) c9)) (fun x hx hm => by simp at hm; subst hm; exact own_apart hown9 HW9 (by decide) (by rw [hx]; simp));have O10 : Only [gw] w9 (w9.setCell ⟨gw, 1, none⟩ (.slice A9 (k + 1) c9)) := (Only.refl [gw] w9).put (fun _ => by simp) _;have HW10 : Hid (Blk (w9.setCell ⟨gw, 1, none⟩ (.slice A9 (k + 1) c9)) gw 51 #[.slice Ac nc cc, .slice A9 (k + 1) c9]) := Hd (HW9.put 1 (.slice A9 (k + 1) c9));have h6 := own_only HC4.out OW2 (by simp);have h6b := own_only h6 OG (own_two h6 HV6 (by decide));have HC10 := Hd (owb h6b HW9 O10);have h7 := own_only HL4.out OW2 (by simp);have h7b := own_only h7 OG (own_two h7 HV6 (by decide));have HL10 := Hd (owb h7b HW9 O10);have h5 := OW2.blk HB4.out (by simp);have h5b := OG.blk h5 (own_apart HV6 h5 (by decide));have HB10 := Hd (O10.blk h5b (by simp; omega));have h3 := OW2.blk HR4.out (by simp);have h3b := OG.blk h3 (own_apart HV6 h3 (by decide))
   have HR10 := Hd (O10.blk h3b (by simp; omega));have HO9 := (HO4.out.trans OW2).step OG (fun i hi hl => by have := (HV6.lt i (by simpa using hi)).1; omega);have HO10 := Hd (HO9.step O10 (fun i hi hl => by simp at hi; omega));have HV10 := Hd HV9;rw [show edgeC ((firstL h c).take k) ++ [Value.int .i64 T1, .int .i64 T2] = edgeC ((firstL h c).take (k + 1)) by rw [HTK.out, edgeC_append]; rfl] at HV10;clear HV9 O10 h6 h6b h7 h7b h5 h5b h3 h3b HO9 HB4 HV4 HR4 HW4 HC4 HL4 HO4 OW2 OG hown9 hgrow9 hat9 HQ4 HV6 h8 HW9 x1 lX fx;go_wp2
   go_roundw
   case rel => exact ⟨k + 1, _, by go_num, by omega, HV10, HW10, HR10, HC10, HL10, HB10, HO10⟩
   case measure => simp [intOf]; omega
  ·have hkn : k = nl := by omega
   subst hkn;have hd2 : decide ((k : Int) < (k : Int)) = false := by simp
   rw [List.take_of_length_le (by rw [HAL.out, HNL.out]; omega)] at hV;obtain ⟨AV, cV, rfl, -, -, -, -⟩ := own_row hV.out;have lW := hW.out.lt;have x0 := hW.out.at_ 0;have x1 := hW.out.at_ 1;simp at x0 x1;go_wp2_with (refine wpList_store_blk rfl 51 (.tmp 4) (.tmp 35) rfl gr 51 _ #[.slice Ac nc cc, .slice AV k cV] rfl rfl hR.out rfl (by kernel_rfl) (by kernel_rfl) ?_; intro w9 b9 o9; have HB9 := Hd b9; have HN9 := Hd o9; clear b9 o9)
   have HV9 := owb hV.out hR.out HN9.out;refine bodyPost_ret (results_row1 Tryz.results62 _ _ gr 51 #[.slice Ac nc cc, .slice AV k cV] _ rfl HB9.out Tryz.underlying51 rfl (by kernel_rfl)) rfl ?_;exact ⟨_, ⟨rfl, by rw [hgg]; exact HV9⟩, hO.out.step HN9.out (fun i hi hl => by simp at hi; omega)⟩
structure TrAt (w : World) (gc B nl : Nat) (xs : List SlA) : Prop where
 box : ∃ AV cV, Blk w gc 54 #[.slice AV nl cV] ∧ Row w B AV (xs.map slC)
 len : xs.length = nl
 rows : ∀ x ∈ xs, Row w B x.A (edgeC x.l)
 lt : gc < B
 few : ∀ x ∈ xs, x.l.length ≤ 1000
theorem TrAt.only {w w' : World} {gc B nl : Nat} {xs : List SlA} {S : List Nat} (h : TrAt w gc B nl xs) (ho : Only S w w') (hS : ∀ i ∈ S, B ≤ i) : TrAt w' gc B nl xs := by
 obtain ⟨⟨AV, cV, hb, hr⟩, h2, h3, h4, h5⟩ := h;exact ⟨⟨AV, cV, ho.blk hb (fun hm => by have := hS _ hm; omega), hr.only ho hS⟩, h2, fun x hx => (h3 x hx).only ho hS, h4, h5⟩
theorem nexttr_any (gc B nl : Nat) (xs : List SlA) (i : Nat) (x : SlA) (w : World) (hT : TrAt w gc B nl xs) (hx : xs[i]? = some x) :
  Calls Tryz.prog 63 #[.int .i64 (i : Int), .pointer (some ⟨gc, 0, none⟩)] w fun e w' => e = .returned (slC x) ∧ Only [] w w' := by
 obtain ⟨⟨AV, cV, hb, hr⟩, hl, -, -⟩ := hT;have hi := (List.getElem?_eq_some_iff.1 hx).1;obtain ⟨b, off, rfl, -, hbw, hc⟩ := hr.open_ (k := i) (by rw [List.length_map]; exact hi);have c0 := hc i _ (by rw [List.getElem?_map, hx]; rfl);have lB := hb.lt;have y0 := hb.at_ 0;simp at y0;have hi0 : (0 : Int) ≤ (i : Int) := Int.natCast_nonneg _;have hi1 : (i : Int) < (nl : Int) := by omega
 unfold slC at *;obtain ⟨l, A, cp⟩ := x;dsimp only at *;generalize l.length = m at *;clear hb hr hc hx hl;go_enter Tryz.func63, Tryz.ntmps63;go_wp2
 go_ret
 exact ⟨rfl, Only.refl [] w⟩
def isB (vals : List (List V2)) (l : List V2) : Bool := (l.zip vals).all fun p => decide (p.1 ∈ p.2)
theorem zip_take_succ {l : List V2} {vals : List (List V2)} {k : Nat} {x : V2} {vs : List V2} (hx : l[k]? = some x) (hv : vals[k]? = some vs) : (l.take (k + 1)).zip vals = (l.take k).zip vals ++ [(x, vs)] := by
 induction l generalizing vals k with
 | nil => simp at hx
 | cons y l ih =>
  cases vals with
  | nil => simp at hv
  | cons us vals =>
   cases k with
   | zero =>
    simp at hx hv;simp [hx, hv]
   | succ k =>
    simp only [List.getElem?_cons_succ] at hx hv;simp only [List.take_succ_cons, List.zip_cons_cons, List.cons_append];rw [ih hx hv]
theorem isB_take {vals : List (List V2)} {l : List V2} {k : Nat} {x : V2} {vs : List V2} (hx : l[k]? = some x) (hv : vals[k]? = some vs) : isB vals (l.take (k + 1)) = (isB vals (l.take k) && decide (x ∈ vs)) := by
 unfold isB;rw [zip_take_succ hx hv, List.all_append];simp
theorem isB_iff {vals : List (List V2)} {l : List V2} : isB vals l = true ↔ ∀ (i : Nat) (x : V2) (vs : List V2), l[i]? = some x → vals[i]? = some vs → x ∈ vs := by
 unfold isB;rw [List.all_eq_true]
 constructor
 ·intro h i x vs hx hv;have hm : (x, vs) ∈ l.zip vals := List.mem_of_getElem? (i := i) (by rw [List.getElem?_zip_eq_some]; exact ⟨hx, hv⟩)
  simpa using h _ hm
 ·intro h p hp;obtain ⟨i, hi⟩ := List.mem_iff_getElem?.1 hp;obtain ⟨h1, h2⟩ := List.getElem?_zip_eq_some.1 hi
  simpa using h i _ _ h1 h2
theorem isB_false {vals : List (List V2)} {l : List V2} {k : Nat} {x : V2} {vs : List V2} (hx : l[k]? = some x) (hv : vals[k]? = some vs) (h : ¬ x ∈ vs) : isB vals l = false := by
 cases hb : isB vals l with
 | false => rfl
 | true => exact absurd (isB_iff.1 hb k x vs hx hv) h
theorem vis_any (A : Option Addr) (m c Bl gc B : Nat) (l : List V2) (xs : List SlA) (w : World) (hg : Row w Bl A (edgeC l)) (hm : l.length = m) (hM : m ≤ 100000) (hT : TrAt w gc B m xs) :
  Calls Tryz.prog 64 #[.slice A m c, .func (.func 63) #[] #[.pointer (some ⟨gc, 0, none⟩)]] w fun e w' => e = .returned (.bool (isB (xs.map (fun x => x.l)) l)) ∧ Only [] w w' := by
 have HG := Hd hg;have HM := Hd hm;have HT := Hd hT;clear hg hm hT;go_enter Tryz.func64, Tryz.ntmps64;go_wp2_with fail
 go_loopw [9] (fun iv wr => ∃ k : Nat, iv = .int .i64 (k : Int) ∧ k ≤ m ∧ Hid (isB (xs.map (fun x => x.l)) (l.take k) = true) ∧ Hid (Only [] w wr)) (fun iv _ => m - (intOf iv).toNat)
 case atStart => exact ⟨0, rfl, by omega, Hd rfl, Hd (Only.refl [] w)⟩
 case round =>
  obtain ⟨k, rfl, hk, hn, hO⟩ := hrel
  by_cases hlt : k < m
  ·obtain ⟨u, hu⟩ : ∃ u, l[k]? = some u := ⟨_, List.getElem?_eq_getElem (by rw [HM.out]; exact hlt)⟩;obtain ⟨x, hx⟩ : ∃ x, xs[k]? = some x := ⟨_, List.getElem?_eq_getElem (by rw [HT.out.len]; exact hlt)⟩;have hxm := List.mem_of_getElem? hx;have hv : (xs.map (fun x => x.l))[k]? = some x.l := by rw [List.getElem?_map, hx]; rfl
   have HTK := Hd (isB_take (k := k) hu hv);have HF := Hd (fun h => isB_false hu hv h);have HNX := Hd (fun w' (O : Only [] w w') => nexttr_any gc B m xs k x w' (HT.out.only O (by simp)) hx);have HCO := Hd (fun w' (O : Only [] w w') => vcontains_any x.A x.l.length x.cp B x.l u w' ((HT.out.rows x hxm).only O (by simp)) rfl (Nat.le_trans (HT.out.few x hxm) (by omega)));unfold slC agV at *;obtain ⟨b, off, rfl, hbB, hbw, hc⟩ := (HG.out.only hO.out (by simp)).open_ (k := k * 2) (by rw [edgeC_len, HM.out]; omega);have hE := edgeC_get l k u hu;have c0 := hc _ _ hE.1;have c1 := hc _ _ hE.2;rw [← Nat.add_assoc] at c1;have h01 : (k : Int) < (m : Int) := by omega
   have hk0 : (0 : Int) ≤ (k : Int) := Int.natCast_nonneg _;have hwk : IntKind.i64.wrap ((k : Int) + 1) = (k : Int) + 1 := IntWalk.i64_in _ (by omega);obtain ⟨u1, u2⟩ := u;dsimp only at *;clear hc hE hu hx hv hxm;go_upto_region 4 with (fail)
   have O4 : Only [] wr (wr.alloc (.cells #[.int .i64 u1, .int .i64 u2] 38)) := (Only.refl [] wr).alloc _;have HB4 := Hd (Blk.made wr 38 #[.int .i64 u1, .int .i64 u2]);have HO4 := Hd (hO.out.trans O4);clear O4 c0 c1 hO;generalize (wr.alloc (.cells #[.int .i64 u1, .int .i64 u2] 38)) = w4 at *;generalize wr.heap.size = g4 at *;obtain ⟨d, hd⟩ : ∃ d, d = decide ((u1, u2) ∈ x.l) := ⟨_, rfl⟩;rw [← hd] at HCO HTK;have HD := Hd hd;clear hd;refine rg1 [] [] w4 ?_;have OW : Only [] w4 w4.drew := (Only.refl [] w4).drew;generalize w4.drew = wz at *;refine tQ 0 (h := tQ 1 (h := ?_));refine trd (i := 3) (v := ?_) 0 ?_ ?_;rotate_left
   ·(intro wq hSw; obtain ⟨lb_B, y0, y1⟩ := Bk2 (hSw.blk HB4.out (by simp)); simp at y0 y1; clear hSw; go_simp; try with_reducible rfl)
   (try simp only [tdz]);refine tst (i := 2) fun K hK => ?_;go_simp;refine (HNX.out _ (HO4.out.trans OW)).mono ?_;rintro e w5 ⟨rfl, O5⟩;have OW1 := OW.trans O5;clear O5;refine kOut hK (OW1) (h := ?_);clear hK K;refine tst (i := 4) fun K hK => ?_;go_simp;refine (HCO.out _ (HO4.out.trans OW1)).mono ?_;rintro e w6 ⟨rfl, O6⟩;have OW2 := OW1.trans O6;clear O6;refine kOut hK (OW2) (h := ?_);clear hK K;refine tQ 5 (h := ?_);refine tdn ?_;have HO6 := Hd (HO4.out.trans OW2);clear OW OW1 OW2 HO4 HB4 HNX HCO
   cases d with
   | true =>
    have HN := Hd (HTK.out.trans (by rw [hn.out]));clear hn HTK HF;go_wp2
    go_roundw
    case rel => exact ⟨k + 1, by go_num, by omega, HN, HO6⟩
    case measure => simp [intOf]; omega
   | false =>
    have HE := Hd (HF.out (of_decide_eq_false HD.out.symm));clear hn HTK HF;go_wp2
    go_ret
    exact ⟨by rw [HE.out]; rfl, HO6.out⟩
  ·have hkm : k = m := by omega
   subst hkm;have hd2 : decide ((k : Int) < (k : Int)) = false := by simp
   rw [List.take_of_length_le (by rw [HM.out]; omega)] at hn;go_wp2
   go_ret
   exact ⟨by rw [hn.out]; rfl, hO.out⟩
end Go.Proofs.YtjfbeeogiejopaaGreatDoor
namespace Go.Proofs.YtjfbeeogiejopaaGreatDoor
open Go.RowKit
section
variable {w : World} {base : Nat} {e : TypeId} {size : Nat} {v : Value} {n : Nat} {xs : List Value} {g : Nat}
theorem own_there (h : w.ownsRow base e size v n xs) (hg : v.ownBlock = some g) {o k : Nat} (hk : o + k ≤ xs.length) : w.there g o k := fun j hj => by
 have := own_cell h hg (List.getElem?_eq_getElem (i := o + j) (by omega));exact ⟨by rw [this.1]; rfl, this.2⟩
theorem own_set2 (h : w.ownsRow base e size v n xs) (hg : v.ownBlock = some g) {o : Nat} (hk : o + 2 ≤ xs.length) (a b : Value) :
  (w.setCells g o [a, b]).ownsRow base e size v n ((xs.set o a).set (o + 1) b) :=
 own_set (own_set h hg (by omega) a) hg (by rw [List.length_set]; omega) b
end
end Go.Proofs.YtjfbeeogiejopaaGreatDoor
