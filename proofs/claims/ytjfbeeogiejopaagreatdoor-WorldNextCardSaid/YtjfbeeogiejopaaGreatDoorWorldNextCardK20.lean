/- Parts. -/
import Derived.Test.YtjfbeeogiejopaaGreatDoorWorldNextCardK19
set_option maxRecDepth 10000
set_option maxHeartbeats 16000000
set_option linter.unusedVariables false
set_option linter.unusedSimpArgs false
namespace Go.Proofs.YtjfbeeogiejopaaGreatDoor
open Go.RowKit
open Go.Lib hiding intOf
attribute [local go_sem ↓] Go.wp_at_zero Go.wp_at_succ
structure SlA where
 l : List V2
 A : Option Addr
 cp : Nat
def slC (x : SlA) : Value := .slice x.A x.l.length x.cp
def VVown (w : World) (B : Nat) (xs : List SlA) : Prop := ∀ x ∈ xs, w.ownsRow B 38 2 (slC x) x.l.length (edgeC x.l)
theorem VVown.only {w w' : World} {B : Nat} {xs : List SlA} {S : List Nat} (h : VVown w B xs) (ho : Only S w w') (hS : ∀ x ∈ xs, ∀ g, (slC x).ownBlock = some g → g ∉ S) : VVown w' B xs :=
 fun x hx => own_only (h x hx) ho (hS x hx)
theorem VVown.same {w w' : World} {B : Nat} {xs : List SlA} (h : VVown w B xs) (ho : Only [] w w') : VVown w' B xs := h.only ho (fun _ _ _ _ => by simp)
theorem info_vsl : (Tryz.prog.info? 33).map (fun i => (i.zero, i.size, i.bytes)) = some (some (.slice none 0 0), 1, 24) := by kernel_rfl
theorem allT_get {h : Hst} {c : List Bool} {k : Nat} {x : Pl} (hx : (lostX h.l)[k]? = some x) : (allT h c)[k]? = some (triesX h (atB (comL h.l c) x.1) x) := by
 unfold allT;rw [List.getElem?_map, hx]
 rfl
theorem lostX_mem {l : List Tx} {k : Nat} {x : Pl} (hx : (lostX l)[k]? = some x) : ∃ t, l[x.1]? = some t ∧ t.ops[x.2.1]? = some x.2.2 ∧ x.2.2.vk = 2 := by
 have hm := List.mem_filter.1 (List.mem_of_getElem? hx);obtain ⟨t, h1, h2⟩ := pls_mem hm.1;exact ⟨t, h1, h2, by simpa using hm.2⟩
theorem lostX_len {l : List Tx} (h : l.length ≤ 40) (ho : ∀ t ∈ l, t.ops.length ≤ 20) : (lostX l).length ≤ 40000 := by
 unfold lostX;have h1 := List.length_filter_le (fun x : Pl => decide (x.2.2.vk = 2)) (plsL l);have h2 := plsL_len l (fun t ht => Nat.le_trans (ho t ht) (by omega));have h3 : l.length * 1000 ≤ 40 * 1000 := Nat.mul_le_mul_right _ h;omega
theorem placeC_at {l : List (Int × Int)} {k : Nat} {x : Int × Int} (h : l[k]? = some x) : (placeC l)[k * 2]? = some (.int .i64 x.1) ∧ (placeC l)[k * 2 + 1]? = some (.int .i64 x.2) := edgeC_get l k x h
theorem walltries_any (A0 A1 A2 Ac : Option Addr) (n0 n1 n2 nc c0 c1 c2 cc B Bc : Nat) (h : Hst) (c : List Bool) (w : World) (hg : HIn w B A0 A1 A2 n0 n1 n2 h) (hm : mayH h = true) (hI : HInt h) (hc : Row w Bc Ac (c.map Value.bool)) (hcl : c.length = nc) (hci : (whichL infoB h.l).length = nc) :
  Calls Tryz.prog 56 #[hval A0 A1 A2 n0 n1 n2 c0 c1 c2, .slice Ac nc cc] w fun e w' => ∃ V, (∃ xs : List SlA, e = .returned V ∧ xs.map (fun x => x.l) = allT h c ∧ w'.ownsRow w.heap.size 33 1 V (allT h c).length (xs.map slC) ∧ VVown w' w.heap.size xs) ∧ Only [] w w' := by
 obtain ⟨i0, hi, hz0, hz1, hz2⟩ := info_parts info_vsl;have hn2 : n2 ≤ 40 := by rw [← hg.n2]; exact (may_ops hm).1
 have HCM := Hd (fun w' (O : Only [] w w') => wcommitted_any A0 A1 A2 Ac n0 n1 n2 nc c0 c1 c2 cc B Bc h c w' (hg.same O) (hc.only O (by simp)) hcl hci);have HLS := Hd (fun w' (O : Only [] w w') => klost_any A0 A1 A2 n0 n1 n2 c0 c1 c2 B h w' (hg.same O).at_.r2 hg.n2 (by omega) (fun t ht => Nat.le_trans ((may_ops hm).2.1 t ht) (by omega)));have HTR := Hd (fun (x : Pl) (t : Tx) (b : Bool) w' (hx : h.l[x.1]? = some t) (ho : t.ops[x.2.1]? = some x.2.2) (O : Only [] w w') => wtries_any A0 A1 A2 n0 n1 n2 c0 c1 c2 B h x.1 x.2.1 t x.2.2 b w' (hg.same O) hm hI hx ho);have HLN := Hd (lostX_len (may_ops hm).1 (may_ops hm).2.1);have HN2 := Hd hg.n2;have HAL := Hd (allT_len h c);rw [lostP_eq] at HLS;obtain ⟨nl, hnl⟩ : ∃ nl, (lostX h.l).length = nl := ⟨_, rfl⟩;have HNL := Hd hnl;rw [List.length_map, hnl] at HLS;rw [allT_len, hnl];unfold hval at *;clear hg hm hI hc hnl;have HO1 := Hd ((Only.refl [] w).alloc (.cells #[.slice A0 n0 c0, .slice A1 n1 c1, .slice A2 n2 c2] 25));have HB1 := Hd (Blk.made w 25 #[.slice A0 n0 c0, .slice A1 n1 c1, .slice A2 n2 c2]);go_enter Tryz.func56, Tryz.ntmps56;go_upto_region 1 with (fail)
 generalize (w.alloc (.cells #[.slice A0 n0 c0, .slice A1 n1 c1, .slice A2 n2 c2] 25)) = w1 at *;generalize hgg : w.heap.size = g at *;have lB := HB1.out.lt;have y0 := HB1.out.at_ 0;have y1 := HB1.out.at_ 1;have y2 := HB1.out.at_ 2;simp at y0 y1 y2;go_wp2_with fail
 refine (HCM.out _ HO1.out).mono ?_;rintro e w2 ⟨VC, ⟨rfl, hc2⟩, O2⟩;obtain ⟨AC, cC, rfl, -, -, -, -⟩ := own_row hc2;have HC2 := Hd (own_low hc2 (show g ≤ w1.heap.size by have := HO1.out.size; omega));have HO2 := Hd (HO1.out.trans O2);have HB2 := Hd (O2.blk HB1.out (by simp));clear O2 HO1 HB1 hc2 HCM lB y0 y1 y2;have lB := HB2.out.lt;have y0 := HB2.out.at_ 0;have y1 := HB2.out.at_ 1;have y2 := HB2.out.at_ 2;simp at y0 y1 y2;go_wp2_with fail
 refine (HLS.out _ HO2.out).mono ?_;rintro e w3 ⟨VL, ⟨rfl, hl3⟩, O3⟩;obtain ⟨AL, cL, rfl, -, -, -, -⟩ := own_row hl3;have HL3 := Hd (own_low hl3 (show g ≤ w2.heap.size by have := HO2.out.size; omega));have HO3 := Hd (HO2.out.trans O3);have HB3 := Hd (O3.blk HB2.out (by simp));have HC3 := Hd (own_only HC2.out O3 (by simp));clear O3 HO2 HB2 HC2 hl3 HLS lB y0 y1 y2;go_wp2_with fail
 go_loopw [6, 15] (fun V iv wr => ∃ (k : Nat) (xs : List SlA), iv = .int .i64 (k : Int) ∧ k ≤ nl ∧ Hid (xs.map (fun x => x.l) = (allT h c).take k) ∧ Hid (wr.ownsRow g 33 1 V k (xs.map slC)) ∧ Hid (VVown wr g xs) ∧ Hid (wr.ownsRow g 4 1 (.slice AC n2 cC) n2 ((comL h.l c).map Value.bool)) ∧ Hid (wr.ownsRow g 27 2 (.slice AL nl cL) nl (placeC ((lostX h.l).map fun x => ((x.1 : Int), (x.2.1 : Int))))) ∧ Hid (Blk wr g 25 #[.slice A0 n0 c0, .slice A1 n1 c1, .slice A2 n2 c2]) ∧ Hid (Only [] w wr)) (fun _ iv _ => nl - (intOf iv).toNat)
 case atStart => exact ⟨0, [], rfl, by omega, Hd rfl, Hd (World.ownsRow_nil _ _ _ _), Hd (fun x hx => by cases hx), HC3, HL3, HB3, HO3⟩
 case round =>
  obtain ⟨k, xs, rfl, hk, hxs, hV, hX, hC, hL, hB, hO⟩ := hrel;clear HC3 HL3 HB3 HO3
  by_cases hlt : k < nl
  ·obtain ⟨x, hx⟩ : ∃ x, (lostX h.l)[k]? = some x := ⟨_, List.getElem?_eq_getElem (by rw [HNL.out]; exact hlt)⟩;obtain ⟨t, ht, ho, -⟩ := lostX_mem hx;have hi2 : x.1 < n2 := by rw [← HN2.out]; exact (List.getElem?_eq_some_iff.1 ht).1
   obtain ⟨b, hb⟩ : ∃ b, (comL h.l c)[x.1]? = some b := ⟨_, List.getElem?_eq_getElem (by rw [comL_len, HN2.out]; exact hi2)⟩;have HTK : Hid ((allT h c).take (k + 1) = (allT h c).take k ++ [triesO h x.1 t x.2.1 x.2.2 b]) := Hd (by
    rw [List.take_add_one, allT_get hx];unfold triesX atB;rw [ht, List.getD_eq_getElem?_getD, hb]
    rfl)
   have HT := Hd (fun w' (O : Only [] w w') => HTR.out x t b w' ht ho O);obtain ⟨b4, o4, rfl, -, hbr4, hc4⟩ := (own_row_at hL.out).1.open_ (k := k * 2) (by have e := edgeC_len ((lostX h.l).map fun x => ((x.1 : Int), (x.2.1 : Int))); rw [List.length_map, HNL.out] at e; exact Nat.lt_of_lt_of_eq (show k * 2 < nl * 2 by omega) e.symm);have hpl := placeC_at (l := (lostX h.l).map fun x => ((x.1 : Int), (x.2.1 : Int))) (k := k) (x := ((x.1 : Int), (x.2.1 : Int))) (by rw [List.getElem?_map, hx]; rfl);have p0 := hc4 _ _ hpl.1;have p1 := hc4 _ _ hpl.2;rw [← Nat.add_assoc] at p1;obtain ⟨b5, o5, rfl, -, hbr5, hc5⟩ := (own_row_at hC.out).1.open_ (k := x.1) (by rw [List.length_map, comL_len, HN2.out]; exact hi2);have q0 := hc5 x.1 _ (by rw [List.getElem?_map, hb]; rfl);have HQ0 := Hd q0;obtain ⟨i, j, o⟩ := x;dsimp only at *;generalize triesO h i t j o b = T at *;clear hx ht ho hb hc4 hc5 hpl q0;have h01 : (k : Int) < (nl : Int) := by omega
   have hk0 : (0 : Int) ≤ (k : Int) := Int.natCast_nonneg _;have hwk : IntKind.i64.wrap ((k : Int) + 1) = (k : Int) + 1 := IntWalk.i64_in _ (by have := HLN.out; have := HNL.out; omega);go_upto_region 6 with (fail)
   have O4 : Only [] wr (wr.alloc (.cells #[.int .i64 (i : Int), .int .i64 (j : Int)] 27)) := (Only.refl [] wr).alloc _;have HP4 := Hd (Blk.made wr 27 #[.int .i64 (i : Int), .int .i64 (j : Int)]);have HO4 := Hd (hO.out.trans O4);have HB4 := Hd (O4.blk hB.out (by simp));have HV4 := Hd (own_only hV.out O4 (by simp));have HX4 := Hd (hX.out.same O4);have HC4 := Hd (own_only hC.out O4 (by simp));have HL4 := Hd (own_only hL.out O4 (by simp));have HQ4 := Hd ((O4.cell (p := ⟨b5, o5 + i, none⟩) hbr5 (by simp)).trans HQ0.out);have hb4 : b5 < (wr.alloc (.cells #[.int .i64 (i : Int), .int .i64 (j : Int)] 27)).heap.size := by have := O4.size; omega
   have hi0 : (0 : Int) ≤ (i : Int) := Int.natCast_nonneg _;have hi3 : (i : Int) < (n2 : Int) := by omega
   have HNH : Hid (g ∉ u6.ownBlock.toList) := Hd (own_apart HV4.out HB4.out (by decide));have HNP : Hid (wr.heap.size ∉ u6.ownBlock.toList) := Hd (own_apart HV4.out HP4.out (by decide));have HNC : Hid (b5 ∉ u6.ownBlock.toList) := Hd (own_two HC4.out HV4.out (by decide) b5 rfl);clear O4 hB hV hX hC hL hO HQ0 hbr4 hbr5 p0 p1;generalize (wr.alloc (.cells #[.int .i64 (i : Int), .int .i64 (j : Int)] 27)) = w4 at *;generalize wr.heap.size = gp at *;have RD0 := Hd fun wq (hSw : Only u6.ownBlock.toList w4 wq) => aI (Bk3 (hSw.blk HB4.out HNH.out)) (aI (Bk2 (hSw.blk HP4.out HNP.out)) ((hSw.cell (p := ⟨b5, o5 + i, none⟩) hb4 HNC.out).trans HQ4.out));refine rg1 [] u6.ownBlock.toList w4 ?_;have OW : Only [] w4 w4.drew := (Only.refl [] w4).drew;generalize w4.drew = wz at *;refine tQ 0 (h := trq 1 0 RD0 (h := trq 2 0 RD0 (h := tQ 3 (h := tQ 4 (h := trq 5 0 RD0 (h := tQ 6 (h := trq 7 0 RD0 (h := ?_))))))));refine tst (i := 8) fun K hK => ?_;go_simp;refine (HT.out _ (HO4.out.trans OW)).mono ?_;rintro e w5 ⟨VT, ⟨rfl, hT5⟩, O5⟩;obtain ⟨AT, cT, rfl, -, -, -, -⟩ := own_row hT5;have OW1 := OW.trans O5;have OT1 := own_low hT5 (show g ≤ wz.heap.size from by have := (HO4.out.trans OW).size; omega);clear O5 hT5;refine kOut hK (OW1.wide (fun i hi => by cases hi)) (h := ?_);clear hK K;refine tst (i := 9) fun K hK => ?_;go_simp;have OW2 := OW1.alloc (.cells #[.slice AT T.length cT] 33);have RW2 := row_lit w5 33 #[.slice AT T.length cT];have OT2 := own_only OT1 ((Only.refl [] w5).alloc (.cells #[.slice AT T.length cT] 33)) (by simp);generalize w5.alloc (.cells #[.slice AT T.length cT] 33) = w6 at *;generalize w5.heap.size = gl at *;refine kOut hK (OW2.wide (fun i hi => by cases hi)) (h := ?_);clear hK K;refine tst (i := 10) fun K hK => ?_;refine step_append_row _ rfl (.tmp 19) (.tmp 28) 54 rfl g 33 i0 _ 1 24 Tryz.underlying54 hi hz0 hz1 hz2 rfl (by omega) u6 k (xs.map slC) (by rfl) (own_only HV4.out OW2 (by simp)) _ (some ⟨gl, 0, none⟩) 1 1 [.slice AT T.length cT] (by rfl) (by rfl) RW2 (by intro u hu; simp at hu; subst hu; rfl) (by have := HLN.out; have := HNL.out; unfold maxLen; omega) (by have := HLN.out; have := HNL.out; omega) (by have := (HO4.out.trans OW2).size; omega) ?_;intro V9 w9 hown9 hgrow9 hat9;have OG : Only u6.ownBlock.toList w6 w9 := only_grown hgrow9;refine kOut hK ((OW2.wide (fun i hi => by cases hi)).trans OG) (h := ?_);clear hK K;refine tQ 11 (h := ?_);refine tdn ?_;have HV6 := own_only HV4.out OW2 (by simp);have HV9 := Hd hown9;have HX9 : Hid (VVown w9 g (xs ++ [⟨T, AT, cT⟩])) := Hd (by
    intro x hx;rcases List.mem_append.1 hx with hx | hx
    ·have h1 := (HX4.out.same OW2) x hx;exact own_only h1 OG (own_two h1 HV6 (by decide))
    ·have e : x = ⟨T, AT, cT⟩ := by simpa using hx
     subst e;exact own_only OT2 OG (own_two OT2 HV6 (by decide)))
   have h6 := own_only HC4.out OW2 (by simp);have HC9 := Hd (own_only h6 OG (own_two h6 HV6 (by decide)));have h7 := own_only HL4.out OW2 (by simp);have HL9 := Hd (own_only h7 OG (own_two h7 HV6 (by decide)));have h8 := OW2.blk HB4.out (by simp);have HB9 := Hd (OG.blk h8 (own_apart HV6 h8 (by decide)));have HO9 := Hd ((HO4.out.trans OW2).step OG (fun i hi hl => by have := (HV6.lt i (by simpa using hi)).1; omega));have HXS : Hid ((xs ++ [(⟨T, AT, cT⟩ : SlA)]).map (fun x => x.l) = (allT h c).take (k + 1)) := Hd (by rw [HTK.out, List.map_append, hxs.out]; rfl);rw [show xs.map slC ++ [Value.slice AT T.length cT] = (xs ++ [(⟨T, AT, cT⟩ : SlA)]).map slC by rw [List.map_append]; rfl] at HV9;clear HV6 h6 h7 h8 HB4 HV4 HX4 HC4 HL4 HO4 OT2 OW2 OG hown9 hgrow9 hat9 HQ4 hxs;go_wp2
   go_roundw
   case rel => exact ⟨k + 1, _, by go_num, by omega, HXS, HV9, HX9, HC9, HL9, HB9, HO9⟩
   case measure => simp [intOf]; omega
  ·have hkn : k = nl := by omega
   subst hkn;have hd2 : decide ((k : Int) < (k : Int)) = false := by simp
   rw [List.take_of_length_le (by rw [HAL.out, HNL.out]; omega)] at hxs;go_wp2
   go_ret
   exact ⟨_, ⟨xs, rfl, hxs.out, by rw [hgg]; exact hV.out, by rw [hgg]; exact hX.out⟩, hO.out⟩
theorem mayone_any (v : V2) (w : World) : Calls Tryz.prog 60 #[agV v] w fun e w' => e = .returned (.bool (!okV v)) ∧ Only [] w w' := by
 obtain ⟨v1, v2⟩ := v;unfold agV;dsimp only;have HO := Hd ((Only.refl [] w).alloc (.cells #[.int .i64 v1, .int .i64 v2] 38));have hcase : (v1 = 1 ∧ okV (v1, v2) = true) ∨ (v1 ≠ 1 ∧ (v1 == 1) = false ∧ ((v1 = 0 ∧ v2 = 0 ∧ okV (v1, v2) = true) ∨ (okV (v1, v2) = false ∧ ((v1 == 0) = false ∨ ((v1 == 0) = true ∧ (v2 == 0) = false))))) := by
  unfold okV
  by_cases h1 : v1 = 1
  ·exact .inl ⟨h1, by simp [h1]⟩
  ·refine .inr ⟨h1, by simp [h1], ?_⟩
   by_cases h0 : v1 = 0
   ·by_cases h2 : v2 = 0
    ·exact .inl ⟨h0, h2, by simp [h0, h2]⟩
    ·exact .inr ⟨by simp [h0, h2], .inr ⟨by simp [h0], by simp [h2]⟩⟩
   ·exact .inr ⟨by simp [h0, h1], .inl (by simp [h0])⟩
 rcases hcase with ⟨rfl, ho⟩ | ⟨h1, hb, ⟨rfl, rfl, ho⟩ | ⟨ho, hb0 | ⟨hb0, hb1⟩⟩⟩
 all_goals
  rw [ho];have HH := Hd ho;clear ho;go_enter Tryz.func60, Tryz.ntmps60;go_wp2
  go_ret
  first | exact ⟨rfl, HO.out⟩ | exact ⟨by show Ending.returned (Value.bool (v1 != 1)) = Ending.returned (Value.bool true); rw [show (v1 != 1) = true by simp [bne, hb]], HO.out⟩
theorem anyE_take {l : List V2} {k : Nat} {v : V2} (h : l[k]? = some v) : (l.take (k + 1)).any (fun v => !okV v) = ((l.take k).any (fun v => !okV v) || !okV v) := by
 rw [List.take_add_one, h, List.any_append];simp
theorem anyE_true {l : List V2} {k : Nat} {v : V2} (h : l[k]? = some v) (hv : okV v = false) : l.any (fun v => !okV v) = true := by
 rw [List.any_eq_true];exact ⟨v, List.mem_of_getElem? h, by rw [hv]; rfl⟩
theorem indexf_any (A : Option Addr) (m c B : Nat) (l : List V2) (w : World) (hg : Row w B A (edgeC l)) (hm : l.length = m) (hM : m ≤ 100000) :
  Calls Tryz.prog 86 #[.slice A m c, .func (.func 60) #[] #[]] w fun e w' => ∃ r : Int, (e = .returned (.int .i64 r) ∧ decide (0 ≤ r) = l.any (fun v => !okV v)) ∧ Only [] w w' := by
 have HG := Hd hg;have HM := Hd hm;have HY := Hd (fun v w' => mayone_any v w');clear hg hm;go_enter Tryz.func86, Tryz.ntmps86;go_wp2_with fail
 go_loopw [8] (fun iv wr => ∃ k : Nat, iv = .int .i64 (k : Int) ∧ k ≤ m ∧ Hid ((l.take k).any (fun v => !okV v) = false) ∧ Hid (Only [] w wr)) (fun iv _ => m - (intOf iv).toNat)
 case atStart => exact ⟨0, rfl, by omega, Hd rfl, Hd (Only.refl [] w)⟩
 case round =>
  obtain ⟨k, rfl, hk, hn, hO⟩ := hrel
  by_cases hlt : k < m
  ·obtain ⟨u, hu⟩ : ∃ u, l[k]? = some u := ⟨_, List.getElem?_eq_getElem (by rw [HM.out]; exact hlt)⟩;obtain ⟨b, off, rfl, hbB, hbw, hc⟩ := (HG.out.only hO.out (by simp)).open_ (k := k * 2) (by rw [edgeC_len, HM.out]; omega);have hE := edgeC_get l k u hu;have c0 := hc _ _ hE.1;have c1 := hc _ _ hE.2;rw [← Nat.add_assoc] at c1;have h01 : (k : Int) < (m : Int) := by omega
   have hk0 : (0 : Int) ≤ (k : Int) := Int.natCast_nonneg _;have hwk : IntKind.i64.wrap ((k : Int) + 1) = (k : Int) + 1 := IntWalk.i64_in _ (by omega);have HTK := Hd (anyE_take hu);have HTT := Hd (fun h => anyE_true hu h);have HYU := Hd (fun w' => HY.out u w');obtain ⟨d, hd⟩ : ∃ d, d = okV u := ⟨_, rfl⟩;rw [← hd] at HTK HTT HYU;unfold agV at HYU;obtain ⟨u1, u2⟩ := u;dsimp only at *;clear hc hE hu hd;go_wp2_with fail
   refine (HYU.out _).mono ?_;rintro e w2 ⟨rfl, O2⟩;have HO2 := Hd (hO.out.trans O2);clear O2 hO c0 c1 HYU
   cases d with
   | true =>
    have HN := Hd (HTK.out.trans (by rw [hn.out]));clear HTK HTT hn;go_wp2
    go_roundw
    case rel => exact ⟨k + 1, by go_num, by omega, HN, HO2⟩
    case measure => simp [intOf]; omega
   | false =>
    have HE := Hd (HTT.out rfl);clear HTK HTT hn;go_wp2
    go_ret
    exact ⟨(k : Int), ⟨rfl, by rw [HE.out]; simp⟩, HO2.out⟩
  ·have hkm : k = m := by omega
   subst hkm;have hd2 : decide ((k : Int) < (k : Int)) = false := by simp
   rw [List.take_of_length_le (by rw [HM.out]; omega)] at hn;go_wp2
   go_ret
   exact ⟨-1, ⟨rfl, by rw [hn.out]; rfl⟩, hO.out⟩
theorem containsf_any (A : Option Addr) (m c B : Nat) (l : List V2) (w : World) (hg : Row w B A (edgeC l)) (hm : l.length = m) (hM : m ≤ 100000) :
  Calls Tryz.prog 59 #[.slice A m c, .func (.func 60) #[] #[]] w fun e w' => e = .returned (.bool (l.any (fun v => !okV v))) ∧ Only [] w w' := by
 have HX := Hd (fun w' (O : Only [] w w') => indexf_any A m c B l w' (hg.only O (by simp)) hm hM);generalize l.any (fun v => !okV v) = q at *;clear hg hm;go_enter Tryz.func59, Tryz.ntmps59;go_wp2_with fail
 refine (HX.out _ (Only.refl [] w)).mono ?_;rintro e w2 ⟨r, ⟨rfl, hr⟩, O2⟩;have HR := Hd hr;have HO := Hd O2;clear hr O2 HX;go_wp2
 go_ret
 exact ⟨by rw [← HR.out]; rfl, HO.out⟩
theorem mayW_a {h : Hst} {x : Wld} (hm : mayH h = false) : mayW h x = false := by unfold mayW; rw [hm]; rfl
theorem mayW_b {h : Hst} {x : Wld} (hm : x.c.length ≠ (whichL infoB h.l).length) : mayW h x = false := by unfold mayW; rw [decide_eq_false hm, Bool.false_and, Bool.and_false]
theorem mayW_c {h : Hst} {x : Wld} (hm : x.l.length ≠ (lostX h.l).length) : mayW h x = false := by unfold mayW; rw [decide_eq_false hm, Bool.false_and, Bool.and_false, Bool.and_false]
theorem mayW_d {h : Hst} {x : Wld} (hm : mayH h = true) (h1 : x.c.length = (whichL infoB h.l).length) (h2 : x.l.length = (lostX h.l).length) : mayW h x = !(x.l.any (fun v => !okV v)) := by
 unfold mayW;rw [hm, decide_eq_true h1, decide_eq_true h2, Bool.true_and, Bool.true_and, Bool.true_and]
 induction x.l with
 | nil => rfl
 | cons v l ih => rw [List.all_cons, List.any_cons, ih]; simp
theorem wmay_any (A0 A1 A2 Ac Al : Option Addr) (n0 n1 n2 nc nl c0 c1 c2 cc cl B Bl : Nat) (h : Hst) (x : Wld) (w : World) (hg : HIn w B A0 A1 A2 n0 n1 n2 h) (hl : Row w Bl Al (edgeC x.l)) (hcl : x.c.length = nc) (hll : x.l.length = nl) (hM : nl ≤ 100000) :
  Calls Tryz.prog 26 #[hval A0 A1 A2 n0 n1 n2 c0 c1 c2, .agg #[.slice Ac nc cc, .slice Al nl cl]] w fun e w' => e = .returned (.bool (mayW h x)) ∧ Only [] w w' := by
 have HMY := Hd (fun w' (O : Only [] w w') => hmay_any A0 A1 A2 n0 n1 n2 c0 c1 c2 B h w' (hg.same O));have HIN := Hd (fun w' (O : Only [] w w') => kinfos_any A0 A1 A2 n0 n1 n2 c0 c1 c2 B h w' (hg.same O).at_.r2 hg.n2 (by have := hg.sm.nl; rw [hg.n2] at this; exact this));have HLS := Hd (fun w' (O : Only [] w w') => klost_any A0 A1 A2 n0 n1 n2 c0 c1 c2 B h w' (hg.same O).at_.r2 hg.n2 (by have := hg.sm.nl; rw [hg.n2] at this; exact this) hg.sm.no);have HCF := Hd (fun w' (O : Only [] w w') => containsf_any Al nl cl Bl x.l w' (hl.only O (by simp)) hll hM);rw [lostP_eq] at HLS;have HA := Hd (fun hm => mayW_a (h := h) (x := x) hm);have HB := Hd (fun hm => mayW_b (h := h) (x := x) hm);have HC := Hd (fun hm => mayW_c (h := h) (x := x) hm);have HD := Hd (fun hm h1 h2 => mayW_d (h := h) (x := x) hm h1 h2);rw [hcl] at HB HD;rw [hll] at HC HD;rw [List.length_map] at HLS;unfold infoB at HB HD;obtain ⟨ni, hni⟩ : ∃ ni, (whichL (fun t : Tx => decide (t.f = 3)) h.l).length = ni := ⟨_, rfl⟩;obtain ⟨no, hno⟩ : ∃ no, (lostX h.l).length = no := ⟨_, rfl⟩;rw [hni] at HB HD HIN;rw [hno] at HC HD HLS;generalize mayW h x = q at *;generalize x.l.any (fun v => !okV v) = qq at *;unfold hval at *;clear hg hl hcl hll hni hno;have HO1 := Hd (((Only.refl [] w).alloc (.cells #[.slice A0 n0 c0, .slice A1 n1 c1, .slice A2 n2 c2] 25)).alloc (.cells #[.slice Ac nc cc, .slice Al nl cl] 51));have HB1 := Hd ((Blk.made w 25 #[.slice A0 n0 c0, .slice A1 n1 c1, .slice A2 n2 c2]).alloc (.cells #[.slice Ac nc cc, .slice Al nl cl] 51));have HW1 := Hd (Blk.made (w.alloc (.cells #[.slice A0 n0 c0, .slice A1 n1 c1, .slice A2 n2 c2] 25)) 51 #[.slice Ac nc cc, .slice Al nl cl]);simp only [World.size_alloc] at HW1
 cases hm : mayH h with
 | false =>
  have HE := Hd (HA.out hm);rw [errH_not hm] at HMY;clear HA HB HC HD HIN HLS HCF hm;go_enter Tryz.func26, Tryz.ntmps26;go_upto_region 1 with (fail)
  generalize ((w.alloc (.cells #[.slice A0 n0 c0, .slice A1 n1 c1, .slice A2 n2 c2] 25)).alloc (.cells #[.slice Ac nc cc, .slice Al nl cl] 51)) = w1 at *;generalize w.heap.size = g at *;refine rg1 [] [] w1 ?_;have OW : Only [] w1 w1.drew := (Only.refl [] w1).drew;generalize w1.drew = wz at *;refine trd (i := 0) (v := ?_) 0 ?_ ?_;rotate_left
  ·(intro wq hSw; obtain ⟨lb_H, y0, y1, y2⟩ := Bk3 (hSw.blk HB1.out (by simp)); simp at y0 y1 y2; obtain ⟨lb_W, x0, x1⟩ := Bk2 (hSw.blk HW1.out (by simp)); simp at x0 x1; clear hSw; go_simp; try with_reducible rfl)
  (try simp only [tdz]);refine tst (i := 1) fun K hK => ?_;go_simp;refine (HMY.out _ (HO1.out.trans OW)).mono ?_;rintro e wa ⟨rfl, Oa⟩;have OW1 := OW.trans Oa;clear Oa;refine kOut hK (OW1) (h := ?_);clear hK K;refine tQ 2 (h := tQ 3 (h := tiq 4 (h := tiq 5 (h := tiq 6 (h := tiq 7 (h := tiq 8 (h := tiq 9 (h := tiq 10 (h := tQ 11 (h := tQ 12 (h := tiq 13 (h := tiq 14 (h := tiq 15 (h := tiq 16 (h := tiq 17 (h := tiq 18 (h := tiq 19 (h := tQ 20 (h := tQ 21 (h := tiq 22 (h := tiq 23 (h := tiq 24 (h := tiq 25 (h := tQ 26 (h := tQ 27 (h := ?_))))))))))))))))))))))))));refine tdn ?_;have HO2 := Hd (HO1.out.trans OW1);go_wp2
  go_ret
  exact ⟨by rw [HE.out]; rfl, HO2.out⟩
 | true =>
  rw [errH_yes hm] at HMY;have HDD := Hd (fun h1 h2 => HD.out hm h1 h2);clear HA HD hm
  by_cases hc : nc = ni
  ·subst hc
   by_cases hl : nl = no
   ·subst hl;have HE := Hd (HDD.out rfl rfl);clear HDD HB HC;go_enter Tryz.func26, Tryz.ntmps26;go_upto_region 1 with (fail)
    generalize ((w.alloc (.cells #[.slice A0 n0 c0, .slice A1 n1 c1, .slice A2 n2 c2] 25)).alloc (.cells #[.slice Ac nc cc, .slice Al nl cl] 51)) = w1 at *;generalize w.heap.size = g at *;have RD0 := Hd fun wq (hSw : Only [] w1 wq) => aI (Bk3 (hSw.blk HB1.out (by simp))) (Bk2 (hSw.blk HW1.out (by simp)));refine rg1 [] [] w1 ?_;have OW : Only [] w1 w1.drew := (Only.refl [] w1).drew;generalize w1.drew = wz at *;refine trq 0 0 RD0 (h := ?_);refine tst (i := 1) fun K hK => ?_;go_simp;refine (HMY.out _ (HO1.out.trans OW)).mono ?_;rintro e wa ⟨rfl, Oa⟩;have OW1 := OW.trans Oa;clear Oa;refine kOut hK (OW1) (h := ?_);clear hK K;refine tQ 2 (h := tQ 3 (h := tQ 4 (h := trq 5 0 RD0 (h := tQ 6 (h := trq 7 0 RD0 (h := ?_))))));refine tst (i := 8) fun K hK => ?_;go_simp;refine (HIN.out _ (HO1.out.trans OW1)).mono ?_;rintro e wb ⟨Ai, ci, ⟨rfl, -⟩, Ob⟩;have OW2 := OW1.trans Ob;clear Ob;refine kOut hK (OW2) (h := ?_);clear hK K;refine tQ 9 (h := tQ 10 (h := tQ 11 (h := tQ 12 (h := tQ 13 (h := trq 14 0 RD0 (h := tQ 15 (h := trq 16 0 RD0 (h := ?_))))))));refine tst (i := 17) fun K hK => ?_;go_simp;refine (HLS.out _ (HO1.out.trans OW2)).mono ?_;rintro e wc ⟨VL, ⟨rfl, hl3⟩, Oc⟩;obtain ⟨AL, cL, rfl, -, -, -, -⟩ := own_row hl3;have OW3 := OW2.trans Oc;clear Oc hl3;refine kOut hK (OW3) (h := ?_);clear hK K;refine tQ 18 (h := tQ 19 (h := tQ 20 (h := tQ 21 (h := tQ 22 (h := trq 23 0 RD0 (h := ?_))))));refine tst (i := 24) fun K hK => ?_;go_simp;refine (HCF.out _ (HO1.out.trans OW3)).mono ?_;rintro e wd ⟨rfl, Od⟩;have OW4 := OW3.trans Od;clear Od;refine kOut hK (OW4) (h := ?_);clear hK K;refine tQ 25 (h := tQ 26 (h := tQ 27 (h := ?_)));refine tdn ?_;have HO2 := Hd (HO1.out.trans OW4);go_wp2
    go_ret
    exact ⟨by rw [HE.out]; rfl, HO2.out⟩
   ·have HE := Hd (HC.out hl);have hne : ((nl : Int) == (no : Int)) = false := by simp; omega
    have hne2 : (nl == no) = false := by simp; omega
    have hne3 : decide (nl = no) = false := by simp; omega
    clear HDD HB HC HCF hl;go_enter Tryz.func26, Tryz.ntmps26;go_upto_region 1 with (fail)
    generalize ((w.alloc (.cells #[.slice A0 n0 c0, .slice A1 n1 c1, .slice A2 n2 c2] 25)).alloc (.cells #[.slice Ac nc cc, .slice Al nl cl] 51)) = w1 at *;generalize w.heap.size = g at *;have RD0 := Hd fun wq (hSw : Only [] w1 wq) => aI (Bk3 (hSw.blk HB1.out (by simp))) (Bk2 (hSw.blk HW1.out (by simp)));refine rg1 [] [] w1 ?_;have OW : Only [] w1 w1.drew := (Only.refl [] w1).drew;generalize w1.drew = wz at *;refine trq 0 0 RD0 (h := ?_);refine tst (i := 1) fun K hK => ?_;go_simp;refine (HMY.out _ (HO1.out.trans OW)).mono ?_;rintro e wa ⟨rfl, Oa⟩;have OW1 := OW.trans Oa;clear Oa;refine kOut hK (OW1) (h := ?_);clear hK K;refine tQ 2 (h := tQ 3 (h := tQ 4 (h := trq 5 0 RD0 (h := tQ 6 (h := trq 7 0 RD0 (h := ?_))))));refine tst (i := 8) fun K hK => ?_;go_simp;refine (HIN.out _ (HO1.out.trans OW1)).mono ?_;rintro e wb ⟨Ai, ci, ⟨rfl, -⟩, Ob⟩;have OW2 := OW1.trans Ob;clear Ob;refine kOut hK (OW2) (h := ?_);clear hK K;refine tQ 9 (h := tQ 10 (h := tQ 11 (h := tQ 12 (h := tQ 13 (h := trq 14 0 RD0 (h := tQ 15 (h := trq 16 0 RD0 (h := ?_))))))));refine tst (i := 17) fun K hK => ?_;go_simp;refine (HLS.out _ (HO1.out.trans OW2)).mono ?_;rintro e wc ⟨VL, ⟨rfl, hl3⟩, Oc⟩;obtain ⟨AL, cL, rfl, -, -, -, -⟩ := own_row hl3;have OW3 := OW2.trans Oc;clear Oc hl3;refine kOut hK (OW3) (h := ?_);clear hK K;refine tQ 18 (h := tQ 19 (h := tQ 20 (h := tQ 21 (h := tiq 22 (h := tiq 23 (h := tiq 24 (h := tiq 25 (h := tQ 26 (h := tQ 27 (h := ?_))))))))));refine tdn ?_;have HO2 := Hd (HO1.out.trans OW3);go_wp2
    go_ret
    exact ⟨by rw [HE.out]; rfl, HO2.out⟩
  ·have HE := Hd (HB.out hc);have hne : ((nc : Int) == (ni : Int)) = false := by simp; omega
   have hne2 : (nc == ni) = false := by simp; omega
   have hne3 : decide (nc = ni) = false := by simp; omega
   clear HDD HB HC HCF HLS hc;go_enter Tryz.func26, Tryz.ntmps26;go_upto_region 1 with (fail)
   generalize ((w.alloc (.cells #[.slice A0 n0 c0, .slice A1 n1 c1, .slice A2 n2 c2] 25)).alloc (.cells #[.slice Ac nc cc, .slice Al nl cl] 51)) = w1 at *;generalize w.heap.size = g at *;have RD0 := Hd fun wq (hSw : Only [] w1 wq) => aI (Bk3 (hSw.blk HB1.out (by simp))) (Bk2 (hSw.blk HW1.out (by simp)));refine rg1 [] [] w1 ?_;have OW : Only [] w1 w1.drew := (Only.refl [] w1).drew;generalize w1.drew = wz at *;refine trq 0 0 RD0 (h := ?_);refine tst (i := 1) fun K hK => ?_;go_simp;refine (HMY.out _ (HO1.out.trans OW)).mono ?_;rintro e wa ⟨rfl, Oa⟩;have OW1 := OW.trans Oa;clear Oa;refine kOut hK (OW1) (h := ?_);clear hK K;refine tQ 2 (h := tQ 3 (h := tQ 4 (h := trq 5 0 RD0 (h := tQ 6 (h := trq 7 0 RD0 (h := ?_))))));refine tst (i := 8) fun K hK => ?_;go_simp;refine (HIN.out _ (HO1.out.trans OW1)).mono ?_;rintro e wb ⟨Ai, ci, ⟨rfl, -⟩, Ob⟩;have OW2 := OW1.trans Ob;clear Ob;refine kOut hK (OW2) (h := ?_);clear hK K;refine tQ 9 (h := tQ 10 (h := tQ 11 (h := tQ 12 (h := tiq 13 (h := tiq 14 (h := tiq 15 (h := tiq 16 (h := tiq 17 (h := tiq 18 (h := tiq 19 (h := tQ 20 (h := tQ 21 (h := tiq 22 (h := tiq 23 (h := tiq 24 (h := tiq 25 (h := tQ 26 (h := tQ 27 (h := ?_)))))))))))))))))));refine tdn ?_;have HO2 := Hd (HO1.out.trans OW2);go_wp2
   go_ret
   exact ⟨by rw [HE.out]; rfl, HO2.out⟩
theorem rank_succ {l : List Tx} {k : Nat} {t : Tx} (h : l[k]? = some t) : rankL l (k + 1) = rankL l k + if t.f = 3 then 1 else 0 := by
 unfold rankL;rw [which_take h, List.length_append];unfold infoB
 by_cases hf : t.f = 3 <;> simp [hf]
theorem rank_le (l : List Tx) (k : Nat) : rankL l k ≤ l.length := by
 unfold rankL;exact Nat.le_trans (which_le _ _) (by rw [List.length_take]; omega)
theorem rcommits16_any (A0 A1 A2 Ac Al : Option Addr) (n0 n1 n2 nc nl c0 c1 c2 cc cl B Bc : Nat) (h : Hst) (c : List Bool) (w : World) (hg : HIn w B A0 A1 A2 n0 n1 n2 h) (hc : Row w Bc Ac (c.map Value.bool)) (hcl : c.length = nc) (hci : (whichL infoB h.l).length = nc) :
  Calls Tryz.prog 29 #[hval A0 A1 A2 n0 n1 n2 c0 c1 c2, .agg #[.slice Ac nc cc, .slice Al nl cl]] w fun e w' => ∃ V, (e = .returned V ∧ w'.ownsRow w.heap.size 4 1 V n2 ((comL h.l c).map Value.bool)) ∧ Only [] w w' := by
 obtain ⟨i0, hi, hz0, hz1, hz2⟩ := info_parts info_bl;have HL := Hd hg.at_.r2;have HN2 := Hd hg.n2;have HCR := Hd hc;have HCL := Hd hcl;have HCI := Hd hci;have hn2 : n2 ≤ 1000 := by have := hg.sm.nl; rw [hg.n2] at this; exact this
 unfold hval;clear hg hc hcl hci;have HO1 := Hd ((((Only.refl [] w).alloc (.cells #[.slice A0 n0 c0, .slice A1 n1 c1, .slice A2 n2 c2] 25)).alloc (.cells #[.slice Ac nc cc, .slice Al nl cl] 51)).alloc (.cells #[] 4));have HB1 := Hd (((Blk.made w 25 #[.slice A0 n0 c0, .slice A1 n1 c1, .slice A2 n2 c2]).alloc (.cells #[.slice Ac nc cc, .slice Al nl cl] 51)).alloc (.cells #[] 4));have HW1 := Hd ((Blk.made (w.alloc (.cells #[.slice A0 n0 c0, .slice A1 n1 c1, .slice A2 n2 c2] 25)) 51 #[.slice Ac nc cc, .slice Al nl cl]).alloc (.cells #[] 4));have HV1 := Hd (World.ownsRow_lit (base := w.heap.size) ((w.alloc (.cells #[.slice A0 n0 c0, .slice A1 n1 c1, .slice A2 n2 c2] 25)).alloc (.cells #[.slice Ac nc cc, .slice Al nl cl] 51)) (e := 4) (size := 1) #[] 0 (by simp; omega) (by unfold maxLen; omega) rfl);simp only [World.size_alloc] at HW1 HV1;go_enter Tryz.func29, Tryz.ntmps29;go_upto_region 2 with (fail)
 generalize (((w.alloc (.cells #[.slice A0 n0 c0, .slice A1 n1 c1, .slice A2 n2 c2] 25)).alloc (.cells #[.slice Ac nc cc, .slice Al nl cl] 51)).alloc (.cells #[] 4)) = w1 at *;generalize hgl : w.heap.size + 1 + 1 = gl at *;generalize hgw : w.heap.size + 1 = gw at *;generalize hgg : w.heap.size = g at *;go_wp2_with fail
 go_loopw [5, 6, 7] (fun V nv iv wr => ∃ k : Nat, nv = .int .i64 ((rankL h.l k : Nat) : Int) ∧ iv = .int .i64 (k : Int) ∧ k ≤ n2 ∧ Hid (wr.ownsRow g 4 1 V k (((comL h.l c).take k).map Value.bool)) ∧ Hid (Blk wr g 25 #[.slice A0 n0 c0, .slice A1 n1 c1, .slice A2 n2 c2]) ∧ Hid (Blk wr gw 51 #[.slice Ac nc cc, .slice Al nl cl]) ∧ Hid (Only [] w wr)) (fun _ _ iv _ => n2 - (intOf iv).toNat)
 case atStart => exact ⟨0, by simp [rankL, whichL], rfl, by omega, HV1, HB1, HW1, HO1⟩
 case round =>
  obtain ⟨k, rfl, rfl, hk, hV, hB, hW, hO⟩ := hrel;clear HV1 HB1 HW1 HO1
  by_cases hlt : k < n2
  ·obtain ⟨t, ht⟩ : ∃ t, h.l[k]? = some t := ⟨_, List.getElem?_eq_getElem (by rw [HN2.out]; exact hlt)⟩;obtain ⟨bl, off, A', cp, rfl, -, hbw, hT, -⟩ := HL.out.at_ ht;have a1 := (hT.only hO.out (by omega) (by simp)).c1;have hRS := Hd (rank_succ ht);have hrl := rank_le h.l k;rw [HN2.out] at hrl;have hCG := Hd (comL_get (c := c) ht);have hbr : bl < wr.heap.size := by have := hO.out.size; omega
   have h01 : (k : Int) < (n2 : Int) := by omega
   have hk0 : (0 : Int) ≤ (k : Int) := Int.natCast_nonneg _;have hwk : IntKind.i64.wrap ((k : Int) + 1) = (k : Int) + 1 := IntWalk.i64_in _ (by omega);have HRK := Hd (fun hf : t.f = 3 => which_rank_lt (p := infoB) ht (by simp [infoB, hf]));obtain ⟨r, hr⟩ : ∃ r, rankL h.l k = r := ⟨_, rfl⟩;unfold comB at hCG;have hRL : (whichL infoB (h.l.take k)).length = r := hr;rw [hRL, HCI.out] at HRK;rw [hr] at hRS hCG hrl;rw [hr];have hwr : IntKind.i64.wrap ((r : Int) + 1) = (r : Int) + 1 := IntWalk.i64_in _ (by omega);obtain ⟨ts, tf, tops⟩ := t;dsimp only at a1 hRS hCG HRK;clear ht hT hr hRL;obtain ⟨b, hb⟩ : ∃ b, b = (if tf = 3 then c.getD r false else decide (tf = 1)) := ⟨_, rfl⟩;rw [← hb] at hCG;have HBB := Hd hb;clear hb;have lhB_ := hB.out.lt;have y2 := hB.out.at_ 2;simp at y2;go_upto_region 6 with (fail)
   go_upto_if 30 with (fail)
   go_cut [6, 8] (fun nv bv wx => nv = .int .i64 ((rankL h.l (k + 1) : Nat) : Int) ∧ bv = .bool b ∧ wx = wr)
   case first =>
    by_cases hf : tf = 3
    ·have hrc := HRK.out hf;obtain ⟨bb, hbb⟩ : ∃ bb, c[r]? = some bb := ⟨_, List.getElem?_eq_getElem (by rw [HCL.out]; exact hrc)⟩;obtain ⟨bc, oc, rfl, -, hbc, hcc⟩ := (HCR.out.only hO.out (by simp)).open_ (k := r) (by rw [List.length_map, HCL.out]; exact hrc);have q0 := hcc r _ (by rw [List.getElem?_map, hbb]; rfl);have hbe : b = bb := by rw [HBB.out, if_pos hf, List.getD_eq_getElem?_getD, hbb]; rfl
     have hr1 : rankL h.l (k + 1) = r + 1 := by rw [hRS.out, if_pos hf]
     have HR1 := Hd hr1;have HBE := Hd hbe;subst hf;have hr0 : (0 : Int) ≤ (r : Int) := Int.natCast_nonneg _;have hrc' : (r : Int) < (nc : Int) := by omega
     have lW := hW.out.lt;have x0 := hW.out.at_ 0;simp at x0;clear hcc hbb hbe hr1;go_wp2
     go_meet
     rw [HR1.out, HBE.out];exact ⟨by go_num, rfl, rfl⟩
    ·have hbe : b = decide (tf = 1) := by rw [HBB.out, if_neg hf]
     have hr1 : rankL h.l (k + 1) = r := by rw [hRS.out, if_neg hf]; rfl
     have HR1 := Hd hr1;have HBE := Hd hbe;have hf' : (tf == 3) = false := by simp [hf]
     clear hbe hr1 hf;go_wp2
     go_meet
     rw [HR1.out, HBE.out];exact ⟨rfl, by first | rfl | simp [BEq.beq], rfl⟩
   case rest =>
    obtain ⟨rfl, rfl, rfl⟩ := hcut;clear lhB_ y2 a1;have hsz : g ≤ wc.heap.size := by have := hO.out.size; omega
    go_wp2_with (at_builtin; refine wpList_append_row _ rfl (.tmp 38) (.tmp 40) _ rfl g 4 i0 _ 1 1 Tryz.underlying49 hi hz0 hz1 hz2 rfl (by omega) _ _ _ rfl (own_only hV.out ((Only.refl [] _).alloc _) (by simp)) (wc.heap.size + 1) (some ⟨wc.heap.size, 0, none⟩) 1 1 [.bool b] rfl rfl (row_lit wc 4 #[.bool b]) (by simp [Value.oneCell']) (by unfold maxLen; omega) (by omega) (by simp; omega) ?_; intro v8 w8 hown8 hgrow hat)
    have HVa := Hd (own_only hV.out ((Only.refl [] wc).alloc (.cells #[.bool b] 4)) (by simp));have HT : ((comL h.l c).take (k + 1)).map Value.bool = ((comL h.l c).take k).map Value.bool ++ [.bool b] := by rw [List.take_add_one, hCG.out]; simp
    rw [← HT] at hown8;have hV8 := Hd hown8;have OA : Only [] wc (wc.alloc (.cells #[.bool b] 4)) := (Only.refl [] wc).alloc _;have OG : Only u5.ownBlock.toList (wc.alloc (.cells #[.bool b] 4)) w8 := only_grown hgrow;have hB8 := Hd (OG.blk (OA.blk hB.out (by simp)) (own_apart HVa.out (OA.blk hB.out (by simp)) (by decide)));have hW8 := Hd (OG.blk (OA.blk hW.out (by simp)) (own_apart HVa.out (OA.blk hW.out (by simp)) (by decide)));have hO8 := Hd ((hO.out.trans OA).step OG (fun i hi hl => by have := (HVa.out.lt i (by simpa using hi)).1; omega));clear OA OG HVa HT hown8 hgrow hat hV hB hW hO;go_wp2
    go_roundw
    case rel => exact ⟨k + 1, rfl, by go_num, by omega, hV8, hB8, hW8, hO8⟩
    case measure => simp [intOf]; omega
  ·have hkn : k = n2 := by omega
   subst hkn;have hd2 : decide ((k : Int) < (k : Int)) = false := by simp
   have hVV := hV.out;rw [List.take_of_length_le (by rw [comL_len, HN2.out]; exact Nat.le_refl _)] at hVV;have HVV := Hd hVV;clear hV hVV;have lB := hB.out.lt;have y2 := hB.out.at_ 2;simp at y2;go_wp2
   go_ret
   exact ⟨_, ⟨rfl, by rw [hgg]; exact HVV.out⟩, hO.out⟩
end Go.Proofs.YtjfbeeogiejopaaGreatDoor
namespace Go.Proofs.YtjfbeeogiejopaaGreatDoor
open Go.RowKit
theorem rmay_any (k n : Int) (w : World) : Calls Tryz.prog 73 #[.agg #[.int .i64 k, .int .i64 n]] w fun e w' => e = .returned (.bool (mayB k n)) ∧ Only [] w w' := by
 unfold mayB
 by_cases h1 : k = 1
 ·subst h1;go_enter Tryz.func73, Tryz.ntmps73;go_wp2
  go_ret
  exact ⟨by simp, (Only.refl _ _).alloc _⟩
 ·have h1' : (k == 1) = false := by simp [h1]
  have H1 := Hd h1;clear h1
  by_cases h0 : k = 0
  ·subst h0;go_enter Tryz.func73, Tryz.ntmps73;go_wp2
   go_ret
   exact ⟨ret_boolv (by simp; try (rw [Bool.eq_iff_iff]; simp)), (Only.refl _ _).alloc _⟩
  ·have h0' : (k == 0) = false := by simp [h0]
   have H0 := Hd h0;clear h0
   by_cases h2 : k = 2
   ·subst h2;go_enter Tryz.func73, Tryz.ntmps73;go_wp2
    go_ret
    exact ⟨ret_boolv (by simp; try (rw [Bool.eq_iff_iff]; simp)), (Only.refl _ _).alloc _⟩
   ·have h2' : (k == 2) = false := by simp [h2]
    have H2 := Hd h2;clear h2;go_enter Tryz.func73, Tryz.ntmps73;go_wp2
    go_ret
    exact ⟨ret_boolv (by simp [H0.out, H1.out, H2.out]), (Only.refl _ _).alloc _⟩
def markC (n : Nat) (l : List Int) : Array Value := ((List.range n).map fun i : Nat => Value.bool (decide ((i : Int) ∈ l))).toArray
theorem markC_size (n : Nat) (l : List Int) : (markC n l).size = n := by simp [markC]
theorem markC_at (n : Nat) (l : List Int) (i : Nat) (hi : i < n) : (markC n l)[i]? = some (.bool (decide ((i : Int) ∈ l))) := by simp [markC, hi]
theorem markC_snoc (n : Nat) (l : List Int) (i : Nat) (hi : i < n) : markC n (l ++ [(i : Int)]) = (markC n l).setIfInBounds i (.bool true) := by
 apply Array.ext_getElem?
 intro j
 by_cases hj : j < n
 ·rw [markC_at _ _ _ hj, Array.getElem?_setIfInBounds]
  by_cases hij : i = j
  ·subst hij;rw [if_pos rfl, if_pos (by rw [markC_size]; exact hi)];simp
  ·rw [if_neg hij, markC_at _ _ _ hj];have : (j : Int) ∈ l ++ [(i : Int)] ↔ (j : Int) ∈ l := by
    simp;omega
   simp [this]
 ·rw [Array.getElem?_eq_none (by rw [markC_size]; omega), Array.getElem?_eq_none (by simp [markC_size]; omega)]
theorem made_mark (n : Nat) : madeCells #[.bool false] n = markC n [] := by
 apply Array.ext_getElem?
 intro j
 by_cases hj : j < n <;> simp [madeCells, markC, Nat.mod_one, hj]
theorem info_bool : (Tryz.prog.info? 4).map (fun i => (i.zero, i.size, i.bytes)) = some (some (.bool false), 1, 1) := by kernel_rfl
open Go.Lib hiding intOf
attribute [local go_sem ↓] Go.wp_at_zero Go.wp_at_succ
def txOps (n0 n1 : Nat) (t : Tx) : Bool := txB n0 t && t.ops.all (opB n1)
theorem rops_any (A0 A1 A2 : Option Addr) (n0 n1 n2 c0 c1 c2 B : Nat) (s f : Int) (ops : List Op4) (A' : Option Addr) (m cp : Nat) (gu cu : Nat) (K0 : List Int) (w : World) (hrow : Row w B A' (opC ops)) (hm : ops.length = m) (hmm : m ≤ 1000) (hU : Blk w gu 4 (markC n1 K0)) (hB : B ≤ gu) (h40 : n1 ≤ 1000) :
  Calls Tryz.prog 52 #[hval A0 A1 A2 n0 n1 n2 c0 c1 c2, .agg #[.int .i64 s, .int .i64 f, .slice A' m cp], .slice (some ⟨gu, 0, none⟩) n1 cu] w fun e w' => e = .returned (.bool (txOps n0 n1 ⟨s, f, ops⟩)) ∧
   Only [gu] w w' ∧ (txOps n0 n1 ⟨s, f, ops⟩ = true → Blk w' gu 4 (markC n1 (K0 ++ ops.map Op4.key))) := by
 unfold hval;have HMAY := Hd (fun vk vn w' => rmay_any vk vn w');have HROW := Hd hrow;have HMM := Hd hm;have hgu := hU.lt;have W1 : Only [gu] w ((w.alloc (.cells #[.slice A0 n0 c0, .slice A1 n1 c1, .slice A2 n2 c2] 25)).alloc (.cells #[.int .i64 s, .int .i64 f, .slice A' m cp] 46)) := ((Only.refl _ w).alloc _).alloc _;have HO := Hd W1;have HBH := Hd ((Blk.made w 25 #[.slice A0 n0 c0, .slice A1 n1 c1, .slice A2 n2 c2]).alloc (.cells #[.int .i64 s, .int .i64 f, .slice A' m cp] 46));have HBT := Hd (Blk.made (w.alloc (.cells #[.slice A0 n0 c0, .slice A1 n1 c1, .slice A2 n2 c2] 25)) 46 #[.int .i64 s, .int .i64 f, .slice A' m cp]);have HU := Hd ((hU.alloc (.cells #[.slice A0 n0 c0, .slice A1 n1 c1, .slice A2 n2 c2] 25)).alloc (.cells #[.int .i64 s, .int .i64 f, .slice A' m cp] 46));rw [World.size_alloc] at HBT;obtain ⟨r, hr⟩ : ∃ r, r = txOps n0 n1 ⟨s, f, ops⟩ := ⟨_, rfl⟩;rw [← hr];have HR := Hd hr;clear hr hrow W1 hU hm;have hcase : (s < 0 ∧ txB n0 ⟨s, f, ops⟩ = false) ∨ (decide (s < 0) = false ∧ (n0 : Int) ≤ s ∧ txB n0 ⟨s, f, ops⟩ = false) ∨ (decide (s < 0) = false ∧ decide ((n0 : Int) ≤ s) = false ∧ f < 1 ∧ txB n0 ⟨s, f, ops⟩ = false) ∨
   (decide (s < 0) = false ∧ decide ((n0 : Int) ≤ s) = false ∧ decide (f < 1) = false ∧ 3 < f ∧ txB n0 ⟨s, f, ops⟩ = false) ∨
   (decide (s < 0) = false ∧ decide ((n0 : Int) ≤ s) = false ∧ decide (f < 1) = false ∧ decide (3 < f) = false ∧ decide ((20 : Int) < (m : Int)) = true ∧ txB n0 ⟨s, f, ops⟩ = false) ∨
   (decide (s < 0) = false ∧ decide ((n0 : Int) ≤ s) = false ∧ decide (f < 1) = false ∧ decide (3 < f) = false ∧ decide ((20 : Int) < (m : Int)) = false ∧ txB n0 ⟨s, f, ops⟩ = true) := by
  unfold txB fateB;dsimp only;rw [HMM.out]
  by_cases q1 : s < 0
  ·exact .inl ⟨q1, by rw [decide_eq_false (by omega)]; rfl⟩
  ·by_cases q2 : (n0 : Int) ≤ s
   ·exact .inr (.inl ⟨decide_eq_false q1, q2, by rw [decide_eq_false (by omega)]; rfl⟩)
   ·by_cases q3 : f < 1
    ·exact .inr (.inr (.inl ⟨decide_eq_false q1, decide_eq_false q2, q3, by rw [decide_eq_false (show ¬ (1 ≤ f ∧ f ≤ 3) by omega)]; simp⟩))
    ·by_cases q4 : 3 < f
     ·exact .inr (.inr (.inr (.inl ⟨decide_eq_false q1, decide_eq_false q2, decide_eq_false q3, q4, by rw [decide_eq_false (show ¬ (1 ≤ f ∧ f ≤ 3) by omega)]; simp⟩)))
     ·by_cases q5 : 20 < m
      ·exact .inr (.inr (.inr (.inr (.inl ⟨decide_eq_false q1, decide_eq_false q2, decide_eq_false q3, decide_eq_false q4, decide_eq_true (by omega), by rw [decide_eq_false (show ¬ m ≤ 20 by omega)]; simp⟩))))
      ·exact .inr (.inr (.inr (.inr (.inr ⟨decide_eq_false q1, decide_eq_false q2, decide_eq_false q3, decide_eq_false q4, decide_eq_false (by omega), by rw [decide_eq_true (show 0 ≤ s ∧ s < (n0 : Int) by omega), decide_eq_true (show 1 ≤ f ∧ f ≤ 3 by omega), decide_eq_true (show m ≤ 20 by omega)]; rfl⟩))))
 have bad : txB n0 ⟨s, f, ops⟩ = false → r = false := fun hb => by rw [HR.out]; unfold txOps; rw [hb]; rfl
 rcases hcase with ⟨q1, q⟩ | ⟨q1, q2, q⟩ | ⟨q1, q2, q3, q⟩ | ⟨q1, q2, q3, q4, q⟩ | ⟨q1, q2, q3, q4, q5, q⟩ | ⟨q1, q2, q3, q4, q5, q⟩
 ·obtain rfl := bad q;clear bad q;go_enter Tryz.func52, Tryz.ntmps52;go_wp2
  go_ret
  first | exact ⟨rfl, HO.out⟩ | exact ⟨rfl, HO.out, by simp⟩
 ·obtain rfl := bad q;clear bad q;go_enter Tryz.func52, Tryz.ntmps52;go_wp2
  go_ret
  first | exact ⟨rfl, HO.out⟩ | exact ⟨rfl, HO.out, by simp⟩
 ·obtain rfl := bad q;clear bad q;go_enter Tryz.func52, Tryz.ntmps52;go_wp2
  go_ret
  first | exact ⟨rfl, HO.out⟩ | exact ⟨rfl, HO.out, by simp⟩
 ·obtain rfl := bad q;clear bad q;go_enter Tryz.func52, Tryz.ntmps52;go_wp2
  go_ret
  first | exact ⟨rfl, HO.out⟩ | exact ⟨rfl, HO.out, by simp⟩
 ·obtain rfl := bad q;clear bad q;go_enter Tryz.func52, Tryz.ntmps52;go_wp2
  go_ret
  first | exact ⟨rfl, HO.out⟩ | exact ⟨rfl, HO.out, by simp⟩
 ·have HRR : Hid (r = ops.all (opB n1)) := Hd (by rw [HR.out]; unfold txOps; rw [q]; rfl);have HBADX : Hid (∀ (j : Nat) y, ops[j]? = some y → opB n1 y = false → r = false) := Hd (fun j y hj hb => by
   rw [HRR.out, List.all_eq_false];exact ⟨y, List.mem_of_getElem? hj, by rw [hb]; simp⟩)
  clear bad q HR;go_enter Tryz.func52, Tryz.ntmps52;go_wp2_with fail
  clear q1 q2 q3 q4 q5
  go_loopw [7] (fun iv wr => ∃ j : Nat, iv = .int .i64 j ∧ j ≤ m ∧ Hid ((ops.take j).all (opB n1) = true) ∧ Hid (Blk wr w.heap.size 25 #[.slice A0 n0 c0, .slice A1 n1 c1, .slice A2 n2 c2]) ∧ Hid (Blk wr (w.heap.size + 1) 46 #[.int .i64 s, .int .i64 f, .slice A' m cp]) ∧ Hid (Blk wr gu 4 (markC n1 (K0 ++ (ops.take j).map Op4.key))) ∧ Hid (Only [gu] w wr)) (fun iv _ => m - (intOf iv).toNat)
  case atStart => exact ⟨0, rfl, by omega, Hd (by simp), HBH, HBT, by simpa using HU, HO⟩
  case round =>
   obtain ⟨j, rfl, hj, hall, hBH, hBT, hU, hO⟩ := hrel;clear HBH HBT HU HO;have hsz2 := hO.out.size;have lT := hBT.out.lt;have t2 := hBT.out.at_ 2;simp at t2
   by_cases hlt2 : j < m
   ·obtain ⟨y, hy⟩ : ∃ y, ops[j]? = some y := ⟨_, List.getElem?_eq_getElem (by rw [HMM.out]; exact hlt2)⟩;obtain ⟨b', off', rfl, hbB, hbw', hP⟩ := row_op HROW.out hy;obtain ⟨p0, p1, p2, p3⟩ := hP.only hO.out hbw' (by simp; omega);have HALN : Hid (opB n1 y = true → (ops.take (j + 1)).all (opB n1) = true) := Hd (fun h => takeTx_all hall.out hy h);have HBAD : Hid (opB n1 y = false → r = false) := Hd (HBADX.out j y hy);have HTK : Hid ((ops.take (j + 1)).map Op4.key = (ops.take j).map Op4.key ++ [y.key]) := Hd (by rw [List.take_add_one, hy]; simp);obtain ⟨yw, yk, yv, yn⟩ := y;dsimp only at p0 p1 p2 p3 HTK;have h01 : (j : Int) < (m : Int) := by omega
    have hj0 : (0 : Int) ≤ (j : Int) := Int.natCast_nonneg _;have hwj : IntKind.i64.wrap ((j : Int) + 1) = (j : Int) + 1 := IntWalk.i64_in _ (by omega);have hbr' : b' < wr.heap.size := by omega
    clear hP hy hall;go_upto_region 7 with (fail)
    have O2 : Only [] wr (wr.alloc (.cells #[.bool yw, .int .i64 yk, .int .i64 yv, .int .i64 yn] 48)) := (Only.refl [] wr).alloc _;have bO := Blk.made wr 48 #[.bool yw, .int .i64 yk, .int .i64 yv, .int .i64 yn];have HB2 := Hd (O2.blk hBH.out (by simp));have HT2 := Hd (O2.blk hBT.out (by simp));have HU2 := Hd (O2.blk hU.out (by simp));have HO2 := Hd (hO.out.trans (O2.wide (fun _ h => by cases h)));clear p0 p1 p2 p3 O2 hBH hBT hU hO lT t2;generalize (wr.alloc (.cells #[.bool yw, .int .i64 yk, .int .i64 yv, .int .i64 yn] 48)) = w2' at *;generalize wr.heap.size = go at *;have HBO := Hd bO;have lO := bO.lt;have o0 := bO.at_ 0;have o1 := bO.at_ 1;have o2 := bO.at_ 2;have o3 := bO.at_ 3;have lB := HB2.out.lt;have b1 := HB2.out.at_ 1;simp at o0 o1 o2 o3 b1;clear bO;have hcase : (yk < 0 ∧ opB n1 ⟨yw, yk, yv, yn⟩ = false) ∨ (decide (yk < 0) = false ∧ (n1 : Int) ≤ yk ∧ opB n1 ⟨yw, yk, yv, yn⟩ = false) ∨ ∃ i : Nat, yk = (i : Int) ∧ i < n1 ∧ opB n1 ⟨yw, yk, yv, yn⟩ = (mayB yv yn && (!yw || decide (yv = 1))) := by
     unfold opB;dsimp only
     by_cases q1 : yk < 0
     ·exact .inl ⟨q1, by rw [decide_eq_false (by omega)]; rfl⟩
     ·by_cases q2 : (n1 : Int) ≤ yk
      ·exact .inr (.inl ⟨decide_eq_false q1, q2, by rw [decide_eq_false (by omega)]; rfl⟩)
      ·exact .inr (.inr ⟨yk.toNat, by omega, by omega, by rw [decide_eq_true (show 0 ≤ yk ∧ yk < (n1 : Int) by omega)]; rfl⟩)
    rcases hcase with ⟨q1, q⟩ | ⟨q1, q2, q⟩ | ⟨i, rfl, hi, q⟩
    ·obtain rfl := HBAD.out q;clear q;go_wp2
     go_ret
     first | exact ⟨rfl, HO2.out⟩ | exact ⟨rfl, HO2.out, by simp⟩
    ·obtain rfl := HBAD.out q;clear q;go_wp2
     go_ret
     first | exact ⟨rfl, HO2.out⟩ | exact ⟨rfl, HO2.out, by simp⟩
    ·have HF := Hd (HMAY.out yv yn w2');have q1 : decide ((i : Int) < 0) = false := by simp
     have q2 : decide ((n1 : Int) ≤ (i : Int)) = false := by simp; omega
     have q5 : (0 : Int) ≤ (i : Int) := by omega
     have q6 : (i : Int) < (n1 : Int) := by omega
     cases hmy : mayB yv yn with
     | false =>
      rw [hmy] at HF q;obtain rfl := HBAD.out q;clear q hmy;go_wp2_with fail
      refine (HF.out).mono ?_;rintro e w3 ⟨rfl, O3⟩;have HO3 := Hd (HO2.out.trans (O3.wide (fun _ h => by cases h)));clear O3;go_wp2
      go_ret
      first | exact ⟨rfl, HO3.out⟩ | exact ⟨rfl, HO3.out, by simp⟩
     | true =>
      rw [hmy] at HF q;have HCS := Hd (markC_snoc n1 (K0 ++ (ops.take j).map Op4.key) i (by omega));have HCA := Hd (markC_at n1 (K0 ++ (ops.take j).map Op4.key) i (by omega));generalize decide ((i : Int) ∈ K0 ++ (ops.take j).map Op4.key) = ci at *;clear hmy;have good : Hid ((ops.take (j + 1)).all (opB n1) = true) → ∀ w3, Only [] w2' w3 → Hid (Blk (w3.setCell ⟨gu, i, none⟩ (.bool true)) gu 4 (markC n1 (K0 ++ (ops.take (j + 1)).map Op4.key))) ∧ Hid (Only [gu] w (w3.setCell ⟨gu, i, none⟩ (.bool true))) ∧
        Hid (Blk (w3.setCell ⟨gu, i, none⟩ (.bool true)) w.heap.size 25 #[.slice A0 n0 c0, .slice A1 n1 c1, .slice A2 n2 c2]) ∧ Hid (Blk (w3.setCell ⟨gu, i, none⟩ (.bool true)) (w.heap.size + 1) 46 #[.int .i64 s, .int .i64 f, .slice (some ⟨b', off', none⟩) m cp]) := fun _ w3 O3 => by
       refine ⟨Hd ?_, Hd ((HO2.out.trans (O3.wide (fun _ h => by cases h))).put (fun _ => by simp) _), Hd ((O3.blk HB2.out (by simp)).far (by simp only; omega) _), Hd ((O3.blk HT2.out (by simp)).far (by simp only; omega) _)⟩;rw [HTK.out, ← List.append_assoc, HCS.out];exact (O3.blk HU2.out (by simp)).put i _
      have HGOOD := Hd good;clear good
      cases yw with
      | true =>
       by_cases hv1 : yv = 1
       ·subst hv1;have HQ := Hd (HALN.out (by rw [q]; rfl));clear q;go_wp2_with fail
        refine (HF.out).mono ?_;rintro e w3 ⟨rfl, O3⟩;have HP := HGOOD.out HQ w3 O3;have bO3 := O3.blk HBO.out (by simp);have bU3 := O3.blk HU2.out (by simp);clear O3 lO o0 o1 o2 o3 lB b1;have lO := bO3.lt;have o0 := bO3.at_ 0;have o1 := bO3.at_ 1;have o2 := bO3.at_ 2;have lU := bU3.lt;have uj := (bU3.at_ i).trans HCA.out;have gj := bU3.free i;simp at o0 o1 o2;clear bO3 bU3;go_wp2
        go_roundw
        case rel => exact ⟨j + 1, by go_num, by omega, HQ, HP.2.2.1, HP.2.2.2, HP.1, HP.2.1⟩
        case measure => simp [intOf]; omega
       ·have hv1' : (yv == 1) = false := by simpa using hv1
        have hv1n : (yv != 1) = true := by simpa using hv1
        obtain rfl := HBAD.out (by rw [q, decide_eq_false hv1]; rfl);clear q hv1;go_wp2_with fail
        refine (HF.out).mono ?_;rintro e w3 ⟨rfl, O3⟩;have HO3 := Hd (HO2.out.trans (O3.wide (fun _ h => by cases h)));have bO3 := O3.blk HBO.out (by simp);clear O3 lO o0 o1 o2 o3 lB b1;have lO := bO3.lt;have o0 := bO3.at_ 0;have o2 := bO3.at_ 2;simp at o0 o2;clear bO3;go_wp2
        go_ret
        first | exact ⟨rfl, HO3.out⟩ | exact ⟨rfl, HO3.out, by simp⟩
      | false =>
       have HQ := Hd (HALN.out (by rw [q]; rfl));clear q;go_wp2_with fail
       refine (HF.out).mono ?_;rintro e w3 ⟨rfl, O3⟩;have HP := HGOOD.out HQ w3 O3;have bO3 := O3.blk HBO.out (by simp);have bU3 := O3.blk HU2.out (by simp);clear O3 lO o0 o1 o2 o3 lB b1;have lO := bO3.lt;have o0 := bO3.at_ 0;have o1 := bO3.at_ 1;have lU := bU3.lt;have uj := (bU3.at_ i).trans HCA.out;have gj := bU3.free i;simp at o0 o1;clear bO3 bU3;go_wp2
       go_roundw
       case rel => exact ⟨j + 1, by go_num, by omega, HQ, HP.2.2.1, HP.2.2.2, HP.1, HP.2.1⟩
       case measure => simp [intOf]; omega
   ·have hjm : j = m := by omega
    subst hjm;have hd2 : decide ((j : Int) < (j : Int)) = false := by simp
    have ht : ops.take j = ops := List.take_of_length_le (by rw [HMM.out]; exact Nat.le_refl _);have hA := hall.out;have hUU := hU.out;rw [ht] at hA hUU;obtain rfl : r = true := by rw [HRR.out, hA]
    have HUU := Hd hUU;clear hall hU hA hUU ht;go_wp2
    go_ret
    first | exact ⟨rfl, hO.out, HUU.out⟩ | exact ⟨rfl, hO.out, fun _ => HUU.out⟩
end Go.Proofs.YtjfbeeogiejopaaGreatDoor
