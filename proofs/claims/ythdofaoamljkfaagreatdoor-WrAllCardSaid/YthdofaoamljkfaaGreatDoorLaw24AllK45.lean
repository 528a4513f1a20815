/- Parts. -/
import Derived.Test.YthdofaoamljkfaaGreatDoorLaw24AllK44
set_option maxRecDepth 10000
set_option maxHeartbeats 16000000
set_option linter.unusedVariables false
set_option linter.unusedSimpArgs false
namespace Go.Proofs.YthdofaoamljkfaaGreatDoor
open Go.RowKit
open Go.Lib hiding intOf
attribute [local go_sem ↓] Go.wp_at_zero Go.wp_at_succ
theorem choL_got {h : Hst} {k : Nat} {p : Int × Int} (hp : (rdsL h.l)[k]? = some p) : (choL h)[k]? = some (wrOf h p.1 p.2) := by
 unfold choL;rw [List.getElem?_map, hp]
 rfl
theorem rds_max {h : Hst} (hm : mayH h = true) : (rdsL h.l).length ≤ 800 := by
 have h1 := rdsQ_le (fun t (ht : t ∈ h.l) => (may_keys24 hm ht).2) (whichL comT h.l).length;rw [rdsQ_all h.l (Nat.le_refl _)] at h1;have h2 := which_le comT h.l;have h3 := (may_ops hm).1;omega
theorem rcho24_any (A0 A1 A2 : Option Addr) (n0 n1 n2 c0 c1 c2 B : Nat) (h : Hst) (w : World) (hg : HIn w B A0 A1 A2 n0 n1 n2 h) (hm : mayH h = true) :
  Calls Tryz.prog 14 #[hval A0 A1 A2 n0 n1 n2 c0 c1 c2] w fun e w' => ∃ A cp xs, (e = .returned (.slice A (choL h).length cp) ∧ Rows2 w' w.heap.size (.slice A (choL h).length cp) xs (choL h)) ∧ Only [] w w' := by
 obtain ⟨i1, hi1, hy0, hy1, hy2⟩ := info_parts info_rowc;have HRD := Hd (fun w' (O : Only [] w w') => rreads24_any A0 A1 A2 n0 n1 n2 c0 c1 c2 B h w' (hg.same O) hm);have HOF := Hd (fun (p : Int × Int) w' (O : Only [] w w') => rof15_any A0 A1 A2 n0 n1 n2 c0 c1 c2 B h p.1 p.2 w' (hg.same O));have hmx := rds_max hm;have HCG := Hd (fun k p (hp : (rdsL h.l)[k]? = some p) => choL_got hp);have HCL := Hd (choL_len h);obtain ⟨np, hnp⟩ : ∃ np, (rdsL h.l).length = np := ⟨_, rfl⟩;rw [hnp] at HRD hmx HCL;have HNP := Hd hnp;obtain ⟨C, hC⟩ : ∃ C, choL h = C := ⟨_, rfl⟩;rw [hC] at HCG HCL ⊢;rw [HCL.out];unfold hval at *;clear hg hm hnp hC;have HO1 := Hd ((Only.refl [] w).alloc (.cells #[.slice A0 n0 c0, .slice A1 n1 c1, .slice A2 n2 c2] 25));have HB1 := Hd (Blk.made w 25 #[.slice A0 n0 c0, .slice A1 n1 c1, .slice A2 n2 c2]);go_enter Tryz.func14, Tryz.ntmps14;go_upto_region 1 with (fail)
 generalize (w.alloc (.cells #[.slice A0 n0 c0, .slice A1 n1 c1, .slice A2 n2 c2] 25)) = w1 at *;generalize hgg : w.heap.size = g at *;have lB := HB1.out.lt;have y0 := HB1.out.at_ 0;have y1 := HB1.out.at_ 1;have y2 := HB1.out.at_ 2;simp at y0 y1 y2;have hgl : g ≤ w1.heap.size := by omega
 go_wp2_with fail
 refine (HRD.out _ HO1.out).mono ?_;rintro e w2 ⟨VR, ⟨rfl, hR2⟩, O2⟩;obtain ⟨AR, cR, rfl, -, -, -, -⟩ := own_row hR2;have HR2 := Hd hR2;have HO2 := Hd (HO1.out.trans O2);have HB2 := Hd (O2.blk HB1.out (by simp));have hg2 : w1.heap.size ≤ w2.heap.size := O2.size;clear hR2 O2;have OL : Only [] w2 (w2.alloc (.cells #[] 26)) := (Only.refl [] w2).alloc _;have HV3 := Hd (World.ownsRow_lit (base := w2.heap.size) w2 (e := 26) (size := 1) #[] 0 (Nat.le_refl _) (by unfold maxLen; omega) rfl);have HR3 := Hd (own_only HR2.out OL (by simp));have HO3 := Hd (HO2.out.trans OL);have HB3 := Hd (OL.blk HB2.out (by simp));clear OL HR2 HO2 HB2 HO1 HB1 HRD lB y0 y1 y2;go_upto_region 2 with (fail)
 generalize (w2.alloc (.cells #[] 26)) = w3 at *;generalize w2.heap.size = g2 at *;go_wp2_with fail
 go_loopw [4, 5] (fun V iv wr => ∃ (k : Nat) (xs : List SlI), iv = .int .i64 (k : Int) ∧ k ≤ np ∧ Hid (wr.ownsRow g 26 1 V xs.length (xs.map siC)) ∧ Hid (xs.map (fun x => x.l) = C.take k) ∧ Hid (∀ x ∈ xs, wr.ownsRow g 3 1 (siC x) x.l.length (x.l.map (Value.int .i64))) ∧ Hid (wr.ownsRow g 56 2 (.slice AR np cR) np (placeC (rdsL h.l))) ∧ Hid (Blk wr g 25 #[.slice A0 n0 c0, .slice A1 n1 c1, .slice A2 n2 c2]) ∧ Hid (Only [] w wr)) (fun _ iv _ => np - (intOf iv).toNat)
 case atStart => exact ⟨0, [], rfl, by omega, Hd (own_from HV3.out (by omega)), Hd rfl, Hd (fun x hx => by cases hx), Hd (own_from HR3.out hgl), HB3, HO3⟩
 case round =>
  obtain ⟨k, xs, rfl, hk, hV, hxs, hX, hR, hB, hO⟩ := hrel;clear HV3 HR3 HB3 HO3
  by_cases hlt : k < np
  ·obtain ⟨p, hp⟩ : ∃ p, (rdsL h.l)[k]? = some p := ⟨_, List.getElem?_eq_getElem (by rw [HNP.out]; exact hlt)⟩;have HCK := Hd (HCG.out k p hp);obtain ⟨br, obr, rfl, -, hbr, hcr⟩ := (own_row_at hR.out).1.open_ (k := k * 2) (by rw [hR.out.1]; omega);have HP0 := Hd (hcr (k * 2) _ (plC_at hp).1);have HP1 := Hd (hcr (k * 2 + 1) _ (plC_at hp).2);rw [← Nat.add_assoc] at HP1;have HOP := Hd (fun w' O => HOF.out p w' O);obtain ⟨pa, pb⟩ := p;dsimp only at HP0 HP1 HOP HCK;have hxl : xs.length = k := by
    have h1 := congrArg List.length hxs.out;rw [List.length_map, List.length_take, HCL.out, Nat.min_eq_left hk] at h1;exact h1
   have hxp : xs.length ≤ 800 := by omega
   have HXL := Hd hxl;generalize wrOf h pa pb = R at *;have HTK : Hid (C.take (k + 1) = C.take k ++ [R]) := Hd (by rw [List.take_add_one, HCK.out]; rfl);have h01 : (k : Int) < (np : Int) := by omega
   have hk0 : (0 : Int) ≤ (k : Int) := Int.natCast_nonneg _;have hwk : IntKind.i64.wrap ((k : Int) + 1) = (k : Int) + 1 := IntWalk.i64_in _ (by omega);have HNH : Hid (g ∉ u4.ownBlock.toList) := Hd (own_apart hV.out hB.out (by decide));have HNR : Hid (br ∉ u4.ownBlock.toList) := Hd (own_two hR.out hV.out (by decide) br rfl);have hszg : g ≤ wr.heap.size := by have := hO.out.size; omega
   clear hcr hp hxl HCK;go_upto_region 5 with (fail)
   have RD0 := Hd fun wq (hSw : Only u4.ownBlock.toList wr wq) => aI (Bk3 (hSw.blk hB.out HNH.out)) (aI ((hSw.cell (p := ⟨br, obr + k * 2, none⟩) hbr HNR.out).trans HP0.out) ((hSw.cell (p := ⟨br, obr + k * 2 + 1, none⟩) hbr HNR.out).trans HP1.out));refine rg1 [] u4.ownBlock.toList wr ?_;have OW : Only [] wr wr.drew := (Only.refl [] wr).drew;generalize wr.drew = wz at *;refine tQ 0 (h := trq 1 0 RD0 (h := tQ 2 (h := tQ 3 (h := tQ 4 (h := trq 5 0 RD0 (h := ?_))))));refine tst (i := 6) fun K hK => ?_;go_simp;refine (HOP.out _ (hO.out.trans OW)).mono ?_;rintro e w5 ⟨VT, ⟨rfl, hT5⟩, O5⟩;obtain ⟨AT, cT, rfl, -, -, -, -⟩ := own_row hT5;have OW1 := OW.trans O5;have OT1 := own_from hT5 (show g ≤ wz.heap.size from by have := OW.size; omega);clear O5 hT5;refine kOut hK (OW1.wide (fun i hi => by cases hi)) (h := ?_);clear hK K;refine tst (i := 7) fun K hK => ?_;go_simp;have OW2 := OW1.alloc (.cells #[.slice AT R.length cT] 26);have RW2 := row_lit w5 26 #[.slice AT R.length cT];have OT2 := own_only OT1 ((Only.refl [] w5).alloc (.cells #[.slice AT R.length cT] 26)) (by simp);generalize w5.alloc (.cells #[.slice AT R.length cT] 26) = w6 at *;generalize w5.heap.size = gl at *;refine kOut hK (OW2.wide (fun i hi => by cases hi)) (h := ?_);clear hK K;refine tst (i := 8) fun K hK => ?_;refine step_append_row _ rfl (.tmp 15) (.tmp 22) 31 rfl g 26 i1 _ 1 24 Tryz.underlying31 hi1 hy0 hy1 hy2 rfl (by omega) u4 xs.length (xs.map siC) (by rfl) (own_only hV.out OW2 (by simp)) _ (some ⟨gl, 0, none⟩) 1 1 [.slice AT R.length cT] (by rfl) (by rfl) RW2 (by intro u hu; simp at hu; subst hu; rfl) (by unfold maxLen; omega) (by omega) (by have := OW2.size; omega) ?_;intro V9 w9 hown9 hgrow9 hat9;have OG : Only u4.ownBlock.toList w6 w9 := only_grown hgrow9;refine kOut hK ((OW2.wide (fun i hi => by cases hi)).trans OG) (h := ?_);clear hK K;refine tQ 9 (h := ?_);refine tdn ?_;have HV6 := own_only hV.out OW2 (by simp);have HV9 : Hid (w9.ownsRow g 26 1 V9 (xs ++ [(⟨R, AT, cT⟩ : SlI)]).length ((xs ++ [(⟨R, AT, cT⟩ : SlI)]).map siC)) := Hd (by simpa [siC] using hown9);have HX9 : Hid (∀ x ∈ xs ++ [(⟨R, AT, cT⟩ : SlI)], w9.ownsRow g 3 1 (siC x) x.l.length (x.l.map (Value.int .i64))) := Hd (by
    intro x hx;have h0 : w6.ownsRow g 3 1 (siC x) x.l.length (x.l.map (Value.int .i64)) := by
     rcases List.mem_append.1 hx with hx | hx
     ·exact own_only (hX.out x hx) OW2 (by simp)
     ·obtain rfl := List.mem_singleton.1 hx;exact OT2
    exact own_only h0 OG (own_two h0 HV6 (by decide)))
   have h7 := own_only hR.out OW2 (by simp);have HR9 := Hd (own_only h7 OG (own_two h7 HV6 (by decide)));have h8 := OW2.blk hB.out (by simp);have HB9 := Hd (OG.blk h8 (own_apart HV6 h8 (by decide)));have HO9 := Hd ((hO.out.trans OW2).step OG (fun i hi hl => by have := (HV6.lt i (by simpa using hi)).1; omega));have HXS : Hid ((xs ++ [(⟨R, AT, cT⟩ : SlI)]).map (fun x => x.l) = C.take (k + 1)) := Hd (by rw [HTK.out, List.map_append, hxs.out]; rfl);clear HV6 h7 h8 hB hV hX hR hO OT2 OW2 OG hown9 hgrow9 hat9 hxs HP0 HP1;go_wp2
   go_roundw
   case rel => exact ⟨k + 1, _, by go_num, by omega, HV9, HXS, HX9, HR9, HB9, HO9⟩
   case measure => simp [intOf]; omega
  ·obtain rfl : k = np := by omega
   rw [List.take_of_length_le (by rw [HCL.out]; exact Nat.le_refl _)] at hxs;have hxl : xs.length = k := by
    have h1 := congrArg List.length hxs.out;rw [List.length_map, HCL.out] at h1;exact h1
   have h1 := hV.out;rw [hxl] at h1;obtain ⟨A4, c4, rfl, -, -, -, -⟩ := own_row h1;have HR : Hid (Rows2 wr g (.slice A4 k c4) xs C) := Hd ⟨hV.out, hxs.out, hX.out⟩;subst hgg;clear h1 hxl hV hX hR hB;go_wp2
   go_ret
   exact ⟨A4, c4, xs, ⟨rfl, HR.out⟩, hO.out⟩
end Go.Proofs.YthdofaoamljkfaaGreatDoor
namespace Go.Proofs.YthdofaoamljkfaaGreatDoor
open Go.RowKit
open Go.Lib
attribute [local go_sem ↓] Go.wp_at_zero Go.wp_at_succ
theorem hasInt_any (A : Option Addr) (n c B : Nat) (zs : List Int) (x : Int) (w : World) (hn : zs.length = n) (hnm : n ≤ 1000000) (hA : Row w B A (zs.map (Value.int .i64))) :
  Calls Tryz.prog 28 #[.slice A n c, .int .i64 x] w fun e w' => e = .returned (.bool (decide (x ∈ zs))) ∧ w = w' := by
 have HA := Hd hA;have HN := Hd hn;clear hA hn;go_enter Tryz.func28, Tryz.ntmps28;go_wp2_with fail
 go_loopw [5] (fun iv wr => ∃ k : Nat, iv = .int .i64 k ∧ k ≤ n ∧ Hid (∀ j y, j < k → zs[j]? = some y → y ≠ x) ∧ wr = w) (fun iv _ => n - (intOf iv).toNat)
 case atStart => exact ⟨0, rfl, by omega, Hd (fun j y h => by omega), rfl⟩
 case round =>
  obtain ⟨k, rfl, hk, hno, rfl⟩ := hrel
  by_cases hlt : k < n
  ·obtain ⟨b, off, rfl, -, hbw, hc⟩ := HA.out.open_ (k := k) (by rw [List.length_map, HN.out]; exact hlt);obtain ⟨y, hy⟩ : ∃ y, zs[k]? = some y := ⟨_, List.getElem?_eq_getElem (by rw [HN.out]; exact hlt)⟩;have hcy : wr.cell? ⟨b, off + k, none⟩ = some (.int .i64 y) := hc k _ (by rw [List.getElem?_map, hy]; rfl);have h01 : (k : Int) < (n : Int) := by omega
   have hk0 : (0 : Int) ≤ (k : Int) := Int.natCast_nonneg _;have hwk : IntKind.i64.wrap ((k : Int) + 1) = (k : Int) + 1 := IntWalk.i64_in _ (by omega);have HY := Hd hy;clear hc hy
   by_cases hxy : y = x
   ·subst hxy;have HM : Hid (decide (y ∈ zs) = true) := Hd (decide_eq_true (List.mem_of_getElem? HY.out));go_wp2
    go_ret
    exact ⟨by rw [HM.out]; rfl, rfl⟩
   ·have hb : (y == x) = false := by simpa using hxy
    have HXY := Hd hxy;clear hxy;go_wp2
    go_roundw
    case rel =>
     refine ⟨k + 1, by go_num, by omega, Hd (fun j y' hj hy' => ?_), trivial⟩
     by_cases h : j < k
     ·exact hno.out j y' h hy'
     ·obtain rfl : j = k := by omega
      rw [HY.out] at hy';obtain rfl := Option.some.inj hy';exact HXY.out
    case measure => simp [intOf]; omega
  ·have hkn : k = n := by omega
   subst hkn;have hd : decide ((k : Int) < (k : Int)) = false := by simp
   have H : Hid (decide (x ∈ zs) = false) := Hd (decide_eq_false (fun hm => by
    obtain ⟨j, hj⟩ := List.mem_iff_getElem?.1 hm;exact hno.out j x (by rw [← HN.out]; exact (List.getElem?_eq_some_iff.1 hj).1) hj rfl))
   go_wp2
   go_ret
   exact ⟨by rw [H.out]; rfl, rfl⟩
end Go.Proofs.YthdofaoamljkfaaGreatDoor
namespace Go.Proofs.YthdofaoamljkfaaGreatDoor
open Go.RowKit
open Go.Lib hiding intOf
attribute [local go_sem ↓] Go.wp_at_zero Go.wp_at_succ
section
variable (A0 A1 A2 : Option Addr) (n0 n1 n2 c0 c1 c2 B : Nat) (h : Hst)
theorem ris24_any (Am : Option Addr) (m c Bl : Nat) (l : List Int) (w : World) (hg : HIn w B A0 A1 A2 n0 n1 n2 h) (hl : Row w Bl Am (l.map (Value.int .i64))) (hm : l.length = m) (hM : m ≤ 100000) :
  Calls Tryz.prog 11 #[hval A0 A1 A2 n0 n1 n2 c0 c1 c2, .slice Am m c] w fun e w' => e = .returned (.bool (isMap h l)) ∧ Only [] w w' := by
 have HWI := Hd (fun w' (O : Only [] w w') => ris17_any A0 A1 A2 n0 n1 n2 c0 c1 c2 B h w' (hg.same O));have HRD := Hd (fun (hm : wholeB h = true) w' (O : Only [] w w') => rcho24_any A0 A1 A2 n0 n1 n2 c0 c1 c2 B h w' (hg.same O) (whole_may hm));have HN40 := Hd (fun (hw : wholeB h = true) => (may_ops (whole_may hw)).1);have HCM := Hd (fun (hw : wholeB h = true) => choL_max hw);have HFW := Hd (fun c (hc : c ∈ choL h) => choL_few hc);unfold hval at *;clear hg;have HO1 := Hd ((Only.refl [] w).alloc (.cells #[.slice A0 n0 c0, .slice A1 n1 c1, .slice A2 n2 c2] 25));have HB1 := Hd (Blk.made w 25 #[.slice A0 n0 c0, .slice A1 n1 c1, .slice A2 n2 c2]);obtain ⟨d, hd⟩ : ∃ d, wholeB h = d := ⟨_, rfl⟩;rw [hd] at HWI HRD HN40 HCM;have HDD : Hid (isMap h l = (d && (decide (m = (choL h).length) && isI (choL h) l))) := Hd (by unfold isMap; rw [hd, hm]);have HL := Hd (fun w' (O : Only [] w w') => hl.only O (by simp));have HM := Hd hm;generalize isMap h l = R at *;clear hl hm hd;go_enter Tryz.func11, Tryz.ntmps11;go_upto_region 1 with (fail)
 generalize (w.alloc (.cells #[.slice A0 n0 c0, .slice A1 n1 c1, .slice A2 n2 c2] 25)) = w1 at *;have lB := HB1.out.lt;have y0 := HB1.out.at_ 0;have y1 := HB1.out.at_ 1;have y2 := HB1.out.at_ 2;simp at y0 y1 y2;go_wp2_with fail
 refine (HWI.out _ HO1.out).mono ?_;rintro e w2 ⟨rfl, O2⟩;have HO2 := Hd (HO1.out.trans O2);have HB2 := Hd (O2.blk HB1.out (by simp));clear O2 HO1 HB1 HWI lB y0 y1 y2;have lB := HB2.out.lt;have y0 := HB2.out.at_ 0;have y1 := HB2.out.at_ 1;have y2 := HB2.out.at_ 2;simp at y0 y1 y2
 cases d with
 | false =>
  obtain rfl : R = false := by rw [HDD.out]; rfl
  go_wp2
  go_ret
  exact ⟨rfl, HO2.out⟩
 | true =>
  rw [Bool.true_and] at HDD;have HFW3 := Hd (fun c (hc : c ∈ choL h) => show c.length ≤ 1000 by have h1 := HFW.out c hc; have h2 := HN40.out (by first | rfl | trivial); omega);have hn8 := HCM.out (by first | rfl | trivial);go_wp2_with fail
  refine (HRD.out (by first | rfl | trivial) _ HO2.out).mono ?_;rintro e w3 ⟨A, cp, xs, ⟨rfl, hV⟩, O3⟩;have HV := Hd hV;have HO3 := Hd (HO2.out.trans O3);clear O3 hV HRD HB2 lB y0 y1 y2 HN40 HCM HFW;generalize choL h = C at *;obtain ⟨n, hn⟩ : ∃ n, C.length = n := ⟨_, rfl⟩;have HN := Hd hn;rw [hn] at HV HDD hn8;rw [hn];clear hn
  by_cases hmn : m = n
  ·subst hmn;have d1 : ((m : Int) != (m : Int)) = false := by simp
   rw [decide_eq_true (rfl : m = m), Bool.true_and] at HDD;obtain ⟨wo, hwo⟩ : ∃ wo : World, wo = w3 := ⟨_, rfl⟩;subst hwo;have HIF := Hd (isI_iff (vals := C) (l := l));go_wp2_with fail
   go_loopw [6] (fun iv wr => ∃ k : Nat, iv = .int .i64 (k : Int) ∧ k ≤ m ∧ Hid (∀ (p : Nat) u vs, p < k → l[p]? = some u → C[p]? = some vs → u ∈ vs) ∧ Hid (Only [] wo wr)) (fun iv _ => m - (intOf iv).toNat)
   case atStart => exact ⟨0, rfl, by omega, Hd (fun p u vs h => by omega), Hd (Only.refl [] wo)⟩
   case round =>
    obtain ⟨k, rfl, hk, hP, hO⟩ := hrel
    by_cases hlt : k < m
    ·obtain ⟨cl, hc⟩ : ∃ cl, C[k]? = some cl := ⟨_, List.getElem?_eq_getElem (by rw [HN.out]; exact hlt)⟩;obtain ⟨u, hu⟩ : ∃ u, l[k]? = some u := ⟨_, List.getElem?_eq_getElem (by rw [HM.out]; exact hlt)⟩;have hcl := HFW3.out cl (List.mem_of_getElem? hc);have hrw := HV.out.same hO.out;obtain ⟨b, off, Ak, ck, rfl, hb, hcc, hown⟩ := hrw.cell (n := m) hc;obtain ⟨b2, o2, rfl, -, hb2, hc2⟩ := (HL.out _ (HO3.out.trans hO.out)).open_ (k := k) (by rw [List.length_map, HM.out]; exact hlt);have HE0 := Hd hcc;have HE1 := Hd (hc2 k _ (by rw [List.getElem?_map, hu]; rfl));have HHI := Hd (fun w' (O : Only [] wr w') => hasInt_any Ak cl.length ck w'.heap.size cl u w' rfl (by omega) (own_row_at (own_only hown O (by simp))).1);have HCU := Hd (And.intro hc hu);obtain ⟨q, hq⟩ : ∃ q, decide (u ∈ cl) = q := ⟨_, rfl⟩;rw [hq] at HHI;have HQ := Hd hq;generalize cl.length = ncl at *;have h01 : (k : Int) < (m : Int) := by omega
     have hk0 : (0 : Int) ≤ (k : Int) := Int.natCast_nonneg _;have hwk : IntKind.i64.wrap ((k : Int) + 1) = (k : Int) + 1 := IntWalk.i64_in _ (by omega);clear hrw hc hu hown hc2 hcc hq;go_upto_region 9 with (fail)
     have RD0 := Hd fun wq (hSw : Only [] wr wq) => aI ((hSw.cell (p := ⟨b, off + k, none⟩) hb (by simp)).trans HE0.out) (aI ((hSw.cell (p := ⟨b2, o2 + k, none⟩) hb2 (by simp)).trans HE1.out) (aI (Nat.lt_of_lt_of_le hb hSw.size) (Nat.lt_of_lt_of_le hb2 hSw.size)));refine rg1 [] [] wr ?_;have OW : Only [] wr wr.drew := (Only.refl [] wr).drew;generalize wr.drew = wz at *;refine tQ 0 (h := tQ 1 (h := tQ 2 (h := trq 3 0 RD0 (h := tQ 4 (h := tQ 5 (h := tQ 6 (h := trq 7 0 RD0 (h := ?_))))))));refine tst (i := 8) fun K hK => ?_;go_simp;refine (HHI.out _ OW).mono ?_;rintro e w5 ⟨rfl, rfl⟩;refine kOut hK (OW) (h := ?_);clear hK K;refine tQ 9 (h := ?_);refine tdn ?_;have HN9 := Hd (hO.out.trans OW);clear OW
     cases q with
     | false =>
      obtain rfl : R = false := by
       rw [HDD.out]
       cases hR : isI C l with
       | false => rfl
       | true => exact absurd (HIF.out.1 hR k u cl HCU.out.2 HCU.out.1) (of_decide_eq_false HQ.out)
      have HO9 := Hd (HO3.out.trans HN9.out);go_wp2
      go_ret
      exact ⟨rfl, HO9.out⟩
     | true =>
      have HP2 : Hid (∀ (p : Nat) u vs, p < k + 1 → l[p]? = some u → C[p]? = some vs → u ∈ vs) := Hd (fun p x vs hp h1 h2 => by
       by_cases e : p = k
       ·subst e;rw [HCU.out.2] at h1;rw [HCU.out.1] at h2
        cases h1
        cases h2
        exact of_decide_eq_true HQ.out
       ·exact hP.out p x vs (by omega) h1 h2)
      go_wp2
      go_roundw
      case rel => exact ⟨k + 1, by go_num, by omega, HP2, HN9⟩
      case measure => simp [intOf]; omega
    ·obtain rfl : k = m := by omega
     obtain rfl : R = true := by
      rw [HDD.out];exact HIF.out.2 (fun p u vs h1 h2 => hP.out p u vs (by have := (List.getElem?_eq_some_iff.1 h1).1; rw [HM.out] at this; exact this) h1 h2)
     have HO9 := Hd (HO3.out.trans hO.out);go_wp2
     go_ret
     exact ⟨rfl, HO9.out⟩
  ·obtain rfl : R = false := by rw [HDD.out, decide_eq_false hmn]; rfl
   have d1 : ((m : Int) != (n : Int)) = true := by simp; omega
   go_wp2
   go_ret
   exact ⟨rfl, HO3.out⟩
end
end Go.Proofs.YthdofaoamljkfaaGreatDoor
namespace Go.Proofs.YthdofaoamljkfaaGreatDoor
open Go.RowKit
theorem ints_any (A : Option Addr) (n c : Nat) (xs : List Value) (w : World) (hr : Row w w.heap.size A xs) (hl : xs.length = n) (h1 : ∀ u ∈ xs, u.oneCell' = true) (hm : n ≤ 1000000) :
  Calls Tryz.prog 7 #[.slice A n c] w fun e w' => ∃ v, e = .returned v ∧ w'.ownsRow w.heap.size 3 1 v n xs ∧ Only [] w w' := by
 obtain ⟨i0, hi, hz0, hz1, hz2⟩ := info_parts info_int;have HR := Hd hr;have HL := Hd hl;clear hr hl;go_enter Tryz.func7, Tryz.ntmps7;go_wp2_with (at_builtin; refine wpList_append_row _ rfl (.tmp 3) (.tmp 4) _ rfl w.heap.size 3 i0 _ 1 8 Tryz.underlying26 hi hz0 hz1 hz2 rfl (by omega) (.slice (some ⟨w.heap.size, 0, none⟩) 0 0) 0 [] rfl (World.ownsRow_lit w #[] 0 (Nat.le_refl _) (by unfold maxLen; omega) rfl) w.heap.size A n c xs rfl (by rw [HL.out, Nat.mul_one]) (HR.out.only ((Only.refl [] _).alloc _) (by simp)) h1 (by unfold maxLen; omega) (by omega) (by simp) ?_; intro v w1 hown hgrow hat)
 go_ret
 refine ⟨v, rfl, by simpa using hown, ((Only.refl [] w).alloc _).step (Only.of_grown (S := [w.heap.size]) hgrow (fun g hg _ => by simp [Value.ownBlock] at hg; simp [hg])) (fun i hi hlt => by simp at hi; omega)⟩
open Go.Lib hiding intOf
attribute [local go_sem ↓] Go.wp_at_zero Go.wp_at_succ
section
variable (A0 A1 A2 : Option Addr) (n0 n1 n2 c0 c1 c2 B : Nat) (h : Hst)
theorem rcount24_any (w : World) (hg : HIn w B A0 A1 A2 n0 n1 n2 h) (hw : wholeB h = true) :
  Calls Tryz.prog 22 #[hval A0 A1 A2 n0 n1 n2 c0 c1 c2] w fun e w' => e = .returned (.int .i64 (cntM (choL h) : Int)) ∧ Only [] w w' := by
 have HRD := Hd (fun w' (O : Only [] w w') => rcho24_any A0 A1 A2 n0 n1 n2 c0 c1 c2 B h w' (hg.same O) (whole_may hw));have hn40 := (may_ops (whole_may hw)).1;have HFW3 := Hd (fun c (hc : c ∈ choL h) => show c.length ≤ 1000 by have h1 := choL_few hc; omega);unfold hval at *;clear hg hw;have HO1 := Hd ((Only.refl [] w).alloc (.cells #[.slice A0 n0 c0, .slice A1 n1 c1, .slice A2 n2 c2] 25));have HB1 := Hd (Blk.made w 25 #[.slice A0 n0 c0, .slice A1 n1 c1, .slice A2 n2 c2]);generalize choL h = C at *;obtain ⟨R, hR⟩ : ∃ R, cntM C = R := ⟨_, rfl⟩;rw [hR];have HDR := Hd hR.symm;clear hR;go_enter Tryz.func22, Tryz.ntmps22;go_upto_region 1 with (fail)
 generalize (w.alloc (.cells #[.slice A0 n0 c0, .slice A1 n1 c1, .slice A2 n2 c2] 25)) = w1 at *;have lB := HB1.out.lt;have y0 := HB1.out.at_ 0;have y1 := HB1.out.at_ 1;have y2 := HB1.out.at_ 2;simp at y0 y1 y2;go_wp2_with fail
 refine (HRD.out _ HO1.out).mono ?_;rintro e w3 ⟨A, cp, xs, ⟨rfl, hV⟩, O3⟩;have HV := Hd hV;have HO3 := Hd (HO1.out.trans O3);clear O3 hV HRD HB1 lB y0 y1 y2;obtain ⟨n, hn⟩ : ∃ n, C.length = n := ⟨_, rfl⟩;have HN := Hd hn;have hnx := HV.out.max;rw [hn] at HV hnx ⊢;unfold maxLen at hnx;clear hn;obtain ⟨wo, hwo⟩ : ∃ wo : World, wo = w3 := ⟨_, rfl⟩;subst hwo;go_wp2_with fail
 go_loopw [4, 5] (fun pv iv wr => ∃ (k P : Nat), iv = .int .i64 (k : Int) ∧ pv = .int .i64 (P : Int) ∧ k ≤ n ∧ Hid (P = cntM (C.take k)) ∧ Hid (Only [] wo wr)) (fun _ iv _ => n - (intOf iv).toNat)
 case atStart => exact ⟨0, 1, rfl, rfl, by omega, Hd rfl, Hd (Only.refl [] wo)⟩
 case round =>
  obtain ⟨k, P, rfl, rfl, hk, hP, hO⟩ := hrel
  by_cases hlt : k < n
  ·obtain ⟨l, hl⟩ : ∃ l, C[k]? = some l := ⟨_, List.getElem?_eq_getElem (by rw [HN.out]; exact hlt)⟩;have hll := HFW3.out l (List.mem_of_getElem? hl);have hP1 : P ≤ 1000000 := by rw [hP.out]; exact cntM_le _
   have HST := Hd (cntM_take hl);rw [← hP.out] at HST;have hrw := HV.out.same hO.out;obtain ⟨b, off, Ak, ck, rfl, hb, hc, -⟩ := hrw.cell (n := n) hl;generalize l.length = m at *;obtain ⟨Q, hQ⟩ : ∃ Q, P * m = Q := ⟨_, rfl⟩;rw [hQ] at HST;have hQ1 : Q ≤ 1000000000 := by
    rw [← hQ];have := Nat.mul_le_mul hP1 hll;omega
   have hmul : IntKind.i64.wrap ((P : Int) * (m : Int)) = (Q : Int) := by
    rw [← hQ, ← Int.natCast_mul];refine IntWalk.i64_in _ ?_;rw [hQ];omega
   obtain ⟨T, hT⟩ : ∃ T, min Q 1000000 = T := ⟨_, rfl⟩;rw [hT] at HST;have hmin : min (Q : Int) 1000000 = (T : Int) := by omega
   have h01 : (k : Int) < (n : Int) := by omega
   have hk0 : (0 : Int) ≤ (k : Int) := Int.natCast_nonneg _;have hwk : IntKind.i64.wrap ((k : Int) + 1) = (k : Int) + 1 := IntWalk.i64_in _ (by omega);clear hrw hl hQ hT hll hQ1;go_wp2
   go_roundw
   case rel => exact ⟨k + 1, T, by go_num, rfl, by omega, Hd HST.out.symm, hO⟩
   case measure => simp [intOf]; omega
  ·obtain rfl : k = n := by omega
   have HE : Hid (R = P) := Hd (by rw [HDR.out, hP.out, List.take_of_length_le (by rw [HN.out]; exact Nat.le_refl _)]);have HO9 := Hd (HO3.out.trans hO.out);go_wp2
   go_ret
   exact ⟨by rw [HE.out]; rfl, HO9.out⟩
end
end Go.Proofs.YthdofaoamljkfaaGreatDoor
