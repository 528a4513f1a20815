/- Parts. -/
import Derived.Test.YtjfbeeogiejopaaGreatDoorWorldAllCardK45
import Derived.Test.YtjfbeeogiejopaaGreatDoorWorldAllCardK16
set_option maxRecDepth 10000
set_option maxHeartbeats 16000000
set_option linter.unusedVariables false
set_option linter.unusedSimpArgs false
namespace Go.Proofs.YtjfbeeogiejopaaGreatDoor
open Go.RowKit
open Go.Lib hiding intOf
attribute [local go_sem ↓] Go.wp_at_zero Go.wp_at_succ
theorem idxE_take_succ {α : Type} [BEq α] [LawfulBEq α] [DecidableEq α] {vs : List α} {x y : α} {q : Nat} (hy : vs[q]? = some y) (hn : idxE (vs.take q) x < 0) : idxE (vs.take (q + 1)) x = if y = x then (q : Int) else -1 := by
 have hm : ¬ x ∈ vs.take q := by
  have := idxE_mem (vs.take q) x;rw [decide_eq_false (by omega)] at this
  simpa using this.symm
 have hno : ∀ j, j < q → ∀ z, (vs.take (q + 1))[j]? = some z → z ≠ x := by
  intro j hj z hz e;subst e;rw [List.getElem?_take] at hz;rw [if_pos (by omega)] at hz;exact hm (List.mem_of_getElem? (i := j) (by rw [List.getElem?_take, if_pos hj]; exact hz))
 have hq : (vs.take (q + 1))[q]? = some y := by rw [List.getElem?_take, if_pos (by omega)]; exact hy
 by_cases h : y = x
 ·rw [if_pos h];exact idxE_at (by rw [hq, h]) hno
 ·rw [if_neg h];refine idxE_none fun j hj z hz => ?_;have hl : (vs.take (q + 1)).length = q + 1 := by have := (List.getElem?_eq_some_iff.1 hy).1; rw [List.length_take]; omega
  rcases Nat.lt_or_ge j q with h1 | h1
  ·exact hno j h1 z hz
  ·have e : j = q := by omega
   subst e;rw [hq] at hz
   cases hz
   exact h
theorem idxE_take_pos {α : Type} [BEq α] [LawfulBEq α] [DecidableEq α] {vs : List α} {x : α} {q : Nat} (h : 0 ≤ idxE (vs.take q) x) : idxE (vs.take q) x = idxE vs x := by
 have hm : x ∈ vs.take q := by
  have := idxE_mem (vs.take q) x;rw [decide_eq_true h] at this
  simpa using this.symm
 have h1 := List.idxOf_lt_length_of_mem hm;have h2 := List.idxOf_lt_length_of_mem (List.mem_of_mem_take hm);unfold idxE;rw [if_pos h1, if_pos h2]
 conv => rhs; rw [← List.take_append_drop q vs]
 rw [List.idxOf_append, if_pos hm]
theorem idxE_bd {α : Type} [BEq α] [LawfulBEq α] (vs : List α) (x : α) : -1 ≤ idxE vs x ∧ idxE vs x < (vs.length : Int) := by
 unfold idxE
 split <;> omega
def placeZ (vals : List (List V2)) (l : List V2) : List Int := List.zipWith (fun vs x => idxE vs x) vals l
theorem placeZ_get {vals : List (List V2)} {l : List V2} {k : Nat} {vs : List V2} {x : V2} (hv : vals[k]? = some vs) (hx : l[k]? = some x) : (placeZ vals l)[k]? = some (idxE vs x) := by
 unfold placeZ;rw [List.getElem?_zipWith, hv, hx]
theorem placeZ_len (vals : List (List V2)) (l : List V2) : (placeZ vals l).length = min vals.length l.length := by simp [placeZ]
theorem placeZ_is : ∀ (vals : List (List V2)) (l : List V2), (placeZ vals l).all (fun z => decide (0 ≤ z)) = isB vals l
 | [], l => by cases l <;> rfl
 | vs :: r, [] => rfl
 | vs :: r, x :: xs => by
  have ih := placeZ_is r xs;unfold placeZ isB at ih ⊢;rw [List.zipWith_cons_cons, List.zip_cons_cons, List.all_cons, List.all_cons, ih, idxE_mem]
theorem vv_get {w : World} {B n cp k : Nat} {A : Option Addr} {xs : List SlA} {x : SlA} (hT : w.ownsRow B 33 1 (.slice A n cp) n (xs.map slC)) (hX : VVown w B xs) (hx : xs[k]? = some x) :
  ∃ bT oT, A = some ⟨bT, oT, none⟩ ∧ B ≤ bT ∧ bT < w.heap.size ∧ w.cell? ⟨bT, oT + k, none⟩ = some (.slice x.A x.l.length x.cp) ∧ Row w w.heap.size x.A (edgeC x.l) := by
 have hk := (List.getElem?_eq_some_iff.1 hx).1;obtain ⟨bT, oT, rfl, -, hb, hc⟩ := (own_row_at hT).1.open_ (k := k) (by rw [List.length_map]; exact hk);exact ⟨bT, oT, rfl, (hT.lt bT rfl).1, hb, hc k _ (by rw [List.getElem?_map, hx]; rfl), (own_row_at (hX x (List.mem_of_getElem? hx))).1⟩
theorem row_val {w : World} {B q : Nat} {A : Option Addr} {l : List V2} {v : V2} (h : Row w B A (edgeC l)) (hv : l[q]? = some v) :
  ∃ b o, A = some ⟨b, o, none⟩ ∧ b < B ∧ b < w.heap.size ∧ w.cell? ⟨b, o + q * 2, none⟩ = some (.int .i64 v.1) ∧ w.cell? ⟨b, o + q * 2 + 1, none⟩ = some (.int .i64 v.2) := by
 have hq := (List.getElem?_eq_some_iff.1 hv).1;obtain ⟨b, o, rfl, hB, hb, hc⟩ := h.open_ (k := q * 2) (by rw [edgeC_len]; omega);have hE := edgeC_get l q v hv;exact ⟨b, o, rfl, hB, hb, hc _ _ hE.1, by rw [Nat.add_assoc]; exact hc _ _ hE.2⟩
theorem rplaces16_any (A0 A1 A2 Ac Al : Option Addr) (n0 n1 n2 nc nl c0 c1 c2 cc cl B Bc Bl : Nat) (h : Hst) (c : List Bool) (l : List V2) (w : World) (hg : HIn w B A0 A1 A2 n0 n1 n2 h) (hm : mayH h = true) (hc : Row w Bc Ac (c.map Value.bool)) (hcl : c.length = nc) (hci : (whichL infoB h.l).length = nc) (hl : Row w Bl Al (edgeC l)) (hll : l.length = nl) (hli : (lostX h.l).length = nl) :
  Calls Tryz.prog 69 #[hval A0 A1 A2 n0 n1 n2 c0 c1 c2, .agg #[.slice Ac nc cc, .slice Al nl cl]] w fun e w' => ∃ V, (e = .returned V ∧ w'.ownsRow w.heap.size 3 1 V nl ((placeZ (allT h c) l).map (Value.int .i64))) ∧ Only [] w w' := by
 obtain ⟨i0, hi, hz0, hz1, hz2⟩ := info_parts info_int;have HTR := Hd (fun w' (O : Only [] w w') => rtries16_any A0 A1 A2 Ac Al n0 n1 n2 nc nl c0 c1 c2 cc cl B Bc h c w' (hg.same O) hm (hc.only O (by simp)) hcl hci);have HAL := Hd ((allT_len h c).trans hli);have HLR := Hd hl;have HLL := Hd hll;have hnl : nl ≤ 40000 := by rw [← hli]; exact lostX_len (may_ops hm).1 (may_ops hm).2.1
 have HFW : Hid (∀ vs ∈ allT h c, vs.length ≤ 1000) := Hd (allT_few (may_ops hm).1 c);generalize allT h c = vals at *;unfold hval at *;clear hg hm hc hcl hci hl hll hli;have HO1 := Hd (((Only.refl [] w).alloc (.cells #[.slice A0 n0 c0, .slice A1 n1 c1, .slice A2 n2 c2] 25)).alloc (.cells #[.slice Ac nc cc, .slice Al nl cl] 51));have HB1 := Hd ((Blk.made w 25 #[.slice A0 n0 c0, .slice A1 n1 c1, .slice A2 n2 c2]).alloc (.cells #[.slice Ac nc cc, .slice Al nl cl] 51));have HW1 := Hd (Blk.made (w.alloc (.cells #[.slice A0 n0 c0, .slice A1 n1 c1, .slice A2 n2 c2] 25)) 51 #[.slice Ac nc cc, .slice Al nl cl]);simp only [World.size_alloc] at HW1;go_enter Tryz.func69, Tryz.ntmps69;go_upto_region 1 with (fail)
 generalize ((w.alloc (.cells #[.slice A0 n0 c0, .slice A1 n1 c1, .slice A2 n2 c2] 25)).alloc (.cells #[.slice Ac nc cc, .slice Al nl cl] 51)) = w1 at *;generalize hgw : w.heap.size + 1 = gw at *;generalize hgg : w.heap.size = g at *;have lHB_ := HB1.out.lt;have y0 := HB1.out.at_ 0;have y1 := HB1.out.at_ 1;have y2 := HB1.out.at_ 2;have lHW_ := HW1.out.lt;have x0 := HW1.out.at_ 0;have x1 := HW1.out.at_ 1;simp at y0 y1 y2 x0 x1;go_wp2_with fail
 refine (HTR.out _ HO1.out).mono ?_;rintro e w2 ⟨VT, ⟨xs, rfl, hxs, hT, hX⟩, O2⟩;clear lHB_ lHW_ y0 y1 y2 x0 x1;rw [HAL.out] at hT;obtain ⟨AT, cT, rfl, -, -, -, -⟩ := own_row hT;have HT2 := Hd hT;have HX2 := Hd hX;have HXS := Hd hxs;have hg1 : g ≤ w1.heap.size := by have := HO1.out.size; omega
 have HO2 := Hd (HO1.out.trans O2);have HW2 := Hd (O2.blk HW1.out (by simp));clear HO1 HW1;clear O2 HB1 HTR hT hX hxs;generalize w1.heap.size = g1 at *;go_upto_region 2 with (fail)
 have hg2 : g ≤ w2.heap.size := by have := HO2.out.size; omega
 have HV3 := Hd (World.ownsRow_lit (base := g) w2 (e := 3) (size := 1) #[] 0 hg2 (by unfold maxLen; omega) rfl);have O3 : Only [] w2 (w2.alloc (.cells #[] 3)) := (Only.refl [] w2).alloc _;have HO3 := Hd (HO2.out.trans O3);have HW3 := Hd (O3.blk HW2.out (by simp));have HT3 := Hd (own_only HT2.out O3 (by simp));have HX3 := Hd (HX2.out.same O3);clear HO2 HW2 HT2 HX2;clear O3;generalize (w2.alloc (.cells #[] 3)) = w3 at *;generalize w2.heap.size = gl at *;go_wp2_with fail
 go_loopw [6, 7] (fun V iv wr => ∃ k : Nat, iv = .int .i64 (k : Int) ∧ k ≤ nl ∧ Hid (wr.ownsRow g 3 1 V k (((placeZ vals l).take k).map (Value.int .i64))) ∧ Hid (VVown wr g1 xs) ∧ Hid (wr.ownsRow g1 33 1 (.slice AT nl cT) nl (xs.map slC)) ∧ Hid (Blk wr gw 51 #[.slice Ac nc cc, .slice Al nl cl]) ∧ Hid (Only [] w wr)) (fun _ iv _ => nl - (intOf iv).toNat)
 case atStart => exact ⟨0, rfl, by omega, HV3, HX3, HT3, HW3, HO3⟩
 case round =>
  obtain ⟨k, rfl, hk, hV, hX, hT, hW, hO⟩ := hrel;clear HV3 HX3 HT3 HW3 HO3
  by_cases hlt : k < nl
  ·have hxl : xs.length = nl := by have := congrArg List.length HXS.out; rw [List.length_map, HAL.out] at this; exact this
   obtain ⟨x, hx⟩ : ∃ x, xs[k]? = some x := ⟨_, List.getElem?_eq_getElem (by omega)⟩;obtain ⟨u, hu⟩ : ∃ u, l[k]? = some u := ⟨_, List.getElem?_eq_getElem (by rw [HLL.out]; exact hlt)⟩;have hxv : vals[k]? = some x.l := by rw [← HXS.out, List.getElem?_map, hx]; rfl
   have hxf := HFW.out _ (List.mem_of_getElem? hxv);have HPG := Hd (placeZ_get hxv hu);obtain ⟨bT, oT, rfl, hbg, hbT, hcT, hrx⟩ := vv_get hT.out hX.out hx;obtain ⟨bl, ol, rfl, -, hbl, hu0, hu1⟩ := row_val (HLR.out.only hO.out (by simp)) hu;have HT0 := Hd hcT;have HU0 := Hd hu0;have HU1 := Hd hu1;have HRX := Hd hrx;obtain ⟨xl, xA, xc⟩ := x;dsimp only at *;obtain ⟨m, hm⟩ : ∃ m, xl.length = m := ⟨_, rfl⟩;rw [hm] at HT0 hxf;have HM := Hd hm;obtain ⟨u1, u2⟩ := u;dsimp only at HU0 HU1;have hk0 : (0 : Int) ≤ (k : Int) := Int.natCast_nonneg _;have h01 : (k : Int) < (nl : Int) := by omega
   have hwk : IntKind.i64.wrap ((k : Int) + 1) = (k : Int) + 1 := IntWalk.i64_in _ (by omega);clear hcT hu0 hu1 hrx hxv hx hu hm;obtain ⟨wo, hwo⟩ : ∃ wo : World, wo = wr := ⟨_, rfl⟩;subst hwo;go_wp2_with fail
   go_loopw [8, 9] (fun av qv wr => ∃ q : Nat, qv = .int .i64 (q : Int) ∧ q ≤ m ∧ av = .int .i64 (idxE (xl.take q) (u1, u2)) ∧ Hid (Only [] wo wr)) (fun _ qv _ => m - (intOf qv).toNat)
   case atStart => exact ⟨0, rfl, by omega, rfl, Hd (Only.refl [] _)⟩
   case round =>
    obtain ⟨q, rfl, hq, rfl, hQ⟩ := hrel;have hTS := Hd (fun y hy hn => idxE_take_succ (vs := xl) (x := ((u1, u2) : V2)) (q := q) (y := y) hy hn);have hTP := Hd (fun hn => idxE_take_pos (vs := xl) (x := ((u1, u2) : V2)) (q := q) hn);have hbd := idxE_bd (xl.take q) ((u1, u2) : V2);have hlen : (xl.take q).length = q := by rw [List.length_take, HM.out]; omega
    rw [hlen] at hbd;obtain ⟨a, ha⟩ : ∃ a, idxE (xl.take q) ((u1, u2) : V2) = a := ⟨_, rfl⟩;have HA := Hd ha;rw [ha] at hTS hTP hbd ⊢;clear ha hlen;obtain ⟨bb, hbb⟩ : ∃ bb, bb = (decide (q < m) && decide (a < 0)) := ⟨_, rfl⟩;have HBB := Hd hbb;clear hbb;have t0 := (hQ.out.cell (p := ⟨bT, oT + k, none⟩) hbT (by simp)).trans HT0.out;have hbT' : bT < wr.heap.size := by have := hQ.out.size; omega
    have hq0 : (0 : Int) ≤ (q : Int) := Int.natCast_nonneg _;go_upto_region 7 with (fail)
    go_cut [30] (fun z wx => z = .bool bb ∧ wx = wr)
    case first =>
     by_cases h1 : q < m
     ·have d1 : (q : Int) < (m : Int) := by omega
      by_cases h2 : a < 0
      ·obtain rfl : bb = true := by rw [HBB.out]; simp [h1, h2]
       have d2 : decide (a < 0) = true := decide_eq_true h2;go_wp2
       go_meet
       exact ⟨rfl, rfl⟩
      ·obtain rfl : bb = false := by rw [HBB.out]; simp [h2]
       have d2 : decide (a < 0) = false := decide_eq_false h2;go_wp2
       go_meet
       exact ⟨rfl, rfl⟩
     ·obtain rfl : bb = false := by rw [HBB.out]; simp [h1]
      have d1 : decide ((q : Int) < (m : Int)) = false := decide_eq_false (by omega);have d1' : decide (q < m) = false := decide_eq_false h1;go_wp2
      go_meet
      exact ⟨rfl, rfl⟩
    case rest =>
     obtain ⟨rfl, rfl⟩ := hcut
     cases bb with
     | true =>
      have hb := HBB.out;have hqm : q < m := by
       by_cases h : q < m
       ·exact h
       ·simp [h] at hb
      have ha0 : a < 0 := by
       by_cases h : a < 0
       ·exact h
       ·simp [h] at hb
      obtain ⟨v, hv⟩ : ∃ v, xl[q]? = some v := ⟨_, List.getElem?_eq_getElem (by rw [HM.out]; exact hqm)⟩;have hts := hTS.out v hv ha0;obtain ⟨bx, ox, rfl, -, hbx, hv0, hv1⟩ := row_val HRX.out hv;have HV0 := Hd hv0;have HV1 := Hd hv1;obtain ⟨v1, v2⟩ := v;dsimp only at HV0 HV1;have hqm' : (q : Int) < (m : Int) := by omega
      have hwq : IntKind.i64.wrap ((q : Int) + 1) = (q : Int) + 1 := IntWalk.i64_in _ (by omega);obtain ⟨z, hz⟩ : ∃ z, z = decide (((v1, v2) : V2) = (u1, u2)) := ⟨_, rfl⟩;have HTS : Hid (idxE (xl.take (q + 1)) ((u1, u2) : V2) = if z = true then (q : Int) else -1) := Hd (by rw [hts, hz]; simp);have am : a = -1 := by omega
      have hcase : (z = true ∧ v1 = u1 ∧ v2 = u2) ∨ (z = false ∧ ((v1 == u1) = false ∨ ((v1 == u1) = true ∧ (v2 == u2) = false))) := by
       by_cases e0 : v1 = u1
       ·by_cases e1 : v2 = u2
        ·exact .inl ⟨by rw [hz]; simp [e0, e1], e0, e1⟩
        ·exact .inr ⟨by rw [hz]; simp [e1], .inr ⟨by simp [e0], by simp [e1]⟩⟩
       ·exact .inr ⟨by rw [hz]; simp [e0], .inl (by simp [e0])⟩
      subst am;clear hz hts hTS hTP hv hv0 hv1 hbd t0 HA HBB hb;have hbl2 : bl < wc.heap.size := by have := hQ.out.size; omega
      have hbx2 : bx < wc.heap.size := by have := hQ.out.size; omega
      have hbT2 : bT < wc.heap.size := hbT';have hWq := Hd (hQ.out.blk hW.out (by simp));have HT1 := Hd ((hQ.out.cell (p := ⟨bT, oT + k, none⟩) hbT (by simp)).trans HT0.out);have HU2 := Hd ((hQ.out.cell (p := ⟨bl, ol + k * 2, none⟩) hbl (by simp)).trans HU0.out);have HU3 := Hd ((hQ.out.cell (p := ⟨bl, ol + k * 2 + 1, none⟩) hbl (by simp)).trans HU1.out);have HV2 := Hd ((hQ.out.cell (p := ⟨bx, ox + q * 2, none⟩) hbx (by simp)).trans HV0.out);have HV3 := Hd ((hQ.out.cell (p := ⟨bx, ox + q * 2 + 1, none⟩) hbx (by simp)).trans HV1.out);go_upto_region 9 with (fail)
      go_cut [45] (fun y wx => y = .bool z ∧ Hid (Only [] wc wx))
      case first =>
       rcases hcase with ⟨rfl, rfl, rfl⟩ | ⟨rfl, hcase | hcase⟩
       ·skip;have RD0 := Hd fun wq (hSw : Only [] wc wq) => And.intro (Bk2 (hSw.blk hWq.out (by simp))) (And.intro ((hSw.cell (p := ⟨bT, oT + k, none⟩) hbT2 (by simp)).trans HT1.out) (And.intro ((hSw.cell (p := ⟨bl, ol + k * 2, none⟩) hbl2 (by simp)).trans HU2.out) (And.intro ((hSw.cell (p := ⟨bl, ol + k * 2 + 1, none⟩) hbl2 (by simp)).trans HU3.out) (And.intro ((hSw.cell (p := ⟨bx, ox + q * 2, none⟩) hbx2 (by simp)).trans HV2.out) ((hSw.cell (p := ⟨bx, ox + q * 2 + 1, none⟩) hbx2 (by simp)).trans HV3.out)))));refine wp_region_noPanic ?_;refine wp_region_timed (F := [⟨[], [], fun w' => Only [] wc w'⟩]) (by kernel_rfl) (th1 ((Only.refl [] wc).drew)) ?_;have OW : Only [] wc wc.drew := (Only.refl [] wc).drew;generalize wc.drew = wz at *;refine tp (i := 0) ?_;(try simp only [tdz]);refine tp (i := 1) ?_;(try simp only [tdz]);refine tp (i := 2) ?_;(try simp only [tdz]);refine trd (i := 3) (v := ?_) 0 ?_ ?_;rotate_left
        ·(intro wq q; obtain ⟨⟨lb_W, x0, x1⟩, t0, e0, e1, f0, f1⟩ := RD0.out wq q; simp at x0 x1; clear q; go_simp; try with_reducible rfl)
        (try simp only [tdz]);refine tp (i := 4) ?_;(try simp only [tdz]);refine tp (i := 5) ?_;(try simp only [tdz]);refine trd (i := 6) (v := ?_) 0 ?_ ?_;rotate_left
        ·(intro wq q; obtain ⟨⟨lb_W, x0, x1⟩, t0, e0, e1, f0, f1⟩ := RD0.out wq q; simp at x0 x1; clear q; go_simp; try with_reducible rfl)
        (try simp only [tdz]);refine tp (i := 7) ?_;(try simp only [tdz]);refine trd (i := 8) (v := ?_) 0 ?_ ?_;rotate_left
        ·(intro wq q; obtain ⟨⟨lb_W, x0, x1⟩, t0, e0, e1, f0, f1⟩ := RD0.out wq q; simp at x0 x1; clear q; go_simp; try with_reducible rfl)
        (try simp only [tdz]);refine tp (i := 9) ?_;(try simp only [tdz]);refine tp (i := 10) ?_;(try simp only [tdz]);refine trd (i := 11) (v := ?_) 0 ?_ ?_;rotate_left
        ·(intro wq q; obtain ⟨⟨lb_W, x0, x1⟩, t0, e0, e1, f0, f1⟩ := RD0.out wq q; simp at x0 x1; clear q; go_simp; try with_reducible rfl)
        (try simp only [tdz]);refine tp (i := 12) ?_;(try simp only [tdz]);refine timed_done (by kernel_rfl) ?_ _;refine NoPanic.normal ?_;go_wp2
        go_meet
        exact ⟨rfl, Hd OW⟩
       ·skip;have RD0 := Hd fun wq (hSw : Only [] wc wq) => And.intro (Bk2 (hSw.blk hWq.out (by simp))) (And.intro ((hSw.cell (p := ⟨bT, oT + k, none⟩) hbT2 (by simp)).trans HT1.out) (And.intro ((hSw.cell (p := ⟨bl, ol + k * 2, none⟩) hbl2 (by simp)).trans HU2.out) (And.intro ((hSw.cell (p := ⟨bl, ol + k * 2 + 1, none⟩) hbl2 (by simp)).trans HU3.out) (And.intro ((hSw.cell (p := ⟨bx, ox + q * 2, none⟩) hbx2 (by simp)).trans HV2.out) ((hSw.cell (p := ⟨bx, ox + q * 2 + 1, none⟩) hbx2 (by simp)).trans HV3.out)))));refine wp_region_noPanic ?_;refine wp_region_timed (F := [⟨[], [], fun w' => Only [] wc w'⟩]) (by kernel_rfl) (th1 ((Only.refl [] wc).drew)) ?_;have OW : Only [] wc wc.drew := (Only.refl [] wc).drew;generalize wc.drew = wz at *;refine tp (i := 0) ?_;(try simp only [tdz]);refine tp (i := 1) ?_;(try simp only [tdz]);refine tp (i := 2) ?_;(try simp only [tdz]);refine trd (i := 3) (v := ?_) 0 ?_ ?_;rotate_left
        ·(intro wq q; obtain ⟨⟨lb_W, x0, x1⟩, t0, e0, e1, f0, f1⟩ := RD0.out wq q; simp at x0 x1; clear q; go_simp; try with_reducible rfl)
        (try simp only [tdz]);refine tp (i := 4) ?_;(try simp only [tdz]);refine tp (i := 5) ?_;(try simp only [tdz]);refine trd (i := 6) (v := ?_) 0 ?_ ?_;rotate_left
        ·(intro wq q; obtain ⟨⟨lb_W, x0, x1⟩, t0, e0, e1, f0, f1⟩ := RD0.out wq q; simp at x0 x1; clear q; go_simp; try with_reducible rfl)
        (try simp only [tdz]);refine tp (i := 7) ?_;(try simp only [tdz]);refine trd (i := 8) (v := ?_) 0 ?_ ?_;rotate_left
        ·(intro wq q; obtain ⟨⟨lb_W, x0, x1⟩, t0, e0, e1, f0, f1⟩ := RD0.out wq q; simp at x0 x1; clear q; go_simp; try with_reducible rfl)
        (try simp only [tdz]);refine tp (i := 9) ?_;(try simp only [tdz]);refine tp (i := 10) ?_;(try simp only [tdz]);refine trd (i := 11) (v := ?_) 0 ?_ ?_;rotate_left
        ·(intro wq q; obtain ⟨⟨lb_W, x0, x1⟩, t0, e0, e1, f0, f1⟩ := RD0.out wq q; simp at x0 x1; clear q; go_simp; try with_reducible rfl)
        (try simp only [tdz]);refine tp (i := 12) ?_;(try simp only [tdz]);refine timed_done (by kernel_rfl) ?_ _;refine NoPanic.normal ?_;go_wp2
        go_meet
        exact ⟨rfl, Hd OW⟩
       ·obtain ⟨hc0, hc1⟩ := hcase;have RD0 := Hd fun wq (hSw : Only [] wc wq) => And.intro (Bk2 (hSw.blk hWq.out (by simp))) (And.intro ((hSw.cell (p := ⟨bT, oT + k, none⟩) hbT2 (by simp)).trans HT1.out) (And.intro ((hSw.cell (p := ⟨bl, ol + k * 2, none⟩) hbl2 (by simp)).trans HU2.out) (And.intro ((hSw.cell (p := ⟨bl, ol + k * 2 + 1, none⟩) hbl2 (by simp)).trans HU3.out) (And.intro ((hSw.cell (p := ⟨bx, ox + q * 2, none⟩) hbx2 (by simp)).trans HV2.out) ((hSw.cell (p := ⟨bx, ox + q * 2 + 1, none⟩) hbx2 (by simp)).trans HV3.out)))));refine wp_region_noPanic ?_;refine wp_region_timed (F := [⟨[], [], fun w' => Only [] wc w'⟩]) (by kernel_rfl) (th1 ((Only.refl [] wc).drew)) ?_;have OW : Only [] wc wc.drew := (Only.refl [] wc).drew;generalize wc.drew = wz at *;refine tp (i := 0) ?_;(try simp only [tdz]);refine tp (i := 1) ?_;(try simp only [tdz]);refine tp (i := 2) ?_;(try simp only [tdz]);refine trd (i := 3) (v := ?_) 0 ?_ ?_;rotate_left
        ·(intro wq q; obtain ⟨⟨lb_W, x0, x1⟩, t0, e0, e1, f0, f1⟩ := RD0.out wq q; simp at x0 x1; clear q; go_simp; try with_reducible rfl)
        (try simp only [tdz]);refine tp (i := 4) ?_;(try simp only [tdz]);refine tp (i := 5) ?_;(try simp only [tdz]);refine trd (i := 6) (v := ?_) 0 ?_ ?_;rotate_left
        ·(intro wq q; obtain ⟨⟨lb_W, x0, x1⟩, t0, e0, e1, f0, f1⟩ := RD0.out wq q; simp at x0 x1; clear q; go_simp; try with_reducible rfl)
        (try simp only [tdz]);refine tp (i := 7) ?_;(try simp only [tdz]);refine trd (i := 8) (v := ?_) 0 ?_ ?_;rotate_left
        ·(intro wq q; obtain ⟨⟨lb_W, x0, x1⟩, t0, e0, e1, f0, f1⟩ := RD0.out wq q; simp at x0 x1; clear q; go_simp; try with_reducible rfl)
        (try simp only [tdz]);refine tp (i := 9) ?_;(try simp only [tdz]);refine tp (i := 10) ?_;(try simp only [tdz]);refine trd (i := 11) (v := ?_) 0 ?_ ?_;rotate_left
        ·(intro wq q; obtain ⟨⟨lb_W, x0, x1⟩, t0, e0, e1, f0, f1⟩ := RD0.out wq q; simp at x0 x1; clear q; go_simp; try with_reducible rfl)
        (try simp only [tdz]);refine tp (i := 12) ?_;(try simp only [tdz]);refine timed_done (by kernel_rfl) ?_ _;refine NoPanic.normal ?_;go_wp2
        go_meet
        exact ⟨rfl, Hd OW⟩
      case rest =>
       obtain ⟨rfl, HQ2⟩ := hcut;have hQ3 := Hd (hQ.out.trans HQ2.out);clear HQ2 hQ hWq HT1 HU2 HU3 HV2 HV3 hcase
       cases z with
       | true =>
        have HN := Hd (HTS.out.trans (if_pos rfl));clear HTS;go_wp2
        go_roundw
        case rel => exact ⟨q + 1, by go_num, by omega, by rw [HN.out], hQ3⟩
        case measure => simp [intOf]; omega
       | false =>
        have HN := Hd (HTS.out.trans (if_neg (by simp)));clear HTS;go_wp2
        go_roundw
        case rel => exact ⟨q + 1, by go_num, by omega, by rw [HN.out], hQ3⟩
        case measure => simp [intOf]; omega
     | false =>
      have hb := HBB.out;have HE : Hid (a = idxE xl (u1, u2)) := Hd (by
       by_cases h1 : q < m
       ·by_cases h2 : a < 0
        ·simp [h1, h2] at hb
        ·exact hTP.out (by omega)
       ·rw [← HA.out, List.take_of_length_le (by rw [HM.out]; omega)])
      clear hb HBB hTS hTP HA t0;have hsz : g ≤ wc.heap.size := by have := hO.out.size; have := hQ.out.size; omega
      have hVq := Hd (own_only hV.out hQ.out (by simp));have hXq := Hd (hX.out.same hQ.out);have hTq := Hd (own_only hT.out hQ.out (by simp));have hWq := Hd (hQ.out.blk hW.out (by simp));have hOq := Hd (hO.out.trans hQ.out);clear hV hX hT hW hO hQ;go_wp2_with (at_builtin; refine wpList_append_row _ rfl (.tmp 47) (.tmp 49) _ rfl g 3 i0 _ 1 8 Tryz.underlying30 hi hz0 hz1 hz2 rfl (by omega) _ _ _ rfl (own_only hVq.out ((Only.refl [] _).alloc _) (by simp)) (wc.heap.size + 1) (some ⟨wc.heap.size, 0, none⟩) 1 1 [.int .i64 a] rfl rfl (row_lit wc 3 #[.int .i64 a]) (by simp [Value.oneCell']) (by unfold maxLen; omega) (by omega) (by simp; omega) ?_; intro v8 w8 hown8 hgrow hat)
      have OA : Only [] wc (wc.alloc (.cells #[.int .i64 a] 3)) := (Only.refl [] wc).alloc _;have OG : Only u6.ownBlock.toList (wc.alloc (.cells #[.int .i64 a] 3)) w8 := only_grown hgrow;have HVa := own_only hVq.out OA (by simp);have HT' : ((placeZ vals l).take (k + 1)).map (Value.int .i64) = ((placeZ vals l).take k).map (Value.int .i64) ++ [.int .i64 a] := by rw [List.take_add_one, HPG.out, HE.out]; simp
      rw [← HT'] at hown8;have hV8 := Hd hown8;have t8 := own_only hTq.out OA (by simp);have hT8 := Hd (own_only t8 OG (own_two t8 HVa (by decide)));have hX8 : Hid (VVown w8 g1 xs) := Hd (fun x hx => by
       have h1 := (hXq.out.same OA) x hx;exact own_only h1 OG (own_two h1 HVa (by decide)))
      have hW8 := Hd (OG.blk (OA.blk hWq.out (by simp)) (own_apart HVa (OA.blk hWq.out (by simp)) (by decide)));have hO8 := Hd ((hOq.out.trans OA).step OG (fun i hi hl => by have := (HVa.lt i (by simpa using hi)).1; omega));clear OA OG HVa HT' hown8 hgrow hat t8 hVq hXq hTq hWq hOq;go_wp2
      go_roundw
      case rel => exact ⟨k + 1, by go_num, by omega, hV8, hX8, hT8, hW8, hO8⟩
      case measure => simp [intOf]; omega
  ·have hkn : k = nl := by omega
   subst hkn;have hd2 : decide ((k : Int) < (k : Int)) = false := by simp
   have hVV := hV.out;rw [List.take_of_length_le (by rw [placeZ_len, HAL.out, HLL.out]; omega)] at hVV;have HVV := Hd hVV;clear hV hVV;go_wp2
   go_ret
   exact ⟨_, ⟨rfl, by rw [hgg]; exact HVV.out⟩, hO.out⟩
theorem rtried16_any (A0 A1 A2 Ac Al : Option Addr) (n0 n1 n2 nc nl c0 c1 c2 cc cl B Bc Bl : Nat) (h : Hst) (x : Wld) (w : World) (hg : HIn w B A0 A1 A2 n0 n1 n2 h) (hc : Row w Bc Ac (x.c.map Value.bool)) (hl : Row w Bl Al (edgeC x.l)) (hcl : x.c.length = nc) (hll : x.l.length = nl) (hM : nl ≤ 100000) :
  Calls Tryz.prog 38 #[hval A0 A1 A2 n0 n1 n2 c0 c1 c2, .agg #[.slice Ac nc cc, .slice Al nl cl]] w fun e w' => e = .returned (.bool (mayW h x && isB (allT h x.c) x.l)) ∧ Only [] w w' := by
 have HMY := Hd (fun w' (O : Only [] w w') => rmay16_any A0 A1 A2 Ac Al n0 n1 n2 nc nl c0 c1 c2 cc cl B Bl h x w' (hg.same O) (hl.only O (by simp)) hcl hll hM);have HPL := Hd (fun w' (O : Only [] w w') (hm : mayW h x = true) => rplaces16_any A0 A1 A2 Ac Al n0 n1 n2 nc nl c0 c1 c2 cc cl B Bc Bl h x.c x.l w' (hg.same O) (mayW_inv hm).1 (hc.only O (by simp)) hcl (by rw [← hcl]; exact (mayW_inv hm).2.1.symm) (hl.only O (by simp)) hll (by rw [← hll]; exact (mayW_inv hm).2.2.1.symm));have HPI := Hd (placeZ_is (allT h x.c) x.l);have HPN : Hid (mayW h x = true → (placeZ (allT h x.c) x.l).length = nl) := Hd (fun hm => by rw [placeZ_len, allT_len, hll, ← (mayW_inv hm).2.2.1, hll, Nat.min_self]);generalize placeZ (allT h x.c) x.l = ps at *;generalize isB (allT h x.c) x.l = tt at *;unfold hval at *;clear hg hc hl hcl hll;have HO1 := Hd (((Only.refl [] w).alloc (.cells #[.slice A0 n0 c0, .slice A1 n1 c1, .slice A2 n2 c2] 25)).alloc (.cells #[.slice Ac nc cc, .slice Al nl cl] 51));have HB1 := Hd ((Blk.made w 25 #[.slice A0 n0 c0, .slice A1 n1 c1, .slice A2 n2 c2]).alloc (.cells #[.slice Ac nc cc, .slice Al nl cl] 51));have HW1 := Hd (Blk.made (w.alloc (.cells #[.slice A0 n0 c0, .slice A1 n1 c1, .slice A2 n2 c2] 25)) 51 #[.slice Ac nc cc, .slice Al nl cl]);simp only [World.size_alloc] at HW1
 cases hm : mayW h x with
 | false =>
  rw [hm] at HMY;clear hm HPL HPI HPN;go_enter Tryz.func38, Tryz.ntmps38;go_upto_region 1 with (fail)
  generalize ((w.alloc (.cells #[.slice A0 n0 c0, .slice A1 n1 c1, .slice A2 n2 c2] 25)).alloc (.cells #[.slice Ac nc cc, .slice Al nl cl] 51)) = w1 at *;generalize hgw : w.heap.size + 1 = gw at *;generalize hgg : w.heap.size = g at *;have lHB_ := HB1.out.lt;have y0 := HB1.out.at_ 0;have y1 := HB1.out.at_ 1;have y2 := HB1.out.at_ 2;have lHW_ := HW1.out.lt;have x0 := HW1.out.at_ 0;have x1 := HW1.out.at_ 1;simp at y0 y1 y2 x0 x1;go_wp2_with fail
  refine (HMY.out _ HO1.out).mono ?_;rintro e w2 ⟨rfl, O2⟩;clear lHB_ lHW_ y0 y1 y2 x0 x1;have HO2 := Hd (HO1.out.trans O2);clear HO1;clear O2;go_wp2
  go_ret
  exact ⟨rfl, HO2.out⟩
 | true =>
  rw [hm] at HMY;have HPL1 := Hd (fun w' O => HPL.out w' O hm);have HPN1 := Hd (HPN.out hm);rw [Bool.true_and];clear hm HPL HPN;go_enter Tryz.func38, Tryz.ntmps38;go_upto_region 1 with (fail)
  generalize ((w.alloc (.cells #[.slice A0 n0 c0, .slice A1 n1 c1, .slice A2 n2 c2] 25)).alloc (.cells #[.slice Ac nc cc, .slice Al nl cl] 51)) = w1 at *;generalize hgw : w.heap.size + 1 = gw at *;generalize hgg : w.heap.size = g at *;have lHB_ := HB1.out.lt;have y0 := HB1.out.at_ 0;have y1 := HB1.out.at_ 1;have y2 := HB1.out.at_ 2;have lHW_ := HW1.out.lt;have x0 := HW1.out.at_ 0;have x1 := HW1.out.at_ 1;simp at y0 y1 y2 x0 x1;go_wp2_with fail
  refine (HMY.out _ HO1.out).mono ?_;rintro e w2 ⟨rfl, O2⟩;clear lHB_ lHW_ y0 y1 y2 x0 x1;have HO2 := Hd (HO1.out.trans O2);have HB2 := Hd (O2.blk HB1.out (by simp));have HW2 := Hd (O2.blk HW1.out (by simp));clear HO1 HB1 HW1;clear O2;have lHB_ := HB2.out.lt;have y0 := HB2.out.at_ 0;have y1 := HB2.out.at_ 1;have y2 := HB2.out.at_ 2;have lHW_ := HW2.out.lt;have x0 := HW2.out.at_ 0;have x1 := HW2.out.at_ 1;simp at y0 y1 y2 x0 x1;go_wp2_with fail
  refine (HPL1.out _ HO2.out).mono ?_;rintro e w3 ⟨V, ⟨rfl, hv⟩, O3⟩;clear lHB_ lHW_ y0 y1 y2 x0 x1;obtain ⟨AV, cV, rfl, -, -, -, hrv⟩ := own_row hv;have HRV := Hd hrv;have HO3 := Hd (HO2.out.trans O3);obtain ⟨Bv, hBv⟩ : ∃ Bv, Bv = w3.heap.size := ⟨_, rfl⟩;rw [← hBv] at HRV;clear hv hrv O3 HO2 HB2 HW2 HPL1 HMY hBv;go_wp2_with fail
  go_loopw [6] (fun iv wr => ∃ k : Nat, iv = .int .i64 (k : Int) ∧ k ≤ nl ∧ Hid ((ps.take k).all (fun z => decide (0 ≤ z)) = true) ∧ Hid (Row wr Bv AV (ps.map (Value.int .i64))) ∧ Hid (Only [] w wr)) (fun iv _ => nl - (intOf iv).toNat)
  case atStart => exact ⟨0, rfl, by omega, Hd rfl, HRV, HO3⟩
  case round =>
   obtain ⟨k, rfl, hk, hn, hV, hO⟩ := hrel;clear HRV HO3
   by_cases hlt : k < nl
   ·obtain ⟨z, hz⟩ : ∃ z, ps[k]? = some z := ⟨_, List.getElem?_eq_getElem (by rw [HPN1.out]; exact hlt)⟩;obtain ⟨b, o, rfl, -, hb, hcz⟩ := hV.out.open_ (k := k) (by rw [List.length_map, HPN1.out]; exact hlt);have z0 := hcz k _ (by rw [List.getElem?_map, hz]; rfl);have HN1 : Hid ((ps.take (k + 1)).all (fun z => decide (0 ≤ z)) = decide (0 ≤ z)) := Hd (by rw [List.take_add_one, hz, List.all_append, hn.out]; simp);have HZ := Hd (List.mem_of_getElem? hz);have h01 : (k : Int) < (nl : Int) := by omega
    have hk0 : (0 : Int) ≤ (k : Int) := Int.natCast_nonneg _;have hwk : IntKind.i64.wrap ((k : Int) + 1) = (k : Int) + 1 := IntWalk.i64_in _ (by omega);clear hcz hz hn
    by_cases hp : z < 0
    ·have d1 : decide (z < 0) = true := decide_eq_true hp;have HE : Hid (tt = false) := Hd (by
      rw [← HPI.out];refine List.all_eq_false.2 ⟨z, HZ.out, by simp; omega⟩)
     go_wp2
     go_ret
     exact ⟨by rw [HE.out]; rfl, hO.out⟩
    ·have d1 : decide (z < 0) = false := decide_eq_false hp;have HN2 : Hid ((ps.take (k + 1)).all (fun z => decide (0 ≤ z)) = true) := Hd (by rw [HN1.out]; simp; omega);clear hp HN1;go_wp2
     go_roundw
     case rel => exact ⟨k + 1, by go_num, by omega, HN2, hV, hO⟩
     case measure => simp [intOf]; omega
   ·have hkn : k = nl := by omega
    subst hkn;have hd2 : decide ((k : Int) < (k : Int)) = false := by simp
    have HE : Hid (tt = true) := Hd (by
     have := hn.out;rw [List.take_of_length_le (by rw [HPN1.out]; exact Nat.le_refl _)] at this;rw [← HPI.out, this])
    clear hn;go_wp2
    go_ret
    exact ⟨by rw [HE.out]; rfl, hO.out⟩
end Go.Proofs.YtjfbeeogiejopaaGreatDoor
