/- Parts. -/
import Derived.Test.YtjfbeeogiejopaaGreatDoorWorldAllCardK46
set_option maxRecDepth 10000
set_option maxHeartbeats 16000000
set_option linter.unusedVariables false
set_option linter.unusedSimpArgs false
namespace Go.Proofs.YtjfbeeogiejopaaGreatDoor
open Go.RowKit
open Go.Lib hiding intOf
attribute [local go_sem ↓] Go.wp_at_zero Go.wp_at_succ
def eqW (x y : Wld) : Bool := decide (x.c = y.c) && decide (x.l = y.l)
theorem eqW_iff {x y : Wld} : eqW x y = true ↔ x = y := by
 obtain ⟨a, b⟩ := x;obtain ⟨c, d⟩ := y;unfold eqW;simp
theorem take_eq_succ {α : Type} {l m : List α} {k : Nat} {a b : α} (ha : l[k]? = some a) (hb : m[k]? = some b) : l.take (k + 1) = m.take (k + 1) ↔ l.take k = m.take k ∧ a = b := by
 have h1 := (List.getElem?_eq_some_iff.1 ha).1;have h2 := (List.getElem?_eq_some_iff.1 hb).1;rw [List.take_add_one, List.take_add_one, ha, hb]
 constructor
 ·intro h;have h3 := List.append_inj h (by rw [List.length_take, List.length_take]; omega);exact ⟨h3.1, by simpa using h3.2⟩
 ·rintro ⟨h3, rfl⟩;rw [h3]
theorem ne_at {α : Type} {l m : List α} {k : Nat} {a b : α} (ha : l[k]? = some a) (hb : m[k]? = some b) (hn : a ≠ b) : l ≠ m := by
 rintro rfl;rw [ha] at hb;exact hn (Option.some.inj hb)
theorem rsame16_any (Aa Ab Ac Ad : Option Addr) (na nb nc nd ca cb cc cd Ba Bb Bc Bd : Nat) (x y : Wld) (w : World) (ha : Row w Ba Aa (x.c.map Value.bool)) (hb : Row w Bb Ab (edgeC x.l)) (hc : Row w Bc Ac (y.c.map Value.bool)) (hd : Row w Bd Ad (edgeC y.l)) (hla : x.c.length = na) (hlb : x.l.length = nb) (hlc : y.c.length = nc) (hld : y.l.length = nd) (hM : na ≤ 100000) (hM2 : nb ≤ 100000) :
  Calls Tryz.prog 34 #[.agg #[.slice Aa na ca, .slice Ab nb cb], .agg #[.slice Ac nc cc, .slice Ad nd cd]] w fun e w' => e = .returned (.bool (eqW x y)) ∧ Only [] w w' := by
 have HRA := Hd ha;have HRB := Hd hb;have HRC := Hd hc;have HRD := Hd hd;have HLA := Hd hla;have HLB := Hd hlb;have HLC := Hd hlc;have HLD := Hd hld;clear ha hb hc hd hla hlb hlc hld;obtain ⟨xc, xl⟩ := x;obtain ⟨yc, yl⟩ := y;dsimp only at *;obtain ⟨bb, hbb⟩ : ∃ bb, bb = eqW ⟨xc, xl⟩ ⟨yc, yl⟩ := ⟨_, rfl⟩;rw [← hbb];have HBF : Hid ((xc ≠ yc ∨ xl ≠ yl) → bb = false) := Hd (fun h => by
  rw [hbb];unfold eqW;rcases h with h | h <;> simp [h])
 have HBT : Hid (xc = yc → xl = yl → bb = true) := Hd (fun h1 h2 => by
  rw [hbb];unfold eqW;simp [h1, h2])
 clear hbb;have HO1 := Hd (((Only.refl [] w).alloc (.cells #[.slice Aa na ca, .slice Ab nb cb] 51)).alloc (.cells #[.slice Ac nc cc, .slice Ad nd cd] 51));have HX1 := Hd ((Blk.made w 51 #[.slice Aa na ca, .slice Ab nb cb]).alloc (.cells #[.slice Ac nc cc, .slice Ad nd cd] 51));have HY1 := Hd (Blk.made (w.alloc (.cells #[.slice Aa na ca, .slice Ab nb cb] 51)) 51 #[.slice Ac nc cc, .slice Ad nd cd]);simp only [World.size_alloc] at HY1;go_enter Tryz.func34, Tryz.ntmps34;go_upto_region 1 with (fail)
 generalize ((w.alloc (.cells #[.slice Aa na ca, .slice Ab nb cb] 51)).alloc (.cells #[.slice Ac nc cc, .slice Ad nd cd] 51)) = w1 at *;generalize hgy : w.heap.size + 1 = gy at *;generalize hgg : w.heap.size = g at *;have lHX_ := HX1.out.lt;have x0 := HX1.out.at_ 0;have x1 := HX1.out.at_ 1;have lHY_ := HY1.out.lt;have y0 := HY1.out.at_ 0;have y1 := HY1.out.at_ 1;simp at x0 x1 y0 y1
 by_cases e1 : na = nc
 ·by_cases e2 : nb = nd
  ·subst e1 e2;go_upto_region 3 with (fail)
   clear lHX_ lHY_ x0 x1 y0 y1;go_wp2_with fail
   go_loopw [5] (fun iv wr => ∃ k : Nat, iv = .int .i64 (k : Int) ∧ k ≤ na ∧ Hid (xc.take k = yc.take k) ∧ Hid (Blk wr g 51 #[.slice Aa na ca, .slice Ab nb cb]) ∧ Hid (Blk wr gy 51 #[.slice Ac na cc, .slice Ad nb cd]) ∧ Hid (Only [] w wr)) (fun iv _ => na - (intOf iv).toNat)
   case atStart => exact ⟨0, rfl, by omega, Hd rfl, HX1, HY1, HO1⟩
   case round =>
    obtain ⟨k, rfl, hk, hn, hX, hY, hO⟩ := hrel;clear HX1 HY1 HO1;have lhX_ := hX.out.lt;have x0 := hX.out.at_ 0;have x1 := hX.out.at_ 1;have lhY_ := hY.out.lt;have y0 := hY.out.at_ 0;have y1 := hY.out.at_ 1;simp at x0 x1 y0 y1
    by_cases hlt : k < na
    ·obtain ⟨u, hu⟩ : ∃ u, xc[k]? = some u := ⟨_, List.getElem?_eq_getElem (by rw [HLA.out]; exact hlt)⟩;obtain ⟨v, hv⟩ : ∃ v, yc[k]? = some v := ⟨_, List.getElem?_eq_getElem (by rw [HLC.out]; exact hlt)⟩;obtain ⟨b1, o1, rfl, -, hb1, hc1⟩ := (HRA.out.only hO.out (by simp)).open_ (k := k) (by rw [List.length_map, HLA.out]; exact hlt);obtain ⟨b2, o2, rfl, -, hb2, hc2⟩ := (HRC.out.only hO.out (by simp)).open_ (k := k) (by rw [List.length_map, HLC.out]; exact hlt);have HU := Hd (hc1 k _ (by rw [List.getElem?_map, hu]; rfl));have HV := Hd (hc2 k _ (by rw [List.getElem?_map, hv]; rfl));have HTE := Hd (take_eq_succ hu hv);have HNE := Hd (ne_at hu hv);have h01 : (k : Int) < (na : Int) := by omega
     have hk0 : (0 : Int) ≤ (k : Int) := Int.natCast_nonneg _;have hwk : IntKind.i64.wrap ((k : Int) + 1) = (k : Int) + 1 := IntWalk.i64_in _ (by omega);clear hc1 hc2 hu hv;go_upto_region 6 with (fail)
     clear lhX_ lhY_ x0 x1 y0 y1
     by_cases huv : u = v
     ·subst huv;have HN1 := Hd (HTE.out.2 ⟨hn.out, rfl⟩);clear HTE HNE hn;have RD0 := Hd fun wq (hSw : Only [] wr wq) => And.intro (Bk2 (hSw.blk hX.out (by simp))) (And.intro (Bk2 (hSw.blk hY.out (by simp))) (And.intro ((hSw.cell (p := ⟨b1, o1 + k, none⟩) hb1 (by simp)).trans HU.out) ((hSw.cell (p := ⟨b2, o2 + k, none⟩) hb2 (by simp)).trans HV.out)));refine wp_region_noPanic ?_;refine wp_region_timed (F := [⟨[], [], fun w' => Only [] wr w'⟩]) (by kernel_rfl) (th1 ((Only.refl [] wr).drew)) ?_;have OW : Only [] wr wr.drew := (Only.refl [] wr).drew;generalize wr.drew = wz at *;refine tp (i := 0) ?_;(try simp only [tdz]);refine trd (i := 1) (v := ?_) 0 ?_ ?_;rotate_left
      ·(intro wq q; obtain ⟨⟨lb_X, x0, x1⟩, ⟨lb_Y, y0, y1⟩, u0, v0⟩ := RD0.out wq q; simp at x0 x1; simp at y0 y1; clear q; go_simp; try with_reducible rfl)
      (try simp only [tdz]);refine tp (i := 2) ?_;(try simp only [tdz]);refine tp (i := 3) ?_;(try simp only [tdz]);refine trd (i := 4) (v := ?_) 0 ?_ ?_;rotate_left
      ·(intro wq q; obtain ⟨⟨lb_X, x0, x1⟩, ⟨lb_Y, y0, y1⟩, u0, v0⟩ := RD0.out wq q; simp at x0 x1; simp at y0 y1; clear q; go_simp; try with_reducible rfl)
      (try simp only [tdz]);refine tp (i := 5) ?_;(try simp only [tdz]);refine trd (i := 6) (v := ?_) 0 ?_ ?_;rotate_left
      ·(intro wq q; obtain ⟨⟨lb_X, x0, x1⟩, ⟨lb_Y, y0, y1⟩, u0, v0⟩ := RD0.out wq q; simp at x0 x1; simp at y0 y1; clear q; go_simp; try with_reducible rfl)
      (try simp only [tdz]);refine tp (i := 7) ?_;(try simp only [tdz]);refine tp (i := 8) ?_;(try simp only [tdz]);refine trd (i := 9) (v := ?_) 0 ?_ ?_;rotate_left
      ·(intro wq q; obtain ⟨⟨lb_X, x0, x1⟩, ⟨lb_Y, y0, y1⟩, u0, v0⟩ := RD0.out wq q; simp at x0 x1; simp at y0 y1; clear q; go_simp; try with_reducible rfl)
      (try simp only [tdz]);refine tp (i := 10) ?_;(try simp only [tdz]);refine timed_done (by kernel_rfl) ?_ _;refine NoPanic.normal ?_;have hX9 := Hd (OW.blk hX.out (by simp));have hY9 := Hd (OW.blk hY.out (by simp));have hO9 := Hd (hO.out.trans OW);clear OW hX hY hO HU HV;go_wp2
      go_roundw
      case rel => exact ⟨k + 1, by go_num, by omega, HN1, hX9, hY9, hO9⟩
      case measure => simp [intOf]; omega
     ·have d1 : (u == v) = false := by simp [huv]
      have d2 : (u != v) = true := by simp [huv]
      have HE := Hd (HBF.out (.inl (HNE.out huv)));clear HTE HNE huv;have RD0 := Hd fun wq (hSw : Only [] wr wq) => And.intro (Bk2 (hSw.blk hX.out (by simp))) (And.intro (Bk2 (hSw.blk hY.out (by simp))) (And.intro ((hSw.cell (p := ⟨b1, o1 + k, none⟩) hb1 (by simp)).trans HU.out) ((hSw.cell (p := ⟨b2, o2 + k, none⟩) hb2 (by simp)).trans HV.out)));refine wp_region_noPanic ?_;refine wp_region_timed (F := [⟨[], [], fun w' => Only [] wr w'⟩]) (by kernel_rfl) (th1 ((Only.refl [] wr).drew)) ?_;have OW : Only [] wr wr.drew := (Only.refl [] wr).drew;generalize wr.drew = wz at *;refine tp (i := 0) ?_;(try simp only [tdz]);refine trd (i := 1) (v := ?_) 0 ?_ ?_;rotate_left
      ·(intro wq q; obtain ⟨⟨lb_X, x0, x1⟩, ⟨lb_Y, y0, y1⟩, u0, v0⟩ := RD0.out wq q; simp at x0 x1; simp at y0 y1; clear q; go_simp; try with_reducible rfl)
      (try simp only [tdz]);refine tp (i := 2) ?_;(try simp only [tdz]);refine tp (i := 3) ?_;(try simp only [tdz]);refine trd (i := 4) (v := ?_) 0 ?_ ?_;rotate_left
      ·(intro wq q; obtain ⟨⟨lb_X, x0, x1⟩, ⟨lb_Y, y0, y1⟩, u0, v0⟩ := RD0.out wq q; simp at x0 x1; simp at y0 y1; clear q; go_simp; try with_reducible rfl)
      (try simp only [tdz]);refine tp (i := 5) ?_;(try simp only [tdz]);refine trd (i := 6) (v := ?_) 0 ?_ ?_;rotate_left
      ·(intro wq q; obtain ⟨⟨lb_X, x0, x1⟩, ⟨lb_Y, y0, y1⟩, u0, v0⟩ := RD0.out wq q; simp at x0 x1; simp at y0 y1; clear q; go_simp; try with_reducible rfl)
      (try simp only [tdz]);refine tp (i := 7) ?_;(try simp only [tdz]);refine tp (i := 8) ?_;(try simp only [tdz]);refine trd (i := 9) (v := ?_) 0 ?_ ?_;rotate_left
      ·(intro wq q; obtain ⟨⟨lb_X, x0, x1⟩, ⟨lb_Y, y0, y1⟩, u0, v0⟩ := RD0.out wq q; simp at x0 x1; simp at y0 y1; clear q; go_simp; try with_reducible rfl)
      (try simp only [tdz]);refine tp (i := 10) ?_;(try simp only [tdz]);refine timed_done (by kernel_rfl) ?_ _;refine NoPanic.normal ?_;have hO9 := Hd (hO.out.trans OW);clear OW hX hY hO HU HV;go_wp2
      go_ret
      exact ⟨by rw [HE.out]; rfl, hO9.out⟩
    ·have hkn : na = k := by omega
     subst hkn;have hd2 : decide ((na : Int) < (na : Int)) = false := by simp
     have HCE : Hid (xc = yc) := Hd (by
      have := hn.out
      rwa [List.take_of_length_le (by rw [HLA.out]; exact Nat.le_refl _), List.take_of_length_le (by rw [HLC.out]; exact Nat.le_refl _)] at this)
     clear hn;go_upto_region 8 with (fail)
     clear lhX_ lhY_ x0 x1 y0 y1;obtain ⟨wo, hwo⟩ : ∃ wo : World, wo = wr := ⟨_, rfl⟩;subst hwo;go_wp2_with fail
     go_loopw [6] (fun iv wr => ∃ k : Nat, iv = .int .i64 (k : Int) ∧ k ≤ nb ∧ Hid (xl.take k = yl.take k) ∧ Hid (Blk wr g 51 #[.slice Aa na ca, .slice Ab nb cb]) ∧ Hid (Blk wr gy 51 #[.slice Ac na cc, .slice Ad nb cd]) ∧ Hid (Only [] w wr)) (fun iv _ => nb - (intOf iv).toNat)
     case atStart => exact ⟨0, rfl, by omega, Hd rfl, hX, hY, hO⟩
     case round =>
      clear hX hY hO;obtain ⟨k, rfl, hk, hn, hX, hY, hO⟩ := hrel;have lhX_ := hX.out.lt;have x0 := hX.out.at_ 0;have x1 := hX.out.at_ 1;have lhY_ := hY.out.lt;have y0 := hY.out.at_ 0;have y1 := hY.out.at_ 1;simp at x0 x1 y0 y1
      by_cases hlt : k < nb
      ·obtain ⟨u, hu⟩ : ∃ u, xl[k]? = some u := ⟨_, List.getElem?_eq_getElem (by rw [HLB.out]; exact hlt)⟩;obtain ⟨v, hv⟩ : ∃ v, yl[k]? = some v := ⟨_, List.getElem?_eq_getElem (by rw [HLD.out]; exact hlt)⟩;obtain ⟨b1, o1, rfl, -, hb1, h10, h11⟩ := row_val (HRB.out.only hO.out (by simp)) hu;obtain ⟨b2, o2, rfl, -, hb2, h20, h21⟩ := row_val (HRD.out.only hO.out (by simp)) hv;have HU0 := Hd h10;have HU1 := Hd h11;have HV0 := Hd h20;have HV1 := Hd h21;have HTE := Hd (take_eq_succ hu hv);have HNE := Hd (ne_at hu hv);have h01 : (k : Int) < (nb : Int) := by omega
       have hk0 : (0 : Int) ≤ (k : Int) := Int.natCast_nonneg _;have hwk : IntKind.i64.wrap ((k : Int) + 1) = (k : Int) + 1 := IntWalk.i64_in _ (by omega);obtain ⟨u1, u2⟩ := u;obtain ⟨v1, v2⟩ := v;dsimp only at HU0 HU1 HV0 HV1;clear h10 h11 h20 h21 hu hv;go_upto_region 11 with (fail)
       clear lhX_ lhY_ x0 x1 y0 y1;have hcase : (u1 = v1 ∧ u2 = v2) ∨ (((u1, u2) : V2) ≠ (v1, v2) ∧ ((u1 == v1) = false ∨ ((u1 == v1) = true ∧ (u2 == v2) = false))) := by
        by_cases e0 : u1 = v1
        ·by_cases e1 : u2 = v2
         ·exact .inl ⟨e0, e1⟩
         ·exact .inr ⟨by simp [e1], .inr ⟨by simp [e0], by simp [e1]⟩⟩
        ·exact .inr ⟨by simp [e0], .inl (by simp [e0])⟩
       rcases hcase with ⟨rfl, rfl⟩ | ⟨hne, hcase⟩
       ·have HN1 := Hd (HTE.out.2 ⟨hn.out, rfl⟩);clear HTE HNE hn;have RD0 := Hd fun wq (hSw : Only [] wr wq) => And.intro (Bk2 (hSw.blk hX.out (by simp))) (And.intro (Bk2 (hSw.blk hY.out (by simp))) (And.intro ((hSw.cell (p := ⟨b1, o1 + k * 2, none⟩) hb1 (by simp)).trans HU0.out) (And.intro ((hSw.cell (p := ⟨b1, o1 + k * 2 + 1, none⟩) hb1 (by simp)).trans HU1.out) (And.intro ((hSw.cell (p := ⟨b2, o2 + k * 2, none⟩) hb2 (by simp)).trans HV0.out) ((hSw.cell (p := ⟨b2, o2 + k * 2 + 1, none⟩) hb2 (by simp)).trans HV1.out)))));refine wp_region_noPanic ?_;refine wp_region_timed (F := [⟨[], [], fun w' => Only [] wr w'⟩]) (by kernel_rfl) (th1 ((Only.refl [] wr).drew)) ?_;have OW : Only [] wr wr.drew := (Only.refl [] wr).drew;generalize wr.drew = wz at *;refine tp (i := 0) ?_;(try simp only [tdz]);refine trd (i := 1) (v := ?_) 0 ?_ ?_;rotate_left
        ·(intro wq q; obtain ⟨⟨lb_X, x0, x1⟩, ⟨lb_Y, y0, y1⟩, u0, u1, v0, v1⟩ := RD0.out wq q; simp at x0 x1; simp at y0 y1; clear q; go_simp; try with_reducible rfl)
        (try simp only [tdz]);refine tp (i := 2) ?_;(try simp only [tdz]);refine tp (i := 3) ?_;(try simp only [tdz]);refine trd (i := 4) (v := ?_) 0 ?_ ?_;rotate_left
        ·(intro wq q; obtain ⟨⟨lb_X, x0, x1⟩, ⟨lb_Y, y0, y1⟩, u0, u1, v0, v1⟩ := RD0.out wq q; simp at x0 x1; simp at y0 y1; clear q; go_simp; try with_reducible rfl)
        (try simp only [tdz]);refine tp (i := 5) ?_;(try simp only [tdz]);refine trd (i := 6) (v := ?_) 0 ?_ ?_;rotate_left
        ·(intro wq q; obtain ⟨⟨lb_X, x0, x1⟩, ⟨lb_Y, y0, y1⟩, u0, u1, v0, v1⟩ := RD0.out wq q; simp at x0 x1; simp at y0 y1; clear q; go_simp; try with_reducible rfl)
        (try simp only [tdz]);refine tp (i := 7) ?_;(try simp only [tdz]);refine tp (i := 8) ?_;(try simp only [tdz]);refine trd (i := 9) (v := ?_) 0 ?_ ?_;rotate_left
        ·(intro wq q; obtain ⟨⟨lb_X, x0, x1⟩, ⟨lb_Y, y0, y1⟩, u0, u1, v0, v1⟩ := RD0.out wq q; simp at x0 x1; simp at y0 y1; clear q; go_simp; try with_reducible rfl)
        (try simp only [tdz]);refine tp (i := 10) ?_;(try simp only [tdz]);refine timed_done (by kernel_rfl) ?_ _;refine NoPanic.normal ?_;have hX9 := Hd (OW.blk hX.out (by simp));have hY9 := Hd (OW.blk hY.out (by simp));have hO9 := Hd (hO.out.trans OW);clear OW hX hY hO HU0 HU1 HV0 HV1;go_wp2
        go_roundw
        case rel => exact ⟨k + 1, by go_num, by omega, HN1, hX9, hY9, hO9⟩
        case measure => simp [intOf]; omega
       ·have HE := Hd (HBF.out (.inr (HNE.out hne)));clear HTE HNE hne;rcases hcase with hc0 | ⟨hc0, hc1⟩
        ·skip;have RD0 := Hd fun wq (hSw : Only [] wr wq) => And.intro (Bk2 (hSw.blk hX.out (by simp))) (And.intro (Bk2 (hSw.blk hY.out (by simp))) (And.intro ((hSw.cell (p := ⟨b1, o1 + k * 2, none⟩) hb1 (by simp)).trans HU0.out) (And.intro ((hSw.cell (p := ⟨b1, o1 + k * 2 + 1, none⟩) hb1 (by simp)).trans HU1.out) (And.intro ((hSw.cell (p := ⟨b2, o2 + k * 2, none⟩) hb2 (by simp)).trans HV0.out) ((hSw.cell (p := ⟨b2, o2 + k * 2 + 1, none⟩) hb2 (by simp)).trans HV1.out)))));refine wp_region_noPanic ?_;refine wp_region_timed (F := [⟨[], [], fun w' => Only [] wr w'⟩]) (by kernel_rfl) (th1 ((Only.refl [] wr).drew)) ?_;have OW : Only [] wr wr.drew := (Only.refl [] wr).drew;generalize wr.drew = wz at *;refine tp (i := 0) ?_;(try simp only [tdz]);refine trd (i := 1) (v := ?_) 0 ?_ ?_;rotate_left
         ·(intro wq q; obtain ⟨⟨lb_X, x0, x1⟩, ⟨lb_Y, y0, y1⟩, u0, u1, v0, v1⟩ := RD0.out wq q; simp at x0 x1; simp at y0 y1; clear q; go_simp; try with_reducible rfl)
         (try simp only [tdz]);refine tp (i := 2) ?_;(try simp only [tdz]);refine tp (i := 3) ?_;(try simp only [tdz]);refine trd (i := 4) (v := ?_) 0 ?_ ?_;rotate_left
         ·(intro wq q; obtain ⟨⟨lb_X, x0, x1⟩, ⟨lb_Y, y0, y1⟩, u0, u1, v0, v1⟩ := RD0.out wq q; simp at x0 x1; simp at y0 y1; clear q; go_simp; try with_reducible rfl)
         (try simp only [tdz]);refine tp (i := 5) ?_;(try simp only [tdz]);refine trd (i := 6) (v := ?_) 0 ?_ ?_;rotate_left
         ·(intro wq q; obtain ⟨⟨lb_X, x0, x1⟩, ⟨lb_Y, y0, y1⟩, u0, u1, v0, v1⟩ := RD0.out wq q; simp at x0 x1; simp at y0 y1; clear q; go_simp; try with_reducible rfl)
         (try simp only [tdz]);refine tp (i := 7) ?_;(try simp only [tdz]);refine tp (i := 8) ?_;(try simp only [tdz]);refine trd (i := 9) (v := ?_) 0 ?_ ?_;rotate_left
         ·(intro wq q; obtain ⟨⟨lb_X, x0, x1⟩, ⟨lb_Y, y0, y1⟩, u0, u1, v0, v1⟩ := RD0.out wq q; simp at x0 x1; simp at y0 y1; clear q; go_simp; try with_reducible rfl)
         (try simp only [tdz]);refine tp (i := 10) ?_;(try simp only [tdz]);refine timed_done (by kernel_rfl) ?_ _;refine NoPanic.normal ?_;have hO9 := Hd (hO.out.trans OW);clear OW hX hY hO HU0 HU1 HV0 HV1;go_wp2
         go_ret
         exact ⟨by rw [HE.out]; rfl, hO9.out⟩
        ·skip;have RD0 := Hd fun wq (hSw : Only [] wr wq) => And.intro (Bk2 (hSw.blk hX.out (by simp))) (And.intro (Bk2 (hSw.blk hY.out (by simp))) (And.intro ((hSw.cell (p := ⟨b1, o1 + k * 2, none⟩) hb1 (by simp)).trans HU0.out) (And.intro ((hSw.cell (p := ⟨b1, o1 + k * 2 + 1, none⟩) hb1 (by simp)).trans HU1.out) (And.intro ((hSw.cell (p := ⟨b2, o2 + k * 2, none⟩) hb2 (by simp)).trans HV0.out) ((hSw.cell (p := ⟨b2, o2 + k * 2 + 1, none⟩) hb2 (by simp)).trans HV1.out)))));refine wp_region_noPanic ?_;refine wp_region_timed (F := [⟨[], [], fun w' => Only [] wr w'⟩]) (by kernel_rfl) (th1 ((Only.refl [] wr).drew)) ?_;have OW : Only [] wr wr.drew := (Only.refl [] wr).drew;generalize wr.drew = wz at *;refine tp (i := 0) ?_;(try simp only [tdz]);refine trd (i := 1) (v := ?_) 0 ?_ ?_;rotate_left
         ·(intro wq q; obtain ⟨⟨lb_X, x0, x1⟩, ⟨lb_Y, y0, y1⟩, u0, u1, v0, v1⟩ := RD0.out wq q; simp at x0 x1; simp at y0 y1; clear q; go_simp; try with_reducible rfl)
         (try simp only [tdz]);refine tp (i := 2) ?_;(try simp only [tdz]);refine tp (i := 3) ?_;(try simp only [tdz]);refine trd (i := 4) (v := ?_) 0 ?_ ?_;rotate_left
         ·(intro wq q; obtain ⟨⟨lb_X, x0, x1⟩, ⟨lb_Y, y0, y1⟩, u0, u1, v0, v1⟩ := RD0.out wq q; simp at x0 x1; simp at y0 y1; clear q; go_simp; try with_reducible rfl)
         (try simp only [tdz]);refine tp (i := 5) ?_;(try simp only [tdz]);refine trd (i := 6) (v := ?_) 0 ?_ ?_;rotate_left
         ·(intro wq q; obtain ⟨⟨lb_X, x0, x1⟩, ⟨lb_Y, y0, y1⟩, u0, u1, v0, v1⟩ := RD0.out wq q; simp at x0 x1; simp at y0 y1; clear q; go_simp; try with_reducible rfl)
         (try simp only [tdz]);refine tp (i := 7) ?_;(try simp only [tdz]);refine tp (i := 8) ?_;(try simp only [tdz]);refine trd (i := 9) (v := ?_) 0 ?_ ?_;rotate_left
         ·(intro wq q; obtain ⟨⟨lb_X, x0, x1⟩, ⟨lb_Y, y0, y1⟩, u0, u1, v0, v1⟩ := RD0.out wq q; simp at x0 x1; simp at y0 y1; clear q; go_simp; try with_reducible rfl)
         (try simp only [tdz]);refine tp (i := 10) ?_;(try simp only [tdz]);refine timed_done (by kernel_rfl) ?_ _;refine NoPanic.normal ?_;have hO9 := Hd (hO.out.trans OW);clear OW hX hY hO HU0 HU1 HV0 HV1;go_wp2
         go_ret
         exact ⟨by rw [HE.out]; rfl, hO9.out⟩
      ·have hkn : nb = k := by omega
       subst hkn;have hd3 : decide ((nb : Int) < (nb : Int)) = false := by simp
       have HLE : Hid (xl = yl) := Hd (by
        have := hn.out
        rwa [List.take_of_length_le (by rw [HLB.out]; exact Nat.le_refl _), List.take_of_length_le (by rw [HLD.out]; exact Nat.le_refl _)] at this)
       have HE := Hd (HBT.out HCE.out HLE.out);clear hn;go_wp2
       go_ret
       exact ⟨by rw [HE.out]; rfl, hO.out⟩
  ·have HE := Hd (HBF.out (.inr (fun h => e2 (by rw [← HLB.out, ← HLD.out, h]))));subst e1;have q1 : ((nb : Int) == (nd : Int)) = false := by simp; omega
   have q2 : ((nb : Int) != (nd : Int)) = true := by simp; omega
   have q3 : (nb == nd) = false := by simp; omega
   have q4 : (nb != nd) = true := by simp; omega
   have q5 : decide (nb = nd) = false := by simp; omega
   go_wp2
   go_ret
   exact ⟨by rw [HE.out]; rfl, HO1.out⟩
 ·have HE := Hd (HBF.out (.inl (fun h => e1 (by rw [← HLA.out, ← HLC.out, h]))));have q1 : ((na : Int) == (nc : Int)) = false := by simp; omega
  have q2 : ((na : Int) != (nc : Int)) = true := by simp; omega
  have q3 : (na == nc) = false := by simp; omega
  have q4 : (na != nc) = true := by simp; omega
  have q5 : decide (na = nc) = false := by simp; omega
  go_wp2
  go_ret
  exact ⟨by rw [HE.out]; rfl, HO1.out⟩
end Go.Proofs.YtjfbeeogiejopaaGreatDoor
