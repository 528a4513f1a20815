/- Parts. -/
import Derived.Test.YtghimogdeijgdaaGreatDoorLaw17AllK36
set_option maxRecDepth 10000
set_option maxHeartbeats 16000000
set_option linter.unusedVariables false
set_option linter.unusedSimpArgs false
namespace Go.Proofs.YtghimogdeijgdaaGreatDoor
open Go.RowKit
open Go.Lib hiding intOf
attribute [local go_sem ↓] Go.wp_at_zero Go.wp_at_succ
def eqW (x y : Wld) : Bool := decide (x.c = y.c) && decide (x.l = y.l)
theorem take_eq_succ {α : Type} {l m : List α} {k : Nat} {a b : α} (ha : l[k]? = some a) (hb : m[k]? = some b) : l.take (k + 1) = m.take (k + 1) ↔ l.take k = m.take k ∧ a = b := by
 have h1 := (List.getElem?_eq_some_iff.1 ha).1;have h2 := (List.getElem?_eq_some_iff.1 hb).1;rw [List.take_add_one, List.take_add_one, ha, hb]
 constructor
 ·intro h;have h3 := List.append_inj h (by rw [List.length_take, List.length_take]; omega);exact ⟨h3.1, by simpa using h3.2⟩
 ·rintro ⟨h3, rfl⟩;rw [h3]
theorem ne_at {α : Type} {l m : List α} {k : Nat} {a b : α} (ha : l[k]? = some a) (hb : m[k]? = some b) (hn : a ≠ b) : l ≠ m := by
 rintro rfl;rw [ha] at hb;exact hn (Option.some.inj hb)
theorem rsame16_any (Aa Ab Ac Ad : Option Addr) (na nb nc nd ca cb cc cd Ba Bb Bc Bd : Nat) (x y : Wld) (w : World) (ha : Row w Ba Aa (x.c.map Value.bool)) (hb : Row w Bb Ab (edgeC x.l)) (hc : Row w Bc Ac (y.c.map Value.bool)) (hd : Row w Bd Ad (edgeC y.l)) (hla : x.c.length = na) (hlb : x.l.length = nb) (hlc : y.c.length = nc) (hld : y.l.length = nd) (hM : na ≤ 100000) (hM2 : nb ≤ 100000) :
  Calls Tryz.prog 17 #[.agg #[.slice Aa na ca, .slice Ab nb cb], .agg #[.slice Ac nc cc, .slice Ad nd cd]] w fun e w' => e = .returned (.bool (eqW x y)) ∧ Only [] w w' := by
 have HRA := Hd ha;have HRB := Hd hb;have HRC := Hd hc;have HRD := Hd hd;have HLA := Hd hla;have HLB := Hd hlb;have HLC := Hd hlc;have HLD := Hd hld;clear ha hb hc hd hla hlb hlc hld;obtain ⟨xc, xl⟩ := x;obtain ⟨yc, yl⟩ := y;dsimp only at *;obtain ⟨bb, hbb⟩ : ∃ bb, bb = eqW ⟨xc, xl⟩ ⟨yc, yl⟩ := ⟨_, rfl⟩;rw [← hbb];have HBF : Hid ((xc ≠ yc ∨ xl ≠ yl) → bb = false) := Hd (fun h => by
  rw [hbb];unfold eqW;rcases h with h | h <;> simp [h])
 have HBT : Hid (xc = yc → xl = yl → bb = true) := Hd (fun h1 h2 => by
  rw [hbb];unfold eqW;simp [h1, h2])
 clear hbb;have HO1 := Hd (((Only.refl [] w).alloc (.cells #[.slice Aa na ca, .slice Ab nb cb] 29)).alloc (.cells #[.slice Ac nc cc, .slice Ad nd cd] 29));have HX1 := Hd ((Blk.made w 29 #[.slice Aa na ca, .slice Ab nb cb]).alloc (.cells #[.slice Ac nc cc, .slice Ad nd cd] 29));have HY1 := Hd (Blk.made (w.alloc (.cells #[.slice Aa na ca, .slice Ab nb cb] 29)) 29 #[.slice Ac nc cc, .slice Ad nd cd]);simp only [World.size_alloc] at HY1;go_enter Tryz.func17, Tryz.ntmps17;go_upto_region 1 with (fail)
 generalize ((w.alloc (.cells #[.slice Aa na ca, .slice Ab nb cb] 29)).alloc (.cells #[.slice Ac nc cc, .slice Ad nd cd] 29)) = w1 at *;generalize hgy : w.heap.size + 1 = gy at *;generalize hgg : w.heap.size = g at *;have lHX_ := HX1.out.lt;have x0 := HX1.out.at_ 0;have x1 := HX1.out.at_ 1;have lHY_ := HY1.out.lt;have y0 := HY1.out.at_ 0;have y1 := HY1.out.at_ 1;simp at x0 x1 y0 y1
 by_cases e1 : na = nc
 ·by_cases e2 : nb = nd
  ·subst e1 e2;go_upto_region 3 with (fail)
   clear lHX_ lHY_ x0 x1 y0 y1;go_wp2_with fail
   go_loopw [5] (fun iv wr => ∃ k : Nat, iv = .int .i64 (k : Int) ∧ k ≤ na ∧ Hid (xc.take k = yc.take k) ∧ Hid (Blk wr g 29 #[.slice Aa na ca, .slice Ab nb cb]) ∧ Hid (Blk wr gy 29 #[.slice Ac na cc, .slice Ad nb cd]) ∧ Hid (Only [] w wr)) (fun iv _ => na - (intOf iv).toNat)
   case atStart => exact ⟨0, rfl, by omega, Hd rfl, HX1, HY1, HO1⟩
   case round =>
    obtain ⟨k, rfl, hk, hn, hX, hY, hO⟩ := hrel;clear HX1 HY1 HO1;have lhX_ := hX.out.lt;have x0 := hX.out.at_ 0;have x1 := hX.out.at_ 1;have lhY_ := hY.out.lt;have y0 := hY.out.at_ 0;have y1 := hY.out.at_ 1;simp at x0 x1 y0 y1
    by_cases hlt : k < na
    ·obtain ⟨u, hu⟩ : ∃ u, xc[k]? = some u := ⟨_, List.getElem?_eq_getElem (by rw [HLA.out]; exact hlt)⟩;obtain ⟨v, hv⟩ : ∃ v, yc[k]? = some v := ⟨_, List.getElem?_eq_getElem (by rw [HLC.out]; exact hlt)⟩;obtain ⟨b1, o1, rfl, -, hb1, hc1⟩ := (HRA.out.only hO.out (by simp)).open_ (k := k) (by rw [List.length_map, HLA.out]; exact hlt);obtain ⟨b2, o2, rfl, -, hb2, hc2⟩ := (HRC.out.only hO.out (by simp)).open_ (k := k) (by rw [List.length_map, HLC.out]; exact hlt);have HU := Hd (hc1 k _ (by rw [List.getElem?_map, hu]; rfl));have HV := Hd (hc2 k _ (by rw [List.getElem?_map, hv]; rfl));have HTE := Hd (take_eq_succ hu hv);have HNE := Hd (ne_at hu hv);have h01 : (k : Int) < (na : Int) := by omega
     have hk0 : (0 : Int) ≤ (k : Int) := Int.natCast_nonneg _;have hwk : IntKind.i64.wrap ((k : Int) + 1) = (k : Int) + 1 := IntWalk.i64_in _ (by omega);clear hc1 hc2 hu hv;go_upto_region 6 with (fail)
     clear lhX_ lhY_ x0 x1 y0 y1
     by_cases huv : u = v
     ·subst huv;have HN1 := Hd (HTE.out.2 ⟨hn.out, rfl⟩);clear HTE HNE hn;have RD0 := Hd fun wq (hSw : Only [] wr wq) => aI (Bk2 (hSw.blk hX.out (by simp))) (aI (Bk2 (hSw.blk hY.out (by simp))) (aI ((hSw.cell (p := ⟨b1, o1 + k, none⟩) hb1 (by simp)).trans HU.out) ((hSw.cell (p := ⟨b2, o2 + k, none⟩) hb2 (by simp)).trans HV.out)));refine rg1 [] [] wr ?_;have OW : Only [] wr wr.drew := (Only.refl [] wr).drew;generalize wr.drew = wz at *;refine tQ 0 (h := trq 1 0 RD0 (h := tQ 2 (h := tQ 3 (h := trq 4 0 RD0 (h := tQ 5 (h := trq 6 0 RD0 (h := tQ 7 (h := tQ 8 (h := trq 9 0 RD0 (h := tQ 10 (h := ?_)))))))))));refine tdn ?_;have hX9 := Hd (OW.blk hX.out (by simp));have hY9 := Hd (OW.blk hY.out (by simp));have hO9 := Hd (hO.out.trans OW);clear OW hX hY hO HU HV;go_wp2
      go_roundw
      case rel => exact ⟨k + 1, by go_num, by omega, HN1, hX9, hY9, hO9⟩
      case measure => simp [intOf]; omega
     ·have d1 : (u == v) = false := by simp [huv]
      have d2 : (u != v) = true := by simp [huv]
      have HE := Hd (HBF.out (.inl (HNE.out huv)));clear HTE HNE huv;have RD0 := Hd fun wq (hSw : Only [] wr wq) => aI (Bk2 (hSw.blk hX.out (by simp))) (aI (Bk2 (hSw.blk hY.out (by simp))) (aI ((hSw.cell (p := ⟨b1, o1 + k, none⟩) hb1 (by simp)).trans HU.out) ((hSw.cell (p := ⟨b2, o2 + k, none⟩) hb2 (by simp)).trans HV.out)));refine rg1 [] [] wr ?_;have OW : Only [] wr wr.drew := (Only.refl [] wr).drew;generalize wr.drew = wz at *;refine tQ 0 (h := trq 1 0 RD0 (h := tQ 2 (h := tQ 3 (h := trq 4 0 RD0 (h := tQ 5 (h := trq 6 0 RD0 (h := tQ 7 (h := tQ 8 (h := trq 9 0 RD0 (h := tQ 10 (h := ?_)))))))))));refine tdn ?_;have hO9 := Hd (hO.out.trans OW);clear OW hX hY hO HU HV;go_wp2
      go_ret
      exact ⟨by rw [HE.out]; rfl, hO9.out⟩
    ·have hkn : na = k := by omega
     subst hkn;have hd2 : decide ((na : Int) < (na : Int)) = false := by simp
     have HCE : Hid (xc = yc) := Hd (by
      have := hn.out
      rwa [List.take_of_length_le (by rw [HLA.out]; exact Nat.le_refl _), List.take_of_length_le (by rw [HLC.out]; exact Nat.le_refl _)] at this)
     clear hn;go_upto_region 8 with (fail)
     clear lhX_ lhY_ x0 x1 y0 y1;obtain ⟨wo, hwo⟩ : ∃ wo : World, wo = wr := ⟨_, rfl⟩;subst hwo;go_wp2_with fail
     go_loopw [6] (fun iv wr => ∃ k : Nat, iv = .int .i64 (k : Int) ∧ k ≤ nb ∧ Hid (xl.take k = yl.take k) ∧ Hid (Blk wr g 29 #[.slice Aa na ca, .slice Ab nb cb]) ∧ Hid (Blk wr gy 29 #[.slice Ac na cc, .slice Ad nb cd]) ∧ Hid (Only [] w wr)) (fun iv _ => nb - (intOf iv).toNat)
     case atStart => exact ⟨0, rfl, by omega, Hd rfl, hX, hY, hO⟩
     case round =>
      clear hX hY hO;obtain ⟨k, rfl, hk, hn, hX, hY, hO⟩ := hrel;have lhX_ := hX.out.lt;have x0 := hX.out.at_ 0;have x1 := hX.out.at_ 1;have lhY_ := hY.out.lt;have y0 := hY.out.at_ 0;have y1 := hY.out.at_ 1;simp at x0 x1 y0 y1
      by_cases hlt : k < nb
      ·obtain ⟨u, hu⟩ : ∃ u, xl[k]? = some u := ⟨_, List.getElem?_eq_getElem (by rw [HLB.out]; exact hlt)⟩;obtain ⟨v, hv⟩ : ∃ v, yl[k]? = some v := ⟨_, List.getElem?_eq_getElem (by rw [HLD.out]; exact hlt)⟩;obtain ⟨b1, o1, rfl, -, hb1, h10, h11⟩ := row_val (HRB.out.only hO.out (by simp)) hu;obtain ⟨b2, o2, rfl, -, hb2, h20, h21⟩ := row_val (HRD.out.only hO.out (by simp)) hv;have HU0 := Hd h10;have HU1 := Hd h11;have HV0 := Hd h20;have HV1 := Hd h21;have HTE := Hd (take_eq_succ hu hv);have HNE := Hd (ne_at hu hv);have h01 : (k : Int) < (nb : Int) := by omega
       have hk0 : (0 : Int) ≤ (k : Int) := Int.natCast_nonneg _;have hwk : IntKind.i64.wrap ((k : Int) + 1) = (k : Int) + 1 := IntWalk.i64_in _ (by omega);obtain ⟨u1, u2⟩ := u;obtain ⟨v1, v2⟩ := v;dsimp only at HU0 HU1 HV0 HV1;clear h10 h11 h20 h21 hu hv;go_upto_region 11 with (fail)
       clear lhX_ lhY_ x0 x1 y0 y1;have hcase : (u1 = v1 ∧ u2 = v2) ∨ (((u1, u2) : V2) ≠ (v1, v2) ∧ ((u1 == v1) = false ∨ ((u1 == v1) = true ∧ (u2 == v2) = false))) := by
        by_cases e0 : u1 = v1
        ·by_cases e1 : u2 = v2
         ·exact .inl ⟨e0, e1⟩
         ·exact .inr ⟨by simp [e1], .inr ⟨by simp [e0], by simp [e1]⟩⟩
        ·exact .inr ⟨by simp [e0], .inl (by simp [e0])⟩
       rcases hcase with ⟨rfl, rfl⟩ | ⟨hne, hcase⟩
       ·have HN1 := Hd (HTE.out.2 ⟨hn.out, rfl⟩);clear HTE HNE hn;have RD0 := Hd fun wq (hSw : Only [] wr wq) => aI (Bk2 (hSw.blk hX.out (by simp))) (aI (Bk2 (hSw.blk hY.out (by simp))) (aI ((hSw.cell (p := ⟨b1, o1 + k * 2, none⟩) hb1 (by simp)).trans HU0.out) (aI ((hSw.cell (p := ⟨b1, o1 + k * 2 + 1, none⟩) hb1 (by simp)).trans HU1.out) (aI ((hSw.cell (p := ⟨b2, o2 + k * 2, none⟩) hb2 (by simp)).trans HV0.out) ((hSw.cell (p := ⟨b2, o2 + k * 2 + 1, none⟩) hb2 (by simp)).trans HV1.out)))));refine rg1 [] [] wr ?_;have OW : Only [] wr wr.drew := (Only.refl [] wr).drew;generalize wr.drew = wz at *;refine tQ 0 (h := trq 1 0 RD0 (h := tQ 2 (h := tQ 3 (h := trq 4 0 RD0 (h := tQ 5 (h := trq 6 0 RD0 (h := tQ 7 (h := tQ 8 (h := trq 9 0 RD0 (h := tQ 10 (h := ?_)))))))))));refine tdn ?_;have hX9 := Hd (OW.blk hX.out (by simp));have hY9 := Hd (OW.blk hY.out (by simp));have hO9 := Hd (hO.out.trans OW);clear OW hX hY hO HU0 HU1 HV0 HV1;go_wp2
        go_roundw
        case rel => exact ⟨k + 1, by go_num, by omega, HN1, hX9, hY9, hO9⟩
        case measure => simp [intOf]; omega
       ·have HE := Hd (HBF.out (.inr (HNE.out hne)));clear HTE HNE hne;rcases hcase with hc0 | ⟨hc0, hc1⟩
        ·have RD0 := Hd fun wq (hSw : Only [] wr wq) => aI (Bk2 (hSw.blk hX.out (by simp))) (aI (Bk2 (hSw.blk hY.out (by simp))) (aI ((hSw.cell (p := ⟨b1, o1 + k * 2, none⟩) hb1 (by simp)).trans HU0.out) (aI ((hSw.cell (p := ⟨b1, o1 + k * 2 + 1, none⟩) hb1 (by simp)).trans HU1.out) (aI ((hSw.cell (p := ⟨b2, o2 + k * 2, none⟩) hb2 (by simp)).trans HV0.out) ((hSw.cell (p := ⟨b2, o2 + k * 2 + 1, none⟩) hb2 (by simp)).trans HV1.out)))));refine rg1 [] [] wr ?_;have OW : Only [] wr wr.drew := (Only.refl [] wr).drew;generalize wr.drew = wz at *;refine tQ 0 (h := trq 1 0 RD0 (h := tQ 2 (h := tQ 3 (h := trq 4 0 RD0 (h := tQ 5 (h := trq 6 0 RD0 (h := tQ 7 (h := tQ 8 (h := trq 9 0 RD0 (h := tQ 10 (h := ?_)))))))))));refine tdn ?_;have hO9 := Hd (hO.out.trans OW);clear OW hX hY hO HU0 HU1 HV0 HV1;go_wp2
         go_ret
         exact ⟨by rw [HE.out]; rfl, hO9.out⟩
        ·have RD0 := Hd fun wq (hSw : Only [] wr wq) => aI (Bk2 (hSw.blk hX.out (by simp))) (aI (Bk2 (hSw.blk hY.out (by simp))) (aI ((hSw.cell (p := ⟨b1, o1 + k * 2, none⟩) hb1 (by simp)).trans HU0.out) (aI ((hSw.cell (p := ⟨b1, o1 + k * 2 + 1, none⟩) hb1 (by simp)).trans HU1.out) (aI ((hSw.cell (p := ⟨b2, o2 + k * 2, none⟩) hb2 (by simp)).trans HV0.out) ((hSw.cell (p := ⟨b2, o2 + k * 2 + 1, none⟩) hb2 (by simp)).trans HV1.out)))));refine rg1 [] [] wr ?_;have OW : Only [] wr wr.drew := (Only.refl [] wr).drew;generalize wr.drew = wz at *;refine tQ 0 (h := trq 1 0 RD0 (h := tQ 2 (h := tQ 3 (h := trq 4 0 RD0 (h := tQ 5 (h := trq 6 0 RD0 (h := tQ 7 (h := tQ 8 (h := trq 9 0 RD0 (h := tQ 10 (h := ?_)))))))))));refine tdn ?_;have hO9 := Hd (hO.out.trans OW);clear OW hX hY hO HU0 HU1 HV0 HV1;go_wp2
         go_ret
         exact ⟨by rw [HE.out]; rfl, hO9.out⟩
      ·have hkn : nb = k := by omega
       subst hkn;have hd3 : decide ((nb : Int) < (nb : Int)) = false := by simp
       have HLE : Hid (xl = yl) := Hd (by
        have := hn.out
        rwa [List.take_of_length_le (by rw [HLB.out]; exact Nat.le_refl _), List.take_of_length_le (by rw [HLD.out]; exact Nat.le_refl _)] at this)
       have HE := Hd (HBT.out HCE.out HLE.out);clear hn;go_wp2
       go_ret
       exact ⟨by rw [HE.out]; rfl, hO.out⟩
  ·have HE := Hd (HBF.out (.inr (fun h => e2 (by rw [← HLB.out, ← HLD.out, h]))));subst e1;have q1 : ((nb : Int) == (nd : Int)) = false := by simp; omega
   have q2 : ((nb : Int) != (nd : Int)) = true := by simp; omega
   have q3 : (nb == nd) = false := by simp; omega
   have q4 : (nb != nd) = true := by simp; omega
   have q5 : decide (nb = nd) = false := by simp; omega
   go_wp2
   go_ret
   exact ⟨by rw [HE.out]; rfl, HO1.out⟩
 ·have HE := Hd (HBF.out (.inl (fun h => e1 (by rw [← HLA.out, ← HLC.out, h]))));have q1 : ((na : Int) == (nc : Int)) = false := by simp; omega
  have q2 : ((na : Int) != (nc : Int)) = true := by simp; omega
  have q3 : (na == nc) = false := by simp; omega
  have q4 : (na != nc) = true := by simp; omega
  have q5 : decide (na = nc) = false := by simp; omega
  go_wp2
  go_ret
  exact ⟨by rw [HE.out]; rfl, HO1.out⟩



def fewW (x : Wld) : Wld := ⟨x.c.take 50, x.l.take 50⟩
theorem fewW_few (x : Wld) : fewW (fewW x) = fewW x := by
 unfold fewW;dsimp only;rw [List.take_of_length_le (by rw [List.length_take]; omega), List.take_of_length_le (l := x.l.take 50) (by rw [List.length_take]; omega)]
theorem bslice_to (A : Option Addr) (len c m : Nat) (hm : m ≤ c) (W : World) : (Instr.slice 26 (.slice A len c) none (some (.int .i64 (m : Int))) none).run Tryz.prog W = .ok (.slice A m c) W := by
 rw [run_slice_h (P := Tryz.prog) W 26 A len c (by kernel_rfl) .i64 (m : Int) (by omega) (by omega)];have hs : (sizeOf (Tryz.prog.elem 26)).run Tryz.prog W = .ok 1 W := by kernel_rfl
 rw [hs];simp only [Result.andThen, sliced, Int.toNat_natCast, Nat.sub_zero];rw [own_addz (size := 1)]
theorem vslice_to (A : Option Addr) (len c m : Nat) (hm : m ≤ c) (W : World) : (Instr.slice 27 (.slice A len c) none (some (.int .i64 (m : Int))) none).run Tryz.prog W = .ok (.slice A m c) W := by
 rw [run_slice_h (P := Tryz.prog) W 27 A len c (by kernel_rfl) .i64 (m : Int) (by omega) (by omega)];have hs : (sizeOf (Tryz.prog.elem 27)).run Tryz.prog W = .ok 2 W := by kernel_rfl
 rw [hs];simp only [Result.andThen, sliced, Int.toNat_natCast, Nat.sub_zero];rw [own_addz (size := 2)]
theorem row_pref {w : World} {B : Nat} {A : Option Addr} {xs ys : List Value} (h : Row w B A xs) (hp : ∀ (j : Nat) (u : Value), ys[j]? = some u → xs[j]? = some u) (hl : xs = [] → ys = []) (hs : ys.length ≤ xs.length) : Row w B A ys := by
 rcases h with h | ⟨b, off, hA, hb, hs', hc⟩
 ·exact .inl (hl h)
 ·exact .inr ⟨b, off, hA, hb, hs', fun j u hu => hc j u (hp j u hu)⟩
attribute [-go_sem] Go.run_slice_l Go.run_slice_h Go.run_slice_any Go.run_slice_lh in
theorem fewworld_any (Ac Al : Option Addr) (nc nl cc cl Bc Bl : Nat) (x : Wld) (w : World) (hc : Row w Bc Ac (x.c.map Value.bool)) (hl : Row w Bl Al (edgeC x.l)) (hcl : x.c.length = nc) (hll : x.l.length = nl) (hnc : nc ≤ maxLen) (hnl : nl ≤ maxLen) (hcc : nc ≤ cc) (hcl' : nl ≤ cl) :
  Calls Tryz.prog 7 #[.agg #[.slice Ac nc cc, .slice Al nl cl]] w fun e w' => ∃ A1 A2 e1 e2, (e = .returned (.agg #[.slice A1 (fewW x).c.length e1, .slice A2 (fewW x).l.length e2]) ∧ w'.ownsRow w.heap.size 4 1 (.slice A1 (fewW x).c.length e1) (fewW x).c.length ((fewW x).c.map Value.bool) ∧ w'.ownsRow w.heap.size 53 2 (.slice A2 (fewW x).l.length e2) (fewW x).l.length (edgeC (fewW x).l)) ∧ Only [] w w' := by
 obtain ⟨ib, hib, hb0, hb1, hb2⟩ := info_parts info_bl;obtain ⟨iv, hiv, hv0, hv1, hv2⟩ := info_parts info_val;unfold maxLen at hnc hnl;obtain ⟨xc, xl⟩ := x;dsimp only at *;have HCR : Hid (Row w Bc Ac ((xc.take 50).map Value.bool)) := Hd (row_pref hc (fun j u hu => by
  rw [List.getElem?_map, List.getElem?_take] at hu;rw [List.getElem?_map]
  split at hu
  ·exact hu
  ·simp at hu) (fun h => by simp at h; simp [h]) (by simp; omega))
 have HLR : Hid (Row w Bl Al (edgeC (xl.take 50))) := Hd (row_pref hl (fun j u hu => by
  rw [edgeC_take, List.getElem?_take] at hu
  split at hu
  ·exact hu
  ·simp at hu) (fun h => by rw [edgeC_take, h]; simp) (by rw [edgeC_take, List.length_take]; omega))
 obtain ⟨mc, hmc⟩ : ∃ mc, (xc.take 50).length = mc := ⟨_, rfl⟩;obtain ⟨ml, hml⟩ : ∃ ml, (xl.take 50).length = ml := ⟨_, rfl⟩;have HMC := Hd hmc;have HML := Hd hml;rw [List.length_take, hcl] at hmc;rw [List.length_take, hll] at hml;have m1 : min (nc : Int) 50 = (mc : Int) := by omega
 have m2 : min (nl : Int) 50 = (ml : Int) := by omega
 have hsc := fun W => bslice_to Ac nc cc mc (by omega) W;have hsl := fun W => vslice_to Al nl cl ml (by omega) W;unfold fewW;dsimp only;rw [HMC.out, HML.out];have hmc50 : mc ≤ 50 := by omega
 have hml50 : ml ≤ 50 := by omega
 generalize xc.take 50 = yc at *;generalize xl.take 50 = yl at *;clear hc hl hcl hll hmc hml hcc hcl';have HO1 := Hd (((Only.refl [] w).alloc (.cells #[.slice Ac nc cc, .slice Al nl cl] 29)).alloc (.cells #[.slice none 0 0, .slice none 0 0] 29));have HW1 := Hd ((Blk.made w 29 #[.slice Ac nc cc, .slice Al nl cl]).alloc (.cells #[.slice none 0 0, .slice none 0 0] 29));have HR1 := Hd (Blk.made (w.alloc (.cells #[.slice Ac nc cc, .slice Al nl cl] 29)) 29 #[.slice none 0 0, .slice none 0 0]);simp only [World.size_alloc] at HR1;go_enter Tryz.func7, Tryz.ntmps7;go_upto_region 1 with (fail)
 generalize ((w.alloc (.cells #[.slice Ac nc cc, .slice Al nl cl] 29)).alloc (.cells #[.slice none 0 0, .slice none 0 0] 29)) = w1 at *;generalize hgr : w.heap.size + 1 = gr at *;generalize hgg : w.heap.size = g at *;have hg1 : g ≤ w1.heap.size := by have := HO1.out.size; omega
 have RD0 := Hd fun wq (hSw : Only [] w1 wq) => Bk2 (hSw.blk HW1.out (by simp));refine rg1 [19] [] w1 ?_;have OW : Only [] w1 w1.drew := (Only.refl [] w1).drew;generalize hwz : w1.drew = wz at *;clear hwz;refine tQ 1 (h := trq 2 0 RD0 (h := tQ 3 (h := trq 4 0 RD0 (h := tQ 5 (h := tQ 6 (h := tQ 7 (h := tQ 10 (h := trq 11 0 RD0 (h := tQ 12 (h := trq 13 0 RD0 (h := tQ 14 (h := tQ 15 (h := tQ 16 (h := ?_))))))))))))))
 apply cut_4_0_2 (fun w g0 ca g4 cb Aa Ab => (Only [] w1 w) ∧ (w.ownsRow w1.heap.size 4 1 (.slice Aa mc ca) mc (yc.map Value.bool)) ∧ (w.ownsRow w1.heap.size 53 2 (.slice Ab ml cb) ml (edgeC yl)))
 intro HST0_8_9_17
 apply cut_3_0_1 (fun w g0 ca g4 Aa => (Only [] w1 w) ∧ (w.ownsRow w1.heap.size 4 1 (.slice Aa mc ca) mc (yc.map Value.bool)) ∧ (w.ownsRow w1.heap.size 53 2 (.slice (some ⟨g4, 0, none⟩) 0 0) 0 []))
 intro HST0_8_9
 apply cut_2_0 (fun w g0 g4 => (Only [] w1 w) ∧ (w.ownsRow w1.heap.size 4 1 (.slice (some ⟨g0, 0, none⟩) 0 0) 0 []) ∧ (w.ownsRow w1.heap.size 53 2 (.slice (some ⟨g4, 0, none⟩) 0 0) 0 []))
 intro HST0_9
 apply cut_2_0_1 (fun w g0 ca Aa => (Only [] w1 w) ∧ (w.ownsRow w1.heap.size 4 1 (.slice Aa mc ca) mc (yc.map Value.bool)))
 intro HST0_8
 apply cut_1_0 (fun w g4 => (Only [] w1 w) ∧ (w.ownsRow w1.heap.size 53 2 (.slice (some ⟨g4, 0, none⟩) 0 0) 0 []))
 intro HST9
 apply cut_1_0 (fun w g0 => (Only [] w1 w) ∧ (w.ownsRow w1.heap.size 4 1 (.slice (some ⟨g0, 0, none⟩) 0 0) 0 []))
 intro HST0
 ·refine timed_forks (l := [0, 9]) (by kernel_rfl) (by simp) (fork_cons ⟨_, rfl, fun K hK => ?_⟩ (fork_cons ⟨_, rfl, fun K hK => ?_⟩ (fork_nil)))
  ·go_simp;obtain ⟨OS, OWn, OLn⟩ := lit_go 4 1 OW;generalize wz.alloc (.cells #[] 4) = wn at *;generalize wz.heap.size = g0 at *;refine kOut hK (OWn) (h := ?_);clear hK K;exact HST0 wn g0 ⟨OWn, OLn⟩
  ·go_simp;obtain ⟨OS, OWn, OLn⟩ := lit_go 53 2 OW;generalize wz.alloc (.cells #[] 53) = wn at *;generalize wz.heap.size = g4 at *;refine kOut hK (OWn) (h := ?_);clear hK K;exact HST9 wn g4 ⟨OWn, OLn⟩
 ·intro wz g0 ⟨OW, OL0⟩;refine timed_forks (l := [8, 9]) (by kernel_rfl) (by simp) (fork_cons ⟨_, rfl, fun K hK => ?_⟩ (fork_cons ⟨_, rfl, fun K hK => ?_⟩ (fork_nil)))
  ·refine step_append_row _ rfl (.tmp 3) (.tmp 10) 26 rfl w1.heap.size 4 ib _ 1 1 Tryz.underlying26 hib hb0 hb1 hb2 rfl (by omega) _ 0 [] (by rfl) OL0 _ _ (mc) (cc) (yc.map Value.bool) (by rfl) (by rw [List.length_map, HMC.out, Nat.mul_one]) (HCR.out.only (HO1.out.trans OW) (by simp)) (fun u hu => by simp at hu; rcases hu with ⟨-, rfl⟩ | ⟨-, rfl⟩ <;> rfl) (by unfold maxLen; omega) (by omega) OW.size ?_;intro a wn OVn hgrow _;obtain ⟨OG, OWn, Aa, ca, rfl, OVm⟩ := app_go OL0 OW OVn hgrow;refine kOut hK (OWn) (h := ?_);clear hK K;exact HST0_8 wn g0 ca Aa ⟨OWn, OVm⟩
  ·go_simp;obtain ⟨OS, OWn, OLn⟩ := lit_go 53 2 OW;generalize wz.alloc (.cells #[] 53) = wn at *;generalize wz.heap.size = g4 at *;refine kOut hK (OWn) (h := ?_);clear hK K;exact HST0_9 wn g0 g4 ⟨OWn, own_only OL0 OS (by simp), OLn⟩
 ·intro wz g4 ⟨OW, OL9⟩;refine tst (i := 0) fun K hK => ?_;go_simp;obtain ⟨OS, OWn, OLn⟩ := lit_go 4 1 OW;generalize wz.alloc (.cells #[] 4) = wn at *;generalize wz.heap.size = g0 at *;refine kOut hK (OWn) (h := ?_);clear hK K;exact HST0_9 wn g0 g4 ⟨OWn, OLn, own_only OL9 OS (by simp)⟩
 ·intro wz g0 ca Aa ⟨OW, OV8⟩;refine tst (i := 9) fun K hK => ?_;go_simp;obtain ⟨OS, OWn, OLn⟩ := lit_go 53 2 OW;generalize wz.alloc (.cells #[] 53) = wn at *;generalize wz.heap.size = g4 at *;refine kOut hK (OWn) (h := ?_);clear hK K;exact HST0_8_9 wn g0 ca g4 Aa ⟨OWn, own_only OV8 OS (by simp), OLn⟩
 ·intro wz g0 g4 ⟨OW, OL0, OL9⟩;refine tst (i := 8) fun K hK => ?_;refine step_append_row _ rfl (.tmp 3) (.tmp 10) 26 rfl w1.heap.size 4 ib _ 1 1 Tryz.underlying26 hib hb0 hb1 hb2 rfl (by omega) _ 0 [] (by rfl) OL0 _ _ (mc) (cc) (yc.map Value.bool) (by rfl) (by rw [List.length_map, HMC.out, Nat.mul_one]) (HCR.out.only (HO1.out.trans OW) (by simp)) (fun u hu => by simp at hu; rcases hu with ⟨-, rfl⟩ | ⟨-, rfl⟩ <;> rfl) (by unfold maxLen; omega) (by omega) OW.size ?_;intro a wn OVn hgrow _;obtain ⟨OG, OWn, Aa, ca, rfl, OVm⟩ := app_go OL0 OW OVn hgrow;refine kOut hK (OWn) (h := ?_);clear hK K;exact HST0_8_9 wn g0 ca g4 Aa ⟨OWn, OVm, own_only OL9 OG (own_two OL9 OL0 (by decide))⟩
 ·intro wz g0 ca g4 Aa ⟨OW, OV8, OL9⟩;refine tst (i := 17) fun K hK => ?_;refine step_append_row _ rfl (.tmp 12) (.tmp 19) 27 rfl w1.heap.size 53 iv _ 2 16 Tryz.underlying27 hiv hv0 hv1 hv2 rfl (by omega) _ 0 [] (by rfl) OL9 _ _ (ml) (cl) (edgeC yl) (by rfl) (by rw [edgeC_len, HML.out]) (HLR.out.only (HO1.out.trans OW) (by simp)) (one_edgeC _) (by unfold maxLen; omega) (by omega) OW.size ?_;intro b wn OVn hgrow _;obtain ⟨OG, OWn, Ab, cb, rfl, OVm⟩ := app_go OL9 OW OVn hgrow;refine kOut hK (OWn) (h := ?_);clear hK K;refine tQ 18 (h := ?_);exact HST0_8_9_17 wn g0 ca g4 cb Aa Ab ⟨OWn, own_only OV8 OG (own_two OV8 OL9 (by decide)), OVm⟩
 -- behind all of the crowd
 intro wz g0 ca g4 cb Aa Ab ⟨OW, OV8, OV17⟩;refine tst (i := 19) fun K hK => ?_;have hr1 := OW.blk HR1.out (by simp);refine wp_store_blk 29 (.tmp 2) (.tmp 21) rfl gr 29 _ #[.slice Aa mc ca, .slice Ab ml cb] rfl rfl hr1 rfl (by kernel_rfl) (by kernel_rfl) ?_;intro w9 b9 o9;have OZ := (HO1.out.trans OW).step o9 (fun i hi hl => by simp at hi; omega);skip;refine hK.out _ _ (timed_over (by kernel_rfl) (timed_nil)) ?_;clear hK K;(try simp only [tdz]);refine tdn ?_;have HU9 := Hd (own_low (owb OV8 hr1 o9) hg1);have HV9 := Hd (own_low (owb OV17 hr1 o9) hg1);have HB9 := Hd b9;have HO9 := Hd OZ;clear OV8 OV17 o9 b9 OZ OW hr1;go_wp2
 refine bodyPost_ret (results_row1 Tryz.results7 _ _ gr 29 #[.slice Aa mc ca, .slice Ab ml cb] _ rfl HB9.out Tryz.underlying29 rfl (by kernel_rfl)) rfl ?_;exact ⟨_, _, _, _, ⟨rfl, by rw [hgg]; exact HU9.out, by rw [hgg]; exact HV9.out⟩, HO9.out⟩
end Go.Proofs.YtghimogdeijgdaaGreatDoor
