/- Parts. -/
import Derived.Test.YtjfbeeogiejopaaGreatDoorWorldNextCardK25
set_option maxRecDepth 10000
set_option maxHeartbeats 16000000
set_option linter.unusedVariables false
set_option linter.unusedSimpArgs false
namespace Go.Proofs.YtjfbeeogiejopaaGreatDoor
open Go.RowKit
open Go.Lib hiding intOf
attribute [local go_sem ↓] Go.wp_at_zero Go.wp_at_succ
theorem vals_set (L : List V2) (i : Nat) (a b : Int) : ((edgeC L).set (i * 2) (.int .i64 a)).set (i * 2 + 1) (.int .i64 b) = edgeC (L.set i (a, b)) := by
 induction L generalizing i with
 | nil => simp [edgeC]
 | cons x L ih =>
  cases i with
  | zero => simp [edgeC]
  | succ i =>
   have := ih i;simp only [edgeC, List.flatMap_cons, List.cons_append, List.nil_append, List.set_cons_succ] at this ⊢;rw [show (i + 1) * 2 = i * 2 + 2 by omega, List.set_cons_succ, List.set_cons_succ, List.set_cons_succ, List.set_cons_succ, this]
theorem take_set {α : Type} {l H : List α} {p : Nat} {u y : α} (h : l[p]? = some u) : (l.take (p + 1) ++ H).set p y = l.take p ++ y :: H := by
 have hp := (List.getElem?_eq_some_iff.1 h).1;have hl : (l.take p).length = p := by rw [List.length_take]; omega
 rw [List.take_add_one, h, List.append_assoc, List.set_append_right _ _ (by omega), hl, Nat.sub_self]
 rfl
theorem nextOf_some {α : Type} [BEq α] {vs : List α} {x y : α} (h : vs[vs.idxOf x + 1]? = some y) : nextOf vs x = some y := h
theorem idxE_in {α : Type} [BEq α] [LawfulBEq α] {l : List α} {x : α} (h : x ∈ l) : idxE l x = (l.idxOf x : Int) := by
 unfold idxE;rw [if_pos (List.idxOf_lt_length_of_mem h)]
theorem heads_drop {α : Type} {d : α} {vals : List (List α)} {p : Nat} {vs : List α} (h : vals[p]? = some vs) : headsL d (vals.drop p) = vs.headD d :: headsL d (vals.drop (p + 1)) := by
 rw [drop_cons h]
 rfl
theorem vup_any (A : Option Addr) (m c Bl gc B : Nat) (l : List V2) (xs : List SlA) (w : World) (hg : Row w Bl A (edgeC l)) (hm : l.length = m) (hM : m ≤ 100000) (hA : A = none → m = 0 ∧ c = 0) (hT : TrAt w gc B m xs) (hB : B ≤ w.heap.size) (hIs : isB (xs.map (fun x => x.l)) l = true) :
  Calls Tryz.prog 65 #[.slice A m c, .func (.func 63) #[] #[.pointer (some ⟨gc, 0, none⟩)]] w fun e w' => ∃ V, (e = .returned (.tuple #[V, .bool (upL (0, 0) (xs.map (fun x => x.l)) l).isSome]) ∧ (∀ ys, upL (0, 0) (xs.map (fun x => x.l)) l = some ys → w'.ownsRow w.heap.size 38 2 V m (edgeC ys)) ∧ (upL (0, 0) (xs.map (fun x => x.l)) l = none → V = .slice none 0 0)) ∧ Only [] w w' := by
 have HG := Hd hg;have HM := Hd hm;have HT := Hd hT;have HIS := Hd (isB_iff.1 hIs);have HCL := Hd (fun w' (O : Only [] w w') => vclone_any A m c Bl l w' (hg.only O (by simp)) hm hM hA);have hwm : IntKind.i64.wrap ((m : Int) - 1) = (m : Int) - 1 := IntWalk.i64_in _ (by omega);have HVL : Hid ((xs.map (fun x => x.l)).length = m) := Hd (by rw [List.length_map]; exact hT.len);have HXS : Hid (∀ (p : Nat) (x : SlA), xs[p]? = some x → (xs.map (fun x => x.l))[p]? = some x.l) := Hd (fun p (x : SlA) h => by rw [List.getElem?_map, h]; rfl);generalize xs.map (fun x => x.l) = vals at *;obtain ⟨U, hU⟩ : ∃ U, upL (0, 0) vals l = U := ⟨_, rfl⟩;rw [hU];have HU := Hd hU;clear hg hm hT hIs hA hU;go_enter Tryz.func65, Tryz.ntmps65;go_wp2_with fail
 refine (HCL.out _ (Only.refl [] w)).mono ?_;rintro e w1 ⟨V1, ⟨rfl, hv1⟩, O1⟩;obtain ⟨AN, cN, rfl, -, -, -, -⟩ := own_row hv1;have HV1 := Hd hv1;have HO1 := Hd O1;clear hv1 O1 HCL;go_wp2_with fail
 go_loopw [7] (fun iv wr => ∃ (q : Nat) (i : Int), iv = .int .i64 i ∧ i + 1 = (q : Int) ∧ q ≤ m ∧ Hid (upL (0, 0) (vals.drop q) (l.drop q) = none) ∧ Hid (wr.ownsRow w.heap.size 38 2 (.slice AN m cN) m (edgeC (l.take q ++ headsL (0, 0) (vals.drop q)))) ∧ Hid (Only [] w wr)) (fun iv _ => (intOf iv + 1).toNat)
 case atStart =>
  refine ⟨m, (m : Int) - 1, rfl, by omega, Nat.le_refl _, Hd (upL_end (by rw [HVL.out]; exact Nat.le_refl _)), Hd ?_, HO1⟩;rw [List.drop_of_length_le (by rw [HVL.out]; exact Nat.le_refl _), List.take_of_length_le (by rw [HM.out]; exact Nat.le_refl _)]
  simpa [headsL] using HV1.out
 case round =>
  obtain ⟨q, i, rfl, hiq, hq, hn, hV, hO⟩ := hrel;clear HV1 HO1 hwm
  cases q with
  | zero =>
   have hi : i = -1 := by omega
   subst hi;have HE : Hid (U = none) := Hd (HU.out.symm.trans hn.out);go_wp2
   go_ret2
   exact ⟨_, ⟨(by rw [HE.out]; rfl), (fun ys h => by rw [HE.out] at h; cases h), fun _ => rfl⟩, hO.out⟩
  | succ p =>
   have hi : i = (p : Int) := by omega
   subst hi;clear hiq;have hpm : p < m := by omega
   obtain ⟨u, hu⟩ : ∃ u, l[p]? = some u := ⟨_, List.getElem?_eq_getElem (by rw [HM.out]; exact hpm)⟩;obtain ⟨x, hx⟩ : ∃ x, xs[p]? = some x := ⟨_, List.getElem?_eq_getElem (by rw [HT.out.len]; exact hpm)⟩;have hxm := List.mem_of_getElem? hx;have hv := HXS.out p x hx;have hin := HIS.out p u x.l hu hv;have hidx := List.idxOf_lt_length_of_mem hin;have hfew := HT.out.few x hxm;have HNX := Hd (fun w' (O : Only [] w w') => nexttr_any gc B m xs p x w' (HT.out.only O (by simp)) hx);have HIX := Hd (fun w' (O : Only [] w w') => vindex_any x.A x.l.length x.cp B x.l u w' ((HT.out.rows x hxm).only O (by simp)) rfl (by omega));rw [idxE_in hin] at HIX;have HXR := Hd (fun w' (O : Only [] w w') => (HT.out.rows x hxm).only O (by simp));have HAT := Hd (fun y h => upL_at (d := (0, 0)) (y := y) hv hu hn.out (nextOf_some h));have HON := Hd (fun h => upL_on (d := (0, 0)) hv hu hn.out h);have HHD := Hd (heads_drop (d := ((0, 0) : V2)) hv);have HST := Hd (fun (H : List V2) (y : V2) => take_set (H := H) (y := y) hu);unfold nextOf at HON;unfold slC agV at *;obtain ⟨b, off, rfl, hbB, hbw, hc⟩ := (HG.out.only hO.out (by simp)).open_ (k := p * 2) (by rw [edgeC_len, HM.out]; omega);have hE := edgeC_get l p u hu;have c0 := hc _ _ hE.1;have c1 := hc _ _ hE.2;rw [← Nat.add_assoc] at c1;have hp0 : (0 : Int) ≤ (p : Int) := Int.natCast_nonneg _;have hp1 : (p : Int) < (m : Int) := by omega
   have hwp : IntKind.i64.wrap ((p : Int) - 1) = (p : Int) - 1 := IntWalk.i64_in _ (by omega);obtain ⟨u1, u2⟩ := u;obtain ⟨xl, xA, xc⟩ := x;dsimp only at *;obtain ⟨a, ha⟩ : ∃ a, a = xl.idxOf (u1, u2) + 1 := ⟨_, rfl⟩;have hwa : IntKind.i64.wrap ((xl.idxOf (u1, u2) : Int) + 1) = (xl.idxOf (u1, u2) : Int) + 1 := IntWalk.i64_in _ (by omega);generalize xl.idxOf (u1, u2) = j at *;subst ha;clear hc hE hu hx hv hxm hin hn;go_wp2_with fail
   refine (HNX.out _ hO.out).mono ?_;rintro e w2 ⟨rfl, O2⟩;have HO2 := Hd (hO.out.trans O2);have HV2 := Hd (own_only hV.out O2 (by simp));have c0 := (O2.cell (p := ⟨b, off + p * 2, none⟩) hbw (by simp)).trans c0;have c1 := (O2.cell (p := ⟨b, off + p * 2 + 1, none⟩) hbw (by simp)).trans c1;have hbw2 : b < w2.heap.size := by have := O2.size; omega
   clear O2 HNX hO hV hbw;go_wp2_with fail
   refine (HIX.out _ HO2.out).mono ?_;rintro e w3 ⟨rfl, O3⟩;have HO3 := Hd (HO2.out.trans O3);have HV3 := Hd (own_only HV2.out O3 (by simp));clear O3 HIX HO2 HV2 c0 c1 hbw2;obtain ⟨gN, rfl⟩ : ∃ gN, AN = some ⟨gN, 0, none⟩ := by
    rcases HV3.out.2 with ⟨e, -⟩ | ⟨g1, cp1, cu1, e, -⟩
    ·injection e with e1 e2 e3;omega
    ·injection e with e1 e2 e3;exact ⟨g1, e1⟩
   have hgN := HV3.out.lt gN rfl;have hlen : (edgeC (l.take (p + 1) ++ headsL (0, 0) (vals.drop (p + 1)))).length = m * 2 := HV3.out.1;have hol : p * 2 + 2 ≤ (edgeC (l.take (p + 1) ++ headsL (0, 0) (vals.drop (p + 1)))).length := by rw [hlen]; omega
   have h3 := HXR.out _ HO3.out;clear HXR;have ha0 : (0 : Int) ≤ (j : Int) := Int.natCast_nonneg _;have ha00 : (0 : Int) ≤ (j : Int) + 1 := by omega
   by_cases hlt : j + 1 < xl.length
   ·obtain ⟨y, hy⟩ : ∃ y, xl[j + 1]? = some y := ⟨_, List.getElem?_eq_getElem hlt⟩;have HE := Hd (HU.out.symm.trans (HAT.out y hy));have HS := Hd (HST.out (headsL (0, 0) (vals.drop (p + 1))) y);have hd1 : decide ((j : Int) + 1 < (xl.length : Int)) = true := decide_eq_true (by omega);have ha1 : (j : Int) + 1 < (xl.length : Int) := by omega
    obtain ⟨bx, ox, rfl, -, hbx, hcx⟩ := h3.open_ (k := (j + 1) * 2) (by rw [edgeC_len]; omega);have hE := edgeC_get xl (j + 1) y hy;have z0 := hcx _ _ hE.1;have z1 := hcx _ _ hE.2;rw [← Nat.add_assoc] at z1;obtain ⟨y1, y2⟩ := y;dsimp only at z0 z1;generalize xl.length = xn at *;clear hcx hE h3 hy HON HHD HST HAT;go_wp2_with (refine wpList_store_mid rfl 38 (.tmp 39) (.tmp 38) rfl gN (p * 2) #[.int .i64 y1, .int .i64 y2] rfl rfl (own_there HV3.out rfl hol) (by kernel_rfl) (by kernel_rfl) ?_)
    have OD : Only [gN] w3 (w3.setCells gN (p * 2) [.int .i64 y1, .int .i64 y2]) := setCells_only gN _ _ _ _ _ (Only.refl _ _) (fun _ => by simp);have h9 := own_set2 HV3.out rfl hol (.int .i64 y1) (.int .i64 y2);rw [vals_set, HS.out] at h9;have HV9 := Hd h9;have HO9 := Hd (HO3.out.step OD (fun i hi hl => by simp at hi; omega));clear OD h9 HS hol hlen HO3 z0 z1 hbx;go_wp2
    go_ret2
    exact ⟨⟨_, (by rw [HE.out]; rfl), (fun ys h => by rw [HE.out] at h; cases h; exact HV9.out), fun h => by rw [HE.out] at h; cases h⟩, HO9.out⟩
   ·have hnone : xl[j + 1]? = none := List.getElem?_eq_none (by omega);have HN2 := Hd (HON.out hnone);obtain ⟨y, hy⟩ : ∃ y, xl[0]? = some y := ⟨_, List.getElem?_eq_getElem (by omega)⟩;have hyd : xl.headD (0, 0) = y := by
     cases xl with
     | nil => cases hy
     | cons z r => simpa using hy
    have HS := Hd ((HST.out (headsL (0, 0) (vals.drop (p + 1))) y).trans (show l.take p ++ y :: headsL (0, 0) (vals.drop (p + 1)) = l.take p ++ headsL (0, 0) (vals.drop p) by rw [HHD.out, hyd]));have hd1 : decide ((j : Int) + 1 < (xl.length : Int)) = false := decide_eq_false (by omega);have hx0 : (0 : Int) < (xl.length : Int) := by omega
    obtain ⟨bx, ox, rfl, -, hbx, hcx⟩ := h3.open_ (k := 0) (by rw [edgeC_len]; omega);have hE := edgeC_get xl 0 y hy;have z0 := hcx _ _ hE.1;have z1 := hcx _ _ hE.2;simp only [Nat.zero_mul, Nat.zero_add, Nat.add_zero] at z0 z1;obtain ⟨y1, y2⟩ := y;dsimp only at z0 z1;generalize xl.length = xn at *;clear hcx hE h3 hy hyd HON HHD HST HAT hnone;go_wp2_with (refine wpList_store_mid rfl 38 (.tmp 46) (.tmp 45) rfl gN (p * 2) #[.int .i64 y1, .int .i64 y2] rfl rfl (own_there HV3.out rfl hol) (by kernel_rfl) (by kernel_rfl) ?_)
    have OD : Only [gN] w3 (w3.setCells gN (p * 2) [.int .i64 y1, .int .i64 y2]) := setCells_only gN _ _ _ _ _ (Only.refl _ _) (fun _ => by simp);have h9 := own_set2 HV3.out rfl hol (.int .i64 y1) (.int .i64 y2);rw [vals_set, HS.out] at h9;have HV9 := Hd h9;have HO9 := Hd (HO3.out.step OD (fun i hi hl => by simp at hi; omega));clear OD h9 HS hol hlen HO3 z0 z1 hbx HV3;generalize w3.setCells gN (p * 2) [.int .i64 y1, .int .i64 y2] = w9 at *;go_wp2
    go_roundw
    case rel => exact ⟨p, (p : Int) - 1, by go_num, by omega, by omega, HN2, HV9, HO9⟩
    case measure => simp [intOf]
def twoB : List Bool := [false, true]
theorem rep_get {m p : Nat} (h : p < m) : (List.replicate m twoB)[p]? = some twoB := by simp [h]
theorem nextb_any (i : Int) (w : World) : Calls Tryz.prog 68 #[.int .i64 i] w fun e w' => ∃ A', (e = .returned (.slice A' 2 2) ∧ Row w' w'.heap.size A' (twoB.map Value.bool)) ∧ Only [] w w' := by
 have HO := Hd ((Only.refl [] w).alloc (.cells #[.bool false, .bool true] 4));have HR := Hd (row_lit w 4 #[.bool false, .bool true]);go_enter Tryz.func68, Tryz.ntmps68;go_wp2
 go_ret
 exact ⟨⟨_, rfl, by rw [World.size_alloc]; exact HR.out⟩, HO.out⟩
theorem upB_next {m p : Nat} {l : List Bool} (h : p < m) (hu : l[p]? = some false) (hn : upL false ((List.replicate m twoB).drop (p + 1)) (l.drop (p + 1)) = none) :
  upL false (List.replicate m twoB) l = some (l.take p ++ true :: headsL false ((List.replicate m twoB).drop (p + 1))) := upL_at (rep_get h) hu hn rfl
theorem upB_on {m p : Nat} {l : List Bool} (h : p < m) (hu : l[p]? = some true) (hn : upL false ((List.replicate m twoB).drop (p + 1)) (l.drop (p + 1)) = none) :
  upL false ((List.replicate m twoB).drop p) (l.drop p) = none := upL_on (rep_get h) hu hn rfl
theorem bup_any (A : Option Addr) (m c Bl : Nat) (l : List Bool) (w : World) (hg : Row w Bl A (l.map Value.bool)) (hm : l.length = m) (hM : m ≤ 100000) (hA : A = none → m = 0 ∧ c = 0) :
  Calls Tryz.prog 67 #[.slice A m c, .func (.func 68) #[] #[]] w fun e w' => ∃ V, (e = .returned (.tuple #[V, .bool (upL false (List.replicate m twoB) l).isSome]) ∧ (∀ ys, upL false (List.replicate m twoB) l = some ys → w'.ownsRow w.heap.size 4 1 V m (ys.map Value.bool)) ∧ (upL false (List.replicate m twoB) l = none → V = .slice none 0 0)) ∧ Only [] w w' := by
 have HG := Hd hg;have HM := Hd hm;have HCL := Hd (fun w' (O : Only [] w w') => bclone_any A m c Bl l w' (hg.only O (by simp)) hm hM hA);have hwm : IntKind.i64.wrap ((m : Int) - 1) = (m : Int) - 1 := IntWalk.i64_in _ (by omega);have HVL : Hid ((List.replicate m twoB).length = m) := Hd (by simp);have HUN := Hd (fun (p : Nat) h hu hn => upB_next (m := m) (p := p) (l := l) h hu hn);have HUO := Hd (fun (p : Nat) h hu hn => upB_on (m := m) (p := p) (l := l) h hu hn);have HHD := Hd (fun (p : Nat) (h : p < m) => heads_drop (d := false) (rep_get h));have HNX := Hd (fun i w' => nextb_any i w');generalize List.replicate m twoB = vals at *;obtain ⟨U, hU⟩ : ∃ U, upL false vals l = U := ⟨_, rfl⟩;rw [hU];have HU := Hd hU;clear hg hm hA hU;go_enter Tryz.func67, Tryz.ntmps67;go_wp2_with fail
 refine (HCL.out _ (Only.refl [] w)).mono ?_;rintro e w1 ⟨V1, ⟨rfl, hv1⟩, O1⟩;obtain ⟨AN, cN, rfl, -, -, -, -⟩ := own_row hv1;have HV1 := Hd hv1;have HO1 := Hd O1;clear hv1 O1 HCL;go_wp2_with fail
 go_loopw [7] (fun iv wr => ∃ (q : Nat) (i : Int), iv = .int .i64 i ∧ i + 1 = (q : Int) ∧ q ≤ m ∧ Hid (upL false (vals.drop q) (l.drop q) = none) ∧ Hid (wr.ownsRow w.heap.size 4 1 (.slice AN m cN) m ((l.take q ++ headsL false (vals.drop q)).map Value.bool)) ∧ Hid (Only [] w wr)) (fun iv _ => (intOf iv + 1).toNat)
 case atStart =>
  refine ⟨m, (m : Int) - 1, rfl, by omega, Nat.le_refl _, Hd (upL_end (by rw [HVL.out]; exact Nat.le_refl _)), Hd ?_, HO1⟩;rw [List.drop_of_length_le (by rw [HVL.out]; exact Nat.le_refl _), List.take_of_length_le (by rw [HM.out]; exact Nat.le_refl _)]
  simpa [headsL] using HV1.out
 case round =>
  obtain ⟨q, i, rfl, hiq, hq, hn, hV, hO⟩ := hrel;clear HV1 HO1 hwm
  cases q with
  | zero =>
   have hi : i = -1 := by omega
   subst hi;have HE : Hid (U = none) := Hd (HU.out.symm.trans hn.out);go_wp2
   go_ret2
   exact ⟨_, ⟨(by rw [HE.out]; rfl), (fun ys h => by rw [HE.out] at h; cases h), fun _ => rfl⟩, hO.out⟩
  | succ p =>
   have hi : i = (p : Int) := by omega
   subst hi;clear hiq;have hpm : p < m := by omega
   obtain ⟨u, hu⟩ : ∃ u, l[p]? = some u := ⟨_, List.getElem?_eq_getElem (by rw [HM.out]; exact hpm)⟩;have HST := Hd (fun (H : List Bool) (y : Bool) => take_set (H := H) (y := y) hu);obtain ⟨b, off, rfl, hbB, hbw, hc⟩ := (HG.out.only hO.out (by simp)).open_ (k := p) (by rw [List.length_map, HM.out]; omega);have c0 := hc p _ (by rw [List.getElem?_map, hu]; rfl);have hp0 : (0 : Int) ≤ (p : Int) := Int.natCast_nonneg _;have hp1 : (p : Int) < (m : Int) := by omega
   have hwp : IntKind.i64.wrap ((p : Int) - 1) = (p : Int) - 1 := IntWalk.i64_in _ (by omega);have HUu := Hd hu;clear hc hu;go_wp2_with fail
   refine (HNX.out _ _).mono ?_;rintro e w2 ⟨A2, ⟨rfl, hr2⟩, O2⟩;have HIX := Hd (fun w' (O : Only [] w2 w') => bindex_any A2 2 2 _ twoB u w' (hr2.only O (by simp)) rfl (by omega));have HR2 := Hd hr2;have HO2 := Hd (hO.out.trans O2);have HV2 := Hd (own_only hV.out O2 (by simp));have c0 := (O2.cell (p := ⟨b, off + p, none⟩) hbw (by simp)).trans c0;have hbw2 : b < w2.heap.size := by have := O2.size; omega
   clear O2 HNX hO hV hbw hr2;go_wp2_with fail
   refine (HIX.out _ (Only.refl [] w2)).mono ?_;rintro e w3 ⟨rfl, O3⟩;have HO3 := Hd (HO2.out.trans O3);have HV3 := Hd (own_only HV2.out O3 (by simp));have h3 := HR2.out.only O3 (by simp);clear O3 HIX HO2 HV2 c0 hbw2 HR2;obtain ⟨gN, rfl⟩ : ∃ gN, AN = some ⟨gN, 0, none⟩ := by
    rcases HV3.out.2 with ⟨e, -⟩ | ⟨g1, cp1, cu1, e, -⟩
    ·injection e with e1 e2 e3;omega
    ·injection e with e1 e2 e3;exact ⟨g1, e1⟩
   have hgN := HV3.out.lt gN rfl;have hlen : ((l.take (p + 1) ++ headsL false (vals.drop (p + 1))).map Value.bool).length = m := by have := HV3.out.1; rw [Nat.mul_one] at this; exact this
   have hol : p < ((l.take (p + 1) ++ headsL false (vals.drop (p + 1))).map Value.bool).length := by rw [hlen]; omega
   obtain ⟨zz, hzz⟩ : ∃ zz, ((l.take (p + 1) ++ headsL false (vals.drop (p + 1))).map Value.bool)[p]? = some zz := ⟨_, List.getElem?_eq_getElem hol⟩;obtain ⟨e0, f0⟩ := own_cell HV3.out rfl hzz;clear hzz;obtain ⟨bx, ox, rfl, -, hbx, hcx⟩ := h3.open_ (k := 0) (by simp [twoB])
   cases u with
   | false =>
    rw [show idxE twoB false = ((0 : Nat) : Int) from by kernel_rfl];have HE := Hd (HU.out.symm.trans (HUN.out p hpm HUu.out hn.out));have h9 := own_set HV3.out rfl hol (.bool true);rw [← List.map_set, HST.out] at h9;have z0 := hcx 1 (.bool true) rfl;clear hcx h3 HUN HUO HHD HST;have HO9 := Hd (HO3.out.step ((Only.refl [gN] w3).put (p := ⟨gN, p, none⟩) (fun _ => by simp) (.bool true)) (fun i hi hl => by simp at hi; omega));have HV9 := Hd h9;clear h9 hol hlen HO3 HV3;go_wp2
    go_ret2
    exact ⟨_, ⟨(by rw [HE.out]; rfl), (fun ys h => by rw [HE.out] at h; cases h; exact HV9.out), fun h => by rw [HE.out] at h; cases h⟩, HO9.out⟩
   | true =>
    rw [show idxE twoB true = ((1 : Nat) : Int) from by kernel_rfl];have HN2 := Hd (HUO.out p hpm HUu.out hn.out);have h9 := own_set HV3.out rfl hol (.bool false);rw [← List.map_set, HST.out, show l.take p ++ false :: headsL false (vals.drop (p + 1)) = l.take p ++ headsL false (vals.drop p) by rw [HHD.out p hpm]; rfl] at h9;have z0 := hcx 0 (.bool false) rfl;rw [Nat.add_zero] at z0;clear hcx h3 HUN HUO HHD HST;have HO9 := Hd (HO3.out.step ((Only.refl [gN] w3).put (p := ⟨gN, p, none⟩) (fun _ => by simp) (.bool false)) (fun i hi hl => by simp at hi; omega));have HV9 := Hd h9;clear h9 hol hlen HO3 HV3;go_wp2
    go_roundw
    case rel => exact ⟨p, (p : Int) - 1, by go_num, by omega, by omega, HN2, HV9, HO9⟩
    case measure => simp [intOf]
def nextW (h : Hst) (x : Wld) : Option Wld :=
 if mayW h x = true ∧ isB (allT h x.c) x.l = true then
  match upL (0, 0) (allT h x.c) x.l with
  | some l' => some ⟨x.c, l'⟩
  | none => (upL false (List.replicate x.c.length twoB) x.c).map fun c' => ⟨c', firstL h c'⟩
 else none
theorem nextW_a {h : Hst} {x : Wld} (hm : mayW h x = false) : nextW h x = none := by unfold nextW; rw [hm]; simp
theorem nextW_b {h : Hst} {x : Wld} (hm : isB (allT h x.c) x.l = false) : nextW h x = none := by unfold nextW; rw [hm]; simp
theorem nextW_c {h : Hst} {x : Wld} {l' : List V2} (hm : mayW h x = true) (hi : isB (allT h x.c) x.l = true) (hu : upL (0, 0) (allT h x.c) x.l = some l') : nextW h x = some ⟨x.c, l'⟩ := by unfold nextW; rw [if_pos ⟨hm, hi⟩, hu]
theorem nextW_d {h : Hst} {x : Wld} (hm : mayW h x = true) (hi : isB (allT h x.c) x.l = true) (hu : upL (0, 0) (allT h x.c) x.l = none) : nextW h x = (upL false (List.replicate x.c.length twoB) x.c).map fun c' => ⟨c', firstL h c'⟩ := by unfold nextW; rw [if_pos ⟨hm, hi⟩, hu]
theorem triesO_few {h : Hst} (hl : h.l.length ≤ 40) (i : Nat) (t : Tx) (j : Nat) (o : Op4) (b : Bool) : (triesO h i t j o b).length ≤ 1000 := by
 unfold triesO
 split
 ·split
  ·simp
  ·have h1 := sortV_le (valsO (i : Int) o.key h.l);have h2 := valsO_len (i : Int) o.key h.l;rw [List.length_append];simp only [List.length_cons, List.length_nil];omega
 ·simp
theorem allT_few {h : Hst} (hl : h.l.length ≤ 40) (c : List Bool) : ∀ vs ∈ allT h c, vs.length ≤ 1000 := by
 intro vs hv;unfold allT at hv;obtain ⟨x, -, rfl⟩ := List.mem_map.1 hv;unfold triesX
 split
 ·exact triesO_few hl _ _ _ _ _
 ·simp
theorem upL_len {α : Type} [BEq α] {d : α} : ∀ {vals : List (List α)} {l ys : List α}, upL d vals l = some ys → vals.length = l.length → ys.length = l.length
 | [], l, ys, h, _ => by cases l <;> cases h
 | vs :: r, [], ys, h, hl => by simp at hl
 | vs :: r, x :: xs, ys, h, hl => by
  rw [upL_cons] at h
  cases hu : upL d r xs with
  | some zs =>
   rw [hu] at h
   cases h
   have := upL_len hu (by simpa using hl);simp [this]
  | none =>
   rw [hu] at h
   cases hn : nextOf vs x with
   | none => rw [hn] at h; cases h
   | some y =>
    rw [hn] at h
    cases h
    simp [headsL]
    simpa using hl
theorem wnext_any (A0 A1 A2 Ac Al : Option Addr) (n0 n1 n2 nc nl c0 c1 c2 cc cl B Bc Bl : Nat) (h : Hst) (x : Wld) (w : World) (hg : HIn w B A0 A1 A2 n0 n1 n2 h) (hI : HInt h) (hc : Row w Bc Ac (x.c.map Value.bool)) (hl : Row w Bl Al (edgeC x.l)) (hcl : x.c.length = nc) (hll : x.l.length = nl) (hM : nl ≤ 100000) (hMc : nc ≤ 100000) (hAc : Ac = none → nc = 0 ∧ cc = 0) (hAl : Al = none → nl = 0 ∧ cl = 0) :
  Calls Tryz.prog 32 #[hval A0 A1 A2 n0 n1 n2 c0 c1 c2, .agg #[.slice Ac nc cc, .slice Al nl cl]] w fun e w' => ∃ V V', (e = .returned (.tuple #[.agg #[V, V'], .bool (nextW h x).isSome]) ∧ w'.ownsRow w.heap.size 4 1 V ((nextW h x).getD ⟨[], []⟩).c.length (((nextW h x).getD ⟨[], []⟩).c.map Value.bool) ∧ w'.ownsRow w.heap.size 38 2 V' ((nextW h x).getD ⟨[], []⟩).l.length (edgeC ((nextW h x).getD ⟨[], []⟩).l)) ∧ Only [] w w' := by
 have HMY := Hd (fun w' (O : Only [] w w') => wmay_any A0 A1 A2 Ac Al n0 n1 n2 nc nl c0 c1 c2 cc cl B Bl h x w' (hg.same O) (hl.only O (by simp)) hcl hll hM);have HAT := Hd (fun w' (O : Only [] w w') (hm : mayW h x = true) => walltries_any A0 A1 A2 Ac n0 n1 n2 nc c0 c1 c2 cc B Bc h x.c w' (hg.same O) (mayW_inv hm).1 hI (hc.only O (by simp)) hcl (by rw [← hcl]; exact (mayW_inv hm).2.1.symm));have HIS := Hd (fun (gc B' : Nat) (xs : List SlA) w' (O : Only [] w w') (hT : TrAt w' gc B' nl xs) => vis_any Al nl cl Bl gc B' x.l xs w' (hl.only O (by simp)) hll hM hT);have HUP := Hd (fun (gc B' : Nat) (xs : List SlA) w' (O : Only [] w w') (hT : TrAt w' gc B' nl xs) (hB' : B' ≤ w'.heap.size) (hi : isB (xs.map (fun x => x.l)) x.l = true) => vup_any Al nl cl Bl gc B' x.l xs w' (hl.only O (by simp)) hll hM hAl hT hB' hi);have HBU := Hd (fun w' (O : Only [] w w') => bup_any Ac nc cc Bc x.c w' (hc.only O (by simp)) hcl hMc hAc);have HCL := Hd (fun w' (O : Only [] w w') => bclone_any Ac nc cc Bc x.c w' (hc.only O (by simp)) hcl hMc hAc);have HFO := Hd (fun (Ax : Option Addr) (cx Bx : Nat) (c : List Bool) w' (O : Only [] w w') (hm : mayW h x = true) (hc : Row w' Bx Ax (c.map Value.bool)) (hcl' : c.length = nc) => wfirstof_any A0 A1 A2 Ax n0 n1 n2 nc c0 c1 c2 cx B Bx h c w' (hg.same O) (mayW_inv hm).1 hc hcl' (by rw [← hcl]; exact (mayW_inv hm).2.1.symm));have HFW := Hd (fun (hm : mayW h x = true) => allT_few (h := h) (may_ops (mayW_inv hm).1).1 x.c);have HNL := Hd (fun (hm : mayW h x = true) => ((allT_len h x.c).trans (mayW_inv hm).2.2.1.symm).trans hll);have HFL := Hd (fun c => firstL_len h c);have HXC := Hd hcl;have HXL := Hd hll;have HA := Hd (fun hm => nextW_a (h := h) (x := x) hm);have HB := Hd (fun hm => nextW_b (h := h) (x := x) hm);have HC := Hd (fun l' hm hi hu => nextW_c (h := h) (x := x) (l' := l') hm hi hu);have HD := Hd (fun hm hi hu => nextW_d (h := h) (x := x) hm hi hu);rw [hcl] at HD;unfold hval at *;clear hg hc hl hcl hll hAc hAl hI;obtain ⟨R, hR⟩ : ∃ R, nextW h x = R := ⟨_, rfl⟩;rw [hR] at HA HB HC HD ⊢;clear hR;have HO1 := Hd ((((Only.refl [] w).alloc (.cells #[.slice A0 n0 c0, .slice A1 n1 c1, .slice A2 n2 c2] 25)).alloc (.cells #[.slice Ac nc cc, .slice Al nl cl] 51)).alloc (.cells #[.slice none 0 0, .slice none 0 0] 51));have HB1 := Hd (((Blk.made w 25 #[.slice A0 n0 c0, .slice A1 n1 c1, .slice A2 n2 c2]).alloc (.cells #[.slice Ac nc cc, .slice Al nl cl] 51)).alloc (.cells #[.slice none 0 0, .slice none 0 0] 51));have HW1 := Hd ((Blk.made (w.alloc (.cells #[.slice A0 n0 c0, .slice A1 n1 c1, .slice A2 n2 c2] 25)) 51 #[.slice Ac nc cc, .slice Al nl cl]).alloc (.cells #[.slice none 0 0, .slice none 0 0] 51));have HR1 := Hd (Blk.made ((w.alloc (.cells #[.slice A0 n0 c0, .slice A1 n1 c1, .slice A2 n2 c2] 25)).alloc (.cells #[.slice Ac nc cc, .slice Al nl cl] 51)) 51 #[.slice none 0 0, .slice none 0 0]);simp only [World.size_alloc] at HW1 HR1;go_enter Tryz.func32, Tryz.ntmps32;go_upto_region 1 with (fail)
 generalize (((w.alloc (.cells #[.slice A0 n0 c0, .slice A1 n1 c1, .slice A2 n2 c2] 25)).alloc (.cells #[.slice Ac nc cc, .slice Al nl cl] 51)).alloc (.cells #[.slice none 0 0, .slice none 0 0] 51)) = w1 at *;generalize hgr : w.heap.size + 1 + 1 = gr at *;generalize hgw : w.heap.size + 1 = gw at *;generalize hgg : w.heap.size = g at *;have lB := HB1.out.lt;have y0 := HB1.out.at_ 0;have y1 := HB1.out.at_ 1;have y2 := HB1.out.at_ 2;have lW := HW1.out.lt;have x0 := HW1.out.at_ 0;have x1 := HW1.out.at_ 1;simp at y0 y1 y2 x0 x1;go_wp2_with fail
 refine (HMY.out _ HO1.out).mono ?_;rintro e w2 ⟨rfl, O2⟩;have HO2 := Hd (HO1.out.trans O2);have HB2 := Hd (O2.blk HB1.out (by simp));have HW2 := Hd (O2.blk HW1.out (by simp));have HR2 := Hd (O2.blk HR1.out (by simp));clear O2 HO1 HB1 HW1 HR1 HMY lB y0 y1 y2 lW x0 x1
 cases hm : mayW h x with
 | false =>
  have HE := Hd (HA.out hm);clear HA HB HC HD HAT HIS HUP HBU HCL HFO HFW HNL hm HB2 HW2;go_wp2_with (refine wpList_store_blk rfl 51 (.tmp 4) (.tmp 16) rfl gr 51 _ #[.slice none 0 0, .slice none 0 0] rfl rfl HR2.out rfl (by kernel_rfl) (by kernel_rfl) ?_; intro w9 b9 o9; have HB9 := Hd b9; have HN9 := Hd o9; clear b9 o9)
  refine bodyPost_ret (results_row2 Tryz.results32 _ _ gr 51 #[.slice none 0 0, .slice none 0 0] _ rfl HB9.out Tryz.underlying51 rfl (by kernel_rfl)) rfl ?_;exact ⟨_, _, ⟨by rw [HE.out]; rfl, by rw [HE.out]; exact World.ownsRow_nil _ _ _ _, by rw [HE.out]; exact World.ownsRow_nil _ _ _ _⟩, HO2.out.step HN9.out (fun i hi hl => by simp at hi; omega)⟩
 | true =>
  have HATT := Hd (fun w' O => HAT.out w' O hm);have HFOO := Hd (fun Ax cx Bx c w' O => HFO.out Ax cx Bx c w' O hm);have HFWW := Hd (HFW.out hm);have HNLL := Hd (HNL.out hm);have HCC := Hd (fun l' => HC.out l' hm);have HDD := Hd (HD.out hm);clear HA HC HD HAT HFO HFW HNL hm;have lB := HB2.out.lt;have y0 := HB2.out.at_ 0;have y1 := HB2.out.at_ 1;have y2 := HB2.out.at_ 2;have lW := HW2.out.lt;have x0 := HW2.out.at_ 0;simp at y0 y1 y2 x0;go_wp2_with fail
  refine (HATT.out _ HO2.out).mono ?_;rintro e w3 ⟨V, ⟨xs, rfl, hxs, hv, hvv⟩, O3⟩;rw [HNLL.out] at hv;obtain ⟨AV, cV, rfl, -, -, -, -⟩ := own_row hv;have O4 := (Only.refl [] w3).alloc (.cells #[.slice AV nl cV] 54);have hlen : xs.length = nl := by
   have := congrArg List.length hxs;rw [List.length_map, HNLL.out] at this;exact this
  have HT4 := Hd (show TrAt (w3.alloc (.cells #[.slice AV nl cV] 54)) w3.heap.size (w3.alloc (.cells #[.slice AV nl cV] 54)).heap.size nl xs from
   ⟨⟨AV, cV, Blk.made w3 54 #[.slice AV nl cV], (own_row_at (own_only hv O4 (by simp))).1⟩, hlen, fun z hz => (own_row_at (show (w3.alloc (.cells #[.slice AV nl cV] 54)).ownsRow w2.heap.size 38 2 (.slice z.A z.l.length z.cp) z.l.length (edgeC z.l) from (hvv.same O4) z hz)).1, by simp, fun z hz => HFWW.out _ (by rw [← hxs]; exact List.mem_map_of_mem hz)⟩)
  have HO4 := Hd ((HO2.out.trans O3).trans O4);have HB4 := Hd (O4.blk (O3.blk HB2.out (by simp)) (by simp));have HW4 := Hd (O4.blk (O3.blk HW2.out (by simp)) (by simp));have HR4 := Hd (O4.blk (O3.blk HR2.out (by simp)) (by simp));have HXS := Hd hxs;clear O3 O4 HO2 HB2 HW2 HR2 HATT HFWW hv hvv hxs hlen lB y0 y1 y2 lW x0;go_upto_region 5 with (fail)
  generalize (w3.alloc (.cells #[.slice AV nl cV] 54)) = w4 at *;generalize w3.heap.size = gc at *;have HIS4 := Hd (fun w' (O : Only [] w4 w') => HIS.out gc w4.heap.size xs w' (HO4.out.trans O) (HT4.out.only O (by simp)));have HUP4 := Hd (fun w' (O : Only [] w4 w') hi => HUP.out gc w4.heap.size xs w' (HO4.out.trans O) (HT4.out.only O (by simp)) O.size hi);rw [HXS.out] at HIS4 HUP4;clear HIS HUP HT4 HXS;have lW := HW4.out.lt;have x1 := HW4.out.at_ 1;simp at x1;go_wp2_with fail
  refine (HIS4.out _ (Only.refl [] w4)).mono ?_;rintro e w5 ⟨rfl, O5⟩;have HO5 := Hd (HO4.out.trans O5);have HB5 := Hd (O5.blk HB4.out (by simp));have HW5 := Hd (O5.blk HW4.out (by simp));have HR5 := Hd (O5.blk HR4.out (by simp));have HUP5 := Hd (fun w' (O : Only [] w5 w') hi => HUP4.out w' (O5.trans O) hi);clear O5 HO4 HB4 HW4 HR4 HIS4 HUP4 lW x1
  cases hi : isB (allT h x.c) x.l with
  | false =>
   have HE := Hd (HB.out hi);clear HB HCC HDD HUP5 HBU HCL HFOO hi HB5 HW5;go_wp2_with (refine wpList_store_blk rfl 51 (.tmp 4) (.tmp 27) rfl gr 51 _ #[.slice none 0 0, .slice none 0 0] rfl rfl HR5.out rfl (by kernel_rfl) (by kernel_rfl) ?_; intro w9 b9 o9; have HB9 := Hd b9; have HN9 := Hd o9; clear b9 o9)
   refine bodyPost_ret (results_row2 Tryz.results32 _ _ gr 51 #[.slice none 0 0, .slice none 0 0] _ rfl HB9.out Tryz.underlying51 rfl (by kernel_rfl)) rfl ?_;exact ⟨_, _, ⟨by rw [HE.out]; rfl, by rw [HE.out]; exact World.ownsRow_nil _ _ _ _, by rw [HE.out]; exact World.ownsRow_nil _ _ _ _⟩, HO5.out.step HN9.out (fun i hi hl => by simp at hi; omega)⟩
  | true =>
   have HUP6 := Hd (fun w' (O : Only [] w5 w') => HUP5.out w' O hi);have HC6 := Hd (fun l' => HCC.out l' hi);have HD6 := Hd (HDD.out hi);clear HB HCC HDD HUP5 hi;have lW := HW5.out.lt;have x1 := HW5.out.at_ 1;simp at x1;have HUL := Hd (fun ys hu => upL_len (d := ((0, 0) : V2)) (vals := allT h x.c) (l := x.l) (ys := ys) hu);obtain ⟨U, hU⟩ : ∃ U, upL (0, 0) (allT h x.c) x.l = U := ⟨_, rfl⟩;rw [hU] at HUP6 HC6 HD6 HUL;have HUU := Hd hU;clear hU;go_wp2_with fail
   refine (HUP6.out _ (Only.refl [] w5)).mono ?_;rintro e w6 ⟨VU, ⟨rfl, hv1, hv2⟩, O6⟩;have HO6 := Hd (HO5.out.trans O6);have HB6 := Hd (O6.blk HB5.out (by simp));have HW6 := Hd (O6.blk HW5.out (by simp));have HR6 := Hd (O6.blk HR5.out (by simp));have hle6 : g ≤ w5.heap.size := by have := HO5.out.size; omega
   clear O6 HO5 HB5 HW5 HR5 HUP6 lW x1
   cases U with
   | some l' =>
    have HE := Hd (HC6.out l' rfl);have HV := Hd (own_low (hv1 l' rfl) hle6);obtain ⟨AU, cU, rfl, -, -, -, -⟩ := own_row HV.out;clear hv1 hv2 HC6 HD6 HBU HFOO;rw [Option.isSome_some];have lW := HW6.out.lt;have x0 := HW6.out.at_ 0;simp at x0;go_wp2_with fail
    refine (HCL.out _ HO6.out).mono ?_;rintro e w7 ⟨VC, ⟨rfl, hvc⟩, O7⟩;obtain ⟨AC, cC, rfl, -, -, -, -⟩ := own_row hvc;have HC7 := Hd (own_low hvc (show g ≤ w6.heap.size by have := HO6.out.size; omega));have HV7 := Hd (own_only HV.out O7 (by simp));have HO7 := Hd (HO6.out.trans O7);have HR7 := Hd (O7.blk HR6.out (by simp));clear O7 HO6 HB6 HW6 HR6 HV hvc HCL lW x0;go_wp2_with (refine wpList_store_blk rfl 51 (.tmp 4) (.tmp 40) rfl gr 51 _ #[.slice AC nc cC, .slice AU nl cU] rfl rfl HR7.out rfl (by kernel_rfl) (by kernel_rfl) ?_; intro w9 b9 o9; have HB9 := Hd b9; have HN9 := Hd o9; clear b9 o9)
    have HC9 := Hd (owb HC7.out HR7.out HN9.out);have HV9 := Hd (owb HV7.out HR7.out HN9.out);have hll' : l'.length = nl := by rw [HUL.out l' rfl (by rw [HNLL.out, HXL.out]), HXL.out]
    refine bodyPost_ret (results_row2 Tryz.results32 _ _ gr 51 #[.slice AC nc cC, .slice AU nl cU] _ rfl HB9.out Tryz.underlying51 rfl (by kernel_rfl)) rfl ?_;refine ⟨_, _, ⟨by rw [HE.out]; rfl, ?_, ?_⟩, HO7.out.step HN9.out (fun i hi hl => by simp at hi; omega)⟩
    ·rw [HE.out]
     show w9.ownsRow _ _ 1 _ x.c.length (x.c.map Value.bool)
     rw [HXC.out, hgg];exact HC9.out
    ·rw [HE.out]
     show w9.ownsRow _ _ 2 _ l'.length (edgeC l')
     rw [hll', hgg];exact HV9.out
   | none =>
    have HE := Hd (HD6.out rfl);have ev := hv2 rfl;subst ev;clear hv1 hv2 HC6 HD6 HCL HUL;rw [Option.isSome_none];have lW := HW6.out.lt;have x0 := HW6.out.at_ 0;simp at x0;go_wp2_with fail
    obtain ⟨U2, hU2⟩ : ∃ U2, upL false (List.replicate nc twoB) x.c = U2 := ⟨_, rfl⟩;have hlen2 : ∀ c', U2 = some c' → c'.length = nc := fun c' hc' => by
     rw [upL_len (hU2.trans hc') (by rw [List.length_replicate, HXC.out]), HXC.out]
    have HLN2 := Hd hlen2;rw [hU2] at HBU HE;clear hU2 hlen2;refine (HBU.out _ HO6.out).mono ?_;rintro e w7 ⟨V2', ⟨rfl, hb1, hb2⟩, O7⟩;have HO7 := Hd (HO6.out.trans O7);have HB7 := Hd (O7.blk HB6.out (by simp));have HR7 := Hd (O7.blk HR6.out (by simp));have hle7 : g ≤ w6.heap.size := by have := HO6.out.size; omega
    clear O7 HO6 HB6 HW6 HR6 HBU lW x0
    cases U2 with
    | none =>
     have ev := hb2 rfl;subst ev;have HE2 : Hid (R = none) := Hd HE.out;clear hb1 hb2 HE HFOO HB7 HLN2;rw [Option.isSome_none];go_wp2_with (refine wpList_store_blk rfl 51 (.tmp 4) (.tmp 51) rfl gr 51 _ #[.slice none 0 0, .slice none 0 0] rfl rfl HR7.out rfl (by kernel_rfl) (by kernel_rfl) ?_; intro w9 b9 o9; have HB9 := Hd b9; have HN9 := Hd o9; clear b9 o9)
     refine bodyPost_ret (results_row2 Tryz.results32 _ _ gr 51 #[.slice none 0 0, .slice none 0 0] _ rfl HB9.out Tryz.underlying51 rfl (by kernel_rfl)) rfl ?_;exact ⟨_, _, ⟨by rw [HE2.out]; rfl, by rw [HE2.out]; exact World.ownsRow_nil _ _ _ _, by rw [HE2.out]; exact World.ownsRow_nil _ _ _ _⟩, HO7.out.step HN9.out (fun i hi hl => by simp at hi; omega)⟩
    | some c' =>
     have HE2 : Hid (R = some ⟨c', firstL h c'⟩) := Hd HE.out;have hc' := HLN2.out c' rfl;have hbv := hb1 c' rfl;obtain ⟨AC, cC, rfl, -, -, -, -⟩ := own_row hbv;have HC7 := Hd (own_low hbv hle7);have HF7 := Hd (fun w' (O : Only [] w7 w') => HFOO.out AC cC _ c' w' (HO7.out.trans O) (own_row_at (own_only hbv O (by simp))).1 hc');clear hb1 hb2 HE HFOO HLN2 hbv;rw [Option.isSome_some];have lB := HB7.out.lt;have y0 := HB7.out.at_ 0;have y1 := HB7.out.at_ 1;have y2 := HB7.out.at_ 2;simp at y0 y1 y2;go_wp2_with fail
     refine (HF7.out _ (Only.refl [] w7)).mono ?_;rintro e w8 ⟨VF, ⟨rfl, hvf⟩, O8⟩;obtain ⟨AF, cF, rfl, -, -, -, -⟩ := own_row hvf;have HV8 := Hd (own_low hvf (show g ≤ w7.heap.size by have := HO7.out.size; omega));have HC8 := Hd (own_only HC7.out O8 (by simp));have HO8 := Hd (HO7.out.trans O8);have HR8 := Hd (O8.blk HR7.out (by simp));clear O8 HO7 HB7 HR7 HC7 HF7 hvf lB y0 y1 y2;go_wp2_with (refine wpList_store_blk rfl 51 (.tmp 4) (.tmp 50) rfl gr 51 _ #[.slice AC nc cC, .slice AF (lostX h.l).length cF] rfl rfl HR8.out rfl (by kernel_rfl) (by kernel_rfl) ?_; intro w9 b9 o9; have HB9 := Hd b9; have HN9 := Hd o9; clear b9 o9)
     have HC9 := Hd (owb HC8.out HR8.out HN9.out);have HV9 := Hd (owb HV8.out HR8.out HN9.out);refine bodyPost_ret (results_row2 Tryz.results32 _ _ gr 51 #[.slice AC nc cC, .slice AF (lostX h.l).length cF] _ rfl HB9.out Tryz.underlying51 rfl (by kernel_rfl)) rfl ?_;refine ⟨_, _, ⟨by rw [HE2.out]; rfl, ?_, ?_⟩, HO8.out.step HN9.out (fun i hi hl => by simp at hi; omega)⟩
     ·rw [HE2.out]
      show w9.ownsRow _ _ 1 _ c'.length (c'.map Value.bool)
      rw [hc', hgg];exact HC9.out
     ·rw [HE2.out]
      show w9.ownsRow _ _ 2 _ (firstL h c').length (edgeC (firstL h c'))
      rw [HFL.out, hgg];exact HV9.out
def capN (a : Nat) : Nat := min a 1000000
def trLen (h : Hst) (x : Pl) : Nat := (triesX h true x).length
def waysF (h : Hst) (w : List Nat) (x : Pl) : List Nat := w.set x.1 (capN (w.getD x.1 0 * trLen h x))
def waysQ (h : Hst) (q : Nat) : List Nat := ((lostX h.l).take q).foldl (waysF h) (List.replicate h.l.length 1)
def cntF (ws : List Nat) (n : Nat) (x : Tx × Nat) : Nat := if x.1.f = 1 then capN (n * ws.getD x.2 0) else if x.1.f = 3 then capN (n * (ws.getD x.2 0 + 1)) else n
def cntQ (ws : List Nat) (l : List Tx) (k : Nat) : Nat := (l.zipIdx.take k).foldl (cntF ws) 1
def countW (h : Hst) : Nat := if mayH h = true then cntQ (waysQ h (lostX h.l).length) h.l h.l.length else 0
theorem waysQ_succ {h : Hst} {q : Nat} {x : Pl} (hx : (lostX h.l)[q]? = some x) : waysQ h (q + 1) = (waysQ h q).set x.1 (capN ((waysQ h q).getD x.1 0 * trLen h x)) := by
 unfold waysQ;rw [List.take_add_one, hx, List.foldl_append]
 rfl
theorem waysF_len (h : Hst) (ps : List Pl) : ∀ ws : List Nat, (ps.foldl (waysF h) ws).length = ws.length := by
 induction ps with
 | nil => intro _; rfl
 | cons x ps ih => intro ws; rw [List.foldl_cons, ih]; unfold waysF; rw [List.length_set]
theorem waysQ_len (h : Hst) (q : Nat) : (waysQ h q).length = h.l.length := by unfold waysQ; rw [waysF_len, List.length_replicate]
theorem capN_le (a : Nat) : capN a ≤ 1000000 := Nat.min_le_right _ _
theorem waysF_le (h : Hst) (ps : List Pl) : ∀ ws : List Nat, (∀ a ∈ ws, a ≤ 1000000) → ∀ a ∈ ps.foldl (waysF h) ws, a ≤ 1000000 := by
 induction ps with
 | nil => intro _ hw; exact hw
 | cons x ps ih =>
  intro ws hw;rw [List.foldl_cons];refine ih _ fun a ha => ?_;rcases List.mem_or_eq_of_mem_set ha with h1 | h1
  ·exact hw a h1
  ·rw [h1]; exact capN_le _
theorem waysQ_le (h : Hst) (q : Nat) : ∀ a ∈ waysQ h q, a ≤ 1000000 := waysF_le h _ _ (fun a ha => by rw [(List.mem_replicate.1 ha).2]; omega)
theorem cntQ_succ {ws : List Nat} {l : List Tx} {k : Nat} {t : Tx} (h : l[k]? = some t) : cntQ ws l (k + 1) = cntF ws (cntQ ws l k) (t, k) := by
 unfold cntQ;rw [List.take_add_one, show l.zipIdx[k]? = some (t, k) from by rw [List.getElem?_zipIdx, h]; simp, List.foldl_append]
 rfl
theorem cntF_le (ws : List Nat) (x : Tx × Nat) (n : Nat) (h : n ≤ 1000000) : cntF ws n x ≤ 1000000 := by
 unfold cntF
 split
 ·exact capN_le _
 ·split
  ·exact capN_le _
  ·exact h
theorem cntL_le (ws : List Nat) : ∀ (l : List (Tx × Nat)) (n : Nat), n ≤ 1000000 → l.foldl (cntF ws) n ≤ 1000000
 | [], _, h => h
 | x :: l, n, h => cntL_le ws l _ (cntF_le ws x n h)
theorem cntQ_le (ws : List Nat) (l : List Tx) (k : Nat) : cntQ ws l k ≤ 1000000 := cntL_le ws _ 1 (by omega)
def intsC (l : List Nat) : Array Value := (l.map fun a : Nat => Value.int .i64 (a : Int)).toArray
theorem intsC_at {l : List Nat} {i a : Nat} (h : l[i]? = some a) : (intsC l)[i]? = some (.int .i64 (a : Int)) := by simp [intsC, h]
theorem intsC_set (l : List Nat) (i a : Nat) : (intsC l).setIfInBounds i (.int .i64 (a : Int)) = intsC (l.set i a) := by
 simp [intsC, List.map_set]
theorem made_intsC (n : Nat) : madeCells #[.int .i64 0] n = intsC (List.replicate n 0) := by
 apply Array.ext_getElem?
 intro j
 by_cases hj : j < n <;> simp [madeCells, intsC, Nat.mod_one, hj]
theorem make_intsC (n : Nat) (hn : n ≤ 1000) (w : World) : (Instr.makeSlice 30 (.int .i64 (n : Int)) (.int .i64 (n : Int))).run Tryz.prog w = .ok (.slice (some ⟨w.heap.size, 0, none⟩) n n) (w.alloc (.cells (intsC (List.replicate n 0)) 3)) := by
 obtain ⟨i0, hi, hz0, hz1, hz2⟩ := info_parts info_int;have := run_make (P := Tryz.prog) w 30 3 i0 _ Tryz.underlying30 hi hz0 .i64 .i64 (n : Int) (n : Int) (by omega) (by omega) (by rw [hz2]; omega) (by omega);rw [this, hz1];simp [made_intsC, Value.cells]
theorem ones_set {n k : Nat} (h : k < n) : (List.replicate k 1 ++ List.replicate (n - k) 0).set k 1 = List.replicate (k + 1) 1 ++ List.replicate (n - (k + 1)) 0 := by
 rw [List.set_append_right _ _ (by simp), List.length_replicate, Nat.sub_self, show n - k = (n - (k + 1)) + 1 by omega, List.replicate_succ, List.set_cons_zero, List.replicate_succ', List.append_assoc]
 rfl
theorem wcount_any (A0 A1 A2 : Option Addr) (n0 n1 n2 c0 c1 c2 B : Nat) (h : Hst) (w : World) (hg : HIn w B A0 A1 A2 n0 n1 n2 h) (hI : HInt h) :
  Calls Tryz.prog 35 #[hval A0 A1 A2 n0 n1 n2 c0 c1 c2] w fun e w' => e = .returned (.int .i64 (countW h : Int)) ∧ Only [] w w' := by
 have HMY := Hd (fun w' (O : Only [] w w') => hmay_any A0 A1 A2 n0 n1 n2 c0 c1 c2 B h w' (hg.same O));have HL := Hd hg.at_.r2;have HN2 := Hd hg.n2;have hn2 : n2 ≤ 1000 := by have := hg.sm.nl; rw [hg.n2] at this; exact this
 have HLS := Hd (fun w' (O : Only [] w w') => klost_any A0 A1 A2 n0 n1 n2 c0 c1 c2 B h w' (hg.same O).at_.r2 hg.n2 hn2 hg.sm.no);have HTR := Hd (fun (x : Pl) (t : Tx) w' (O : Only [] w w') (hm : mayH h = true) (hx : h.l[x.1]? = some t) (ho : t.ops[x.2.1]? = some x.2.2) => wtries_any A0 A1 A2 n0 n1 n2 c0 c1 c2 B h x.1 x.2.1 t x.2.2 true w' (hg.same O) hm hI hx ho);rw [lostP_eq] at HLS;rw [List.length_map] at HLS;have hmk := make_intsC n2 hn2;unfold countW;unfold hval at *;clear hg hI;have HO1 := Hd ((Only.refl [] w).alloc (.cells #[.slice A0 n0 c0, .slice A1 n1 c1, .slice A2 n2 c2] 25));have HB1 := Hd (Blk.made w 25 #[.slice A0 n0 c0, .slice A1 n1 c1, .slice A2 n2 c2])
 cases hm : mayH h with
 | false =>
  rw [errH_not hm] at HMY;rw [if_neg (by simp)];clear HLS HTR hmk hm HL;go_enter Tryz.func35, Tryz.ntmps35;go_upto_region 1 with (fail)
  generalize (w.alloc (.cells #[.slice A0 n0 c0, .slice A1 n1 c1, .slice A2 n2 c2] 25)) = w1 at *;generalize hgg : w.heap.size = g at *;have lB := HB1.out.lt;have y0 := HB1.out.at_ 0;have y1 := HB1.out.at_ 1;have y2 := HB1.out.at_ 2;simp at y0 y1 y2;go_wp2_with fail
  refine (HMY.out _ HO1.out).mono ?_;rintro e w2 ⟨rfl, O2⟩;have HO2 := Hd (HO1.out.trans O2);clear O2 HO1 HB1 HMY lB y0 y1 y2;go_wp2
  go_ret
  exact ⟨rfl, HO2.out⟩
 | true =>
  have HTT := Hd (fun x t w' O => HTR.out x t w' O hm);have hn40 : n2 ≤ 40 := by rw [← HN2.out]; exact (may_ops hm).1
  have HLN := Hd (lostX_len (may_ops hm).1 (may_ops hm).2.1);rw [errH_yes hm] at HMY;rw [if_pos rfl];clear HTR hm;go_enter Tryz.func35, Tryz.ntmps35;go_upto_region 1 with (fail)
  generalize (w.alloc (.cells #[.slice A0 n0 c0, .slice A1 n1 c1, .slice A2 n2 c2] 25)) = w1 at *;generalize hgg : w.heap.size = g at *;have lB := HB1.out.lt;have y0 := HB1.out.at_ 0;have y1 := HB1.out.at_ 1;have y2 := HB1.out.at_ 2;simp at y0 y1 y2;go_wp2_with fail
  refine (HMY.out _ HO1.out).mono ?_;rintro e w2 ⟨rfl, O2⟩;have HO2 := Hd ((HO1.out.trans O2).alloc (.cells (intsC (List.replicate n2 0)) 3));have HB2 := Hd ((O2.blk HB1.out (by simp)).alloc (.cells (intsC (List.replicate n2 0)) 3));have HX2 := Hd (Blk.made w2 3 (intsC (List.replicate n2 0)));have hb2 := O2.blk HB1.out (by simp);have lB2 := hb2.lt;have z2 := hb2.at_ 2;simp at z2;have hgx : g < w2.heap.size := lB2;clear O2 HO1 HB1 HMY lB y0 y1 y2 hb2;go_upto_region 4 with (fail)
  clear hmk z2;generalize (w2.alloc (.cells (intsC (List.replicate n2 0)) 3)) = w3 at *;generalize w2.heap.size = gx at *;clear lB2;go_wp2_with fail
  go_loopw [19] (fun iv wr => ∃ k : Nat, iv = .int .i64 (k : Int) ∧ k ≤ n2 ∧ Hid (Blk wr gx 3 (intsC (List.replicate k 1 ++ List.replicate (n2 - k) 0))) ∧ Hid (Blk wr g 25 #[.slice A0 n0 c0, .slice A1 n1 c1, .slice A2 n2 c2]) ∧ Hid (Only [] w wr)) (fun iv _ => n2 - (intOf iv).toNat)
  case atStart => exact ⟨0, rfl, by omega, Hd (by simpa using HX2.out), HB2, HO2⟩
  case round =>
   obtain ⟨k, rfl, hk, hX, hB, hO⟩ := hrel;clear HX2 HB2 HO2
   by_cases hlt : k < n2
   ·have h01 : (k : Int) < (n2 : Int) := by omega
    have hk0 : (0 : Int) ≤ (k : Int) := Int.natCast_nonneg _;have hwk : IntKind.i64.wrap ((k : Int) + 1) = (k : Int) + 1 := IntWalk.i64_in _ (by omega);obtain ⟨z, hz⟩ : ∃ z, (List.replicate k 1 ++ List.replicate (n2 - k) 0)[k]? = some z := ⟨_, List.getElem?_eq_getElem (by simp; omega)⟩;have x0 := (hX.out.at_ k).trans (intsC_at hz);have fx := hX.out.free k;have lX := hX.out.lt;clear hz;have O3 : Only [gx] wr (wr.setCell ⟨gx, k, none⟩ (.int .i64 1)) := (Only.refl [gx] wr).put (fun _ => by simp) _;have HX3 : Hid (Blk (wr.setCell ⟨gx, k, none⟩ (.int .i64 1)) gx 3 (intsC (List.replicate (k + 1) 1 ++ List.replicate (n2 - (k + 1)) 0))) := Hd (by
     rw [← ones_set hlt, ← intsC_set];exact hX.out.put k (.int .i64 1))
    have HB3 := Hd (O3.blk hB.out (by simp; omega));have HO3 := Hd (hO.out.step O3 (fun i hi hl => by simp at hi; omega));clear O3 hX hB hO;go_wp2
    go_roundw
    case rel => exact ⟨k + 1, by go_num, by omega, HX3, HB3, HO3⟩
    case measure => simp [intOf]; omega
   ·have hkn : k = n2 := by omega
    subst hkn;have hd2 : decide ((k : Int) < (k : Int)) = false := by simp
    rw [Nat.sub_self, List.replicate_zero, List.append_nil] at hX;have HX4 : Hid (Blk wr gx 3 (intsC (waysQ h 0))) := Hd (by
     unfold waysQ;rw [List.take_zero, List.foldl_nil, HN2.out];exact hX.out)
    obtain ⟨wo, hwo⟩ : ∃ wo : World, wo = wr := ⟨_, rfl⟩;subst hwo;have lB := hB.out.lt;have y0 := hB.out.at_ 0;have y1 := hB.out.at_ 1;have y2 := hB.out.at_ 2;simp at y0 y1 y2;clear hX;go_wp2_with fail
    refine (HLS.out _ hO.out).mono ?_;rintro e w5 ⟨VL, ⟨rfl, hl5⟩, O5⟩;obtain ⟨AL, cL, rfl, -, -, -, -⟩ := own_row hl5;have HL5 := Hd (own_low hl5 (show g ≤ wo.heap.size by have := hO.out.size; omega));have HX5 := Hd (O5.blk HX4.out (by simp));have HB5 := Hd (O5.blk hB.out (by simp));have HO5 := Hd (hO.out.trans O5);clear O5 hl5 HX4 hB hO HLS lB y0 y1 y2;go_wp2_with fail
    go_loopw [29] (fun iv wr => ∃ q : Nat, iv = .int .i64 (q : Int) ∧ q ≤ (lostX h.l).length ∧ Hid (Blk wr gx 3 (intsC (waysQ h q))) ∧ Hid (Blk wr g 25 #[.slice A0 n0 c0, .slice A1 n1 c1, .slice A2 k c2]) ∧ Hid (wr.ownsRow g 27 2 (.slice AL (lostX h.l).length cL) (lostX h.l).length (placeC ((lostX h.l).map fun x => ((x.1 : Int), (x.2.1 : Int))))) ∧ Hid (Only [] w wr)) (fun iv _ => (lostX h.l).length - (intOf iv).toNat)
    case atStart => exact ⟨0, rfl, by omega, HX5, HB5, HL5, HO5⟩
    case round =>
     obtain ⟨q, rfl, hq, hX, hB, hL, hO⟩ := hrel;clear HX5 HB5 HL5 HO5
     by_cases hlt2 : q < (lostX h.l).length
     ·obtain ⟨x, hx⟩ : ∃ x, (lostX h.l)[q]? = some x := ⟨_, List.getElem?_eq_getElem hlt2⟩;obtain ⟨t, ht, ho, -⟩ := lostX_mem hx;have hi2 : x.1 < k := by rw [← HN2.out]; exact (List.getElem?_eq_some_iff.1 ht).1
      have HT := Hd (fun w' (O : Only [] w w') => HTT.out x t w' O ht ho);have hTL : trLen h x = (triesO h x.1 t x.2.1 x.2.2 true).length := by unfold trLen triesX; rw [ht]
      have hTF := triesO_few (h := h) (by rw [HN2.out]; exact hn40) x.1 t x.2.1 x.2.2 true;have hWS := waysQ_succ hx;obtain ⟨b4, o4, rfl, -, hbr4, hc4⟩ := (own_row_at hL.out).1.open_ (k := q * 2) (by have e := edgeC_len ((lostX h.l).map fun x => ((x.1 : Int), (x.2.1 : Int))); rw [List.length_map] at e; exact Nat.lt_of_lt_of_eq (show q * 2 < (lostX h.l).length * 2 by omega) e.symm);have hpl := placeC_at (l := (lostX h.l).map fun x => ((x.1 : Int), (x.2.1 : Int))) (k := q) (x := ((x.1 : Int), (x.2.1 : Int))) (by rw [List.getElem?_map, hx]; rfl);have p0 := hc4 _ _ hpl.1;have p1 := hc4 _ _ hpl.2;rw [← Nat.add_assoc] at p1;obtain ⟨a, ha⟩ : ∃ a, (waysQ h q)[x.1]? = some a := ⟨_, List.getElem?_eq_getElem (by rw [waysQ_len, HN2.out]; exact hi2)⟩;have hale := waysQ_le h q a (List.mem_of_getElem? ha);have hag : (waysQ h q).getD x.1 0 = a := by rw [List.getD_eq_getElem?_getD, ha]; rfl
      rw [hag, hTL] at hWS;have x0 := (hX.out.at_ x.1).trans (intsC_at ha);have HX0 := Hd x0;have HWS := Hd hWS;obtain ⟨i, j, o⟩ := x;dsimp only at *;generalize triesO h i t j o true = T at *;clear hx ht ho hc4 hpl hTL ha hag hWS x0;have h01 : (q : Int) < ((lostX h.l).length : Int) := by omega
      have hq0 : (0 : Int) ≤ (q : Int) := Int.natCast_nonneg _;have hwq : IntKind.i64.wrap ((q : Int) + 1) = (q : Int) + 1 := IntWalk.i64_in _ (by have := HLN.out; omega);obtain ⟨pr, hpr⟩ : ∃ pr, a * T.length = pr := ⟨_, rfl⟩;have hmul : pr ≤ 1000000 * 1000 := by rw [← hpr]; exact Nat.mul_le_mul hale hTF
      have hwm : IntKind.i64.wrap ((a : Int) * (T.length : Int)) = (pr : Int) := by rw [← Int.natCast_mul, hpr]; exact IntWalk.i64_in _ (by omega)
      have hmin : min (pr : Int) 1000000 = ((capN pr : Nat) : Int) := by unfold capN; omega
      rw [hpr] at HWS;generalize T.length = tn at *;clear hpr hmul;go_upto_region 12 with (fail)
      have O4 : Only [] wr (wr.alloc (.cells #[.int .i64 (i : Int), .int .i64 (j : Int)] 27)) := (Only.refl [] wr).alloc _;have HP4 := Hd (Blk.made wr 27 #[.int .i64 (i : Int), .int .i64 (j : Int)]);have HO4 := Hd (hO.out.trans O4);have HB4 := Hd (O4.blk hB.out (by simp));have HX4 := Hd (O4.blk hX.out (by simp));have HL4 := Hd (own_only hL.out O4 (by simp));have x0 := (HX4.out.at_ i).trans ((hX.out.at_ i).symm.trans HX0.out);have HXI := Hd x0;have hi0 : (0 : Int) ≤ (i : Int) := Int.natCast_nonneg _;have hi3 : (i : Int) < (k : Int) := by omega
      clear O4 hB hX hL hO HX0 hbr4 p0 p1 x0;generalize (wr.alloc (.cells #[.int .i64 (i : Int), .int .i64 (j : Int)] 27)) = w4 at *;generalize wr.heap.size = gp at *;have RD0 := Hd fun wq (hSw : Only [] w4 wq) => aI (Bk3 (hSw.blk HB4.out (by simp))) (aI (Bk2 (hSw.blk HP4.out (by simp))) (aI ((hSw.blk HX4.out (by simp)).lt) ((hSw.cell (p := ⟨gx, i, none⟩) HX4.out.lt (by simp)).trans HXI.out)));refine rg1 [15] [] w4 ?_;have OW : Only [] w4 w4.drew := (Only.refl [] w4).drew;generalize w4.drew = wz at *;refine tQ 0 (h := tQ 1 (h := trq 2 0 RD0 (h := tQ 3 (h := tQ 4 (h := trq 5 0 RD0 (h := tQ 6 (h := trq 7 0 RD0 (h := trq 8 0 RD0 (h := trq 9 0 RD0 (h := ?_))))))))));refine tst (i := 10) fun K hK => ?_;go_simp;refine (HT.out _ (HO4.out.trans OW)).mono ?_;rintro e w6 ⟨VT, ⟨rfl, hT6⟩, O6⟩;obtain ⟨AT, cT, rfl, -, -, -, -⟩ := own_row hT6;have OW1 := OW.trans O6;clear O6 hT6;have hx6 := OW1.blk HX4.out (by simp);have x0 := (OW1.cell (p := ⟨gx, i, none⟩) HX4.out.lt (by simp)).trans HXI.out;have fx := hx6.free i;have lX := hx6.lt;refine kOut hK (OW1) (h := ?_);clear hK K;refine tQ 11 (h := tQ 12 (h := tQ 13 (h := tQ 14 (h := ?_))));refine tst (i := 15) fun K hK => ?_;go_simp;skip;refine hK.out _ _ (timed_over (by kernel_rfl) (timed_nil)) ?_;clear hK K;(try simp only [tdz]);refine tdn ?_;have OS : Only [gx] w6 (w6.setCell ⟨gx, i, none⟩ (.int .i64 ((capN pr : Nat) : Int))) := (Only.refl [gx] w6).put (fun _ => by simp) _;have HX9 : Hid (Blk (w6.setCell ⟨gx, i, none⟩ (.int .i64 ((capN pr : Nat) : Int))) gx 3 (intsC (waysQ h (q + 1)))) := Hd (by
       rw [HWS.out, ← intsC_set];exact hx6.put i _)
      have HB9 := Hd (OS.blk (OW1.blk HB4.out (by simp)) (by simp; omega));have h7 := own_only HL4.out OW1 (by simp);have HL9 := Hd (owb h7 hx6 OS);have HO9 := Hd ((HO4.out.trans OW1).step OS (fun i hi hl => by simp at hi; omega));clear OS h7 HO4 HB4 HX4 HL4 HP4 OW OW1 hx6 x0 fx lX HXI HWS HT;generalize (w6.setCell ⟨gx, i, none⟩ (.int .i64 ((capN pr : Nat) : Int))) = w9 at *;go_wp2
      go_roundw
      case rel => exact ⟨q + 1, by go_num, by omega, HX9, HB9, HL9, HO9⟩
      case measure => simp [intOf]; omega
     ·have hqn : q = (lostX h.l).length := by omega
      subst hqn;have hd3 : decide (((lostX h.l).length : Int) < ((lostX h.l).length : Int)) = false := by simp
      have HWL := Hd (waysQ_len h (lostX h.l).length);have HWE := Hd (waysQ_le h (lostX h.l).length);have HTK : Hid (h.l.length = k) := HN2;rw [HN2.out] at HWL;obtain ⟨ws, hws⟩ : ∃ ws, waysQ h (lostX h.l).length = ws := ⟨_, rfl⟩;rw [hws] at hX HWL HWE;have HWS := Hd hws;clear hws HTT hL;obtain ⟨wq, hwq⟩ : ∃ wq : World, wq = wr := ⟨_, rfl⟩;subst hwq;have lB := hB.out.lt;have y2 := hB.out.at_ 2;simp at y2;go_wp2_with fail
      go_loopw [7, 52] (fun nv iv wr => ∃ p : Nat, nv = .int .i64 ((cntQ ws h.l p : Nat) : Int) ∧ iv = .int .i64 (p : Int) ∧ p ≤ k ∧ Hid (Blk wr gx 3 (intsC ws)) ∧ Hid (Only [] w wr)) (fun _ iv _ => k - (intOf iv).toNat)
      case atStart => exact ⟨0, rfl, rfl, by omega, hX, hO⟩
      case round =>
       obtain ⟨p, rfl, rfl, hp, hX, hO⟩ := hrel;clear lB y2
       by_cases hlt3 : p < k
       ·obtain ⟨t, ht⟩ : ∃ t, h.l[p]? = some t := ⟨_, List.getElem?_eq_getElem (by rw [HN2.out]; exact hlt3)⟩;obtain ⟨a, ha⟩ : ∃ a, ws[p]? = some a := ⟨_, List.getElem?_eq_getElem (by rw [HWL.out]; exact hlt3)⟩;have hale := HWE.out a (List.mem_of_getElem? ha);have hag : ws.getD p 0 = a := by rw [List.getD_eq_getElem?_getD, ha]; rfl
        have hCS := cntQ_succ (ws := ws) ht;unfold cntF at hCS;dsimp only at hCS;rw [hag] at hCS;have hnle := cntQ_le ws h.l p;obtain ⟨bl, off, A', cp, rfl, -, hbw, hT, -⟩ := HL.out.at_ ht;obtain ⟨a0, a1, a2⟩ := hT.only hO.out (by omega) (by simp);have hbr : bl < wr.heap.size := by have := hO.out.size; omega
        have lX := hX.out.lt;have x0 := (hX.out.at_ p).trans (intsC_at ha);have h01 : (p : Int) < (k : Int) := by omega
        have hp0 : (0 : Int) ≤ (p : Int) := Int.natCast_nonneg _;have hwp : IntKind.i64.wrap ((p : Int) + 1) = (p : Int) + 1 := IntWalk.i64_in _ (by omega);obtain ⟨s, f, ops⟩ := t;dsimp only at a0 a1 a2 hCS;generalize ops.length = m at *;generalize cntQ ws h.l p = n at *;obtain ⟨n', hn'⟩ : ∃ n', cntQ ws h.l (p + 1) = n' := ⟨_, rfl⟩;rw [hn'] at hCS;have HN' := Hd hn';have HX := Hd hX.out;have HXR := Hd x0;clear ht ha hag hT hn' hX;go_upto_region 18 with (fail)
        have O2 : Only [] wr (wr.alloc (.cells #[.int .i64 s, .int .i64 f, .slice A' m cp] 46)) := (Only.refl [] wr).alloc _;have HT2 := Hd (Blk.made wr 46 #[.int .i64 s, .int .i64 f, .slice A' m cp]);have HX2 := Hd (O2.blk HX.out (by simp));have HO2 := Hd (hO.out.trans O2);have x0 := (O2.cell (p := ⟨gx, p, none⟩) lX (by simp)).trans x0;have lX2 := HX2.out.lt;clear O2 a0 a1 a2 hO hbr HXR HX lX;generalize (wr.alloc (.cells #[.int .i64 s, .int .i64 f, .slice A' m cp] 46)) = w2 at *;generalize wr.heap.size = gt at *;have lT := HT2.out.lt;have t1 := HT2.out.at_ 1;simp at t1;rcases (show f = 1 ∨ (f ≠ 1 ∧ f = 3) ∨ (f ≠ 1 ∧ f ≠ 3) by omega) with hf | ⟨hf1, hf⟩ | ⟨hf1, hf3⟩
        ·subst hf;rw [if_pos rfl] at hCS;obtain ⟨pr, hpr⟩ : ∃ pr, n * a = pr := ⟨_, rfl⟩;have hmul : pr ≤ 1000000 * 1000001 := by rw [← hpr]; exact Nat.mul_le_mul hnle (by omega)
         have hmulI : (n : Int) * (a : Int) = (pr : Int) := by rw [← hpr]; exact (Int.natCast_mul n a).symm
         have hwm : IntKind.i64.wrap ((n : Int) * (a : Int)) = (pr : Int) := by rw [hmulI]; exact IntWalk.i64_in _ (by omega)
         have hmin : min (pr : Int) 1000000 = ((capN pr : Nat) : Int) := by unfold capN; omega
         rw [hpr] at hCS;subst hCS;clear hpr hmul hmulI;go_wp2
         go_roundw
         case rel => exact ⟨p + 1, by rw [HN'.out], by go_num, by omega, HX2, HO2⟩
         case measure => simp [intOf]; omega
        ·subst hf;rw [if_neg (by decide), if_pos rfl] at hCS;obtain ⟨pr, hpr⟩ : ∃ pr, n * (a + 1) = pr := ⟨_, rfl⟩;have hmul : pr ≤ 1000000 * 1000001 := by rw [← hpr]; exact Nat.mul_le_mul hnle (by omega)
         have hmulI : (n : Int) * ((a : Int) + 1) = (pr : Int) := by rw [← hpr, Int.natCast_mul, Int.natCast_add]; rfl
         have hwa : IntKind.i64.wrap ((a : Int) + 1) = (a : Int) + 1 := IntWalk.i64_in _ (by omega);have hwm : IntKind.i64.wrap ((n : Int) * ((a : Int) + 1)) = (pr : Int) := by rw [hmulI]; exact IntWalk.i64_in _ (by omega)
         have hmin : min (pr : Int) 1000000 = ((capN pr : Nat) : Int) := by unfold capN; omega
         rw [hpr] at hCS;subst hCS;clear hpr hmul hmulI;go_wp2
         go_roundw
         case rel => exact ⟨p + 1, by rw [HN'.out], by go_num, by omega, HX2, HO2⟩
         case measure => simp [intOf]; omega
        ·rw [if_neg hf1, if_neg hf3] at hCS;subst hCS;have hb1 : (f == 1) = false := by simpa using hf1
         have hb3 : (f == 3) = false := by simpa using hf3
         clear hf1 hf3;go_wp2
         go_roundw
         case rel => exact ⟨p + 1, by rw [HN'.out], by go_num, by omega, HX2, HO2⟩
         case measure => simp [intOf]; omega
       ·have hpk : p = k := by omega
        subst hpk;have hd4 : decide ((p : Int) < (p : Int)) = false := by simp
        go_wp2
        go_ret
        exact ⟨by rw [HWS.out, HN2.out]; rfl, hO.out⟩
def infosN (h : Hst) : Nat := (whichL infoB h.l).length
def firstWC (h : Hst) : List Bool := if mayH h = true then List.replicate (infosN h) false else []
def firstWL (h : Hst) : List V2 := if mayH h = true then firstL h (List.replicate (infosN h) false) else []
theorem wfirst_any (A0 A1 A2 : Option Addr) (n0 n1 n2 c0 c1 c2 B : Nat) (h : Hst) (w : World) (hg : HIn w B A0 A1 A2 n0 n1 n2 h) :
  Calls Tryz.prog 31 #[hval A0 A1 A2 n0 n1 n2 c0 c1 c2] w fun e w' => ∃ V V', (e = .returned (.tuple #[.agg #[V, V'], .int .i64 (errH h)]) ∧ w'.ownsRow w.heap.size 4 1 V (firstWC h).length ((firstWC h).map Value.bool) ∧ w'.ownsRow w.heap.size 38 2 V' (firstWL h).length (edgeC (firstWL h))) ∧ Only [] w w' := by
 have HMY := Hd (fun w' (O : Only [] w w') => hmay_any A0 A1 A2 n0 n1 n2 c0 c1 c2 B h w' (hg.same O));have HIN := Hd (fun w' (O : Only [] w w') => kinfos_any A0 A1 A2 n0 n1 n2 c0 c1 c2 B h w' (hg.same O).at_.r2 hg.n2 (by have := hg.sm.nl; rw [hg.n2] at this; exact this));have HFO := Hd (fun (Ac : Option Addr) (nc Bc : Nat) (c : List Bool) w' (O : Only [] w w') (hm : mayH h = true) (hc : Row w' Bc Ac (c.map Value.bool)) (hcl : c.length = nc) (hci : (whichL infoB h.l).length = nc) => wfirstof_any A0 A1 A2 Ac n0 n1 n2 nc c0 c1 c2 nc B Bc h c w' (hg.same O) hm hc hcl hci);have HNI : Hid ((whichL infoB h.l).length ≤ 1000) := Hd (by
  have h1 := which_le infoB h.l;have h2 := hg.sm.nl;omega)
 have HO1 := Hd (((Only.refl [] w).alloc (.cells #[.slice A0 n0 c0, .slice A1 n1 c1, .slice A2 n2 c2] 25)).alloc (.cells #[.slice none 0 0, .slice none 0 0] 51));have HB1 := Hd ((Blk.made w 25 #[.slice A0 n0 c0, .slice A1 n1 c1, .slice A2 n2 c2]).alloc (.cells #[.slice none 0 0, .slice none 0 0] 51));have HR1 := Hd (Blk.made (w.alloc (.cells #[.slice A0 n0 c0, .slice A1 n1 c1, .slice A2 n2 c2] 25)) 51 #[.slice none 0 0, .slice none 0 0]);simp only [World.size_alloc] at HR1;unfold firstWC firstWL infosN;unfold hval at *;clear hg
 cases hm : mayH h with
 | false =>
  rw [errH_not hm] at HMY ⊢;rw [if_neg (by simp), if_neg (by simp)];clear HIN HFO HNI hm;go_enter Tryz.func31, Tryz.ntmps31;go_upto_region 1 with (fail)
  generalize ((w.alloc (.cells #[.slice A0 n0 c0, .slice A1 n1 c1, .slice A2 n2 c2] 25)).alloc (.cells #[.slice none 0 0, .slice none 0 0] 51)) = w1 at *;generalize hgr : w.heap.size + 1 = gr at *;generalize hgg : w.heap.size = g at *;have lB := HB1.out.lt;have y0 := HB1.out.at_ 0;have y1 := HB1.out.at_ 1;have y2 := HB1.out.at_ 2;simp at y0 y1 y2;go_wp2_with fail
  refine (HMY.out _ HO1.out).mono ?_;rintro e w2 ⟨rfl, O2⟩;have HO2 := Hd (HO1.out.trans O2);have HR2 := Hd (O2.blk HR1.out (by simp));clear O2 HO1 HB1 HR1 HMY lB y0 y1 y2;go_wp2_with (refine wpList_store_blk rfl 51 (.tmp 2) (.tmp 9) rfl gr 51 _ #[.slice none 0 0, .slice none 0 0] rfl rfl HR2.out rfl (by kernel_rfl) (by kernel_rfl) ?_; intro w9 b9 o9; have HB9 := Hd b9; have HN9 := Hd o9; clear b9 o9)
  refine bodyPost_ret (results_row2 Tryz.results31 _ _ gr 51 #[.slice none 0 0, .slice none 0 0] _ rfl HB9.out Tryz.underlying51 rfl (by kernel_rfl)) rfl ?_;exact ⟨_, _, ⟨rfl, World.ownsRow_nil _ _ _ _, World.ownsRow_nil _ _ _ _⟩, HO2.out.step HN9.out (fun i hi hl => by simp at hi; omega)⟩
 | true =>
  rw [errH_yes hm] at HMY ⊢;rw [if_pos rfl, if_pos rfl];have HFF := Hd (fun Ac nc Bc c w' O => HFO.out Ac nc Bc c w' O hm);have HFL := Hd (fun c => firstL_len h c);unfold infoB at *;obtain ⟨ni, hni⟩ : ∃ ni, (whichL (fun t : Tx => decide (t.f = 3)) h.l).length = ni := ⟨_, rfl⟩;rw [hni] at HIN HFF HNI ⊢;have hmk := make_bools ni HNI.out;rw [HFL.out];clear HFO hm hni;go_enter Tryz.func31, Tryz.ntmps31;go_upto_region 1 with (fail)
  generalize ((w.alloc (.cells #[.slice A0 n0 c0, .slice A1 n1 c1, .slice A2 n2 c2] 25)).alloc (.cells #[.slice none 0 0, .slice none 0 0] 51)) = w1 at *;generalize hgr : w.heap.size + 1 = gr at *;generalize hgg : w.heap.size = g at *;have lB := HB1.out.lt;have y0 := HB1.out.at_ 0;have y1 := HB1.out.at_ 1;have y2 := HB1.out.at_ 2;simp at y0 y1 y2;go_wp2_with fail
  refine (HMY.out _ HO1.out).mono ?_;rintro e w2 ⟨rfl, O2⟩;have HO2 := Hd (HO1.out.trans O2);have HB2 := Hd (O2.blk HB1.out (by simp));have HR2 := Hd (O2.blk HR1.out (by simp));clear O2 HO1 HB1 HR1 HMY lB y0 y1 y2;go_upto_region 4 with (fail)
  have RD0 := Hd fun wq (hSw : Only [] w2 wq) => Bk3 (hSw.blk HB2.out (by simp));refine rg1 [6] [] w2 ?_;have OW : Only [] w2 w2.drew := (Only.refl [] w2).drew;generalize w2.drew = wz at *;refine trq 0 0 RD0 (h := trq 1 0 RD0 (h := ?_));refine tst (i := 2) fun K hK => ?_;go_simp;refine (HIN.out _ (HO2.out.trans OW)).mono ?_;rintro e wa ⟨Ai, ci, ⟨rfl, -⟩, Oa⟩;have OW1 := OW.trans Oa;clear Oa;refine kOut hK (OW1) (h := ?_);clear hK K;refine tQ 3 (h := ?_);refine tst (i := 4) fun K hK => ?_;go_simp;have BV := Blk.made wa 4 (boolsC (List.replicate ni false));have hgm : g ≤ wa.heap.size := by have := (HO2.out.trans OW1).size; omega
  have OW2 := OW1.alloc (.cells (boolsC (List.replicate ni false)) 4);generalize wa.alloc (.cells (boolsC (List.replicate ni false)) 4) = wb at *;generalize wa.heap.size = gm at *;refine kOut hK (OW2) (h := ?_);clear hK K;refine tst (i := 5) fun K hK => ?_;go_simp;refine (HFF.out (some ⟨gm, 0, none⟩) ni _ (List.replicate ni false) _ (HO2.out.trans OW2) (row_bools BV) (by simp) rfl).mono ?_;rintro e wc ⟨V, ⟨rfl, hv⟩, Oc⟩;have OW3 := OW2.trans Oc;have HBV := Hd (Oc.blk BV (by simp));have HV3 := Hd (own_low hv (show g ≤ wb.heap.size by have := (HO2.out.trans OW2).size; omega));obtain ⟨AV, cV, rfl, -, -, -, -⟩ := own_row hv;have hr3 := OW3.blk HR2.out (by simp);clear Oc hv;refine kOut hK (OW3) (h := ?_);clear hK K;refine tst (i := 6) fun K hK => ?_;refine wp_store_blk 51 (.tmp 2) (.tmp 16) rfl gr 51 _ #[.slice (some ⟨gm, 0, none⟩) ni ni, .slice AV (lostX h.l).length cV] rfl rfl hr3 rfl (by kernel_rfl) (by kernel_rfl) ?_;intro w9 b9 o9;have HB9 := Hd b9;have HN9 := Hd o9;refine hK.out _ _ (timed_over (by kernel_rfl) (timed_nil)) ?_;clear hK K;(try simp only [tdz]);refine tQ 7 (h := ?_);refine tdn ?_;have HO9 := Hd ((HO2.out.trans OW3).step HN9.out (fun i hi hl => by simp at hi; omega));have hgm2 : gm ≠ gr := HBV.out.apart hr3 (by decide);have HBV9 := HN9.out.blk HBV.out (by simp; omega);have HV9 := Hd (owb HV3.out hr3 HN9.out);have HC9 := Hd (own_bools (n := ni) HBV9 (by simp) HNI.out hgm);clear OW OW1 OW2 OW3 BV hr3 HBV HV3 HN9 HBV9 HFF HIN HO2 HB2 HR2;go_wp2
  refine bodyPost_ret (results_row2 Tryz.results31 _ _ gr 51 #[.slice (some ⟨gm, 0, none⟩) ni ni, .slice AV (lostX h.l).length cV] _ rfl HB9.out Tryz.underlying51 rfl (by kernel_rfl)) rfl ?_;exact ⟨_, _, ⟨rfl, by rw [hgg, List.length_replicate]; exact HC9.out, by rw [hgg]; exact HV9.out⟩, HO9.out⟩
end Go.Proofs.YtjfbeeogiejopaaGreatDoor
