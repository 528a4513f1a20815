/- Parts. -/
import Derived.Test.YthdofaoamljkfaaGreatDoorLaw24AllK45
set_option maxRecDepth 10000
set_option maxHeartbeats 16000000
set_option linter.unusedVariables false
set_option linter.unusedSimpArgs false
namespace Go.Proofs.YthdofaoamljkfaaGreatDoor
open Go.RowKit
open Go.Lib hiding intOf
attribute [local go_sem ↓] Go.wp_at_zero Go.wp_at_succ
theorem idxO_at {l : List Int} {u : Int} (h : u ∈ l) : l[l.idxOf u]? = some u := by
 have hl := List.idxOf_lt_length_of_mem h;rw [List.getElem?_eq_getElem hl, List.getElem_idxOf]
theorem idxO_ne {l : List Int} {u : Int} : ∀ {j : Nat}, j < l.idxOf u → l[j]? ≠ some u := by
 induction l with
 | nil => intro j h; simp at h
 | cons y r ih =>
  intro j h;rw [List.idxOf_cons] at h
  by_cases e : y = u
  ·subst e;simp at h
  ·have e2 : (y == u) = false := by simpa using e
   rw [e2] at h
   cases j with
   | zero => simpa using e
   | succ j =>
    rw [List.getElem?_cons_succ];exact ih (by simp at h; omega)
section
variable (A0 A1 A2 : Option Addr) (n0 n1 n2 c0 c1 c2 B : Nat) (h : Hst)
theorem rnext24_any (Am : Option Addr) (m c : Nat) (l : List Int) (w : World) (hg : HIn w B A0 A1 A2 n0 n1 n2 h) (hl : Row w w.heap.size Am (l.map (Value.int .i64))) (hm : l.length = m) (hM : m ≤ 100000) (his : isMap h l = true) :
  Calls Tryz.prog 20 #[hval A0 A1 A2 n0 n1 n2 c0 c1 c2, .slice Am m c] w fun e w' => ∃ V, (e = .returned (.tuple #[V, .bool (upL 0 (choL h) l).isSome]) ∧ (∀ ys, upL 0 (choL h) l = some ys → w'.ownsRow w.heap.size 3 1 V m (ys.map (Value.int .i64))) ∧ (upL 0 (choL h) l = none → V = .slice none 0 0)) ∧ Only [] w w' := by
 have his' := his;unfold isMap at his';rw [Bool.and_eq_true, Bool.and_eq_true] at his';obtain ⟨hw, hlen, hisI⟩ := his';have hlc : m = (choL h).length := by rw [← hm]; exact of_decide_eq_true hlen
 have HRD := Hd (fun w' (O : Only [] w w') => rcho24_any A0 A1 A2 n0 n1 n2 c0 c1 c2 B h w' (hg.same O) (whole_may hw));have hn40 := (may_ops (whole_may hw)).1;have HFW3 := Hd (fun c (hc : c ∈ choL h) => show c.length ≤ 1000 by have h1 := choL_few hc; omega);have HIN := Hd (fun w' (O : Only [] w w') => ints_any Am m c (l.map (Value.int .i64)) w' (row_up (hl.only O (by simp))) (by rw [List.length_map]; exact hm) (fun u hu => by obtain ⟨x, -, rfl⟩ := List.mem_map.1 hu; rfl) (by omega));have HIS := Hd (isI_iff.1 hisI);have HG := Hd (fun w' (O : Only [] w w') => hl.only O (by simp));have HM := Hd hm;unfold hval at *;clear hg hw hlen hisI his hl hm hn40;have HO1 := Hd ((Only.refl [] w).alloc (.cells #[.slice A0 n0 c0, .slice A1 n1 c1, .slice A2 n2 c2] 25));have HB1 := Hd (Blk.made w 25 #[.slice A0 n0 c0, .slice A1 n1 c1, .slice A2 n2 c2]);generalize choL h = vals at *;rw [← hlc] at HRD;have HVL := Hd hlc.symm;obtain ⟨U, hU⟩ : ∃ U, upL 0 vals l = U := ⟨_, rfl⟩;rw [hU];have HU := Hd hU;have hwm : IntKind.i64.wrap ((m : Int) - 1) = (m : Int) - 1 := IntWalk.i64_in _ (by omega);clear hU hlc;go_enter Tryz.func20, Tryz.ntmps20;go_upto_region 1 with (fail)
 generalize (w.alloc (.cells #[.slice A0 n0 c0, .slice A1 n1 c1, .slice A2 n2 c2] 25)) = w1 at *;have lB := HB1.out.lt;have y0 := HB1.out.at_ 0;have y1 := HB1.out.at_ 1;have y2 := HB1.out.at_ 2;simp at y0 y1 y2;go_wp2_with fail
 refine (HRD.out _ HO1.out).mono ?_;rintro e w3 ⟨A, cp, xs, ⟨rfl, hV⟩, O3⟩;have HC := Hd hV;have HO3 := Hd (HO1.out.trans O3);clear O3 hV HRD HB1 lB y0 y1 y2;go_wp2_with fail
 refine (HIN.out _ HO3.out).mono ?_;rintro e w4 ⟨V4, rfl, own4, O4⟩;obtain ⟨AN, cN, rfl, -, -, -, -⟩ := own_row own4;have hsz3 := HO3.out.size;have HV4 := Hd own4;have HO4 := Hd O4;clear O4 own4 HIN;obtain ⟨wo, hwo⟩ : ∃ wo : World, wo = w3 := ⟨_, rfl⟩;subst hwo;go_wp2_with fail
 go_loopw [8] (fun iv wr => ∃ (q : Nat) (i : Int), iv = .int .i64 i ∧ i + 1 = (q : Int) ∧ q ≤ m ∧ Hid (upL 0 (vals.drop q) (l.drop q) = none) ∧ Hid (wr.ownsRow wo.heap.size 3 1 (.slice AN m cN) m ((l.take q ++ headsL 0 (vals.drop q)).map (Value.int .i64))) ∧ Hid (Only [] wo wr))
  (fun iv _ => (intOf iv + 1).toNat)
 case atStart =>
  refine ⟨m, (m : Int) - 1, rfl, by omega, Nat.le_refl _, Hd (upL_end (by rw [HVL.out]; exact Nat.le_refl _)), Hd ?_, HO4⟩;rw [List.drop_of_length_le (by rw [HVL.out]; exact Nat.le_refl _), List.take_of_length_le (by rw [HM.out]; exact Nat.le_refl _)]
  simpa [headsL] using HV4.out
 case round =>
  obtain ⟨q, i, rfl, hiq, hq, hn, hV, hO⟩ := hrel;clear HV4 HO4 hwm
  cases q with
  | zero =>
   have hi : i = -1 := by omega
   subst hi;have HE : Hid (U = none) := Hd (HU.out.symm.trans hn.out);have HO9 := Hd (HO3.out.trans hO.out);go_wp2
   go_ret2
   first | exact ⟨_, ⟨(by rw [HE.out]; rfl), (fun ys h => by rw [HE.out] at h; cases h), fun _ => rfl⟩, HO9.out⟩ | exact ⟨⟨_, (by rw [HE.out]; rfl), (fun ys h => by rw [HE.out] at h; cases h), fun _ => rfl⟩, HO9.out⟩
  | succ p =>
   have hi : i = (p : Int) := by omega
   subst hi;clear hiq;have hpm : p < m := by omega
   obtain ⟨u, hu⟩ : ∃ u, l[p]? = some u := ⟨_, List.getElem?_eq_getElem (by rw [HM.out]; exact hpm)⟩;obtain ⟨cl, hc⟩ : ∃ cl, vals[p]? = some cl := ⟨_, List.getElem?_eq_getElem (by rw [HVL.out]; exact hpm)⟩;have hin := HIS.out p u cl hu hc;have hidx := List.idxOf_lt_length_of_mem hin;have hfew := HFW3.out cl (List.mem_of_getElem? hc);have HIA := Hd (idxO_at hin);have HIN := Hd (fun j (hj : j < cl.idxOf u) => idxO_ne hj);have HAT := Hd (fun y (h : cl[cl.idxOf u + 1]? = some y) => upL_at (d := 0) (y := y) hc hu hn.out (show nextOf cl u = some y from h));have HON := Hd (fun h => upL_on (d := 0) hc hu hn.out h);have HHD := Hd (headsI_drop hc);have HST := Hd (fun (H : List Int) (y : Int) => take_setI (H := H) (y := y) hu);unfold nextOf at HON;obtain ⟨bm, om, rfl, -, hbm, hcm⟩ := (HG.out _ (HO3.out.trans hO.out)).open_ (k := p) (by rw [List.length_map, HM.out]; omega);have HM0 := Hd (hcm p _ (by rw [List.getElem?_map, hu]; rfl));obtain ⟨b, off, Ak, ck, rfl, hb, hcc, hown⟩ := (HC.out.same hO.out).cell (n := m) hc;have HE0 := Hd hcc;have HOW := Hd hown;have hp0 : (0 : Int) ≤ (p : Int) := Int.natCast_nonneg _;have hp1 : (p : Int) < (m : Int) := by omega
   have hwp : IntKind.i64.wrap ((p : Int) - 1) = (p : Int) - 1 := IntWalk.i64_in _ (by omega);have hwa : IntKind.i64.wrap ((cl.idxOf u : Int) + 1) = (cl.idxOf u : Int) + 1 := IntWalk.i64_in _ (by omega);generalize cl.idxOf u = j at *;obtain ⟨ncl, hncl⟩ : ∃ ncl, cl.length = ncl := ⟨_, rfl⟩;have HCL := Hd hncl;rw [hncl] at HE0 HOW hidx hfew;clear hc hu hin hn hcm hcc hown hncl;obtain ⟨wq, hwq⟩ : ∃ wq : World, wq = wr := ⟨_, rfl⟩;subst hwq;go_wp2_with fail
   go_loopw [9] (fun av wr => ∃ a : Nat, av = .int .i64 (a : Int) ∧ a ≤ j ∧ Hid (Only [] wq wr)) (fun av _ => j - (intOf av).toNat)
   case atStart => exact ⟨0, rfl, by omega, Hd (Only.refl [] wq)⟩
   case round =>
    obtain ⟨a, rfl, ha, hOa⟩ := hrel;obtain ⟨y, hy⟩ : ∃ y, cl[a]? = some y := ⟨_, List.getElem?_eq_getElem (by rw [HCL.out]; omega)⟩;obtain ⟨bk, okk, rfl, -, hbk, hck⟩ := (own_row_at (own_only HOW.out hOa.out (by simp))).1.open_ (k := a) (by rw [List.length_map, HCL.out]; omega);have HK0 := Hd (hck a _ (by rw [List.getElem?_map, hy]; rfl));have HE1 := Hd ((hOa.out.cell (p := ⟨b, off + p, none⟩) hb (by simp)).trans HE0.out);have HM1 := Hd ((hOa.out.cell (p := ⟨bm, om + p, none⟩) hbm (by simp)).trans HM0.out);have hb1 : b < wr.heap.size := by have := hOa.out.size; omega
    have hbm1 : bm < wr.heap.size := by have := hOa.out.size; omega
    have ha0 : (0 : Int) ≤ (a : Int) := Int.natCast_nonneg _;have ha1 : (a : Int) < (ncl : Int) := by omega
    have hwk : IntKind.i64.wrap ((a : Int) + 1) = (a : Int) + 1 := IntWalk.i64_in _ (by omega);have HY := Hd hy;clear hck hy;go_upto_region 6 with (fail)
    by_cases haj : a = j
    ·subst haj;obtain rfl : y = u := by have h1 := HY.out; rw [HIA.out] at h1; exact (Option.some.inj h1).symm
     have d1 : (y != y) = false := by simp
     have RD0 := Hd fun wq (hSw : Only [] wr wq) => aI ((hSw.cell (p := ⟨b, off + p, none⟩) hb1 (by simp)).trans HE1.out) (aI ((hSw.cell (p := ⟨bk, okk + a, none⟩) hbk (by simp)).trans HK0.out) (aI ((hSw.cell (p := ⟨bm, om + p, none⟩) hbm1 (by simp)).trans HM1.out) (aI (Nat.lt_of_lt_of_le hb1 hSw.size) (aI (Nat.lt_of_lt_of_le hbk hSw.size) (Nat.lt_of_lt_of_le hbm1 hSw.size)))));refine rg1 [] [] wr ?_;have OW : Only [] wr wr.drew := (Only.refl [] wr).drew;generalize wr.drew = wz at *;refine tQ 0 (h := tQ 1 (h := tQ 2 (h := trq 3 0 RD0 (h := tQ 4 (h := tQ 5 (h := trq 6 0 RD0 (h := tQ 7 (h := tQ 8 (h := tQ 9 (h := trq 10 0 RD0 (h := tQ 11 (h := ?_))))))))))));refine tdn ?_;have O2 := hOa.out.trans OW;have HO2 := Hd (hO.out.trans O2);have HV2 := Hd (own_only hV.out O2 (by simp));have c0 := (O2.cell (p := ⟨b, off + p, none⟩) hb (by simp)).trans HE0.out;have hbz : b < wz.heap.size := by have := O2.size; omega
     have h3 := (own_row_at (own_only HOW.out O2 (by simp))).1;clear OW O2 hOa hO hV HE1 HM1 HK0 HM0 HE0 HOW hb1 hbm1 hbk hbm d1 HY HIN HIA;obtain ⟨gN, rfl⟩ : ∃ gN, AN = some ⟨gN, 0, none⟩ := by
      rcases HV2.out.2 with ⟨e, -⟩ | ⟨g1, cp1, cu1, e, -⟩
      ·injection e with e1 e2 e3;omega
      ·injection e with e1 e2 e3;exact ⟨g1, e1⟩
     have hgN := HV2.out.lt gN rfl;have hol2 : ((l.take (p + 1) ++ headsL 0 (vals.drop (p + 1))).map (Value.int .i64)).length = m := by have := HV2.out.1; rw [Nat.mul_one] at this; exact this
     have hol : p < ((l.take (p + 1) ++ headsL 0 (vals.drop (p + 1))).map (Value.int .i64)).length := by rw [hol2]; omega
     obtain ⟨zz, hzz⟩ : ∃ zz, ((l.take (p + 1) ++ headsL 0 (vals.drop (p + 1))).map (Value.int .i64))[p]? = some zz := ⟨_, List.getElem?_eq_getElem hol⟩;obtain ⟨e0, f0⟩ := own_cell HV2.out rfl hzz;clear hzz;have ha00 : (0 : Int) ≤ (a : Int) + 1 := by omega
     by_cases hlt : a + 1 < ncl
     ·obtain ⟨z, hz⟩ : ∃ z, cl[a + 1]? = some z := ⟨_, List.getElem?_eq_getElem (by rw [HCL.out]; exact hlt)⟩;have HE := Hd (HU.out.symm.trans (HAT.out z hz));have HS := Hd (HST.out (headsL 0 (vals.drop (p + 1))) z);have hd1 : decide ((a : Int) + 1 < (ncl : Int)) = true := decide_eq_true (by omega);have ha1 : (a : Int) + 1 < (ncl : Int) := by omega
      have hta : ((a : Int) + 1).toNat = a + 1 := by omega
      obtain ⟨bx, ox, ex, -, hbx, hcx⟩ := h3.open_ (k := a + 1) (by rw [List.length_map, HCL.out]; omega);obtain ⟨rfl, rfl⟩ : bk = bx ∧ okk = ox := by simpa using ex
      have z0 := hcx (a + 1) _ (by rw [List.getElem?_map, hz]; rfl);have h9 := own_set HV2.out rfl hol (.int .i64 z);rw [← List.map_set, HS.out] at h9;have HO9 := Hd (HO3.out.trans (HO2.out.step ((Only.refl [gN] wz).put (p := ⟨gN, p, none⟩) (fun _ => by simp) (.int .i64 z)) (fun i hi hl => by simp at hi; omega)));have HV9 := Hd (own_from h9 hsz3);clear hcx h3 hz HON HHD HST HAT h9 hol hol2 HO2 HV2 ex;go_wp2
      go_ret2
      first | exact ⟨_, ⟨(by rw [HE.out]; rfl), (fun ys h => by rw [HE.out] at h; cases h; exact HV9.out), fun h => by rw [HE.out] at h; cases h⟩, HO9.out⟩ | exact ⟨⟨_, (by rw [HE.out]; rfl), (fun ys h => by rw [HE.out] at h; cases h; exact HV9.out), fun h => by rw [HE.out] at h; cases h⟩, HO9.out⟩
     ·have hnone : cl[a + 1]? = none := List.getElem?_eq_none (by rw [HCL.out]; omega);have HN2 := Hd (HON.out hnone);obtain ⟨z, hz⟩ : ∃ z, cl[0]? = some z := ⟨_, List.getElem?_eq_getElem (by rw [HCL.out]; omega)⟩;have hyd : cl.headD 0 = z := by
       cases cl with
       | nil => cases hz
       | cons v r => simpa using hz
      have HS := Hd ((HST.out (headsL 0 (vals.drop (p + 1))) z).trans (show l.take p ++ z :: headsL 0 (vals.drop (p + 1)) = l.take p ++ headsL 0 (vals.drop p) by rw [HHD.out, hyd]));have hd1 : decide ((a : Int) + 1 < (ncl : Int)) = false := decide_eq_false (by omega);have hx0 : (0 : Int) < (ncl : Int) := by omega
      obtain ⟨bx, ox, ex, -, hbx, hcx⟩ := h3.open_ (k := 0) (by rw [List.length_map, HCL.out]; omega);obtain ⟨rfl, rfl⟩ : bk = bx ∧ okk = ox := by simpa using ex
      have z0 := hcx 0 _ (by rw [List.getElem?_map, hz]; rfl);rw [Nat.add_zero] at z0;have h9 := own_set HV2.out rfl hol (.int .i64 z);rw [← List.map_set, HS.out] at h9;have HO9 := Hd (HO2.out.step ((Only.refl [gN] wz).put (p := ⟨gN, p, none⟩) (fun _ => by simp) (.int .i64 z)) (fun i hi hl => by simp at hi; omega));have HV9 := Hd h9;clear hcx h3 hz hyd HON HHD HST HAT hnone h9 hol hol2 HO2 HV2 ex;go_wp2
      go_roundw
      case rel => exact ⟨p, (p : Int) - 1, by go_num, by omega, by omega, HN2, HV9, HO9⟩
      case measure => simp [intOf]
    ·have hyu : y ≠ u := fun e => by
      subst e;exact HIN.out a (by omega) HY.out
     have d1 : (y != u) = true := by simpa using hyu
     clear hyu;have RD0 := Hd fun wq (hSw : Only [] wr wq) => aI ((hSw.cell (p := ⟨b, off + p, none⟩) hb1 (by simp)).trans HE1.out) (aI ((hSw.cell (p := ⟨bk, okk + a, none⟩) hbk (by simp)).trans HK0.out) (aI ((hSw.cell (p := ⟨bm, om + p, none⟩) hbm1 (by simp)).trans HM1.out) (aI (Nat.lt_of_lt_of_le hb1 hSw.size) (aI (Nat.lt_of_lt_of_le hbk hSw.size) (Nat.lt_of_lt_of_le hbm1 hSw.size)))));refine rg1 [] [] wr ?_;have OW : Only [] wr wr.drew := (Only.refl [] wr).drew;generalize wr.drew = wz at *;refine tQ 0 (h := tQ 1 (h := tQ 2 (h := trq 3 0 RD0 (h := tQ 4 (h := tQ 5 (h := trq 6 0 RD0 (h := tQ 7 (h := tQ 8 (h := tQ 9 (h := trq 10 0 RD0 (h := tQ 11 (h := ?_))))))))))));refine tdn ?_;have HN9 := Hd (hOa.out.trans OW);clear OW;go_wp2
     go_roundw
     case rel => exact ⟨a + 1, by go_num, by omega, HN9⟩
     case measure => simp [intOf]; omega
end
end Go.Proofs.YthdofaoamljkfaaGreatDoor
namespace Go.Proofs.YthdofaoamljkfaaGreatDoor
def midM (K : Nat) (out : List (List Int)) (ci : List Int) (k : Nat) : List (List Int) := ((out.take k).flatMap fun o => ci.map fun j => o ++ [j]).take K
def innM (K : Nat) (out : List (List Int)) (ci : List Int) (k : Nat) (o : List Int) (j : Nat) : List (List Int) := (((out.take k).flatMap fun o => ci.map fun j => o ++ [j]) ++ (ci.take j).map fun x => o ++ [x]).take K
theorem innM_zero (K : Nat) (out : List (List Int)) (ci : List Int) (k : Nat) (o : List Int) : innM K out ci k o 0 = midM K out ci k := by
 unfold innM midM;simp
theorem midM_zero (K : Nat) (out : List (List Int)) (ci : List Int) : midM K out ci 0 = [] := by
 unfold midM;simp
theorem innM_step {K : Nat} {out : List (List Int)} {ci : List Int} {k : Nat} {o : List Int} {j : Nat} {x : Int} (h : ci[j]? = some x) (hl : (innM K out ci k o j).length < K) : innM K out ci k o (j + 1) = innM K out ci k o j ++ [o ++ [x]] := by
 unfold innM at *;rw [List.take_add_one, h, Option.toList_some, List.map_append, ← List.append_assoc];generalize ((out.take k).flatMap fun o => ci.map fun j => o ++ [j]) ++ (ci.take j).map (fun x => o ++ [x]) = P at *;rw [List.length_take] at hl;rw [List.take_of_length_le (l := P) (by omega), List.take_of_length_le (by simp; omega)]
 rfl
theorem innM_end {K : Nat} {out : List (List Int)} {ci : List Int} {k : Nat} {o : List Int} {j : Nat} (ho : out[k]? = some o) (he : ci.length ≤ j ∨ ¬ (innM K out ci k o j).length < K) : innM K out ci k o j = midM K out ci (k + 1) := by
 unfold midM;rw [List.take_add_one, ho, Option.toList_some, List.flatMap_append];have e1 : ([o].flatMap fun o => ci.map fun j => o ++ [j]) = ci.map fun j => o ++ [j] := by simp
 rw [e1];rcases he with he | he
 ·unfold innM;rw [List.take_of_length_le he]
 ·unfold innM at *;have e2 : (ci.map fun j => o ++ [j]) = ((ci.take j).map fun x => o ++ [x]) ++ (ci.drop j).map fun x => o ++ [x] := by rw [← List.map_append, List.take_append_drop]
  rw [e2, ← List.append_assoc];generalize ((out.take k).flatMap fun o => ci.map fun j => o ++ [j]) ++ (ci.take j).map (fun x => o ++ [x]) = P at *;rw [List.length_take] at he;rw [List.take_append_of_le_length (by omega)]
theorem midM_all {K : Nat} {out : List (List Int)} {ci : List Int} {k : Nat} (h : out.length ≤ k) : midM K out ci k = (out.flatMap fun o => ci.map fun j => o ++ [j]).take K := by
 unfold midM;rw [List.take_of_length_le h]
theorem allM_step {K : Nat} {C : List (List Int)} {i : Nat} {ci : List Int} (h : C[i]? = some ci) {k : Nat} (hk : (allM K (C.take i)).length ≤ k) : midM K (allM K (C.take i)) ci k = allM K (C.take (i + 1)) := by
 rw [List.take_add_one, h, Option.toList_some, allM_snoc, midM_all hk]
theorem innM_le (K : Nat) (out : List (List Int)) (ci : List Int) (k : Nat) (o : List Int) (j : Nat) : (innM K out ci k o j).length ≤ K := by
 unfold innM;rw [List.length_take];omega
theorem allM_le {K : Nat} (hK : 1 ≤ K) (C : List (List Int)) : (allM K C).length ≤ K := by
 rcases List.eq_nil_or_concat C with rfl | ⟨d, l, rfl⟩
 ·exact hK
 ·rw [List.concat_eq_append, allM_snoc, List.length_take];omega
theorem allM_len (K : Nat) : ∀ (n : Nat) (C : List (List Int)), C.length = n → ∀ o ∈ allM K C, o.length = n
 | 0, C, h, o, ho => by
  obtain rfl := List.eq_nil_of_length_eq_zero h;have : o ∈ ([[]] : List (List Int)) := ho;simp at this;rw [this]; rfl
 | n + 1, C, h, o, ho => by
  rcases List.eq_nil_or_concat C with rfl | ⟨d, l, rfl⟩
  ·cases h
  rw [List.concat_eq_append] at h ho;rw [allM_snoc] at ho;have h1 := List.mem_of_mem_take ho;obtain ⟨k, hk, h2⟩ := List.mem_flatMap.1 h1;obtain ⟨j, -, rfl⟩ := List.mem_map.1 h2;rw [List.length_append, allM_len K n d (by simp at h; omega) k hk]
  rfl
open Go.RowKit
theorem made_go {w0 w : World} (T : TypeId) (cs : Array Value) (OW : Only [] w0 w) :
  Only [] w (w.alloc (.cells cs T)) ∧ Only [] w0 (w.alloc (.cells cs T)) ∧ Blk (w.alloc (.cells cs T)) w.heap.size T cs ∧ w0.heap.size ≤ w.heap.size :=
 have OS : Only [] w (w.alloc (.cells cs T)) := (Only.refl [] w).alloc (.cells cs T)
 ⟨OS, OW.trans OS, Blk.made w T cs, OW.size⟩
end Go.Proofs.YthdofaoamljkfaaGreatDoor
namespace Go.Proofs.YthdofaoamljkfaaGreatDoor
section
variable {P : Program} {ops : Array Oper} {Q : Exit → Act → World → Prop} {md : Region.Mode} {S : Array Bool → World → Prop}
def AheadD (md : Region.Mode) (ops : Array Oper) (K : Array Bool) (i : Nat) (L : Array Bool) : Prop :=
 ∀ j, (K.getD j true = true → L.getD j true = true) ∧ (L.getD j true = true → K.getD j true = true ∨ ∀ oj, ops[j]? = some oj → ∀ e ∈ oj.after, Region.binds md e = true → e.on ≠ i ∧ L.getD e.on true = true)
theorem getD_grow {L : Array Bool} {j k : Nat} (h : L.getD k true = true) : (L.setIfInBounds j true).getD k true = true := by
 by_cases hjk : j = k
 ·subst hjk;rcases Nat.lt_or_ge j L.size with h' | h'
  ·simp [h']
  ·simp [Array.getElem?_eq_none, h']
 ·rw [getD_set_ne true hjk];exact h
theorem timed_firstD {K : Array Bool} {i : Nat} {oi : Oper} {v : Value} (hi : ops[i]? = some oi) (hsel : ∀ (j : Nat) (o : Oper) cs b, ops[j]? = some o → o.op ≠ .select cs b)
  (hQ : ∀ c a w, Q (.panic c) (a.put oi.dst v) w → Q (.panic c) a w) (hinv : ∀ L w, S (L.setIfInBounds i true) w ↔ S L w) :
  ∀ (fuel : Nat) (listed : Array Bool) (a : Act) (w : World),
   (∀ j oj, ops[j]? = some oj → j ≠ i → listed.getD j true = false → (∀ e ∈ oj.after, Region.binds md e = true → e.on ≠ i) → oi.apart ops oj = true) →
   i ∈ Region.ready md ops listed → YieldsIf P ops (fun w => ∃ L, AheadD md ops K i L ∧ S L w) oi v a → AheadD md ops K i listed → S listed w →
   wpAnyT P md ops Q S fuel (listed.setIfInBounds i true) (a.put oi.dst v) w → wpAnyT P md ops Q S (fuel + 1) listed a w := by
 intro fuel
 induction fuel with
 | zero =>
  intro listed a w _ hr hy hA hS H;refine ⟨fun h => (by rw [h] at hr; cases hr), fun j hj => ?_⟩
  by_cases hji : j = i
  ·subst hji;exact hy.wpOp hi ⟨listed, hA, hS⟩ ⟨(hinv _ _).2 hS, H⟩
  ·have := ready_mono hj hji;rw [H.1] at this
   cases this
 | succ fuel ih =>
  intro listed a w hfree hr hy hA hS H;refine ⟨fun h => (by rw [h] at hr; cases hr), fun j hj => ?_⟩
  by_cases hji : j = i
  ·subst hji;exact hy.wpOp hi ⟨listed, hA, hS⟩ ⟨(hinv _ _).2 hS, H⟩
  ·have h1 := H.2 j (ready_mono hj hji);obtain ⟨hjun, oj, hoj, hall⟩ := mem_ready.1 hj;have hon : ∀ e ∈ oj.after, Region.binds md e = true → listed.getD e.on true = true := fun e he hb => by
    have h1 := hall e he hb;rcases Nat.lt_or_ge e.on listed.size with h' | h'
    ·simpa [h'] using h1
    ·simp [Array.getElem?_eq_none h']
   have hnot : ∀ e ∈ oj.after, Region.binds md e = true → e.on ≠ i := fun e he hb heq => by
    have h1 := hall e he hb;have h0 := (mem_ready.1 hr).1;rw [heq] at h1;rcases Nat.lt_or_ge i listed.size with h' | h'
    ·simp [h'] at h0 h1;rw [h0] at h1
     cases h1
    ·simp [Array.getElem?_eq_none h'] at h1
   have h2 := wpOp_putIf hoj (hfree j oj hoj hji hjun hnot) (fun cs b => hsel i oi cs b hi) (fun cs b => hsel j oj cs b hoj) hQ hy h1;have hfree' : ∀ k ok, ops[k]? = some ok → k ≠ i → (listed.setIfInBounds j true).getD k true = false →
     (∀ e ∈ ok.after, Region.binds md e = true → e.on ≠ i) → oi.apart ops ok = true := fun k ok hk hki hun hno => by
    refine hfree k ok hk hki ?_ hno
    by_cases hjk : j = k
    ·subst hjk;exact hjun
    ·rw [getD_set_ne true hjk] at hun;exact hun
   have hA' : AheadD md ops K i (listed.setIfInBounds j true) := fun k => by
    by_cases hjk : j = k
    ·subst hjk;refine ⟨fun _ => ?_, fun _ => Or.inr fun ok hk => ?_⟩
     ·rcases Nat.lt_or_ge j listed.size with h' | h'
      ·simp [h']
      ·simp [Array.getElem?_eq_none, h']
     ·rw [hoj] at hk;injection hk with hk;subst hk;exact fun e he hb => ⟨hnot e he hb, getD_grow (hon e he hb)⟩
    ·rw [getD_set_ne true hjk];refine ⟨(hA k).1, fun h => ?_⟩;rcases (hA k).2 h with h | h
     ·exact .inl h
     ·exact .inr fun ok hk e he hb => ⟨(h ok hk e he hb).1, getD_grow (h ok hk e he hb).2⟩
   refine wpOp_mono (fun a' w' h3 => ?_) h2;have hS' : S (listed.setIfInBounds j true) w' := by
    have := h3.2.1;rw [Array.setIfInBounds_comm _ _ (Ne.symm hji)] at this;exact (hinv _ _).1 this
   refine ⟨hS', ih (listed.setIfInBounds j true) a' w' hfree' (ready_mono hr (Ne.symm hji)) h3.1 hA' hS' ?_⟩;rw [Array.setIfInBounds_comm _ _ hji];exact h3.2.2
def waitsFor (md : Region.Mode) (ops : Array Oper) (K : Array Bool) (i : Nat) : Nat → Nat → Bool
 | 0, _ => false
 | n + 1, t => !K.getD t true && ((ops[t]?).map fun o => o.after.any fun e => Region.binds md e && (e.on == i || waitsFor md ops K i n e.on)).getD false
theorem not_ahead {K L : Array Bool} {i : Nat} (hA : AheadD md ops K i L) : ∀ (n t : Nat), waitsFor md ops K i n t = true → L.getD t true = false
 | 0, _, h => by cases h
 | n + 1, t, h => by
  unfold waitsFor at h;rw [Bool.and_eq_true] at h;obtain ⟨h1, h2⟩ := h
  by_cases hL : L.getD t true = true
  ·exfalso
   rcases (hA t).2 hL with h3 | h3
   ·rw [h3] at h1
    cases h1
   ·cases ho : ops[t]? with
    | none => rw [ho] at h2; cases h2
    | some ot =>
     rw [ho] at h2;simp only [Option.map_some, Option.getD_some, Array.any_eq_true', Bool.and_eq_true] at h2;obtain ⟨e, he, hb, hon⟩ := h2;obtain ⟨h4, h5⟩ := h3 ot ho e he hb;rw [Bool.or_eq_true] at hon;rcases hon with hon | hon
     ·exact h4 (by simpa using hon)
     ·rw [not_ahead hA n e.on hon] at h5
      cases h5
  ·simpa using hL
def liveForD (md : Region.Mode) (ops : Array Oper) (F : List Span) (K : Array Bool) (i k : Nat) : Bool :=
 match F[k]? with
 | none => false
 | some x => x.pre.all (fun j => K.getD j true) && x.till.all fun t => waitsFor md ops K i ops.size t
theorem timed_useD {F : List Span} {K L : Array Bool} {i k : Nat} {x : Span} {w : World} (hk : F[k]? = some x) (hl : liveForD md ops F K i k = true) (hA : AheadD md ops K i L) (hS : Timed F L w) : x.fact w := by
 unfold liveForD at hl;simp only [hk, Bool.and_eq_true, List.all_eq_true] at hl;refine hS x (List.mem_of_getElem? hk) ?_ ?_
 ·rw [List.all_eq_true];intro j hj;exact (hA j).1 (hl.1 j hj)
 ·rw [List.all_eq_true];intro t ht;rw [not_ahead hA _ t (hl.2 t ht)]
  rfl
theorem timed_readD {F : List Span} {i : Nat} (k : Nat) {x : Span} {oi : Oper} {v : Value} {fuel : Nat} {listed : Array Bool} {a : Act} {w : World} (hi : ops[i]? = some oi)
  (hs : Region.noSelect ops = true) (hf : Region.free md ops listed i = true) (hr : (Region.ready md ops listed).contains i = true)
  (hQ : ∀ c a w, Q (.panic c) (a.put oi.dst v) w → Q (.panic c) a w) (hq : quietAt F i = true) (hw : Region.wanted oi (yielded ops a.tmps) = true) (hk : F[k]? = some x)
  (hl : liveForD md ops F listed i k = true) (hy : ∀ w, x.fact w → (execOp a.eval oi).run P w = .ok (.value v) w)
  (h : Timed F (listed.setIfInBounds i true) w → wpAnyT P md ops Q (Timed F) fuel (listed.setIfInBounds i true) (a.put oi.dst v) w) : Timed F listed w → wpAnyT P md ops Q (Timed F) (fuel + 1) listed a w := fun hS =>
 timed_firstD (K := listed) hi (Region.noSelect_spec hs) hQ (timed_inv hq) fuel listed a w (Region.free_spec hi hf) (by simpa using hr)
  (Or.inl ⟨hw, fun w ⟨L, hA, hT⟩ => hy w (timed_useD hk hl hA hT)⟩) (fun j => ⟨id, Or.inl⟩) hS (h ((timed_inv hq _ _).2 hS))
end
end Go.Proofs.YthdofaoamljkfaaGreatDoor
