/- Parts. -/
import Derived.Test.YthdofaoamljkfaaGreatDoorLaw24AllK23
import Derived.Test.YthdofaoamljkfaaGreatDoorLaw24AllK17
import Derived.Lib.MinMax
import Derived.Deep.DeepMust
set_option maxRecDepth 10000
set_option maxHeartbeats 16000000
set_option linter.unusedVariables false
set_option linter.unusedSimpArgs false
namespace Go.Proofs.YthdofaoamljkfaaGreatDoor
open Go.RowKit
open Go.Lib hiding intOf
attribute [local go_sem ↓] Go.wp_at_zero Go.wp_at_succ
theorem one_intz (l : List Int) : ∀ u ∈ l.map (Value.int .i64), u.oneCell' = true := by
 intro u hu;obtain ⟨b, -, rfl⟩ := List.mem_map.1 hu
 rfl
theorem iclone_any (A : Option Addr) (m c B : Nat) (xs : List Int) (w : World) (hg : Row w B A (xs.map (Value.int .i64))) (hm : xs.length = m) (hM : m ≤ 100000) (hc : A = none → m = 0 ∧ c = 0) :
  Calls Tryz.prog 56 #[.slice A m c] w fun e w' => ∃ V, (e = .returned V ∧ w'.ownsRow w.heap.size 3 1 V m (xs.map (Value.int .i64))) ∧ Only [] w w' := by
 obtain ⟨i0, hi, hz0, hz1, hz2⟩ := info_parts info_int;have hnil := fun (w : World) (a : Option Addr) (n c : Nat) => Go.Lib.run_eql_slice_nil (P := Tryz.prog) w _ _ a n c 0 0 Tryz.underlying26;have HG := Hd hg;have HM := Hd hm;clear hg hm
 cases A with
 | none =>
  obtain ⟨rfl, rfl⟩ := hc rfl;have hx : xs = [] := List.eq_nil_of_length_eq_zero HM.out;subst hx;go_enter Tryz.func56, Tryz.ntmps56;go_wp2
  go_ret
  exact ⟨⟨_, rfl, World.ownsRow_nil _ _ _ _⟩, Only.refl [] w⟩
 | some a =>
  clear hc;go_enter Tryz.func56, Tryz.ntmps56;go_wp2_with (at_builtin; refine wpList_append_row _ rfl (.tmp 5) (.tmp 6) 26 rfl w.heap.size 3 i0 _ 1 8 Tryz.underlying26 hi hz0 hz1 hz2 rfl (by omega) (.slice (some ⟨w.heap.size, 0, none⟩) 0 0) 0 [] rfl (World.ownsRow_lit w (e := 3) (size := 1) #[] 0 (Nat.le_refl _) (by unfold maxLen; omega) rfl) _ (some a) m c (xs.map (Value.int .i64)) rfl (by rw [List.length_map, HM.out, Nat.mul_one]) (HG.out.only ((Only.refl [] w).alloc (.cells #[] 3)) (by simp)) (one_intz xs) (by unfold maxLen; omega) (by omega) (by simp) ?_; intro V9 w9 hown hgrow hat)
  have HV := Hd hown;have HO := Hd (((Only.refl [] w).alloc (.cells #[] 3)).step (only_grown hgrow) (fun i hi hl => by have h2 : i = w.heap.size := (by simp [Value.ownBlock] at hi; exact hi); omega));rw [Nat.zero_add, List.nil_append] at HV;clear hown hgrow hat;go_wp2
  go_ret
  exact ⟨_, ⟨rfl, HV.out⟩, HO.out⟩
theorem idxI_in {l : List Int} {x : Int} (h : x ∈ l) : idxI l x = (l.idxOf x : Int) := by
 have H : ∀ l : List Int, x ∈ l → l.findIdx? (fun y => decide (x = y)) = some (l.idxOf x) := by
  intro l
  induction l with
  | nil => intro h; cases h
  | cons y r ih =>
   intro h;rw [List.findIdx?_cons, List.idxOf_cons]
   by_cases e : x = y
   ·subst e;simp
   ·have h2 : x ∈ r := by
     rcases List.mem_cons.1 h with h3 | h3
     ·exact absurd h3 e
     ·exact h3
    have e2 : (y == x) = false := by simpa using fun c : y = x => e c.symm
    rw [ih h2, e2];simp [e]
 unfold idxI;rw [H l h]
theorem take_setI {l H : List Int} {p : Nat} {u y : Int} (h : l[p]? = some u) : (l.take (p + 1) ++ H).set p y = l.take p ++ y :: H := by
 have hp := (List.getElem?_eq_some_iff.1 h).1;have hl : (l.take p).length = p := by rw [List.length_take]; omega
 rw [List.take_add_one, h, List.append_assoc, List.set_append_right _ _ (by omega), hl, Nat.sub_self]
 rfl
theorem headsI_drop {vals : List (List Int)} {p : Nat} {vs : List Int} (h : vals[p]? = some vs) : headsL 0 (vals.drop p) = vs.headD 0 :: headsL 0 (vals.drop (p + 1)) := by
 rw [drop_cons h]
 rfl
theorem iup_any (A : Option Addr) (m c Bl gc B : Nat) (l : List Int) (xs : List SlI) (w : World) (hg : Row w Bl A (l.map (Value.int .i64))) (hm : l.length = m) (hM : m ≤ 100000) (hA : A = none → m = 0 ∧ c = 0) (hT : ChAt w gc B m xs) (hB : B ≤ w.heap.size) (hIs : isI (xs.map (fun x => x.l)) l = true) :
  Calls Tryz.prog 37 #[.slice A m c, .func (.func 38) #[] #[.pointer (some ⟨gc, 0, none⟩)]] w fun e w' => ∃ V, (e = .returned (.tuple #[V, .bool (upL 0 (xs.map (fun x => x.l)) l).isSome]) ∧ (∀ ys, upL 0 (xs.map (fun x => x.l)) l = some ys → w'.ownsRow w.heap.size 3 1 V m (ys.map (Value.int .i64))) ∧ (upL 0 (xs.map (fun x => x.l)) l = none → V = .slice none 0 0)) ∧ Only [] w w' := by
 have HG := Hd hg;have HM := Hd hm;have HT := Hd hT;have HIS := Hd (isI_iff.1 hIs);have HCL := Hd (fun w' (O : Only [] w w') => iclone_any A m c Bl l w' (hg.only O (by simp)) hm hM hA);have hwm : IntKind.i64.wrap ((m : Int) - 1) = (m : Int) - 1 := IntWalk.i64_in _ (by omega);have HVL : Hid ((xs.map (fun x => x.l)).length = m) := Hd (by rw [List.length_map]; exact hT.len);have HXS : Hid (∀ (p : Nat) (x : SlI), xs[p]? = some x → (xs.map (fun x => x.l))[p]? = some x.l) := Hd (fun p (x : SlI) h => by rw [List.getElem?_map, h]; rfl);generalize xs.map (fun x => x.l) = vals at *;obtain ⟨U, hU⟩ : ∃ U, upL 0 vals l = U := ⟨_, rfl⟩;rw [hU];have HU := Hd hU;clear hg hm hT hIs hA hU;go_enter Tryz.func37, Tryz.ntmps37;go_wp2_with fail
 refine (HCL.out _ (Only.refl [] w)).mono ?_;rintro e w1 ⟨V1, ⟨rfl, hv1⟩, O1⟩;obtain ⟨AN, cN, rfl, -, -, -, -⟩ := own_row hv1;have HV1 := Hd hv1;have HO1 := Hd O1;clear hv1 O1 HCL;go_wp2_with fail
 go_loopw [7] (fun iv wr => ∃ (q : Nat) (i : Int), iv = .int .i64 i ∧ i + 1 = (q : Int) ∧ q ≤ m ∧ Hid (upL 0 (vals.drop q) (l.drop q) = none) ∧ Hid (wr.ownsRow w.heap.size 3 1 (.slice AN m cN) m ((l.take q ++ headsL 0 (vals.drop q)).map (Value.int .i64))) ∧ Hid (Only [] w wr))
  (fun iv _ => (intOf iv + 1).toNat)
 case atStart =>
  refine ⟨m, (m : Int) - 1, rfl, by omega, Nat.le_refl _, Hd (upL_end (by rw [HVL.out]; exact Nat.le_refl _)), Hd ?_, HO1⟩;rw [List.drop_of_length_le (by rw [HVL.out]; exact Nat.le_refl _), List.take_of_length_le (by rw [HM.out]; exact Nat.le_refl _)]
  simpa [headsL] using HV1.out
 case round =>
  obtain ⟨q, i, rfl, hiq, hq, hn, hV, hO⟩ := hrel;clear HV1 HO1 hwm
  cases q with
  | zero =>
   have hi : i = -1 := by omega
   subst hi;have HE : Hid (U = none) := Hd (HU.out.symm.trans hn.out);go_wp2
   go_ret2
   exact ⟨_, ⟨(by rw [HE.out]; rfl), (fun ys h => by rw [HE.out] at h; cases h), fun _ => rfl⟩, hO.out⟩
  | succ p =>
   have hi : i = (p : Int) := by omega
   subst hi;clear hiq;have hpm : p < m := by omega
   obtain ⟨u, hu⟩ : ∃ u, l[p]? = some u := ⟨_, List.getElem?_eq_getElem (by rw [HM.out]; exact hpm)⟩;obtain ⟨x, hx⟩ : ∃ x, xs[p]? = some x := ⟨_, List.getElem?_eq_getElem (by rw [HT.out.len]; exact hpm)⟩;have hxm := List.mem_of_getElem? hx;have hv := HXS.out p x hx;have hin := HIS.out p u x.l hu hv;have hidx := List.idxOf_lt_length_of_mem hin;have hfew := HT.out.few x hxm;have HNX := Hd (fun w' (O : Only [] w w') => wrnext1_any gc B m xs p x w' (HT.out.only O (by simp)) hx);have HIX := Hd (fun w' (O : Only [] w w') => indexI_any x.A x.l.length x.cp B x.l u w' rfl (by omega) ((HT.out.rows x hxm).only O (by simp)));rw [idxI_in hin] at HIX;have HXR := Hd (fun w' (O : Only [] w w') => (HT.out.rows x hxm).only O (by simp));have HAT := Hd (fun y (h : x.l[x.l.idxOf u + 1]? = some y) => upL_at (d := 0) (y := y) hv hu hn.out (show nextOf x.l u = some y from h));have HON := Hd (fun h => upL_on (d := 0) hv hu hn.out h);have HHD := Hd (headsI_drop hv);have HST := Hd (fun (H : List Int) (y : Int) => take_setI (H := H) (y := y) hu);unfold nextOf at HON;unfold siC at *;obtain ⟨b, off, rfl, hbB, hbw, hc⟩ := (HG.out.only hO.out (by simp)).open_ (k := p) (by rw [List.length_map, HM.out]; omega);have c0 := hc p _ (by rw [List.getElem?_map, hu]; rfl);have hp0 : (0 : Int) ≤ (p : Int) := Int.natCast_nonneg _;have hp1 : (p : Int) < (m : Int) := by omega
   have hwp : IntKind.i64.wrap ((p : Int) - 1) = (p : Int) - 1 := IntWalk.i64_in _ (by omega);obtain ⟨xl, xA, xc⟩ := x;dsimp only at *;have hwa : IntKind.i64.wrap ((xl.idxOf u : Int) + 1) = (xl.idxOf u : Int) + 1 := IntWalk.i64_in _ (by omega);generalize xl.idxOf u = j at *;clear hc hu hx hv hxm hin hn;go_wp2_with fail
   refine (HNX.out _ hO.out).mono ?_;rintro e w2 ⟨rfl, O2⟩;have HO2 := Hd (hO.out.trans O2);have HV2 := Hd (own_only hV.out O2 (by simp));have c0 := (O2.cell (p := ⟨b, off + p, none⟩) hbw (by simp)).trans c0;have hbw2 : b < w2.heap.size := by have := O2.size; omega
   clear O2 HNX hO hV hbw;go_wp2_with fail
   refine (HIX.out _ HO2.out).mono ?_;rintro e w3 ⟨rfl, rfl⟩;clear HIX c0 hbw2;have h3 := HXR.out _ HO2.out;clear HXR;obtain ⟨gN, rfl⟩ : ∃ gN, AN = some ⟨gN, 0, none⟩ := by
    rcases HV2.out.2 with ⟨e, -⟩ | ⟨g1, cp1, cu1, e, -⟩
    ·injection e with e1 e2 e3;omega
    ·injection e with e1 e2 e3;exact ⟨g1, e1⟩
   have hgN := HV2.out.lt gN rfl;have hlen : ((l.take (p + 1) ++ headsL 0 (vals.drop (p + 1))).map (Value.int .i64)).length = m := by have := HV2.out.1; rw [Nat.mul_one] at this; exact this
   have hol : p < ((l.take (p + 1) ++ headsL 0 (vals.drop (p + 1))).map (Value.int .i64)).length := by rw [hlen]; omega
   obtain ⟨zz, hzz⟩ : ∃ zz, ((l.take (p + 1) ++ headsL 0 (vals.drop (p + 1))).map (Value.int .i64))[p]? = some zz := ⟨_, List.getElem?_eq_getElem hol⟩;obtain ⟨e0, f0⟩ := own_cell HV2.out rfl hzz;clear hzz;have ha0 : (0 : Int) ≤ (j : Int) := Int.natCast_nonneg _;have ha00 : (0 : Int) ≤ (j : Int) + 1 := by omega
   by_cases hlt : j + 1 < xl.length
   ·obtain ⟨y, hy⟩ : ∃ y, xl[j + 1]? = some y := ⟨_, List.getElem?_eq_getElem hlt⟩;have HE := Hd (HU.out.symm.trans (HAT.out y hy));have HS := Hd (HST.out (headsL 0 (vals.drop (p + 1))) y);have hd1 : decide ((j : Int) + 1 < (xl.length : Int)) = true := decide_eq_true (by omega);have ha1 : (j : Int) + 1 < (xl.length : Int) := by omega
    have hta : ((j : Int) + 1).toNat = j + 1 := by omega
    obtain ⟨bx, ox, rfl, -, hbx, hcx⟩ := h3.open_ (k := j + 1) (by rw [List.length_map]; omega);have z0 := hcx (j + 1) _ (by rw [List.getElem?_map, hy]; rfl);have h9 := own_set HV2.out rfl hol (.int .i64 y);rw [← List.map_set, HS.out] at h9;have HO9 := Hd (HO2.out.step ((Only.refl [gN] w2).put (p := ⟨gN, p, none⟩) (fun _ => by simp) (.int .i64 y)) (fun i hi hl => by simp at hi; omega));have HV9 := Hd h9;generalize xl.length = xn at *;clear hcx h3 hy HON HHD HST HAT h9 hol hlen HO2 HV2;go_wp2
    go_ret2
    exact ⟨_, ⟨(by rw [HE.out]; rfl), (fun ys h => by rw [HE.out] at h; cases h; exact HV9.out), fun h => by rw [HE.out] at h; cases h⟩, HO9.out⟩
   ·have hnone : xl[j + 1]? = none := List.getElem?_eq_none (by omega);have HN2 := Hd (HON.out hnone);obtain ⟨y, hy⟩ : ∃ y, xl[0]? = some y := ⟨_, List.getElem?_eq_getElem (by omega)⟩;have hyd : xl.headD 0 = y := by
     cases xl with
     | nil => cases hy
     | cons z r => simpa using hy
    have HS := Hd ((HST.out (headsL 0 (vals.drop (p + 1))) y).trans (show l.take p ++ y :: headsL 0 (vals.drop (p + 1)) = l.take p ++ headsL 0 (vals.drop p) by rw [HHD.out, hyd]));have hd1 : decide ((j : Int) + 1 < (xl.length : Int)) = false := decide_eq_false (by omega);have hx0 : (0 : Int) < (xl.length : Int) := by omega
    obtain ⟨bx, ox, rfl, -, hbx, hcx⟩ := h3.open_ (k := 0) (by rw [List.length_map]; omega);have z0 := hcx 0 _ (by rw [List.getElem?_map, hy]; rfl);rw [Nat.add_zero] at z0;have h9 := own_set HV2.out rfl hol (.int .i64 y);rw [← List.map_set, HS.out] at h9;have HO9 := Hd (HO2.out.step ((Only.refl [gN] w2).put (p := ⟨gN, p, none⟩) (fun _ => by simp) (.int .i64 y)) (fun i hi hl => by simp at hi; omega));have HV9 := Hd h9;generalize xl.length = xn at *;clear hcx h3 hy hyd HON HHD HST HAT hnone h9 hol hlen HO2 HV2;go_wp2
    go_roundw
    case rel => exact ⟨p, (p : Int) - 1, by go_num, by omega, by omega, HN2, HV9, HO9⟩
    case measure => simp [intOf]
theorem choL_max {h : Hst} (hw : wholeB h = true) : (choL h).length ≤ 800 := by
 have hm := whole_may hw;have h1 := rdsQ_le (fun t (ht : t ∈ h.l) => (may_keys24 hm ht).2) (whichL comT h.l).length;rw [rdsQ_all h.l (Nat.le_refl _)] at h1;have h2 := which_le comT h.l;have h3 := (may_ops hm).1;rw [choL_len];omega
section
variable (A0 A1 A2 : Option Addr) (n0 n1 n2 c0 c1 c2 B : Nat) (h : Hst)
theorem wrcho2_any (w : World) (hg : HIn w B A0 A1 A2 n0 n1 n2 h) (hw : wholeB h = true) (hI : HInt h) :
  Calls Tryz.prog 26 #[hval A0 A1 A2 n0 n1 n2 c0 c1 c2] w fun e w' => ∃ A cp xs, (e = .returned (.slice A (choL h).length cp) ∧ Rows2 w' w.heap.size (.slice A (choL h).length cp) xs (choL h)) ∧ Only [] w w' :=
 (wrcho_any A0 A1 A2 n0 n1 n2 c0 c1 c2 B h w hg hw hI).mono fun e w' ⟨V, xs, ⟨he, h1, h2, h3⟩, O⟩ => by
  have hr : Rows2 w' w.heap.size V xs (choL h) := ⟨h1, h2, h3⟩;obtain ⟨A, cp, rfl⟩ := hr.val;exact ⟨A, cp, xs, ⟨he, hr⟩, O⟩
theorem wris2_any {w : World} {base : Nat} {AV : Option Addr} {cV : Nat} {xs : List SlI} {C : List (List Int)} (hr : Rows2 w base (.slice AV C.length cV) xs C) (hf : ∀ c ∈ C, c.length ≤ 1000) (Am : Option Addr) (m c Bl : Nat) (l : List Int)
  (hg : Row w Bl Am (l.map (Value.int .i64))) (hm : l.length = m) (hM : m ≤ 100000) :
  Calls Tryz.prog 27 #[.slice AV C.length cV, .slice Am m c] w fun e w' => e = .returned (.bool (decide (m = C.length) && isI C l)) ∧ Only [] w w' := by
 have hn := hr.len;have h1 := wris_any AV Am C.length cV m c w.heap.size Bl l xs w (by have := hr.row; rw [hn] at this; exact (own_row_at this).1) hn (fun x hx => (own_row_at (hr.own x hx)).1) (fun x hx => hf x.l (by rw [← hr.ls]; exact List.mem_map_of_mem hx)) hg hm hM
 rwa [hr.ls] at h1
theorem wrCount_any (w : World) (hg : HIn w B A0 A1 A2 n0 n1 n2 h) (hI : HInt h) :
  Calls Tryz.prog 21 #[hval A0 A1 A2 n0 n1 n2 c0 c1 c2] w fun e w' => e = .returned (.int .i64 (cntR h : Int)) ∧ Only [] w w' := by
 have HWI := Hd (fun w' (O : Only [] w w') => wis_any A0 A1 A2 n0 n1 n2 c0 c1 c2 B h w' (hg.same O));have HRD := Hd (fun (hm : wholeB h = true) w' (O : Only [] w w') => wrcho2_any A0 A1 A2 n0 n1 n2 c0 c1 c2 B h w' (hg.same O) hm hI);have hnh : h.l.length = n2 := hg.n2;have HN40 := Hd (fun (hw : wholeB h = true) => (may_ops (whole_may hw)).1);have HFW := Hd (fun c (hc : c ∈ choL h) => choL_few hc);unfold hval at *;clear hg hI;have HO1 := Hd ((Only.refl [] w).alloc (.cells #[.slice A0 n0 c0, .slice A1 n1 c1, .slice A2 n2 c2] 25));have HB1 := Hd (Blk.made w 25 #[.slice A0 n0 c0, .slice A1 n1 c1, .slice A2 n2 c2]);obtain ⟨d, hd⟩ : ∃ d, wholeB h = d := ⟨_, rfl⟩;rw [hd] at HWI HRD HN40;have HDD : Hid (cntR h = if d = true then cntM (choL h) else 0) := Hd (by unfold cntR; rw [hd]);generalize cntR h = R at *;clear hd;go_enter Tryz.func21, Tryz.ntmps21;go_upto_region 1 with (fail)
 generalize (w.alloc (.cells #[.slice A0 n0 c0, .slice A1 n1 c1, .slice A2 n2 c2] 25)) = w1 at *;have lB := HB1.out.lt;have y0 := HB1.out.at_ 0;have y1 := HB1.out.at_ 1;have y2 := HB1.out.at_ 2;simp at y0 y1 y2;go_wp2_with fail
 refine (HWI.out _ HO1.out).mono ?_;rintro e w2 ⟨rfl, O2⟩;have HO2 := Hd (HO1.out.trans O2);have HB2 := Hd (O2.blk HB1.out (by simp));clear O2 HO1 HB1 HWI lB y0 y1 y2;have lB := HB2.out.lt;have y0 := HB2.out.at_ 0;have y1 := HB2.out.at_ 1;have y2 := HB2.out.at_ 2;simp at y0 y1 y2
 cases d with
 | false =>
  obtain rfl : R = 0 := by rw [HDD.out, if_neg (by decide)]
  go_wp2
  go_ret
  exact ⟨rfl, HO2.out⟩
 | true =>
  have HDR : Hid (R = cntM (choL h)) := Hd (by rw [HDD.out, if_pos rfl]);clear HDD;have hl2 := HO2.out.size;have HFW3 := Hd (fun c (hc : c ∈ choL h) => show c.length ≤ 1000 by have h1 := HFW.out c hc; have h2 := HN40.out (by first | rfl | trivial); omega);go_wp2_with fail
  refine (HRD.out trivial _ HO2.out).mono ?_;rintro e w3 ⟨A, cp, xs, ⟨rfl, hV⟩, O3⟩;have HV := Hd hV;have HO3 := Hd (HO2.out.trans O3);clear O3 hV HRD HB2 lB y0 y1 y2;obtain ⟨C, hC⟩ : ∃ C, choL h = C := ⟨_, rfl⟩;rw [hC] at HV HFW3 HDR ⊢;clear hC HFW;obtain ⟨n, hn⟩ : ∃ n, C.length = n := ⟨_, rfl⟩;have HN := Hd hn;have hnx := HV.out.max;rw [hn] at HV hnx ⊢;unfold maxLen at hnx;clear hn;obtain ⟨wo, hwo⟩ : ∃ wo : World, wo = w3 := ⟨_, rfl⟩;subst hwo;go_wp2_with fail
  go_loopw [3, 12] (fun pv iv wr => ∃ (k P : Nat), iv = .int .i64 (k : Int) ∧ pv = .int .i64 (P : Int) ∧ k ≤ n ∧ Hid (P = cntM (C.take k)) ∧ Hid (Only [] wo wr)) (fun _ iv _ => n - (intOf iv).toNat)
  case atStart => exact ⟨0, 1, rfl, rfl, by omega, Hd rfl, Hd (Only.refl [] wo)⟩
  case round =>
   obtain ⟨k, P, rfl, rfl, hk, hP, hO⟩ := hrel
   by_cases hlt : k < n
   ·obtain ⟨l, hl⟩ : ∃ l, C[k]? = some l := ⟨_, List.getElem?_eq_getElem (by rw [HN.out]; exact hlt)⟩;have hll := HFW3.out l (List.mem_of_getElem? hl);have hP1 : P ≤ 1000000 := by rw [hP.out]; exact cntM_le _
    have HST := Hd (cntM_take hl);rw [← hP.out] at HST;have hrw := HV.out.same hO.out;obtain ⟨b, off, Ak, ck, rfl, hb, hc, -⟩ := hrw.cell (n := n) hl;generalize l.length = m at *;obtain ⟨Q, hQ⟩ : ∃ Q, P * m = Q := ⟨_, rfl⟩;rw [hQ] at HST;have hQ1 : Q ≤ 1000000000 := by
     rw [← hQ];have := Nat.mul_le_mul hP1 hll;omega
    have hmul : IntKind.i64.wrap ((P : Int) * (m : Int)) = (Q : Int) := by
     rw [← hQ, ← Int.natCast_mul];refine IntWalk.i64_in _ ?_;rw [hQ];omega
    obtain ⟨T, hT⟩ : ∃ T, min Q 1000000 = T := ⟨_, rfl⟩;rw [hT] at HST;have hmin : min (Q : Int) 1000000 = (T : Int) := by omega
    have h01 : (k : Int) < (n : Int) := by omega
    have hk0 : (0 : Int) ≤ (k : Int) := Int.natCast_nonneg _;have hwk : IntKind.i64.wrap ((k : Int) + 1) = (k : Int) + 1 := IntWalk.i64_in _ (by omega);clear hrw hl hQ hT hll hQ1;go_wp2
    go_roundw
    case rel => exact ⟨k + 1, T, by go_num, rfl, by omega, Hd HST.out.symm, hO⟩
    case measure => simp [intOf]; omega
   ·obtain rfl : k = n := by omega
    have HE : Hid (R = P) := Hd (by rw [HDR.out, hP.out, List.take_of_length_le (by rw [HN.out]; exact Nat.le_refl _)]);have HO9 := Hd (HO3.out.trans hO.out);go_wp2
    go_ret
    exact ⟨by rw [HE.out]; rfl, HO9.out⟩
end
theorem wfq_any (A : Option Addr) (m c : Nat) (w : World) : Calls Tryz.prog 36 #[.slice A m c] w fun e w' => e = .returned (.bool (decide (m = 0))) ∧ w = w' := by
 obtain ⟨d, hd⟩ : ∃ d, decide (m = 0) = d := ⟨_, rfl⟩;have hd2 : ((m : Int) == 0) = d := by rw [← hd]; by_cases h : m = 0 <;> simp [h]
 rw [hd];clear hd;go_enter Tryz.func36, Tryz.ntmps36;go_wp2
 go_ret
 exact ⟨rfl, rfl⟩
theorem anyE_take {C : List (List Int)} {k : Nat} {x : List Int} (h : C[k]? = some x) : (C.take (k + 1)).any emptyB = ((C.take k).any emptyB || emptyB x) := by
 rw [List.take_add_one, h, List.any_append];simp
theorem emptyindex_any {w : World} {base : Nat} {A : Option Addr} {cp : Nat} {xs : List SlI} {C : List (List Int)} (hr : Rows2 w base (.slice A C.length cp) xs C) :
  Calls Tryz.prog 55 #[.slice A C.length cp, .func (.func 36) #[] #[]] w fun e w' => ∃ r : Int, (e = .returned (.int .i64 r) ∧ decide (0 ≤ r) = C.any emptyB) ∧ w = w' := by
 have HV := Hd hr;have hnx := hr.max;obtain ⟨n, hn⟩ : ∃ n, C.length = n := ⟨_, rfl⟩;have HN := Hd hn;have HY := Hd (fun A m c w' => wfq_any A m c w');rw [hn] at HV hnx ⊢;unfold maxLen at hnx;clear hr hn;go_enter Tryz.func55, Tryz.ntmps55;go_wp2_with fail
 go_loopw [8] (fun iv wr => ∃ k : Nat, iv = .int .i64 (k : Int) ∧ k ≤ n ∧ Hid ((C.take k).any emptyB = false) ∧ Hid (w = wr)) (fun iv _ => n - (intOf iv).toNat)
 case atStart => exact ⟨0, rfl, by omega, Hd rfl, Hd rfl⟩
 case round =>
  obtain ⟨k, rfl, hk, hne, hO⟩ := hrel
  by_cases hlt : k < n
  ·obtain ⟨l, hl⟩ : ∃ l, C[k]? = some l := ⟨_, List.getElem?_eq_getElem (by rw [HN.out]; exact hlt)⟩;have hrw : Rows2 wr base (.slice A n cp) xs C := hO.out ▸ HV.out;obtain ⟨b, off, Ak, ck, rfl, hb, hc, -⟩ := hrw.cell (n := n) hl;have h01 : (k : Int) < (n : Int) := by omega
   have hk0 : (0 : Int) ≤ (k : Int) := Int.natCast_nonneg _;have hwk : IntKind.i64.wrap ((k : Int) + 1) = (k : Int) + 1 := IntWalk.i64_in _ (by omega);have HTK := Hd (anyE_take hl);have HTM := Hd (List.mem_of_getElem? hl);have HYU := Hd (HY.out Ak l.length ck wr);obtain ⟨d, hd⟩ : ∃ d, emptyB l = d := ⟨_, rfl⟩;have hd1 : decide (l.length = 0) = d := hd;rw [hd] at HTK;rw [hd1] at HYU;have HD := Hd hd;generalize l.length = m at *;clear hd hd1 hl hrw;go_wp2_with fail
   refine (HYU.out).mono ?_;rintro e w2 ⟨rfl, rfl⟩
   cases d with
   | true =>
    have HT : Hid (C.any emptyB = true) := Hd (List.any_eq_true.2 ⟨l, HTM.out, HD.out⟩);go_wp2
    go_ret
    exact ⟨(k : Int), ⟨rfl, by rw [HT.out]; simp⟩, hO.out⟩
   | false =>
    have HN2 : Hid ((C.take (k + 1)).any emptyB = false) := Hd (by rw [HTK.out, hne.out]; rfl);go_wp2
    go_roundw
    case rel => exact ⟨k + 1, by go_num, by omega, HN2, hO⟩
    case measure => simp [intOf]; omega
  ·obtain rfl : k = n := by omega
   have hd : decide ((k : Int) < (k : Int)) = false := by simp
   have HA : Hid (C.any emptyB = false) := Hd (by have := hne.out; rwa [List.take_of_length_le (by rw [HN.out]; exact Nat.le_refl _)] at this);go_wp2
   go_ret
   exact ⟨-1, ⟨rfl, by rw [HA.out]; rfl⟩, hO.out⟩
theorem emptyhas_any {w : World} {base : Nat} {A : Option Addr} {cp : Nat} {xs : List SlI} {C : List (List Int)} (hr : Rows2 w base (.slice A C.length cp) xs C) :
  Calls Tryz.prog 35 #[.slice A C.length cp, .func (.func 36) #[] #[]] w fun e w' => e = .returned (.bool (C.any emptyB)) ∧ w = w' := by
 have HI := Hd (emptyindex_any hr);obtain ⟨b, hb⟩ : ∃ b, C.any emptyB = b := ⟨_, rfl⟩;rw [hb] at HI ⊢;clear hb hr;go_enter Tryz.func35, Tryz.ntmps35;go_wp2_with fail
 refine (HI.out).mono ?_;rintro e w2 ⟨r, ⟨rfl, hr⟩, rfl⟩;go_wp2
 go_ret
 exact ⟨by first | rfl | rw [hr], rfl⟩
theorem heads_take {C : List (List Int)} {k : Nat} {x : List Int} (h : C[k]? = some x) : headsL 0 (C.take (k + 1)) = headsL 0 (C.take k) ++ [x.headD 0] := by
 unfold headsL;rw [List.take_add_one, h, Option.toList_some, List.map_append]
 rfl
section
variable (A0 A1 A2 : Option Addr) (n0 n1 n2 c0 c1 c2 B : Nat) (h : Hst)
theorem wrFirst_any (w : World) (hg : HIn w B A0 A1 A2 n0 n1 n2 h) (hI : HInt h) :
  Calls Tryz.prog 18 #[hval A0 A1 A2 n0 n1 n2 c0 c1 c2] w fun e w' => ∃ A cp, (e = .returned (.tuple #[.slice A (firstR h).1.length cp, .int .i64 (firstR h).2]) ∧ w'.ownsRow w.heap.size 3 1 (.slice A (firstR h).1.length cp) (firstR h).1.length ((firstR h).1.map (Value.int .i64))) ∧ Only [] w w' := by
 obtain ⟨i0, hi, hz0, hz1, hz2⟩ := info_parts info_int;have HWI := Hd (fun w' (O : Only [] w w') => wis_any A0 A1 A2 n0 n1 n2 c0 c1 c2 B h w' (hg.same O));have HRD := Hd (fun (hm : wholeB h = true) w' (O : Only [] w w') => wrcho2_any A0 A1 A2 n0 n1 n2 c0 c1 c2 B h w' (hg.same O) hm hI);have hnh : h.l.length = n2 := hg.n2;have HN40 := Hd (fun (hw : wholeB h = true) => (may_ops (whole_may hw)).1);have HFW := Hd (fun c (hc : c ∈ choL h) => choL_few hc);unfold hval at *;clear hg hI;have HO1 := Hd ((Only.refl [] w).alloc (.cells #[.slice A0 n0 c0, .slice A1 n1 c1, .slice A2 n2 c2] 25));have HB1 := Hd (Blk.made w 25 #[.slice A0 n0 c0, .slice A1 n1 c1, .slice A2 n2 c2]);obtain ⟨d, hd⟩ : ∃ d, wholeB h = d := ⟨_, rfl⟩;have HCM := Hd (fun (hw : wholeB h = true) => choL_max hw);rw [hd] at HWI HRD HN40 HCM;have HDD : Hid (firstR h = if d = true then (if (choL h).any emptyB = true then ([], 3) else (headsL 0 (choL h), 0)) else ([], 4)) := Hd (by unfold firstR; rw [hd]);generalize firstR h = R at *;obtain ⟨R1, R2⟩ := R;dsimp only at *;clear hd;go_enter Tryz.func18, Tryz.ntmps18;go_upto_region 1 with (fail)
 generalize (w.alloc (.cells #[.slice A0 n0 c0, .slice A1 n1 c1, .slice A2 n2 c2] 25)) = w1 at *;have lB := HB1.out.lt;have y0 := HB1.out.at_ 0;have y1 := HB1.out.at_ 1;have y2 := HB1.out.at_ 2;simp at y0 y1 y2;go_wp2_with fail
 refine (HWI.out _ HO1.out).mono ?_;rintro e w2 ⟨rfl, O2⟩;have HO2 := Hd (HO1.out.trans O2);have HB2 := Hd (O2.blk HB1.out (by simp));clear O2 HO1 HB1 HWI lB y0 y1 y2;have lB := HB2.out.lt;have y0 := HB2.out.at_ 0;have y1 := HB2.out.at_ 1;have y2 := HB2.out.at_ 2;simp at y0 y1 y2
 cases d with
 | false =>
  have hE := HDD.out;rw [if_neg (by decide)] at hE;obtain ⟨rfl, rfl⟩ := Prod.ext_iff.1 hE;clear hE;go_wp2
  go_ret2
  exact ⟨⟨none, 0, rfl, World.ownsRow_nil _ _ _ _⟩, HO2.out⟩
 | true =>
  rw [if_pos rfl] at HDD;have hl2 := HO2.out.size;have HFW3 := Hd (fun c (hc : c ∈ choL h) => show c.length ≤ 1000 by have h1 := HFW.out c hc; have h2 := HN40.out (by first | rfl | trivial); omega);go_wp2_with fail
  refine (HRD.out trivial _ HO2.out).mono ?_;rintro e w3 ⟨A, cp, xs, ⟨rfl, hV⟩, O3⟩;have HV := Hd hV;have HO3 := Hd (HO2.out.trans O3);clear O3 hV HRD HB2 lB y0 y1 y2;obtain ⟨C, hC⟩ : ∃ C, choL h = C := ⟨_, rfl⟩;have hn8 := HCM.out (by first | rfl | trivial);rw [hC] at HV HFW3 HDD hn8 ⊢;clear hC HFW;have HEM := Hd (emptyhas_any HV.out);obtain ⟨q, hq⟩ : ∃ q, C.any emptyB = q := ⟨_, rfl⟩;have HQ := Hd hq;rw [hq] at HEM HDD;clear hq;go_wp2_with fail
  refine (HEM.out).mono ?_;rintro e w4 ⟨rfl, rfl⟩
  cases q with
  | true =>
   have hE := HDD.out;rw [if_pos rfl] at hE;obtain ⟨rfl, rfl⟩ := Prod.ext_iff.1 hE;clear hE;go_wp2
   go_ret2
   exact ⟨⟨none, 0, rfl, World.ownsRow_nil _ _ _ _⟩, HO3.out⟩
  | false =>
   have hE := HDD.out;rw [if_neg (by decide)] at hE;obtain ⟨h1, h2⟩ := Prod.ext_iff.1 hE;dsimp only at h1 h2;subst h2;have HR1 := Hd h1;have HNE := Hd (fun l (hl : l ∈ C) => List.any_eq_false.1 HQ.out l hl);have hnx := HV.out.max;obtain ⟨n, hn⟩ : ∃ n, C.length = n := ⟨_, rfl⟩;have HN := Hd hn;have HNR : Hid (R1.length = n) := Hd (by rw [h1, ← hn]; unfold headsL; rw [List.length_map]);rw [hn] at HV hnx hn8 ⊢;unfold maxLen at hnx;have hl3 : w.heap.size ≤ w3.heap.size := HO3.out.size;clear hn h1 hE HEM HDD;obtain ⟨wo, hwo⟩ : ∃ wo : World, wo = w3 := ⟨_, rfl⟩;subst hwo;go_wp2_with fail
   go_loopw [5, 17] (fun V iv wr => ∃ (k : Nat), iv = .int .i64 (k : Int) ∧ k ≤ n ∧ Hid (wr.ownsRow wo.heap.size 3 1 V k ((headsL 0 (C.take k)).map (Value.int .i64))) ∧ Hid (Only [] wo wr)) (fun _ iv _ => n - (intOf iv).toNat)
   case atStart => exact ⟨0, rfl, by omega, Hd (World.ownsRow_nil _ _ _ _), Hd (Only.refl [] wo)⟩
   case round =>
    obtain ⟨k, rfl, hk, hV, hO⟩ := hrel
    by_cases hlt : k < n
    ·obtain ⟨l, hl⟩ : ∃ l, C[k]? = some l := ⟨_, List.getElem?_eq_getElem (by rw [HN.out]; exact hlt)⟩;have hlm := List.mem_of_getElem? hl;have hll := HFW3.out l hlm;have hl0 : 0 < l.length := by
      have h1 := HNE.out l hlm;unfold emptyB at h1;have h2 : l.length ≠ 0 := by simpa using h1
      omega
     have HHT := Hd (heads_take hl);have hrw := HV.out.same hO.out;obtain ⟨b, off, Ak, ck, rfl, hb, hc, hown⟩ := hrw.cell (n := n) hl;obtain ⟨x, hx⟩ : ∃ x, l[0]? = some x := ⟨_, List.getElem?_eq_getElem hl0⟩;have hxd : l.headD 0 = x := by cases l with
      | nil => cases hl0
      | cons y r => simpa using hx
     rw [hxd] at HHT;obtain ⟨b2, o2, rfl, -, hb2, hc2⟩ := (own_row_at hown).1.open_ (k := 0) (by rw [List.length_map]; exact hl0);have e0 := hc2 0 _ (by rw [List.getElem?_map, hx]; rfl);rw [Nat.add_zero] at e0;have hm0 : (0 : Int) < (l.length : Int) := by omega
     generalize l.length = m at *;have h01 : (k : Int) < (n : Int) := by omega
     have hk0 : (0 : Int) ≤ (k : Int) := Int.natCast_nonneg _;have hwk : IntKind.i64.wrap ((k : Int) + 1) = (k : Int) + 1 := IntWalk.i64_in _ (by omega);have hszo := hO.out.size;clear hrw hl hlm hown hc2 hx hxd;go_wp2_with (at_builtin; go_must (refine wpList_append_row _ rfl (.tmp 21) (.tmp 25) _ rfl wo.heap.size 3 i0 _ 1 8 Tryz.underlying26 hi hz0 hz1 hz2 rfl (by omega) u5 _ _ rfl (own_only hV.out ((Only.refl [] _).alloc _) (by simp)) (wr.heap.size + 1) (some ⟨wr.heap.size, 0, none⟩) 1 1 [.int .i64 x] rfl rfl (row_lit wr 3 #[.int .i64 x]) (by simp [Value.oneCell']) (by unfold maxLen; omega) (by omega) (by simp; omega) ?_); intro v4 w4 hown4 hgrow hat)
     have HV4 : Hid (w4.ownsRow wo.heap.size 3 1 v4 (k + 1) ((headsL 0 (C.take (k + 1))).map (Value.int .i64))) := Hd (by rw [HHT.out, List.map_append]; exact hown4);have HO4 := Hd ((hO.out.alloc (.cells #[.int .i64 x] 3)).step (only_grown hgrow) (fun x hx hl => by have := (hV.out.lt x (by simpa using hx)).1; omega));clear hown4 hgrow hat hV hO;go_wp2
     go_roundw
     case rel => exact ⟨k + 1, by go_num, by omega, HV4, HO4⟩
     case measure => simp [intOf]; omega
    ·obtain rfl : k = n := by omega
     have HV9 : Hid (wr.ownsRow wo.heap.size 3 1 u5 k (R1.map (Value.int .i64))) := Hd (by
      have := hV.out;rw [List.take_of_length_le (by rw [HN.out]; exact Nat.le_refl _), ← HR1.out] at this;exact this)
     have HO9 := Hd (HO3.out.trans hO.out);obtain ⟨A5, c5, rfl, -, -, -, -⟩ := own_row HV9.out;clear hV hO;go_wp2
     go_ret2
     exact ⟨A5, c5, ⟨by rw [HNR.out]; rfl, by rw [HNR.out]; exact own_from HV9.out hl3⟩, HO9.out⟩
theorem wrNext_any (Am : Option Addr) (m c Bl : Nat) (l : List Int) (w : World) (hg : HIn w B A0 A1 A2 n0 n1 n2 h) (hI : HInt h) (hl : Row w Bl Am (l.map (Value.int .i64))) (hm : l.length = m) (hM : m ≤ 100000) (hA : Am = none → m = 0 ∧ c = 0) :
  Calls Tryz.prog 19 #[hval A0 A1 A2 n0 n1 n2 c0 c1 c2, .slice Am m c] w fun e w' => ∃ V, (e = .returned (.tuple #[V, .bool (nextR h l).isSome]) ∧ (∀ ys, nextR h l = some ys → w'.ownsRow w.heap.size 3 1 V m (ys.map (Value.int .i64))) ∧ (nextR h l = none → V = .slice none 0 0)) ∧ Only [] w w' := by
 have HWI := Hd (fun w' (O : Only [] w w') => wis_any A0 A1 A2 n0 n1 n2 c0 c1 c2 B h w' (hg.same O));have HRD := Hd (fun (hm : wholeB h = true) w' (O : Only [] w w') => wrcho2_any A0 A1 A2 n0 n1 n2 c0 c1 c2 B h w' (hg.same O) hm hI);have hnh : h.l.length = n2 := hg.n2;have HN40 := Hd (fun (hw : wholeB h = true) => (may_ops (whole_may hw)).1);have HFW := Hd (fun c (hc : c ∈ choL h) => choL_few hc);unfold hval at *;clear hg hI;have HO1 := Hd ((Only.refl [] w).alloc (.cells #[.slice A0 n0 c0, .slice A1 n1 c1, .slice A2 n2 c2] 25));have HB1 := Hd (Blk.made w 25 #[.slice A0 n0 c0, .slice A1 n1 c1, .slice A2 n2 c2]);obtain ⟨d, hd⟩ : ∃ d, wholeB h = d := ⟨_, rfl⟩;rw [hd] at HWI HRD HN40;have HDD : Hid (isMap h l = (d && (decide (m = (choL h).length) && isI (choL h) l))) := Hd (by unfold isMap; rw [hd, hm]);have HNR : Hid (nextR h l = if isMap h l = true then upL 0 (choL h) l else none) := Hd rfl;have HL := Hd (fun w' (O : Only [] w w') => hl.only O (by simp));have HM := Hd hm;generalize isMap h l = R at *;generalize nextR h l = T at *;clear hl hm;clear hd;go_enter Tryz.func19, Tryz.ntmps19;go_upto_region 1 with (fail)
 generalize (w.alloc (.cells #[.slice A0 n0 c0, .slice A1 n1 c1, .slice A2 n2 c2] 25)) = w1 at *;have lB := HB1.out.lt;have y0 := HB1.out.at_ 0;have y1 := HB1.out.at_ 1;have y2 := HB1.out.at_ 2;simp at y0 y1 y2;go_wp2_with fail
 refine (HWI.out _ HO1.out).mono ?_;rintro e w2 ⟨rfl, O2⟩;have HO2 := Hd (HO1.out.trans O2);have HB2 := Hd (O2.blk HB1.out (by simp));clear O2 HO1 HB1 HWI lB y0 y1 y2;have lB := HB2.out.lt;have y0 := HB2.out.at_ 0;have y1 := HB2.out.at_ 1;have y2 := HB2.out.at_ 2;simp at y0 y1 y2
 cases d with
 | false =>
  obtain rfl : R = false := by rw [HDD.out]; rfl
  obtain rfl : T = none := by rw [HNR.out, if_neg (by decide)]
  go_wp2
  go_ret2
  first | exact ⟨rfl, HO2.out⟩ | exact ⟨_, ⟨rfl, fun ys h => by cases h, fun _ => rfl⟩, HO2.out⟩ | exact ⟨⟨_, rfl, fun ys h => by cases h, fun _ => rfl⟩, HO2.out⟩
 | true =>
  have hl2 := HO2.out.size;have HFW3 := Hd (fun c (hc : c ∈ choL h) => show c.length ≤ 1000 by have h1 := HFW.out c hc; have h2 := HN40.out (by first | rfl | trivial); omega);go_wp2_with fail
  refine (HRD.out trivial _ HO2.out).mono ?_;rintro e w3 ⟨A, cp, xs, ⟨rfl, hV⟩, O3⟩;have HV := Hd hV;have HO3 := Hd (HO2.out.trans O3);clear O3 hV HRD HB2 lB y0 y1 y2;rw [Bool.true_and] at HDD;go_upto_region 4 with (fail)
  have OB : Only [] w3 (w3.alloc (.cells #[.slice A (choL h).length cp] 31)) := (Only.refl [] w3).alloc _;have HG4 := Hd (Blk.made w3 31 #[.slice A (choL h).length cp]);have HV4 := Hd (HV.out.same OB);have HO4 := Hd (HO3.out.trans OB);have HVL := Hd HV.out.len;clear HV HO3 OB;generalize (w3.alloc (.cells #[.slice A (choL h).length cp] 31)) = w4 at *;generalize w3.heap.size = gb at *;have lG := HG4.out.lt;have g0 := HG4.out.at_ 0;simp at g0;have HIS := Hd (wris2_any HV4.out HFW3.out Am m c Bl l (HL.out _ HO4.out) HM.out hM);rw [← HDD.out] at HIS;go_wp2_with fail
  refine (HIS.out).mono ?_;rintro e w5 ⟨rfl, O5⟩;have HO5 := Hd (HO4.out.trans O5);have HV5 := Hd (HV4.out.same O5);have HG5 := Hd (O5.blk HG4.out (by simp));clear O5 HO4 HV4 HG4 HIS lG g0
  cases R with
  | false =>
   obtain rfl : T = none := by rw [HNR.out, if_neg (by decide)]
   go_wp2
   go_ret2
   first | exact ⟨rfl, HO5.out⟩ | exact ⟨_, ⟨rfl, fun ys h => by cases h, fun _ => rfl⟩, HO5.out⟩ | exact ⟨⟨_, rfl, fun ys h => by cases h, fun _ => rfl⟩, HO5.out⟩
  | true =>
   rw [if_pos rfl] at HNR;have hD := HDD.out;rw [eq_comm, Bool.and_eq_true] at hD;have hmn : m = (choL h).length := of_decide_eq_true hD.1;have HT5 : Hid (ChAt w5 gb w5.heap.size m xs) := Hd ⟨⟨A, cp, by rw [hmn]; exact HG5.out, by have h1 := HV5.out.row; rw [HVL.out] at h1; exact (own_row_at h1).1⟩, by rw [hmn]; exact HVL.out, fun x hx => (own_row_at (HV5.out.own x hx)).1, HG5.out.lt, fun x hx => HFW3.out x.l (by rw [← HV5.out.ls]; exact List.mem_map_of_mem hx)⟩;have HUP := Hd (iup_any Am m c Bl gb w5.heap.size l xs w5 (HL.out _ HO5.out) HM.out hM hA HT5.out (Nat.le_refl _) (by rw [HV5.out.ls]; exact hD.2));rw [HV5.out.ls, ← HNR.out] at HUP;have hl5 := HO5.out.size;clear hD hmn HT5 HV5 HG5;go_wp2_with fail
   refine (HUP.out).mono ?_;rintro e w6 ⟨V, ⟨rfl, hy, hn⟩, O6⟩;have HY := Hd (fun ys (e : T = some ys) => own_from (hy ys e) hl5);have HN := Hd hn;have HO6 := Hd (HO5.out.trans O6);clear hy hn O6;go_wp2
   go_ret2
   first | exact ⟨_, ⟨rfl, HY.out, HN.out⟩, HO6.out⟩ | exact ⟨⟨_, rfl, HY.out, HN.out⟩, HO6.out⟩
end
end Go.Proofs.YthdofaoamljkfaaGreatDoor
