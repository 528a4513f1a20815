/- Parts. -/
import Derived.Test.YtoojabllolnhnaaDoorLaw22AllK32
set_option maxRecDepth 10000
set_option maxHeartbeats 16000000
set_option linter.unusedVariables false
set_option linter.unusedSimpArgs false
namespace Go.Proofs.YtoojabllolnhnaaDoor
open Go.RowKit
attribute [local go_sem ↓] Go.wp_at_zero Go.wp_at_succ
def countR (n : Int) (l : List (Int × Int)) : Int × Int := if mayL n l = true then (if 12 < n then (0, 3) else (((capT (extT n.toNat l n.toNat []) : Nat) : Int), 0)) else (0, 2)
theorem backL_mem {n : Nat} {h l : List (Int × Int)} (hs : ∀ e, e ∈ h ↔ e ∈ l) (v : Int) : backL n h v = backL n l v := by
 unfold backL
 congr 1
 refine List.filter_congr fun a _ => ?_;rw [decide_eq_decide];exact hs _
def needF (n : Nat) (l : List (Int × Int)) (k : Nat) (J : List Int) (u : Nat) : Int := if u < k then (needT n l u : Int) else if u = k then (maskT J : Int) else 0
theorem needF_nil (n : Nat) (l : List (Int × Int)) (k u : Nat) : (if u < k then (needT n l u : Int) else 0) = needF n l k [] u := by
 unfold needF
 by_cases h : u < k
 ·rw [if_pos h, if_pos h]
 ·rw [if_neg h, if_neg h]
  split <;> rfl
theorem needF_snoc (n : Nat) (l : List (Int × Int)) (k : Nat) (J : List Int) (a u : Nat) : (if u = k then ((orN (maskT J) (powN a) : Nat) : Int) else needF n l k J u) = needF n l k (J ++ [(a : Int)]) u := by
 unfold needF
 by_cases h : u = k
 ·subst h;rw [if_pos rfl, if_neg (by omega), if_pos rfl, maskT_snoc]
  rfl
 ·rw [if_neg h]
  by_cases h2 : u < k
  ·rw [if_pos h2, if_pos h2]
  ·rw [if_neg h2, if_neg h2, if_neg h, if_neg h]
theorem needF_all (n : Nat) (l : List (Int × Int)) (k u : Nat) : needF n l k (backL n l (k : Int)) u = if u < k + 1 then (needT n l u : Int) else 0 := by
 unfold needF
 by_cases h : u < k
 ·rw [if_pos h, if_pos (by omega)]
 ·rw [if_neg h]
  by_cases h2 : u = k
  ·subst h2;rw [if_pos rfl, if_pos (by omega)]
   rfl
  ·rw [if_neg h2, if_neg (by omega)]
theorem cnt_start (n : Nat) (l : List (Int × Int)) : CntMap n ((DataW.map []).put (kI 0) (.lit (.int .i64 1))) (cntT n l 0) := by
 have := (CntMap.empty n).put (M0 := 0) (c := 1) (z := 1) (Nat.two_pow_pos n) rfl;refine this.congr fun M _ => ?_;rw [cnt_zero]
theorem mask_take_lt {n : Nat} {l : List (Int × Int)} {v : Int} (j : Nat) : maskT ((backL n l v).take j) < 2 ^ n := mask_lt fun a ha => backL_range a (List.mem_of_mem_take ha)
theorem tcount_any (n : Int) (A : Option Addr) (m c : Nat) (l : List (Int × Int)) (w : World) (hr : Row w w.heap.size A (edgeC l)) (hl : l.length = m) (hm : m ≤ 1000) (hT : Tab w) (h00 : 0 < w.heap.size) :
  Calls Tryd.prog 17 #[.int .i64 n, .slice A m c] w fun e w' => e = .returned (.tuple #[.int .i64 (countR n l).1, .int .i64 (countR n l).2]) ∧ Only [] w w' := by
 have bad : mayL n l = false → countR n l = (0, 2) := fun h => by unfold countR; rw [h]; rfl
 by_cases hn : n < 0 ∨ 500 < n
 ·have hb : mayL n l = false := by unfold mayL; rw [decide_eq_false (by omega)]; rfl
  rw [bad hb];have HG := Hd (gof_no n A m c w hn);clear bad hb hr hn;go_enter Tryd.func17, Tryd.ntmps17;go_wp2_with fail
  refine (HG.out).mono ?_;rintro e w1 ⟨rfl, rfl⟩;go_wp2
  exact bodyPost_ret (v := .tuple #[.int .i64 0, .int .i64 2]) (by simp [results, Tryd.results17, go_sem]) rfl ⟨rfl, Only.refl [] _⟩
 ·obtain ⟨q, rfl⟩ : ∃ q : Nat, n = q := ⟨n.toNat, by omega⟩;have hq : q ≤ 500 := by omega
  have HG := Hd (gof_any q A m c l w hq hr hl hm);have HT := Hd hT;have h00' := h00;have hmy : mayL (q : Int) l = l.all (goodE q) := by unfold mayL; rw [decide_eq_true (by omega), Bool.true_and, Int.toNat_natCast]
  clear hr hn hT hl
  cases hgd : l.all (goodE q) with
  | false =>
   rw [bad (by rw [hmy]; exact hgd)];have HGD := Hd hgd;clear hgd hmy bad;go_enter Tryd.func17, Tryd.ntmps17;go_wp2_with fail
   refine (HG.out).mono ?_;rintro e w1 ⟨O1, ⟨-, rfl⟩ | ⟨hgd, -, -⟩⟩
   ·have HO1 := Hd O1;clear HG O1;go_wp2
    exact bodyPost_ret (v := .tuple #[.int .i64 0, .int .i64 2]) (by simp [results, Tryd.results17, go_sem]) rfl ⟨rfl, HO1.out⟩
   ·rw [HGD.out] at hgd
    cases hgd
  | true =>
   have HWF := Hd (wf_good hgd);have hs : ∀ e, e ∈ (ofS q l).2.2 ↔ e ∈ l := fun e => by rw [(rel_of hq l).2]; exact mem_rof hgd e
   have hres : countR (q : Int) l = if (12 : Int) < q then (0, 3) else (((capT (extT q l q []) : Nat) : Int), 0) := by unfold countR; rw [hmy, hgd, if_pos rfl, Int.toNat_natCast]
   obtain ⟨R, hR⟩ : ∃ R, R = countR (q : Int) l := ⟨_, rfl⟩;rw [← hR];have HRS := Hd (hR.trans hres);have HBX := Hd (fun (w1 : World) (fp : List Nat) (i : Nat) (hi : i < q) (hz : w.heap.size ≤ w1.heap.size) (hTw : Tab w1) (hGr : Gr w1 w.heap.size q (ofS q l).1 (ofS q l).2.1 (ofS q l).2.2 fp) => by
    have := gback_some w.heap.size q (ofS q l).1 (ofS q l).2.1 (ofS q l).2.2 fp i w1 hGr hi hTw (Nat.lt_of_lt_of_le h00' hz);rw [rel_back (rel_of hq l).1 hq i hi, backL_mem hs] at this;exact this)
   have HGD := Hd hgd;clear hR hres hgd hmy bad hs
   by_cases h12 : 12 < q
   ·have hd : decide ((12 : Int) < (q : Int)) = true := decide_eq_true (by omega);have hd2 : decide (12 < q) = true := decide_eq_true h12;have HE : Hid (R = (0, 3)) := Hd (by rw [HRS.out, if_pos (by omega)]);clear HRS HBX h12;go_enter Tryd.func17, Tryd.ntmps17;go_wp2_with fail
    refine (HG.out).mono ?_;rintro e w1 ⟨O1, ⟨hgd, -⟩ | ⟨-, rfl, -⟩⟩
    ·rw [HGD.out] at hgd
     cases hgd
    have HO1 := Hd O1;clear HG O1 HGD;go_wp2
    exact bodyPost_ret (v := .tuple #[.int .i64 0, .int .i64 3]) (by simp [results, Tryd.results17, go_sem]) rfl (by rw [HE.out]; exact ⟨rfl, HO1.out⟩)
   ·have hd : decide ((12 : Int) < (q : Int)) = false := decide_eq_false (by omega);have hd2 : decide (12 < q) = false := decide_eq_false h12;have HE : Hid (R = (((capT (extT q l q []) : Nat) : Int), 0)) := Hd (by rw [HRS.out, if_neg (by omega)]);have hq12 : q ≤ 12 := by omega
    have hp12 := pow12 hq12;have hmk := fun W => make_ints q (by omega) W;have hmm := @run_makeMap Tryd.prog;clear HRS h12;go_enter Tryd.func17, Tryd.ntmps17;go_wp2_with fail
    refine (HG.out).mono ?_;rintro e w1 ⟨O1, ⟨hgd, -⟩ | ⟨-, rfl, fp, hGr, hfp⟩⟩
    ·rw [HGD.out] at hgd
     cases hgd
    have HO1 := Hd O1;have hs1 := O1.size;have HBX1 := Hd (fun (W : World) (O : Only [] w1 W) (i : Nat) (hi : i < q) => HBX.out W fp i hi (Nat.le_trans hs1 O.size) ((HT.out.only h00' O1 (by simp)).only (Nat.lt_of_lt_of_le h00' O1.size) O (by simp)) (hGr.only O (by simp)));clear HG hGr hfp O1 HGD HBX HT;go_upto_region 7 with (fail)
    have HB2 := Hd (Blk.made w1 3 (intsF q fun _ => 0));have HO2 := Hd ((Only.refl [] w1).alloc (.cells (intsF q fun _ => 0) 3));have hsb : w1.heap.size < (w1.alloc (.cells (intsF q fun _ => 0) 3)).heap.size := by simp
    clear hmk;generalize (w1.alloc (.cells (intsF q fun _ => 0) 3)) = w2 at *;obtain ⟨b, hb⟩ : ∃ b, b = w1.heap.size := ⟨_, rfl⟩;rw [← hb] at HB2 hsb ⊢;have HOB : Hid (∀ W, Only [b] w2 W → Only [] w1 W) := Hd (fun W O => HO2.out.step O (fun i hi hl => by simp at hi; omega));have hb1 : w.heap.size ≤ b := by omega
    clear hb;go_wp2_with fail
    go_loopw [28] (fun iv wr => ∃ k : Nat, iv = .int .i64 (k : Int) ∧ k ≤ q ∧ Hid (Blk wr b 3 (intsF q fun u => if u < k then (needT q l u : Int) else 0)) ∧ Hid (Only [b] w2 wr)) (fun iv _ => q - (intOf iv).toNat)
    case atStart => exact ⟨0, rfl, by omega, Hd (by rw [intsF_congr (g := fun _ => 0) (fun i _ => by simp)]; exact HB2.out), Hd (Only.refl _ _)⟩
    case round =>
     obtain ⟨k, rfl, hk, hB, hO⟩ := hrel;clear HB2
     by_cases hlt : k < q
     ·have HBK := Hd (HBX1.out wr (HOB.out wr hO.out) k hlt);have hbl : (backL q l (k : Int)).length ≤ q := backL_len q l (k : Int);have HNA := Hd (fun u => needF_all q l k u);have HML := Hd (fun j => mask_take_lt (n := q) (l := l) (v := (k : Int)) j);have HXR := Hd (backL_range (n := q) (h := l) (a := (k : Int)));generalize backL q l (k : Int) = X at *;obtain ⟨d, hd⟩ : ∃ d, d = X.length := ⟨_, rfl⟩;rw [← hd] at HBK hbl;have HXL := Hd hd;have h01 : (k : Int) < (q : Int) := by omega
      have hk0 : (0 : Int) ≤ (k : Int) := Int.natCast_nonneg _;have hwk : IntKind.i64.wrap ((k : Int) + 1) = (k : Int) + 1 := IntWalk.i64_in _ (by omega);clear hd;go_wp2_with fail
      refine (HBK.out).mono ?_;rintro e w4 ⟨v4, ⟨rfl, hv⟩, O4⟩;obtain ⟨A4, c4, rfl, -, -, -, -⟩ := own_row hv;have HO4 := Hd (hO.out.trans (O4.wide (fun i hi => by cases hi)));have HB4 := Hd (O4.blk hB.out (by simp));have HX4 := Hd (own_lower hv hO.out.size);clear O4 HBK hv hO hB;go_wp2_with fail
      go_loopw [35] (fun iv wr => ∃ j : Nat, iv = .int .i64 (j : Int) ∧ j ≤ d ∧ Hid (Blk wr b 3 (intsF q (needF q l k (X.take j)))) ∧ Hid (Only [b] w4 wr)) (fun iv _ => d - (intOf iv).toNat)
      case atStart => exact ⟨0, rfl, by omega, Hd (by rw [show intsF q (needF q l k (X.take 0)) = _ from intsF_congr (fun u _ => (needF_nil q l k u).symm)]; exact HB4.out), Hd (Only.refl _ _)⟩
      case round =>
       obtain ⟨j, rfl, hj, hB, hO⟩ := hrel;clear HB4
       by_cases hlt2 : j < d
       ·obtain ⟨x0, hx0⟩ : ∃ x0, X[j]? = some x0 := ⟨_, List.getElem?_eq_getElem (by rw [← HXL.out]; exact hlt2)⟩;obtain ⟨x, rfl⟩ : ∃ x : Nat, x0 = x := ⟨x0.toNat, by have := HXR.out x0 (List.mem_of_getElem? hx0); omega⟩;have hxq : x < q := by have := HXR.out _ (List.mem_of_getElem? hx0); omega
        have HX := own_only HX4.out hO.out (fun g hg hm => by simp at hm; have := (HX4.out.lt g hg).1; omega);obtain ⟨br, of_, rfl, -, hbw, hcell⟩ := (row_of_own HX).open_ (k := j) (by rw [List.length_map, ← HXL.out]; exact hlt2);have e0 := hcell j (.int .i64 (x : Int)) (by rw [List.getElem?_map, hx0]; rfl);have HST := Hd (fun u => needF_snoc q l k (X.take j) x u);rw [← take_snoc hx0] at HST;have hml := HML.out j;have h02 : (j : Int) < (d : Int) := by omega
        have hj0 : (0 : Int) ≤ (j : Int) := Int.natCast_nonneg _;have hwj : IntKind.i64.wrap ((j : Int) + 1) = (j : Int) + 1 := IntWalk.i64_in _ (by omega);have HK0 : Hid ((intsF q (needF q l k (X.take j)))[k]? = some (.int .i64 (maskT (X.take j) : Int))) := Hd (by rw [intsF_at _ hlt]; unfold needF; rw [if_neg (by omega), if_pos rfl]);generalize maskT (X.take j) = mk at *;have hpx : powN x ≤ 4096 := Nat.le_trans (Nat.pow_le_pow_right (by decide) (by omega)) (pow12 hq12);have q4 := shl_i x (by omega);have q5 := bits_or_i mk (powN x) (by omega) (by omega) w;clear hcell hx0 HX;go_upto_region 13 with (fail)
        clear e0 hbw;refine rg1 [8] [] wr ?_;have OW : Only [] wr wr.drew := (Only.refl [] wr).drew;generalize wr.drew = wz at *;have hbz := OW.blk hB.out (by simp);have lbz := hbz.lt;have kz := (hbz.at_ k).trans HK0.out;have fz := hbz.free k;refine tQ 0 (h := tQ 1 (h := tQ 2 (h := ?_)));refine trd (i := 3) (v := ?_) 0 ?_ ?_;rotate_left
        ·(intro wq hSw; have hb := hSw.blk hB.out (by simp); have lb := hb.lt; have k0 := (hb.at_ k).trans HK0.out; clear hb; clear hSw; go_simp; try with_reducible rfl)
        (try simp only [tdz]);refine tQ 4 (h := tQ 5 (h := tQ 6 (h := tQ 7 (h := ?_))));refine tst (i := 8) fun K hK => ?_;go_simp;skip;refine hK.out _ _ (timed_over (by kernel_rfl) (timed_nil)) ?_;clear hK K;(try simp only [tdz]);refine tdn ?_;have OP : Only [b] wz (wz.setCell ⟨b, k, none⟩ (.int .i64 ((orN mk (powN x) : Nat) : Int))) := (Only.refl [b] wz).put (p := ⟨b, k, none⟩) (fun _ => by simp) _;have HO9 := Hd ((hO.out.trans (OW.wide (fun i hi => by cases hi))).trans OP);have HB9 : Hid (Blk (wz.setCell ⟨b, k, none⟩ (.int .i64 ((orN mk (powN x) : Nat) : Int))) b 3 (intsF q (needF q l k (X.take (j + 1))))) := Hd (by
         have := hbz.put k (.int .i64 ((orN mk (powN x) : Nat) : Int));rw [intsF_set _ _ hlt, intsF_congr (fun y _ => HST.out y)] at this;exact this)
        clear OP OW hbz lbz kz fz hB hO HST HK0 q4 q5;go_wp2
        go_roundw
        case rel => exact ⟨j + 1, by go_num, by omega, HB9, HO9⟩
        case measure => simp [intOf]; omega
       ·have hjd : j = d := by omega
        subst hjd;have hd3 : decide ((j : Int) < (j : Int)) = false := by simp
        have HBF : Hid (Blk wr b 3 (intsF q fun u => if u < k + 1 then (needT q l u : Int) else 0)) := Hd (by
         have := hB.out;rw [List.take_of_length_le (by rw [← HXL.out]; exact Nat.le_refl _)] at this
         rwa [intsF_congr (fun y _ => HNA.out y)] at this)
        have HOF := Hd (HO4.out.trans hO.out);clear hB hO HX4 HO4;go_wp2
        go_roundw
        case rel => exact ⟨k + 1, by go_num, by omega, HBF, HOF⟩
        case measure => simp [intOf]; omega
     ·have hkq : k = q := by omega
      subst hkq;have hd3 : decide ((k : Int) < (k : Int)) = false := by simp
      have HB5 : Hid (Blk wr b 3 (intsF k fun u => (needT k l u : Int))) := Hd (by
       have := hB.out
       rwa [intsF_congr (g := fun u => (needT k l u : Int)) (fun u hu => by rw [if_pos hu])] at this)
      have HO5 := Hd (HO1.out.trans (HOB.out _ hO.out));have hbw5 : b < wr.heap.size := HB5.out.lt;clear hO hB HBX1 HOB HO1 HO2;obtain ⟨w5, hw5⟩ : ∃ w5 : World, w5 = wr := ⟨_, rfl⟩;subst hw5;have HM1 := Hd (World.ownsMap_made (H := Unit) w5 Tryd.prog 3 (plainElem Tryd.prog 3));go_upto_region 17 with (refine wpList_insert_own _ rfl _ _ _ 49 rfl 3 3 law_int Tryd.underlying49 (plainElem Tryd.prog 3) w5.heap.size 0 (.map []) rfl HM1.out (by unfold maxLen; omega) _ _ _ rfl rfl (Maps.keyOf_int_mk Tryd.underlying3 (a := 0) (by decide)) _ [] (plainElem_int Tryd.underlying3 (by decide)) ?_; intro w6 hown6 hgrow6)
      have O6 : Only [w5.heap.size] (w5.alloc (.map #[] 0)) w6 := Only.of_grown hgrow6 (fun x hx _ => by cases hx; simp);have HO6 := Hd ((HO5.out.alloc (.map #[] 0)).step O6 (fun x hx hl => by simp at hx; have := HO5.out.size; omega));have HB6 := Hd (O6.blk (HB5.out.alloc (.map #[] 0)) (by simp; omega));have HM6 := Hd hown6;have HC6 : Hid (CntMap k ((DataW.map []).put (.int .i64 0) (.lit (.int .i64 1))) (cntT k l 0)) := Hd (cnt_start k l);clear hmm HM1 O6 hown6 hgrow6 HB5 HO5;generalize ((DataW.map []).put (.int .i64 0) (.lit (.int .i64 1)) : DataW Unit) = D6 at *;generalize w5.heap.size = g5 at *;go_wp2_with fail
      go_loopw [12, 52] (fun mv iv wr => ∃ (j g nn : Nat) (D : DataW Unit), mv = .map (some g) ∧ iv = .int .i64 (j : Int) ∧ j ≤ k ∧ nn ≤ 12 ^ j ∧ Hid (wr.ownsMap Tryd.prog 3 (plainElem Tryd.prog 3) g nn D) ∧ Hid (CntMap k D (cntT k l j)) ∧ Hid (Blk wr b 3 (intsF k fun u => (needT k l u : Int))) ∧ Hid (Only [] w wr)) (fun _ iv _ => k - (intOf iv).toNat)
      case atStart => exact ⟨0, g5, 1, D6, rfl, rfl, by omega, by simp, HM6, HC6, HB6, HO6⟩
      case round =>
       obtain ⟨j, g, nn, D, rfl, rfl, hj, hnn, hM, hC, hB, hO⟩ := hrel;clear HM6 HC6 HB6 HO6
       by_cases hlt2 : j < k
       ·have h12 : 12 ^ j ≤ 12 ^ 11 := Nat.pow_le_pow_right (by decide) (by omega);have hnn2 : nn ≤ 1000000000000 := by omega
        have HL := Hd (longer_any k b g nn j l D wr hq12 HWF.out hB.out hM.out hC.out hnn2);have h02 : (j : Int) < (k : Int) := by omega
        have hj0 : (0 : Int) ≤ (j : Int) := Int.natCast_nonneg _;have hwj : IntKind.i64.wrap ((j : Int) + 1) = (j : Int) + 1 := IntWalk.i64_in _ (by omega);have hpw : nn * 12 ≤ 12 ^ (j + 1) := by rw [Nat.pow_succ]; exact Nat.mul_le_mul_right _ hnn
        clear h12 hM hC;go_wp2_with fail
        refine (HL.out).mono ?_;rintro e w7 ⟨nn', D', ⟨rfl, hn', hM', hC'⟩, O7⟩;have HB7 := Hd (O7.blk hB.out (by simp));have HO7 := Hd (hO.out.trans O7);have HM7 := Hd hM';have HC7 := Hd hC';clear O7 hB hO hM' hC' HL;go_wp2
        go_roundw
        case rel => exact ⟨j + 1, _, nn', D', by first | rfl | go_num, by go_num, by omega, by omega, HM7, HC7, HB7, HO7⟩
        case measure => simp [intOf]; omega
       ·have hjk : j = k := by omega
        subst hjk;have hd4 : decide ((j : Int) < (j : Int)) = false := by simp
        have HE2 : Hid (R = (((capT (cntT j l j (2 ^ j - 1)) : Nat) : Int), 0)) := Hd (by rw [HE.out, cnt_full]);have hp0 : 0 < 2 ^ j := Nat.two_pow_pos j;obtain ⟨fu, hfu⟩ : ∃ fu, fu = 2 ^ j - 1 := ⟨_, rfl⟩;rw [← hfu] at HE2;have q4 := shl_i j (by omega);have q6 : IntKind.i64.wrap (((powN j : Nat) : Int) - 1) = (fu : Int) := by
         rw [IntWalk.i64_in _ (by unfold powN; omega)];unfold powN;omega
        have hfl : fu < 2 ^ j := by omega
        have HOO := hO;clear hB hO HE hfu hp0;go_wp2_with (at_lookup; refine wpList_lookup_own_int _ rfl _ _ 49 rfl 3 3 .i64 law_int Tryd.underlying49 Tryd.underlying3 (by kernel_rfl) g nn D rfl hM.out _ (.int .i64 (fu : Int)) rfl (Maps.keyOf_int_mk Tryd.underlying3 (WalkArith.wf_i64 (by omega))) ?_; intro cv hat hwc)
        have hcv : cv = ((capT (cntT j l j fu) : Nat) : Int) := by
         have h1 := hat.symm.trans (hC.out.at_ fu hfl);injection h1 with h1;injection h1
        exact bodyPost_ret (v := .tuple #[.int .i64 cv, .int .i64 0]) (by simp [results, Tryd.results17, go_sem]) rfl (by rw [HE2.out, hcv]; exact ⟨rfl, HOO.out⟩)
end Go.Proofs.YtoojabllolnhnaaDoor
