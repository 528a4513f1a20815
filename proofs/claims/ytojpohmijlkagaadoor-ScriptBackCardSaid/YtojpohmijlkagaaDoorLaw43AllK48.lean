/- Parts. -/
import Derived.Test.YtojpohmijlkagaaDoorLaw43AllK42
import Derived.Test.YtojpohmijlkagaaDoorLaw43AllK45
import Derived.Lib.MinMax
set_option maxRecDepth 10000
set_option maxHeartbeats 16000000
set_option linter.unusedVariables false
set_option linter.unusedSimpArgs false
namespace Go.Proofs.YtojpohmijlkagaaDoor
open Go.RowKit
open Go.Lib hiding intOf
attribute [local go_sem ↓] Go.wp_at_zero Go.wp_at_succ
theorem rowsC_get : ∀ {l : List Cmd} {i k : Nat} {x : Cmd}, l[k]? = some x → (rowsC l i)[k]? = some ⟨((i + k : Nat) : Int) + 1, x.kind, x.n⟩
 | [], _, _, _, h => by simp at h
 | y :: r, i, 0, x, h => by
  simp at h;subst h
  rfl
 | y :: r, i, k + 1, x, h => by
  rw [rowsC, List.getElem?_cons_succ, rowsC_get (l := r) (i := i + 1) (k := k) (by simpa using h), show i + 1 + k = i + (k + 1) by omega]
theorem scrGo_ok : ∀ (xs : List ByteArray) (i : Nat) (acc : List Cmd), (scrGo xs i acc).2.2 = 0 ∨ (scrGo xs i acc).1 = []
 | [], _, acc => .inl rfl
 | s :: r, i, acc => by
  rw [scrGo]
  cases e : textsOf s with
  | nil => exact scrGo_ok r (i + 1) acc
  | cons w t =>
   dsimp only
   split
   ·exact .inr rfl
   ·split
    ·exact .inr rfl
    ·exact scrGo_ok r (i + 1) _
theorem scrR_good (s : ByteArray) : ((scrR s).1 = [] ∨ (scrR s).2.2 = 0) ∧ (∀ x ∈ (scrR s).1, mayC x = true ∧ 1 ≤ x.row) ∧ ((scrR s).1.Pairwise fun a b => a.row < b.row) := by
 unfold scrR
 split
 ·exact ⟨.inl rfl, fun x hx => (by cases hx), List.Pairwise.nil⟩
 ·split
  ·exact ⟨.inl rfl, fun x hx => (by cases hx), List.Pairwise.nil⟩
  ·obtain ⟨h1, h2⟩ := scr_rise (linesB s) 0 [] List.Pairwise.nil (fun x hx => by cases hx);exact ⟨(scrGo_ok _ _ _).symm, fun x hx => ⟨scr_may _ _ _ (fun y hy => by cases hy) x hx, h2 x hx⟩, h1⟩
theorem back43_is {l : List Cmd} (h : (printC l).2 = 0) (hb : ∀ x ∈ l, -9223372036854775808 ≤ x.n ∧ x.n ≤ 9223372036854775807) :
  l.length ≤ 200 ∧ (printC l).1.size ≤ 8200 ∧ scrR (printC l).1 = (rowsC l 0, 0, 0) := by
 unfold printC at h ⊢
 by_cases h1 : 200 < l.length
 ·rw [if_pos h1] at h
  cases h
 rw [if_neg h1] at h ⊢
 by_cases h2 : l.all mayC = true
 ·rw [if_pos h2] at h ⊢;dsimp only;have h3 := text_len h2 hb;have h4 : (⟨(textC l).toArray⟩ : ByteArray).size ≤ 8200 := by
   show (textC l).toArray.size ≤ 8200
   simp;omega
  refine ⟨by omega, h4, ?_⟩;have e1 : by_ (⟨(textC l).toArray⟩ : ByteArray) = textC l := by show (textC l).toArray.toList = _; simp
  unfold scrR;rw [if_neg (by omega), e1, lines_text h2];have h5 : (l.map lineC).findIdx? (fun x => !validD x) = none := by
   rw [List.findIdx?_eq_none_iff];intro x hx;rw [lines_valid h2 x hx]
   rfl
  rw [h5];dsimp only;have h6 : linesB (⟨(textC l).toArray⟩ : ByteArray) = (l.map lineC).map fun a => ⟨a.toArray⟩ := by
   unfold linesB;rw [e1, lines_text h2]
  rw [h6, scr_back l _ 0 [] h2 (fun x hx => (hb x hx).2) ?_ (by simp; omega)]
  ·rfl
  ·rw [List.map_map];have : (by_ ∘ fun (a : List UInt8) => (⟨a.toArray⟩ : ByteArray)) = id := by
    funext a
    show a.toArray.toList = a
    simp
   rw [this, List.map_id]
 ·rw [if_neg h2] at h
  cases h
set_option maxRecDepth 100000 in
theorem scriptBack_walk (A : Option Addr) (n c B : Nat) (l : List Cmd) (s : ByteArray) (w : World) (hg : Row w B A (cmdC l)) (hn : l.length = n) (hN : n ≤ 9223372036854775807) (hb : ∀ x ∈ l, -9223372036854775808 ≤ x.n ∧ x.n ≤ 9223372036854775807) (hs : s.size ≤ 9223372036854775807) (hT : UTabs w) (hM : MLen w) (hS : Scrs w) :
  Calls Tryd.prog 5 #[.slice A n c, .string s] w fun e w' => e = .returned (.bool true) ∧ Only [] w w' := by
 obtain ⟨m, hm⟩ : ∃ m, m = min n 210 := ⟨_, rfl⟩;have hm2 : m ≤ 210 := by omega
 obtain ⟨L, hL⟩ : ∃ L, L = l.take 210 := ⟨_, rfl⟩;have HLL : Hid (L.length = m) := Hd (by rw [hL, List.length_take]; omega);have HLB : Hid (∀ x ∈ L, -9223372036854775808 ≤ x.n ∧ x.n ≤ 9223372036854775807) := Hd (fun x hx => hb x (by rw [hL] at hx; exact List.mem_of_mem_take hx));have HGV := Hd (fun w' (O : Only [] w w') => give43_any A n c B l w' (hg.only O (by simp)) hn hN);rw [← hL, ← hm] at HGV;have HW := Hd (works43_any w hT hM hS);have HC := Hd (fun w' => cut43_any s w' hs);have HPZ := Hd (fun w' (hO : Only [] w w') => sparse43_cut s w' (hT.only hO) (hM.only hO) (hS.only hO));have HPX := Hd (fun (x : ByteArray) w' (hO : Only [] w w') (h : x.size ≤ 8200) => sparse43_any x w' (by omega) (small_rows (by omega)) (hT.only hO) (hM.only hO) (hS.only hO));have HSC := Hd hS;have HGD := Hd (scrR_good (cut43 s));have hzl := scrR_len (cut43 s);generalize cut43 s = xs at *;generalize hzz : scrR xs = z at *;obtain ⟨lz, nz, fz⟩ := z;dsimp only at HPZ HGD hzl;clear hT hM hS hb hn hg hL hm hs hzz;go_enter Tryd.func5, Tryd.ntmps5;go_wp2_with fail
 refine (HW.out).mono ?_;rintro e w0 ⟨rfl, O0⟩;have HO0 := Hd O0;clear O0 HW;go_wp2_with fail
 refine (HGV.out _ HO0.out).mono ?_;rintro e w1 ⟨V1, ⟨rfl, hown⟩, O1⟩;obtain ⟨A1, c1, rfl, hc1, -, -, hrw⟩ := own_row hown;have HO1 := Hd (HO0.out.trans O1);have HR1 := Hd hrw;have HP := Hd (sprint43_any A1 m c1 _ L w1 (HSC.out.only HO1.out) hrw HLL.out (by omega) HLB.out);have HBI := Hd (fun h => back43_is (l := L) h HLB.out);clear O1 hown hrw HO0 HGV;obtain ⟨⟨tx, te⟩, hpr⟩ : ∃ r, printC L = r := ⟨_, rfl⟩;rw [hpr] at HP HBI;dsimp only at HP HBI;clear hpr;go_wp2_with fail
 refine (HP.out).mono ?_;rintro e w2 ⟨rfl, O2⟩;have HO2 := Hd (HO1.out.trans O2);have HR2 := Hd (HR1.out.only O2 (by simp));clear O2 HO1 HP HR1;go_upto_if 26 with (fail)
 go_cut [4] (fun v wx => Hid (Only [] w wx))
 case first =>
  by_cases hte : te = 0
  ·subst hte;obtain ⟨hl200, htx, hsr⟩ := HBI.out rfl;have HY := Hd (HPX.out tx w2 HO2.out htx);rw [hsr] at HY;have HYL : Hid ((rowsC L 0).length = m) := Hd (by rw [rowsC_len, HLL.out]);rw [HYL.out] at HY;dsimp only at HY;clear hsr HBI;go_wp2_with fail
   refine (HY.out).mono ?_;rintro e w3 ⟨A3, c3, ⟨rfl, hown⟩, O3⟩;obtain ⟨A3', c3', e1, -, -, -, hrw⟩ := own_row hown;injection e1 with e1 e2 e3;subst e1 e3;have HO3 := Hd (HO2.out.trans O3);have HR3 := Hd (HR2.out.only O3 (by simp));have HY3 := Hd hrw;have hmm : ((m : Int) != (m : Int)) = false := by simp
   clear O3 hown hrw e2 HO2 HR2 HY;go_wp2_with fail
   go_loopw [11] (fun iv wr => ∃ k q : Nat, iv = .int .i64 k ∧ k ≤ m ∧ Hid (wr = w3.drewN q)) (fun iv _ => m - (intOf iv).toNat)
   case atStart => exact ⟨0, 0, rfl, by omega, Hd rfl⟩
   case round =>
    obtain ⟨k, q, rfl, hk, hw⟩ := hrel;have hk0 : (0 : Int) ≤ (k : Int) := Int.natCast_nonneg _
    by_cases hlt : k < m
    ·have h01 : (k : Int) < (m : Int) := by omega
     have hwk : IntKind.i64.wrap ((k : Int) + 1) = (k : Int) + 1 := IntWalk.i64_in _ (by omega);obtain ⟨⟨xr, xk, xn⟩, hx⟩ : ∃ x, L[k]? = some x := ⟨_, List.getElem?_eq_getElem (by rw [HLL.out]; exact hlt)⟩;have hy := rowsC_get (i := 0) hx;rw [Nat.zero_add] at hy;obtain ⟨b, off, rfl, -, hbw, a0, a1, a2⟩ := row_cmd (show Row wr _ A1 (cmdC L) by rw [hw.out]; exact HR3.out.only ((Only.refl [] w3).drewN q) (by simp)) hx;obtain ⟨b', off', rfl, -, hbw', d0, d1, d2⟩ := row_cmd (show Row wr _ A3 (cmdC (rowsC L 0)) by rw [hw.out]; exact HY3.out.only ((Only.refl [] w3).drewN q) (by simp)) hy;dsimp only at a0 a1 a2 d0 d1 d2;clear hx hy;go_wp2_with fail
     go_quiet (fail)
     go_wp2
     go_roundw
     case rel =>
      refine ⟨k + 1, q + nq, by go_num, by omega, ?_⟩;refine Hd ?_;rw [hw.out, World.drewN_drewN]
     case measure => simp [intOf]; omega
    ·obtain rfl : k = m := by omega
     have hd : decide ((k : Int) < (k : Int)) = false := by simp
     have HOE : Hid (Only [] w wr) := Hd (by rw [hw.out]; exact HO3.out.drewN q);go_wp2
     go_meet
     exact HOE
  ·have hte2 : (te == 0) = false := by simpa using hte
   go_wp2
   go_meet
   exact HO2
 case rest =>
  have HO3 := hcut;clear hcut HO2 HR2 HBI;go_wp2_with fail
  refine (HC.out _).mono ?_;rintro e w4 ⟨rfl, rfl⟩;go_wp2_with fail
  refine (HPZ.out _ HO3.out).mono ?_;rintro e w5 ⟨A5, c5, ⟨rfl, hown⟩, O5⟩;obtain ⟨A5', c5', e1, -, -, -, hrw⟩ := own_row hown;injection e1 with e1 e2 e3;subst e1 e3;have HO5 := Hd (HO3.out.trans O5);have HR5 := Hd hrw;clear O5 hown hrw e2 HO3 HPZ HC;generalize hlz : lz.length = p at *;have HZL := Hd hlz;clear hlz;go_wp2_with fail
  go_loopw [15] (fun iv wr => ∃ k : Nat, iv = .int .i64 k ∧ k ≤ p ∧ Hid (Only [] w5 wr)) (fun iv _ => p - (intOf iv).toNat)
  case atStart => exact ⟨0, rfl, by omega, Hd (Only.refl _ _)⟩
  case round =>
   obtain ⟨k, rfl, hk, hO⟩ := hrel;have hk0 : (0 : Int) ≤ (k : Int) := Int.natCast_nonneg _
   by_cases hlt : k < p
   ·have h01 : (k : Int) < (p : Int) := by omega
    have hwk : IntKind.i64.wrap ((k : Int) + 1) = (k : Int) + 1 := IntWalk.i64_in _ (by omega);obtain ⟨⟨xr, xk, xn⟩, hx⟩ : ∃ x, lz[k]? = some x := ⟨_, List.getElem?_eq_getElem (by rw [HZL.out]; exact hlt)⟩;obtain ⟨hg1, hg2, hg3⟩ := HGD.out;obtain rfl : fz = 0 := by
     rcases hg1 with h | h
     ·rw [h] at hx;simp at hx
     ·exact h
    obtain ⟨hmy, hr1⟩ := hg2 _ (List.mem_of_getElem? hx);have hmy2 : mayN xk xn = true := hmy;have hr2 : decide (xr < 1) = false := decide_eq_false (by dsimp only at hr1; omega);have HSM := Hd (fun w' (O : Only [] w5 w') => smay_any xr xk xn w' (HSC.out.only (HO5.out.trans O)));rw [hmy2] at HSM;obtain ⟨b, off, rfl, -, hbw, a0, a1, a2⟩ := row_cmd (HR5.out.only hO.out (by simp)) hx;dsimp only at a0 a1 a2;have HA0 := Hd a0;have HA1 := Hd a1;have HA2 := Hd a2
    by_cases hk00 : k = 0
    ·subst hk00;clear hx hmy hr1 hmy2 hg1 hg2 hg3 a0 a1 a2;go_wp2_with fail
     have RD0 := Hd fun wq (hSw : Only [] wr wq) => aI ((hSw.cell (p := ⟨b, off + 0 * 3, none⟩) hbw (by simp)).trans HA0.out) (aI ((hSw.cell (p := ⟨b, off + 0 * 3 + 1, none⟩) hbw (by simp)).trans HA1.out) ((hSw.cell (p := ⟨b, off + 0 * 3 + 2, none⟩) hbw (by simp)).trans HA2.out));refine rg1 [] [] wr ?_;have OW : Only [] wr wr.drew := (Only.refl [] wr).drew;generalize wr.drew = wz at *;refine tQ 0 (h := tQ 1 (h := tQ 2 (h := tQ 3 (h := tQ 4 (h := tQ 5 (h := ?_))))));refine trd (i := 6) (v := ?_) 0 ?_ ?_;rotate_left
     ·(intro wq q; obtain ⟨y0, y1, y2⟩ := RD0.out wq q; simp only [Nat.zero_mul, Nat.add_zero] at y0 y1 y2; clear q; go_simp; try with_reducible rfl)
     (try simp only [tdz]);refine tst (i := 7) fun K hK => ?_;go_simp;refine (HSM.out wz (hO.out.trans OW)).mono ?_;rintro e wa ⟨rfl, Oa⟩;have OWa := OW.trans Oa;refine kOut hK (OWa) (h := ?_);clear hK K;refine tQ 8 (h := tQ 9 (h := tQ 10 (h := tQ 11 (h := tQ 12 (h := tQ 13 (h := tQ 14 (h := ?_)))))));refine trd (i := 15) (v := ?_) 0 ?_ ?_;rotate_left
     ·(intro wq q; obtain ⟨y0, y1, y2⟩ := RD0.out wq q; simp only [Nat.zero_mul, Nat.add_zero] at y0 y1 y2; clear q; go_simp; try with_reducible rfl)
     (try simp only [tdz]);refine tQ 16 (h := tQ 17 (h := tQ 18 (h := tQ 19 (h := tQ 20 (h := tQ 21 (h := tiq 22 (h := tiq 23 (h := tiq 24 (h := tiq 25 (h := tiq 26 (h := tiq 27 (h := tiq 28 (h := tiq 29 (h := tiq 30 (h := tiq 31 (h := tiq 32 (h := tiq 33 (h := tQ 34 (h := tQ 35 (h := ?_))))))))))))))))))));refine tdn ?_;have HO6 := Hd (hO.out.trans OWa);clear OW OWa Oa hO HA0 HA1 HA2;go_wp2
     go_roundw
     case rel => exact ⟨1, by go_num, by omega, HO6⟩
     case measure => simp [intOf]; omega
    ·obtain ⟨k', hkk⟩ : ∃ k', k = k' + 1 := ⟨k - 1, by omega⟩;obtain ⟨⟨zr, zk, zn⟩, hz⟩ : ∃ x, lz[k']? = some x := ⟨_, List.getElem?_eq_getElem (by rw [HZL.out]; omega)⟩;obtain ⟨b2, off2, e1, -, -, d0, -, -⟩ := row_cmd (HR5.out.only hO.out (by simp)) hz;injection e1 with e1;injection e1 with e1 e2;subst e1 e2;dsimp only at d0;have HD0 := Hd d0;have hrs : zr < xr := by
      have h1 := List.pairwise_iff_getElem.1 hg3 k' k (by rw [HZL.out]; omega) (by rw [HZL.out]; omega) (by omega);have h2 := (List.getElem?_eq_some_iff.1 hz).2;have h3 := (List.getElem?_eq_some_iff.1 hx).2;rw [h2, h3] at h1;exact h1
     have hrd : decide (xr ≤ zr) = false := decide_eq_false (by omega);have hkp : (0 : Int) < (k : Int) := by omega
     have hkp2 : 0 < k := by omega
     have hwp : IntKind.i64.wrap ((k : Int) - 1) = (k' : Int) := by rw [IntWalk.i64_in _ (by omega)]; omega
     have hkq : (k' : Int) < (p : Int) := by omega
     have hkq0 : (0 : Int) ≤ (k' : Int) := Int.natCast_nonneg _;clear hx hz hmy hr1 hmy2 hg1 hg2 hg3 a0 a1 a2 d0 hk00 hkk;go_wp2_with fail
     have RD0 := Hd fun wq (hSw : Only [] wr wq) => aI ((hSw.cell (p := ⟨b, off + k * 3, none⟩) hbw (by simp)).trans HA0.out) (aI ((hSw.cell (p := ⟨b, off + k * 3 + 1, none⟩) hbw (by simp)).trans HA1.out) (aI ((hSw.cell (p := ⟨b, off + k * 3 + 2, none⟩) hbw (by simp)).trans HA2.out) ((hSw.cell (p := ⟨b, off + k' * 3, none⟩) hbw (by simp)).trans HD0.out)));refine rg1 [] [] wr ?_;have OW : Only [] wr wr.drew := (Only.refl [] wr).drew;generalize wr.drew = wz at *;refine tQ 0 (h := tQ 1 (h := tQ 2 (h := tQ 3 (h := tQ 4 (h := tQ 5 (h := trq 6 0 RD0 (h := ?_)))))));refine tst (i := 7) fun K hK => ?_;go_simp;refine (HSM.out wz (hO.out.trans OW)).mono ?_;rintro e wa ⟨rfl, Oa⟩;have OWa := OW.trans Oa;refine kOut hK (OWa) (h := ?_);clear hK K;refine tQ 8 (h := tQ 9 (h := tQ 10 (h := tQ 11 (h := tQ 12 (h := tQ 13 (h := tQ 14 (h := trq 15 0 RD0 (h := tQ 16 (h := tQ 17 (h := tQ 18 (h := tQ 19 (h := tQ 20 (h := tQ 21 (h := tQ 22 (h := tQ 23 (h := tQ 24 (h := tQ 25 (h := tQ 26 (h := trq 27 0 RD0 (h := tQ 28 (h := tQ 29 (h := tQ 30 (h := tQ 31 (h := trq 32 0 RD0 (h := tQ 33 (h := tQ 34 (h := tQ 35 (h := ?_))))))))))))))))))))))))))));refine tdn ?_;have HO6 := Hd (hO.out.trans OWa);clear OW OWa Oa hO HA0 HA1 HA2 HD0;go_wp2
     go_roundw
     case rel => exact ⟨k + 1, by go_num, by omega, HO6⟩
     case measure => simp [intOf]; omega
   ·obtain rfl : k = p := by omega
    have hd : decide ((k : Int) < (k : Int)) = false := by simp
    have HOE := Hd (HO5.out.trans hO.out);go_wp2
    go_ret
    exact ⟨rfl, HOE.out⟩
end Go.Proofs.YtojpohmijlkagaaDoor
