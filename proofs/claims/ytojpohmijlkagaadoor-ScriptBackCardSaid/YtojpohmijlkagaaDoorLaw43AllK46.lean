/- Parts. -/
import Derived.Test.YtojpohmijlkagaaDoorLaw43AllK33
import Derived.Test.YtojpohmijlkagaaDoorLaw43AllK45
set_option maxRecDepth 10000
set_option maxHeartbeats 16000000
set_option linter.unusedVariables false
set_option linter.unusedSimpArgs false
namespace Go.Proofs.YtojpohmijlkagaaDoor
open Go.RowKit
open Go.Lib hiding intOf
attribute [local go_sem ↓] Go.wp_at_zero Go.wp_at_succ
theorem joinW_two (a b : ByteArray) : joinW [a, b] = by_ a ++ 32 :: by_ b := by
 show Lib.join [by_ a, by_ b] [32] = _
 rw [Lib.join_cons];simp [Lib.joinTail]
theorem joinW_one (a : ByteArray) : joinW [a] = by_ a := Lib.join_one _ _
set_option maxRecDepth 100000 in
theorem rprint43_any (A : Option Addr) (n c B : Nat) (l : List Cmd) (w : World) (hg : Row w B A (cmdC l)) (hn : l.length = n) (hM : n ≤ 1000) (hb : ∀ x ∈ l, -9223372036854775808 ≤ x.n ∧ x.n ≤ 9223372036854775807) :
  Calls Tryd.prog 14 #[.slice A n c] w fun e w' => e = .returned (.tuple #[.string (printC l).1, .int .i64 (printC l).2]) ∧ Only [] w w' := by
 have HMY := Hd (fun (r k m : Int) w' => rmay43_any r k m w');have HFI := Hd (fun (k : Nat) (x : ByteArray) w' (hx : kwL[k]? = some x) => rfirst43_any k x w' hx);have HLV := Hd (fun n w' => rlvl39_any n w');have HPO := Hd (fun n w' => rpol39_any n w');have HIT := Hd (fun n w' h1 h2 => bitoa_any n w' h1 h2);obtain ⟨r, hr⟩ : ∃ r, r = printC l := ⟨_, rfl⟩;rw [← hr];have HR := Hd hr;have HN := Hd hn;have HB := Hd hb;have HROW := Hd hg;clear hn hb hg hr
 by_cases hlong : 200 < n
 ·obtain rfl : r = (⟨#[]⟩, 7) := by rw [HR.out]; unfold printC; rw [if_pos (by rw [HN.out]; exact hlong)]
  have hl1 : (200 : Int) < (n : Int) := by omega
  clear HR HMY HROW;go_enter Tryd.func14, Tryd.ntmps14;go_wp2
  go_ret2
  exact ⟨rfl, Only.refl _ _⟩
 have hl1 : decide ((200 : Int) < (n : Int)) = false := decide_eq_false (by omega);have hl2 : decide (200 < n) = false := decide_eq_false hlong;have HRR : Hid (r = if l.all mayC = true then (⟨(textC l).toArray⟩, 0) else (⟨#[]⟩, 4)) := Hd (by rw [HR.out]; unfold printC; rw [if_neg (by rw [HN.out]; exact hlong)]);clear HR;go_enter Tryd.func14, Tryd.ntmps14;go_wp2_with fail
 go_loopw [4, 5] (fun tv iv wr => ∃ (k : Nat) (acc : ByteArray), iv = .int .i64 k ∧ tv = .string acc ∧ k ≤ n ∧ Hid ((l.take k).all mayC = true) ∧ Hid (by_ acc = textC (l.take k)) ∧ Hid (Only [] w wr)) (fun _ iv _ => n - (intOf iv).toNat)
 case atStart => exact ⟨0, ⟨#[]⟩, rfl, rfl, by omega, Hd rfl, Hd rfl, Hd (Only.refl _ _)⟩
 case round =>
  obtain ⟨k, acc, rfl, rfl, hk, hall, hT, hO⟩ := hrel;have hsz := hO.out.size
  by_cases hlt : k < n
  ·have h01 : (k : Int) < (n : Int) := by omega
   have hk0 : (0 : Int) ≤ (k : Int) := Int.natCast_nonneg _;have hwk : IntKind.i64.wrap ((k : Int) + 1) = (k : Int) + 1 := IntWalk.i64_in _ (by omega);obtain ⟨x, hx⟩ : ∃ x, l[k]? = some x := ⟨_, List.getElem?_eq_getElem (by rw [HN.out]; exact hlt)⟩;obtain ⟨b, off, rfl, -, hbw, a0, a1, a2⟩ := row_cmd (HROW.out.only hO.out (by simp)) hx;have HX := Hd hx;have HXB := Hd (HB.out x (List.mem_of_getElem? hx));have HTK : Hid (textC (l.take (k + 1)) = textC (l.take k) ++ (lineC x ++ [10])) := Hd (textC_take hx);have HTA : Hid ((l.take (k + 1)).all mayC = ((l.take k).all mayC && mayC x)) := Hd (by rw [List.take_add_one, hx, List.all_append]; simp);obtain ⟨ok, hok⟩ : ∃ v, v = mayC x := ⟨_, rfl⟩;have HOK := Hd hok;have htl : acc.size ≤ 8200 := by
    have h1 := text_len (l := l.take k) hall.out (fun y hy => HB.out y (List.mem_of_mem_take hy));rw [List.length_take] at h1;have h2 := by_length acc;rw [hT.out] at h2;omega
   obtain ⟨xr, xk, xn⟩ := x;dsimp only at a0 a1 a2 HXB;have hmk : mayN xk xn = ok := hok.symm;have HM1 := Hd (HMY.out xr xk xn wr);rw [hmk] at HM1;have HA1 := Hd a1;have HA2 := Hd a2;clear hx hok hmk;go_wp2_with fail
   refine (HM1.out).mono ?_;rintro e w3 ⟨rfl, O3⟩;have HO3 := Hd (hO.out.trans O3);have a13 := (O3.cell (p := ⟨b, off + k * 3 + 1, none⟩) hbw (by simp)).trans HA1.out;have HA23 := Hd ((O3.cell (p := ⟨b, off + k * 3 + 2, none⟩) hbw (by simp)).trans HA2.out);have hbw3 : b < w3.heap.size := Nat.lt_of_lt_of_le hbw O3.size;clear O3 a0 a1 a2 HM1 hO HA1 HA2 hbw
   cases ok with
   | false =>
    obtain rfl : r = (⟨#[]⟩, 4) := by
     rw [HRR.out, if_neg];intro h;have := List.all_eq_true.1 h _ (List.mem_of_getElem? HX.out);rw [← HOK.out] at this
     cases this
    go_wp2
    go_ret2
    exact ⟨rfl, HO3.out⟩
   | true =>
    have HMC := Hd HOK.out.symm;obtain ⟨kq1, kq2⟩ : 1 ≤ xk ∧ xk ≤ 10 := mayC_kind HMC.out;obtain ⟨q, rfl⟩ : ∃ q : Nat, xk = (q : Int) + 1 := ⟨(xk - 1).toNat, by omega⟩;have hq : q < 10 := by omega
    obtain ⟨kw, hkw⟩ : ∃ kw, kwL[q]? = some kw := ⟨_, List.getElem?_eq_getElem (show q < kwL.length from hq)⟩;have hks : kw.size ≤ 10 := by have := len_kw (k := q); rw [List.getD_eq_getElem?_getD, hkw] at this; exact this
    have HWL : Hid (lineC ⟨xr, (q : Int) + 1, xn⟩ = joinW (kw :: shownT ((q : Int) + 1) xn)) := Hd (by
     unfold lineC;rw [shownT_words HMC.out];dsimp only;rw [show ((q : Int) + 1 - 1).toNat = q by omega, List.getD_eq_getElem?_getD, hkw]
     rfl)
    have HF1 := Hd (HFI.out q kw w3 hkw);have HAL : Hid ((l.take (k + 1)).all mayC = true) := Hd (by rw [HTA.out, hall.out, HMC.out]; rfl);have g1 : ¬ (9223372036854775807 < acc.size + kw.size) := by omega
    have hks1 : (acc ++ kw).size ≤ 8210 := by rw [ByteArray.size_append]; omega
    have hT1 : Hid (by_ (acc ++ kw) = textC (l.take k) ++ by_ kw) := Hd (by rw [by_append, hT.out]);clear hkw HTA HOK HMC HX kq1 kq2 hall HRR hT;go_wp2_with fail
    refine (HF1.out).mono ?_;rintro e w4 ⟨rfl, O4⟩;have HO4 := Hd (HO3.out.trans O4);have a14 := (O4.cell (p := ⟨b, off + k * 3 + 1, none⟩) hbw3 (by simp)).trans a13;have a24 := (O4.cell (p := ⟨b, off + k * 3 + 2, none⟩) hbw3 (by simp)).trans HA23.out;have hbw4 : b < w4.heap.size := Nat.lt_of_lt_of_le hbw3 O4.size;clear O4 a13 HA23 hbw3 HO3 HF1
    by_cases k1 : q = 0
    ·subst k1;have HI2 := Hd (HLV.out xn w4);have hls := len_lvl xn;have HWT : Hid (textC (l.take (k + 1)) = textC (l.take k) ++ (joinW [kw, lvlT xn] ++ [10])) := Hd (by rw [HTK.out, HWL.out]; rfl);generalize lvlT xn = T at *;have g2 : ¬ (9223372036854775807 < 1 + T.size) := by omega
     have g3 : ¬ (9223372036854775807 < acc.size + kw.size + (1 + T.size)) := by omega
     have g4 : ¬ (9223372036854775807 < acc.size + kw.size + (1 + T.size) + 1) := by omega
     have HTN : Hid (by_ (((acc ++ kw) ++ ((⟨#[32]⟩ : ByteArray) ++ T)) ++ ⟨#[10]⟩) = textC (l.take (k + 1))) := Hd (by
      rw [HWT.out, joinW_two, by_append, by_append, hT1.out, by_append]
      show textC (l.take k) ++ by_ kw ++ ([32] ++ by_ T) ++ [10] = _
      simp)
     clear HWT HTK HWL hT1;go_wp2_with fail
     refine (HI2.out).mono ?_;rintro e w5 ⟨rfl, O5⟩;have HO5 := Hd (HO4.out.trans O5);clear O5 a14 a24 hbw4 HO4;go_wp2
     go_roundw
     case rel => exact ⟨k + 1, _, by go_num, rfl, by omega, HAL, HTN, HO5⟩
     case measure => simp [intOf]; omega
    by_cases k2 : q = 1
    ·subst k2;have HI2 := Hd (HPO.out xn w4);have hls := len_pol xn;have HWT : Hid (textC (l.take (k + 1)) = textC (l.take k) ++ (joinW [kw, polT xn] ++ [10])) := Hd (by rw [HTK.out, HWL.out]; rfl);generalize polT xn = T at *;have g2 : ¬ (9223372036854775807 < 1 + T.size) := by omega
     have g3 : ¬ (9223372036854775807 < acc.size + kw.size + (1 + T.size)) := by omega
     have g4 : ¬ (9223372036854775807 < acc.size + kw.size + (1 + T.size) + 1) := by omega
     have HTN : Hid (by_ (((acc ++ kw) ++ ((⟨#[32]⟩ : ByteArray) ++ T)) ++ ⟨#[10]⟩) = textC (l.take (k + 1))) := Hd (by
      rw [HWT.out, joinW_two, by_append, by_append, hT1.out, by_append]
      show textC (l.take k) ++ by_ kw ++ ([32] ++ by_ T) ++ [10] = _
      simp)
     clear HWT HTK HWL hT1;go_wp2_with fail
     refine (HI2.out).mono ?_;rintro e w5 ⟨rfl, O5⟩;have HO5 := Hd (HO4.out.trans O5);clear O5 a14 a24 hbw4 HO4;go_wp2
     go_roundw
     case rel => exact ⟨k + 1, _, by go_num, rfl, by omega, HAL, HTN, HO5⟩
     case measure => simp [intOf]; omega
    by_cases k3 : q = 2
    ·subst k3;have HI2 := Hd (HIT.out xn w4 HXB.out.1 HXB.out.2);have HIL : Hid ((⟨(Lib.itoa xn).toArray⟩ : ByteArray).size ≤ 21) := Hd (by have := Lib.itoa_length_le xn HXB.out.1 HXB.out.2; simpa [ByteArray.size] using this);have HWT : Hid (textC (l.take (k + 1)) = textC (l.take k) ++ (joinW [kw, (⟨(Lib.itoa xn).toArray⟩ : ByteArray)] ++ [10])) := Hd (by rw [HTK.out, HWL.out]; rfl);have hls := HIL.out;clear HIL;generalize (⟨(Lib.itoa xn).toArray⟩ : ByteArray) = T at *;have g2 : ¬ (9223372036854775807 < 1 + T.size) := by omega
     have g3 : ¬ (9223372036854775807 < acc.size + kw.size + (1 + T.size)) := by omega
     have g4 : ¬ (9223372036854775807 < acc.size + kw.size + (1 + T.size) + 1) := by omega
     have HTN : Hid (by_ (((acc ++ kw) ++ ((⟨#[32]⟩ : ByteArray) ++ T)) ++ ⟨#[10]⟩) = textC (l.take (k + 1))) := Hd (by
      rw [HWT.out, joinW_two, by_append, by_append, hT1.out, by_append]
      show textC (l.take k) ++ by_ kw ++ ([32] ++ by_ T) ++ [10] = _
      simp)
     clear HWT HTK HWL hT1;go_wp2_with fail
     refine (HI2.out).mono ?_;rintro e w5 ⟨rfl, O5⟩;have HO5 := Hd (HO4.out.trans O5);clear O5 a14 a24 hbw4 HO4;go_wp2
     go_roundw
     case rel => exact ⟨k + 1, _, by go_num, rfl, by omega, HAL, HTN, HO5⟩
     case measure => simp [intOf]; omega
    have HWT : Hid (textC (l.take (k + 1)) = textC (l.take k) ++ (joinW [kw] ++ [10])) := Hd (by rw [HTK.out, HWL.out]; unfold shownT; rw [if_neg (by omega), if_neg (by omega), if_neg (by omega)]);have g4 : ¬ (9223372036854775807 < acc.size + kw.size + 1) := by omega
    have HTN : Hid (by_ ((acc ++ kw) ++ ⟨#[10]⟩) = textC (l.take (k + 1))) := Hd (by
     rw [HWT.out, joinW_one, by_append, hT1.out]
     show textC (l.take k) ++ by_ kw ++ [10] = _
     simp)
    have d1 : (((q : Int) + 1) == 1) = false := by simp; omega
    have d2 : (((q : Int) + 1) == 2) = false := by simp; omega
    have d3 : (((q : Int) + 1) == 3) = false := by simp; omega
    have e1 : ((q : Int) == 0) = false := by simp; omega
    clear HWT HTK HWL hT1 k1 k2 k3;go_wp2
    go_roundw
    case rel => exact ⟨k + 1, _, by go_num, rfl, by omega, HAL, HTN, HO4⟩
    case measure => simp [intOf]; omega
  ·have hkn : k = n := by omega
   subst hkn;have hd : decide ((k : Int) < (k : Int)) = false := by simp
   have hlk : l.take k = l := List.take_of_length_le (by rw [HN.out]; exact Nat.le_refl _);rw [hlk] at hall hT;obtain rfl : r = (acc, 0) := by
    rw [HRR.out, if_pos hall.out, ← hT.out];have : (⟨(by_ acc).toArray⟩ : ByteArray) = acc := by_inj (by show (by_ acc).toArray.toList = by_ acc; simp);rw [this]
   clear hall hT hlk HRR;go_wp2
   go_ret2
   exact ⟨rfl, hO.out⟩
end Go.Proofs.YtojpohmijlkagaaDoor
