/- The law CloseOf: the walk. -/
import Derived.Test.YtlipapclbemjjaaDoorCloseOfCardK43
import Derived.Test.YtlipapclbemjjaaDoorCloseOfCardK46
import Derived.Test.YtlipapclbemjjaaDoorCloseOfCardK35
import Derived.Test.YtlipapclbemjjaaDoorCloseOfCardK10
set_option linter.unusedVariables false
set_option linter.unusedSimpArgs false
namespace Go.Proofs.YtlipapclbemjjaaDoor
open Go.RowKit
attribute [local go_sem ↓] Go.wp_at_zero Go.wp_at_succ
theorem from_no {n a : Int} {l : List (Int × Int)} (h : mayL n l = false) : fromR n a l = ([], 2) := by unfold fromR; rw [h]; rfl
theorem from_yes {q s : Nat} {l : List (Int × Int)} (hq : q ≤ 500) (w : WfE q l) (h : s < q) : fromR (q : Int) (s : Int) l = (reachL q l s, 0) := by
 unfold fromR
 rw [may_good hq w, if_pos rfl, if_pos (by omega), Int.toNat_natCast, Int.toNat_natCast]
theorem from_out {q : Nat} {a : Int} {l : List (Int × Int)} (hq : q ≤ 500) (w : WfE q l) (h : ¬ (0 ≤ a ∧ a < (q : Int))) : fromR (q : Int) a l = ([], 2) := by
 unfold fromR
 rw [may_good hq w, if_pos rfl, if_neg h]
set_option maxRecDepth 10000 in
set_option maxHeartbeats 8000000 in
theorem closeOf_walk (n0 : Int) (A : Option Addr) (m c : Nat) (l : List (Int × Int)) (a : Int) (w : World)
  (hr : Row w w.heap.size A (edgeC l)) (hl : l.length = m) (hmc : m ≤ c) (hc : c ≤ maxLen) (hT : Tab w) (h00 : 0 < w.heap.size) :
  Calls Tryd.prog 3 #[.int .i64 n0, .slice A m c, .int .i64 a] w fun e w' => e = .returned (.bool true) ∧ Only [] w w' := by
 have HWO := Lib.hid (fun (W : World) (O : Only [] w W) => works21_any W (hT.only h00 O (by simp)) (Nat.lt_of_lt_of_le h00 O.size))
 have HSM := Lib.hid (small19_any n0 w)
 have HFE := Lib.hid (few19_any A m c l w hr hl hmc hc)
 have HLL : (l.take (min m 60)).length = min m 60 := by rw [List.length_take, hl]; omega
 have HT := Lib.hid (fun (W : World) (O : Only [] w W) => And.intro (hT.only h00 O (by simp)) (Nat.lt_of_lt_of_le h00 O.size))
 obtain ⟨M, hM⟩ : ∃ M, M = min m 60 := ⟨_, rfl⟩
 have hM60 : M ≤ 60 := by omega
 rw [← hM] at HLL
 simp only [← hM] at HFE
 obtain ⟨L, hL⟩ : ∃ L, L = l.take M := ⟨_, rfl⟩
 rw [← hL] at HLL
 simp only [← hL] at HFE
 have HLN := Lib.hid HLL
 obtain ⟨N, hN⟩ : ∃ N, N = smallN n0 := ⟨_, rfl⟩
 rw [← hN] at HSM
 have hm60 : min M 60 = M := by omega
 have htake : L.take M = L := List.take_of_length_le (by omega)
 have HF2 := Lib.hid (fun (w : World) (B : Option Addr) (cb : Nat) (hrow : Row w w.heap.size B (edgeC L)) (hb1 : M ≤ cb) (hb2 : cb ≤ maxLen) => by
  have := few19_any B M cb L w hrow HLL hb1 hb2
  rw [hm60, htake] at this
  exact this)
 clear hL hM HLL hr hT hN hl hmc hc hm60 htake
 go_enter Tryd.func3, Tryd.ntmps3
 go_wp2_with fail
 refine (HSM.out).mono ?_
 rintro e w1 ⟨rfl, rfl⟩
 go_wp2_with fail
 refine (HFE.out).mono ?_
 rintro e w2 ⟨v, rfl, hv, O2⟩
 obtain ⟨B, cb, rfl, hb1, hb2, -, hrow⟩ := own_row hv
 have HROW := Lib.hid hrow
 have HO2 := Lib.hid O2
 clear hv hrow O2 HFE HSM
 go_wp2_with fail
 refine (HF2.out _ B cb HROW.out hb1 hb2).mono ?_
 rintro e w3 ⟨v, rfl, hv, O3⟩
 obtain ⟨B3, c3, rfl, -, -, -, hrow3⟩ := own_row hv
 have HO3 := Lib.hid (HO2.out.trans O3)
 have HROW3 := Lib.hid (row_up (HROW.out.only O3 (by simp)))
 have HC1 := Lib.hid (cclose_any N B3 M c3 L w3 hrow3 HLN.out (by omega) (HT.out _ HO3.out).1 (HT.out _ HO3.out).2)
 clear hv hrow3 O3 HROW HO2
 cases hmy : mayL N L with
 | false =>
  rw [close_no hmy] at HC1
  dsimp only at HC1
  go_wp2_with fail
  refine (HC1.out).mono ?_
  rintro e w4 ⟨A4, c4, ⟨rfl, hv⟩, O4⟩
  have HO4 := Lib.hid (HO3.out.trans O4)
  have HROW4 := Lib.hid (row_up (HROW3.out.only O4 (by simp)))
  clear hv O4 HC1 HO3 HROW3
  go_wp2_with fail
  refine (HF2.out _ B cb HROW4.out hb1 hb2).mono ?_
  rintro e w5 ⟨v, rfl, hv, O5⟩
  obtain ⟨B5, c5, rfl, -, -, -, hrow5⟩ := own_row hv
  have HO5 := Lib.hid (HO4.out.trans O5)
  have HROW5 := Lib.hid (row_up (HROW4.out.only O5 (by simp)))
  have HFR := Lib.hid (cfrom_any N a B5 M c5 L w5 hrow5 HLN.out (by omega) (HT.out _ HO5.out).1 (HT.out _ HO5.out).2)
  rw [from_no hmy] at HFR
  dsimp only at HFR
  clear hv hrow5 O5 HROW4 HO4 HF2
  go_wp2_with fail
  refine (HFR.out).mono ?_
  rintro e w6 ⟨A6, c6, ⟨rfl, hv⟩, O6⟩
  have HO6 := Lib.hid (HO5.out.trans O6)
  have HMY := Lib.hid (rmay20_any N B M cb L w6 (row_up (HROW5.out.only O6 (by simp))) HLN.out (by omega))
  rw [hmy] at HMY
  clear hv O6 HFR hmy HO5 HROW5
  go_wp2_with fail
  refine (HMY.out).mono ?_
  rintro e w7 ⟨rfl, rfl⟩
  go_wp2_with fail
  refine (HWO.out _ HO6.out).mono ?_
  rintro e w8 ⟨rfl, O8⟩
  have HO8 := Lib.hid (HO6.out.trans O8)
  clear O8
  go_wp2
  go_ret
  exact ⟨rfl, HO8.out⟩
 | true =>
  obtain ⟨q, rfl, hq, wf, hg⟩ := may_wf hmy
  rw [close_yes hq wf] at HC1
  dsimp only at HC1
  have hcl : (closeL q L).length ≤ q * q := closeTo_len q L q
  have hqq : q * q ≤ 500 * 500 := Nat.mul_le_mul hq hq
  have HRC := Lib.hid (fun (W : World) (O : Only [] w3 W) => rclose_any q B M cb w3.heap.size L W (HROW3.out.only O (by simp)) HLN.out (by omega) hq wf)
  have HRF := Lib.hid (fun (s : Nat) (W : World) (O : Only [] w3 W) => rfrom_any q s B M cb w3.heap.size L W (HROW3.out.only O (by simp)) HLN.out (by omega) hq wf)
  have HMYF := Lib.hid (fun (W : World) (O : Only [] w3 W) => rmay20_any (q : Int) B M cb L W (row_up (HROW3.out.only O (by simp))) HLN.out (by omega))
  rw [hmy] at HMYF
  have HW := Lib.hid wf
  clear hmy hg wf
  generalize closeL q L = X at *
  obtain ⟨d, hd⟩ : ∃ d, d = X.length := ⟨_, rfl⟩
  rw [← hd] at HC1 HRC hcl
  have HD := Lib.hid hd
  clear hd
  go_wp2_with fail
  refine (HC1.out).mono ?_
  rintro e w4 ⟨A4, c4, ⟨rfl, hv⟩, O4⟩
  have HO34 := Lib.hid O4
  have HO4 := Lib.hid (HO3.out.trans O4)
  have HR4 := Lib.hid (row_of_own hv)
  clear hv O4 HC1
  go_wp2_with fail
  refine (HF2.out _ B cb (row_up (HROW3.out.only HO34.out (by simp))) hb1 hb2).mono ?_
  rintro e w5 ⟨v, rfl, hv, O5⟩
  obtain ⟨B5, c5, rfl, -, -, -, hrow5⟩ := own_row hv
  have HO5 := Lib.hid (HO4.out.trans O5)
  have HO35 := Lib.hid (HO34.out.trans O5)
  have HR5 := Lib.hid (HR4.out.only O5 (by simp))
  have HFR := Lib.hid (cfrom_any (q : Int) a B5 M c5 L w5 hrow5 HLN.out (by omega) (HT.out _ HO5.out).1 (HT.out _ HO5.out).2)
  clear hv hrow5 O5 HROW3 HO4 HF2 HO34 HR4 HT
  by_cases har : 0 ≤ a ∧ a < (q : Int)
  ·obtain ⟨s, rfl⟩ : ∃ s : Nat, a = s := ⟨a.toNat, by omega⟩
   have hsq : s < q := by omega
   rw [from_yes hq HW.out hsq] at HFR
   dsimp only at HFR
   have hs0 : (0 : Int) ≤ (s : Int) := Int.natCast_nonneg _
   have hsq1 : ¬ (q : Int) ≤ (s : Int) := by omega
   have hsq2 : ¬ (s : Int) < 0 := by omega
   have hsq3 : decide (q ≤ s) = false := by simp; omega
   have HRS := Lib.hid (HRF.out s)
   have hql := reach_len q L s
   clear HRF HW har
   generalize reachL q L s = Y at *
   go_wp2_with fail
   refine (HFR.out).mono ?_
   rintro e w6 ⟨A6, c6, ⟨rfl, hv⟩, O6⟩
   have HO6 := Lib.hid (HO5.out.trans O6)
   have HO36 := Lib.hid (HO35.out.trans O6)
   have HR6 := Lib.hid (HR5.out.only O6 (by simp))
   have HY6 := Lib.hid (row_of_own hv)
   have HMY := Lib.hid (HMYF.out w6 HO36.out)
   have HRC6 := Lib.hid (HRC.out w6 HO36.out)
   clear hv O6 HFR HO5 HO35 HR5 HMYF HRC
   go_wp2_with fail
   refine (HMY.out).mono ?_
   rintro e w7 ⟨rfl, rfl⟩
   go_wp2_with fail
   refine (HRC6.out).mono ?_
   rintro e w8 ⟨A8, c8, ⟨rfl, hr8⟩, O8⟩
   have HO8 := Lib.hid (HO6.out.trans O8)
   have HO38 := Lib.hid (HO36.out.trans O8)
   have HR8 := Lib.hid hr8
   have HR68 := Lib.hid (HR6.out.only O8 (by simp))
   have HY8 := Lib.hid (HY6.out.only O8 (by simp))
   clear hr8 O8 HMY HRC6 HO6 HO36 HR6 HY6
   go_wp2_with fail
   refine (sameEdges_eq A4 A8 d c4 c8 X w8 _ _ HR68.out HR8.out HD.out.symm (by omega)).mono ?_
   rintro e w9 ⟨rfl, kd, rfl⟩
   have HO9 := Lib.hid (HO8.out.drewN kd)
   have HY9 := Lib.hid (HY8.out.only ((Only.refl [] w8).drewN kd) (by simp))
   have HRX := Lib.hid (HRS.out _ (HO38.out.drewN kd))
   clear HR68 HR8 HO8 HO38 HRS HY8
   go_wp2_with fail
   refine (HRX.out).mono ?_
   rintro e w10 ⟨A10, c10, ⟨rfl, hv⟩, O10⟩
   have HO10 := Lib.hid (HO9.out.trans O10)
   have HY10 := Lib.hid (HY9.out.only O10 (by simp))
   have HZ10 := Lib.hid (row_of_own hv)
   clear hv O10 HRX HO9 HY9
   go_wp2_with fail
   refine (sameInts_any A6 A10 Y.length Y.length c6 c10 Y Y w10 _ _ HY10.out HZ10.out rfl rfl (by omega) (by omega)).mono ?_
   rintro e w11 ⟨rfl, kd2, rfl⟩
   rw [decide_eq_true rfl]
   have HO11 := Lib.hid (HO10.out.drewN kd2)
   clear HY10 HZ10 HO10
   go_wp2_with fail
   refine (HWO.out _ HO11.out).mono ?_
   rintro e w12 ⟨rfl, O12⟩
   have HO12 := Lib.hid (HO11.out.trans O12)
   clear O12
   go_wp2
   go_ret
   exact ⟨rfl, HO12.out⟩
  ·rw [from_out hq HW.out har] at HFR
   dsimp only at HFR
   have hcase : a < 0 ∨ (¬ a < 0 ∧ (q : Int) ≤ a) := by omega
   clear HRF HW har
   go_wp2_with fail
   refine (HFR.out).mono ?_
   rintro e w6 ⟨A6, c6, ⟨rfl, hv⟩, O6⟩
   have HO6 := Lib.hid (HO5.out.trans O6)
   have HO36 := Lib.hid (HO35.out.trans O6)
   have HR6 := Lib.hid (HR5.out.only O6 (by simp))
   have HMY := Lib.hid (HMYF.out w6 HO36.out)
   have HRC6 := Lib.hid (HRC.out w6 HO36.out)
   clear hv O6 HFR HO5 HO35 HR5 HMYF HRC
   go_wp2_with fail
   refine (HMY.out).mono ?_
   rintro e w7 ⟨rfl, rfl⟩
   go_wp2_with fail
   refine (HRC6.out).mono ?_
   rintro e w8 ⟨A8, c8, ⟨rfl, hr8⟩, O8⟩
   have HO8 := Lib.hid (HO6.out.trans O8)
   have HR8 := Lib.hid hr8
   have HR68 := Lib.hid (HR6.out.only O8 (by simp))
   clear hr8 O8 HMY HRC6 HO6 HO36 HR6
   go_wp2_with fail
   refine (sameEdges_eq A4 A8 d c4 c8 X w8 _ _ HR68.out HR8.out HD.out.symm (by omega)).mono ?_
   rintro e w9 ⟨rfl, kd, rfl⟩
   have HO9 := Lib.hid (HO8.out.drewN kd)
   have HWX := Lib.hid (HWO.out _ HO9.out)
   clear HR68 HR8 HO8 HWO
   rcases hcase with h1 | ⟨h1, h2⟩
   all_goals
    go_wp2_with fail
    refine (HWX.out).mono ?_
    rintro e w12 ⟨rfl, O12⟩
    have HO12 := Lib.hid (HO9.out.trans O12)
    clear O12
    go_wp2
    go_ret
    exact ⟨rfl, HO12.out⟩
end Go.Proofs.YtlipapclbemjjaaDoor
