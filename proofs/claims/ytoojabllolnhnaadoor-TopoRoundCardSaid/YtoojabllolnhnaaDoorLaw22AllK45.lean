/- Parts. -/
import Derived.Test.YtoojabllolnhnaaDoorLaw22AllK35
import Derived.Test.YtoojabllolnhnaaDoorLaw22AllK44
set_option maxRecDepth 10000
set_option maxHeartbeats 16000000
set_option linter.unusedVariables false
set_option linter.unusedSimpArgs false
namespace Go.Proofs.YtoojabllolnhnaaDoor
open Go.RowKit
attribute [local go_sem ↓] Go.wp_at_zero Go.wp_at_succ
theorem count_no {n : Int} {l : List (Int × Int)} (h : mayL n l = false) : countR n l = (0, 2) := by unfold countR; rw [h]; rfl
theorem count_many {n : Int} {l : List (Int × Int)} (h : mayL n l = true) (hn : 12 < n) : countR n l = (0, 3) := by unfold countR; rw [h, if_pos rfl, if_pos hn]
theorem count_yes {q : Nat} {l : List (Int × Int)} (h : mayL (q : Int) l = true) (hn : ¬ 12 < (q : Int)) : countR (q : Int) l = (((capT (extT q l q []) : Nat) : Int), 0) := by unfold countR; rw [h, if_pos rfl, if_neg hn, Int.toNat_natCast]
def sixN (n : Int) : Int := if 6 < n ∧ n < 13 then 6 else n
theorem topoCounts_walk (n0 : Int) (A : Option Addr) (m c : Nat) (l : List (Int × Int)) (w : World)
    (hr : Row w w.heap.size A (edgeC l)) (hl : l.length = m) (hmc : m ≤ c) (hc : c ≤ maxLen) (hT : Tab w) (h00 : 0 < w.heap.size) :
    Calls Tryd.prog 5 #[.int .i64 n0, .slice A m c] w fun e w' => e = .returned (.bool true) ∧ Only [] w w' := by
  have HWO := Hd (fun (W : World) (O : Only [] w W) => works22_any W (hT.only h00 O (by simp)) (Nat.lt_of_lt_of_le h00 O.size))
  have HFE := Hd (fun (W : World) (O : Only [] w W) => few19_any A m c l W (row_up (hr.only O (by simp))) hl hmc hc)
  have HLL : (l.take (min m 60)).length = min m 60 := by rw [List.length_take, hl]; omega
  have HT := Hd (fun (W : World) (O : Only [] w W) => aI (hT.only h00 O (by simp)) (Nat.lt_of_lt_of_le h00 O.size))
  obtain ⟨M, hM⟩ : ∃ M, M = min m 60 := ⟨_, rfl⟩
  have hM60 : M ≤ 60 := by omega
  rw [← hM] at HLL
  simp only [← hM] at HFE
  obtain ⟨L, hL⟩ : ∃ L, L = l.take M := ⟨_, rfl⟩
  rw [← hL] at HLL
  simp only [← hL] at HFE
  have HLN := Hd HLL
  have hm60 : min M 60 = M := by omega
  have htake : L.take M = L := List.take_of_length_le (by omega)
  have HF2 := Hd (fun (w : World) (B : Option Addr) (cb : Nat) (hrow : Row w w.heap.size B (edgeC L)) (hb1 : M ≤ cb) (hb2 : cb ≤ maxLen) => by
    have := few19_any B M cb L w hrow HLL hb1 hb2
    rw [hm60, htake] at this
    exact this)
  obtain ⟨N, hN⟩ : ∃ N, N = sixN n0 := ⟨_, rfl⟩
  have HN6 : Hid (N = sixN n0) := Hd hN
  have HN13 : Hid (¬ 12 < N → N ≤ 6) := Hd (fun h => by rw [hN] at h ⊢; unfold sixN at h ⊢; split at h <;> split <;> omega)
  clear hL hM HLL hr hN hl hmc hc hm60 htake hT
  go_enter Tryd.func5, Tryd.ntmps5
  obtain ⟨bb, hbb⟩ : ∃ bb, bb = (decide (6 < n0) && decide (n0 < 13)) := ⟨_, rfl⟩
  have HB1 : Hid (bb = true → N = 6) := Hd (fun h => by rw [hbb, Bool.and_eq_true, decide_eq_true_eq, decide_eq_true_eq] at h; rw [HN6.out]; unfold sixN; rw [if_pos h])
  have HB2 : Hid (bb = false → N = n0) := Hd (fun h => by rw [HN6.out]; unfold sixN; rw [if_neg]; rintro ⟨h1, h2⟩; rw [hbb, decide_eq_true h1, decide_eq_true h2] at h; cases h)
  have HBB := Hd hbb
  clear hbb
  go_upto_region 1 with (fail)
  go_cut [12] (fun z wx => z = .bool bb ∧ w = wx)
  case first =>
    by_cases h6 : 6 < n0
    · have d6 : decide (6 < n0) = true := decide_eq_true h6
      rw [d6, Bool.true_and] at HBB
      have HB3 := Hd HBB.out
      clear HBB HB1 HB2
      go_wp2
      go_meet
      exact ⟨by rw [HB3.out], rfl⟩
    · have d6 : decide (6 < n0) = false := decide_eq_false h6
      rw [d6, Bool.false_and] at HBB
      have HB3 := Hd HBB.out
      clear HBB HB1 HB2
      go_wp2
      go_meet
      exact ⟨by rw [HB3.out], rfl⟩
  case rest =>
   obtain ⟨rfl, rfl⟩ := hcut
   clear HBB
   go_upto_if 12 with (fail)
   go_cut [0] (fun z wx => z = .int .i64 N ∧ w = wx)
   case first =>
    cases bb with
    | true =>
      have HE := Hd (HB1.out rfl)
      clear HB1 HB2
      go_wp2
      go_meet
      exact ⟨by rw [HE.out], rfl⟩
    | false =>
      have HE := Hd (HB2.out rfl)
      clear HB1 HB2
      go_wp2
      go_meet
      exact ⟨by rw [HE.out], rfl⟩
   case rest =>
    obtain ⟨rfl, rfl⟩ := hcut
    clear HN6 HB1 HB2
    go_wp2_with fail
    refine (HFE.out _ (Only.refl [] _)).mono ?_
    rintro e w2 ⟨v, rfl, hv, O2⟩
    obtain ⟨B, cb, rfl, hb1, hb2, -, hrow⟩ := own_row hv
    have HROW := Hd hrow
    have HO2 := Hd O2
    clear hv hrow O2 HFE
    go_wp2_with fail
    refine (HF2.out _ B cb HROW.out hb1 hb2).mono ?_
    rintro e w3 ⟨v, rfl, hv, O3⟩
    obtain ⟨B3, c3, rfl, -, -, -, hrow3⟩ := own_row hv
    have HO3 := Hd (HO2.out.trans O3)
    have HROW2 := Hd (HROW.out.only O3 (by simp))
    have HCT := Hd (tcount_any N B3 M c3 L w3 hrow3 HLN.out (by omega) (HT.out _ HO3.out).1 (HT.out _ HO3.out).2)
    have HMYF := Hd (fun (W : World) (O : Only [] w3 W) => rmay19_any N B M cb L W (row_up (HROW2.out.only O (by simp))) HLN.out (by omega))
    clear hv hrow3 O3 HF2 HROW HO2 hb1 hb2 HT
    cases hmy : mayL N L with
    | false =>
      rw [count_no hmy] at HCT
      rw [hmy] at HMYF
      dsimp only at HCT
      clear hmy
      go_wp2_with fail
      refine (HCT.out).mono ?_
      rintro e w4 ⟨rfl, O4⟩
      have HO4 := Hd (HO3.out.trans O4)
      have HMY := Hd (HMYF.out _ O4)
      clear O4 HCT HMYF
      go_wp2_with fail
      refine (HMY.out).mono ?_
      rintro e w5 ⟨rfl, rfl⟩
      go_wp2_with fail
      refine (HWO.out _ HO4.out).mono ?_
      rintro e w6 ⟨rfl, O6⟩
      have HO6 := Hd (HO4.out.trans O6)
      clear O6
      go_wp2
      go_ret
      exact ⟨rfl, HO6.out⟩
    | true =>
      obtain ⟨q, rfl, hq, wf, hg⟩ := may_wf hmy
      rw [hmy] at HMYF
      by_cases h12 : 12 < (q : Int)
      · rw [count_many hmy h12] at HCT
        have d1 : decide ((12 : Int) < (q : Int)) = true := decide_eq_true h12
        have d2 : decide (12 < q) = true := decide_eq_true (by omega)
        dsimp only at HCT
        clear hmy wf hg
        go_wp2_with fail
        refine (HCT.out).mono ?_
        rintro e w4 ⟨rfl, O4⟩
        have HO4 := Hd (HO3.out.trans O4)
        have HMY := Hd (HMYF.out _ O4)
        clear O4 HCT HMYF
        go_wp2_with fail
        refine (HMY.out).mono ?_
        rintro e w5 ⟨rfl, rfl⟩
        go_wp2_with fail
        refine (HWO.out _ HO4.out).mono ?_
        rintro e w6 ⟨rfl, O6⟩
        have HO6 := Hd (HO4.out.trans O6)
        clear O6
        go_wp2
        go_ret
        exact ⟨rfl, HO6.out⟩
      · rw [count_yes hmy h12] at HCT
        have d1 : decide ((12 : Int) < (q : Int)) = false := decide_eq_false h12
        have d2 : decide (12 < q) = false := decide_eq_false (by omega)
        have HRC := Hd (fun (W : World) (O : Only [] w3 W) => rcount22_any q B M cb L W (row_up (HROW2.out.only O (by simp))) HLN.out (by omega) hq wf)
        dsimp only at HCT
        obtain ⟨z, hz⟩ : ∃ z : Nat, z = capT (extT q L q []) := ⟨_, rfl⟩
        rw [← hz] at HCT HRC
        clear hmy wf hg hz
        go_wp2_with fail
        refine (HCT.out).mono ?_
        rintro e w4 ⟨rfl, O4⟩
        have HO4 := Hd (HO3.out.trans O4)
        have HMY := Hd (HMYF.out _ O4)
        have HRW := Hd (HRC.out _ O4)
        clear O4 HCT HMYF HRC
        go_wp2_with fail
        refine (HMY.out).mono ?_
        rintro e w5 ⟨rfl, rfl⟩
        clear HMY
        go_wp2_with fail
        refine (HRW.out).mono ?_
        rintro e w6 ⟨rfl, O6⟩
        have HO6 := Hd (HO4.out.trans O6)
        have hzz : ((z : Int) == (z : Int)) = true := by simp
        clear O6 HRW
        go_wp2_with fail
        refine (HWO.out _ HO6.out).mono ?_
        rintro e w8 ⟨rfl, O8⟩
        have HO8 := Hd (HO6.out.trans O8)
        clear O8
        go_wp2
        go_ret
        exact ⟨rfl, HO8.out⟩
end Go.Proofs.YtoojabllolnhnaaDoor
