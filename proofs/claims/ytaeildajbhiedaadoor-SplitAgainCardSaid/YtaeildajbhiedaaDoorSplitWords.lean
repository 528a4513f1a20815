/- SplitWords: the walk. -/
import Derived.Test.YtaeildajbhiedaaDoorSplitC
import Derived.Test.YtaeildajbhiedaaDoorRSplitB
import Derived.Deep.QuietTactic
import Derived.BigQuiet
set_option linter.unusedVariables false
set_option linter.unusedSimpArgs false
namespace Go.Proofs.YtaeildajbhiedaaDoor
open Go.RowKit
open Go.Lib hiding intOf
attribute [local go_sem ↓] Go.wp_at_zero Go.wp_at_succ

theorem wordsV_at (s : ByteArray) : ∀ (ps : List (Nat × Nat)) (k : Nat) (p : Nat × Nat), ps[k]? = some p → (wordsV s ps)[k * 2]? = some (.string (s.extract p.1 p.2)) ∧ (wordsV s ps)[k * 2 + 1]? = some (.int .i64 ((leads ((by_ s).take p.1) : Nat) + 1))
  | q :: ps, 0, p, h => by
    obtain rfl := Option.some.inj h
    exact ⟨rfl, rfl⟩
  | q :: ps, k + 1, p, h => by
    have ih := wordsV_at s ps k p h
    have e : wordsV s (q :: ps) = wordV s q ++ wordsV s ps := rfl
    rw [e, show (k + 1) * 2 = k * 2 + 2 by omega, show k * 2 + 2 + 1 = k * 2 + 1 + 2 by omega]
    exact ih
theorem words_len (l : List UInt8) : (wordsOf l).length ≤ l.length + 1 := by
  have := spans_len (codeL l) 0 none
  rw [code_len] at this
  have h2 := ahead_len l
  unfold wordsOf
  omega

set_option maxHeartbeats 8000000 in
theorem splitWords_walk (s : ByteArray) (w : World) (hs : s.size ≤ 9223372036854775807) (hT : UTabs w) (hM : MLen w) :
    Calls Tryd.prog 6 #[.string s] w fun e w' => e = .returned (.bool true) ∧ Only [] w w' := by
  have HS := Lib.hid (short6_any s w hs)
  have hsz := short6_size s
  have HW := Lib.hid (fun (w' : World) (hO : Only [] w w') => works06_any w' (hT.only hO) (hM.only hO))
  generalize short6 s = x at *
  have HL := Lib.hid (words_any x w (by omega) hT hM)
  have HR := Lib.hid (fun w' => rwords_any x w' (by omega))
  have HRM := Lib.hid (fun (w' : World) (hO : Only [] w w') => remark_any x w' (by omega) (hM.only hO))
  have HRR := Lib.hid (fun w' => rremark_any x w' (by omega))
  have hwl := words_len (by_ x)
  rw [by_length] at hwl
  have HAT := Lib.hid (wordsV_at x (wordsOf (by_ x)))
  generalize (by_ x).contains 35 = is at *
  generalize (⟨(remarkL (by_ x)).toArray⟩ : ByteArray) = r at *
  have hvv : (is == is) = true := by cases is <;> rfl
  have htt : (r.toList == r.toList) = true := by simp
  obtain ⟨bad, hbad⟩ : ∃ b, b = badL (by_ x) := ⟨_, rfl⟩
  rw [← hbad] at HL HR
  obtain ⟨ps, hps⟩ : ∃ ps, ps = wordsOf (by_ x) := ⟨_, rfl⟩
  rw [← hps] at HL HR HAT hwl
  obtain ⟨n, hn⟩ : ∃ n, n = ps.length := ⟨_, rfl⟩
  rw [← hn] at HL HR hwl
  have HN := Lib.hid hn
  clear hT hM hs hbad hps hn
  go_enter Tryd.func6, Tryd.ntmps6
  go_wp2_with fail
  refine (HS.out).mono ?_
  rintro e w1 ⟨rfl, rfl⟩
  go_wp2_with fail
  refine (HL.out).mono ?_
  rintro e w1 ⟨hO1, hcase1⟩
  have HO1 := Lib.hid hO1
  clear hO1
  cases bad with
  | true =>
    rcases hcase1 with ⟨-, rfl⟩ | ⟨h, -⟩
    rotate_left
    · cases h
    go_wp2_with fail
    refine (HR.out w1).mono ?_
    rintro e w2 ⟨hO2, hcase2⟩
    have HO2 := Lib.hid (HO1.out.trans hO2)
    clear hO2
    rcases hcase2 with ⟨-, rfl⟩ | ⟨h, -⟩
    rotate_left
    · cases h
    go_wp2_with fail
    go_loopw [7] (fun i wr => i = .int .i64 0 ∧ wr = w2) (fun _ _ => 0)
    case atStart => exact ⟨rfl, rfl⟩
    case round =>
      obtain ⟨rfl, rfl⟩ := hrel
      go_wp2_with fail
      refine (HRM.out _ HO2.out).mono ?_
      rintro e w3 ⟨rfl, hO3⟩
      have HO3 := Lib.hid (HO2.out.trans hO3)
      clear hO3
      go_wp2_with fail
      refine (HRR.out _).mono ?_
      rintro e w3' ⟨rfl, rfl⟩
      go_wp2_with fail
      refine (HW.out _ HO3.out).mono ?_
      rintro e w4 ⟨rfl, hO4⟩
      have HO4 := Lib.hid (HO3.out.trans hO4)
      clear hO4
      go_wp2
      go_ret
      exact ⟨rfl, HO4.out⟩
  | false =>
    rcases hcase1 with ⟨h, -⟩ | ⟨-, V, rfl, hown⟩
    · cases h
    obtain ⟨A, c, rfl, hc1, hc2, hxl, hrow⟩ := own_row hown
    have HROW := Lib.hid hrow
    clear hown hrow
    go_wp2_with fail
    refine (HR.out w1).mono ?_
    rintro e w2 ⟨hO2, hcase2⟩
    have HROW2 := Lib.hid (HROW.out.only hO2 (by simp))
    have HO2 := Lib.hid (HO1.out.trans hO2)
    clear hO2
    rcases hcase2 with ⟨h, -⟩ | ⟨-, V2, rfl, hown⟩
    · cases h
    obtain ⟨A', c', rfl, -, -, -, hrow'⟩ := own_row hown
    have HROW' := Lib.hid hrow'
    clear hown hrow'
    have hnn : ((n : Int) == (n : Int)) = true := by simp
    go_wp2_with fail
    go_loopw [7] (fun i wr => ∃ (k q : Nat), i = .int .i64 k ∧ k ≤ n ∧ Hid (w2.drewN q = wr)) (fun i _ => n - (intOf i).toNat)
    case atStart => exact ⟨0, 0, rfl, by omega, Lib.hid rfl⟩
    case round =>
      obtain ⟨k, q, rfl, hk, hw⟩ := hrel
      by_cases hlt : k < n
      · have h01 : (k : Int) < (n : Int) := by omega
        have hk0 : (0 : Int) ≤ (k : Int) := Int.natCast_nonneg _
        obtain ⟨p, hp⟩ : ∃ p, ps[k]? = some p := ⟨_, List.getElem?_eq_getElem (by rw [← HN.out]; exact hlt)⟩
        obtain ⟨a0, a1⟩ := HAT.out k p hp
        obtain ⟨b, off, rfl, -, hbw, hcell⟩ := HROW2.out.open_ (k := k * 2) (List.getElem?_eq_some_iff.1 a0).1
        obtain ⟨b', off', rfl, -, hbw', hcell'⟩ := HROW'.out.open_ (k := k * 2) (List.getElem?_eq_some_iff.1 a0).1
        obtain ⟨X, hX⟩ : ∃ X, X = x.extract p.1 p.2 := ⟨_, rfl⟩
        obtain ⟨z, hz⟩ : ∃ z : Int, z = (leads ((by_ x).take p.1) : Nat) + 1 := ⟨_, rfl⟩
        rw [← hX] at a0
        rw [← hz] at a1
        have g0 : wr.cell? ⟨b, off + k * 2, none⟩ = some (.string X) := by rw [← hw.out]; exact hcell _ _ a0
        have g1 : wr.cell? ⟨b, off + k * 2 + 1, none⟩ = some (.int .i64 z) := by rw [← hw.out]; exact hcell _ _ a1
        have g0' : wr.cell? ⟨b', off' + k * 2, none⟩ = some (.string X) := by rw [← hw.out]; exact hcell' _ _ a0
        have g1' : wr.cell? ⟨b', off' + k * 2 + 1, none⟩ = some (.int .i64 z) := by rw [← hw.out]; exact hcell' _ _ a1
        have hxx : (X.toList != X.toList) = false := by simp
        have hzz : (z != z) = false := by simp
        have hwk : IntKind.i64.wrap ((k : Int) + 1) = (k : Int) + 1 := IntWalk.i64_in _ (by omega)
        clear hX hz hcell hcell' hp a0 a1
        go_wp2_with fail
        go_quiet (fail)
        go_wp2
        go_roundw
        case rel =>
          refine ⟨k + 1, q + nq, by go_num, by omega, Lib.hid ?_⟩
          rw [← hw.out, World.drewN_drewN]
        case measure => simp [intOf]; omega
      · have hkn : k = n := by omega
        subst hkn
        have hd : decide ((k : Int) < (k : Int)) = false := by simp
        have HO2' := Lib.hid (HO2.out.drewN q)
        rw [hw.out] at HO2'
        go_wp2_with fail
        refine (HRM.out _ HO2'.out).mono ?_
        rintro e w3 ⟨rfl, hO3⟩
        have HO3 := Lib.hid (HO2'.out.trans hO3)
        clear hO3
        go_wp2_with fail
        refine (HRR.out _).mono ?_
        rintro e w3' ⟨rfl, rfl⟩
        go_wp2_with fail
        refine (HW.out _ HO3.out).mono ?_
        rintro e w4 ⟨rfl, hO4⟩
        have HO4 := Lib.hid (HO3.out.trans hO4)
        clear hO4
        go_wp2
        go_ret
        exact ⟨rfl, HO4.out⟩

end Go.Proofs.YtaeildajbhiedaaDoor
