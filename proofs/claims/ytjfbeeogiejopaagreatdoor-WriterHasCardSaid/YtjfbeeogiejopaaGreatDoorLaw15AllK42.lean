/- Contracts of the document's names: Is. Contracts of the document's names: Runes, Clean, Is, Less. -/
import Derived.Test.YtjfbeeogiejopaaGreatDoorLaw15AllK41
import Derived.Test.YtjfbeeogiejopaaGreatDoorLaw15AllK12
import Derived.Test.YtjfbeeogiejopaaGreatDoorLaw15AllK21
import Derived.Deep.QuietTactic
import Derived.BigQuiet
set_option linter.unusedVariables false
set_option linter.unusedSimpArgs false
namespace Go.Proofs.YtjfbeeogiejopaaGreatDoor
open Go.RowKit
open Go.Lib hiding intOf
attribute [local go_sem ↓] Go.wp_at_zero Go.wp_at_succ
theorem name_false {rs : List Nat} {r : Nat} (h : r ∈ rs) (hm : mayR r = false) : nameL rs = false := by
 have : rs.all mayR = false := by
  rw [List.all_eq_false]
  exact ⟨r, h, by rw [hm]; simp⟩
 unfold nameL
 rw [this, Bool.and_false]
theorem name_true {rs : List Nat} (h0 : 0 < rs.length) (h1 : rs.length ≤ 20) (h2 : digitR (rs.headD 0) = false) (h3 : rs.all mayR = true) : nameL rs = true := by
 unfold nameL
 rw [decide_eq_true h0, decide_eq_true h1, h2, h3]
 rfl
set_option maxHeartbeats 8000000 in
theorem ris_any (s : ByteArray) (w : World) (hs : s.size ≤ 65537) :
  Calls Tryz.prog 82 #[.string s] w fun e w' => e = .returned (.bool (isName s)) ∧ Only [] w w' := by
 have HA := Lib.hid (rrunes02_any s w hs)
 have HRS := Lib.hid (fun w' => rreserved_any s w')
 have HCL := Lib.hid (fun w' => rclean_any s w' hs)
 have hrl := runes_len (by_ s)
 rw [by_length] at hrl
 obtain ⟨R, hR⟩ : ∃ R, R = isName s := ⟨_, rfl⟩
 rw [← hR]
 unfold isName at hR
 obtain ⟨rs, hrs⟩ : ∃ rs, rs = runesL (by_ s) := ⟨_, rfl⟩
 rw [← hrs] at HA hrl hR
 obtain ⟨v, hv⟩ : ∃ v, v = validD (by_ s) := ⟨_, rfl⟩
 obtain ⟨x, hx⟩ : ∃ x, x = reservedL (by_ s) := ⟨_, rfl⟩
 rw [← hv] at HCL hR
 rw [← hx] at HRS hR
 obtain ⟨n, hn⟩ : ∃ n, n = rs.length := ⟨_, rfl⟩
 rw [← hn] at HA hrl
 have HR := Lib.hid hR
 have HN := Lib.hid hn
 clear hR hrs hv hx hn
 go_enter Tryz.func82, Tryz.ntmps82
 go_wp2_with fail
 refine (HA.out).mono ?_
 rintro e w1 ⟨hO1, V, rfl, hown⟩
 have HO1 := Lib.hid hO1
 obtain ⟨A, c, rfl, -, -, -, hrow⟩ := own_row hown
 have HROW := Lib.hid hrow
 clear hO1 hown hrow
 by_cases hn0 : n = 0
 ·have f1 : (n : Int) < 1 := by omega
  have HF : Hid (R = false) := Lib.hid (by rw [HR.out]; simp only [nameL, ← HN.out, hn0]; simp)
  clear hn0
  go_wp2
  go_ret
  exact ⟨by first | (rw [HF.out]; done) | (rw [HF.out]; rfl), HO1.out⟩
 ·by_cases hn20 : 20 < n
  ·have f1 : decide ((n : Int) < 1) = false := decide_eq_false (by omega)
   have f2 : (20 : Int) < (n : Int) := by omega
   have HF : Hid (R = false) := Lib.hid (by
    rw [HR.out]
    have : decide (rs.length ≤ 20) = false := decide_eq_false (by rw [← HN.out]; omega)
    simp only [nameL, this, Bool.and_false, Bool.false_and])
   go_wp2
   go_ret
   exact ⟨by first | (rw [HF.out]; done) | (rw [HF.out]; rfl), HO1.out⟩
  ·have f1 : decide ((n : Int) < 1) = false := decide_eq_false (by omega)
   have f2 : decide ((20 : Int) < (n : Int)) = false := decide_eq_false (by omega)
   go_wp2_with fail
   refine (HRS.out _).mono ?_
   rintro e w1' ⟨rfl, rfl⟩
   cases x with
   | true =>
    have HF : Hid (R = false) := Lib.hid (by rw [HR.out]; simp)
    go_wp2
    go_ret
    exact ⟨by first | (rw [HF.out]; done) | (rw [HF.out]; rfl), HO1.out⟩
   | false =>
    go_wp2_with fail
    refine (HCL.out _).mono ?_
    rintro e w1' ⟨rfl, rfl⟩
    cases v with
    | false =>
     have HF : Hid (R = false) := Lib.hid (by rw [HR.out]; simp)
     go_wp2
     go_ret
     exact ⟨by first | (rw [HF.out]; done) | (rw [HF.out]; rfl), HO1.out⟩
    | true =>
     have HR2 : Hid (R = nameL rs) := Lib.hid (by rw [HR.out]; simp)
     clear HR HRS HCL HA
     obtain ⟨r0, hr0⟩ : ∃ r0, rs[0]? = some r0 := ⟨_, List.getElem?_eq_getElem (by rw [← HN.out]; omega)⟩
     have hhd : rs.headD 0 = r0 := by
      cases rs with
      | nil => cases hr0
      | cons y t => exact Option.some.inj hr0
     obtain ⟨b, o, rfl, -, hbw, hcell⟩ := HROW.out.open_ (k := 0) (by rw [i64s_len, ← HN.out]; omega)
     have g0 : w1.cell? ⟨b, o, none⟩ = some (.int .i64 (r0 : Int)) := hcell 0 _ (i64s_at rs 0 r0 hr0)
     have hn1 : (0 : Int) < (n : Int) := by omega
     by_cases hdg : 48 ≤ r0 ∧ r0 ≤ 57
     ·have f3 : 48 ≤ (r0 : Int) := by omega
      have f4 : (r0 : Int) ≤ 57 := by omega
      have HF : Hid (R = false) := Lib.hid (by
       rw [HR2.out]
       have : digitR (rs.headD 0) = true := by rw [hhd]; simp [digitR, hdg]
       simp only [nameL, this, Bool.not_true, Bool.and_false, Bool.false_and])
      clear hcell hr0 hhd hdg
      go_wp2
      go_ret
      exact ⟨by first | (rw [HF.out]; done) | (rw [HF.out]; rfl), HO1.out⟩
     ·have HDG : Hid (digitR (rs.headD 0) = false) := Lib.hid (by rw [hhd]; simp [digitR]; omega)
      have hguard : (decide ((48 : Int) ≤ (r0 : Int)) = false ∧ decide (48 ≤ r0) = false) ∨ ((48 : Int) ≤ (r0 : Int) ∧ decide ((r0 : Int) ≤ 57) = false ∧ decide (r0 ≤ 57) = false) := by
       by_cases h : 48 ≤ r0
       ·right
        exact ⟨by omega, decide_eq_false (by omega), decide_eq_false (by omega)⟩
       ·left
        exact ⟨decide_eq_false (by omega), decide_eq_false (by omega)⟩
      clear hcell hr0 hhd hdg
      have LOOP : ∀ (k : Nat), k < n → ∃ r, rs[k]? = some r := fun k hk => ⟨_, List.getElem?_eq_getElem (by rw [← HN.out]; exact hk)⟩
      have HLOOP := Lib.hid LOOP
      clear LOOP
      rcases hguard with ⟨h1, h2⟩ | ⟨h1, h2, h3⟩
      ·go_wp2_with fail
       go_loopw [4] (fun iv wr => ∃ (k : Nat), iv = .int .i64 k ∧ k ≤ n ∧ Hid ((rs.take k).all mayR = true) ∧ wr = w1) (fun iv _ => n - (intOf iv).toNat)
       case atStart => exact ⟨0, rfl, by omega, Lib.hid rfl, by first | rfl | trivial⟩
       case round =>
        obtain ⟨k, rfl, hk, HM, rfl⟩ := hrel
        by_cases hlt : k < n
        ·have i1 : (k : Int) < (n : Int) := by omega
         have i0 : (0 : Int) ≤ (k : Int) := Int.natCast_nonneg _
         obtain ⟨r, hr⟩ := HLOOP.out k hlt
         obtain ⟨b, o, hbo, -, hbw, hcell⟩ := HROW.out.open_ (k := k) (by rw [i64s_len, ← HN.out]; exact hlt)
         cases hbo
         have gk : wr.cell? ⟨b, o + k, none⟩ = some (.int .i64 (r : Int)) := hcell _ _ (i64s_at rs k r hr)
         have HRK := Lib.hid hr
         have HTK : Hid (rs.take (k + 1) = rs.take k ++ [r]) := Lib.hid (by rw [List.take_add_one, hr]; rfl)
         have hwk : IntKind.i64.wrap ((k : Int) + 1) = (k : Int) + 1 := IntWalk.i64_in _ (by omega)
         clear hcell hr
         by_cases c0 : r ≤ 47
         ·have l128 : (r : Int) < 128 := by omega
          have n95 : ((r : Int) != 95) = true := by simp; omega
          have l48 : (r : Int) < 48 := by omega
          have l65 : (r : Int) < 65 := by omega
          have l97 : (r : Int) < 97 := by omega
          have hm : mayR r = false := by simp [mayR, digitR]; omega
          have HF : Hid (R = false) := Lib.hid (by rw [HR2.out]; exact name_false (List.mem_of_getElem? HRK.out) hm)
          clear hm HM
          go_wp2
          go_ret
          exact ⟨by first | (rw [HF.out]; done) | (rw [HF.out]; rfl), HO1.out⟩
         by_cases c1 : r ≤ 57
         ·have l128 : (r : Int) < 128 := by omega
          have n95 : ((r : Int) != 95) = true := by simp; omega
          have l48 : decide ((r : Int) < 48) = false := decide_eq_false (by omega)
          have g57 : decide (57 < (r : Int)) = false := decide_eq_false (by omega)
          have hm : mayR r = true := by simp [mayR, digitR]; omega
          have HM2 : Hid ((rs.take (k + 1)).all mayR = true) := Lib.hid (by rw [HTK.out, List.all_append, HM.out]; simpa using hm)
          clear hm HM
          go_wp2
          go_roundw
          case rel => exact ⟨k + 1, by go_num, by omega, HM2, by first | rfl | trivial⟩
          case measure => simp [intOf]; omega
         by_cases c2 : r ≤ 64
         ·have l128 : (r : Int) < 128 := by omega
          have n95 : ((r : Int) != 95) = true := by simp; omega
          have l48 : decide ((r : Int) < 48) = false := decide_eq_false (by omega)
          have g57 : 57 < (r : Int) := by omega
          have l65 : (r : Int) < 65 := by omega
          have l97 : (r : Int) < 97 := by omega
          have hm : mayR r = false := by simp [mayR, digitR]; omega
          have HF : Hid (R = false) := Lib.hid (by rw [HR2.out]; exact name_false (List.mem_of_getElem? HRK.out) hm)
          clear hm HM
          go_wp2
          go_ret
          exact ⟨by first | (rw [HF.out]; done) | (rw [HF.out]; rfl), HO1.out⟩
         by_cases c3 : r ≤ 90
         ·have l128 : (r : Int) < 128 := by omega
          have n95 : ((r : Int) != 95) = true := by simp; omega
          have l48 : decide ((r : Int) < 48) = false := decide_eq_false (by omega)
          have g57 : 57 < (r : Int) := by omega
          have l65 : decide ((r : Int) < 65) = false := decide_eq_false (by omega)
          have g90 : decide (90 < (r : Int)) = false := decide_eq_false (by omega)
          have hm : mayR r = true := by simp [mayR, digitR]; omega
          have HM2 : Hid ((rs.take (k + 1)).all mayR = true) := Lib.hid (by rw [HTK.out, List.all_append, HM.out]; simpa using hm)
          clear hm HM
          go_wp2
          go_roundw
          case rel => exact ⟨k + 1, by go_num, by omega, HM2, by first | rfl | trivial⟩
          case measure => simp [intOf]; omega
         by_cases c4 : r ≤ 94
         ·have l128 : (r : Int) < 128 := by omega
          have n95 : ((r : Int) != 95) = true := by simp; omega
          have l48 : decide ((r : Int) < 48) = false := decide_eq_false (by omega)
          have g57 : 57 < (r : Int) := by omega
          have l65 : decide ((r : Int) < 65) = false := decide_eq_false (by omega)
          have g90 : 90 < (r : Int) := by omega
          have l97 : (r : Int) < 97 := by omega
          have hm : mayR r = false := by simp [mayR, digitR]; omega
          have HF : Hid (R = false) := Lib.hid (by rw [HR2.out]; exact name_false (List.mem_of_getElem? HRK.out) hm)
          clear hm HM
          go_wp2
          go_ret
          exact ⟨by first | (rw [HF.out]; done) | (rw [HF.out]; rfl), HO1.out⟩
         by_cases c5 : r ≤ 95
         ·have l128 : (r : Int) < 128 := by omega
          have n95 : ((r : Int) != 95) = false := by simp; omega
          have hm : mayR r = true := by simp [mayR, digitR]; omega
          have HM2 : Hid ((rs.take (k + 1)).all mayR = true) := Lib.hid (by rw [HTK.out, List.all_append, HM.out]; simpa using hm)
          clear hm HM
          go_wp2
          go_roundw
          case rel => exact ⟨k + 1, by go_num, by omega, HM2, by first | rfl | trivial⟩
          case measure => simp [intOf]; omega
         by_cases c6 : r ≤ 96
         ·have l128 : (r : Int) < 128 := by omega
          have n95 : ((r : Int) != 95) = true := by simp; omega
          have l48 : decide ((r : Int) < 48) = false := decide_eq_false (by omega)
          have g57 : 57 < (r : Int) := by omega
          have l65 : decide ((r : Int) < 65) = false := decide_eq_false (by omega)
          have g90 : 90 < (r : Int) := by omega
          have l97 : (r : Int) < 97 := by omega
          have hm : mayR r = false := by simp [mayR, digitR]; omega
          have HF : Hid (R = false) := Lib.hid (by rw [HR2.out]; exact name_false (List.mem_of_getElem? HRK.out) hm)
          clear hm HM
          go_wp2
          go_ret
          exact ⟨by first | (rw [HF.out]; done) | (rw [HF.out]; rfl), HO1.out⟩
         by_cases c7 : r ≤ 122
         ·have l128 : (r : Int) < 128 := by omega
          have n95 : ((r : Int) != 95) = true := by simp; omega
          have l48 : decide ((r : Int) < 48) = false := decide_eq_false (by omega)
          have g57 : 57 < (r : Int) := by omega
          have l65 : decide ((r : Int) < 65) = false := decide_eq_false (by omega)
          have g90 : 90 < (r : Int) := by omega
          have l97 : decide ((r : Int) < 97) = false := decide_eq_false (by omega)
          have g122 : decide (122 < (r : Int)) = false := decide_eq_false (by omega)
          have hm : mayR r = true := by simp [mayR, digitR]; omega
          have HM2 : Hid ((rs.take (k + 1)).all mayR = true) := Lib.hid (by rw [HTK.out, List.all_append, HM.out]; simpa using hm)
          clear hm HM
          go_wp2
          go_roundw
          case rel => exact ⟨k + 1, by go_num, by omega, HM2, by first | rfl | trivial⟩
          case measure => simp [intOf]; omega
         by_cases c8 : r ≤ 127
         ·have l128 : (r : Int) < 128 := by omega
          have n95 : ((r : Int) != 95) = true := by simp; omega
          have l48 : decide ((r : Int) < 48) = false := decide_eq_false (by omega)
          have g57 : 57 < (r : Int) := by omega
          have l65 : decide ((r : Int) < 65) = false := decide_eq_false (by omega)
          have g90 : 90 < (r : Int) := by omega
          have l97 : decide ((r : Int) < 97) = false := decide_eq_false (by omega)
          have g122 : 122 < (r : Int) := by omega
          have hm : mayR r = false := by simp [mayR, digitR]; omega
          have HF : Hid (R = false) := Lib.hid (by rw [HR2.out]; exact name_false (List.mem_of_getElem? HRK.out) hm)
          clear hm HM
          go_wp2
          go_ret
          exact ⟨by first | (rw [HF.out]; done) | (rw [HF.out]; rfl), HO1.out⟩
         have l128 : decide ((r : Int) < 128) = false := decide_eq_false (by omega)
         have hm : mayR r = true := by simp [mayR, digitR]; omega
         have HM2 : Hid ((rs.take (k + 1)).all mayR = true) := Lib.hid (by rw [HTK.out, List.all_append, HM.out]; simpa using hm)
         clear hm HM
         go_wp2
         go_roundw
         case rel => exact ⟨k + 1, by go_num, by omega, HM2, by first | rfl | trivial⟩
         case measure => simp [intOf]; omega
        ·have hkn : k = n := by omega
         subst hkn
         have hd : decide ((k : Int) < (k : Int)) = false := by simp
         have HF : Hid (R = true) := Lib.hid (by
          rw [HR2.out]
          refine name_true (by rw [← HN.out]; omega) (by rw [← HN.out]; omega) HDG.out ?_
          have := HM.out
          rwa [List.take_of_length_le (by rw [← HN.out]; exact Nat.le_refl _)] at this)
         go_wp2
         go_ret
         exact ⟨by first | (rw [HF.out]; done) | (rw [HF.out]; rfl), HO1.out⟩
      ·go_wp2_with fail
       go_loopw [4] (fun iv wr => ∃ (k : Nat), iv = .int .i64 k ∧ k ≤ n ∧ Hid ((rs.take k).all mayR = true) ∧ wr = w1) (fun iv _ => n - (intOf iv).toNat)
       case atStart => exact ⟨0, rfl, by omega, Lib.hid rfl, by first | rfl | trivial⟩
       case round =>
        obtain ⟨k, rfl, hk, HM, rfl⟩ := hrel
        by_cases hlt : k < n
        ·have i1 : (k : Int) < (n : Int) := by omega
         have i0 : (0 : Int) ≤ (k : Int) := Int.natCast_nonneg _
         obtain ⟨r, hr⟩ := HLOOP.out k hlt
         obtain ⟨b, o, hbo, -, hbw, hcell⟩ := HROW.out.open_ (k := k) (by rw [i64s_len, ← HN.out]; exact hlt)
         cases hbo
         have gk : wr.cell? ⟨b, o + k, none⟩ = some (.int .i64 (r : Int)) := hcell _ _ (i64s_at rs k r hr)
         have HRK := Lib.hid hr
         have HTK : Hid (rs.take (k + 1) = rs.take k ++ [r]) := Lib.hid (by rw [List.take_add_one, hr]; rfl)
         have hwk : IntKind.i64.wrap ((k : Int) + 1) = (k : Int) + 1 := IntWalk.i64_in _ (by omega)
         clear hcell hr
         by_cases c0 : r ≤ 47
         ·have l128 : (r : Int) < 128 := by omega
          have n95 : ((r : Int) != 95) = true := by simp; omega
          have l48 : (r : Int) < 48 := by omega
          have l65 : (r : Int) < 65 := by omega
          have l97 : (r : Int) < 97 := by omega
          have hm : mayR r = false := by simp [mayR, digitR]; omega
          have HF : Hid (R = false) := Lib.hid (by rw [HR2.out]; exact name_false (List.mem_of_getElem? HRK.out) hm)
          clear hm HM
          go_wp2
          go_ret
          exact ⟨by first | (rw [HF.out]; done) | (rw [HF.out]; rfl), HO1.out⟩
         by_cases c1 : r ≤ 57
         ·have l128 : (r : Int) < 128 := by omega
          have n95 : ((r : Int) != 95) = true := by simp; omega
          have l48 : decide ((r : Int) < 48) = false := decide_eq_false (by omega)
          have g57 : decide (57 < (r : Int)) = false := decide_eq_false (by omega)
          have hm : mayR r = true := by simp [mayR, digitR]; omega
          have HM2 : Hid ((rs.take (k + 1)).all mayR = true) := Lib.hid (by rw [HTK.out, List.all_append, HM.out]; simpa using hm)
          clear hm HM
          go_wp2
          go_roundw
          case rel => exact ⟨k + 1, by go_num, by omega, HM2, by first | rfl | trivial⟩
          case measure => simp [intOf]; omega
         by_cases c2 : r ≤ 64
         ·have l128 : (r : Int) < 128 := by omega
          have n95 : ((r : Int) != 95) = true := by simp; omega
          have l48 : decide ((r : Int) < 48) = false := decide_eq_false (by omega)
          have g57 : 57 < (r : Int) := by omega
          have l65 : (r : Int) < 65 := by omega
          have l97 : (r : Int) < 97 := by omega
          have hm : mayR r = false := by simp [mayR, digitR]; omega
          have HF : Hid (R = false) := Lib.hid (by rw [HR2.out]; exact name_false (List.mem_of_getElem? HRK.out) hm)
          clear hm HM
          go_wp2
          go_ret
          exact ⟨by first | (rw [HF.out]; done) | (rw [HF.out]; rfl), HO1.out⟩
         by_cases c3 : r ≤ 90
         ·have l128 : (r : Int) < 128 := by omega
          have n95 : ((r : Int) != 95) = true := by simp; omega
          have l48 : decide ((r : Int) < 48) = false := decide_eq_false (by omega)
          have g57 : 57 < (r : Int) := by omega
          have l65 : decide ((r : Int) < 65) = false := decide_eq_false (by omega)
          have g90 : decide (90 < (r : Int)) = false := decide_eq_false (by omega)
          have hm : mayR r = true := by simp [mayR, digitR]; omega
          have HM2 : Hid ((rs.take (k + 1)).all mayR = true) := Lib.hid (by rw [HTK.out, List.all_append, HM.out]; simpa using hm)
          clear hm HM
          go_wp2
          go_roundw
          case rel => exact ⟨k + 1, by go_num, by omega, HM2, by first | rfl | trivial⟩
          case measure => simp [intOf]; omega
         by_cases c4 : r ≤ 94
         ·have l128 : (r : Int) < 128 := by omega
          have n95 : ((r : Int) != 95) = true := by simp; omega
          have l48 : decide ((r : Int) < 48) = false := decide_eq_false (by omega)
          have g57 : 57 < (r : Int) := by omega
          have l65 : decide ((r : Int) < 65) = false := decide_eq_false (by omega)
          have g90 : 90 < (r : Int) := by omega
          have l97 : (r : Int) < 97 := by omega
          have hm : mayR r = false := by simp [mayR, digitR]; omega
          have HF : Hid (R = false) := Lib.hid (by rw [HR2.out]; exact name_false (List.mem_of_getElem? HRK.out) hm)
          clear hm HM
          go_wp2
          go_ret
          exact ⟨by first | (rw [HF.out]; done) | (rw [HF.out]; rfl), HO1.out⟩
         by_cases c5 : r ≤ 95
         ·have l128 : (r : Int) < 128 := by omega
          have n95 : ((r : Int) != 95) = false := by simp; omega
          have hm : mayR r = true := by simp [mayR, digitR]; omega
          have HM2 : Hid ((rs.take (k + 1)).all mayR = true) := Lib.hid (by rw [HTK.out, List.all_append, HM.out]; simpa using hm)
          clear hm HM
          go_wp2
          go_roundw
          case rel => exact ⟨k + 1, by go_num, by omega, HM2, by first | rfl | trivial⟩
          case measure => simp [intOf]; omega
         by_cases c6 : r ≤ 96
         ·have l128 : (r : Int) < 128 := by omega
          have n95 : ((r : Int) != 95) = true := by simp; omega
          have l48 : decide ((r : Int) < 48) = false := decide_eq_false (by omega)
          have g57 : 57 < (r : Int) := by omega
          have l65 : decide ((r : Int) < 65) = false := decide_eq_false (by omega)
          have g90 : 90 < (r : Int) := by omega
          have l97 : (r : Int) < 97 := by omega
          have hm : mayR r = false := by simp [mayR, digitR]; omega
          have HF : Hid (R = false) := Lib.hid (by rw [HR2.out]; exact name_false (List.mem_of_getElem? HRK.out) hm)
          clear hm HM
          go_wp2
          go_ret
          exact ⟨by first | (rw [HF.out]; done) | (rw [HF.out]; rfl), HO1.out⟩
         by_cases c7 : r ≤ 122
         ·have l128 : (r : Int) < 128 := by omega
          have n95 : ((r : Int) != 95) = true := by simp; omega
          have l48 : decide ((r : Int) < 48) = false := decide_eq_false (by omega)
          have g57 : 57 < (r : Int) := by omega
          have l65 : decide ((r : Int) < 65) = false := decide_eq_false (by omega)
          have g90 : 90 < (r : Int) := by omega
          have l97 : decide ((r : Int) < 97) = false := decide_eq_false (by omega)
          have g122 : decide (122 < (r : Int)) = false := decide_eq_false (by omega)
          have hm : mayR r = true := by simp [mayR, digitR]; omega
          have HM2 : Hid ((rs.take (k + 1)).all mayR = true) := Lib.hid (by rw [HTK.out, List.all_append, HM.out]; simpa using hm)
          clear hm HM
          go_wp2
          go_roundw
          case rel => exact ⟨k + 1, by go_num, by omega, HM2, by first | rfl | trivial⟩
          case measure => simp [intOf]; omega
         by_cases c8 : r ≤ 127
         ·have l128 : (r : Int) < 128 := by omega
          have n95 : ((r : Int) != 95) = true := by simp; omega
          have l48 : decide ((r : Int) < 48) = false := decide_eq_false (by omega)
          have g57 : 57 < (r : Int) := by omega
          have l65 : decide ((r : Int) < 65) = false := decide_eq_false (by omega)
          have g90 : 90 < (r : Int) := by omega
          have l97 : decide ((r : Int) < 97) = false := decide_eq_false (by omega)
          have g122 : 122 < (r : Int) := by omega
          have hm : mayR r = false := by simp [mayR, digitR]; omega
          have HF : Hid (R = false) := Lib.hid (by rw [HR2.out]; exact name_false (List.mem_of_getElem? HRK.out) hm)
          clear hm HM
          go_wp2
          go_ret
          exact ⟨by first | (rw [HF.out]; done) | (rw [HF.out]; rfl), HO1.out⟩
         have l128 : decide ((r : Int) < 128) = false := decide_eq_false (by omega)
         have hm : mayR r = true := by simp [mayR, digitR]; omega
         have HM2 : Hid ((rs.take (k + 1)).all mayR = true) := Lib.hid (by rw [HTK.out, List.all_append, HM.out]; simpa using hm)
         clear hm HM
         go_wp2
         go_roundw
         case rel => exact ⟨k + 1, by go_num, by omega, HM2, by first | rfl | trivial⟩
         case measure => simp [intOf]; omega
        ·have hkn : k = n := by omega
         subst hkn
         have hd : decide ((k : Int) < (k : Int)) = false := by simp
         have HF : Hid (R = true) := Lib.hid (by
          rw [HR2.out]
          refine name_true (by rw [← HN.out]; omega) (by rw [← HN.out]; omega) HDG.out ?_
          have := HM.out
          rwa [List.take_of_length_le (by rw [← HN.out]; exact Nat.le_refl _)] at this)
         go_wp2
         go_ret
         exact ⟨by first | (rw [HF.out]; done) | (rw [HF.out]; rfl), HO1.out⟩
end Go.Proofs.YtjfbeeogiejopaaGreatDoor

set_option linter.unusedVariables false
set_option linter.unusedSimpArgs false
namespace Go.Proofs.YtjfbeeogiejopaaGreatDoor
open Go.RowKit
open Go.Lib hiding intOf
attribute [local go_sem ↓] Go.wp_at_zero Go.wp_at_succ
set_option maxHeartbeats 4000000 in
theorem rless_any (a b : ByteArray) (w : World) (ha : a.size ≤ 65537) (hb : b.size ≤ 65537) :
  Calls Tryz.prog 83 #[.string a, .string b] w fun e w' => e = .returned (.bool (lessL (runesL (by_ a)) (runesL (by_ b)))) ∧ Only [] w w' := by
 have HA := Lib.hid (rrunes02_any a w ha)
 have HB := Lib.hid (fun w' => rrunes02_any b w' hb)
 have hxl := runes_len (by_ a)
 have hyl := runes_len (by_ b)
 rw [by_length] at hxl hyl
 obtain ⟨x, hx⟩ : ∃ x, x = runesL (by_ a) := ⟨_, rfl⟩
 obtain ⟨y, hy⟩ : ∃ y, y = runesL (by_ b) := ⟨_, rfl⟩
 rw [← hx] at HA hxl
 rw [← hy] at HB hyl
 rw [← hx, ← hy]
 obtain ⟨n, hn⟩ : ∃ n, n = x.length := ⟨_, rfl⟩
 obtain ⟨m, hm⟩ : ∃ m, m = y.length := ⟨_, rfl⟩
 rw [← hn] at HA hxl
 rw [← hm] at HB hyl
 obtain ⟨R, hR⟩ : ∃ R, R = lessL x y := ⟨_, rfl⟩
 rw [← hR]
 have HN := Lib.hid hn
 have HM := Lib.hid hm
 have HR := Lib.hid hR
 clear hx hy hn hm hR
 go_enter Tryz.func83, Tryz.ntmps83
 go_wp2_with fail
 refine (HA.out).mono ?_
 rintro e w1 ⟨hO1, V1, rfl, hown1⟩
 have HO1 := Lib.hid hO1
 obtain ⟨A1, c1, rfl, -, -, -, hrow1⟩ := own_row hown1
 have HROW1 := Lib.hid hrow1
 clear hO1 hown1 hrow1
 go_wp2_with fail
 refine (HB.out w1).mono ?_
 rintro e w2 ⟨hO2, V2, rfl, hown2⟩
 have HO2 := Lib.hid (HO1.out.trans hO2)
 have HX := Lib.hid (HROW1.out.only hO2 (by simp))
 obtain ⟨A2, c2, rfl, -, -, -, hrow2⟩ := own_row hown2
 have HY := Lib.hid hrow2
 clear hO2 hown2 hrow2 HROW1
 go_wp2_with fail
 go_loopw [7] (fun iv wr => ∃ (k q : Nat), iv = .int .i64 k ∧ k ≤ n ∧ k ≤ m ∧ Hid (R = lessL (x.drop k) (y.drop k)) ∧ Hid (w2.drewN q = wr)) (fun iv _ => n - (intOf iv).toNat)
 case atStart => exact ⟨0, 0, rfl, by omega, by omega, HR, Lib.hid rfl⟩
 case round =>
  obtain ⟨k, q, rfl, hk1, hk2, HL, hw⟩ := hrel
  by_cases hlt : k < n ∧ k < m
  ·obtain ⟨l1, l2⟩ := hlt
   have i1 : (k : Int) < (n : Int) := by omega
   have i2 : (k : Int) < (m : Int) := by omega
   have i0 : (0 : Int) ≤ (k : Int) := Int.natCast_nonneg _
   obtain ⟨r, hr⟩ : ∃ r, x[k]? = some r := ⟨_, List.getElem?_eq_getElem (by rw [← HN.out]; exact l1)⟩
   obtain ⟨z, hz⟩ : ∃ z, y[k]? = some z := ⟨_, List.getElem?_eq_getElem (by rw [← HM.out]; exact l2)⟩
   have HDR := Lib.hid (less_drop x y k r z hr hz)
   obtain ⟨b1, o1, rfl, -, hbw1, hc1⟩ := HX.out.open_ (k := k) (by rw [i64s_len, ← HN.out]; exact l1)
   obtain ⟨b2, o2, rfl, -, hbw2, hc2⟩ := HY.out.open_ (k := k) (by rw [i64s_len, ← HM.out]; exact l2)
   have g1 : wr.cell? ⟨b1, o1 + k, none⟩ = some (.int .i64 (r : Int)) := by rw [← hw.out]; exact hc1 _ _ (i64s_at x k r hr)
   have g2 : wr.cell? ⟨b2, o2 + k, none⟩ = some (.int .i64 (z : Int)) := by rw [← hw.out]; exact hc2 _ _ (i64s_at y k z hz)
   have hwk : IntKind.i64.wrap ((k : Int) + 1) = (k : Int) + 1 := IntWalk.i64_in _ (by omega)
   clear hr hz hc1 hc2
   by_cases hrz : r = z
   ·subst hrz
    have hne : ((r : Int) != (r : Int)) = false := by simp
    have HL2 : Hid (R = lessL (x.drop (k + 1)) (y.drop (k + 1))) := Lib.hid (by rw [HL.out, HDR.out, if_pos rfl])
    clear HL HDR
    go_wp2_with fail
    go_quiet (fail)
    go_wp2
    go_roundw
    case rel =>
     refine ⟨k + 1, q + nq, by go_num, by omega, by omega, HL2, Lib.hid ?_⟩
     rw [← hw.out, World.drewN_drewN]
    case measure => simp [intOf]; omega
   ·have hne : ((r : Int) != (z : Int)) = true := by simp; omega
    have HF : Hid (R = decide (r < z)) := Lib.hid (by rw [HL.out, HDR.out, if_neg hrz])
    have HOW := Lib.hid (HO2.out.drewN q)
    rw [hw.out] at HOW
    clear HL HDR hrz
    go_wp2_with fail
    go_quiet (fail)
    have g1' : (wr.drewN nq).cell? ⟨b1, o1 + k, none⟩ = some (.int .i64 (r : Int)) := g1
    have g2' : (wr.drewN nq).cell? ⟨b2, o2 + k, none⟩ = some (.int .i64 (z : Int)) := g2
    have HOW2 := Lib.hid (HOW.out.drewN nq)
    generalize wr.drewN nq = w5 at *
    clear g1 g2
    go_wp2_with fail
    go_quiet (fail)
    go_wp2
    go_ret
    exact ⟨by first | (rw [HF.out]; done) | (rw [HF.out]; rfl) | (rw [HF.out]; simp), HOW2.out.drewN _⟩
  ·have HF : Hid (R = decide (n < m)) := Lib.hid (by
    rw [HL.out, less_end (by
     by_cases h : k < n
     ·right; exact List.drop_of_length_le (by rw [← HM.out]; omega)
     ·left; exact List.drop_of_length_le (by rw [← HN.out]; omega)), List.length_drop, List.length_drop, ← HN.out, ← HM.out]
    by_cases h : n < m
    ·rw [decide_eq_true h, decide_eq_true (by omega)]
    ·rw [decide_eq_false h, decide_eq_false (by omega)])
   have hguard : (decide ((k : Int) < (n : Int)) = false ∧ decide (k < n) = false) ∨ ((k : Int) < (n : Int) ∧ decide ((k : Int) < (m : Int)) = false ∧ decide (k < m) = false) := by
    by_cases h : k < n
    ·right
     exact ⟨by omega, decide_eq_false (by omega), decide_eq_false (by omega)⟩
    ·left
     exact ⟨decide_eq_false (by omega), decide_eq_false (by omega)⟩
   have HOW := Lib.hid (HO2.out.drewN q)
   rw [hw.out] at HOW
   clear hlt HL
   rcases hguard with ⟨h1, h2⟩ | ⟨h1, h2, h3⟩
   ·go_wp2
    go_ret
    exact ⟨by first | (rw [HF.out]; done) | (rw [HF.out]; rfl) | (rw [HF.out]; simp), HOW.out⟩
   ·go_wp2
    go_ret
    exact ⟨by first | (rw [HF.out]; done) | (rw [HF.out]; rfl) | (rw [HF.out]; simp), HOW.out⟩
end Go.Proofs.YtjfbeeogiejopaaGreatDoor
