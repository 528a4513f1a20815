/- The document's Column. -/
import Derived.Test.YtaeildajbhiedaaDoorLineColM
import Derived.Test.YtaeildajbhiedaaDoorRLineB
set_option linter.unusedVariables false
set_option linter.unusedSimpArgs false
namespace Go.Proofs.YtaeildajbhiedaaDoor
open Go.RowKit
open Go.Lib hiding intOf
attribute [local go_sem ↓] Go.wp_at_zero Go.wp_at_succ

set_option maxHeartbeats 2000000 in
theorem rcol_any (s : ByteArray) (a : Int) (w : World) (hs : s.size ≤ 65537) :
    Calls Tryd.prog 47 #[.string s, .int .i64 a] w fun e w' => e = .returned (.int .i64 (colOf s a)) ∧ w = w' := by
  have HRN := Lib.hid (rrunes_any s w hs)
  have HSZ := Lib.hid (fun pos (h : pos < s.size) => rsize_any s pos w h hs)
  have HST := Lib.hid (sz_step s)
  obtain ⟨C, hC⟩ : ∃ C, C = colOf s a := ⟨_, rfl⟩
  rw [← hC]
  unfold colOf at hC
  obtain ⟨vb, hvb⟩ : ∃ vb, vb = validD (by_ s) := ⟨_, rfl⟩
  rw [← hvb] at HRN hC
  obtain ⟨rn, hrn⟩ : ∃ rn : Int, rn = (if vb = true then (runeCount s : Int) else 0) := ⟨_, rfl⟩
  rw [← hrn] at HRN
  have HVB := Lib.hid hvb
  clear hvb hrn
  cases vb with
  | false =>
    rw [if_neg (by simp)] at hC
    have HC := Lib.hid hC
    clear hC
    go_enter Tryd.func47, Tryd.ntmps47
    go_wp2_with fail
    refine (HRN.out).mono ?_
    rintro e w1 ⟨rfl, rfl⟩
    go_wp2
    go_ret
    exact ⟨by rw [HC.out]; rfl, rfl⟩
  | true =>
    rw [if_pos rfl] at hC
    have hle : C ≤ s.size := by rw [hC]; exact colFrom_le s a _ _
    by_cases ha : a < 0
    · rw [colFrom_stop s a s.size 0 (fun h => by omega)] at hC
      have HC := Lib.hid hC
      clear hC
      go_enter Tryd.func47, Tryd.ntmps47
      go_wp2_with fail
      refine (HRN.out).mono ?_
      rintro e w1 ⟨rfl, rfl⟩
      go_wp2
      go_ret
      exact ⟨by rw [HC.out]; rfl, rfl⟩
    · have had : decide (a < 0) = false := by simp; omega
      have HC := Lib.hid hC
      clear hC ha
      go_enter Tryd.func47, Tryd.ntmps47
      go_wp2_with fail
      refine (HRN.out).mono ?_
      rintro e w1 ⟨rfl, rfl⟩
      go_wp2
      go_loop [7, 8] (fun nn i => ∃ (k pos b : Nat), nn = .int .i64 k ∧ i = .int .i64 pos ∧ pos ≤ s.size ∧ s.size ≤ pos + b ∧ k ≤ C ∧ Hid (validD ((by_ s).drop pos) = true) ∧ Hid (colFrom s a b pos + k = C)) (fun _ i => s.size - (intOf i).toNat)
      case atStart => exact ⟨0, 0, s.size, rfl, rfl, by omega, by omega, by omega, Lib.hid HVB.out.symm, Lib.hid (by rw [HC.out]; rfl)⟩
      case round =>
        obtain ⟨k, pos, b, rfl, rfl, hpos, hb, hkC, HV, HR⟩ := hrel
        by_cases hp : pos < s.size ∧ (pos : Int) < a
        · obtain ⟨hp1, hp2⟩ := hp
          have hp1' : (pos : Int) < (s.size : Int) := by omega
          have HS1 := Lib.hid (HSZ.out pos hp1)
          rcases HST.out pos hp1 with ⟨h0, hv⟩ | ⟨h2, h1, hle2, hv⟩
          · exfalso
            have := HV.out
            rw [hv] at this
            cases this
          · obtain ⟨b', rfl⟩ : ∃ b', b = b' + 1 := ⟨b - 1, by omega⟩
            have hst : colFrom s a (b' + 1) pos = 1 + colFrom s a b' (pos + szAt s pos) := by
              rw [colFrom, if_pos ⟨hp1, hp2⟩, h2]
            have hcc := HR.out
            rw [hst] at hcc
            have hk1 : k + 1 ≤ C := by omega
            obtain ⟨z, hz⟩ : ∃ z, z = szAt s pos := ⟨_, rfl⟩
            rw [← hz] at HS1 h1 hle2 hv hcc
            have HV2 : Hid (validD ((by_ s).drop (pos + z)) = true) := Lib.hid (by rw [← hv]; exact HV.out)
            have HR2 : Hid (colFrom s a b' (pos + z) + (k + 1) = C) := Lib.hid (by omega)
            clear hst hcc h2 hz hv HV HR
            go_wp2_with fail
            refine (HS1.out).mono ?_
            rintro e w' ⟨rfl, rfl⟩
            go_wp2
            go_round
            case rel => exact ⟨k + 1, pos + z, b', by go_num, by go_num, by omega, by omega, by omega, HV2, HR2⟩
            case measure => simp [intOf]; omega
        · have hcc := HR.out
          rw [colFrom_stop s a b pos hp] at hcc
          have hkC2 : k = C := by omega
          subst hkC2
          clear hcc HV HR
          by_cases hp1 : pos < s.size
          · have hp1' : (pos : Int) < (s.size : Int) := by omega
            have hp2 : decide ((pos : Int) < a) = false := by simp; omega
            clear hp
            go_wp2
            go_ret
            exact ⟨rfl, rfl⟩
          · have hp1' : decide ((pos : Int) < (s.size : Int)) = false := by simp; omega
            clear hp
            go_wp2
            go_ret
            exact ⟨rfl, rfl⟩

end Go.Proofs.YtaeildajbhiedaaDoor
