/- Parts. -/
import Derived.Test.YtojpohmijlkagaaDoorLaw43AllK35
set_option maxRecDepth 10000
set_option maxHeartbeats 16000000
set_option linter.unusedVariables false
set_option linter.unusedSimpArgs false
namespace Go.Proofs.YtojpohmijlkagaaDoor
open Go.RowKit
open Go.Lib hiding intOf
attribute [local go_sem ↓] Go.wp_at_zero Go.wp_at_succ
theorem rrunes_any (s : ByteArray) (w : World) (hs : s.size ≤ 65537) :
  Calls Tryd.prog 43 #[.string s] w fun e w' => e = .returned (.tuple #[.int .i64 (if validD (by_ s) = true then (runeCount s : Int) else 0), .bool (validD (by_ s))]) ∧ w = w' := by
 have hle := runeCount_le s;have HSZ := Hd (fun pos (h : pos < s.size) => rsize_any s pos w h hs);have HST := Hd (sz_step s);obtain ⟨R, hR⟩ : ∃ R, R = runeCount s := ⟨_, rfl⟩;obtain ⟨vb, hvb⟩ : ∃ vb, vb = validD (by_ s) := ⟨_, rfl⟩;rw [← hR] at hle;rw [← hR, ← hvb];have HR : Hid (R = runeCountFrom s s.size 0) := Hd hR;have HVB := Hd hvb;clear hR hvb;go_enter Tryd.func43, Tryd.ntmps43;go_wp2
 go_loop [4, 5] (fun nn i => ∃ (k pos b : Nat), nn = .int .i64 k ∧ i = .int .i64 pos ∧ pos ≤ s.size ∧ s.size ≤ pos + b ∧ k ≤ R ∧ Hid (vb = validD ((by_ s).drop pos)) ∧ Hid (runeCountFrom s b pos + k = R)) (fun _ i => s.size - (intOf i).toNat)
 case atStart => exact ⟨0, 0, s.size, rfl, rfl, by omega, by omega, by omega, Hd (by rw [HVB.out]; rfl), Hd (by rw [HR.out]; rfl)⟩
 case round =>
  obtain ⟨k, pos, b, rfl, rfl, hpos, hb, hkR, HV, HC⟩ := hrel
  by_cases hp : pos < s.size
  ·have hp1 : (pos : Int) < (s.size : Int) := by omega
   have HS1 := Hd (HSZ.out pos hp);rcases HST.out pos hp with ⟨h0, hv⟩ | ⟨h2, h1, hle2, hv⟩
   ·have hvf : vb = false := by rw [HV.out, hv]
    rw [h0] at HS1;subst hvf;clear h0 hv HV HVB;go_wp2_with fail
    refine (HS1.out).mono ?_;rintro e w' ⟨rfl, rfl⟩;go_wp2
    go_ret2
    exact ⟨rfl, rfl⟩
   ·obtain ⟨b', rfl⟩ : ∃ b', b = b' + 1 := ⟨b - 1, by omega⟩;have hst : runeCountFrom s (b' + 1) pos = 1 + runeCountFrom s b' (pos + szAt s pos) := by
     rw [runeCountFrom, if_pos hp, h2]
    have hcc := HC.out;rw [hst] at hcc;have hk1 : k + 1 ≤ R := by omega
    obtain ⟨z, hz⟩ : ∃ z, z = szAt s pos := ⟨_, rfl⟩;rw [← hz] at HS1 h1 hle2 hv hcc;have HV2 : Hid (vb = validD ((by_ s).drop (pos + z))) := Hd (by rw [HV.out, hv]);have HC2 : Hid (runeCountFrom s b' (pos + z) + (k + 1) = R) := Hd (by omega);have hz0 : ((z : Int) == 0) = false := by simp; omega
    clear hst hcc h2 hz hv HV HC;go_wp2_with fail
    refine (HS1.out).mono ?_;rintro e w' ⟨rfl, rfl⟩;go_wp2
    go_round
    case rel => exact ⟨k + 1, pos + z, b', by go_num, by go_num, by omega, by omega, by omega, HV2, HC2⟩
    case measure => simp [intOf]; omega
  ·have hd : decide ((pos : Int) < (s.size : Int)) = false := by simp; omega
   have hcc := HC.out;rw [runeCountFrom_end s b pos hp] at hcc;have hkR2 : k = R := by omega
   have hvt : vb = true := by
    rw [HV.out, List.drop_of_length_le (by rw [by_length]; omega)]
    rfl
   subst hkR2;subst hvt;clear hcc HV HVB;go_wp2
   go_ret2
   exact ⟨rfl, rfl⟩
end Go.Proofs.YtojpohmijlkagaaDoor
