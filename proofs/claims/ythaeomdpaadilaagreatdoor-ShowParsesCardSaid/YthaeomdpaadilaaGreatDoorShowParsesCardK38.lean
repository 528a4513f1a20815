/- Contracts of the document's lines: Runes, Of; SameTexts of the same texts. The document's Column. Contracts of the document's words: ahead, Remark, Join. -/
import Derived.Test.YthaeomdpaadilaaGreatDoorShowParsesCardK37
import Derived.Deep.QuietTactic
import Derived.Test.YthaeomdpaadilaaGreatDoorShowParsesCardK21
import Derived.Test.YthaeomdpaadilaaGreatDoorShowParsesCardK22
set_option linter.unusedVariables false
set_option linter.unusedSimpArgs false
namespace Go.Proofs.YthaeomdpaadilaaGreatDoor
open Go.RowKit
open Go.Lib hiding intOf
attribute [local go_sem ↓] Go.wp_at_zero Go.wp_at_succ
set_option maxHeartbeats 2000000 in
theorem rrunes_any (s : ByteArray) (w : World) (hs : s.size ≤ 65537) :
  Calls Tryz.prog 76 #[.string s] w fun e w' => e = .returned (.tuple #[.int .i64 (if validD (by_ s) = true then (runeCount s : Int) else 0), .bool (validD (by_ s))]) ∧ w = w' := by
 have hle := runeCount_le s
 have HSZ := Lib.hid (fun pos (h : pos < s.size) => rsize_any s pos w h hs)
 have HST := Lib.hid (sz_step s)
 obtain ⟨R, hR⟩ : ∃ R, R = runeCount s := ⟨_, rfl⟩
 obtain ⟨vb, hvb⟩ : ∃ vb, vb = validD (by_ s) := ⟨_, rfl⟩
 rw [← hR] at hle
 rw [← hR, ← hvb]
 have HR : Hid (R = runeCountFrom s s.size 0) := Lib.hid hR
 have HVB := Lib.hid hvb
 clear hR hvb
 go_enter Tryz.func76, Tryz.ntmps76
 go_wp2
 go_loop [4, 5] (fun nn i => ∃ (k pos b : Nat), nn = .int .i64 k ∧ i = .int .i64 pos ∧ pos ≤ s.size ∧ s.size ≤ pos + b ∧ k ≤ R ∧ Hid (vb = validD ((by_ s).drop pos)) ∧ Hid (runeCountFrom s b pos + k = R)) (fun _ i => s.size - (intOf i).toNat)
 case atStart => exact ⟨0, 0, s.size, rfl, rfl, by omega, by omega, by omega, Lib.hid (by rw [HVB.out]; rfl), Lib.hid (by rw [HR.out]; rfl)⟩
 case round =>
  obtain ⟨k, pos, b, rfl, rfl, hpos, hb, hkR, HV, HC⟩ := hrel
  by_cases hp : pos < s.size
  ·have hp1 : (pos : Int) < (s.size : Int) := by omega
   have HS1 := Lib.hid (HSZ.out pos hp)
   rcases HST.out pos hp with ⟨h0, hv⟩ | ⟨h2, h1, hle2, hv⟩
   ·have hvf : vb = false := by rw [HV.out, hv]
    rw [h0] at HS1
    subst hvf
    clear h0 hv HV HVB
    go_wp2_with fail
    refine (HS1.out).mono ?_
    rintro e w' ⟨rfl, rfl⟩
    go_wp2
    go_ret2
    exact ⟨rfl, rfl⟩
   ·obtain ⟨b', rfl⟩ : ∃ b', b = b' + 1 := ⟨b - 1, by omega⟩
    have hst : runeCountFrom s (b' + 1) pos = 1 + runeCountFrom s b' (pos + szAt s pos) := by
     rw [runeCountFrom, if_pos hp, h2]
    have hcc := HC.out
    rw [hst] at hcc
    have hk1 : k + 1 ≤ R := by omega
    obtain ⟨z, hz⟩ : ∃ z, z = szAt s pos := ⟨_, rfl⟩
    rw [← hz] at HS1 h1 hle2 hv hcc
    have HV2 : Hid (vb = validD ((by_ s).drop (pos + z))) := Lib.hid (by rw [HV.out, hv])
    have HC2 : Hid (runeCountFrom s b' (pos + z) + (k + 1) = R) := Lib.hid (by omega)
    have hz0 : ((z : Int) == 0) = false := by simp; omega
    clear hst hcc h2 hz hv HV HC
    go_wp2_with fail
    refine (HS1.out).mono ?_
    rintro e w' ⟨rfl, rfl⟩
    go_wp2
    go_round
    case rel => exact ⟨k + 1, pos + z, b', by go_num, by go_num, by omega, by omega, by omega, HV2, HC2⟩
    case measure => simp [intOf]; omega
  ·have hd : decide ((pos : Int) < (s.size : Int)) = false := by simp; omega
   have hcc := HC.out
   rw [runeCountFrom_end s b pos hp] at hcc
   have hkR2 : k = R := by omega
   have hvt : vb = true := by
    rw [HV.out, List.drop_of_length_le (by rw [by_length]; omega)]
    rfl
   subst hkR2
   subst hvt
   clear hcc HV HVB
   go_wp2
   go_ret2
   exact ⟨rfl, rfl⟩
end Go.Proofs.YthaeomdpaadilaaGreatDoor

set_option linter.unusedVariables false
set_option linter.unusedSimpArgs false
namespace Go.Proofs.YthaeomdpaadilaaGreatDoor
open Go.RowKit
open Go.Lib hiding intOf
attribute [local go_sem ↓] Go.wp_at_zero Go.wp_at_succ
set_option maxHeartbeats 2000000 in
theorem rcol_any (s : ByteArray) (a : Int) (w : World) (hs : s.size ≤ 65537) :
  Calls Tryz.prog 104 #[.string s, .int .i64 a] w fun e w' => e = .returned (.int .i64 (colOf s a)) ∧ w = w' := by
 have HRN := Lib.hid (rrunes_any s w hs)
 have HSZ := Lib.hid (fun pos (h : pos < s.size) => rsize_any s pos w h hs)
 have HST := Lib.hid (sz_step s)
 obtain ⟨C, hC⟩ : ∃ C, C = colOf s a := ⟨_, rfl⟩
 rw [← hC]
 unfold colOf at hC
 obtain ⟨vb, hvb⟩ : ∃ vb, vb = validD (by_ s) := ⟨_, rfl⟩
 rw [← hvb] at HRN hC
 obtain ⟨rn, hrn⟩ : ∃ rn : Int, rn = (if vb = true then (runeCount s : Int) else 0) := ⟨_, rfl⟩
 rw [← hrn] at HRN
 have HVB := Lib.hid hvb
 clear hvb hrn
 cases vb with
 | false =>
  rw [if_neg (by simp)] at hC
  have HC := Lib.hid hC
  clear hC
  go_enter Tryz.func104, Tryz.ntmps104
  go_wp2_with fail
  refine (HRN.out).mono ?_
  rintro e w1 ⟨rfl, rfl⟩
  go_wp2
  go_ret
  exact ⟨by rw [HC.out]; rfl, rfl⟩
 | true =>
  rw [if_pos rfl] at hC
  have hle : C ≤ s.size := by rw [hC]; exact colFrom_le s a _ _
  by_cases ha : a < 0
  ·rw [colFrom_stop s a s.size 0 (fun h => by omega)] at hC
   have HC := Lib.hid hC
   clear hC
   go_enter Tryz.func104, Tryz.ntmps104
   go_wp2_with fail
   refine (HRN.out).mono ?_
   rintro e w1 ⟨rfl, rfl⟩
   go_wp2
   go_ret
   exact ⟨by rw [HC.out]; rfl, rfl⟩
  ·have had : decide (a < 0) = false := by simp; omega
   have HC := Lib.hid hC
   clear hC ha
   go_enter Tryz.func104, Tryz.ntmps104
   go_wp2_with fail
   refine (HRN.out).mono ?_
   rintro e w1 ⟨rfl, rfl⟩
   go_wp2
   go_loop [7, 8] (fun nn i => ∃ (k pos b : Nat), nn = .int .i64 k ∧ i = .int .i64 pos ∧ pos ≤ s.size ∧ s.size ≤ pos + b ∧ k ≤ C ∧ Hid (validD ((by_ s).drop pos) = true) ∧ Hid (colFrom s a b pos + k = C)) (fun _ i => s.size - (intOf i).toNat)
   case atStart => exact ⟨0, 0, s.size, rfl, rfl, by omega, by omega, by omega, Lib.hid HVB.out.symm, Lib.hid (by rw [HC.out]; rfl)⟩
   case round =>
    obtain ⟨k, pos, b, rfl, rfl, hpos, hb, hkC, HV, HR⟩ := hrel
    by_cases hp : pos < s.size ∧ (pos : Int) < a
    ·obtain ⟨hp1, hp2⟩ := hp
     have hp1' : (pos : Int) < (s.size : Int) := by omega
     have HS1 := Lib.hid (HSZ.out pos hp1)
     rcases HST.out pos hp1 with ⟨h0, hv⟩ | ⟨h2, h1, hle2, hv⟩
     ·exfalso
      have := HV.out
      rw [hv] at this
      cases this
     ·obtain ⟨b', rfl⟩ : ∃ b', b = b' + 1 := ⟨b - 1, by omega⟩
      have hst : colFrom s a (b' + 1) pos = 1 + colFrom s a b' (pos + szAt s pos) := by
       rw [colFrom, if_pos ⟨hp1, hp2⟩, h2]
      have hcc := HR.out
      rw [hst] at hcc
      have hk1 : k + 1 ≤ C := by omega
      obtain ⟨z, hz⟩ : ∃ z, z = szAt s pos := ⟨_, rfl⟩
      rw [← hz] at HS1 h1 hle2 hv hcc
      have HV2 : Hid (validD ((by_ s).drop (pos + z)) = true) := Lib.hid (by rw [← hv]; exact HV.out)
      have HR2 : Hid (colFrom s a b' (pos + z) + (k + 1) = C) := Lib.hid (by omega)
      clear hst hcc h2 hz hv HV HR
      go_wp2_with fail
      refine (HS1.out).mono ?_
      rintro e w' ⟨rfl, rfl⟩
      go_wp2
      go_round
      case rel => exact ⟨k + 1, pos + z, b', by go_num, by go_num, by omega, by omega, by omega, HV2, HR2⟩
      case measure => simp [intOf]; omega
    ·have hcc := HR.out
     rw [colFrom_stop s a b pos hp] at hcc
     have hkC2 : k = C := by omega
     subst hkC2
     clear hcc HV HR
     by_cases hp1 : pos < s.size
     ·have hp1' : (pos : Int) < (s.size : Int) := by omega
      have hp2 : decide ((pos : Int) < a) = false := by simp; omega
      clear hp
      go_wp2
      go_ret
      exact ⟨rfl, rfl⟩
     ·have hp1' : decide ((pos : Int) < (s.size : Int)) = false := by simp; omega
      clear hp
      go_wp2
      go_ret
      exact ⟨rfl, rfl⟩
end Go.Proofs.YthaeomdpaadilaaGreatDoor

set_option linter.unusedVariables false
set_option linter.unusedSimpArgs false
namespace Go.Proofs.YthaeomdpaadilaaGreatDoor
open Go.RowKit
open Go.Lib hiding intOf
attribute [local go_sem ↓] Go.wp_at_zero Go.wp_at_succ
theorem ahead_atS (l : List UInt8) (k : Nat) (b : UInt8) (hk : k ≤ (aheadL l).length) (hb : l[k]? = some b) : (b = 35 ∧ k = (aheadL l).length) ∨ (b ≠ 35 ∧ k + 1 ≤ (aheadL l).length) := by
 rcases ahead_cases l with ⟨hn, ha⟩ | ⟨rest, ha, hn⟩
 ·right
  rw [ha] at hk ⊢
  have hlt := (List.getElem?_eq_some_iff.1 hb).1
  exact ⟨fun h => hn (h ▸ List.mem_of_getElem? hb), hlt⟩
 ·by_cases hlt : k < (aheadL l).length
  ·right
   have h1 := hb
   rw [ha, List.getElem?_append_left hlt] at h1
   exact ⟨fun h => hn (h ▸ List.mem_of_getElem? h1), hlt⟩
  ·left
   have hke : k = (aheadL l).length := by omega
   have h1 := hb
   rw [ha, List.getElem?_append_right (by omega), hke, Nat.sub_self] at h1
   exact ⟨(Option.some.inj h1).symm, hke⟩
set_option maxHeartbeats 2000000 in
theorem rahead_any (s : ByteArray) (w : World) (hs : s.size ≤ 65537) :
    Calls Tryz.prog 103 #[.string s] w fun e w' => e = .returned (.string (s.extract 0 (aheadL (by_ s)).length)) ∧ w = w' := by
  have HA := Lib.hid (fun k b hk hb => ahead_atS (by_ s) k b hk hb)
  have hal := ahead_len (by_ s)
  rw [by_length] at hal
  have HE : Hid ((aheadL (by_ s)).length = s.size → s.extract 0 (aheadL (by_ s)).length = s) := Lib.hid (fun h => by
    apply by_inj
    rw [by_extract, h, List.drop_zero, List.take_of_length_le (by rw [by_length]; exact Nat.le_refl _)])
  obtain ⟨L, hL⟩ : ∃ L, L = (aheadL (by_ s)).length := ⟨_, rfl⟩
  rw [← hL] at HE hal ⊢
  have HL := Lib.hid hL
  clear hL
  go_enter Tryz.func103, Tryz.ntmps103
  go_wp2
  go_loop [3] (fun v => ∃ k : Nat, v = .int .i64 k ∧ k ≤ L) (fun v => s.size - (intOf v).toNat)
  case atStart => exact ⟨0, rfl, by omega⟩
  case round =>
    obtain ⟨k, rfl, hk⟩ := hrel
    by_cases hlt : k < s.size
    · have h01 : (k : Int) < (s.size : Int) := by omega
      have hk0 : (0 : Int) ≤ (k : Int) := Int.natCast_nonneg _
      have hb : (by_ s)[k]? = some (s[k]'hlt) := by
        have hl : k < (by_ s).length := by rw [by_length]; exact hlt
        rw [List.getElem?_eq_getElem hl]
        rfl
      have hwk : IntKind.i64.wrap ((k : Int) + 1) = (k : Int) + 1 := IntWalk.i64_in _ (by omega)
      rcases HA.out k (s[k]'hlt) (by rw [← HL.out]; exact hk) hb with ⟨h1, h2⟩ | ⟨h1, h2⟩
      · have hc : (((s[k]'hlt).toNat : Int) == 35) = true := by rw [h1]; rfl
        rw [← HL.out] at h2
        subst h2
        have hks : (k : Int) ≤ (s.size : Int) := by omega
        clear h1 hb
        go_wp2
        go_ret
        exact ⟨rfl, rfl⟩
      · have hc : (((s[k]'hlt).toNat : Int) == 35) = false := by
          rw [beq_eq_false_iff_ne]
          intro h
          exact h1 (UInt8.toNat_inj.1 (by have : (s[k]'hlt).toNat = 35 := by omega
                                          exact this))
        rw [← HL.out] at h2
        clear h1 hb
        go_wp2
        go_round
        case rel => exact ⟨k + 1, by go_num, h2⟩
        case measure => simp [intOf]; omega
    · have h01 : decide ((k : Int) < (s.size : Int)) = false := decide_eq_false (by omega)
      have hke : L = s.size := by omega
      have HKE := Lib.hid (HE.out hke)
      clear hke
      go_wp2
      go_ret
      exact ⟨by rw [HKE.out]; rfl, rfl⟩
end Go.Proofs.YthaeomdpaadilaaGreatDoor
