/- The law LogPrints: its walk. -/
import Derived.Test.YtbenjknaklafmaaDoorOwn
import Derived.Test.YtbenjknaklafmaaDoorTextN
import Derived.Test.YtbenjknaklafmaaDoorBase
import Derived.OwnWalk
import Derived.Test.YtbenjknaklafmaaDoorLineIt
import Derived.Test.YtbenjknaklafmaaDoorNameI
import Derived.Deep.QuietTactic
import Derived.BigQuiet
import Derived.Test.YtbenjknaklafmaaDoorDigitH
import Derived.Test.YtbenjknaklafmaaDoorValue
import Derived.Test.YtbenjknaklafmaaDoorEvD
import Derived.Test.YtbenjknaklafmaaDoorTimed
import Derived.Deep.CutBlock
import Derived.Deep.DeepCutAuto
import Derived.Test.YtbenjknaklafmaaDoorLogQ
import Derived.Test.YtbenjknaklafmaaDoorLogS
import Derived.Test.YtbenjknaklafmaaDoorLogF
namespace Go.Proofs.YtbenjknaklafmaaDoor
open Go.RowKit

theorem info_int : (Tryd.prog.info? 3).map (fun i => (i.zero, i.size, i.bytes)) = some (some (.int .i64 0), 1, 8) := by kernel_rfl

end Go.Proofs.YtbenjknaklafmaaDoor

set_option linter.unusedVariables false
set_option linter.unusedSimpArgs false
namespace Go.Proofs.YtbenjknaklafmaaDoor
open Go.RowKit
open Go.Lib hiding intOf
attribute [local go_sem ↓] Go.wp_at_zero Go.wp_at_succ

def dnAt (s : ByteArray) (pos : Nat) : Nat × Nat := decodeN (s.size - pos) ((by_ s).getD pos 0).toNat ((by_ s).getD (pos + 1) 0).toNat ((by_ s).getD (pos + 2) 0).toNat ((by_ s).getD (pos + 3) 0).toNat
theorem dn_of_sz0 {n b0 b1 b2 b3 : Nat} (h : szOf n b0 b1 b2 b3 = 0) : decodeN n b0 b1 b2 b3 = (65533, 1) := by
  unfold szOf at h
  split at h
  · assumption
  · rcases decodeN_shape n b0 b1 b2 b3 with ⟨c, e⟩ | ⟨c1, c2, c3, cv, e⟩ | ⟨c1, c2, c3, c4, cv, cs, e⟩ | ⟨c1, c2, c3, c4, c5, cv, cw, e⟩ | e <;> rw [e] at h <;> first | (simp at h; done) | exact e
theorem dn_two {n b0 b1 b2 b3 : Nat} (h0 : 194 ≤ b0) (h1 : b0 ≤ 223) (h : 2 ≤ n) (hl : 128 ≤ b1) (hu : b1 ≤ 191) : decodeN n b0 b1 b2 b3 = ((b0 - 192) * 64 + (b1 - 128), 2) := by
  have a1 : b0 % 32 = b0 - 192 := by omega
  have a2 : b1 % 64 = b1 - 128 := by omega
  unfold decodeN
  rw [if_neg (by omega), if_pos ⟨by omega, by omega, by omega⟩, if_pos (by omega), a1, a2]
theorem dn_three {n b0 b1 b2 b3 : Nat} (h0 : 224 ≤ b0) (h1 : b0 ≤ 239) (h : 3 ≤ n) (hl : 128 ≤ b1) (hu : b1 ≤ 191) (hl2 : 128 ≤ b2) (hu2 : b2 ≤ 191)
    (hv : 2048 ≤ (b0 - 224) * 4096 + (b1 - 128) * 64 + (b2 - 128)) (hs : (b0 - 224) * 4096 + (b1 - 128) * 64 + (b2 - 128) < 55296 ∨ 57343 < (b0 - 224) * 4096 + (b1 - 128) * 64 + (b2 - 128)) : decodeN n b0 b1 b2 b3 = ((b0 - 224) * 4096 + (b1 - 128) * 64 + (b2 - 128), 3) := by
  have a1 : b0 % 16 = b0 - 224 := by omega
  have a2 : b1 % 64 = b1 - 128 := by omega
  have a3 : b2 % 64 = b2 - 128 := by omega
  unfold decodeN
  rw [if_neg (by omega), if_neg (by omega), if_pos ⟨by omega, ⟨by omega, by omega⟩, by omega, by omega⟩, a1, a2, a3, if_pos ⟨by omega, by omega⟩]
theorem dn_four {n b0 b1 b2 b3 : Nat} (h0 : 240 ≤ b0) (h1 : b0 ≤ 244) (h : 4 ≤ n) (hl : 128 ≤ b1) (hu : b1 ≤ 191) (hl2 : 128 ≤ b2) (hu2 : b2 ≤ 191) (hl3 : 128 ≤ b3) (hu3 : b3 ≤ 191)
    (hv : 65536 ≤ (b0 - 240) * 262144 + (b1 - 128) * 4096 + (b2 - 128) * 64 + (b3 - 128)) (hs : (b0 - 240) * 262144 + (b1 - 128) * 4096 + (b2 - 128) * 64 + (b3 - 128) ≤ 1114111) : decodeN n b0 b1 b2 b3 = ((b0 - 240) * 262144 + (b1 - 128) * 4096 + (b2 - 128) * 64 + (b3 - 128), 4) := by
  have a1 : b0 % 8 = b0 - 240 := by omega
  have a2 : b1 % 64 = b1 - 128 := by omega
  have a3 : b2 % 64 = b2 - 128 := by omega
  have a4 : b3 % 64 = b3 - 128 := by omega
  unfold decodeN
  rw [if_neg (by omega), if_neg (by omega), if_neg (by omega), if_pos ⟨by omega, ⟨by omega, by omega⟩, ⟨by omega, by omega⟩, by omega, by omega⟩, a1, a2, a3, a4, if_pos ⟨by omega, by omega⟩]

set_option maxHeartbeats 2000000 in
theorem rone_ascii (s : ByteArray) (pos : Nat) (w : World) (h : pos < s.size) (hb : ((by_ s).getD pos 0).toNat < 128) :
    Calls Tryd.prog 71 #[.string s, .int .i64 (pos : Int)] w fun e w' => e = .returned (.tuple #[.int .i64 1, .int .i64 (((by_ s).getD pos 0).toNat : Int)]) ∧ w = w' := by
  rw [← byte_at s pos h] at hb ⊢
  have hp0 : (0 : Int) ≤ (pos : Int) := Int.natCast_nonneg _
  have hp1 : (pos : Int) < (s.size : Int) := by omega
  have hb1 : (s[pos].toNat : Int) < 128 := by omega
  go_enter Tryd.func71, Tryd.ntmps71
  go_wp2
  go_ret2
  exact ⟨rfl, rfl⟩

set_option maxHeartbeats 2000000 in
theorem rone_none (s : ByteArray) (pos : Nat) (w : World) (h : pos < s.size) (h0 : 128 ≤ ((by_ s).getD pos 0).toNat) (hb : ((by_ s).getD pos 0).toNat < 194 ∨ 244 < ((by_ s).getD pos 0).toNat) :
    Calls Tryd.prog 71 #[.string s, .int .i64 (pos : Int)] w fun e w' => e = .returned (.tuple #[.int .i64 1, .int .i64 65533]) ∧ w = w' := by
  rw [← byte_at s pos h] at hb h0
  have hlt := UInt8.toNat_lt s[pos]
  have hp0 : (0 : Int) ≤ (pos : Int) := Int.natCast_nonneg _
  have hp1 : (pos : Int) < (s.size : Int) := by omega
  generalize hx : s[pos].toNat = x at *
  have hb1 : decide ((x : Int) < 128) = false := by simp; omega
  rcases hb with hb | hb
  · have a1 : decide (194 ≤ (x : Int)) = false := by simp; omega
    have a2 : decide (224 ≤ (x : Int)) = false := by simp; omega
    have a3 : decide (240 ≤ (x : Int)) = false := by simp; omega
    go_enter Tryd.func71, Tryd.ntmps71
    go_wp2
    go_ret2
    exact ⟨rfl, rfl⟩
  · have a1 : 194 ≤ (x : Int) := by omega
    have a2 : 224 ≤ (x : Int) := by omega
    have a3 : 240 ≤ (x : Int) := by omega
    have a4 : decide ((x : Int) ≤ 223) = false := by simp; omega
    have a5 : decide ((x : Int) ≤ 239) = false := by simp; omega
    have a6 : decide ((x : Int) ≤ 244) = false := by simp; omega
    go_enter Tryd.func71, Tryd.ntmps71
    go_wp2
    go_ret2
    exact ⟨rfl, rfl⟩

set_option maxRecDepth 100000 in
set_option maxHeartbeats 4000000 in
theorem rone_two (s : ByteArray) (pos : Nat) (w : World) (h : pos < s.size) (hs : s.size ≤ 65537) (h0 : 194 ≤ ((by_ s).getD pos 0).toNat) (h1 : ((by_ s).getD pos 0).toNat ≤ 223) :
    Calls Tryd.prog 71 #[.string s, .int .i64 (pos : Int)] w fun e w' => e = .returned (.tuple #[.int .i64 ((dnAt s pos).2 : Nat), .int .i64 ((dnAt s pos).1 : Nat)]) ∧ w = w' := by
  have hp0 : (0 : Int) ≤ (pos : Int) := Int.natCast_nonneg _
  have hp1 : (pos : Int) < (s.size : Int) := by omega
  have hx := byte_at s pos h
  have hz : dnAt s pos = decodeN (s.size - pos) ((by_ s).getD pos 0).toNat ((by_ s).getD (pos + 1) 0).toNat ((by_ s).getD (pos + 2) 0).toNat ((by_ s).getD (pos + 3) 0).toNat := rfl
  have hl1 := byte_lt s (pos + 1)
  have hl2 := byte_lt s (pos + 2)
  have hl3 := byte_lt s (pos + 3)
  have hx1 : (hh : pos + 1 < s.size) → s[pos + 1].toNat = ((by_ s).getD (pos + 1) 0).toNat := fun hh => byte_at s (pos + 1) hh
  generalize ((by_ s).getD pos 0).toNat = x at *
  generalize ((by_ s).getD (pos + 1) 0).toNat = y1 at *
  generalize ((by_ s).getD (pos + 2) 0).toNat = y2 at *
  generalize ((by_ s).getD (pos + 3) 0).toNat = y3 at *
  obtain ⟨z, hze⟩ : ∃ z, z = dnAt s pos := ⟨_, rfl⟩
  rw [← hze]
  rw [← hze] at hz
  have HZ := Lib.hid hz
  clear hze hz
  have a0 : decide ((x : Int) < 128) = false := by simp; omega
  have a1 : 194 ≤ (x : Int) := by omega
  have a4 : (x : Int) ≤ 223 := by omega
  have a2 : decide (224 ≤ (x : Int)) = false := by simp; omega
  have a3 : decide (240 ≤ (x : Int)) = false := by simp; omega
  by_cases hsh : pos + 2 ≤ s.size
  · have hpp : decide ((s.size : Int) < (pos : Int) + 2) = false := by simp; omega
    have g1 := hx1 (by omega)
    have q1 : (pos : Int) + 1 < (s.size : Int) := by omega
    clear hx1
    go_enter Tryd.func71, Tryd.ntmps71
    go_wp2
    go_loop [9, 10] (fun v i => ∃ (k V : Nat), i = .int .i64 k ∧ v = .int .i64 V ∧ V < 4194304 ∧ Hid ((k = 1 ∧ V = x - 192) ∨ (k = 2 ∧ 128 ≤ y1 ∧ y1 ≤ 191 ∧ V = 64 * (x - 192) + (y1 - 128)))) (fun _ i => 2 - (intOf i).toNat)
    case atStart => exact ⟨1, x - 192, rfl, by rw [show ((x - 192 : Nat) : Int) = (x : Int) - 192 by omega], by omega, Lib.hid (.inl ⟨rfl, rfl⟩)⟩
    case round =>
      obtain ⟨k, V, rfl, rfl, hVb, HREL⟩ := hrel
      rcases HREL.out with ⟨rfl, hV⟩ | ⟨rfl, c1, d1, hV⟩
      · have HV := Lib.hid hV
        clear hV HREL
        by_cases e1 : y1 < 128
        · have hz0 : z = (65533, 1) := by rw [HZ.out]; exact dn_of_sz0 (sz_two_bad (by omega) (by omega) (by omega) (by omega))
          have HZ0 := Lib.hid hz0
          have f1 : (y1 : Int) < 128 := by omega
          clear hz0 HZ
          go_wp2
          go_ret2
          exact ⟨by rw [HZ0.out]; rfl, rfl⟩
        · by_cases e2 : 191 < y1
          · have hz0 : z = (65533, 1) := by rw [HZ.out]; exact dn_of_sz0 (sz_two_bad (by omega) (by omega) (by omega) (by omega))
            have HZ0 := Lib.hid hz0
            have f1 : decide ((y1 : Int) < 128) = false := by simp; omega
            have f2 : 191 < (y1 : Int) := by omega
            clear hz0 HZ
            go_wp2
            go_ret2
            exact ⟨by rw [HZ0.out]; rfl, rfl⟩
          · have f1 : decide ((y1 : Int) < 128) = false := by simp; omega
            have f2 : decide (191 < (y1 : Int)) = false := by simp; omega
            have HR2 : Hid (128 ≤ y1 ∧ y1 ≤ 191 ∧ 64 * V + (y1 - 128) = 64 * (x - 192) + (y1 - 128)) := Lib.hid (by have := HV.out; omega)
            have hvb : V ≤ 31 := by have := HV.out; omega
            go_wp2
            go_round
            case rel => exact ⟨2, 64 * V + (y1 - 128), rfl, by congr 1; omega, by omega, Lib.hid (.inr (⟨rfl, HR2.out⟩))⟩
            case measure => simp [intOf]
      · have HV := Lib.hid hV
        clear hV HREL
        have hz0 : z = (V, 2) := by rw [HZ.out]; exact (dn_two (by omega) (by omega) (by omega) (by omega) (by omega)).trans (Prod.ext (by have := HV.out; show (_ : Nat) = V; omega) rfl)
        have HZ0 := Lib.hid hz0
        have f1 : decide ((V : Int) < 128) = false := by have := HV.out; simp; omega
        have f2 : decide (1114111 < (V : Int)) = false := by have := HV.out; simp; omega
        have f3 : decide (55296 ≤ (V : Int)) = false := by have := HV.out; simp; omega
        clear hz0 HZ
        go_wp2
        go_ret2
        exact ⟨by rw [HZ0.out]; rfl, rfl⟩
  · have hpp : (s.size : Int) < (pos : Int) + 2 := by omega
    have hz0 : z = (65533, 1) := by rw [HZ.out]; exact dn_of_sz0 (sz_two_bad (by omega) (by omega) (by omega) (by omega))
    have HZ0 := Lib.hid hz0
    clear hz0 HZ hx1
    go_enter Tryd.func71, Tryd.ntmps71
    go_wp2
    go_ret2
    exact ⟨by rw [HZ0.out]; rfl, rfl⟩

set_option maxRecDepth 100000 in
set_option maxHeartbeats 4000000 in
theorem rone_three (s : ByteArray) (pos : Nat) (w : World) (h : pos < s.size) (hs : s.size ≤ 65537) (h0 : 224 ≤ ((by_ s).getD pos 0).toNat) (h1 : ((by_ s).getD pos 0).toNat ≤ 239) :
    Calls Tryd.prog 71 #[.string s, .int .i64 (pos : Int)] w fun e w' => e = .returned (.tuple #[.int .i64 ((dnAt s pos).2 : Nat), .int .i64 ((dnAt s pos).1 : Nat)]) ∧ w = w' := by
  have hp0 : (0 : Int) ≤ (pos : Int) := Int.natCast_nonneg _
  have hp1 : (pos : Int) < (s.size : Int) := by omega
  have hx := byte_at s pos h
  have hz : dnAt s pos = decodeN (s.size - pos) ((by_ s).getD pos 0).toNat ((by_ s).getD (pos + 1) 0).toNat ((by_ s).getD (pos + 2) 0).toNat ((by_ s).getD (pos + 3) 0).toNat := rfl
  have hl1 := byte_lt s (pos + 1)
  have hl2 := byte_lt s (pos + 2)
  have hl3 := byte_lt s (pos + 3)
  have hx1 : (hh : pos + 1 < s.size) → s[pos + 1].toNat = ((by_ s).getD (pos + 1) 0).toNat := fun hh => byte_at s (pos + 1) hh
  have hx2 : (hh : pos + 2 < s.size) → s[pos + 2].toNat = ((by_ s).getD (pos + 2) 0).toNat := fun hh => byte_at s (pos + 2) hh
  generalize ((by_ s).getD pos 0).toNat = x at *
  generalize ((by_ s).getD (pos + 1) 0).toNat = y1 at *
  generalize ((by_ s).getD (pos + 2) 0).toNat = y2 at *
  generalize ((by_ s).getD (pos + 3) 0).toNat = y3 at *
  obtain ⟨z, hze⟩ : ∃ z, z = dnAt s pos := ⟨_, rfl⟩
  rw [← hze]
  rw [← hze] at hz
  have HZ := Lib.hid hz
  clear hze hz
  have a0 : decide ((x : Int) < 128) = false := by simp; omega
  have a1 : 194 ≤ (x : Int) := by omega
  have a4 : decide ((x : Int) ≤ 223) = false := by simp; omega
  have a2 : 224 ≤ (x : Int) := by omega
  have a5 : (x : Int) ≤ 239 := by omega
  have a3 : decide (240 ≤ (x : Int)) = false := by simp; omega
  by_cases hsh : pos + 3 ≤ s.size
  · have hpp : decide ((s.size : Int) < (pos : Int) + 3) = false := by simp; omega
    have g1 := hx1 (by omega)
    have q1 : (pos : Int) + 1 < (s.size : Int) := by omega
    clear hx1
    have g2 := hx2 (by omega)
    have q2 : (pos : Int) + 2 < (s.size : Int) := by omega
    clear hx2
    go_enter Tryd.func71, Tryd.ntmps71
    go_wp2
    go_loop [9, 10] (fun v i => ∃ (k V : Nat), i = .int .i64 k ∧ v = .int .i64 V ∧ V < 4194304 ∧ Hid ((k = 1 ∧ V = x - 224) ∨ (k = 2 ∧ 128 ≤ y1 ∧ y1 ≤ 191 ∧ V = 64 * (x - 224) + (y1 - 128)) ∨ (k = 3 ∧ 128 ≤ y1 ∧ y1 ≤ 191 ∧ 128 ≤ y2 ∧ y2 ≤ 191 ∧ V = 64 * (64 * (x - 224) + (y1 - 128)) + (y2 - 128)))) (fun _ i => 3 - (intOf i).toNat)
    case atStart => exact ⟨1, x - 224, rfl, by rw [show ((x - 224 : Nat) : Int) = (x : Int) - 224 by omega], by omega, Lib.hid (.inl ⟨rfl, rfl⟩)⟩
    case round =>
      obtain ⟨k, V, rfl, rfl, hVb, HREL⟩ := hrel
      rcases HREL.out with ⟨rfl, hV⟩ | ⟨rfl, c1, d1, hV⟩ | ⟨rfl, c1, d1, c2, d2, hV⟩
      · have HV := Lib.hid hV
        clear hV HREL
        by_cases e1 : y1 < 128
        · have hz0 : z = (65533, 1) := by rw [HZ.out]; exact dn_of_sz0 (sz_three_bad (by omega) (by omega) (by omega) (by omega) (by omega))
          have HZ0 := Lib.hid hz0
          have f1 : (y1 : Int) < 128 := by omega
          clear hz0 HZ
          go_wp2
          go_ret2
          exact ⟨by rw [HZ0.out]; rfl, rfl⟩
        · by_cases e2 : 191 < y1
          · have hz0 : z = (65533, 1) := by rw [HZ.out]; exact dn_of_sz0 (sz_three_bad (by omega) (by omega) (by omega) (by omega) (by omega))
            have HZ0 := Lib.hid hz0
            have f1 : decide ((y1 : Int) < 128) = false := by simp; omega
            have f2 : 191 < (y1 : Int) := by omega
            clear hz0 HZ
            go_wp2
            go_ret2
            exact ⟨by rw [HZ0.out]; rfl, rfl⟩
          · have f1 : decide ((y1 : Int) < 128) = false := by simp; omega
            have f2 : decide (191 < (y1 : Int)) = false := by simp; omega
            have HR2 : Hid (128 ≤ y1 ∧ y1 ≤ 191 ∧ 64 * V + (y1 - 128) = 64 * (x - 224) + (y1 - 128)) := Lib.hid (by have := HV.out; omega)
            have hvb : V ≤ 15 := by have := HV.out; omega
            go_wp2
            go_round
            case rel => exact ⟨2, 64 * V + (y1 - 128), rfl, by congr 1; omega, by omega, Lib.hid (.inr (.inl ⟨rfl, HR2.out⟩))⟩
            case measure => simp [intOf]
      · have HV := Lib.hid hV
        clear hV HREL
        by_cases e1 : y2 < 128
        · have hz0 : z = (65533, 1) := by rw [HZ.out]; exact dn_of_sz0 (sz_three_bad (by omega) (by omega) (by omega) (by omega) (by omega))
          have HZ0 := Lib.hid hz0
          have f1 : (y2 : Int) < 128 := by omega
          clear hz0 HZ
          go_wp2
          go_ret2
          exact ⟨by rw [HZ0.out]; rfl, rfl⟩
        · by_cases e2 : 191 < y2
          · have hz0 : z = (65533, 1) := by rw [HZ.out]; exact dn_of_sz0 (sz_three_bad (by omega) (by omega) (by omega) (by omega) (by omega))
            have HZ0 := Lib.hid hz0
            have f1 : decide ((y2 : Int) < 128) = false := by simp; omega
            have f2 : 191 < (y2 : Int) := by omega
            clear hz0 HZ
            go_wp2
            go_ret2
            exact ⟨by rw [HZ0.out]; rfl, rfl⟩
          · have f1 : decide ((y2 : Int) < 128) = false := by simp; omega
            have f2 : decide (191 < (y2 : Int)) = false := by simp; omega
            have HR2 : Hid (128 ≤ y1 ∧ y1 ≤ 191 ∧ 128 ≤ y2 ∧ y2 ≤ 191 ∧ 64 * V + (y2 - 128) = 64 * (64 * (x - 224) + (y1 - 128)) + (y2 - 128)) := Lib.hid (by have := HV.out; omega)
            have hvb : V ≤ 1023 := by have := HV.out; omega
            go_wp2
            go_round
            case rel => exact ⟨3, 64 * V + (y2 - 128), rfl, by congr 1; omega, by omega, Lib.hid (.inr (.inr (⟨rfl, HR2.out⟩)))⟩
            case measure => simp [intOf]
      · have HV := Lib.hid hV
        clear hV HREL
        by_cases e1 : V < 2048
        · have hz0 : z = (65533, 1) := by rw [HZ.out]; exact dn_of_sz0 (sz_three_bad (by omega) (by omega) (by omega) (by omega) (by have := HV.out; omega))
          have HZ0 := Lib.hid hz0
          have f1 : (V : Int) < 2048 := by omega
          clear hz0 HZ
          go_wp2
          go_ret2
          exact ⟨by rw [HZ0.out]; rfl, rfl⟩
        · have f1 : decide ((V : Int) < 2048) = false := by simp; omega
          by_cases e2 : 1114111 < V
          · have f2 : 1114111 < (V : Int) := by omega
            have hz0 : z = (65533, 1) := by rw [HZ.out]; exact dn_of_sz0 (sz_three_bad (by omega) (by omega) (by omega) (by omega) (by have := HV.out; omega))
            have HZ0 := Lib.hid hz0
            clear hz0 HZ
            go_wp2
            go_ret2
            exact ⟨by rw [HZ0.out]; rfl, rfl⟩
          · have f2 : decide (1114111 < (V : Int)) = false := by simp; omega
            by_cases e3 : 55296 ≤ V
            · have f3 : 55296 ≤ (V : Int) := by omega
              by_cases e4 : V ≤ 57343
              · have f4 : (V : Int) ≤ 57343 := by omega
                have hz0 : z = (65533, 1) := by rw [HZ.out]; exact dn_of_sz0 (sz_three_bad (by omega) (by omega) (by omega) (by omega) (by have := HV.out; omega))
                have HZ0 := Lib.hid hz0
                clear hz0 HZ
                go_wp2
                go_ret2
                exact ⟨by rw [HZ0.out]; rfl, rfl⟩
              · have f4 : decide ((V : Int) ≤ 57343) = false := by simp; omega
                have hz0 : z = (V, 3) := by rw [HZ.out]; exact (dn_three (by omega) (by omega) (by omega) (by omega) (by omega) (by omega) (by omega) (by have := HV.out; omega) (by have := HV.out; omega)).trans (Prod.ext (by have := HV.out; show (_ : Nat) = V; omega) rfl)
                have HZ0 := Lib.hid hz0
                clear hz0 HZ
                go_wp2
                go_ret2
                exact ⟨by rw [HZ0.out]; rfl, rfl⟩
            · have f3 : decide (55296 ≤ (V : Int)) = false := by simp; omega
              have hz0 : z = (V, 3) := by rw [HZ.out]; exact (dn_three (by omega) (by omega) (by omega) (by omega) (by omega) (by omega) (by omega) (by have := HV.out; omega) (by have := HV.out; omega)).trans (Prod.ext (by have := HV.out; show (_ : Nat) = V; omega) rfl)
              have HZ0 := Lib.hid hz0
              clear hz0 HZ
              go_wp2
              go_ret2
              exact ⟨by rw [HZ0.out]; rfl, rfl⟩
  · have hpp : (s.size : Int) < (pos : Int) + 3 := by omega
    have hz0 : z = (65533, 1) := by rw [HZ.out]; exact dn_of_sz0 (sz_three_bad (by omega) (by omega) (by omega) (by omega) (by omega))
    have HZ0 := Lib.hid hz0
    clear hz0 HZ hx1 hx2
    go_enter Tryd.func71, Tryd.ntmps71
    go_wp2
    go_ret2
    exact ⟨by rw [HZ0.out]; rfl, rfl⟩

set_option maxRecDepth 100000 in
set_option maxHeartbeats 4000000 in
theorem rone_four (s : ByteArray) (pos : Nat) (w : World) (h : pos < s.size) (hs : s.size ≤ 65537) (h0 : 240 ≤ ((by_ s).getD pos 0).toNat) (h1 : ((by_ s).getD pos 0).toNat ≤ 244) :
    Calls Tryd.prog 71 #[.string s, .int .i64 (pos : Int)] w fun e w' => e = .returned (.tuple #[.int .i64 ((dnAt s pos).2 : Nat), .int .i64 ((dnAt s pos).1 : Nat)]) ∧ w = w' := by
  have hp0 : (0 : Int) ≤ (pos : Int) := Int.natCast_nonneg _
  have hp1 : (pos : Int) < (s.size : Int) := by omega
  have hx := byte_at s pos h
  have hz : dnAt s pos = decodeN (s.size - pos) ((by_ s).getD pos 0).toNat ((by_ s).getD (pos + 1) 0).toNat ((by_ s).getD (pos + 2) 0).toNat ((by_ s).getD (pos + 3) 0).toNat := rfl
  have hl1 := byte_lt s (pos + 1)
  have hl2 := byte_lt s (pos + 2)
  have hl3 := byte_lt s (pos + 3)
  have hx1 : (hh : pos + 1 < s.size) → s[pos + 1].toNat = ((by_ s).getD (pos + 1) 0).toNat := fun hh => byte_at s (pos + 1) hh
  have hx2 : (hh : pos + 2 < s.size) → s[pos + 2].toNat = ((by_ s).getD (pos + 2) 0).toNat := fun hh => byte_at s (pos + 2) hh
  have hx3 : (hh : pos + 3 < s.size) → s[pos + 3].toNat = ((by_ s).getD (pos + 3) 0).toNat := fun hh => byte_at s (pos + 3) hh
  generalize ((by_ s).getD pos 0).toNat = x at *
  generalize ((by_ s).getD (pos + 1) 0).toNat = y1 at *
  generalize ((by_ s).getD (pos + 2) 0).toNat = y2 at *
  generalize ((by_ s).getD (pos + 3) 0).toNat = y3 at *
  obtain ⟨z, hze⟩ : ∃ z, z = dnAt s pos := ⟨_, rfl⟩
  rw [← hze]
  rw [← hze] at hz
  have HZ := Lib.hid hz
  clear hze hz
  have a0 : decide ((x : Int) < 128) = false := by simp; omega
  have a1 : 194 ≤ (x : Int) := by omega
  have a4 : decide ((x : Int) ≤ 223) = false := by simp; omega
  have a2 : 224 ≤ (x : Int) := by omega
  have a5 : decide ((x : Int) ≤ 239) = false := by simp; omega
  have a3 : 240 ≤ (x : Int) := by omega
  have a6 : (x : Int) ≤ 244 := by omega
  by_cases hsh : pos + 4 ≤ s.size
  · have hpp : decide ((s.size : Int) < (pos : Int) + 4) = false := by simp; omega
    have g1 := hx1 (by omega)
    have q1 : (pos : Int) + 1 < (s.size : Int) := by omega
    clear hx1
    have g2 := hx2 (by omega)
    have q2 : (pos : Int) + 2 < (s.size : Int) := by omega
    clear hx2
    have g3 := hx3 (by omega)
    have q3 : (pos : Int) + 3 < (s.size : Int) := by omega
    clear hx3
    go_enter Tryd.func71, Tryd.ntmps71
    go_wp2
    go_loop [9, 10] (fun v i => ∃ (k V : Nat), i = .int .i64 k ∧ v = .int .i64 V ∧ V < 4194304 ∧ Hid ((k = 1 ∧ V = x - 240) ∨ (k = 2 ∧ 128 ≤ y1 ∧ y1 ≤ 191 ∧ V = 64 * (x - 240) + (y1 - 128)) ∨ (k = 3 ∧ 128 ≤ y1 ∧ y1 ≤ 191 ∧ 128 ≤ y2 ∧ y2 ≤ 191 ∧ V = 64 * (64 * (x - 240) + (y1 - 128)) + (y2 - 128)) ∨ (k = 4 ∧ 128 ≤ y1 ∧ y1 ≤ 191 ∧ 128 ≤ y2 ∧ y2 ≤ 191 ∧ 128 ≤ y3 ∧ y3 ≤ 191 ∧ V = 64 * (64 * (64 * (x - 240) + (y1 - 128)) + (y2 - 128)) + (y3 - 128)))) (fun _ i => 4 - (intOf i).toNat)
    case atStart => exact ⟨1, x - 240, rfl, by rw [show ((x - 240 : Nat) : Int) = (x : Int) - 240 by omega], by omega, Lib.hid (.inl ⟨rfl, rfl⟩)⟩
    case round =>
      obtain ⟨k, V, rfl, rfl, hVb, HREL⟩ := hrel
      rcases HREL.out with ⟨rfl, hV⟩ | ⟨rfl, c1, d1, hV⟩ | ⟨rfl, c1, d1, c2, d2, hV⟩ | ⟨rfl, c1, d1, c2, d2, c3, d3, hV⟩
      · have HV := Lib.hid hV
        clear hV HREL
        by_cases e1 : y1 < 128
        · have hz0 : z = (65533, 1) := by rw [HZ.out]; exact dn_of_sz0 (sz_four_bad (by omega) (by omega) (by omega) (by omega) (by omega) (by omega))
          have HZ0 := Lib.hid hz0
          have f1 : (y1 : Int) < 128 := by omega
          clear hz0 HZ
          go_wp2
          go_ret2
          exact ⟨by rw [HZ0.out]; rfl, rfl⟩
        · by_cases e2 : 191 < y1
          · have hz0 : z = (65533, 1) := by rw [HZ.out]; exact dn_of_sz0 (sz_four_bad (by omega) (by omega) (by omega) (by omega) (by omega) (by omega))
            have HZ0 := Lib.hid hz0
            have f1 : decide ((y1 : Int) < 128) = false := by simp; omega
            have f2 : 191 < (y1 : Int) := by omega
            clear hz0 HZ
            go_wp2
            go_ret2
            exact ⟨by rw [HZ0.out]; rfl, rfl⟩
          · have f1 : decide ((y1 : Int) < 128) = false := by simp; omega
            have f2 : decide (191 < (y1 : Int)) = false := by simp; omega
            have HR2 : Hid (128 ≤ y1 ∧ y1 ≤ 191 ∧ 64 * V + (y1 - 128) = 64 * (x - 240) + (y1 - 128)) := Lib.hid (by have := HV.out; omega)
            have hvb : V ≤ 4 := by have := HV.out; omega
            go_wp2
            go_round
            case rel => exact ⟨2, 64 * V + (y1 - 128), rfl, by congr 1; omega, by omega, Lib.hid (.inr (.inl ⟨rfl, HR2.out⟩))⟩
            case measure => simp [intOf]
      · have HV := Lib.hid hV
        clear hV HREL
        by_cases e1 : y2 < 128
        · have hz0 : z = (65533, 1) := by rw [HZ.out]; exact dn_of_sz0 (sz_four_bad (by omega) (by omega) (by omega) (by omega) (by omega) (by omega))
          have HZ0 := Lib.hid hz0
          have f1 : (y2 : Int) < 128 := by omega
          clear hz0 HZ
          go_wp2
          go_ret2
          exact ⟨by rw [HZ0.out]; rfl, rfl⟩
        · by_cases e2 : 191 < y2
          · have hz0 : z = (65533, 1) := by rw [HZ.out]; exact dn_of_sz0 (sz_four_bad (by omega) (by omega) (by omega) (by omega) (by omega) (by omega))
            have HZ0 := Lib.hid hz0
            have f1 : decide ((y2 : Int) < 128) = false := by simp; omega
            have f2 : 191 < (y2 : Int) := by omega
            clear hz0 HZ
            go_wp2
            go_ret2
            exact ⟨by rw [HZ0.out]; rfl, rfl⟩
          · have f1 : decide ((y2 : Int) < 128) = false := by simp; omega
            have f2 : decide (191 < (y2 : Int)) = false := by simp; omega
            have HR2 : Hid (128 ≤ y1 ∧ y1 ≤ 191 ∧ 128 ≤ y2 ∧ y2 ≤ 191 ∧ 64 * V + (y2 - 128) = 64 * (64 * (x - 240) + (y1 - 128)) + (y2 - 128)) := Lib.hid (by have := HV.out; omega)
            have hvb : V ≤ 319 := by have := HV.out; omega
            go_wp2
            go_round
            case rel => exact ⟨3, 64 * V + (y2 - 128), rfl, by congr 1; omega, by omega, Lib.hid (.inr (.inr (.inl ⟨rfl, HR2.out⟩)))⟩
            case measure => simp [intOf]
      · have HV := Lib.hid hV
        clear hV HREL
        by_cases e1 : y3 < 128
        · have hz0 : z = (65533, 1) := by rw [HZ.out]; exact dn_of_sz0 (sz_four_bad (by omega) (by omega) (by omega) (by omega) (by omega) (by omega))
          have HZ0 := Lib.hid hz0
          have f1 : (y3 : Int) < 128 := by omega
          clear hz0 HZ
          go_wp2
          go_ret2
          exact ⟨by rw [HZ0.out]; rfl, rfl⟩
        · by_cases e2 : 191 < y3
          · have hz0 : z = (65533, 1) := by rw [HZ.out]; exact dn_of_sz0 (sz_four_bad (by omega) (by omega) (by omega) (by omega) (by omega) (by omega))
            have HZ0 := Lib.hid hz0
            have f1 : decide ((y3 : Int) < 128) = false := by simp; omega
            have f2 : 191 < (y3 : Int) := by omega
            clear hz0 HZ
            go_wp2
            go_ret2
            exact ⟨by rw [HZ0.out]; rfl, rfl⟩
          · have f1 : decide ((y3 : Int) < 128) = false := by simp; omega
            have f2 : decide (191 < (y3 : Int)) = false := by simp; omega
            have HR2 : Hid (128 ≤ y1 ∧ y1 ≤ 191 ∧ 128 ≤ y2 ∧ y2 ≤ 191 ∧ 128 ≤ y3 ∧ y3 ≤ 191 ∧ 64 * V + (y3 - 128) = 64 * (64 * (64 * (x - 240) + (y1 - 128)) + (y2 - 128)) + (y3 - 128)) := Lib.hid (by have := HV.out; omega)
            have hvb : V ≤ 20479 := by have := HV.out; omega
            go_wp2
            go_round
            case rel => exact ⟨4, 64 * V + (y3 - 128), rfl, by congr 1; omega, by omega, Lib.hid (.inr (.inr (.inr (⟨rfl, HR2.out⟩))))⟩
            case measure => simp [intOf]
      · have HV := Lib.hid hV
        clear hV HREL
        by_cases e1 : V < 65536
        · have hz0 : z = (65533, 1) := by rw [HZ.out]; exact dn_of_sz0 (sz_four_bad (by omega) (by omega) (by omega) (by omega) (by omega) (by have := HV.out; omega))
          have HZ0 := Lib.hid hz0
          have f1 : (V : Int) < 65536 := by omega
          clear hz0 HZ
          go_wp2
          go_ret2
          exact ⟨by rw [HZ0.out]; rfl, rfl⟩
        · have f1 : decide ((V : Int) < 65536) = false := by simp; omega
          by_cases e2 : 1114111 < V
          · have f2 : 1114111 < (V : Int) := by omega
            have hz0 : z = (65533, 1) := by rw [HZ.out]; exact dn_of_sz0 (sz_four_bad (by omega) (by omega) (by omega) (by omega) (by omega) (by have := HV.out; omega))
            have HZ0 := Lib.hid hz0
            clear hz0 HZ
            go_wp2
            go_ret2
            exact ⟨by rw [HZ0.out]; rfl, rfl⟩
          · have f2 : decide (1114111 < (V : Int)) = false := by simp; omega
            by_cases e3 : 55296 ≤ V
            · have f3 : 55296 ≤ (V : Int) := by omega
              by_cases e4 : V ≤ 57343
              · have f4 : (V : Int) ≤ 57343 := by omega
                have hz0 : z = (65533, 1) := by rw [HZ.out]; exact dn_of_sz0 (sz_four_bad (by omega) (by omega) (by omega) (by omega) (by omega) (by have := HV.out; omega))
                have HZ0 := Lib.hid hz0
                clear hz0 HZ
                go_wp2
                go_ret2
                exact ⟨by rw [HZ0.out]; rfl, rfl⟩
              · have f4 : decide ((V : Int) ≤ 57343) = false := by simp; omega
                have hz0 : z = (V, 4) := by rw [HZ.out]; exact (dn_four (by omega) (by omega) (by omega) (by omega) (by omega) (by omega) (by omega) (by omega) (by omega) (by have := HV.out; omega) (by have := HV.out; omega)).trans (Prod.ext (by have := HV.out; show (_ : Nat) = V; omega) rfl)
                have HZ0 := Lib.hid hz0
                clear hz0 HZ
                go_wp2
                go_ret2
                exact ⟨by rw [HZ0.out]; rfl, rfl⟩
            · have f3 : decide (55296 ≤ (V : Int)) = false := by simp; omega
              have hz0 : z = (V, 4) := by rw [HZ.out]; exact (dn_four (by omega) (by omega) (by omega) (by omega) (by omega) (by omega) (by omega) (by omega) (by omega) (by have := HV.out; omega) (by have := HV.out; omega)).trans (Prod.ext (by have := HV.out; show (_ : Nat) = V; omega) rfl)
              have HZ0 := Lib.hid hz0
              clear hz0 HZ
              go_wp2
              go_ret2
              exact ⟨by rw [HZ0.out]; rfl, rfl⟩
  · have hpp : (s.size : Int) < (pos : Int) + 4 := by omega
    have hz0 : z = (65533, 1) := by rw [HZ.out]; exact dn_of_sz0 (sz_four_bad (by omega) (by omega) (by omega) (by omega) (by omega) (by omega))
    have HZ0 := Lib.hid hz0
    clear hz0 HZ hx1 hx2 hx3
    go_enter Tryd.func71, Tryd.ntmps71
    go_wp2
    go_ret2
    exact ⟨by rw [HZ0.out]; rfl, rfl⟩

theorem rone_any (s : ByteArray) (pos : Nat) (w : World) (h : pos < s.size) (hs : s.size ≤ 65537) :
    Calls Tryd.prog 71 #[.string s, .int .i64 (pos : Int)] w fun e w' => e = .returned (.tuple #[.int .i64 ((dnAt s pos).2 : Nat), .int .i64 ((dnAt s pos).1 : Nat)]) ∧ w = w' := by
  have hl := byte_lt s pos
  by_cases h0 : ((by_ s).getD pos 0).toNat < 128
  · have e : dnAt s pos = (((by_ s).getD pos 0).toNat, 1) := dec_small h0
    rw [e]
    exact rone_ascii s pos w h h0
  · by_cases h1 : ((by_ s).getD pos 0).toNat < 194 ∨ 244 < ((by_ s).getD pos 0).toNat
    · have e : dnAt s pos = (65533, 1) := decodeN_bad _ _ _ _ _ (by omega)
      rw [e]
      exact rone_none s pos w h (by omega) h1
    · by_cases h2 : ((by_ s).getD pos 0).toNat ≤ 223
      · exact rone_two s pos w h hs (by omega) h2
      · by_cases h3 : ((by_ s).getD pos 0).toNat ≤ 239
        · exact rone_three s pos w h hs (by omega) h3
        · exact rone_four s pos w h hs (by omega) (by omega)
theorem dn_decode (s : ByteArray) (pos : Nat) : dnAt s pos = Utf8.decode s pos := by
  rw [decode_N]
  unfold dnAt
  rw [show s.data.toList.length = s.size from by_length s]
  rfl

end Go.Proofs.YtbenjknaklafmaaDoor

set_option linter.unusedVariables false
set_option linter.unusedSimpArgs false
namespace Go.Proofs.YtbenjknaklafmaaDoor
open Go.RowKit
open Go.Lib hiding intOf
attribute [local go_sem ↓] Go.wp_at_zero Go.wp_at_succ

def i64s (rs : List Nat) : List Value := rs.map fun (r : Nat) => Value.int .i64 (r : Int)

set_option maxHeartbeats 4000000 in
theorem rrunes02_any (s : ByteArray) (w : World) (hs : s.size ≤ 65537) :
    Calls Tryd.prog 60 #[.string s] w fun e w' => Only [] w w' ∧ ∃ V, e = .returned V ∧ w'.ownsRow w.heap.size 3 1 V (runesL (by_ s)).length (i64s (runesL (by_ s))) := by
  obtain ⟨i0, hi, hz0, hz1, hz2⟩ := info_parts info_int
  have HON := Lib.hid (fun pos w' (h : pos < s.size) => rone_any s pos w' h hs)
  go_enter Tryd.func60, Tryd.ntmps60
  go_wp2_with fail
  go_loopw [3, 4] (fun V iv wr => ∃ (pos n : Nat) (pre : List Nat), iv = .int .i64 pos ∧ pos ≤ s.size ∧ n ≤ pos ∧ Hid (pre.length = n) ∧ Hid (wr.ownsRow w.heap.size 3 1 V n (i64s pre)) ∧ Hid (runesL (by_ s) = pre ++ runesL ((by_ s).drop pos)) ∧ Hid (Only [] w wr)) (fun _ iv _ => s.size - (intOf iv).toNat)
  case atStart => exact ⟨0, 0, [], rfl, by omega, by omega, Lib.hid rfl, Lib.hid (World.ownsRow_lit w #[] 0 (Nat.le_refl _) (by unfold maxLen; omega) rfl), Lib.hid rfl, Lib.hid ((Only.refl [] w).alloc _)⟩
  case round =>
    obtain ⟨pos, n, pre, rfl, hpos, hn, HN, HOWN, HRU, HO⟩ := hrel
    have hO2s := HO.out.size
    by_cases hp : pos < s.size
    · have hp1 : (pos : Int) < (s.size : Int) := by omega
      have hwd := width_le s pos hp
      have HST := Lib.hid (runes_dec s pos hp)
      have HON1 := Lib.hid (HON.out pos wr hp)
      rw [dn_decode] at HON1
      obtain ⟨⟨r, wd⟩, hdec⟩ : ∃ d, d = Utf8.decode s pos := ⟨_, rfl⟩
      rw [← hdec] at hwd HST HON1
      dsimp only at hwd HON1
      have HRU2 : Hid (runesL (by_ s) = (pre ++ [r]) ++ runesL ((by_ s).drop (pos + wd))) := Lib.hid (by rw [HRU.out, HST.out]; simp)
      have HN2 : Hid ((pre ++ [r]).length = n + 1) := Lib.hid (by rw [List.length_append, HN.out]; rfl)
      have hlen : (i64s pre).length = n := by rw [i64s, List.length_map, HN.out]
      have hwd1 := hwd.1
      have hwd2 := hwd.2
      have hwk : IntKind.i64.wrap ((pos : Int) + (wd : Int)) = (pos : Int) + (wd : Int) := IntWalk.i64_in _ (by omega)
      clear hdec hwd HRU HST
      go_wp2_with fail
      refine (HON1.out).mono ?_
      rintro e w' ⟨rfl, rfl⟩
      go_wp2_with (at_builtin; refine wpList_append_row _ rfl (.tmp 18) (.tmp 20) _ rfl w.heap.size 3 i0 _ 1 8 Tryd.underlying96 hi hz0 hz1 hz2 rfl (by omega) _ _ (i64s pre) rfl (own_only HOWN.out ((Only.refl [] _).alloc _) (by simp)) (wr.heap.size + 1) (some ⟨wr.heap.size, 0, none⟩) 1 1 [.int .i64 (r : Int)] (by rfl) (by rfl) (row_lit wr 3 #[.int .i64 (r : Int)]) (by intro u hu; simp at hu; subst hu; rfl) (by unfold maxLen; omega) (by omega) (by simp; omega) ?_; intro v3 w4 hown3 hgrow hat)
      have REL : w4.ownsRow w.heap.size 3 1 v3 (n + 1) (i64s (pre ++ [r])) ∧ Only [] w w4 := by
        refine ⟨?_, (HO.out.alloc _).step (only_grown hgrow) (own_new HOWN.out)⟩
        have : i64s (pre ++ [r]) = i64s pre ++ [.int .i64 (r : Int)] := by simp [i64s]
        rw [this]
        exact hown3
      have HREL := Lib.hid REL
      clear REL hown3 hgrow hat hlen
      go_wp2
      go_roundw
      case rel => exact ⟨pos + wd, n + 1, pre ++ [r], by go_num, by omega, by omega, HN2, Lib.hid HREL.out.1, HRU2, Lib.hid HREL.out.2⟩
      case measure => simp [intOf]; omega
    · have hp0 : decide ((pos : Int) < (s.size : Int)) = false := decide_eq_false (by omega)
      have hl : (by_ s).drop pos = [] := List.drop_of_length_le (by rw [by_length]; omega)
      have hall : runesL (by_ s) = pre := by
        have := HRU.out
        rw [hl, runes_nil, List.append_nil] at this
        exact this
      have HAL := Lib.hid hall
      clear hl hall
      go_wp2
      go_ret
      exact ⟨HO.out, _, rfl, by rw [HAL.out, HN.out]; exact HOWN.out⟩

theorem bad_width {l : List UInt8} {k : Nat} (hne : l ≠ []) (h : decodeL l = (65533, k)) : k = 1 ∨ k = 3 := by
  rw [decodeL_N] at h
  have k0 := (l.getD 0 0).toNat_lt
  have k1 := (l.getD 1 0).toNat_lt
  rcases decodeN_shape l.length (l.getD 0 0).toNat (l.getD 1 0).toNat (l.getD 2 0).toNat (l.getD 3 0).toNat with ⟨c, e⟩ | ⟨c1, c2, c3, cv, e⟩ | ⟨c1, c2, c3, c4, cv, cs, e⟩ | ⟨c1, c2, c3, c4, c5, cv, cw, e⟩ | e
  all_goals (rw [e] at h; have h1 := congrArg Prod.fst h; have h2 := congrArg Prod.snd h; simp only at h1 h2; omega)

set_option maxHeartbeats 2000000 in
theorem rclean_any (s : ByteArray) (w : World) (hs : s.size ≤ 65537) :
    Calls Tryd.prog 62 #[.string s] w fun e w' => e = .returned (.bool (validD (by_ s))) ∧ w = w' := by
  have HON := Lib.hid (fun pos w' (h : pos < s.size) => rone_any s pos w' h hs)
  obtain ⟨v, hv⟩ : ∃ v, v = validD (by_ s) := ⟨_, rfl⟩
  rw [← hv]
  have HV := Lib.hid hv
  clear hv
  go_enter Tryd.func62, Tryd.ntmps62
  go_wp2
  go_loopw [3] (fun iv wr => ∃ (pos : Nat), iv = .int .i64 pos ∧ pos ≤ s.size ∧ Hid (v = validD ((by_ s).drop pos)) ∧ wr = w) (fun iv _ => s.size - (intOf iv).toNat)
  case atStart => exact ⟨0, rfl, by omega, Lib.hid (by rw [HV.out]; rfl), by first | rfl | trivial⟩
  case round =>
    obtain ⟨pos, rfl, hpos, HVD, rfl⟩ := hrel
    by_cases hp : pos < s.size
    · have hp1 : (pos : Int) < (s.size : Int) := by omega
      have hwd := width_le s pos hp
      have HON1 := Lib.hid (HON.out pos wr hp)
      rw [dn_decode] at HON1
      have hne : (by_ s).drop pos ≠ [] := by
        intro e
        have := congrArg List.length e
        rw [List.length_drop, by_length] at this
        simp at this
        omega
      have hst := validD_step _ hne
      have hbw := fun k => bad_width (k := k) hne
      rw [decL_at] at hst hbw
      obtain ⟨⟨r, wd⟩, hdec⟩ : ∃ d, d = Utf8.decode s pos := ⟨_, rfl⟩
      rw [← hdec] at hwd HON1 hst hbw
      dsimp only at hwd HON1 hst
      have hwd1 := hwd.1
      have hwd2 := hwd.2
      have hwk : IntKind.i64.wrap ((pos : Int) + (wd : Int)) = (pos : Int) + (wd : Int) := IntWalk.i64_in _ (by omega)
      by_cases hr : r = 65533
      · subst hr
        rcases hbw wd rfl with rfl | rfl
        · have hf : v = false := by rw [HVD.out, hst, if_pos ⟨rfl, rfl⟩]
          subst hf
          clear hdec hwd hst hbw HVD hne HV
          go_wp2_with fail
          refine (HON1.out).mono ?_
          rintro e w' ⟨rfl, rfl⟩
          go_wp2
          go_ret
          exact ⟨rfl, rfl⟩
        · have HV2 : Hid (v = validD ((by_ s).drop (pos + 3))) := Lib.hid (by rw [HVD.out, hst, if_neg (by simp), List.drop_drop])
          clear hdec hwd hst hbw HVD hne
          go_wp2_with fail
          refine (HON1.out).mono ?_
          rintro e w' ⟨rfl, rfl⟩
          go_wp2
          go_roundw
          case rel => exact ⟨pos + 3, by go_num, by omega, HV2, by first | rfl | trivial⟩
          case measure => simp [intOf]; omega
      · have hr1 : ((r : Int) == 65533) = false := by simp; omega
        have HV2 : Hid (v = validD ((by_ s).drop (pos + wd))) := Lib.hid (by rw [HVD.out, hst, if_neg (fun h => hr h.1), List.drop_drop])
        clear hdec hwd hst hbw HVD hne hr
        go_wp2_with fail
        refine (HON1.out).mono ?_
        rintro e w' ⟨rfl, rfl⟩
        go_wp2
        go_roundw
        case rel => exact ⟨pos + wd, by go_num, by omega, HV2, by first | rfl | trivial⟩
        case measure => simp [intOf]; omega
    · have hp0 : decide ((pos : Int) < (s.size : Int)) = false := decide_eq_false (by omega)
      have hl : (by_ s).drop pos = [] := List.drop_of_length_le (by rw [by_length]; omega)
      have hf : v = true := by rw [HVD.out, hl]; rfl
      subst hf
      clear hl HVD HV
      go_wp2
      go_ret
      exact ⟨rfl, rfl⟩

theorem i64s_at (rs : List Nat) (k r : Nat) (h : rs[k]? = some r) : (i64s rs)[k]? = some (.int .i64 (r : Int)) := by
  rw [i64s, List.getElem?_map, h]
  rfl
theorem i64s_len (rs : List Nat) : (i64s rs).length = rs.length := by rw [i64s, List.length_map]

end Go.Proofs.YtbenjknaklafmaaDoor

set_option linter.unusedVariables false
set_option linter.unusedSimpArgs false
namespace Go.Proofs.YtbenjknaklafmaaDoor
open Go.RowKit
open Go.Lib hiding intOf
attribute [local go_sem ↓] Go.wp_at_zero Go.wp_at_succ

theorem name_false {rs : List Nat} {r : Nat} (h : r ∈ rs) (hm : mayR r = false) : nameL rs = false := by
  have : rs.all mayR = false := by
    rw [List.all_eq_false]
    exact ⟨r, h, by rw [hm]; simp⟩
  unfold nameL
  rw [this, Bool.and_false]
theorem name_true {rs : List Nat} (h0 : 0 < rs.length) (h1 : rs.length ≤ 20) (h2 : digitR (rs.headD 0) = false) (h3 : rs.all mayR = true) : nameL rs = true := by
  unfold nameL
  rw [decide_eq_true h0, decide_eq_true h1, h2, h3]
  rfl

set_option maxHeartbeats 8000000 in
theorem ris_any (s : ByteArray) (w : World) (hs : s.size ≤ 65537) :
    Calls Tryd.prog 39 #[.string s] w fun e w' => e = .returned (.bool (isName s)) ∧ Only [] w w' := by
  have HA := Lib.hid (rrunes02_any s w hs)
  have HRS := Lib.hid (fun w' => rreserved_any s w')
  have HCL := Lib.hid (fun w' => rclean_any s w' hs)
  have hrl := runes_len (by_ s)
  rw [by_length] at hrl
  obtain ⟨R, hR⟩ : ∃ R, R = isName s := ⟨_, rfl⟩
  rw [← hR]
  unfold isName at hR
  obtain ⟨rs, hrs⟩ : ∃ rs, rs = runesL (by_ s) := ⟨_, rfl⟩
  rw [← hrs] at HA hrl hR
  obtain ⟨v, hv⟩ : ∃ v, v = validD (by_ s) := ⟨_, rfl⟩
  obtain ⟨x, hx⟩ : ∃ x, x = reservedL (by_ s) := ⟨_, rfl⟩
  rw [← hv] at HCL hR
  rw [← hx] at HRS hR
  obtain ⟨n, hn⟩ : ∃ n, n = rs.length := ⟨_, rfl⟩
  rw [← hn] at HA hrl
  have HR := Lib.hid hR
  have HN := Lib.hid hn
  clear hR hrs hv hx hn
  go_enter Tryd.func39, Tryd.ntmps39
  go_wp2_with fail
  refine (HA.out).mono ?_
  rintro e w1 ⟨hO1, V, rfl, hown⟩
  have HO1 := Lib.hid hO1
  obtain ⟨A, c, rfl, -, -, -, hrow⟩ := own_row hown
  have HROW := Lib.hid hrow
  clear hO1 hown hrow
  by_cases hn0 : n = 0
  · have f1 : (n : Int) < 1 := by omega
    have HF : Hid (R = false) := Lib.hid (by rw [HR.out]; simp only [nameL, ← HN.out, hn0]; simp)
    clear hn0
    go_wp2
    go_ret
    exact ⟨by first | (rw [HF.out]; done) | (rw [HF.out]; rfl), HO1.out⟩
  · by_cases hn20 : 20 < n
    · have f1 : decide ((n : Int) < 1) = false := decide_eq_false (by omega)
      have f2 : (20 : Int) < (n : Int) := by omega
      have HF : Hid (R = false) := Lib.hid (by
        rw [HR.out]
        have : decide (rs.length ≤ 20) = false := decide_eq_false (by rw [← HN.out]; omega)
        simp only [nameL, this, Bool.and_false, Bool.false_and])
      go_wp2
      go_ret
      exact ⟨by first | (rw [HF.out]; done) | (rw [HF.out]; rfl), HO1.out⟩
    · have f1 : decide ((n : Int) < 1) = false := decide_eq_false (by omega)
      have f2 : decide ((20 : Int) < (n : Int)) = false := decide_eq_false (by omega)
      go_wp2_with fail
      refine (HRS.out _).mono ?_
      rintro e w1' ⟨rfl, rfl⟩
      cases x with
      | true =>
        have HF : Hid (R = false) := Lib.hid (by rw [HR.out]; simp)
        go_wp2
        go_ret
        exact ⟨by first | (rw [HF.out]; done) | (rw [HF.out]; rfl), HO1.out⟩
      | false =>
        go_wp2_with fail
        refine (HCL.out _).mono ?_
        rintro e w1' ⟨rfl, rfl⟩
        cases v with
        | false =>
          have HF : Hid (R = false) := Lib.hid (by rw [HR.out]; simp)
          go_wp2
          go_ret
          exact ⟨by first | (rw [HF.out]; done) | (rw [HF.out]; rfl), HO1.out⟩
        | true =>
          have HR2 : Hid (R = nameL rs) := Lib.hid (by rw [HR.out]; simp)
          clear HR HRS HCL HA
          obtain ⟨r0, hr0⟩ : ∃ r0, rs[0]? = some r0 := ⟨_, List.getElem?_eq_getElem (by rw [← HN.out]; omega)⟩
          have hhd : rs.headD 0 = r0 := by
            cases rs with
            | nil => cases hr0
            | cons y t => exact Option.some.inj hr0
          obtain ⟨b, o, rfl, -, hbw, hcell⟩ := HROW.out.open_ (k := 0) (by rw [i64s_len, ← HN.out]; omega)
          have g0 : w1.cell? ⟨b, o, none⟩ = some (.int .i64 (r0 : Int)) := hcell 0 _ (i64s_at rs 0 r0 hr0)
          have hn1 : (0 : Int) < (n : Int) := by omega
          by_cases hdg : 48 ≤ r0 ∧ r0 ≤ 57
          · have f3 : 48 ≤ (r0 : Int) := by omega
            have f4 : (r0 : Int) ≤ 57 := by omega
            have HF : Hid (R = false) := Lib.hid (by
              rw [HR2.out]
              have : digitR (rs.headD 0) = true := by rw [hhd]; simp [digitR, hdg]
              simp only [nameL, this, Bool.not_true, Bool.and_false, Bool.false_and])
            clear hcell hr0 hhd hdg
            go_wp2
            go_ret
            exact ⟨by first | (rw [HF.out]; done) | (rw [HF.out]; rfl), HO1.out⟩
          · have HDG : Hid (digitR (rs.headD 0) = false) := Lib.hid (by rw [hhd]; simp [digitR]; omega)
            have hguard : (decide ((48 : Int) ≤ (r0 : Int)) = false ∧ decide (48 ≤ r0) = false) ∨ ((48 : Int) ≤ (r0 : Int) ∧ decide ((r0 : Int) ≤ 57) = false ∧ decide (r0 ≤ 57) = false) := by
              by_cases h : 48 ≤ r0
              · right
                exact ⟨by omega, decide_eq_false (by omega), decide_eq_false (by omega)⟩
              · left
                exact ⟨decide_eq_false (by omega), decide_eq_false (by omega)⟩
            clear hcell hr0 hhd hdg
            have LOOP : ∀ (k : Nat), k < n → ∃ r, rs[k]? = some r := fun k hk => ⟨_, List.getElem?_eq_getElem (by rw [← HN.out]; exact hk)⟩
            have HLOOP := Lib.hid LOOP
            clear LOOP
            rcases hguard with ⟨h1, h2⟩ | ⟨h1, h2, h3⟩
            · go_wp2_with fail
              go_loopw [4] (fun iv wr => ∃ (k : Nat), iv = .int .i64 k ∧ k ≤ n ∧ Hid ((rs.take k).all mayR = true) ∧ wr = w1) (fun iv _ => n - (intOf iv).toNat)
              case atStart => exact ⟨0, rfl, by omega, Lib.hid rfl, by first | rfl | trivial⟩
              case round =>
                obtain ⟨k, rfl, hk, HM, rfl⟩ := hrel
                by_cases hlt : k < n
                · have i1 : (k : Int) < (n : Int) := by omega
                  have i0 : (0 : Int) ≤ (k : Int) := Int.natCast_nonneg _
                  obtain ⟨r, hr⟩ := HLOOP.out k hlt
                  obtain ⟨b, o, hbo, -, hbw, hcell⟩ := HROW.out.open_ (k := k) (by rw [i64s_len, ← HN.out]; exact hlt)
                  cases hbo
                  have gk : wr.cell? ⟨b, o + k, none⟩ = some (.int .i64 (r : Int)) := hcell _ _ (i64s_at rs k r hr)
                  have HRK := Lib.hid hr
                  have HTK : Hid (rs.take (k + 1) = rs.take k ++ [r]) := Lib.hid (by rw [List.take_add_one, hr]; rfl)
                  have hwk : IntKind.i64.wrap ((k : Int) + 1) = (k : Int) + 1 := IntWalk.i64_in _ (by omega)
                  clear hcell hr
                  by_cases c0 : r ≤ 47
                  · have l128 : (r : Int) < 128 := by omega
                    have n95 : ((r : Int) != 95) = true := by simp; omega
                    have l48 : (r : Int) < 48 := by omega
                    have l65 : (r : Int) < 65 := by omega
                    have l97 : (r : Int) < 97 := by omega
                    have hm : mayR r = false := by simp [mayR, digitR]; omega
                    have HF : Hid (R = false) := Lib.hid (by rw [HR2.out]; exact name_false (List.mem_of_getElem? HRK.out) hm)
                    clear hm HM
                    go_wp2
                    go_ret
                    exact ⟨by first | (rw [HF.out]; done) | (rw [HF.out]; rfl), HO1.out⟩
                  by_cases c1 : r ≤ 57
                  · have l128 : (r : Int) < 128 := by omega
                    have n95 : ((r : Int) != 95) = true := by simp; omega
                    have l48 : decide ((r : Int) < 48) = false := decide_eq_false (by omega)
                    have g57 : decide (57 < (r : Int)) = false := decide_eq_false (by omega)
                    have hm : mayR r = true := by simp [mayR, digitR]; omega
                    have HM2 : Hid ((rs.take (k + 1)).all mayR = true) := Lib.hid (by rw [HTK.out, List.all_append, HM.out]; simpa using hm)
                    clear hm HM
                    go_wp2
                    go_roundw
                    case rel => exact ⟨k + 1, by go_num, by omega, HM2, by first | rfl | trivial⟩
                    case measure => simp [intOf]; omega
                  by_cases c2 : r ≤ 64
                  · have l128 : (r : Int) < 128 := by omega
                    have n95 : ((r : Int) != 95) = true := by simp; omega
                    have l48 : decide ((r : Int) < 48) = false := decide_eq_false (by omega)
                    have g57 : 57 < (r : Int) := by omega
                    have l65 : (r : Int) < 65 := by omega
                    have l97 : (r : Int) < 97 := by omega
                    have hm : mayR r = false := by simp [mayR, digitR]; omega
                    have HF : Hid (R = false) := Lib.hid (by rw [HR2.out]; exact name_false (List.mem_of_getElem? HRK.out) hm)
                    clear hm HM
                    go_wp2
                    go_ret
                    exact ⟨by first | (rw [HF.out]; done) | (rw [HF.out]; rfl), HO1.out⟩
                  by_cases c3 : r ≤ 90
                  · have l128 : (r : Int) < 128 := by omega
                    have n95 : ((r : Int) != 95) = true := by simp; omega
                    have l48 : decide ((r : Int) < 48) = false := decide_eq_false (by omega)
                    have g57 : 57 < (r : Int) := by omega
                    have l65 : decide ((r : Int) < 65) = false := decide_eq_false (by omega)
                    have g90 : decide (90 < (r : Int)) = false := decide_eq_false (by omega)
                    have hm : mayR r = true := by simp [mayR, digitR]; omega
                    have HM2 : Hid ((rs.take (k + 1)).all mayR = true) := Lib.hid (by rw [HTK.out, List.all_append, HM.out]; simpa using hm)
                    clear hm HM
                    go_wp2
                    go_roundw
                    case rel => exact ⟨k + 1, by go_num, by omega, HM2, by first | rfl | trivial⟩
                    case measure => simp [intOf]; omega
                  by_cases c4 : r ≤ 94
                  · have l128 : (r : Int) < 128 := by omega
                    have n95 : ((r : Int) != 95) = true := by simp; omega
                    have l48 : decide ((r : Int) < 48) = false := decide_eq_false (by omega)
                    have g57 : 57 < (r : Int) := by omega
                    have l65 : decide ((r : Int) < 65) = false := decide_eq_false (by omega)
                    have g90 : 90 < (r : Int) := by omega
                    have l97 : (r : Int) < 97 := by omega
                    have hm : mayR r = false := by simp [mayR, digitR]; omega
                    have HF : Hid (R = false) := Lib.hid (by rw [HR2.out]; exact name_false (List.mem_of_getElem? HRK.out) hm)
                    clear hm HM
                    go_wp2
                    go_ret
                    exact ⟨by first | (rw [HF.out]; done) | (rw [HF.out]; rfl), HO1.out⟩
                  by_cases c5 : r ≤ 95
                  · have l128 : (r : Int) < 128 := by omega
                    have n95 : ((r : Int) != 95) = false := by simp; omega
                    have hm : mayR r = true := by simp [mayR, digitR]; omega
                    have HM2 : Hid ((rs.take (k + 1)).all mayR = true) := Lib.hid (by rw [HTK.out, List.all_append, HM.out]; simpa using hm)
                    clear hm HM
                    go_wp2
                    go_roundw
                    case rel => exact ⟨k + 1, by go_num, by omega, HM2, by first | rfl | trivial⟩
                    case measure => simp [intOf]; omega
                  by_cases c6 : r ≤ 96
                  · have l128 : (r : Int) < 128 := by omega
                    have n95 : ((r : Int) != 95) = true := by simp; omega
                    have l48 : decide ((r : Int) < 48) = false := decide_eq_false (by omega)
                    have g57 : 57 < (r : Int) := by omega
                    have l65 : decide ((r : Int) < 65) = false := decide_eq_false (by omega)
                    have g90 : 90 < (r : Int) := by omega
                    have l97 : (r : Int) < 97 := by omega
                    have hm : mayR r = false := by simp [mayR, digitR]; omega
                    have HF : Hid (R = false) := Lib.hid (by rw [HR2.out]; exact name_false (List.mem_of_getElem? HRK.out) hm)
                    clear hm HM
                    go_wp2
                    go_ret
                    exact ⟨by first | (rw [HF.out]; done) | (rw [HF.out]; rfl), HO1.out⟩
                  by_cases c7 : r ≤ 122
                  · have l128 : (r : Int) < 128 := by omega
                    have n95 : ((r : Int) != 95) = true := by simp; omega
                    have l48 : decide ((r : Int) < 48) = false := decide_eq_false (by omega)
                    have g57 : 57 < (r : Int) := by omega
                    have l65 : decide ((r : Int) < 65) = false := decide_eq_false (by omega)
                    have g90 : 90 < (r : Int) := by omega
                    have l97 : decide ((r : Int) < 97) = false := decide_eq_false (by omega)
                    have g122 : decide (122 < (r : Int)) = false := decide_eq_false (by omega)
                    have hm : mayR r = true := by simp [mayR, digitR]; omega
                    have HM2 : Hid ((rs.take (k + 1)).all mayR = true) := Lib.hid (by rw [HTK.out, List.all_append, HM.out]; simpa using hm)
                    clear hm HM
                    go_wp2
                    go_roundw
                    case rel => exact ⟨k + 1, by go_num, by omega, HM2, by first | rfl | trivial⟩
                    case measure => simp [intOf]; omega
                  by_cases c8 : r ≤ 127
                  · have l128 : (r : Int) < 128 := by omega
                    have n95 : ((r : Int) != 95) = true := by simp; omega
                    have l48 : decide ((r : Int) < 48) = false := decide_eq_false (by omega)
                    have g57 : 57 < (r : Int) := by omega
                    have l65 : decide ((r : Int) < 65) = false := decide_eq_false (by omega)
                    have g90 : 90 < (r : Int) := by omega
                    have l97 : decide ((r : Int) < 97) = false := decide_eq_false (by omega)
                    have g122 : 122 < (r : Int) := by omega
                    have hm : mayR r = false := by simp [mayR, digitR]; omega
                    have HF : Hid (R = false) := Lib.hid (by rw [HR2.out]; exact name_false (List.mem_of_getElem? HRK.out) hm)
                    clear hm HM
                    go_wp2
                    go_ret
                    exact ⟨by first | (rw [HF.out]; done) | (rw [HF.out]; rfl), HO1.out⟩
                  have l128 : decide ((r : Int) < 128) = false := decide_eq_false (by omega)
                  have hm : mayR r = true := by simp [mayR, digitR]; omega
                  have HM2 : Hid ((rs.take (k + 1)).all mayR = true) := Lib.hid (by rw [HTK.out, List.all_append, HM.out]; simpa using hm)
                  clear hm HM
                  go_wp2
                  go_roundw
                  case rel => exact ⟨k + 1, by go_num, by omega, HM2, by first | rfl | trivial⟩
                  case measure => simp [intOf]; omega
                · have hkn : k = n := by omega
                  subst hkn
                  have hd : decide ((k : Int) < (k : Int)) = false := by simp
                  have HF : Hid (R = true) := Lib.hid (by
                    rw [HR2.out]
                    refine name_true (by rw [← HN.out]; omega) (by rw [← HN.out]; omega) HDG.out ?_
                    have := HM.out
                    rwa [List.take_of_length_le (by rw [← HN.out]; exact Nat.le_refl _)] at this)
                  go_wp2
                  go_ret
                  exact ⟨by first | (rw [HF.out]; done) | (rw [HF.out]; rfl), HO1.out⟩
            · go_wp2_with fail
              go_loopw [4] (fun iv wr => ∃ (k : Nat), iv = .int .i64 k ∧ k ≤ n ∧ Hid ((rs.take k).all mayR = true) ∧ wr = w1) (fun iv _ => n - (intOf iv).toNat)
              case atStart => exact ⟨0, rfl, by omega, Lib.hid rfl, by first | rfl | trivial⟩
              case round =>
                obtain ⟨k, rfl, hk, HM, rfl⟩ := hrel
                by_cases hlt : k < n
                · have i1 : (k : Int) < (n : Int) := by omega
                  have i0 : (0 : Int) ≤ (k : Int) := Int.natCast_nonneg _
                  obtain ⟨r, hr⟩ := HLOOP.out k hlt
                  obtain ⟨b, o, hbo, -, hbw, hcell⟩ := HROW.out.open_ (k := k) (by rw [i64s_len, ← HN.out]; exact hlt)
                  cases hbo
                  have gk : wr.cell? ⟨b, o + k, none⟩ = some (.int .i64 (r : Int)) := hcell _ _ (i64s_at rs k r hr)
                  have HRK := Lib.hid hr
                  have HTK : Hid (rs.take (k + 1) = rs.take k ++ [r]) := Lib.hid (by rw [List.take_add_one, hr]; rfl)
                  have hwk : IntKind.i64.wrap ((k : Int) + 1) = (k : Int) + 1 := IntWalk.i64_in _ (by omega)
                  clear hcell hr
                  by_cases c0 : r ≤ 47
                  · have l128 : (r : Int) < 128 := by omega
                    have n95 : ((r : Int) != 95) = true := by simp; omega
                    have l48 : (r : Int) < 48 := by omega
                    have l65 : (r : Int) < 65 := by omega
                    have l97 : (r : Int) < 97 := by omega
                    have hm : mayR r = false := by simp [mayR, digitR]; omega
                    have HF : Hid (R = false) := Lib.hid (by rw [HR2.out]; exact name_false (List.mem_of_getElem? HRK.out) hm)
                    clear hm HM
                    go_wp2
                    go_ret
                    exact ⟨by first | (rw [HF.out]; done) | (rw [HF.out]; rfl), HO1.out⟩
                  by_cases c1 : r ≤ 57
                  · have l128 : (r : Int) < 128 := by omega
                    have n95 : ((r : Int) != 95) = true := by simp; omega
                    have l48 : decide ((r : Int) < 48) = false := decide_eq_false (by omega)
                    have g57 : decide (57 < (r : Int)) = false := decide_eq_false (by omega)
                    have hm : mayR r = true := by simp [mayR, digitR]; omega
                    have HM2 : Hid ((rs.take (k + 1)).all mayR = true) := Lib.hid (by rw [HTK.out, List.all_append, HM.out]; simpa using hm)
                    clear hm HM
                    go_wp2
                    go_roundw
                    case rel => exact ⟨k + 1, by go_num, by omega, HM2, by first | rfl | trivial⟩
                    case measure => simp [intOf]; omega
                  by_cases c2 : r ≤ 64
                  · have l128 : (r : Int) < 128 := by omega
                    have n95 : ((r : Int) != 95) = true := by simp; omega
                    have l48 : decide ((r : Int) < 48) = false := decide_eq_false (by omega)
                    have g57 : 57 < (r : Int) := by omega
                    have l65 : (r : Int) < 65 := by omega
                    have l97 : (r : Int) < 97 := by omega
                    have hm : mayR r = false := by simp [mayR, digitR]; omega
                    have HF : Hid (R = false) := Lib.hid (by rw [HR2.out]; exact name_false (List.mem_of_getElem? HRK.out) hm)
                    clear hm HM
                    go_wp2
                    go_ret
                    exact ⟨by first | (rw [HF.out]; done) | (rw [HF.out]; rfl), HO1.out⟩
                  by_cases c3 : r ≤ 90
                  · have l128 : (r : Int) < 128 := by omega
                    have n95 : ((r : Int) != 95) = true := by simp; omega
                    have l48 : decide ((r : Int) < 48) = false := decide_eq_false (by omega)
                    have g57 : 57 < (r : Int) := by omega
                    have l65 : decide ((r : Int) < 65) = false := decide_eq_false (by omega)
                    have g90 : decide (90 < (r : Int)) = false := decide_eq_false (by omega)
                    have hm : mayR r = true := by simp [mayR, digitR]; omega
                    have HM2 : Hid ((rs.take (k + 1)).all mayR = true) := Lib.hid (by rw [HTK.out, List.all_append, HM.out]; simpa using hm)
                    clear hm HM
                    go_wp2
                    go_roundw
                    case rel => exact ⟨k + 1, by go_num, by omega, HM2, by first | rfl | trivial⟩
                    case measure => simp [intOf]; omega
                  by_cases c4 : r ≤ 94
                  · have l128 : (r : Int) < 128 := by omega
                    have n95 : ((r : Int) != 95) = true := by simp; omega
                    have l48 : decide ((r : Int) < 48) = false := decide_eq_false (by omega)
                    have g57 : 57 < (r : Int) := by omega
                    have l65 : decide ((r : Int) < 65) = false := decide_eq_false (by omega)
                    have g90 : 90 < (r : Int) := by omega
                    have l97 : (r : Int) < 97 := by omega
                    have hm : mayR r = false := by simp [mayR, digitR]; omega
                    have HF : Hid (R = false) := Lib.hid (by rw [HR2.out]; exact name_false (List.mem_of_getElem? HRK.out) hm)
                    clear hm HM
                    go_wp2
                    go_ret
                    exact ⟨by first | (rw [HF.out]; done) | (rw [HF.out]; rfl), HO1.out⟩
                  by_cases c5 : r ≤ 95
                  · have l128 : (r : Int) < 128 := by omega
                    have n95 : ((r : Int) != 95) = false := by simp; omega
                    have hm : mayR r = true := by simp [mayR, digitR]; omega
                    have HM2 : Hid ((rs.take (k + 1)).all mayR = true) := Lib.hid (by rw [HTK.out, List.all_append, HM.out]; simpa using hm)
                    clear hm HM
                    go_wp2
                    go_roundw
                    case rel => exact ⟨k + 1, by go_num, by omega, HM2, by first | rfl | trivial⟩
                    case measure => simp [intOf]; omega
                  by_cases c6 : r ≤ 96
                  · have l128 : (r : Int) < 128 := by omega
                    have n95 : ((r : Int) != 95) = true := by simp; omega
                    have l48 : decide ((r : Int) < 48) = false := decide_eq_false (by omega)
                    have g57 : 57 < (r : Int) := by omega
                    have l65 : decide ((r : Int) < 65) = false := decide_eq_false (by omega)
                    have g90 : 90 < (r : Int) := by omega
                    have l97 : (r : Int) < 97 := by omega
                    have hm : mayR r = false := by simp [mayR, digitR]; omega
                    have HF : Hid (R = false) := Lib.hid (by rw [HR2.out]; exact name_false (List.mem_of_getElem? HRK.out) hm)
                    clear hm HM
                    go_wp2
                    go_ret
                    exact ⟨by first | (rw [HF.out]; done) | (rw [HF.out]; rfl), HO1.out⟩
                  by_cases c7 : r ≤ 122
                  · have l128 : (r : Int) < 128 := by omega
                    have n95 : ((r : Int) != 95) = true := by simp; omega
                    have l48 : decide ((r : Int) < 48) = false := decide_eq_false (by omega)
                    have g57 : 57 < (r : Int) := by omega
                    have l65 : decide ((r : Int) < 65) = false := decide_eq_false (by omega)
                    have g90 : 90 < (r : Int) := by omega
                    have l97 : decide ((r : Int) < 97) = false := decide_eq_false (by omega)
                    have g122 : decide (122 < (r : Int)) = false := decide_eq_false (by omega)
                    have hm : mayR r = true := by simp [mayR, digitR]; omega
                    have HM2 : Hid ((rs.take (k + 1)).all mayR = true) := Lib.hid (by rw [HTK.out, List.all_append, HM.out]; simpa using hm)
                    clear hm HM
                    go_wp2
                    go_roundw
                    case rel => exact ⟨k + 1, by go_num, by omega, HM2, by first | rfl | trivial⟩
                    case measure => simp [intOf]; omega
                  by_cases c8 : r ≤ 127
                  · have l128 : (r : Int) < 128 := by omega
                    have n95 : ((r : Int) != 95) = true := by simp; omega
                    have l48 : decide ((r : Int) < 48) = false := decide_eq_false (by omega)
                    have g57 : 57 < (r : Int) := by omega
                    have l65 : decide ((r : Int) < 65) = false := decide_eq_false (by omega)
                    have g90 : 90 < (r : Int) := by omega
                    have l97 : decide ((r : Int) < 97) = false := decide_eq_false (by omega)
                    have g122 : 122 < (r : Int) := by omega
                    have hm : mayR r = false := by simp [mayR, digitR]; omega
                    have HF : Hid (R = false) := Lib.hid (by rw [HR2.out]; exact name_false (List.mem_of_getElem? HRK.out) hm)
                    clear hm HM
                    go_wp2
                    go_ret
                    exact ⟨by first | (rw [HF.out]; done) | (rw [HF.out]; rfl), HO1.out⟩
                  have l128 : decide ((r : Int) < 128) = false := decide_eq_false (by omega)
                  have hm : mayR r = true := by simp [mayR, digitR]; omega
                  have HM2 : Hid ((rs.take (k + 1)).all mayR = true) := Lib.hid (by rw [HTK.out, List.all_append, HM.out]; simpa using hm)
                  clear hm HM
                  go_wp2
                  go_roundw
                  case rel => exact ⟨k + 1, by go_num, by omega, HM2, by first | rfl | trivial⟩
                  case measure => simp [intOf]; omega
                · have hkn : k = n := by omega
                  subst hkn
                  have hd : decide ((k : Int) < (k : Int)) = false := by simp
                  have HF : Hid (R = true) := Lib.hid (by
                    rw [HR2.out]
                    refine name_true (by rw [← HN.out]; omega) (by rw [← HN.out]; omega) HDG.out ?_
                    have := HM.out
                    rwa [List.take_of_length_le (by rw [← HN.out]; exact Nat.le_refl _)] at this)
                  go_wp2
                  go_ret
                  exact ⟨by first | (rw [HF.out]; done) | (rw [HF.out]; rfl), HO1.out⟩

end Go.Proofs.YtbenjknaklafmaaDoor

set_option linter.unusedVariables false
set_option linter.unusedSimpArgs false
namespace Go.Proofs.YtbenjknaklafmaaDoor
open Go.RowKit

set_option maxHeartbeats 800000 in
theorem rprint_pos (n : Nat) (w : World) (h : (n : Int) ≤ 9223372036854775807) (h0 : 0 < n) :
    Calls Tryd.prog 67 #[.int .i64 n] w fun e w' => e = .returned (.string ⟨(Lib.itoa n).toArray⟩) ∧ Only [] w w' := by
  have hz : ((n : Int) == 0) = false := by simp; omega
  have hz2 : ¬ (n : Int) < 0 := by omega
  go_enter Tryd.func67, Tryd.ntmps67
  go_wp2
  go_loopw [3, 4] (fun t x wr => ∃ (u : Nat) (l : ByteArray), u ≤ n ∧ x = .int .i64 u ∧ t = .string l ∧ Lib.decDigits n = ahead false u ++ l.data.toList ∧ Only [] w wr) (fun _ x _ => (intOf x).toNat)
  case atStart => exact ⟨n, ⟨#[]⟩, Nat.le_refl _, rfl, rfl, by rw [ahead_pos h0]; simp, Only.refl _ _⟩
  case round =>
    obtain ⟨u, l, hu, rfl, rfl, hl, ho⟩ := hrel
    have HL := Lib.hid hl
    have HO := Lib.hid ho
    clear hl ho
    by_cases hp : 0 < u
    · have hu0 : ((u : Int) != 0) = true := by simp; omega
      have hc := conv_one wr
      have hm0 : 0 ≤ (u : Int) % 10 := by omega
      have hm1 : (u : Int) % 10 ≤ 9 := by omega
      have hroom : ¬ 9223372036854775807 < (strOfNums [48 + (u : Int) % 10]).size + l.size := dig_room _ (by omega) hp HL.out
      go_wp2
      go_roundw
      case rel => exact ⟨u / 10, _, by omega, by go_num, rfl, dig_step hp HL.out, HO.out.alloc _⟩
      case measure => simp [intOf]; omega
    · have hu0 : ((u : Int) != 0) = false := by simp; omega
      have hl20 := dig_room1 (n := n) (by omega) HL.out
      go_wp2
      go_ret
      refine ⟨ret_str ?_, HO.out⟩
      rw [itoa_nat]
      have := HL.out
      rw [ahead_end (by simpa using hp)] at this
      simpa using this.symm

set_option maxHeartbeats 800000 in
theorem rprint_neg (n : Nat) (w : World) (h : (n : Int) ≤ 9223372036854775808) (h0 : 0 < n) :
    Calls Tryd.prog 67 #[.int .i64 (-(n : Int))] w fun e w' => e = .returned (.string ⟨(Lib.itoa (-(n : Int))).toArray⟩) ∧ Only [] w w' := by
  obtain ⟨m, hm⟩ : ∃ m : Int, m = -(n : Int) := ⟨_, rfl⟩
  rw [← hm]
  have HM := Lib.hid hm
  have hz : (m == 0) = false := by simp; omega
  have hz2 : m < 0 := by omega
  have hlo : -9223372036854775808 ≤ m := by omega
  clear hm
  go_enter Tryd.func67, Tryd.ntmps67
  go_wp2
  go_loopw [3, 4] (fun t x wr => ∃ (u : Nat) (y : Int) (l : ByteArray), u ≤ n ∧ x = .int .i64 y ∧ y = -(u : Int) ∧ t = .string l ∧ Lib.decDigits n = ahead false u ++ l.data.toList ∧ Only [] w wr) (fun _ x _ => (-(intOf x)).toNat)
  case atStart => exact ⟨n, m, ⟨#[]⟩, Nat.le_refl _, rfl, HM.out, rfl, by rw [ahead_pos h0]; simp, Only.refl _ _⟩
  case round =>
    obtain ⟨u, y, l, hu, rfl, hy, rfl, hl, ho⟩ := hrel
    have HY := Lib.hid hy
    have HL := Lib.hid hl
    have HO := Lib.hid ho
    have hy1 : -9223372036854775808 ≤ y := by omega
    have hy2 : y ≤ 0 := by omega
    clear hl ho
    by_cases hp : 0 < u
    · have hu0 : (y != 0) = true := by simp; omega
      clear hy
      have hc := conv_one wr
      have hq : y.tmod 10 = -((u % 10 : Nat) : Int) := by rw [HY.out, Int.neg_tmod]; rfl
      have hd : y.tdiv 10 = -((u / 10 : Nat) : Int) := by rw [HY.out, Int.neg_tdiv]; rfl
      have hq1 : -9 ≤ y.tmod 10 := by omega
      have hq2 : y.tmod 10 ≤ 0 := by omega
      have HQ := Lib.hid hq
      have HD := Lib.hid hd
      have hroom : ∀ x : Int, ¬ 9223372036854775807 < (strOfNums [x]).size + l.size := fun x => dig_room x (by omega) hp HL.out
      clear hq hd
      by_cases hs : y.tmod 10 < 0
      all_goals
        go_wp2
        go_roundw
        case rel =>
          refine ⟨u / 10, y.tdiv 10, _, by omega, rfl, HD.out, rfl, ?_, HO.out.alloc _⟩
          first
            | (rw [show (48 + -y.tmod 10 : Int) = 48 + ((u % 10 : Nat) : Int) by rw [HQ.out]; omega]; exact dig_step hp HL.out)
            | (rw [show (48 + y.tmod 10 : Int) = 48 + ((u % 10 : Nat) : Int) by have := HQ.out; omega]; exact dig_step hp HL.out)
        case measure => have e1 := HY.out; have e2 := HD.out; clear hq1 hq2 hs HQ; simp only [intOf]; omega
    · have hu0 : (y != 0) = false := by simp; omega
      clear hy
      have hl20 := dig_room1 (n := n) (by omega) HL.out
      go_wp2
      go_ret
      refine ⟨ret_str ?_, HO.out⟩
      rw [HM.out, itoa_neg n h0]
      have := HL.out
      rw [ahead_end (by simpa using hp)] at this
      rw [this, ByteArray.data_append]
      simp

set_option maxHeartbeats 400000 in
theorem rprint_zero (w : World) :
    Calls Tryd.prog 67 #[.int .i64 0] w fun e w' => e = .returned (.string ⟨(Lib.itoa 0).toArray⟩) ∧ Only [] w w' := by
  have hz : Lib.itoa 0 = [48] := by unfold Lib.itoa; rw [if_neg (by decide)]; exact dec_zero
  rw [hz]
  go_enter Tryd.func67, Tryd.ntmps67
  go_wp2
  go_ret
  exact ⟨rfl, Only.refl _ _⟩

theorem rprint_any (n : Int) (w : World) (h1 : -9223372036854775808 ≤ n) (h2 : n ≤ 9223372036854775807) :
    Calls Tryd.prog 67 #[.int .i64 n] w fun e w' => e = .returned (.string ⟨(Lib.itoa n).toArray⟩) ∧ Only [] w w' := by
  by_cases h0 : n = 0
  · subst h0
    exact rprint_zero w
  · by_cases hn : n < 0
    · have := rprint_neg n.natAbs w (by omega) (by omega)
      rwa [show (-(n.natAbs : Int)) = n by omega] at this
    · have := rprint_pos n.natAbs w (by omega) (by omega)
      rwa [show (n.natAbs : Int) = n by omega] at this

end Go.Proofs.YtbenjknaklafmaaDoor

set_option linter.unusedVariables false
set_option linter.unusedSimpArgs false
namespace Go.Proofs.YtbenjknaklafmaaDoor
open Go.RowKit

set_option maxHeartbeats 400000 in
theorem rmay_any (k n : Int) (w : World) : Calls Tryd.prog 46 #[.agg #[.int .i64 k, .int .i64 n]] w fun e w' => e = .returned (.bool (mayB k n)) ∧ Only [] w w' := by
  unfold mayB
  by_cases h1 : k = 1
  · subst h1
    go_enter Tryd.func46, Tryd.ntmps46
    go_wp2
    go_ret
    exact ⟨by simp, (Only.refl _ _).alloc _⟩
  · have h1' : (k == 1) = false := by simp [h1]
    have H1 := Lib.hid h1
    clear h1
    by_cases h0 : k = 0
    · subst h0
      go_enter Tryd.func46, Tryd.ntmps46
      go_wp2
      go_ret
      exact ⟨ret_boolv (by simp; try (rw [Bool.eq_iff_iff]; simp)), (Only.refl _ _).alloc _⟩
    · have h0' : (k == 0) = false := by simp [h0]
      have H0 := Lib.hid h0
      clear h0
      by_cases h2 : k = 2
      · subst h2
        go_enter Tryd.func46, Tryd.ntmps46
        go_wp2
        go_ret
        exact ⟨ret_boolv (by simp; try (rw [Bool.eq_iff_iff]; simp)), (Only.refl _ _).alloc _⟩
      · have h2' : (k == 2) = false := by simp [h2]
        have H2 := Lib.hid h2
        clear h2
        go_enter Tryd.func46, Tryd.ntmps46
        go_wp2
        go_ret
        exact ⟨ret_boolv (by simp [H0.out, H1.out, H2.out]), (Only.refl _ _).alloc _⟩

end Go.Proofs.YtbenjknaklafmaaDoor

set_option linter.unusedVariables false
set_option linter.unusedSimpArgs false
namespace Go.Proofs.YtbenjknaklafmaaDoor
open Go.RowKit

theorem rvprint_any (k n : Int) (w : World) (h1 : -9223372036854775808 ≤ n) (h2 : n ≤ 9223372036854775807) :
    Calls Tryd.prog 47 #[.agg #[.int .i64 k, .int .i64 n]] w fun e w' => e = .returned (.tuple #[.string ⟨(vText k n).toArray⟩, .int .i64 (vErr k n)]) ∧ Only [] w w' := by
  have hm := fun w => rmay_any k n w
  have hp := fun w => rprint_any n w h1 h2
  have HM := Lib.hid hm
  have HP := Lib.hid hp
  clear hm hp
  rcases mayB_cases k n with ⟨a, b, c⟩ | ⟨a, b, rfl, c⟩ | ⟨a, b, rfl, rfl, c⟩ | ⟨a, b, rfl, rfl, c⟩
  all_goals
    rw [b, c]
    have HM' : ∀ w, Hid (Calls Tryd.prog 46 #[.agg #[.int .i64 _, .int .i64 _]] w fun e w' => e = .returned (.bool _) ∧ Only [] w w') := fun w => by
      have := HM.out w; rw [a] at this; exact this
    have HMH := Lib.hid HM'
    clear HM HM' a b c
    go_enter Tryd.func47, Tryd.ntmps47
    go_wp2_with fail
    refine (HMH.out _).out.mono ?_
    rintro e w1 ⟨rfl, O1⟩
    have b1 := O1.blk (Blk.made w 36 #[.int .i64 _, .int .i64 _]) (by simp)
    have c0 := b1.at_ 0
    have c1 := b1.at_ 1
    simp at c0 c1
    have HO := Lib.hid (((Only.refl [] w).alloc (.cells #[.int .i64 _, .int .i64 _] 36)).trans O1)
    clear b1 O1
    go_wp2_with fail
    first
      | (refine (HP.out _).mono ?_
         rintro e w2 ⟨rfl, O2⟩
         go_wp2
         go_ret2
         exact ⟨rfl, HO.out.trans O2⟩)
      | (go_ret2
         exact ⟨rfl, HO.out⟩)

end Go.Proofs.YtbenjknaklafmaaDoor

set_option linter.unusedVariables false
set_option linter.unusedSimpArgs false
namespace Go.Proofs.YtbenjknaklafmaaDoor
open Go.RowKit
open Go.Lib hiding intOf
attribute [local go_sem ↓] Go.wp_at_zero Go.wp_at_succ

def kindC : Array Value := #[.string ⟨#[]⟩, .string ⟨#[98, 101, 103, 105, 110]⟩, .string ⟨#[114, 101, 97, 100]⟩, .string ⟨#[119, 114, 105, 116, 101]⟩, .string ⟨#[111, 107]⟩, .string ⟨#[102, 97, 105, 108]⟩, .string ⟨#[105, 110, 102, 111]⟩]
theorem kind_at (m : Nat) (h1 : 1 ≤ m) (h6 : m ≤ 6) : kindC[m]? = some (.string (kW (m : Int))) := by
  have h : m = 1 ∨ m = 2 ∨ m = 3 ∨ m = 4 ∨ m = 5 ∨ m = 6 := by omega
  rcases h with rfl | rfl | rfl | rfl | rfl | rfl <;> rfl
theorem rkinds_any (w : World) : Calls Tryd.prog 38 #[] w fun e w' => e = .returned (.slice (some ⟨w.heap.size, 0, none⟩) 7 7) ∧ w.alloc (.cells kindC 9) = w' := by
  unfold kindC
  go_enter Tryd.func38, Tryd.ntmps38
  go_wp2
  go_ret
  exact ⟨rfl, rfl⟩

set_option maxRecDepth 10000 in
set_option maxHeartbeats 4000000 in
theorem revmay_any (k : Int) (s y : ByteArray) (vk vn ln : Int) (w : World) (hs : s.size ≤ 65537) (hy : y.size ≤ 65537) :
    Calls Tryd.prog 27 #[.agg #[.int .i64 k, .string s, .string y, .int .i64 vk, .int .i64 vn, .int .i64 ln]] w fun e w' => e = .returned (.bool (evOk k s y vk vn)) ∧ Only [] w w' := by
  have HS := Lib.hid (fun w' => ris_any s w' hs)
  have HY := Lib.hid (fun w' => ris_any y w' hy)
  have HM := Lib.hid (fun w' => rmay_any vk vn w')
  obtain ⟨r, hr⟩ : ∃ r, r = evOk k s y vk vn := ⟨_, rfl⟩
  rw [← hr]
  obtain ⟨ns, hns⟩ : ∃ x, x = isName s := ⟨_, rfl⟩
  obtain ⟨ny, hny⟩ : ∃ x, x = isName y := ⟨_, rfl⟩
  obtain ⟨mv, hmv⟩ : ∃ x, x = mayB vk vn := ⟨_, rfl⟩
  unfold evOk at hr
  rw [← hns, ← hny, ← hmv] at hr
  rw [← hns] at HS
  rw [← hny] at HY
  rw [← hmv] at HM
  have HR := Lib.hid hr
  have HO := Lib.hid ((Only.refl [] w).alloc (.cells #[.int .i64 k, .string s, .string y, .int .i64 vk, .int .i64 vn, .int .i64 ln] 38))
  have HE := Lib.hid (Blk.made w 38 #[.int .i64 k, .string s, .string y, .int .i64 vk, .int .i64 vn, .int .i64 ln])
  clear hr hns hny hmv hs hy
  by_cases hk1 : k < 1
  · have HK := Lib.hid (show kOk k = false from decide_eq_false (by omega))
    go_enter Tryd.func27, Tryd.ntmps27
    go_wp2
    go_ret
    exact ⟨by rw [HR.out, HK.out]; rfl, HO.out⟩
  by_cases hk6 : 6 < k
  · have HK := Lib.hid (show kOk k = false from decide_eq_false (by omega))
    go_enter Tryd.func27, Tryd.ntmps27
    go_wp2
    go_ret
    exact ⟨by rw [HR.out, HK.out]; rfl, HO.out⟩
  have hcase : ((k == 2) = false ∧ (k == 3) = false ∧ (k != 2) = true ∧ (k != 3) = true ∧ r = (ns && (decide (y = ⟨#[]⟩) && decide (vk = 0 ∧ vn = 0)))) ∨ (k = 2 ∧ r = (ns && (ny && mv))) ∨ (k = 3 ∧ r = (ns && ((ny && mv) && decide (vk = 1)))) := by
    rw [HR.out, show kOk k = true from decide_eq_true (by omega)]
    by_cases h2 : k = 2
    · subst h2; exact .inr (.inl ⟨rfl, by simp [kO]⟩)
    · by_cases h3 : k = 3
      · subst h3; exact .inr (.inr ⟨rfl, by simp [kO]; by_cases h : vk = 1 <;> simp [h]⟩)
      · exact .inl ⟨by simp [h2], by simp [h3], by simp [h2], by simp [h3], by simp [kO, h2, h3]⟩
  clear HR
  rcases hcase with ⟨q1, q2, q3, q4, q5⟩ | ⟨rfl, q5⟩ | ⟨rfl, q5⟩
  all_goals
    have HQ := Lib.hid q5
    clear q5
    go_enter Tryd.func27, Tryd.ntmps27
    go_wp2_with fail
    refine (HS.out _).mono ?_
    rintro e w1 ⟨rfl, O1⟩
    have HO1 := Lib.hid (HO.out.trans O1)
    have bE1 := O1.blk HE.out (by simp)
    have lE := bE1.lt
    have f0 := bE1.at_ 0
    have f2 := bE1.at_ 2
    have f3 := bE1.at_ 3
    have f4 := bE1.at_ 4
    simp at f0 f2 f3 f4
    clear O1
    cases ns with
    | false =>
      go_wp2
      go_ret
      exact ⟨by rw [HQ.out]; rfl, HO1.out⟩
    | true => ?_
  · by_cases hy0 : y = ⟨#[]⟩
    · subst hy0
      by_cases h1 : vk = 0
      · subst h1
        by_cases h2 : vn = 0
        · subst h2
          go_wp2
          go_ret
          exact ⟨by rw [HQ.out]; rfl, HO1.out⟩
        · have h2' : (vn == 0) = false := by simpa using h2
          have HX := Lib.hid h2
          clear h2
          go_wp2
          go_ret
          exact ⟨by rw [HQ.out]; simp [HX.out], HO1.out⟩
      · have h1' : (vk == 0) = false := by simpa using h1
        have HX := Lib.hid h1
        clear h1
        go_wp2
        go_ret
        exact ⟨by rw [HQ.out]; simp [HX.out], HO1.out⟩
    · have h0' : (y.toList == []) = false := (ev_ne (l := []) hy0).1
      have HX := Lib.hid hy0
      clear hy0
      go_wp2
      go_ret
      exact ⟨by rw [HQ.out]; simp [HX.out], HO1.out⟩
  · clear hk1 hk6
    go_wp2_with fail
    refine (HY.out _).mono ?_
    rintro e w3 ⟨rfl, O3⟩
    have HO3 := Lib.hid (HO1.out.trans O3)
    have bE3 := O3.blk bE1 (by simp)
    clear f0 f2 f3 f4 lE O3
    have lE := bE3.lt
    have f0 := bE3.at_ 0
    have f3 := bE3.at_ 3
    have f4 := bE3.at_ 4
    simp at f0 f3 f4
    cases ny with
    | false =>
      go_wp2
      go_ret
      exact ⟨by rw [HQ.out]; rfl, HO3.out⟩
    | true =>
      go_wp2_with fail
      refine (HM.out _).mono ?_
      rintro e w4 ⟨rfl, O4⟩
      have HO4 := Lib.hid (HO3.out.trans O4)
      have bE4 := O4.blk bE3 (by simp)
      clear f0 f3 f4 lE O4
      have lE := bE4.lt
      have f0 := bE4.at_ 0
      simp at f0
      cases mv <;>
      · go_wp2
        go_ret
        exact ⟨by rw [HQ.out]; rfl, HO4.out⟩
  · clear hk1 hk6
    go_wp2_with fail
    refine (HY.out _).mono ?_
    rintro e w3 ⟨rfl, O3⟩
    have HO3 := Lib.hid (HO1.out.trans O3)
    have bE3 := O3.blk bE1 (by simp)
    clear f0 f2 f3 f4 lE O3
    have lE := bE3.lt
    have f0 := bE3.at_ 0
    have f3 := bE3.at_ 3
    have f4 := bE3.at_ 4
    simp at f0 f3 f4
    cases ny with
    | false =>
      go_wp2
      go_ret
      exact ⟨by rw [HQ.out]; rfl, HO3.out⟩
    | true =>
      go_wp2_with fail
      refine (HM.out _).mono ?_
      rintro e w4 ⟨rfl, O4⟩
      have HO4 := Lib.hid (HO3.out.trans O4)
      have bE4 := O4.blk bE3 (by simp)
      clear f0 f3 f4 lE O4
      have lE := bE4.lt
      have f0 := bE4.at_ 0
      have f3 := bE4.at_ 3
      simp at f0 f3
      cases mv with
      | false =>
        go_wp2
        go_ret
        exact ⟨by rw [HQ.out]; rfl, HO4.out⟩
      | true =>
        by_cases h1 : vk = 1
        · subst h1
          go_wp2
          go_ret
          exact ⟨by rw [HQ.out]; rfl, HO4.out⟩
        · have h1' : (vk == 1) = false := by simpa using h1
          have HX := Lib.hid h1
          clear h1
          go_wp2
          go_ret
          exact ⟨by rw [HQ.out]; simp [HX.out], HO4.out⟩

set_option maxRecDepth 10000 in
set_option maxHeartbeats 4000000 in
theorem revprint_any (k : Int) (s y : ByteArray) (vk vn ln : Int) (w : World) (hs : s.size ≤ 2000) (hy : y.size ≤ 2000) (h1 : -9223372036854775808 ≤ vn) (h2 : vn ≤ 9223372036854775807) :
    Calls Tryd.prog 28 #[.agg #[.int .i64 k, .string s, .string y, .int .i64 vk, .int .i64 vn, .int .i64 ln]] w fun e w' => e = .returned (.tuple #[.string (evText k s y vk vn), .int .i64 (evErr k s y vk vn)]) ∧ Only [] w w' := by
  have HMY := Lib.hid (fun w' => revmay_any k s y vk vn ln w' (by omega) (by omega))
  have HVP := Lib.hid (fun w' => rvprint_any vk vn w' h1 h2)
  have HKI := Lib.hid (fun w' => rkinds_any w')
  unfold evText evErr
  obtain ⟨ok, hok⟩ : ∃ x, x = evOk k s y vk vn := ⟨_, rfl⟩
  obtain ⟨T, hTT⟩ : ∃ x, x = (⟨(joinW (evWords k s y vk vn)).toArray⟩ : ByteArray) := ⟨_, rfl⟩
  rw [← hok, ← hTT]
  rw [← hok] at HMY
  have HTX := Lib.hid hTT
  have HOKK : Hid (ok = true → k = 1 ∨ k = 2 ∨ k = 3 ∨ k = 4 ∨ k = 5 ∨ k = 6) := Lib.hid (fun h => by
    rw [hok] at h
    unfold evOk kOk at h
    simp at h
    omega)
  have HVL := Lib.hid (vText_len vk vn h1 h2)
  have HO := Lib.hid ((Only.refl [] w).alloc (.cells #[.int .i64 k, .string s, .string y, .int .i64 vk, .int .i64 vn, .int .i64 ln] 38))
  have HE := Lib.hid (Blk.made w 38 #[.int .i64 k, .string s, .string y, .int .i64 vk, .int .i64 vn, .int .i64 ln])
  clear hok hTT h1 h2
  go_enter Tryd.func28, Tryd.ntmps28
  go_wp2_with fail
  refine (HMY.out _).mono ?_
  rintro e w1 ⟨rfl, O1⟩
  have HO1 := Lib.hid (HO.out.trans O1)
  have bE1 := O1.blk HE.out (by simp)
  have lE := bE1.lt
  have f0 := bE1.at_ 0
  have f1 := bE1.at_ 1
  have f2 := bE1.at_ 2
  have f3 := bE1.at_ 3
  have f4 := bE1.at_ 4
  simp at f0 f1 f2 f3 f4
  clear O1
  cases ok with
  | false =>
    go_wp2
    go_ret2
    exact ⟨rfl, HO1.out⟩
  | true =>
    obtain ⟨m, rfl, hm1, hm6⟩ : ∃ m : Nat, k = (m : Int) ∧ 1 ≤ m ∧ m ≤ 6 := ⟨k.toNat, by have := HOKK.out rfl; omega, by have := HOKK.out rfl; omega, by have := HOKK.out rfl; omega⟩
    have HKC : Hid (kindC[m]? = some (.string (kW (m : Int)))) := Lib.hid (kind_at m hm1 hm6)
    have hks := kW_size (m : Int)
    have hcs : (kO (m : Int) = false ∧ ((m : Int) == 2) = false ∧ ((m : Int) == 3) = false) ∨ (kO (m : Int) = true ∧ m = 2) ∨ (kO (m : Int) = true ∧ m = 3) := by
      by_cases h2 : m = 2
      · exact .inr (.inl ⟨by subst h2; rfl, h2⟩)
      · by_cases h3 : m = 3
        · exact .inr (.inr ⟨by subst h3; rfl, h3⟩)
        · exact .inl ⟨decide_eq_false (by omega), by simp; omega, by simp; omega⟩
    have HCS := Lib.hid hcs
    obtain ⟨kw, hkw⟩ : ∃ x, x = kW (m : Int) := ⟨_, rfl⟩
    rw [← hkw] at HKC hks
    have HKW := Lib.hid hkw
    have HKIN := Lib.hid (Blk.made w1 9 kindC)
    have hsz1 : ¬ (9223372036854775807 < kw.size + 1) := by omega
    have hsz2 : ¬ (9223372036854775807 < kw.size + 1 + s.size) := by omega
    have hsz3 : ¬ (9223372036854775807 < (kw ++ (ByteArray.mk #[32])).size + s.size) := by rw [ByteArray.size_append]; show ¬ (9223372036854775807 < kw.size + 1 + s.size); omega
    have hm7 : (m : Int) < 7 := by omega
    have hm0 : (0 : Int) ≤ (m : Int) := by omega
    clear hcs hkw HOKK
    go_upto_region 3 with (fail)
    refine wp_region_noPanic ?_
    refine wp_region_timed (F := [⟨[], [], fun w' => Only [] w1 w'⟩, ⟨[0], [], fun w' => Blk w' w1.heap.size 9 kindC⟩]) (by kernel_rfl) (timed_holds ((Only.refl [] w1).drew) (timed_waits (by kernel_rfl) (timed_nil))) ?_
    refine timed_pure (i := 1) (v := ?_) rfl (by kernel_rfl) (by kernel_rfl) (by kernel_rfl) (fun _ _ _ h => h) (by kernel_rfl) (by kernel_rfl) ?_ ?_
    rotate_left
    · (intro w; go_simp; try with_reducible rfl)
    try simp only [Act.put, List.getElem_toArray, List.getElem_cons_zero, List.getElem_cons_succ, List.setIfInBounds_toArray, List.set_cons_zero, List.set_cons_succ]
    refine timed_read (i := 2) (v := ?_) 0 rfl (by kernel_rfl) (by kernel_rfl) (by kernel_rfl) (fun _ _ _ h => h) (by kernel_rfl) (by kernel_rfl) rfl (by kernel_rfl) ?_ ?_
    rotate_left
    · (intro wq hSw; (try dsimp only at hSw); first | (have hc := (hSw.blk bE1 (by simp)).at_ 0; have hc1 := (hSw.blk bE1 (by simp)).at_ 1; simp at hc hc1; clear hSw; go_simp; try with_reducible rfl) | (have hc := (hSw.at_ m).trans HKC.out; clear hSw; go_simp; try with_reducible rfl))
    try simp only [Act.put, List.getElem_toArray, List.getElem_cons_zero, List.getElem_cons_succ, List.setIfInBounds_toArray, List.set_cons_zero, List.set_cons_succ]
    refine timed_pure (i := 6) (v := ?_) rfl (by kernel_rfl) (by kernel_rfl) (by kernel_rfl) (fun _ _ _ h => h) (by kernel_rfl) (by kernel_rfl) ?_ ?_
    rotate_left
    · (intro w; go_simp; try with_reducible rfl)
    try simp only [Act.put, List.getElem_toArray, List.getElem_cons_zero, List.getElem_cons_succ, List.setIfInBounds_toArray, List.set_cons_zero, List.set_cons_succ]
    refine timed_read (i := 7) (v := ?_) 0 rfl (by kernel_rfl) (by kernel_rfl) (by kernel_rfl) (fun _ _ _ h => h) (by kernel_rfl) (by kernel_rfl) rfl (by kernel_rfl) ?_ ?_
    rotate_left
    · (intro wq hSw; (try dsimp only at hSw); first | (have hc := (hSw.blk bE1 (by simp)).at_ 0; have hc1 := (hSw.blk bE1 (by simp)).at_ 1; simp at hc hc1; clear hSw; go_simp; try with_reducible rfl) | (have hc := (hSw.at_ m).trans HKC.out; clear hSw; go_simp; try with_reducible rfl))
    try simp only [Act.put, List.getElem_toArray, List.getElem_cons_zero, List.getElem_cons_succ, List.setIfInBounds_toArray, List.set_cons_zero, List.set_cons_succ]
    refine timed_step (i := 0) (by kernel_rfl) rfl (fun K hK => ?_)
    go_simp
    refine (HKI.out _).mono ?_
    rintro e w3 ⟨rfl, rfl⟩
    refine hK.out _ _ (timed_holds (((Only.refl [] w1).drew).alloc _) (timed_holds (Blk.made w1.drew 9 kindC) (timed_nil))) ?_
    clear hK K
    try simp only [Act.put, List.getElem_toArray, List.getElem_cons_zero, List.getElem_cons_succ, List.setIfInBounds_toArray, List.set_cons_zero, List.set_cons_succ]
    refine timed_pure (i := 3) (v := ?_) rfl (by kernel_rfl) (by kernel_rfl) (by kernel_rfl) (fun _ _ _ h => h) (by kernel_rfl) (by kernel_rfl) ?_ ?_
    rotate_left
    · (intro w; go_simp; try with_reducible rfl)
    try simp only [Act.put, List.getElem_toArray, List.getElem_cons_zero, List.getElem_cons_succ, List.setIfInBounds_toArray, List.set_cons_zero, List.set_cons_succ]
    refine timed_read (i := 4) (v := ?_) 1 rfl (by kernel_rfl) (by kernel_rfl) (by kernel_rfl) (fun _ _ _ h => h) (by kernel_rfl) (by kernel_rfl) rfl (by kernel_rfl) ?_ ?_
    rotate_left
    · (intro wq hSw; (try dsimp only at hSw); first | (have hc := (hSw.blk bE1 (by simp)).at_ 0; have hc1 := (hSw.blk bE1 (by simp)).at_ 1; simp at hc hc1; clear hSw; go_simp; try with_reducible rfl) | (have hc := (hSw.at_ m).trans HKC.out; clear hSw; go_simp; try with_reducible rfl))
    try simp only [Act.put, List.getElem_toArray, List.getElem_cons_zero, List.getElem_cons_succ, List.setIfInBounds_toArray, List.set_cons_zero, List.set_cons_succ]
    refine timed_pure (i := 5) (v := ?_) rfl (by kernel_rfl) (by kernel_rfl) (by kernel_rfl) (fun _ _ _ h => h) (by kernel_rfl) (by kernel_rfl) ?_ ?_
    rotate_left
    · (intro w; go_simp; try with_reducible rfl)
    try simp only [Act.put, List.getElem_toArray, List.getElem_cons_zero, List.getElem_cons_succ, List.setIfInBounds_toArray, List.set_cons_zero, List.set_cons_succ]
    refine timed_pure (i := 8) (v := ?_) rfl (by kernel_rfl) (by kernel_rfl) (by kernel_rfl) (fun _ _ _ h => h) (by kernel_rfl) (by kernel_rfl) ?_ ?_
    rotate_left
    · (intro w; go_simp; try with_reducible rfl)
    try simp only [Act.put, List.getElem_toArray, List.getElem_cons_zero, List.getElem_cons_succ, List.setIfInBounds_toArray, List.set_cons_zero, List.set_cons_succ]
    refine timed_pure (i := 9) (v := ?_) rfl (by kernel_rfl) (by kernel_rfl) (by kernel_rfl) (fun _ _ _ h => h) (by kernel_rfl) (by kernel_rfl) ?_ ?_
    rotate_left
    · (intro w; go_simp; try with_reducible rfl)
    try simp only [Act.put, List.getElem_toArray, List.getElem_cons_zero, List.getElem_cons_succ, List.setIfInBounds_toArray, List.set_cons_zero, List.set_cons_succ]
    refine timed_done (by kernel_rfl) ?_ _
    refine NoPanic.normal ?_
    have O2 : Only [] w1 (w1.drew.alloc (.cells kindC 9)) := ((Only.refl [] w1).drew).alloc _
    have HO2 := Lib.hid (HO1.out.trans O2)
    have bE2 := O2.blk bE1 (by simp)
    clear f0 f1 f2 f3 f4 lE bE1 O2 HKIN HKC
    have hbb : (w1.drew.heap.size) = w1.heap.size := rfl
    generalize (w1.drew.alloc (.cells kindC 9)) = w2 at *
    have lE := bE2.lt
    have f0 := bE2.at_ 0
    have f2 := bE2.at_ 2
    have f3 := bE2.at_ 3
    have f4 := bE2.at_ 4
    simp at f0 f2 f3 f4
    rcases HCS.out with ⟨q1, q2, q3⟩ | ⟨q1, rfl⟩ | ⟨q1, rfl⟩
    · have HT : Hid (kw ++ ⟨#[32]⟩ ++ s = T) := Lib.hid (by
        rw [HTX.out, HKW.out]
        apply by_inj
        rw [by_append, by_append]
        unfold evWords
        rw [q1]
        simp [joinW, Lib.join]
        rfl)
      clear q1 HCS
      go_wp2
      go_ret2
      exact ⟨by rw [HT.out]; rfl, HO2.out⟩
    all_goals
      obtain ⟨vt, hvt⟩ : ∃ x, x = (⟨(vText vk vn).toArray⟩ : ByteArray) := ⟨_, rfl⟩
      have HT : Hid (kw ++ ⟨#[32]⟩ ++ s ++ (⟨#[32]⟩ ++ y ++ ⟨#[32]⟩ ++ vt) = T) := Lib.hid (by
        rw [HTX.out, HKW.out, hvt]
        apply by_inj
        simp only [by_append]
        unfold evWords
        rw [q1]
        simp [joinW, Lib.join]
        rfl)
      have hvl : vt.size ≤ 21 := by rw [hvt]; simpa [ByteArray.size] using HVL.out
      rw [← hvt] at HVP
      generalize vErr vk vn = ve at *
      clear q1 HCS hvt
      go_wp2_with fail
      refine (HVP.out _).mono ?_
      rintro e w3 ⟨rfl, O3⟩
      have HO3 := Lib.hid (HO2.out.trans O3)
      have bE3 := O3.blk bE2 (by simp)
      clear lE f0 f2 f3 f4 O3
      have lE := bE3.lt
      have f2 := bE3.at_ 2
      simp at f2
      have g1 : ¬ (9223372036854775807 < 1 + y.size) := by omega
      have g2 : ¬ (9223372036854775807 < 1 + y.size + 1) := by omega
      have g3 : ¬ (9223372036854775807 < 1 + y.size + 1 + vt.size) := by omega
      have g4 : ¬ (9223372036854775807 < kw.size + 1 + s.size + (1 + y.size + 1 + vt.size)) := by omega
      go_wp2
      go_ret2
      exact ⟨by rw [HT.out]; rfl, HO3.out⟩

end Go.Proofs.YtbenjknaklafmaaDoor

set_option linter.unusedVariables false
set_option linter.unusedSimpArgs false
namespace Go.Proofs.YtbenjknaklafmaaDoor
open Go.RowKit
open Go.Lib hiding intOf
attribute [local go_sem ↓] Go.wp_at_zero Go.wp_at_succ

set_option maxRecDepth 100000 in
set_option maxHeartbeats 4000000 in
theorem rlogprint_any (A : Option Addr) (n c B : Nat) (l : List Ev6) (w : World) (hn : l.length = n) (hnm : n ≤ 1000000) (hz : ∀ x ∈ l, EvB x) (hA : Row w B A (logC l)) :
    Calls Tryd.prog 13 #[.slice A n c] w fun e w' => e = .returned (.tuple #[.string (logPrint l).1, .int .i64 (logPrint l).2]) ∧ Only [] w w' := by
  have HMY := Lib.hid (fun (x : Ev6) w' (hx : EvB x) => revmay_any x.k x.s x.y x.vk x.vn x.ln w' (by have := hx.s; omega) (by have := hx.y; omega))
  have HPR := Lib.hid (fun (x : Ev6) w' (hx : EvB x) => revprint_any x.k x.s x.y x.vk x.vn x.ln w' hx.s hx.y hx.n1 hx.n2)
  obtain ⟨r, hr⟩ : ∃ r, r = logPrint l := ⟨_, rfl⟩
  rw [← hr]
  have HR := Lib.hid hr
  have HN := Lib.hid hn
  have HZ := Lib.hid hz
  have HROW := Lib.hid hA
  clear hn hz hA hr
  go_enter Tryd.func13, Tryd.ntmps13
  go_wp2_with fail
  go_loopw [4] (fun iv wr => ∃ (k : Nat), iv = .int .i64 k ∧ k ≤ n ∧ Hid (∀ j x, j < k → l[j]? = some x → okE x = true) ∧ Hid (Only [] w wr)) (fun iv _ => n - (intOf iv).toNat)
  case atStart => exact ⟨0, rfl, by omega, Lib.hid (fun j x h _ => by omega), Lib.hid (Only.refl [] w)⟩
  case round =>
    obtain ⟨k, rfl, hk, hall, hO⟩ := hrel
    by_cases hlt : k < n
    · have h01 : (k : Int) < (n : Int) := by omega
      have hk0 : (0 : Int) ≤ (k : Int) := Int.natCast_nonneg _
      have hwk : IntKind.i64.wrap ((k : Int) + 1) = (k : Int) + 1 := IntWalk.i64_in _ (by omega)
      obtain ⟨x, hx⟩ : ∃ x, l[k]? = some x := ⟨_, List.getElem?_eq_getElem (by rw [HN.out]; exact hlt)⟩
      obtain ⟨b, off, rfl, -, hbw, h1⟩ := row_ev HROW.out hx
      obtain ⟨a0, a1, a2, a3, a4, a5⟩ := h1.only hO.out hbw (by simp)
      have HM1 := Lib.hid (fun w' => HMY.out x w' (HZ.out x (List.mem_of_getElem? hx)))
      have HX := Lib.hid hx
      obtain ⟨ok, hok⟩ : ∃ v, v = okE x := ⟨_, rfl⟩
      have hok2 : evOk x.k x.s x.y x.vk x.vn = ok := hok.symm
      rw [hok2] at HM1
      have HOK := Lib.hid hok
      obtain ⟨xk, xs, xy, xvk, xvn, xln⟩ := x
      dsimp only at a0 a1 a2 a3 a4 a5 HM1
      clear hx h1 hok hok2
      go_wp2_with fail
      refine (HM1.out _).mono ?_
      rintro e w2 ⟨rfl, O2⟩
      have HO2 := Lib.hid (hO.out.trans O2)
      clear a0 a1 a2 a3 a4 a5 O2
      cases ok with
      | false =>
        obtain rfl : r = (⟨#[]⟩, 4) := by
          rw [HR.out]
          unfold logPrint
          rw [if_neg]
          intro h
          have := List.all_eq_true.1 h _ (List.mem_of_getElem? HX.out)
          rw [← HOK.out] at this
          cases this
        go_wp2
        go_ret2
        exact ⟨rfl, HO2.out⟩
      | true =>
        go_wp2
        go_roundw
        case rel =>
          refine ⟨k + 1, by go_num, by omega, Lib.hid (fun j y h hy => ?_), HO2⟩
          rcases Nat.lt_or_ge j k with h2 | h2
          · exact hall.out j y h2 hy
          · have : j = k := by omega
            subst this
            rw [HX.out] at hy
            obtain rfl := Option.some.inj hy
            exact HOK.out.symm
        case measure => simp [intOf]; omega
    · have hkn : k = n := by omega
      subst hkn
      have hd : decide ((k : Int) < (k : Int)) = false := by simp
      have HALL : Hid (l.all okE = true) := Lib.hid (List.all_eq_true.2 fun x hx => by
        obtain ⟨j, hj⟩ := List.getElem?_of_mem hx
        exact hall.out j x (by rw [← HN.out]; exact (List.getElem?_eq_some_iff.1 hj).1) hj)
      have HRR : Hid (r = match printOf l [] with | some t => (⟨t.toArray⟩, 0) | none => (⟨#[]⟩, 6)) := Lib.hid (by rw [HR.out]; unfold logPrint; rw [if_pos HALL.out]; cases printOf l [] <;> rfl)
      obtain ⟨wo, hwo⟩ : ∃ wo : World, wo = wr := ⟨_, rfl⟩
      subst hwo
      clear hall HR HALL hlt
      go_wp2_with fail
      go_loopw [5, 6] (fun tv iv wr => ∃ (j : Nat) (acc : ByteArray), iv = .int .i64 j ∧ tv = .string acc ∧ j ≤ k ∧ acc.size ≤ 65536 ∧ Hid (printOf l [] = printOf (l.drop j) (by_ acc)) ∧ Hid (Only [] w wr)) (fun _ iv _ => k - (intOf iv).toNat)
      case atStart => exact ⟨0, ⟨#[]⟩, rfl, rfl, by omega, by decide, Lib.hid rfl, hO⟩
      case round =>
        obtain ⟨j, acc, rfl, rfl, hj, hacc, hP, hO'⟩ := hrel
        by_cases hlt : j < k
        · have h01 : (j : Int) < (k : Int) := by omega
          have hj0 : (0 : Int) ≤ (j : Int) := Int.natCast_nonneg _
          have hwj : IntKind.i64.wrap ((j : Int) + 1) = (j : Int) + 1 := IntWalk.i64_in _ (by omega)
          obtain ⟨x, hx⟩ : ∃ x, l[j]? = some x := ⟨_, List.getElem?_eq_getElem (by rw [HN.out]; exact hlt)⟩
          obtain ⟨b, off, rfl, -, hbw, h1⟩ := row_ev HROW.out hx
          obtain ⟨a0, a1, a2, a3, a4, a5⟩ := h1.only hO'.out hbw (by simp)
          have hbx := HZ.out x (List.mem_of_getElem? hx)
          have hts : (evT x).size ≤ 5000 := evT_size hbx
          have HP1 := Lib.hid (fun w' => HPR.out x w' hbx)
          have hpo : printOf (l.drop j) (by_ acc) = if 65536 < (by_ acc).length + (evT x).size + 1 then none else printOf (l.drop (j + 1)) (by_ acc ++ by_ (evT x) ++ [10]) := by
            obtain ⟨h1, h2⟩ := List.getElem?_eq_some_iff.1 hx
            rw [List.drop_eq_getElem_cons h1, h2]
            rfl
          have HPO := Lib.hid (hP.out.trans hpo)
          have hte : evText x.k x.s x.y x.vk x.vn = evT x := rfl
          rw [hte] at HP1
          generalize evT x = T at *
          generalize evErr x.k x.s x.y x.vk x.vn = ve at *
          obtain ⟨xk, xs, xy, xvk, xvn, xln⟩ := x
          dsimp only at a0 a1 a2 a3 a4 a5 HP1
          clear hx h1 hbx hpo hte
          go_wp2_with fail
          refine (HP1.out _).mono ?_
          rintro e w3 ⟨rfl, O3⟩
          have HO3 := Lib.hid (hO'.out.trans O3)
          have q1 : ¬ (9223372036854775807 < T.size + 1) := by omega
          have q2 : ¬ (9223372036854775807 < acc.size + (T.size + 1)) := by omega
          have hnew : (acc ++ (T ++ (⟨#[10]⟩ : ByteArray))).size = acc.size + T.size + 1 := by rw [ByteArray.size_append, ByteArray.size_append]; show acc.size + (T.size + 1) = _; omega
          have hnb : by_ (acc ++ (T ++ (⟨#[10]⟩ : ByteArray))) = by_ acc ++ by_ T ++ [10] := by rw [by_append, by_append, List.append_assoc]; rfl
          have HNB := Lib.hid hnb
          have HNS := Lib.hid hnew
          clear a0 a1 a2 a3 a4 a5 O3 HP1 hnb hnew
          by_cases hlong : 65536 < acc.size + T.size + 1
          · have hl1 : (65536 : Int) < (acc.size : Int) + ((T.size : Int) + 1) := by omega
            have hl2 : 65536 < acc.size + (T.size + 1) := by omega
            obtain rfl : r = (⟨#[]⟩, 6) := by rw [HRR.out, HPO.out, if_pos (by rw [by_length]; exact hlong)]
            clear HRR HPO hlong
            go_wp2
            go_ret2
            exact ⟨rfl, HO3.out⟩
          · have hl1 : decide ((65536 : Int) < (acc.size : Int) + ((T.size : Int) + 1)) = false := decide_eq_false (by omega)
            have hl2 : decide (65536 < acc.size + (T.size + 1)) = false := decide_eq_false (by omega)
            have HP2 : Hid (printOf l [] = printOf (l.drop (j + 1)) (by_ (acc ++ (T ++ (⟨#[10]⟩ : ByteArray))))) := Lib.hid (by rw [HPO.out, if_neg (by rw [by_length]; exact hlong), HNB.out])
            clear hlong HPO
            go_wp2
            go_roundw
            case rel => exact ⟨j + 1, acc ++ (T ++ (⟨#[10]⟩ : ByteArray)), by go_num, rfl, by omega, by rw [HNS.out]; simp at hl2; omega, HP2, HO3⟩
            case measure => simp [intOf]; omega
        · have hjk : j = k := by omega
          subst hjk
          have hd2 : decide ((j : Int) < (j : Int)) = false := by simp
          have hpr : printOf l [] = some (by_ acc) := by rw [hP.out, List.drop_of_length_le (by rw [HN.out]; exact Nat.le_refl _)]; rfl
          obtain rfl : r = (acc, 0) := by rw [HRR.out, hpr]; rfl
          clear hpr HRR hP
          go_wp2
          go_ret2
          exact ⟨rfl, hO'.out⟩

end Go.Proofs.YtbenjknaklafmaaDoor

set_option linter.unusedVariables false
set_option linter.unusedSimpArgs false
namespace Go.Proofs.YtbenjknaklafmaaDoor
open Go.RowKit
open Go.Lib hiding intOf
attribute [local go_sem ↓] Go.wp_at_zero Go.wp_at_succ

def cnt (kind : Int) (l : List Ev6) : Nat := l.countP fun x => decide (x.k = kind)
theorem cnt_le (kind : Int) (l : List Ev6) : cnt kind l ≤ l.length := List.countP_le_length
theorem cnt_take (kind : Int) (l : List Ev6) (k : Nat) (x : Ev6) (h : l[k]? = some x) : cnt kind (l.take (k + 1)) = cnt kind (l.take k) + if x.k = kind then 1 else 0 := by
  unfold cnt
  rw [List.take_add_one, h, List.countP_append]
  by_cases hk : x.k = kind <;> simp [hk]

set_option maxRecDepth 100000 in
set_option maxHeartbeats 4000000 in
theorem count_any (A : Option Addr) (n c B : Nat) (l : List Ev6) (kind : Int) (w : World) (hn : l.length = n) (hnm : n ≤ 1000000) (hA : Row w B A (logC l)) :
    Calls Tryd.prog 14 #[.slice A n c, .int .i64 kind] w fun e w' => e = .returned (.int .i64 (cnt kind l)) ∧ Only [] w w' := by
  have HN := Lib.hid hn
  have HROW := Lib.hid hA
  clear hn hA
  go_enter Tryd.func14, Tryd.ntmps14
  go_wp2_with fail
  go_loopw [5, 10] (fun cv iv wr => ∃ (k q : Nat), iv = .int .i64 k ∧ k ≤ n ∧ cv = .int .i64 q ∧ q ≤ k ∧ Hid (q = cnt kind (l.take k)) ∧ Hid (Only [] w wr)) (fun _ iv _ => n - (intOf iv).toNat)
  case atStart => exact ⟨0, 0, rfl, by omega, rfl, by omega, Lib.hid rfl, Lib.hid (Only.refl [] w)⟩
  case round =>
    obtain ⟨k, q, rfl, hk, rfl, hq, hQ, hO⟩ := hrel
    by_cases hlt : k < n
    · have h01 : (k : Int) < (n : Int) := by omega
      have hk0 : (0 : Int) ≤ (k : Int) := Int.natCast_nonneg _
      have hwk : IntKind.i64.wrap ((k : Int) + 1) = (k : Int) + 1 := IntWalk.i64_in _ (by omega)
      have hwq : IntKind.i64.wrap ((q : Int) + 1) = (q : Int) + 1 := IntWalk.i64_in _ (by omega)
      obtain ⟨x, hx⟩ : ∃ x, l[k]? = some x := ⟨_, List.getElem?_eq_getElem (by rw [HN.out]; exact hlt)⟩
      obtain ⟨b, off, rfl, -, hbw, h1⟩ := row_ev HROW.out hx
      obtain ⟨a0, a1, a2, a3, a4, a5⟩ := h1.only hO.out hbw (by simp)
      have HCT := Lib.hid (cnt_take kind l k x hx)
      obtain ⟨xk, xs, xy, xvk, xvn, xln⟩ := x
      dsimp only at a0 a1 a2 a3 a4 a5 HCT
      clear hx h1
      by_cases he : xk = kind
      · subst he
        have HQ2 : Hid (q + 1 = cnt xk (l.take (k + 1))) := Lib.hid (by rw [HCT.out, if_pos rfl, hQ.out])
        go_wp2
        go_roundw
        case rel => exact ⟨k + 1, q + 1, by go_num, by omega, by go_num, by omega, HQ2, Lib.hid (hO.out.alloc _)⟩
        case measure => simp [intOf]; omega
      · have hne : (xk == kind) = false := by simpa using he
        have HQ2 : Hid (q = cnt kind (l.take (k + 1))) := Lib.hid (by rw [HCT.out, if_neg he, hQ.out]; rfl)
        clear he
        go_wp2
        go_roundw
        case rel => exact ⟨k + 1, q, by go_num, by omega, rfl, by omega, HQ2, Lib.hid (hO.out.alloc _)⟩
        case measure => simp [intOf]; omega
    · have hkn : k = n := by omega
      subst hkn
      have hd : decide ((k : Int) < (k : Int)) = false := by simp
      have hall : q = cnt kind l := by rw [hQ.out, List.take_of_length_le (by rw [HN.out]; exact Nat.le_refl _)]
      have HALL := Lib.hid hall
      clear hall
      go_wp2
      go_ret
      exact ⟨by rw [HALL.out]; rfl, hO.out⟩

set_option maxRecDepth 100000 in
set_option maxHeartbeats 4000000 in
theorem rcount_any (A : Option Addr) (n c B : Nat) (l : List Ev6) (kind : Int) (w : World) (hn : l.length = n) (hnm : n ≤ 1000000) (hA : Row w B A (logC l)) :
    Calls Tryd.prog 15 #[.slice A n c, .int .i64 kind] w fun e w' => e = .returned (.int .i64 (cnt kind l)) ∧ Only [] w w' := by
  have HN := Lib.hid hn
  have HROW := Lib.hid hA
  clear hn hA
  go_enter Tryd.func15, Tryd.ntmps15
  go_wp2_with fail
  go_loopw [5, 6] (fun cv iv wr => ∃ (k q : Nat), iv = .int .i64 k ∧ k ≤ n ∧ cv = .int .i64 q ∧ q ≤ k ∧ Hid (q = cnt kind (l.take k)) ∧ Hid (Only [] w wr)) (fun _ iv _ => n - (intOf iv).toNat)
  case atStart => exact ⟨0, 0, rfl, by omega, rfl, by omega, Lib.hid rfl, Lib.hid (Only.refl [] w)⟩
  case round =>
    obtain ⟨k, q, rfl, hk, rfl, hq, hQ, hO⟩ := hrel
    by_cases hlt : k < n
    · have h01 : (k : Int) < (n : Int) := by omega
      have hk0 : (0 : Int) ≤ (k : Int) := Int.natCast_nonneg _
      have hwk : IntKind.i64.wrap ((k : Int) + 1) = (k : Int) + 1 := IntWalk.i64_in _ (by omega)
      have hwq : IntKind.i64.wrap ((q : Int) + 1) = (q : Int) + 1 := IntWalk.i64_in _ (by omega)
      obtain ⟨x, hx⟩ : ∃ x, l[k]? = some x := ⟨_, List.getElem?_eq_getElem (by rw [HN.out]; exact hlt)⟩
      obtain ⟨b, off, rfl, -, hbw, h1⟩ := row_ev HROW.out hx
      obtain ⟨a0, a1, a2, a3, a4, a5⟩ := h1.only hO.out hbw (by simp)
      have HCT := Lib.hid (cnt_take kind l k x hx)
      obtain ⟨xk, xs, xy, xvk, xvn, xln⟩ := x
      dsimp only at a0 a1 a2 a3 a4 a5 HCT
      clear hx h1 a1 a2 a3 a4 a5
      by_cases he : xk = kind
      · subst he
        have HQ2 : Hid (q + 1 = cnt xk (l.take (k + 1))) := Lib.hid (by rw [HCT.out, if_pos rfl, hQ.out])
        go_wp2
        go_roundw
        case rel => exact ⟨k + 1, q + 1, by go_num, by omega, by go_num, by omega, HQ2, hO⟩
        case measure => simp [intOf]; omega
      · have hne : (xk == kind) = false := by simpa using he
        have HQ2 : Hid (q = cnt kind (l.take (k + 1))) := Lib.hid (by rw [HCT.out, if_neg he, hQ.out]; rfl)
        clear he
        go_wp2
        go_roundw
        case rel => exact ⟨k + 1, q, by go_num, by omega, rfl, by omega, HQ2, hO⟩
        case measure => simp [intOf]; omega
    · have hkn : k = n := by omega
      subst hkn
      have hd : decide ((k : Int) < (k : Int)) = false := by simp
      have hall : q = cnt kind l := by rw [hQ.out, List.take_of_length_le (by rw [HN.out]; exact Nat.le_refl _)]
      have HALL := Lib.hid hall
      clear hall
      go_wp2
      go_ret
      exact ⟨by rw [HALL.out]; rfl, hO.out⟩

end Go.Proofs.YtbenjknaklafmaaDoor

set_option linter.unusedVariables false
set_option linter.unusedSimpArgs false
namespace Go.Proofs.YtbenjknaklafmaaDoor
open Go.RowKit
open Go.Lib hiding intOf
attribute [local go_sem ↓] Go.wp_at_zero Go.wp_at_succ

set_option maxRecDepth 100000 in
set_option maxHeartbeats 8000000 in
theorem logPrints_walk (A : Option Addr) (n c : Nat) (l : List Ev6) (kind : Int) (w : World) (hn : l.length = n) (hc : n ≤ c) (hcm : c ≤ maxLen) (hz : ∀ x ∈ l, x.s.size ≤ maxLen ∧ x.y.size ≤ maxLen ∧ -9223372036854775808 ≤ x.vn ∧ x.vn ≤ 9223372036854775807) (hA : Row w w.heap.size A (logC l)) (hT : UTabs w) (hM : MLen w) (hV : Verbs w) :
    Calls Tryd.prog 4 #[.slice A n c, .int .i64 kind] w fun e w' => e = .returned (.bool true) ∧ Only [] w w' := by
  unfold maxLen at hcm hz
  have hxb : ∀ x ∈ few8 l, EvB x := by
    intro x hx
    obtain ⟨y, hy, rfl⟩ := List.mem_map.1 hx
    have := hz y (List.mem_of_mem_take hy)
    have h1 := short8_size y.s
    have h2 := short8_size y.y
    exact ⟨by show (short8 y.s).size ≤ 2000; omega, by show (short8 y.y).size ≤ 2000; omega, this.2.2.1, this.2.2.2⟩
  have HW := Lib.hid (fun w' (hO : Only [] w w') => works08_any w' (hT.only hO) (hM.only hO) (hV.only hO))
  have HF1 := Lib.hid (few8_any A n c w.heap.size l w hn (by omega) (fun x hx => ⟨by have := (hz x hx).1; omega, by have := (hz x hx).2.1; omega⟩) hA)
  have hff := few8_few8 l
  have hfl := few8_len l
  clear hA hz hn hc hcm
  generalize few8 l = xs at *
  generalize hm : xs.length = m at *
  have HF2 := Lib.hid (fun A' c' B' w' hA' => few8_any A' m c' B' xs w' hm (by omega) (fun x hx => ⟨by have := (hxb x hx).s; omega, by have := (hxb x hx).y; omega⟩) hA')
  rw [hff, hm] at HF2
  have HPR := Lib.hid (fun A' c' B' w' (hO : Only [] w w') hA' => logprint_any A' m c' B' xs w' hm (by omega) hxb hA' (hT.only hO) (hV.only hO))
  have HRP := Lib.hid (fun A' c' B' w' hA' => rlogprint_any A' m c' B' xs w' hm (by omega) hxb hA')
  have HCN := Lib.hid (fun A' c' B' w' hA' => count_any A' m c' B' xs kind w' hm (by omega) hA')
  have HRC := Lib.hid (fun A' c' B' w' hA' => rcount_any A' m c' B' xs kind w' hm (by omega) hA')
  generalize logPrint xs = pr at *
  obtain ⟨T, E⟩ := pr
  dsimp only at HPR HRP
  generalize cnt kind xs = q at *
  have HM := Lib.hid hm
  have hTT : (T.toList == T.toList) = true := by simp
  clear hT hM hV hff hm hxb
  go_enter Tryd.func4, Tryd.ntmps4
  go_wp2_with fail
  refine (HF1.out).mono ?_
  rintro e w2 ⟨O2, V1, rfl, hown, -⟩
  obtain ⟨A1, c1, rfl, -, -, -, hrow1⟩ := own_row hown
  have HO2 := Lib.hid O2
  have HR2 := Lib.hid hrow1
  clear O2 hown hrow1 HF1
  go_wp2_with fail
  refine (HF2.out A1 c1 _ w2 HR2.out).mono ?_
  rintro e w3 ⟨O3, V2, rfl, hown2, -⟩
  obtain ⟨A2, c2, rfl, -, -, -, hrow2⟩ := own_row hown2
  have HO3 := Lib.hid (HO2.out.trans O3)
  have HQ3 := Lib.hid hrow2
  have HR3 := Lib.hid (HR2.out.only O3 (by simp))
  clear O3 hown2 hrow2
  go_wp2_with fail
  refine (HPR.out A2 c2 _ w3 HO3.out HQ3.out).mono ?_
  rintro e w4 ⟨rfl, O4⟩
  have HO4 := Lib.hid (HO3.out.trans O4)
  have HR4 := Lib.hid (HR3.out.only O4 (by simp))
  clear O4
  go_wp2_with fail
  refine (HRP.out A1 c1 _ w4 HR4.out).mono ?_
  rintro e w5 ⟨rfl, O5⟩
  have HO5 := Lib.hid (HO4.out.trans O5)
  have HR5 := Lib.hid (HR4.out.only O5 (by simp))
  clear O5
  go_wp2_with fail
  refine (HF2.out A1 c1 _ w5 HR5.out).mono ?_
  rintro e w6 ⟨O6, V6, rfl, hown6, -⟩
  obtain ⟨A6, c6, rfl, -, -, -, hrow6⟩ := own_row hown6
  have HO6 := Lib.hid (HO5.out.trans O6)
  have HQ6 := Lib.hid hrow6
  have HR6 := Lib.hid (HR5.out.only O6 (by simp))
  clear O6 hown6 hrow6
  go_wp2_with fail
  refine (HCN.out A6 c6 _ w6 HQ6.out).mono ?_
  rintro e w7 ⟨rfl, O7⟩
  have HO7 := Lib.hid (HO6.out.trans O7)
  have HR7 := Lib.hid (HR6.out.only O7 (by simp))
  clear O7
  go_wp2_with fail
  refine (HRC.out A1 c1 _ w7 HR7.out).mono ?_
  rintro e w8 ⟨rfl, O8⟩
  have HO8 := Lib.hid (HO7.out.trans O8)
  clear O8
  go_wp2_with fail
  refine (HW.out _ HO8.out).mono ?_
  rintro e w9 ⟨rfl, O9⟩
  have HO9 := Lib.hid (HO8.out.trans O9)
  clear O9
  go_wp2
  go_ret
  exact ⟨rfl, HO9.out⟩

end Go.Proofs.YtbenjknaklafmaaDoor
