/- Parts. -/
import Derived.Test.YthdofaoamljkfaaGreatDoorLaw24AllK5
import Derived.OwnWalk
set_option maxRecDepth 10000
set_option maxHeartbeats 16000000
set_option linter.unusedVariables false
set_option linter.unusedSimpArgs false
namespace Go.Proofs.YthdofaoamljkfaaGreatDoor
open Go.RowKit
open Go.Lib hiding intOf
attribute [local go_sem ↓] Go.wp_at_zero Go.wp_at_succ
def dnAt (s : ByteArray) (pos : Nat) : Nat × Nat := decodeN (s.size - pos) ((by_ s).getD pos 0).toNat ((by_ s).getD (pos + 1) 0).toNat ((by_ s).getD (pos + 2) 0).toNat ((by_ s).getD (pos + 3) 0).toNat
theorem dn_of_sz0 {n b0 b1 b2 b3 : Nat} (h : szOf n b0 b1 b2 b3 = 0) : decodeN n b0 b1 b2 b3 = (65533, 1) := by
 unfold szOf at h
 split at h
 ·assumption
 ·rcases decodeN_shape n b0 b1 b2 b3 with ⟨c, e⟩ | ⟨c1, c2, c3, cv, e⟩ | ⟨c1, c2, c3, c4, cv, cs, e⟩ | ⟨c1, c2, c3, c4, c5, cv, cw, e⟩ | e <;> rw [e] at h <;> first | (simp at h; done) | exact e
theorem dn_two {n b0 b1 b2 b3 : Nat} (h0 : 194 ≤ b0) (h1 : b0 ≤ 223) (h : 2 ≤ n) (hl : 128 ≤ b1) (hu : b1 ≤ 191) : decodeN n b0 b1 b2 b3 = ((b0 - 192) * 64 + (b1 - 128), 2) := by
 have a1 : b0 % 32 = b0 - 192 := by omega
 have a2 : b1 % 64 = b1 - 128 := by omega
 unfold decodeN;rw [if_neg (by omega), if_pos ⟨by omega, by omega, by omega⟩, if_pos (by omega), a1, a2]
theorem dn_three {n b0 b1 b2 b3 : Nat} (h0 : 224 ≤ b0) (h1 : b0 ≤ 239) (h : 3 ≤ n) (hl : 128 ≤ b1) (hu : b1 ≤ 191) (hl2 : 128 ≤ b2) (hu2 : b2 ≤ 191)
  (hv : 2048 ≤ (b0 - 224) * 4096 + (b1 - 128) * 64 + (b2 - 128)) (hs : (b0 - 224) * 4096 + (b1 - 128) * 64 + (b2 - 128) < 55296 ∨ 57343 < (b0 - 224) * 4096 + (b1 - 128) * 64 + (b2 - 128)) : decodeN n b0 b1 b2 b3 = ((b0 - 224) * 4096 + (b1 - 128) * 64 + (b2 - 128), 3) := by
 have a1 : b0 % 16 = b0 - 224 := by omega
 have a2 : b1 % 64 = b1 - 128 := by omega
 have a3 : b2 % 64 = b2 - 128 := by omega
 unfold decodeN;rw [if_neg (by omega), if_neg (by omega), if_pos ⟨by omega, ⟨by omega, by omega⟩, by omega, by omega⟩, a1, a2, a3, if_pos ⟨by omega, by omega⟩]
theorem dn_four {n b0 b1 b2 b3 : Nat} (h0 : 240 ≤ b0) (h1 : b0 ≤ 244) (h : 4 ≤ n) (hl : 128 ≤ b1) (hu : b1 ≤ 191) (hl2 : 128 ≤ b2) (hu2 : b2 ≤ 191) (hl3 : 128 ≤ b3) (hu3 : b3 ≤ 191)
  (hv : 65536 ≤ (b0 - 240) * 262144 + (b1 - 128) * 4096 + (b2 - 128) * 64 + (b3 - 128)) (hs : (b0 - 240) * 262144 + (b1 - 128) * 4096 + (b2 - 128) * 64 + (b3 - 128) ≤ 1114111) : decodeN n b0 b1 b2 b3 = ((b0 - 240) * 262144 + (b1 - 128) * 4096 + (b2 - 128) * 64 + (b3 - 128), 4) := by
 have a1 : b0 % 8 = b0 - 240 := by omega
 have a2 : b1 % 64 = b1 - 128 := by omega
 have a3 : b2 % 64 = b2 - 128 := by omega
 have a4 : b3 % 64 = b3 - 128 := by omega
 unfold decodeN;rw [if_neg (by omega), if_neg (by omega), if_neg (by omega), if_pos ⟨by omega, ⟨by omega, by omega⟩, ⟨by omega, by omega⟩, by omega, by omega⟩, a1, a2, a3, a4, if_pos ⟨by omega, by omega⟩]
theorem rone_ascii (s : ByteArray) (pos : Nat) (w : World) (h : pos < s.size) (hb : ((by_ s).getD pos 0).toNat < 128) :
  Calls Tryz.prog 97 #[.string s, .int .i64 (pos : Int)] w fun e w' => e = .returned (.tuple #[.int .i64 1, .int .i64 (((by_ s).getD pos 0).toNat : Int)]) ∧ w = w' := by
 rw [← byte_at s pos h] at hb ⊢;have hp0 : (0 : Int) ≤ (pos : Int) := Int.natCast_nonneg _;have hp1 : (pos : Int) < (s.size : Int) := by omega
 have hb1 : (s[pos].toNat : Int) < 128 := by omega
 go_enter Tryz.func97, Tryz.ntmps97;go_wp2
 go_ret2
 exact ⟨rfl, rfl⟩
theorem rone_none (s : ByteArray) (pos : Nat) (w : World) (h : pos < s.size) (h0 : 128 ≤ ((by_ s).getD pos 0).toNat) (hb : ((by_ s).getD pos 0).toNat < 194 ∨ 244 < ((by_ s).getD pos 0).toNat) :
  Calls Tryz.prog 97 #[.string s, .int .i64 (pos : Int)] w fun e w' => e = .returned (.tuple #[.int .i64 1, .int .i64 65533]) ∧ w = w' := by
 rw [← byte_at s pos h] at hb h0;have hlt := UInt8.toNat_lt s[pos];have hp0 : (0 : Int) ≤ (pos : Int) := Int.natCast_nonneg _;have hp1 : (pos : Int) < (s.size : Int) := by omega
 generalize hx : s[pos].toNat = x at *;have hb1 : decide ((x : Int) < 128) = false := by simp; omega
 rcases hb with hb | hb
 ·have a1 : decide (194 ≤ (x : Int)) = false := by simp; omega
  have a2 : decide (224 ≤ (x : Int)) = false := by simp; omega
  have a3 : decide (240 ≤ (x : Int)) = false := by simp; omega
  go_enter Tryz.func97, Tryz.ntmps97;go_wp2
  go_ret2
  exact ⟨rfl, rfl⟩
 ·have a1 : 194 ≤ (x : Int) := by omega
  have a2 : 224 ≤ (x : Int) := by omega
  have a3 : 240 ≤ (x : Int) := by omega
  have a4 : decide ((x : Int) ≤ 223) = false := by simp; omega
  have a5 : decide ((x : Int) ≤ 239) = false := by simp; omega
  have a6 : decide ((x : Int) ≤ 244) = false := by simp; omega
  go_enter Tryz.func97, Tryz.ntmps97;go_wp2
  go_ret2
  exact ⟨rfl, rfl⟩
set_option maxRecDepth 100000 in
theorem rone_two (s : ByteArray) (pos : Nat) (w : World) (h : pos < s.size) (hs : s.size ≤ 65537) (h0 : 194 ≤ ((by_ s).getD pos 0).toNat) (h1 : ((by_ s).getD pos 0).toNat ≤ 223) :
  Calls Tryz.prog 97 #[.string s, .int .i64 (pos : Int)] w fun e w' => e = .returned (.tuple #[.int .i64 ((dnAt s pos).2 : Nat), .int .i64 ((dnAt s pos).1 : Nat)]) ∧ w = w' := by
 have hp0 : (0 : Int) ≤ (pos : Int) := Int.natCast_nonneg _;have hp1 : (pos : Int) < (s.size : Int) := by omega
 have hx := byte_at s pos h;have hz : dnAt s pos = decodeN (s.size - pos) ((by_ s).getD pos 0).toNat ((by_ s).getD (pos + 1) 0).toNat ((by_ s).getD (pos + 2) 0).toNat ((by_ s).getD (pos + 3) 0).toNat := rfl;have hl1 := byte_lt s (pos + 1);have hl2 := byte_lt s (pos + 2);have hl3 := byte_lt s (pos + 3);have hx1 : (hh : pos + 1 < s.size) → s[pos + 1].toNat = ((by_ s).getD (pos + 1) 0).toNat := fun hh => byte_at s (pos + 1) hh;generalize ((by_ s).getD pos 0).toNat = x at *;generalize ((by_ s).getD (pos + 1) 0).toNat = y1 at *;generalize ((by_ s).getD (pos + 2) 0).toNat = y2 at *;generalize ((by_ s).getD (pos + 3) 0).toNat = y3 at *;obtain ⟨z, hze⟩ : ∃ z, z = dnAt s pos := ⟨_, rfl⟩;rw [← hze];rw [← hze] at hz;have HZ := Hd hz;clear hze hz;have a0 : decide ((x : Int) < 128) = false := by simp; omega
 have a1 : 194 ≤ (x : Int) := by omega
 have a4 : (x : Int) ≤ 223 := by omega
 have a2 : decide (224 ≤ (x : Int)) = false := by simp; omega
 have a3 : decide (240 ≤ (x : Int)) = false := by simp; omega
 by_cases hsh : pos + 2 ≤ s.size
 ·have hpp : decide ((s.size : Int) < (pos : Int) + 2) = false := by simp; omega
  have g1 := hx1 (by omega);have q1 : (pos : Int) + 1 < (s.size : Int) := by omega
  clear hx1;go_enter Tryz.func97, Tryz.ntmps97;go_wp2
  go_loop [9, 10] (fun v i => ∃ (k V : Nat), i = .int .i64 k ∧ v = .int .i64 V ∧ V < 4194304 ∧ Hid ((k = 1 ∧ V = x - 192) ∨ (k = 2 ∧ 128 ≤ y1 ∧ y1 ≤ 191 ∧ V = 64 * (x - 192) + (y1 - 128)))) (fun _ i => 2 - (intOf i).toNat)
  case atStart => exact ⟨1, x - 192, rfl, by rw [show ((x - 192 : Nat) : Int) = (x : Int) - 192 by omega], by omega, Hd (.inl ⟨rfl, rfl⟩)⟩
  case round =>
   obtain ⟨k, V, rfl, rfl, hVb, HREL⟩ := hrel;rcases HREL.out with ⟨rfl, hV⟩ | ⟨rfl, c1, d1, hV⟩
   ·have HV := Hd hV;clear hV HREL
    by_cases e1 : y1 < 128
    ·have hz0 : z = (65533, 1) := by rw [HZ.out]; exact dn_of_sz0 (sz_two_bad (by omega) (by omega) (by omega) (by omega))
     have HZ0 := Hd hz0;have f1 : (y1 : Int) < 128 := by omega
     clear hz0 HZ;go_wp2
     go_ret2
     exact ⟨by rw [HZ0.out]; rfl, rfl⟩
    ·by_cases e2 : 191 < y1
     ·have hz0 : z = (65533, 1) := by rw [HZ.out]; exact dn_of_sz0 (sz_two_bad (by omega) (by omega) (by omega) (by omega))
      have HZ0 := Hd hz0;have f1 : decide ((y1 : Int) < 128) = false := by simp; omega
      have f2 : 191 < (y1 : Int) := by omega
      clear hz0 HZ;go_wp2
      go_ret2
      exact ⟨by rw [HZ0.out]; rfl, rfl⟩
     ·have f1 : decide ((y1 : Int) < 128) = false := by simp; omega
      have f2 : decide (191 < (y1 : Int)) = false := by simp; omega
      have HR2 : Hid (128 ≤ y1 ∧ y1 ≤ 191 ∧ 64 * V + (y1 - 128) = 64 * (x - 192) + (y1 - 128)) := Hd (by have := HV.out; omega);have hvb : V ≤ 31 := by have := HV.out; omega
      go_wp2
      go_round
      case rel => exact ⟨2, 64 * V + (y1 - 128), rfl, by congr 1; omega, by omega, Hd (.inr (⟨rfl, HR2.out⟩))⟩
      case measure => simp [intOf]
   ·have HV := Hd hV;clear hV HREL;have hz0 : z = (V, 2) := by rw [HZ.out]; exact (dn_two (by omega) (by omega) (by omega) (by omega) (by omega)).trans (Prod.ext (by have := HV.out; show (_ : Nat) = V; omega) rfl)
    have HZ0 := Hd hz0;have f1 : decide ((V : Int) < 128) = false := by have := HV.out; simp; omega
    have f2 : decide (1114111 < (V : Int)) = false := by have := HV.out; simp; omega
    have f3 : decide (55296 ≤ (V : Int)) = false := by have := HV.out; simp; omega
    clear hz0 HZ;go_wp2
    go_ret2
    exact ⟨by rw [HZ0.out]; rfl, rfl⟩
 ·have hpp : (s.size : Int) < (pos : Int) + 2 := by omega
  have hz0 : z = (65533, 1) := by rw [HZ.out]; exact dn_of_sz0 (sz_two_bad (by omega) (by omega) (by omega) (by omega))
  have HZ0 := Hd hz0;clear hz0 HZ hx1;go_enter Tryz.func97, Tryz.ntmps97;go_wp2
  go_ret2
  exact ⟨by rw [HZ0.out]; rfl, rfl⟩
set_option maxRecDepth 100000 in
theorem rone_three (s : ByteArray) (pos : Nat) (w : World) (h : pos < s.size) (hs : s.size ≤ 65537) (h0 : 224 ≤ ((by_ s).getD pos 0).toNat) (h1 : ((by_ s).getD pos 0).toNat ≤ 239) :
  Calls Tryz.prog 97 #[.string s, .int .i64 (pos : Int)] w fun e w' => e = .returned (.tuple #[.int .i64 ((dnAt s pos).2 : Nat), .int .i64 ((dnAt s pos).1 : Nat)]) ∧ w = w' := by
 have hp0 : (0 : Int) ≤ (pos : Int) := Int.natCast_nonneg _;have hp1 : (pos : Int) < (s.size : Int) := by omega
 have hx := byte_at s pos h;have hz : dnAt s pos = decodeN (s.size - pos) ((by_ s).getD pos 0).toNat ((by_ s).getD (pos + 1) 0).toNat ((by_ s).getD (pos + 2) 0).toNat ((by_ s).getD (pos + 3) 0).toNat := rfl;have hl1 := byte_lt s (pos + 1);have hl2 := byte_lt s (pos + 2);have hl3 := byte_lt s (pos + 3);have hx1 : (hh : pos + 1 < s.size) → s[pos + 1].toNat = ((by_ s).getD (pos + 1) 0).toNat := fun hh => byte_at s (pos + 1) hh;have hx2 : (hh : pos + 2 < s.size) → s[pos + 2].toNat = ((by_ s).getD (pos + 2) 0).toNat := fun hh => byte_at s (pos + 2) hh;generalize ((by_ s).getD pos 0).toNat = x at *;generalize ((by_ s).getD (pos + 1) 0).toNat = y1 at *;generalize ((by_ s).getD (pos + 2) 0).toNat = y2 at *;generalize ((by_ s).getD (pos + 3) 0).toNat = y3 at *;obtain ⟨z, hze⟩ : ∃ z, z = dnAt s pos := ⟨_, rfl⟩;rw [← hze];rw [← hze] at hz;have HZ := Hd hz;clear hze hz;have a0 : decide ((x : Int) < 128) = false := by simp; omega
 have a1 : 194 ≤ (x : Int) := by omega
 have a4 : decide ((x : Int) ≤ 223) = false := by simp; omega
 have a2 : 224 ≤ (x : Int) := by omega
 have a5 : (x : Int) ≤ 239 := by omega
 have a3 : decide (240 ≤ (x : Int)) = false := by simp; omega
 by_cases hsh : pos + 3 ≤ s.size
 ·have hpp : decide ((s.size : Int) < (pos : Int) + 3) = false := by simp; omega
  have g1 := hx1 (by omega);have q1 : (pos : Int) + 1 < (s.size : Int) := by omega
  clear hx1;have g2 := hx2 (by omega);have q2 : (pos : Int) + 2 < (s.size : Int) := by omega
  clear hx2;go_enter Tryz.func97, Tryz.ntmps97;go_wp2
  go_loop [9, 10] (fun v i => ∃ (k V : Nat), i = .int .i64 k ∧ v = .int .i64 V ∧ V < 4194304 ∧ Hid ((k = 1 ∧ V = x - 224) ∨ (k = 2 ∧ 128 ≤ y1 ∧ y1 ≤ 191 ∧ V = 64 * (x - 224) + (y1 - 128)) ∨ (k = 3 ∧ 128 ≤ y1 ∧ y1 ≤ 191 ∧ 128 ≤ y2 ∧ y2 ≤ 191 ∧ V = 64 * (64 * (x - 224) + (y1 - 128)) + (y2 - 128)))) (fun _ i => 3 - (intOf i).toNat)
  case atStart => exact ⟨1, x - 224, rfl, by rw [show ((x - 224 : Nat) : Int) = (x : Int) - 224 by omega], by omega, Hd (.inl ⟨rfl, rfl⟩)⟩
  case round =>
   obtain ⟨k, V, rfl, rfl, hVb, HREL⟩ := hrel;rcases HREL.out with ⟨rfl, hV⟩ | ⟨rfl, c1, d1, hV⟩ | ⟨rfl, c1, d1, c2, d2, hV⟩
   ·have HV := Hd hV;clear hV HREL
    by_cases e1 : y1 < 128
    ·have hz0 : z = (65533, 1) := by rw [HZ.out]; exact dn_of_sz0 (sz_three_bad (by omega) (by omega) (by omega) (by omega) (by omega))
     have HZ0 := Hd hz0;have f1 : (y1 : Int) < 128 := by omega
     clear hz0 HZ;go_wp2
     go_ret2
     exact ⟨by rw [HZ0.out]; rfl, rfl⟩
    ·by_cases e2 : 191 < y1
     ·have hz0 : z = (65533, 1) := by rw [HZ.out]; exact dn_of_sz0 (sz_three_bad (by omega) (by omega) (by omega) (by omega) (by omega))
      have HZ0 := Hd hz0;have f1 : decide ((y1 : Int) < 128) = false := by simp; omega
      have f2 : 191 < (y1 : Int) := by omega
      clear hz0 HZ;go_wp2
      go_ret2
      exact ⟨by rw [HZ0.out]; rfl, rfl⟩
     ·have f1 : decide ((y1 : Int) < 128) = false := by simp; omega
      have f2 : decide (191 < (y1 : Int)) = false := by simp; omega
      have HR2 : Hid (128 ≤ y1 ∧ y1 ≤ 191 ∧ 64 * V + (y1 - 128) = 64 * (x - 224) + (y1 - 128)) := Hd (by have := HV.out; omega);have hvb : V ≤ 15 := by have := HV.out; omega
      go_wp2
      go_round
      case rel => exact ⟨2, 64 * V + (y1 - 128), rfl, by congr 1; omega, by omega, Hd (.inr (.inl ⟨rfl, HR2.out⟩))⟩
      case measure => simp [intOf]
   ·have HV := Hd hV;clear hV HREL
    by_cases e1 : y2 < 128
    ·have hz0 : z = (65533, 1) := by rw [HZ.out]; exact dn_of_sz0 (sz_three_bad (by omega) (by omega) (by omega) (by omega) (by omega))
     have HZ0 := Hd hz0;have f1 : (y2 : Int) < 128 := by omega
     clear hz0 HZ;go_wp2
     go_ret2
     exact ⟨by rw [HZ0.out]; rfl, rfl⟩
    ·by_cases e2 : 191 < y2
     ·have hz0 : z = (65533, 1) := by rw [HZ.out]; exact dn_of_sz0 (sz_three_bad (by omega) (by omega) (by omega) (by omega) (by omega))
      have HZ0 := Hd hz0;have f1 : decide ((y2 : Int) < 128) = false := by simp; omega
      have f2 : 191 < (y2 : Int) := by omega
      clear hz0 HZ;go_wp2
      go_ret2
      exact ⟨by rw [HZ0.out]; rfl, rfl⟩
     ·have f1 : decide ((y2 : Int) < 128) = false := by simp; omega
      have f2 : decide (191 < (y2 : Int)) = false := by simp; omega
      have HR2 : Hid (128 ≤ y1 ∧ y1 ≤ 191 ∧ 128 ≤ y2 ∧ y2 ≤ 191 ∧ 64 * V + (y2 - 128) = 64 * (64 * (x - 224) + (y1 - 128)) + (y2 - 128)) := Hd (by have := HV.out; omega);have hvb : V ≤ 1023 := by have := HV.out; omega
      go_wp2
      go_round
      case rel => exact ⟨3, 64 * V + (y2 - 128), rfl, by congr 1; omega, by omega, Hd (.inr (.inr (⟨rfl, HR2.out⟩)))⟩
      case measure => simp [intOf]
   ·have HV := Hd hV;clear hV HREL
    by_cases e1 : V < 2048
    ·have hz0 : z = (65533, 1) := by rw [HZ.out]; exact dn_of_sz0 (sz_three_bad (by omega) (by omega) (by omega) (by omega) (by have := HV.out; omega))
     have HZ0 := Hd hz0;have f1 : (V : Int) < 2048 := by omega
     clear hz0 HZ;go_wp2
     go_ret2
     exact ⟨by rw [HZ0.out]; rfl, rfl⟩
    ·have f1 : decide ((V : Int) < 2048) = false := by simp; omega
     by_cases e2 : 1114111 < V
     ·have f2 : 1114111 < (V : Int) := by omega
      have hz0 : z = (65533, 1) := by rw [HZ.out]; exact dn_of_sz0 (sz_three_bad (by omega) (by omega) (by omega) (by omega) (by have := HV.out; omega))
      have HZ0 := Hd hz0;clear hz0 HZ;go_wp2
      go_ret2
      exact ⟨by rw [HZ0.out]; rfl, rfl⟩
     ·have f2 : decide (1114111 < (V : Int)) = false := by simp; omega
      by_cases e3 : 55296 ≤ V
      ·have f3 : 55296 ≤ (V : Int) := by omega
       by_cases e4 : V ≤ 57343
       ·have f4 : (V : Int) ≤ 57343 := by omega
        have hz0 : z = (65533, 1) := by rw [HZ.out]; exact dn_of_sz0 (sz_three_bad (by omega) (by omega) (by omega) (by omega) (by have := HV.out; omega))
        have HZ0 := Hd hz0;clear hz0 HZ;go_wp2
        go_ret2
        exact ⟨by rw [HZ0.out]; rfl, rfl⟩
       ·have f4 : decide ((V : Int) ≤ 57343) = false := by simp; omega
        have hz0 : z = (V, 3) := by rw [HZ.out]; exact (dn_three (by omega) (by omega) (by omega) (by omega) (by omega) (by omega) (by omega) (by have := HV.out; omega) (by have := HV.out; omega)).trans (Prod.ext (by have := HV.out; show (_ : Nat) = V; omega) rfl)
        have HZ0 := Hd hz0;clear hz0 HZ;go_wp2
        go_ret2
        exact ⟨by rw [HZ0.out]; rfl, rfl⟩
      ·have f3 : decide (55296 ≤ (V : Int)) = false := by simp; omega
       have hz0 : z = (V, 3) := by rw [HZ.out]; exact (dn_three (by omega) (by omega) (by omega) (by omega) (by omega) (by omega) (by omega) (by have := HV.out; omega) (by have := HV.out; omega)).trans (Prod.ext (by have := HV.out; show (_ : Nat) = V; omega) rfl)
       have HZ0 := Hd hz0;clear hz0 HZ;go_wp2
       go_ret2
       exact ⟨by rw [HZ0.out]; rfl, rfl⟩
 ·have hpp : (s.size : Int) < (pos : Int) + 3 := by omega
  have hz0 : z = (65533, 1) := by rw [HZ.out]; exact dn_of_sz0 (sz_three_bad (by omega) (by omega) (by omega) (by omega) (by omega))
  have HZ0 := Hd hz0;clear hz0 HZ hx1 hx2;go_enter Tryz.func97, Tryz.ntmps97;go_wp2
  go_ret2
  exact ⟨by rw [HZ0.out]; rfl, rfl⟩
set_option maxRecDepth 100000 in
theorem rone_four (s : ByteArray) (pos : Nat) (w : World) (h : pos < s.size) (hs : s.size ≤ 65537) (h0 : 240 ≤ ((by_ s).getD pos 0).toNat) (h1 : ((by_ s).getD pos 0).toNat ≤ 244) :
  Calls Tryz.prog 97 #[.string s, .int .i64 (pos : Int)] w fun e w' => e = .returned (.tuple #[.int .i64 ((dnAt s pos).2 : Nat), .int .i64 ((dnAt s pos).1 : Nat)]) ∧ w = w' := by
 have hp0 : (0 : Int) ≤ (pos : Int) := Int.natCast_nonneg _;have hp1 : (pos : Int) < (s.size : Int) := by omega
 have hx := byte_at s pos h;have hz : dnAt s pos = decodeN (s.size - pos) ((by_ s).getD pos 0).toNat ((by_ s).getD (pos + 1) 0).toNat ((by_ s).getD (pos + 2) 0).toNat ((by_ s).getD (pos + 3) 0).toNat := rfl;have hl1 := byte_lt s (pos + 1);have hl2 := byte_lt s (pos + 2);have hl3 := byte_lt s (pos + 3);have hx1 : (hh : pos + 1 < s.size) → s[pos + 1].toNat = ((by_ s).getD (pos + 1) 0).toNat := fun hh => byte_at s (pos + 1) hh;have hx2 : (hh : pos + 2 < s.size) → s[pos + 2].toNat = ((by_ s).getD (pos + 2) 0).toNat := fun hh => byte_at s (pos + 2) hh;have hx3 : (hh : pos + 3 < s.size) → s[pos + 3].toNat = ((by_ s).getD (pos + 3) 0).toNat := fun hh => byte_at s (pos + 3) hh;generalize ((by_ s).getD pos 0).toNat = x at *;generalize ((by_ s).getD (pos + 1) 0).toNat = y1 at *;generalize ((by_ s).getD (pos + 2) 0).toNat = y2 at *;generalize ((by_ s).getD (pos + 3) 0).toNat = y3 at *;obtain ⟨z, hze⟩ : ∃ z, z = dnAt s pos := ⟨_, rfl⟩;rw [← hze];rw [← hze] at hz;have HZ := Hd hz;clear hze hz;have a0 : decide ((x : Int) < 128) = false := by simp; omega
 have a1 : 194 ≤ (x : Int) := by omega
 have a4 : decide ((x : Int) ≤ 223) = false := by simp; omega
 have a2 : 224 ≤ (x : Int) := by omega
 have a5 : decide ((x : Int) ≤ 239) = false := by simp; omega
 have a3 : 240 ≤ (x : Int) := by omega
 have a6 : (x : Int) ≤ 244 := by omega
 by_cases hsh : pos + 4 ≤ s.size
 ·have hpp : decide ((s.size : Int) < (pos : Int) + 4) = false := by simp; omega
  have g1 := hx1 (by omega);have q1 : (pos : Int) + 1 < (s.size : Int) := by omega
  clear hx1;have g2 := hx2 (by omega);have q2 : (pos : Int) + 2 < (s.size : Int) := by omega
  clear hx2;have g3 := hx3 (by omega);have q3 : (pos : Int) + 3 < (s.size : Int) := by omega
  clear hx3;go_enter Tryz.func97, Tryz.ntmps97;go_wp2
  go_loop [9, 10] (fun v i => ∃ (k V : Nat), i = .int .i64 k ∧ v = .int .i64 V ∧ V < 4194304 ∧ Hid ((k = 1 ∧ V = x - 240) ∨ (k = 2 ∧ 128 ≤ y1 ∧ y1 ≤ 191 ∧ V = 64 * (x - 240) + (y1 - 128)) ∨ (k = 3 ∧ 128 ≤ y1 ∧ y1 ≤ 191 ∧ 128 ≤ y2 ∧ y2 ≤ 191 ∧ V = 64 * (64 * (x - 240) + (y1 - 128)) + (y2 - 128)) ∨ (k = 4 ∧ 128 ≤ y1 ∧ y1 ≤ 191 ∧ 128 ≤ y2 ∧ y2 ≤ 191 ∧ 128 ≤ y3 ∧ y3 ≤ 191 ∧ V = 64 * (64 * (64 * (x - 240) + (y1 - 128)) + (y2 - 128)) + (y3 - 128)))) (fun _ i => 4 - (intOf i).toNat)
  case atStart => exact ⟨1, x - 240, rfl, by rw [show ((x - 240 : Nat) : Int) = (x : Int) - 240 by omega], by omega, Hd (.inl ⟨rfl, rfl⟩)⟩
  case round =>
   obtain ⟨k, V, rfl, rfl, hVb, HREL⟩ := hrel;rcases HREL.out with ⟨rfl, hV⟩ | ⟨rfl, c1, d1, hV⟩ | ⟨rfl, c1, d1, c2, d2, hV⟩ | ⟨rfl, c1, d1, c2, d2, c3, d3, hV⟩
   ·have HV := Hd hV;clear hV HREL
    by_cases e1 : y1 < 128
    ·have hz0 : z = (65533, 1) := by rw [HZ.out]; exact dn_of_sz0 (sz_four_bad (by omega) (by omega) (by omega) (by omega) (by omega) (by omega))
     have HZ0 := Hd hz0;have f1 : (y1 : Int) < 128 := by omega
     clear hz0 HZ;go_wp2
     go_ret2
     exact ⟨by rw [HZ0.out]; rfl, rfl⟩
    ·by_cases e2 : 191 < y1
     ·have hz0 : z = (65533, 1) := by rw [HZ.out]; exact dn_of_sz0 (sz_four_bad (by omega) (by omega) (by omega) (by omega) (by omega) (by omega))
      have HZ0 := Hd hz0;have f1 : decide ((y1 : Int) < 128) = false := by simp; omega
      have f2 : 191 < (y1 : Int) := by omega
      clear hz0 HZ;go_wp2
      go_ret2
      exact ⟨by rw [HZ0.out]; rfl, rfl⟩
     ·have f1 : decide ((y1 : Int) < 128) = false := by simp; omega
      have f2 : decide (191 < (y1 : Int)) = false := by simp; omega
      have HR2 : Hid (128 ≤ y1 ∧ y1 ≤ 191 ∧ 64 * V + (y1 - 128) = 64 * (x - 240) + (y1 - 128)) := Hd (by have := HV.out; omega);have hvb : V ≤ 4 := by have := HV.out; omega
      go_wp2
      go_round
      case rel => exact ⟨2, 64 * V + (y1 - 128), rfl, by congr 1; omega, by omega, Hd (.inr (.inl ⟨rfl, HR2.out⟩))⟩
      case measure => simp [intOf]
   ·have HV := Hd hV;clear hV HREL
    by_cases e1 : y2 < 128
    ·have hz0 : z = (65533, 1) := by rw [HZ.out]; exact dn_of_sz0 (sz_four_bad (by omega) (by omega) (by omega) (by omega) (by omega) (by omega))
     have HZ0 := Hd hz0;have f1 : (y2 : Int) < 128 := by omega
     clear hz0 HZ;go_wp2
     go_ret2
     exact ⟨by rw [HZ0.out]; rfl, rfl⟩
    ·by_cases e2 : 191 < y2
     ·have hz0 : z = (65533, 1) := by rw [HZ.out]; exact dn_of_sz0 (sz_four_bad (by omega) (by omega) (by omega) (by omega) (by omega) (by omega))
      have HZ0 := Hd hz0;have f1 : decide ((y2 : Int) < 128) = false := by simp; omega
      have f2 : 191 < (y2 : Int) := by omega
      clear hz0 HZ;go_wp2
      go_ret2
      exact ⟨by rw [HZ0.out]; rfl, rfl⟩
     ·have f1 : decide ((y2 : Int) < 128) = false := by simp; omega
      have f2 : decide (191 < (y2 : Int)) = false := by simp; omega
      have HR2 : Hid (128 ≤ y1 ∧ y1 ≤ 191 ∧ 128 ≤ y2 ∧ y2 ≤ 191 ∧ 64 * V + (y2 - 128) = 64 * (64 * (x - 240) + (y1 - 128)) + (y2 - 128)) := Hd (by have := HV.out; omega);have hvb : V ≤ 319 := by have := HV.out; omega
      go_wp2
      go_round
      case rel => exact ⟨3, 64 * V + (y2 - 128), rfl, by congr 1; omega, by omega, Hd (.inr (.inr (.inl ⟨rfl, HR2.out⟩)))⟩
      case measure => simp [intOf]
   ·have HV := Hd hV;clear hV HREL
    by_cases e1 : y3 < 128
    ·have hz0 : z = (65533, 1) := by rw [HZ.out]; exact dn_of_sz0 (sz_four_bad (by omega) (by omega) (by omega) (by omega) (by omega) (by omega))
     have HZ0 := Hd hz0;have f1 : (y3 : Int) < 128 := by omega
     clear hz0 HZ;go_wp2
     go_ret2
     exact ⟨by rw [HZ0.out]; rfl, rfl⟩
    ·by_cases e2 : 191 < y3
     ·have hz0 : z = (65533, 1) := by rw [HZ.out]; exact dn_of_sz0 (sz_four_bad (by omega) (by omega) (by omega) (by omega) (by omega) (by omega))
      have HZ0 := Hd hz0;have f1 : decide ((y3 : Int) < 128) = false := by simp; omega
      have f2 : 191 < (y3 : Int) := by omega
      clear hz0 HZ;go_wp2
      go_ret2
      exact ⟨by rw [HZ0.out]; rfl, rfl⟩
     ·have f1 : decide ((y3 : Int) < 128) = false := by simp; omega
      have f2 : decide (191 < (y3 : Int)) = false := by simp; omega
      have HR2 : Hid (128 ≤ y1 ∧ y1 ≤ 191 ∧ 128 ≤ y2 ∧ y2 ≤ 191 ∧ 128 ≤ y3 ∧ y3 ≤ 191 ∧ 64 * V + (y3 - 128) = 64 * (64 * (64 * (x - 240) + (y1 - 128)) + (y2 - 128)) + (y3 - 128)) := Hd (by have := HV.out; omega);have hvb : V ≤ 20479 := by have := HV.out; omega
      go_wp2
      go_round
      case rel => exact ⟨4, 64 * V + (y3 - 128), rfl, by congr 1; omega, by omega, Hd (.inr (.inr (.inr (⟨rfl, HR2.out⟩))))⟩
      case measure => simp [intOf]
   ·have HV := Hd hV;clear hV HREL
    by_cases e1 : V < 65536
    ·have hz0 : z = (65533, 1) := by rw [HZ.out]; exact dn_of_sz0 (sz_four_bad (by omega) (by omega) (by omega) (by omega) (by omega) (by have := HV.out; omega))
     have HZ0 := Hd hz0;have f1 : (V : Int) < 65536 := by omega
     clear hz0 HZ;go_wp2
     go_ret2
     exact ⟨by rw [HZ0.out]; rfl, rfl⟩
    ·have f1 : decide ((V : Int) < 65536) = false := by simp; omega
     by_cases e2 : 1114111 < V
     ·have f2 : 1114111 < (V : Int) := by omega
      have hz0 : z = (65533, 1) := by rw [HZ.out]; exact dn_of_sz0 (sz_four_bad (by omega) (by omega) (by omega) (by omega) (by omega) (by have := HV.out; omega))
      have HZ0 := Hd hz0;clear hz0 HZ;go_wp2
      go_ret2
      exact ⟨by rw [HZ0.out]; rfl, rfl⟩
     ·have f2 : decide (1114111 < (V : Int)) = false := by simp; omega
      by_cases e3 : 55296 ≤ V
      ·have f3 : 55296 ≤ (V : Int) := by omega
       by_cases e4 : V ≤ 57343
       ·have f4 : (V : Int) ≤ 57343 := by omega
        have hz0 : z = (65533, 1) := by rw [HZ.out]; exact dn_of_sz0 (sz_four_bad (by omega) (by omega) (by omega) (by omega) (by omega) (by have := HV.out; omega))
        have HZ0 := Hd hz0;clear hz0 HZ;go_wp2
        go_ret2
        exact ⟨by rw [HZ0.out]; rfl, rfl⟩
       ·have f4 : decide ((V : Int) ≤ 57343) = false := by simp; omega
        have hz0 : z = (V, 4) := by rw [HZ.out]; exact (dn_four (by omega) (by omega) (by omega) (by omega) (by omega) (by omega) (by omega) (by omega) (by omega) (by have := HV.out; omega) (by have := HV.out; omega)).trans (Prod.ext (by have := HV.out; show (_ : Nat) = V; omega) rfl)
        have HZ0 := Hd hz0;clear hz0 HZ;go_wp2
        go_ret2
        exact ⟨by rw [HZ0.out]; rfl, rfl⟩
      ·have f3 : decide (55296 ≤ (V : Int)) = false := by simp; omega
       have hz0 : z = (V, 4) := by rw [HZ.out]; exact (dn_four (by omega) (by omega) (by omega) (by omega) (by omega) (by omega) (by omega) (by omega) (by omega) (by have := HV.out; omega) (by have := HV.out; omega)).trans (Prod.ext (by have := HV.out; show (_ : Nat) = V; omega) rfl)
       have HZ0 := Hd hz0;clear hz0 HZ;go_wp2
       go_ret2
       exact ⟨by rw [HZ0.out]; rfl, rfl⟩
 ·have hpp : (s.size : Int) < (pos : Int) + 4 := by omega
  have hz0 : z = (65533, 1) := by rw [HZ.out]; exact dn_of_sz0 (sz_four_bad (by omega) (by omega) (by omega) (by omega) (by omega) (by omega))
  have HZ0 := Hd hz0;clear hz0 HZ hx1 hx2 hx3;go_enter Tryz.func97, Tryz.ntmps97;go_wp2
  go_ret2
  exact ⟨by rw [HZ0.out]; rfl, rfl⟩
theorem rone_any (s : ByteArray) (pos : Nat) (w : World) (h : pos < s.size) (hs : s.size ≤ 65537) :
  Calls Tryz.prog 97 #[.string s, .int .i64 (pos : Int)] w fun e w' => e = .returned (.tuple #[.int .i64 ((dnAt s pos).2 : Nat), .int .i64 ((dnAt s pos).1 : Nat)]) ∧ w = w' := by
 have hl := byte_lt s pos
 by_cases h0 : ((by_ s).getD pos 0).toNat < 128
 ·have e : dnAt s pos = (((by_ s).getD pos 0).toNat, 1) := dec_small h0;rw [e];exact rone_ascii s pos w h h0
 ·by_cases h1 : ((by_ s).getD pos 0).toNat < 194 ∨ 244 < ((by_ s).getD pos 0).toNat
  ·have e : dnAt s pos = (65533, 1) := decodeN_bad _ _ _ _ _ (by omega);rw [e];exact rone_none s pos w h (by omega) h1
  ·by_cases h2 : ((by_ s).getD pos 0).toNat ≤ 223
   ·exact rone_two s pos w h hs (by omega) h2
   ·by_cases h3 : ((by_ s).getD pos 0).toNat ≤ 239
    ·exact rone_three s pos w h hs (by omega) h3
    ·exact rone_four s pos w h hs (by omega) (by omega)
theorem dn_decode (s : ByteArray) (pos : Nat) : dnAt s pos = Utf8.decode s pos := by
 rw [decode_N];unfold dnAt;rw [show s.data.toList.length = s.size from by_length s]
 rfl
end Go.Proofs.YthdofaoamljkfaaGreatDoor
