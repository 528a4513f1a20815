/- Parts. -/
import Derived.Test.YtojpohmijlkagaaDoorLaw43AllK7
set_option maxRecDepth 10000
set_option maxHeartbeats 16000000
set_option linter.unusedVariables false
set_option linter.unusedSimpArgs false
namespace Go.Proofs.YtojpohmijlkagaaDoor
open Go.RowKit
open Go.Lib hiding intOf
attribute [local go_sem ↓] Go.wp_at_zero Go.wp_at_succ
theorem rsize_ascii (s : ByteArray) (pos : Nat) (w : World) (h : pos < s.size) (hb : ((by_ s).getD pos 0).toNat < 128) :
  Calls Tryd.prog 56 #[.string s, .int .i64 (pos : Int)] w fun e w' => e = .returned (.int .i64 1) ∧ w = w' := by
 rw [← byte_at s pos h] at hb;have hp0 : (0 : Int) ≤ (pos : Int) := Int.natCast_nonneg _;have hp1 : (pos : Int) < (s.size : Int) := by omega
 have hb1 : (s[pos].toNat : Int) < 128 := by omega
 go_enter Tryd.func56, Tryd.ntmps56;go_wp2
 go_ret
 exact ⟨rfl, rfl⟩
theorem rsize_none (s : ByteArray) (pos : Nat) (w : World) (h : pos < s.size) (h0 : 128 ≤ ((by_ s).getD pos 0).toNat) (hb : ((by_ s).getD pos 0).toNat < 194 ∨ 244 < ((by_ s).getD pos 0).toNat) :
  Calls Tryd.prog 56 #[.string s, .int .i64 (pos : Int)] w fun e w' => e = .returned (.int .i64 0) ∧ w = w' := by
 rw [← byte_at s pos h] at hb h0;have hlt := UInt8.toNat_lt s[pos];have hp0 : (0 : Int) ≤ (pos : Int) := Int.natCast_nonneg _;have hp1 : (pos : Int) < (s.size : Int) := by omega
 generalize hx : s[pos].toNat = x at *;have hb1 : decide ((x : Int) < 128) = false := by simp; omega
 rcases hb with hb | hb
 ·have a1 : decide (194 ≤ (x : Int)) = false := by simp; omega
  have a2 : decide (224 ≤ (x : Int)) = false := by simp; omega
  have a3 : decide (240 ≤ (x : Int)) = false := by simp; omega
  go_enter Tryd.func56, Tryd.ntmps56;go_wp2
  go_ret
  exact ⟨rfl, rfl⟩
 ·have a1 : 194 ≤ (x : Int) := by omega
  have a2 : 224 ≤ (x : Int) := by omega
  have a3 : 240 ≤ (x : Int) := by omega
  have a4 : decide ((x : Int) ≤ 223) = false := by simp; omega
  have a5 : decide ((x : Int) ≤ 239) = false := by simp; omega
  have a6 : decide ((x : Int) ≤ 244) = false := by simp; omega
  go_enter Tryd.func56, Tryd.ntmps56;go_wp2
  go_ret
  exact ⟨rfl, rfl⟩
set_option maxRecDepth 100000 in
theorem rsize_two (s : ByteArray) (pos : Nat) (w : World) (h : pos < s.size) (hs : s.size ≤ 65537) (h0 : 194 ≤ ((by_ s).getD pos 0).toNat) (h1 : ((by_ s).getD pos 0).toNat ≤ 223) :
  Calls Tryd.prog 56 #[.string s, .int .i64 (pos : Int)] w fun e w' => e = .returned (.int .i64 (szAt s pos)) ∧ w = w' := by
 have hp0 : (0 : Int) ≤ (pos : Int) := Int.natCast_nonneg _;have hp1 : (pos : Int) < (s.size : Int) := by omega
 have hx := byte_at s pos h;have hz : szAt s pos = szOf (s.size - pos) ((by_ s).getD pos 0).toNat ((by_ s).getD (pos + 1) 0).toNat ((by_ s).getD (pos + 2) 0).toNat ((by_ s).getD (pos + 3) 0).toNat := rfl;have hl1 := byte_lt s (pos + 1);have hl2 := byte_lt s (pos + 2);have hl3 := byte_lt s (pos + 3);have hx1 : (hh : pos + 1 < s.size) → s[pos + 1].toNat = ((by_ s).getD (pos + 1) 0).toNat := fun hh => byte_at s (pos + 1) hh;generalize ((by_ s).getD pos 0).toNat = x at *;generalize ((by_ s).getD (pos + 1) 0).toNat = y1 at *;generalize ((by_ s).getD (pos + 2) 0).toNat = y2 at *;generalize ((by_ s).getD (pos + 3) 0).toNat = y3 at *;obtain ⟨z, hze⟩ : ∃ z, z = szAt s pos := ⟨_, rfl⟩;rw [← hze];rw [← hze] at hz;have HZ := Hd hz;clear hze hz;have a0 : decide ((x : Int) < 128) = false := by simp; omega
 have a1 : 194 ≤ (x : Int) := by omega
 have a4 : (x : Int) ≤ 223 := by omega
 have a2 : decide (224 ≤ (x : Int)) = false := by simp; omega
 have a3 : decide (240 ≤ (x : Int)) = false := by simp; omega
 by_cases hsh : pos + 2 ≤ s.size
 ·have hpp : decide ((s.size : Int) < (pos : Int) + 2) = false := by simp; omega
  have g1 := hx1 (by omega);have q1 : (pos : Int) + 1 < (s.size : Int) := by omega
  clear hx1;go_enter Tryd.func56, Tryd.ntmps56;go_wp2
  go_loop [8, 9] (fun v i => ∃ (k V : Nat), i = .int .i64 k ∧ v = .int .i64 V ∧ V < 4194304 ∧ Hid ((k = 1 ∧ V = x - 192) ∨ (k = 2 ∧ 128 ≤ y1 ∧ y1 ≤ 191 ∧ V = 64 * (x - 192) + (y1 - 128)))) (fun _ i => 2 - (intOf i).toNat)
  case atStart => exact ⟨1, x - 192, rfl, by rw [show ((x - 192 : Nat) : Int) = (x : Int) - 192 by omega], by omega, Hd (.inl ⟨rfl, rfl⟩)⟩
  case round =>
   obtain ⟨k, V, rfl, rfl, hVb, HREL⟩ := hrel;rcases HREL.out with ⟨rfl, hV⟩ | ⟨rfl, c1, d1, hV⟩
   ·have HV := Hd hV;clear hV HREL
    by_cases e1 : y1 < 128
    ·have hz0 : z = 0 := by rw [HZ.out]; exact sz_two_bad (by omega) (by omega) (by omega) (by omega)
     have HZ0 := Hd hz0;have f1 : (y1 : Int) < 128 := by omega
     clear hz0 HZ;go_wp2
     go_ret
     exact ⟨by rw [HZ0.out]; rfl, rfl⟩
    ·by_cases e2 : 191 < y1
     ·have hz0 : z = 0 := by rw [HZ.out]; exact sz_two_bad (by omega) (by omega) (by omega) (by omega)
      have HZ0 := Hd hz0;have f1 : decide ((y1 : Int) < 128) = false := by simp; omega
      have f2 : 191 < (y1 : Int) := by omega
      clear hz0 HZ;go_wp2
      go_ret
      exact ⟨by rw [HZ0.out]; rfl, rfl⟩
     ·have f1 : decide ((y1 : Int) < 128) = false := by simp; omega
      have f2 : decide (191 < (y1 : Int)) = false := by simp; omega
      have HR2 : Hid (128 ≤ y1 ∧ y1 ≤ 191 ∧ 64 * V + (y1 - 128) = 64 * (x - 192) + (y1 - 128)) := Hd (by have := HV.out; omega);have hvb : V ≤ 31 := by have := HV.out; omega
      go_wp2
      go_round
      case rel => exact ⟨2, 64 * V + (y1 - 128), rfl, by congr 1; omega, by omega, Hd (.inr (⟨rfl, HR2.out⟩))⟩
      case measure => simp [intOf]
   ·have HV := Hd hV;clear hV HREL;have hz0 : z = 2 := by rw [HZ.out]; exact sz_two (by omega) (by omega) (by omega) (by omega) (by omega)
    have HZ0 := Hd hz0;have f1 : decide ((V : Int) < 128) = false := by have := HV.out; simp; omega
    have f2 : decide (1114111 < (V : Int)) = false := by have := HV.out; simp; omega
    have f3 : decide (55296 ≤ (V : Int)) = false := by have := HV.out; simp; omega
    clear hz0 HZ;go_wp2
    go_ret
    exact ⟨by rw [HZ0.out]; rfl, rfl⟩
 ·have hpp : (s.size : Int) < (pos : Int) + 2 := by omega
  have hz0 : z = 0 := by rw [HZ.out]; exact sz_two_bad (by omega) (by omega) (by omega) (by omega)
  have HZ0 := Hd hz0;clear hz0 HZ hx1;go_enter Tryd.func56, Tryd.ntmps56;go_wp2
  go_ret
  exact ⟨by rw [HZ0.out]; rfl, rfl⟩
set_option maxRecDepth 100000 in
theorem rsize_three (s : ByteArray) (pos : Nat) (w : World) (h : pos < s.size) (hs : s.size ≤ 65537) (h0 : 224 ≤ ((by_ s).getD pos 0).toNat) (h1 : ((by_ s).getD pos 0).toNat ≤ 239) :
  Calls Tryd.prog 56 #[.string s, .int .i64 (pos : Int)] w fun e w' => e = .returned (.int .i64 (szAt s pos)) ∧ w = w' := by
 have hp0 : (0 : Int) ≤ (pos : Int) := Int.natCast_nonneg _;have hp1 : (pos : Int) < (s.size : Int) := by omega
 have hx := byte_at s pos h;have hz : szAt s pos = szOf (s.size - pos) ((by_ s).getD pos 0).toNat ((by_ s).getD (pos + 1) 0).toNat ((by_ s).getD (pos + 2) 0).toNat ((by_ s).getD (pos + 3) 0).toNat := rfl;have hl1 := byte_lt s (pos + 1);have hl2 := byte_lt s (pos + 2);have hl3 := byte_lt s (pos + 3);have hx1 : (hh : pos + 1 < s.size) → s[pos + 1].toNat = ((by_ s).getD (pos + 1) 0).toNat := fun hh => byte_at s (pos + 1) hh;have hx2 : (hh : pos + 2 < s.size) → s[pos + 2].toNat = ((by_ s).getD (pos + 2) 0).toNat := fun hh => byte_at s (pos + 2) hh;generalize ((by_ s).getD pos 0).toNat = x at *;generalize ((by_ s).getD (pos + 1) 0).toNat = y1 at *;generalize ((by_ s).getD (pos + 2) 0).toNat = y2 at *;generalize ((by_ s).getD (pos + 3) 0).toNat = y3 at *;obtain ⟨z, hze⟩ : ∃ z, z = szAt s pos := ⟨_, rfl⟩;rw [← hze];rw [← hze] at hz;have HZ := Hd hz;clear hze hz;have a0 : decide ((x : Int) < 128) = false := by simp; omega
 have a1 : 194 ≤ (x : Int) := by omega
 have a4 : decide ((x : Int) ≤ 223) = false := by simp; omega
 have a2 : 224 ≤ (x : Int) := by omega
 have a5 : (x : Int) ≤ 239 := by omega
 have a3 : decide (240 ≤ (x : Int)) = false := by simp; omega
 by_cases hsh : pos + 3 ≤ s.size
 ·have hpp : decide ((s.size : Int) < (pos : Int) + 3) = false := by simp; omega
  have g1 := hx1 (by omega);have q1 : (pos : Int) + 1 < (s.size : Int) := by omega
  clear hx1;have g2 := hx2 (by omega);have q2 : (pos : Int) + 2 < (s.size : Int) := by omega
  clear hx2;go_enter Tryd.func56, Tryd.ntmps56;go_wp2
  go_loop [8, 9] (fun v i => ∃ (k V : Nat), i = .int .i64 k ∧ v = .int .i64 V ∧ V < 4194304 ∧ Hid ((k = 1 ∧ V = x - 224) ∨ (k = 2 ∧ 128 ≤ y1 ∧ y1 ≤ 191 ∧ V = 64 * (x - 224) + (y1 - 128)) ∨ (k = 3 ∧ 128 ≤ y1 ∧ y1 ≤ 191 ∧ 128 ≤ y2 ∧ y2 ≤ 191 ∧ V = 64 * (64 * (x - 224) + (y1 - 128)) + (y2 - 128)))) (fun _ i => 3 - (intOf i).toNat)
  case atStart => exact ⟨1, x - 224, rfl, by rw [show ((x - 224 : Nat) : Int) = (x : Int) - 224 by omega], by omega, Hd (.inl ⟨rfl, rfl⟩)⟩
  case round =>
   obtain ⟨k, V, rfl, rfl, hVb, HREL⟩ := hrel;rcases HREL.out with ⟨rfl, hV⟩ | ⟨rfl, c1, d1, hV⟩ | ⟨rfl, c1, d1, c2, d2, hV⟩
   ·have HV := Hd hV;clear hV HREL
    by_cases e1 : y1 < 128
    ·have hz0 : z = 0 := by rw [HZ.out]; exact sz_three_bad (by omega) (by omega) (by omega) (by omega) (by omega)
     have HZ0 := Hd hz0;have f1 : (y1 : Int) < 128 := by omega
     clear hz0 HZ;go_wp2
     go_ret
     exact ⟨by rw [HZ0.out]; rfl, rfl⟩
    ·by_cases e2 : 191 < y1
     ·have hz0 : z = 0 := by rw [HZ.out]; exact sz_three_bad (by omega) (by omega) (by omega) (by omega) (by omega)
      have HZ0 := Hd hz0;have f1 : decide ((y1 : Int) < 128) = false := by simp; omega
      have f2 : 191 < (y1 : Int) := by omega
      clear hz0 HZ;go_wp2
      go_ret
      exact ⟨by rw [HZ0.out]; rfl, rfl⟩
     ·have f1 : decide ((y1 : Int) < 128) = false := by simp; omega
      have f2 : decide (191 < (y1 : Int)) = false := by simp; omega
      have HR2 : Hid (128 ≤ y1 ∧ y1 ≤ 191 ∧ 64 * V + (y1 - 128) = 64 * (x - 224) + (y1 - 128)) := Hd (by have := HV.out; omega);have hvb : V ≤ 15 := by have := HV.out; omega
      go_wp2
      go_round
      case rel => exact ⟨2, 64 * V + (y1 - 128), rfl, by congr 1; omega, by omega, Hd (.inr (.inl ⟨rfl, HR2.out⟩))⟩
      case measure => simp [intOf]
   ·have HV := Hd hV;clear hV HREL
    by_cases e1 : y2 < 128
    ·have hz0 : z = 0 := by rw [HZ.out]; exact sz_three_bad (by omega) (by omega) (by omega) (by omega) (by omega)
     have HZ0 := Hd hz0;have f1 : (y2 : Int) < 128 := by omega
     clear hz0 HZ;go_wp2
     go_ret
     exact ⟨by rw [HZ0.out]; rfl, rfl⟩
    ·by_cases e2 : 191 < y2
     ·have hz0 : z = 0 := by rw [HZ.out]; exact sz_three_bad (by omega) (by omega) (by omega) (by omega) (by omega)
      have HZ0 := Hd hz0;have f1 : decide ((y2 : Int) < 128) = false := by simp; omega
      have f2 : 191 < (y2 : Int) := by omega
      clear hz0 HZ;go_wp2
      go_ret
      exact ⟨by rw [HZ0.out]; rfl, rfl⟩
     ·have f1 : decide ((y2 : Int) < 128) = false := by simp; omega
      have f2 : decide (191 < (y2 : Int)) = false := by simp; omega
      have HR2 : Hid (128 ≤ y1 ∧ y1 ≤ 191 ∧ 128 ≤ y2 ∧ y2 ≤ 191 ∧ 64 * V + (y2 - 128) = 64 * (64 * (x - 224) + (y1 - 128)) + (y2 - 128)) := Hd (by have := HV.out; omega);have hvb : V ≤ 1023 := by have := HV.out; omega
      go_wp2
      go_round
      case rel => exact ⟨3, 64 * V + (y2 - 128), rfl, by congr 1; omega, by omega, Hd (.inr (.inr (⟨rfl, HR2.out⟩)))⟩
      case measure => simp [intOf]
   ·have HV := Hd hV;clear hV HREL
    by_cases e1 : V < 2048
    ·have hz0 : z = 0 := by rw [HZ.out]; exact sz_three_bad (by omega) (by omega) (by omega) (by omega) (by have := HV.out; omega)
     have HZ0 := Hd hz0;have f1 : (V : Int) < 2048 := by omega
     clear hz0 HZ;go_wp2
     go_ret
     exact ⟨by rw [HZ0.out]; rfl, rfl⟩
    ·have f1 : decide ((V : Int) < 2048) = false := by simp; omega
     by_cases e2 : 1114111 < V
     ·have f2 : 1114111 < (V : Int) := by omega
      have hz0 : z = 0 := by rw [HZ.out]; exact sz_three_bad (by omega) (by omega) (by omega) (by omega) (by have := HV.out; omega)
      have HZ0 := Hd hz0;clear hz0 HZ;go_wp2
      go_ret
      exact ⟨by rw [HZ0.out]; rfl, rfl⟩
     ·have f2 : decide (1114111 < (V : Int)) = false := by simp; omega
      by_cases e3 : 55296 ≤ V
      ·have f3 : 55296 ≤ (V : Int) := by omega
       by_cases e4 : V ≤ 57343
       ·have f4 : (V : Int) ≤ 57343 := by omega
        have hz0 : z = 0 := by rw [HZ.out]; exact sz_three_bad (by omega) (by omega) (by omega) (by omega) (by have := HV.out; omega)
        have HZ0 := Hd hz0;clear hz0 HZ;go_wp2
        go_ret
        exact ⟨by rw [HZ0.out]; rfl, rfl⟩
       ·have f4 : decide ((V : Int) ≤ 57343) = false := by simp; omega
        have hz0 : z = 3 := by rw [HZ.out]; exact sz_three (by omega) (by omega) (by omega) (by omega) (by omega) (by omega) (by omega) (by have := HV.out; omega) (by have := HV.out; omega)
        have HZ0 := Hd hz0;clear hz0 HZ;go_wp2
        go_ret
        exact ⟨by rw [HZ0.out]; rfl, rfl⟩
      ·have f3 : decide (55296 ≤ (V : Int)) = false := by simp; omega
       have hz0 : z = 3 := by rw [HZ.out]; exact sz_three (by omega) (by omega) (by omega) (by omega) (by omega) (by omega) (by omega) (by have := HV.out; omega) (by have := HV.out; omega)
       have HZ0 := Hd hz0;clear hz0 HZ;go_wp2
       go_ret
       exact ⟨by rw [HZ0.out]; rfl, rfl⟩
 ·have hpp : (s.size : Int) < (pos : Int) + 3 := by omega
  have hz0 : z = 0 := by rw [HZ.out]; exact sz_three_bad (by omega) (by omega) (by omega) (by omega) (by omega)
  have HZ0 := Hd hz0;clear hz0 HZ hx1 hx2;go_enter Tryd.func56, Tryd.ntmps56;go_wp2
  go_ret
  exact ⟨by rw [HZ0.out]; rfl, rfl⟩
set_option maxRecDepth 100000 in
theorem rsize_four (s : ByteArray) (pos : Nat) (w : World) (h : pos < s.size) (hs : s.size ≤ 65537) (h0 : 240 ≤ ((by_ s).getD pos 0).toNat) (h1 : ((by_ s).getD pos 0).toNat ≤ 244) :
  Calls Tryd.prog 56 #[.string s, .int .i64 (pos : Int)] w fun e w' => e = .returned (.int .i64 (szAt s pos)) ∧ w = w' := by
 have hp0 : (0 : Int) ≤ (pos : Int) := Int.natCast_nonneg _;have hp1 : (pos : Int) < (s.size : Int) := by omega
 have hx := byte_at s pos h;have hz : szAt s pos = szOf (s.size - pos) ((by_ s).getD pos 0).toNat ((by_ s).getD (pos + 1) 0).toNat ((by_ s).getD (pos + 2) 0).toNat ((by_ s).getD (pos + 3) 0).toNat := rfl;have hl1 := byte_lt s (pos + 1);have hl2 := byte_lt s (pos + 2);have hl3 := byte_lt s (pos + 3);have hx1 : (hh : pos + 1 < s.size) → s[pos + 1].toNat = ((by_ s).getD (pos + 1) 0).toNat := fun hh => byte_at s (pos + 1) hh;have hx2 : (hh : pos + 2 < s.size) → s[pos + 2].toNat = ((by_ s).getD (pos + 2) 0).toNat := fun hh => byte_at s (pos + 2) hh;have hx3 : (hh : pos + 3 < s.size) → s[pos + 3].toNat = ((by_ s).getD (pos + 3) 0).toNat := fun hh => byte_at s (pos + 3) hh;generalize ((by_ s).getD pos 0).toNat = x at *;generalize ((by_ s).getD (pos + 1) 0).toNat = y1 at *;generalize ((by_ s).getD (pos + 2) 0).toNat = y2 at *;generalize ((by_ s).getD (pos + 3) 0).toNat = y3 at *;obtain ⟨z, hze⟩ : ∃ z, z = szAt s pos := ⟨_, rfl⟩;rw [← hze];rw [← hze] at hz;have HZ := Hd hz;clear hze hz;have a0 : decide ((x : Int) < 128) = false := by simp; omega
 have a1 : 194 ≤ (x : Int) := by omega
 have a4 : decide ((x : Int) ≤ 223) = false := by simp; omega
 have a2 : 224 ≤ (x : Int) := by omega
 have a5 : decide ((x : Int) ≤ 239) = false := by simp; omega
 have a3 : 240 ≤ (x : Int) := by omega
 have a6 : (x : Int) ≤ 244 := by omega
 by_cases hsh : pos + 4 ≤ s.size
 ·have hpp : decide ((s.size : Int) < (pos : Int) + 4) = false := by simp; omega
  have g1 := hx1 (by omega);have q1 : (pos : Int) + 1 < (s.size : Int) := by omega
  clear hx1;have g2 := hx2 (by omega);have q2 : (pos : Int) + 2 < (s.size : Int) := by omega
  clear hx2;have g3 := hx3 (by omega);have q3 : (pos : Int) + 3 < (s.size : Int) := by omega
  clear hx3;go_enter Tryd.func56, Tryd.ntmps56;go_wp2
  go_loop [8, 9] (fun v i => ∃ (k V : Nat), i = .int .i64 k ∧ v = .int .i64 V ∧ V < 4194304 ∧ Hid ((k = 1 ∧ V = x - 240) ∨ (k = 2 ∧ 128 ≤ y1 ∧ y1 ≤ 191 ∧ V = 64 * (x - 240) + (y1 - 128)) ∨ (k = 3 ∧ 128 ≤ y1 ∧ y1 ≤ 191 ∧ 128 ≤ y2 ∧ y2 ≤ 191 ∧ V = 64 * (64 * (x - 240) + (y1 - 128)) + (y2 - 128)) ∨ (k = 4 ∧ 128 ≤ y1 ∧ y1 ≤ 191 ∧ 128 ≤ y2 ∧ y2 ≤ 191 ∧ 128 ≤ y3 ∧ y3 ≤ 191 ∧ V = 64 * (64 * (64 * (x - 240) + (y1 - 128)) + (y2 - 128)) + (y3 - 128)))) (fun _ i => 4 - (intOf i).toNat)
  case atStart => exact ⟨1, x - 240, rfl, by rw [show ((x - 240 : Nat) : Int) = (x : Int) - 240 by omega], by omega, Hd (.inl ⟨rfl, rfl⟩)⟩
  case round =>
   obtain ⟨k, V, rfl, rfl, hVb, HREL⟩ := hrel;rcases HREL.out with ⟨rfl, hV⟩ | ⟨rfl, c1, d1, hV⟩ | ⟨rfl, c1, d1, c2, d2, hV⟩ | ⟨rfl, c1, d1, c2, d2, c3, d3, hV⟩
   ·have HV := Hd hV;clear hV HREL
    by_cases e1 : y1 < 128
    ·have hz0 : z = 0 := by rw [HZ.out]; exact sz_four_bad (by omega) (by omega) (by omega) (by omega) (by omega) (by omega)
     have HZ0 := Hd hz0;have f1 : (y1 : Int) < 128 := by omega
     clear hz0 HZ;go_wp2
     go_ret
     exact ⟨by rw [HZ0.out]; rfl, rfl⟩
    ·by_cases e2 : 191 < y1
     ·have hz0 : z = 0 := by rw [HZ.out]; exact sz_four_bad (by omega) (by omega) (by omega) (by omega) (by omega) (by omega)
      have HZ0 := Hd hz0;have f1 : decide ((y1 : Int) < 128) = false := by simp; omega
      have f2 : 191 < (y1 : Int) := by omega
      clear hz0 HZ;go_wp2
      go_ret
      exact ⟨by rw [HZ0.out]; rfl, rfl⟩
     ·have f1 : decide ((y1 : Int) < 128) = false := by simp; omega
      have f2 : decide (191 < (y1 : Int)) = false := by simp; omega
      have HR2 : Hid (128 ≤ y1 ∧ y1 ≤ 191 ∧ 64 * V + (y1 - 128) = 64 * (x - 240) + (y1 - 128)) := Hd (by have := HV.out; omega);have hvb : V ≤ 4 := by have := HV.out; omega
      go_wp2
      go_round
      case rel => exact ⟨2, 64 * V + (y1 - 128), rfl, by congr 1; omega, by omega, Hd (.inr (.inl ⟨rfl, HR2.out⟩))⟩
      case measure => simp [intOf]
   ·have HV := Hd hV;clear hV HREL
    by_cases e1 : y2 < 128
    ·have hz0 : z = 0 := by rw [HZ.out]; exact sz_four_bad (by omega) (by omega) (by omega) (by omega) (by omega) (by omega)
     have HZ0 := Hd hz0;have f1 : (y2 : Int) < 128 := by omega
     clear hz0 HZ;go_wp2
     go_ret
     exact ⟨by rw [HZ0.out]; rfl, rfl⟩
    ·by_cases e2 : 191 < y2
     ·have hz0 : z = 0 := by rw [HZ.out]; exact sz_four_bad (by omega) (by omega) (by omega) (by omega) (by omega) (by omega)
      have HZ0 := Hd hz0;have f1 : decide ((y2 : Int) < 128) = false := by simp; omega
      have f2 : 191 < (y2 : Int) := by omega
      clear hz0 HZ;go_wp2
      go_ret
      exact ⟨by rw [HZ0.out]; rfl, rfl⟩
     ·have f1 : decide ((y2 : Int) < 128) = false := by simp; omega
      have f2 : decide (191 < (y2 : Int)) = false := by simp; omega
      have HR2 : Hid (128 ≤ y1 ∧ y1 ≤ 191 ∧ 128 ≤ y2 ∧ y2 ≤ 191 ∧ 64 * V + (y2 - 128) = 64 * (64 * (x - 240) + (y1 - 128)) + (y2 - 128)) := Hd (by have := HV.out; omega);have hvb : V ≤ 319 := by have := HV.out; omega
      go_wp2
      go_round
      case rel => exact ⟨3, 64 * V + (y2 - 128), rfl, by congr 1; omega, by omega, Hd (.inr (.inr (.inl ⟨rfl, HR2.out⟩)))⟩
      case measure => simp [intOf]
   ·have HV := Hd hV;clear hV HREL
    by_cases e1 : y3 < 128
    ·have hz0 : z = 0 := by rw [HZ.out]; exact sz_four_bad (by omega) (by omega) (by omega) (by omega) (by omega) (by omega)
     have HZ0 := Hd hz0;have f1 : (y3 : Int) < 128 := by omega
     clear hz0 HZ;go_wp2
     go_ret
     exact ⟨by rw [HZ0.out]; rfl, rfl⟩
    ·by_cases e2 : 191 < y3
     ·have hz0 : z = 0 := by rw [HZ.out]; exact sz_four_bad (by omega) (by omega) (by omega) (by omega) (by omega) (by omega)
      have HZ0 := Hd hz0;have f1 : decide ((y3 : Int) < 128) = false := by simp; omega
      have f2 : 191 < (y3 : Int) := by omega
      clear hz0 HZ;go_wp2
      go_ret
      exact ⟨by rw [HZ0.out]; rfl, rfl⟩
     ·have f1 : decide ((y3 : Int) < 128) = false := by simp; omega
      have f2 : decide (191 < (y3 : Int)) = false := by simp; omega
      have HR2 : Hid (128 ≤ y1 ∧ y1 ≤ 191 ∧ 128 ≤ y2 ∧ y2 ≤ 191 ∧ 128 ≤ y3 ∧ y3 ≤ 191 ∧ 64 * V + (y3 - 128) = 64 * (64 * (64 * (x - 240) + (y1 - 128)) + (y2 - 128)) + (y3 - 128)) := Hd (by have := HV.out; omega);have hvb : V ≤ 20479 := by have := HV.out; omega
      go_wp2
      go_round
      case rel => exact ⟨4, 64 * V + (y3 - 128), rfl, by congr 1; omega, by omega, Hd (.inr (.inr (.inr (⟨rfl, HR2.out⟩))))⟩
      case measure => simp [intOf]
   ·have HV := Hd hV;clear hV HREL
    by_cases e1 : V < 65536
    ·have hz0 : z = 0 := by rw [HZ.out]; exact sz_four_bad (by omega) (by omega) (by omega) (by omega) (by omega) (by have := HV.out; omega)
     have HZ0 := Hd hz0;have f1 : (V : Int) < 65536 := by omega
     clear hz0 HZ;go_wp2
     go_ret
     exact ⟨by rw [HZ0.out]; rfl, rfl⟩
    ·have f1 : decide ((V : Int) < 65536) = false := by simp; omega
     by_cases e2 : 1114111 < V
     ·have f2 : 1114111 < (V : Int) := by omega
      have hz0 : z = 0 := by rw [HZ.out]; exact sz_four_bad (by omega) (by omega) (by omega) (by omega) (by omega) (by have := HV.out; omega)
      have HZ0 := Hd hz0;clear hz0 HZ;go_wp2
      go_ret
      exact ⟨by rw [HZ0.out]; rfl, rfl⟩
     ·have f2 : decide (1114111 < (V : Int)) = false := by simp; omega
      by_cases e3 : 55296 ≤ V
      ·have f3 : 55296 ≤ (V : Int) := by omega
       by_cases e4 : V ≤ 57343
       ·have f4 : (V : Int) ≤ 57343 := by omega
        have hz0 : z = 0 := by rw [HZ.out]; exact sz_four_bad (by omega) (by omega) (by omega) (by omega) (by omega) (by have := HV.out; omega)
        have HZ0 := Hd hz0;clear hz0 HZ;go_wp2
        go_ret
        exact ⟨by rw [HZ0.out]; rfl, rfl⟩
       ·have f4 : decide ((V : Int) ≤ 57343) = false := by simp; omega
        have hz0 : z = 4 := by rw [HZ.out]; exact sz_four (by omega) (by omega) (by omega) (by omega) (by omega) (by omega) (by omega) (by omega) (by omega) (by have := HV.out; omega) (by have := HV.out; omega)
        have HZ0 := Hd hz0;clear hz0 HZ;go_wp2
        go_ret
        exact ⟨by rw [HZ0.out]; rfl, rfl⟩
      ·have f3 : decide (55296 ≤ (V : Int)) = false := by simp; omega
       have hz0 : z = 4 := by rw [HZ.out]; exact sz_four (by omega) (by omega) (by omega) (by omega) (by omega) (by omega) (by omega) (by omega) (by omega) (by have := HV.out; omega) (by have := HV.out; omega)
       have HZ0 := Hd hz0;clear hz0 HZ;go_wp2
       go_ret
       exact ⟨by rw [HZ0.out]; rfl, rfl⟩
 ·have hpp : (s.size : Int) < (pos : Int) + 4 := by omega
  have hz0 : z = 0 := by rw [HZ.out]; exact sz_four_bad (by omega) (by omega) (by omega) (by omega) (by omega) (by omega)
  have HZ0 := Hd hz0;clear hz0 HZ hx1 hx2 hx3;go_enter Tryd.func56, Tryd.ntmps56;go_wp2
  go_ret
  exact ⟨by rw [HZ0.out]; rfl, rfl⟩
theorem rsize_any (s : ByteArray) (pos : Nat) (w : World) (h : pos < s.size) (hs : s.size ≤ 65537) :
  Calls Tryd.prog 56 #[.string s, .int .i64 (pos : Int)] w fun e w' => e = .returned (.int .i64 (szAt s pos)) ∧ w = w' := by
 have hl := byte_lt s pos
 by_cases h0 : ((by_ s).getD pos 0).toNat < 128
 ·have e : szAt s pos = 1 := sz_ascii h0;rw [e];exact rsize_ascii s pos w h h0
 ·by_cases h1 : ((by_ s).getD pos 0).toNat < 194 ∨ 244 < ((by_ s).getD pos 0).toNat
  ·have e : szAt s pos = 0 := sz_none (by omega) h1 hl;rw [e];exact rsize_none s pos w h (by omega) h1
  ·by_cases h2 : ((by_ s).getD pos 0).toNat ≤ 223
   ·exact rsize_two s pos w h hs (by omega) h2
   ·by_cases h3 : ((by_ s).getD pos 0).toNat ≤ 239
    ·exact rsize_three s pos w h hs (by omega) h3
    ·exact rsize_four s pos w h hs (by omega) (by omega)
end Go.Proofs.YtojpohmijlkagaaDoor
