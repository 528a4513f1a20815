/- Contracts of the document's names: Runes, Clean, Is, Less. -/
import Derived.Test.YtjhomlnlmpdklaaGreatDoorEraseStaysCardK40
import Derived.Test.YtjhomlnlmpdklaaGreatDoorEraseStaysCardK15
import Derived.Test.YtjhomlnlmpdklaaGreatDoorEraseStaysCardK26
import Derived.Deep.QuietTactic
import Derived.BigQuiet
set_option linter.unusedVariables false
set_option linter.unusedSimpArgs false
namespace Go.Proofs.YtjhomlnlmpdklaaGreatDoor
open Go.RowKit
open Go.Lib hiding intOf
attribute [local go_sem ↓] Go.wp_at_zero Go.wp_at_succ
set_option maxHeartbeats 4000000 in
theorem rless_any (a b : ByteArray) (w : World) (ha : a.size ≤ 65537) (hb : b.size ≤ 65537) :
  Calls Tryz.prog 57 #[.string a, .string b] w fun e w' => e = .returned (.bool (lessL (runesL (by_ a)) (runesL (by_ b)))) ∧ Only [] w w' := by
 have HA := Lib.hid (rrunes02_any a w ha)
 have HB := Lib.hid (fun w' => rrunes02_any b w' hb)
 have hxl := runes_len (by_ a)
 have hyl := runes_len (by_ b)
 rw [by_length] at hxl hyl
 obtain ⟨x, hx⟩ : ∃ x, x = runesL (by_ a) := ⟨_, rfl⟩
 obtain ⟨y, hy⟩ : ∃ y, y = runesL (by_ b) := ⟨_, rfl⟩
 rw [← hx] at HA hxl
 rw [← hy] at HB hyl
 rw [← hx, ← hy]
 obtain ⟨n, hn⟩ : ∃ n, n = x.length := ⟨_, rfl⟩
 obtain ⟨m, hm⟩ : ∃ m, m = y.length := ⟨_, rfl⟩
 rw [← hn] at HA hxl
 rw [← hm] at HB hyl
 obtain ⟨R, hR⟩ : ∃ R, R = lessL x y := ⟨_, rfl⟩
 rw [← hR]
 have HN := Lib.hid hn
 have HM := Lib.hid hm
 have HR := Lib.hid hR
 clear hx hy hn hm hR
 go_enter Tryz.func57, Tryz.ntmps57
 go_wp2_with fail
 refine (HA.out).mono ?_
 rintro e w1 ⟨hO1, V1, rfl, hown1⟩
 have HO1 := Lib.hid hO1
 obtain ⟨A1, c1, rfl, -, -, -, hrow1⟩ := own_row hown1
 have HROW1 := Lib.hid hrow1
 clear hO1 hown1 hrow1
 go_wp2_with fail
 refine (HB.out w1).mono ?_
 rintro e w2 ⟨hO2, V2, rfl, hown2⟩
 have HO2 := Lib.hid (HO1.out.trans hO2)
 have HX := Lib.hid (HROW1.out.only hO2 (by simp))
 obtain ⟨A2, c2, rfl, -, -, -, hrow2⟩ := own_row hown2
 have HY := Lib.hid hrow2
 clear hO2 hown2 hrow2 HROW1
 go_wp2_with fail
 go_loopw [7] (fun iv wr => ∃ (k q : Nat), iv = .int .i64 k ∧ k ≤ n ∧ k ≤ m ∧ Hid (R = lessL (x.drop k) (y.drop k)) ∧ Hid (w2.drewN q = wr)) (fun iv _ => n - (intOf iv).toNat)
 case atStart => exact ⟨0, 0, rfl, by omega, by omega, HR, Lib.hid rfl⟩
 case round =>
  obtain ⟨k, q, rfl, hk1, hk2, HL, hw⟩ := hrel
  by_cases hlt : k < n ∧ k < m
  ·obtain ⟨l1, l2⟩ := hlt
   have i1 : (k : Int) < (n : Int) := by omega
   have i2 : (k : Int) < (m : Int) := by omega
   have i0 : (0 : Int) ≤ (k : Int) := Int.natCast_nonneg _
   obtain ⟨r, hr⟩ : ∃ r, x[k]? = some r := ⟨_, List.getElem?_eq_getElem (by rw [← HN.out]; exact l1)⟩
   obtain ⟨z, hz⟩ : ∃ z, y[k]? = some z := ⟨_, List.getElem?_eq_getElem (by rw [← HM.out]; exact l2)⟩
   have HDR := Lib.hid (less_drop x y k r z hr hz)
   obtain ⟨b1, o1, rfl, -, hbw1, hc1⟩ := HX.out.open_ (k := k) (by rw [i64s_len, ← HN.out]; exact l1)
   obtain ⟨b2, o2, rfl, -, hbw2, hc2⟩ := HY.out.open_ (k := k) (by rw [i64s_len, ← HM.out]; exact l2)
   have g1 : wr.cell? ⟨b1, o1 + k, none⟩ = some (.int .i64 (r : Int)) := by rw [← hw.out]; exact hc1 _ _ (i64s_at x k r hr)
   have g2 : wr.cell? ⟨b2, o2 + k, none⟩ = some (.int .i64 (z : Int)) := by rw [← hw.out]; exact hc2 _ _ (i64s_at y k z hz)
   have hwk : IntKind.i64.wrap ((k : Int) + 1) = (k : Int) + 1 := IntWalk.i64_in _ (by omega)
   clear hr hz hc1 hc2
   by_cases hrz : r = z
   ·subst hrz
    have hne : ((r : Int) != (r : Int)) = false := by simp
    have HL2 : Hid (R = lessL (x.drop (k + 1)) (y.drop (k + 1))) := Lib.hid (by rw [HL.out, HDR.out, if_pos rfl])
    clear HL HDR
    go_wp2_with fail
    go_quiet (fail)
    go_wp2
    go_roundw
    case rel =>
     refine ⟨k + 1, q + nq, by go_num, by omega, by omega, HL2, Lib.hid ?_⟩
     rw [← hw.out, World.drewN_drewN]
    case measure => simp [intOf]; omega
   ·have hne : ((r : Int) != (z : Int)) = true := by simp; omega
    have HF : Hid (R = decide (r < z)) := Lib.hid (by rw [HL.out, HDR.out, if_neg hrz])
    have HOW := Lib.hid (HO2.out.drewN q)
    rw [hw.out] at HOW
    clear HL HDR hrz
    go_wp2_with fail
    go_quiet (fail)
    have g1' : (wr.drewN nq).cell? ⟨b1, o1 + k, none⟩ = some (.int .i64 (r : Int)) := g1
    have g2' : (wr.drewN nq).cell? ⟨b2, o2 + k, none⟩ = some (.int .i64 (z : Int)) := g2
    have HOW2 := Lib.hid (HOW.out.drewN nq)
    generalize wr.drewN nq = w5 at *
    clear g1 g2
    go_wp2_with fail
    go_quiet (fail)
    go_wp2
    go_ret
    exact ⟨by first | (rw [HF.out]; done) | (rw [HF.out]; rfl) | (rw [HF.out]; simp), HOW2.out.drewN _⟩
  ·have HF : Hid (R = decide (n < m)) := Lib.hid (by
    rw [HL.out, less_end (by
     by_cases h : k < n
     ·right; exact List.drop_of_length_le (by rw [← HM.out]; omega)
     ·left; exact List.drop_of_length_le (by rw [← HN.out]; omega)), List.length_drop, List.length_drop, ← HN.out, ← HM.out]
    by_cases h : n < m
    ·rw [decide_eq_true h, decide_eq_true (by omega)]
    ·rw [decide_eq_false h, decide_eq_false (by omega)])
   have hguard : (decide ((k : Int) < (n : Int)) = false ∧ decide (k < n) = false) ∨ ((k : Int) < (n : Int) ∧ decide ((k : Int) < (m : Int)) = false ∧ decide (k < m) = false) := by
    by_cases h : k < n
    ·right
     exact ⟨by omega, decide_eq_false (by omega), decide_eq_false (by omega)⟩
    ·left
     exact ⟨decide_eq_false (by omega), decide_eq_false (by omega)⟩
   have HOW := Lib.hid (HO2.out.drewN q)
   rw [hw.out] at HOW
   clear hlt HL
   rcases hguard with ⟨h1, h2⟩ | ⟨h1, h2, h3⟩
   ·go_wp2
    go_ret
    exact ⟨by first | (rw [HF.out]; done) | (rw [HF.out]; rfl) | (rw [HF.out]; simp), HOW.out⟩
   ·go_wp2
    go_ret
    exact ⟨by first | (rw [HF.out]; done) | (rw [HF.out]; rfl) | (rw [HF.out]; simp), HOW.out⟩
end Go.Proofs.YtjhomlnlmpdklaaGreatDoor
