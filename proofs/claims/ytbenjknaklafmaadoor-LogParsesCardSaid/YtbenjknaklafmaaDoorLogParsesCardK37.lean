/- Contracts of the reference of layer 5. A number's text: the reference's Print. Contracts of the reference of layer 5: Print. -/
import Derived.Test.YtbenjknaklafmaaDoorLogParsesCardK18
import Derived.Test.YtbenjknaklafmaaDoorLogParsesCardK15
set_option linter.unusedVariables false
set_option linter.unusedSimpArgs false
namespace Go.Proofs.YtbenjknaklafmaaDoor
open Go.RowKit

set_option maxHeartbeats 400000 in
theorem rmay_any (k n : Int) (w : World) : Calls Tryd.prog 46 #[.agg #[.int .i64 k, .int .i64 n]] w fun e w' => e = .returned (.bool (mayB k n)) ∧ Only [] w w' := by
  unfold mayB
  by_cases h1 : k = 1
  · subst h1
    go_enter Tryd.func46, Tryd.ntmps46
    go_wp2
    go_ret
    exact ⟨by simp, (Only.refl _ _).alloc _⟩
  · have h1' : (k == 1) = false := by simp [h1]
    have H1 := Lib.hid h1
    clear h1
    by_cases h0 : k = 0
    · subst h0
      go_enter Tryd.func46, Tryd.ntmps46
      go_wp2
      go_ret
      exact ⟨ret_boolv (by simp; try (rw [Bool.eq_iff_iff]; simp)), (Only.refl _ _).alloc _⟩
    · have h0' : (k == 0) = false := by simp [h0]
      have H0 := Lib.hid h0
      clear h0
      by_cases h2 : k = 2
      · subst h2
        go_enter Tryd.func46, Tryd.ntmps46
        go_wp2
        go_ret
        exact ⟨ret_boolv (by simp; try (rw [Bool.eq_iff_iff]; simp)), (Only.refl _ _).alloc _⟩
      · have h2' : (k == 2) = false := by simp [h2]
        have H2 := Lib.hid h2
        clear h2
        go_enter Tryd.func46, Tryd.ntmps46
        go_wp2
        go_ret
        exact ⟨ret_boolv (by simp [H0.out, H1.out, H2.out]), (Only.refl _ _).alloc _⟩

end Go.Proofs.YtbenjknaklafmaaDoor

set_option linter.unusedVariables false
set_option linter.unusedSimpArgs false
namespace Go.Proofs.YtbenjknaklafmaaDoor
open Go.RowKit

set_option maxHeartbeats 800000 in
theorem rprint_pos (n : Nat) (w : World) (h : (n : Int) ≤ 9223372036854775807) (h0 : 0 < n) :
    Calls Tryd.prog 67 #[.int .i64 n] w fun e w' => e = .returned (.string ⟨(Lib.itoa n).toArray⟩) ∧ Only [] w w' := by
  have hz : ((n : Int) == 0) = false := by simp; omega
  have hz2 : ¬ (n : Int) < 0 := by omega
  go_enter Tryd.func67, Tryd.ntmps67
  go_wp2
  go_loopw [3, 4] (fun t x wr => ∃ (u : Nat) (l : ByteArray), u ≤ n ∧ x = .int .i64 u ∧ t = .string l ∧ Lib.decDigits n = ahead false u ++ l.data.toList ∧ Only [] w wr) (fun _ x _ => (intOf x).toNat)
  case atStart => exact ⟨n, ⟨#[]⟩, Nat.le_refl _, rfl, rfl, by rw [ahead_pos h0]; simp, Only.refl _ _⟩
  case round =>
    obtain ⟨u, l, hu, rfl, rfl, hl, ho⟩ := hrel
    have HL := Lib.hid hl
    have HO := Lib.hid ho
    clear hl ho
    by_cases hp : 0 < u
    · have hu0 : ((u : Int) != 0) = true := by simp; omega
      have hc := conv_one wr
      have hm0 : 0 ≤ (u : Int) % 10 := by omega
      have hm1 : (u : Int) % 10 ≤ 9 := by omega
      have hroom : ¬ 9223372036854775807 < (strOfNums [48 + (u : Int) % 10]).size + l.size := dig_room _ (by omega) hp HL.out
      go_wp2
      go_roundw
      case rel => exact ⟨u / 10, _, by omega, by go_num, rfl, dig_step hp HL.out, HO.out.alloc _⟩
      case measure => simp [intOf]; omega
    · have hu0 : ((u : Int) != 0) = false := by simp; omega
      have hl20 := dig_room1 (n := n) (by omega) HL.out
      go_wp2
      go_ret
      refine ⟨ret_str ?_, HO.out⟩
      rw [itoa_nat]
      have := HL.out
      rw [ahead_end (by simpa using hp)] at this
      simpa using this.symm

set_option maxHeartbeats 800000 in
theorem rprint_neg (n : Nat) (w : World) (h : (n : Int) ≤ 9223372036854775808) (h0 : 0 < n) :
    Calls Tryd.prog 67 #[.int .i64 (-(n : Int))] w fun e w' => e = .returned (.string ⟨(Lib.itoa (-(n : Int))).toArray⟩) ∧ Only [] w w' := by
  obtain ⟨m, hm⟩ : ∃ m : Int, m = -(n : Int) := ⟨_, rfl⟩
  rw [← hm]
  have HM := Lib.hid hm
  have hz : (m == 0) = false := by simp; omega
  have hz2 : m < 0 := by omega
  have hlo : -9223372036854775808 ≤ m := by omega
  clear hm
  go_enter Tryd.func67, Tryd.ntmps67
  go_wp2
  go_loopw [3, 4] (fun t x wr => ∃ (u : Nat) (y : Int) (l : ByteArray), u ≤ n ∧ x = .int .i64 y ∧ y = -(u : Int) ∧ t = .string l ∧ Lib.decDigits n = ahead false u ++ l.data.toList ∧ Only [] w wr) (fun _ x _ => (-(intOf x)).toNat)
  case atStart => exact ⟨n, m, ⟨#[]⟩, Nat.le_refl _, rfl, HM.out, rfl, by rw [ahead_pos h0]; simp, Only.refl _ _⟩
  case round =>
    obtain ⟨u, y, l, hu, rfl, hy, rfl, hl, ho⟩ := hrel
    have HY := Lib.hid hy
    have HL := Lib.hid hl
    have HO := Lib.hid ho
    have hy1 : -9223372036854775808 ≤ y := by omega
    have hy2 : y ≤ 0 := by omega
    clear hl ho
    by_cases hp : 0 < u
    · have hu0 : (y != 0) = true := by simp; omega
      clear hy
      have hc := conv_one wr
      have hq : y.tmod 10 = -((u % 10 : Nat) : Int) := by rw [HY.out, Int.neg_tmod]; rfl
      have hd : y.tdiv 10 = -((u / 10 : Nat) : Int) := by rw [HY.out, Int.neg_tdiv]; rfl
      have hq1 : -9 ≤ y.tmod 10 := by omega
      have hq2 : y.tmod 10 ≤ 0 := by omega
      have HQ := Lib.hid hq
      have HD := Lib.hid hd
      have hroom : ∀ x : Int, ¬ 9223372036854775807 < (strOfNums [x]).size + l.size := fun x => dig_room x (by omega) hp HL.out
      clear hq hd
      by_cases hs : y.tmod 10 < 0
      all_goals
        go_wp2
        go_roundw
        case rel =>
          refine ⟨u / 10, y.tdiv 10, _, by omega, rfl, HD.out, rfl, ?_, HO.out.alloc _⟩
          first
            | (rw [show (48 + -y.tmod 10 : Int) = 48 + ((u % 10 : Nat) : Int) by rw [HQ.out]; omega]; exact dig_step hp HL.out)
            | (rw [show (48 + y.tmod 10 : Int) = 48 + ((u % 10 : Nat) : Int) by have := HQ.out; omega]; exact dig_step hp HL.out)
        case measure => have e1 := HY.out; have e2 := HD.out; clear hq1 hq2 hs HQ; simp only [intOf]; omega
    · have hu0 : (y != 0) = false := by simp; omega
      clear hy
      have hl20 := dig_room1 (n := n) (by omega) HL.out
      go_wp2
      go_ret
      refine ⟨ret_str ?_, HO.out⟩
      rw [HM.out, itoa_neg n h0]
      have := HL.out
      rw [ahead_end (by simpa using hp)] at this
      rw [this, ByteArray.data_append]
      simp

set_option maxHeartbeats 400000 in
theorem rprint_zero (w : World) :
    Calls Tryd.prog 67 #[.int .i64 0] w fun e w' => e = .returned (.string ⟨(Lib.itoa 0).toArray⟩) ∧ Only [] w w' := by
  have hz : Lib.itoa 0 = [48] := by unfold Lib.itoa; rw [if_neg (by decide)]; exact dec_zero
  rw [hz]
  go_enter Tryd.func67, Tryd.ntmps67
  go_wp2
  go_ret
  exact ⟨rfl, Only.refl _ _⟩

theorem rprint_any (n : Int) (w : World) (h1 : -9223372036854775808 ≤ n) (h2 : n ≤ 9223372036854775807) :
    Calls Tryd.prog 67 #[.int .i64 n] w fun e w' => e = .returned (.string ⟨(Lib.itoa n).toArray⟩) ∧ Only [] w w' := by
  by_cases h0 : n = 0
  · subst h0
    exact rprint_zero w
  · by_cases hn : n < 0
    · have := rprint_neg n.natAbs w (by omega) (by omega)
      rwa [show (-(n.natAbs : Int)) = n by omega] at this
    · have := rprint_pos n.natAbs w (by omega) (by omega)
      rwa [show (n.natAbs : Int) = n by omega] at this

end Go.Proofs.YtbenjknaklafmaaDoor

set_option linter.unusedVariables false
set_option linter.unusedSimpArgs false
namespace Go.Proofs.YtbenjknaklafmaaDoor
open Go.RowKit

theorem rvprint_any (k n : Int) (w : World) (h1 : -9223372036854775808 ≤ n) (h2 : n ≤ 9223372036854775807) :
    Calls Tryd.prog 47 #[.agg #[.int .i64 k, .int .i64 n]] w fun e w' => e = .returned (.tuple #[.string ⟨(vText k n).toArray⟩, .int .i64 (vErr k n)]) ∧ Only [] w w' := by
  have hm := fun w => rmay_any k n w
  have hp := fun w => rprint_any n w h1 h2
  have HM := Lib.hid hm
  have HP := Lib.hid hp
  clear hm hp
  rcases mayB_cases k n with ⟨a, b, c⟩ | ⟨a, b, rfl, c⟩ | ⟨a, b, rfl, rfl, c⟩ | ⟨a, b, rfl, rfl, c⟩
  all_goals
    rw [b, c]
    have HM' : ∀ w, Hid (Calls Tryd.prog 46 #[.agg #[.int .i64 _, .int .i64 _]] w fun e w' => e = .returned (.bool _) ∧ Only [] w w') := fun w => by
      have := HM.out w; rw [a] at this; exact this
    have HMH := Lib.hid HM'
    clear HM HM' a b c
    go_enter Tryd.func47, Tryd.ntmps47
    go_wp2_with fail
    refine (HMH.out _).out.mono ?_
    rintro e w1 ⟨rfl, O1⟩
    have b1 := O1.blk (Blk.made w 36 #[.int .i64 _, .int .i64 _]) (by simp)
    have c0 := b1.at_ 0
    have c1 := b1.at_ 1
    simp at c0 c1
    have HO := Lib.hid (((Only.refl [] w).alloc (.cells #[.int .i64 _, .int .i64 _] 36)).trans O1)
    clear b1 O1
    go_wp2_with fail
    first
      | (refine (HP.out _).mono ?_
         rintro e w2 ⟨rfl, O2⟩
         go_wp2
         go_ret2
         exact ⟨rfl, HO.out.trans O2⟩)
      | (go_ret2
         exact ⟨rfl, HO.out⟩)

end Go.Proofs.YtbenjknaklafmaaDoor
