/- The laws of layer 3 (digit): their walks out of the contracts. -/
import Derived.Test.YtggpbgbnefgebaaDigitPr
set_option linter.unusedVariables false
set_option linter.unusedSimpArgs false
namespace Go.Proofs.Ytggpbgbnefgebaa
open Go.RowKit

def minText : List UInt8 := [45, 57, 50, 50, 51, 51, 55, 50, 48, 51, 54, 56, 53, 52, 55, 55, 53, 56, 48, 56]
theorem itoa_min : Lib.itoa (-9223372036854775808) = minText := by
  have h : prN minText = -9223372036854775808 := by decide +kernel
  rw [← h]
  exact itoa_prN (by decide +kernel)

set_option maxHeartbeats 800000 in
theorem dworks_any (w : World) :
    Calls Try.prog 8 #[] w fun e w' => e = .returned (.bool true) ∧ Only [] w w' := by
  have h1 := parse_any ⟨#[45, 48]⟩ w (by decide)
  rw [show prN (ByteArray.mk #[45, 48]).data.toList = 0 by decide +kernel, show prE (ByteArray.mk #[45, 48]).data.toList = 5 by decide +kernel] at h1
  have h2 := parse_any ⟨#[57, 50, 50, 51, 51, 55, 50, 48, 51, 54, 56, 53, 52, 55, 55, 53, 56, 48, 56]⟩ w (by decide)
  rw [show prN (ByteArray.mk #[57, 50, 50, 51, 51, 55, 50, 48, 51, 54, 56, 53, 52, 55, 55, 53, 56, 48, 56]).data.toList = 0 by decide +kernel, show prE (ByteArray.mk #[57, 50, 50, 51, 51, 55, 50, 48, 51, 54, 56, 53, 52, 55, 55, 53, 56, 48, 56]).data.toList = 8 by decide +kernel] at h2
  have h3 := parse_any ⟨#[45, 55, 48]⟩ w (by decide)
  rw [show prN (ByteArray.mk #[45, 55, 48]).data.toList = -70 by decide +kernel, show prE (ByteArray.mk #[45, 55, 48]).data.toList = 0 by decide +kernel] at h3
  have h4 := print_any (-9223372036854775808) w (by omega) (by omega)
  rw [itoa_min] at h4
  have H1 := Lib.hid h1
  have H2 := Lib.hid h2
  have H3 := Lib.hid h3
  have H4 := Lib.hid h4
  clear h1 h2 h3 h4
  go_enter Try.func8, Try.ntmps8
  go_wp2_with fail
  refine H1.out.mono ?_
  rintro e w' ⟨rfl, rfl⟩
  go_wp2_with fail
  refine H2.out.mono ?_
  rintro e w' ⟨rfl, rfl⟩
  go_wp2_with fail
  refine H3.out.mono ?_
  rintro e w' ⟨rfl, rfl⟩
  go_wp2_with fail
  refine H4.out.mono ?_
  rintro e w' ⟨rfl, ho⟩
  have HE : (ByteArray.mk minText.toArray).toList = [45, 57, 50, 50, 51, 51, 55, 50, 48, 51, 54, 56, 53, 52, 55, 55, 53, 56, 48, 56] := by
    rw [Lib.toList_data]; rfl
  go_wp2
  go_ret
  exact ⟨rfl, ho⟩

set_option maxHeartbeats 800000 in
theorem digitPrints_walk (n : Int) (w : World) (h1 : -9223372036854775808 ≤ n) (h2 : n ≤ 9223372036854775807) :
    Calls Try.prog 3 #[.int .i64 n] w fun e w' => e = .returned (.bool true) ∧ Only [] w w' := by
  generalize ht : Lib.itoa n = t
  have HP : ∀ w, Hid (Calls Try.prog 6 #[.int .i64 n] w fun e w' => e = .returned (.string ⟨t.toArray⟩) ∧ Only [] w w') := fun w => by
    have := print_any n w h1 h2; rw [ht] at this; exact this
  have HR : ∀ w, Hid (Calls Try.prog 7 #[.int .i64 n] w fun e w' => e = .returned (.string ⟨t.toArray⟩) ∧ Only [] w w') := fun w => by
    have := rprint_any n w h1 h2; rw [ht] at this; exact this
  have HPH := Lib.hid HP
  have HRH := Lib.hid HR
  clear HP HR ht
  go_enter Try.func3, Try.ntmps3
  go_wp2_with fail
  refine (HPH.out _).mono ?_
  rintro e w1 ⟨rfl, O1⟩
  go_wp2_with fail
  refine (HRH.out _).mono ?_
  rintro e w2 ⟨rfl, O2⟩
  go_wp2_with fail
  refine (dworks_any _).mono ?_
  rintro e w3 ⟨rfl, O3⟩
  go_wp2
  go_ret
  exact ⟨rfl, O1.trans (O2.trans O3)⟩

set_option maxHeartbeats 800000 in
theorem digitParses_walk (s : ByteArray) (w : World) (h : s.size ≤ 9223372036854775807) :
    Calls Try.prog 4 #[.string s] w fun e w' => e = .returned (.bool true) ∧ Only [] w w' := by
  have h1 := parse_any s w h
  have h2 := rparse_any s w h
  have h3 := digits_any s w h
  have h4 := rdigits_any s w h
  generalize prN s.data.toList = n at *
  generalize prE s.data.toList = e at *
  generalize digB s.data.toList = b at *
  have H1 := Lib.hid h1
  have H2 := Lib.hid h2
  have H3 := Lib.hid h3
  have H4 := Lib.hid h4
  clear h1 h2 h3 h4
  go_enter Try.func4, Try.ntmps4
  go_wp2_with fail
  refine H1.out.mono ?_
  rintro e w' ⟨rfl, rfl⟩
  go_wp2_with fail
  refine H2.out.mono ?_
  rintro e w' ⟨rfl, rfl⟩
  go_wp2_with fail
  refine H3.out.mono ?_
  rintro e w' ⟨rfl, rfl⟩
  go_wp2_with fail
  refine H4.out.mono ?_
  rintro e w' ⟨rfl, rfl⟩
  go_wp2_with fail
  refine (dworks_any _).mono ?_
  rintro e w3 ⟨rfl, O3⟩
  go_wp2
  go_ret
  exact ⟨rfl, O3⟩

set_option maxHeartbeats 800000 in
theorem digitBack_walk (n : Int) (s : ByteArray) (w : World) (h1 : -9223372036854775808 ≤ n) (h2 : n ≤ 9223372036854775807) (h : s.size ≤ 9223372036854775807) :
    Calls Try.prog 5 #[.int .i64 n, .string s] w fun e w' => e = .returned (.bool true) ∧ Only [] w w' := by
  have hP := fun w => print_any n w h1 h2
  have hB := fun w => parse_any ⟨(Lib.itoa n).toArray⟩ w (by
    rw [Lib.size_eq]
    have : (Lib.itoa n).length ≤ 21 := by
      unfold Lib.itoa
      split
      · have := dec_len n.natAbs (by omega); simp; omega
      · have := dec_len n.toNat (by omega); omega
    simp at this ⊢
    omega)
  simp only [List.toList_toArray] at hB
  rw [prN_itoa n h1 h2, prE_itoa n h1 h2] at hB
  have hS := fun w => parse_any s w h
  have HP := Lib.hid hP
  have HB := Lib.hid hB
  have HS := Lib.hid hS
  clear hP hB hS
  have hfin : prE s.data.toList = 0 → ∀ w, Calls Try.prog 6 #[.int .i64 (prN s.data.toList)] w fun e w' => e = .returned (.string s) ∧ Only [] w w' := fun h0 w => by
    have hb : -9223372036854775808 ≤ prN s.data.toList ∧ prN s.data.toList ≤ 9223372036854775807 := by
      unfold prE at h0
      unfold prN
      split at h0
      · cases h0
      · split at h0
        · rename_i hd hc
          split
          · rcases hc with ⟨a, b⟩ | ⟨a, b⟩ <;> simp only [a] <;> simp <;> omega
          · omega
        · cases h0
    have := print_any _ w hb.1 hb.2
    rw [itoa_prN h0] at this
    exact this
  have HF := Lib.hid hfin
  clear hfin
  generalize prN s.data.toList = m at *
  generalize prE s.data.toList = x at *
  go_enter Try.func5, Try.ntmps5
  go_wp2_with fail
  refine (dworks_any _).mono ?_
  rintro e w1 ⟨rfl, O1⟩
  go_wp2_with fail
  refine (HP.out _).mono ?_
  rintro e w2 ⟨rfl, O2⟩
  go_wp2_with fail
  refine (HB.out _).mono ?_
  rintro e w' ⟨rfl, rfl⟩
  go_wp2_with fail
  refine (HS.out _).mono ?_
  rintro e w' ⟨rfl, rfl⟩
  by_cases hx : x = 0
  · have hx' : (x != 0) = false := by simp [hx]
    have HX := Lib.hid hx
    clear hx
    go_wp2_with fail
    refine (HF.out HX.out _).mono ?_
    rintro e w3 ⟨rfl, O3⟩
    go_wp2
    go_ret
    exact ⟨rfl, O1.trans (O2.trans O3)⟩
  · have hx' : (x != 0) = true := by simp [hx]
    clear hx
    go_wp2
    go_ret
    exact ⟨rfl, O1.trans O2⟩

end Go.Proofs.Ytggpbgbnefgebaa
