/- The law's works and short. -/
import Derived.Test.YtaeildajbhiedaaDoorSplitB
set_option linter.unusedVariables false
set_option linter.unusedSimpArgs false
namespace Go.Proofs.YtaeildajbhiedaaDoor
open Go.RowKit
open Go.Lib hiding intOf
attribute [local go_sem ↓] Go.wp_at_zero Go.wp_at_succ

def ex6 : ByteArray := ⟨#[114, 101, 97, 100, 32, 97, 32, 32, 98, 32, 35, 120]⟩
theorem ex6_words : badL (by_ ex6) = false ∧ wordsOf (by_ ex6) = [(0, 4), (5, 6), (8, 9)] := ⟨by kernel_rfl, by kernel_rfl⟩
theorem ex6_cells : wordsV ex6 [(0, 4), (5, 6), (8, 9)] = [.string ⟨#[114, 101, 97, 100]⟩, .int .i64 1, .string ⟨#[97]⟩, .int .i64 6, .string ⟨#[98]⟩, .int .i64 9] := by kernel_rfl
theorem ex6_remark : remarkL (by_ ex6) = [120] ∧ (by_ ex6).contains 35 = true := ⟨by kernel_rfl, by kernel_rfl⟩
theorem ex6_join : joinW [⟨#[97]⟩, ⟨#[98]⟩] = [97, 32, 98] := by kernel_rfl

set_option maxHeartbeats 2000000 in
theorem works06_any (w : World) (hT : UTabs w) (hM : MLen w) :
    Calls Tryd.prog 27 #[] w fun e w' => e = .returned (.bool true) ∧ Only [] w w' := by
  have HW := Lib.hid (words_any ex6 w (by decide) hT hM)
  rw [ex6_words.1, ex6_words.2, ex6_cells] at HW
  have HR := Lib.hid (fun w' (h : Only [] w w') => remark_any ex6 w' (by decide) (hM.only h))
  rw [ex6_remark.1, ex6_remark.2] at HR
  have HJ := Lib.hid (fun A n c B w' hA hn hc => join_any A n c B [⟨#[97]⟩, ⟨#[98]⟩] w' hA hn hc (by rw [ex6_join]; decide))
  rw [ex6_join] at HJ
  unfold ex6 at HW HR
  clear hT hM
  go_enter Tryd.func27, Tryd.ntmps27
  go_wp2_with fail
  refine (HW.out).mono ?_
  rintro e w1 ⟨hO1, ⟨h, -⟩ | ⟨-, V, rfl, hown⟩⟩
  · cases h
  obtain ⟨A, c, rfl, hc1, hc2, -, hrow⟩ := own_row hown
  obtain ⟨b, off, rfl, hbB, hbw, hcell⟩ := hrow.open_ (k := 0) (by simp)
  have h4 := hcell 4 _ rfl
  have h5 := hcell 5 _ rfl
  have HO1 := Lib.hid hO1
  have H4 := Lib.hid h4
  have H5 := Lib.hid h5
  clear hcell hrow hown hO1 h4 h5
  go_wp2_with fail
  refine (HR.out w1 HO1.out).mono ?_
  rintro e w2 ⟨rfl, hO2⟩
  have g4 : w2.cell? ⟨b, off + 4, none⟩ = some (.string ⟨#[98]⟩) := (hO2.cell (p := ⟨b, off + 4, none⟩) hbw (by simp)).trans H4.out
  have g5 : w2.cell? ⟨b, off + 5, none⟩ = some (.int .i64 9) := (hO2.cell (p := ⟨b, off + 5, none⟩) hbw (by simp)).trans H5.out
  have HO2 := Lib.hid (HO1.out.trans hO2)
  clear hO2
  go_wp2_with fail
  refine (HJ.out _ 2 2 _ _ (row_lit w2 9 #[.string ⟨#[97]⟩, .string ⟨#[98]⟩]) rfl (by omega) (by omega)).mono ?_
  rintro e w3 ⟨rfl, hO3⟩
  have HO3 := Lib.hid ((HO2.out.alloc _).trans hO3)
  clear hO3
  go_wp2
  go_ret
  exact ⟨rfl, HO3.out⟩

def short6 (s : ByteArray) : ByteArray := s.extract 0 (min s.size 2000)
theorem short6_size (s : ByteArray) : (short6 s).size ≤ 2000 := by
  unfold short6
  rw [ByteArray.size_extract]
  omega
theorem short6_any (s : ByteArray) (w : World) (hs : s.size ≤ 9223372036854775807) :
    Calls Tryd.prog 22 #[.string s] w fun e w' => e = .returned (.string (short6 s)) ∧ w = w' := by
  unfold short6
  by_cases h3 : s.size ≤ 2000
  · rw [Nat.min_eq_left h3, show s.extract 0 s.size = s from by_inj (by rw [by_extract, List.drop_zero, List.take_of_length_le (by rw [by_length]; exact Nat.le_refl _)])]
    have hmin : min (s.size : Int) 2000 = (s.size : Int) := by omega
    go_enter Tryd.func22, Tryd.ntmps22
    go_wp2
    go_ret
    exact ⟨rfl, rfl⟩
  · rw [Nat.min_eq_right (by omega)]
    have hmin : min (s.size : Int) 2000 = 2000 := by omega
    have hb : (2000 : Int) ≤ (s.size : Int) := by omega
    go_enter Tryd.func22, Tryd.ntmps22
    go_wp2
    go_ret
    exact ⟨rfl, rfl⟩

end Go.Proofs.YtaeildajbhiedaaDoor
