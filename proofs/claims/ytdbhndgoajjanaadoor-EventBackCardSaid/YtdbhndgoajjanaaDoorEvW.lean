/- The law's short and works of layer 7. -/
import Derived.Test.YtdbhndgoajjanaaDoorEvP
import Derived.Test.YtdbhndgoajjanaaDoorEvD
set_option linter.unusedVariables false
set_option linter.unusedSimpArgs false
namespace Go.Proofs.YtdbhndgoajjanaaDoor
open Go.RowKit
open Go.Lib hiding intOf
attribute [local go_sem ↓] Go.wp_at_zero Go.wp_at_succ

def ex7 : ByteArray := ⟨#[119, 114, 105, 116, 101, 32, 115, 32, 120, 32, 53]⟩
theorem ex7_parse : evRV (evParse ex7) = .tuple #[.agg #[.int .i64 3, .string ⟨#[115]⟩, .string ⟨#[120]⟩, .int .i64 1, .int .i64 5, .int .i64 0], .bool true, .int .i64 0] := by kernel_rfl
theorem ex7_print : evText 3 ⟨#[115]⟩ ⟨#[120]⟩ 1 5 = ex7 := by kernel_rfl
theorem ex7_err : evErr 3 ⟨#[115]⟩ ⟨#[120]⟩ 1 5 = 0 := by kernel_rfl

def short7 (s : ByteArray) : ByteArray := s.extract 0 (min s.size 1000)
theorem short7_size (s : ByteArray) : (short7 s).size ≤ 1000 := by
  unfold short7
  rw [ByteArray.size_extract]
  omega
theorem short7_any (s : ByteArray) (w : World) (hs : s.size ≤ 9223372036854775807) :
    Calls Tryd.prog 5 #[.string s] w fun e w' => e = .returned (.string (short7 s)) ∧ w = w' := by
  unfold short7
  by_cases h3 : s.size ≤ 1000
  · rw [Nat.min_eq_left h3, show s.extract 0 s.size = s from by_inj (by rw [by_extract, List.drop_zero, List.take_of_length_le (by rw [by_length]; exact Nat.le_refl _)])]
    have hmin : min (s.size : Int) 1000 = (s.size : Int) := by omega
    go_enter Tryd.func5, Tryd.ntmps5
    go_wp2
    go_ret
    exact ⟨rfl, rfl⟩
  · rw [Nat.min_eq_right (by omega)]
    have hmin : min (s.size : Int) 1000 = 1000 := by omega
    have hb : (1000 : Int) ≤ (s.size : Int) := by omega
    go_enter Tryd.func5, Tryd.ntmps5
    go_wp2
    go_ret
    exact ⟨rfl, rfl⟩

set_option maxRecDepth 10000 in
set_option maxHeartbeats 2000000 in
theorem works07_any (w : World) (hT : UTabs w) (hM : MLen w) (hV : Verbs w) :
    Calls Tryd.prog 10 #[] w fun e w' => e = .returned (.bool true) ∧ Only [] w w' := by
  have HP := Lib.hid (evparse_any ex7 w (by decide) hT hM hV)
  rw [ex7_parse] at HP
  have HR := Lib.hid (fun w' (hO : Only [] w w') => evprint_any 3 ⟨#[115]⟩ ⟨#[120]⟩ 1 5 0 w' (by decide) (by decide) (by omega) (by omega) (hT.only hO) (hV.only hO))
  rw [ex7_print, ex7_err] at HR
  have hex : (ex7.toList == [119, 114, 105, 116, 101, 32, 115, 32, 120, 32, 53]) = true := by rw [Lib.toList_data]; rfl
  unfold ex7 at HP HR hex
  clear hT hM hV
  go_enter Tryd.func10, Tryd.ntmps10
  go_wp2_with fail
  refine (HP.out).mono ?_
  rintro e w1 ⟨rfl, O1⟩
  have HO1 := Lib.hid (O1.alloc (.cells #[.int .i64 3, .string ⟨#[115]⟩, .string ⟨#[120]⟩, .int .i64 1, .int .i64 5, .int .i64 0] 25))
  have HB := Lib.hid (Blk.made w1 25 #[.int .i64 3, .string ⟨#[115]⟩, .string ⟨#[120]⟩, .int .i64 1, .int .i64 5, .int .i64 0])
  clear O1
  go_wp2_with fail
  refine (HR.out _ HO1.out).mono ?_
  rintro e w2 ⟨rfl, O2⟩
  have HO2 := Lib.hid (HO1.out.trans O2)
  have b := O2.blk HB.out (by simp)
  have l := b.lt
  have c4 := b.at_ 4
  simp at c4
  clear O2
  go_wp2
  go_ret
  exact ⟨rfl, HO2.out⟩

end Go.Proofs.YtdbhndgoajjanaaDoor
