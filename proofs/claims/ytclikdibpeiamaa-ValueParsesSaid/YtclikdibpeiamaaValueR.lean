/- Contracts of the reference of layer 5. -/
import Derived.Test.YtclikdibpeiamaaValueRM
import Derived.Test.YtclikdibpeiamaaDigitRPr
import Derived.Test.YtclikdibpeiamaaDigitRP
set_option linter.unusedVariables false
set_option linter.unusedSimpArgs false
namespace Go.Proofs.Ytclikdibpeiamaa
open Go.RowKit

set_option maxHeartbeats 800000 in
theorem rvprint_any (k n : Int) (w : World) (h1 : -9223372036854775808 ≤ n) (h2 : n ≤ 9223372036854775807) :
    Calls Try.prog 22 #[.agg #[.int .i64 k, .int .i64 n]] w fun e w' => e = .returned (.tuple #[.string ⟨(vText k n).toArray⟩, .int .i64 (vErr k n)]) ∧ Only [] w w' := by
  have hm := fun w => rmay_any k n w
  have hp := fun w => rprint_any n w h1 h2
  have HM := Lib.hid hm
  have HP := Lib.hid hp
  clear hm hp
  rcases mayB_cases k n with ⟨a, b, c⟩ | ⟨a, b, rfl, c⟩ | ⟨a, b, rfl, rfl, c⟩ | ⟨a, b, rfl, rfl, c⟩
  all_goals
    rw [b, c]
    have HM' : ∀ w, Hid (Calls Try.prog 24 #[.agg #[.int .i64 _, .int .i64 _]] w fun e w' => e = .returned (.bool _) ∧ Only [] w w') := fun w => by
      have := HM.out w; rw [a] at this; exact this
    have HMH := Lib.hid HM'
    clear HM HM' a b c
    go_enter Try.func22, Try.ntmps22
    go_wp2_with fail
    refine (HMH.out _).out.mono ?_
    rintro e w1 ⟨rfl, O1⟩
    have b1 := O1.blk (Blk.made w 25 #[.int .i64 _, .int .i64 _]) (by simp)
    have c0 := b1.at_ 0
    have c1 := b1.at_ 1
    simp at c0 c1
    have HO := Lib.hid (((Only.refl [] w).alloc (.cells #[.int .i64 _, .int .i64 _] 25)).trans O1)
    clear b1 O1
    go_wp2_with fail
    first
      | (refine (HP.out _).mono ?_
         rintro e w2 ⟨rfl, O2⟩
         go_wp2
         go_ret2
         exact ⟨rfl, HO.out.trans O2⟩)
      | (go_ret2
         exact ⟨rfl, HO.out⟩)

set_option maxHeartbeats 800000 in
theorem rvparse_any (s : ByteArray) (w : World) (h : s.size ≤ 9223372036854775807) :
    Calls Try.prog 27 #[.string s] w fun e w' => e = .returned (.tuple #[.agg #[.int .i64 (pvK s.data.toList), .int .i64 (pvN s.data.toList)], .int .i64 (pvE s.data.toList)]) ∧ Only [] w w' := by
  unfold pvK pvN pvE
  by_cases h1 : s.data.toList = [110, 105, 108]
  · rw [h1]
    have hs : (s.toList == [110, 105, 108]) = true := by rw [Lib.toList_data, h1]; rfl
    clear h1
    go_enter Try.func27, Try.ntmps27
    go_wp2
    exact bodyPost_ret (v := .tuple #[.agg #[.int .i64 0, .int .i64 0], .int .i64 0]) (by simp [results, Try.results27, go_sem]) rfl ⟨rfl, (Only.refl _ _).alloc _⟩
  · have hs1 : (s.toList == [110, 105, 108]) = false := by rw [Lib.toList_data]; simpa using h1
    by_cases h2 : s.data.toList = [63]
    · rw [h2]
      have hs2 : (s.toList == [63]) = true := by rw [Lib.toList_data, h2]; rfl
      clear h1 h2
      go_enter Try.func27, Try.ntmps27
      go_wp2
      exact bodyPost_ret (v := .tuple #[.agg #[.int .i64 2, .int .i64 0], .int .i64 0]) (by simp [results, Try.results27, go_sem]) rfl ⟨rfl, (Only.refl _ _).alloc _⟩
    · have hs2 : (s.toList == [63]) = false := by rw [Lib.toList_data]; simpa using h2
      rw [if_neg h1, if_neg h2, if_neg h1, if_neg h2, if_neg h1, if_neg h2]
      have hp := fun w => rparse_any s w h
      generalize prN s.data.toList = n at *
      generalize prE s.data.toList = x at *
      have HP := Lib.hid hp
      clear hp h1 h2
      by_cases hx : x = 0
      · rw [if_pos hx, if_pos hx]
        have hx' : (x != 0) = false := by simp [hx]
        have HX := Lib.hid hx
        clear hx
        go_enter Try.func27, Try.ntmps27
        go_wp2_with fail
        refine (HP.out _).mono ?_
        rintro e w1 ⟨rfl, rfl⟩
        go_wp2
        exact bodyPost_ret (v := .tuple #[.agg #[.int .i64 1, .int .i64 n], .int .i64 0]) (by simp [results, Try.results27, go_sem]) rfl ⟨by rw [HX.out], (Only.refl _ _).alloc _⟩
      · rw [if_neg hx, if_neg hx]
        have hx' : (x != 0) = true := by simp [hx]
        clear hx
        go_enter Try.func27, Try.ntmps27
        go_wp2_with fail
        refine (HP.out _).mono ?_
        rintro e w1 ⟨rfl, rfl⟩
        go_wp2
        exact bodyPost_ret (v := .tuple #[.agg #[.int .i64 0, .int .i64 0], .int .i64 x]) (by simp [results, Try.results27, go_sem]) rfl ⟨rfl, (Only.refl _ _).alloc _⟩

end Go.Proofs.Ytclikdibpeiamaa
