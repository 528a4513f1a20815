/- Contracts of the reference of layer 5. -/
import Derived.Test.YtbenjknaklafmaaDoorLogParsesCardK37
import Derived.Test.YtbenjknaklafmaaDoorLogParsesCardK43
set_option linter.unusedVariables false
set_option linter.unusedSimpArgs false
namespace Go.Proofs.YtbenjknaklafmaaDoor
open Go.RowKit

set_option maxHeartbeats 800000 in
theorem rvparse_any (s : ByteArray) (w : World) (h : s.size ≤ 9223372036854775807) :
    Calls Tryd.prog 40 #[.string s] w fun e w' => e = .returned (.tuple #[.agg #[.int .i64 (pvK s.data.toList), .int .i64 (pvN s.data.toList)], .int .i64 (pvE s.data.toList)]) ∧ Only [] w w' := by
  unfold pvK pvN pvE
  by_cases h1 : s.data.toList = [110, 105, 108]
  · rw [h1]
    have hs : (s.toList == [110, 105, 108]) = true := by rw [Lib.toList_data, h1]; rfl
    clear h1
    go_enter Tryd.func40, Tryd.ntmps40
    go_wp2
    exact bodyPost_ret (v := .tuple #[.agg #[.int .i64 0, .int .i64 0], .int .i64 0]) (by simp [results, Tryd.results40, go_sem]) rfl ⟨rfl, (Only.refl _ _).alloc _⟩
  · have hs1 : (s.toList == [110, 105, 108]) = false := by rw [Lib.toList_data]; simpa using h1
    by_cases h2 : s.data.toList = [63]
    · rw [h2]
      have hs2 : (s.toList == [63]) = true := by rw [Lib.toList_data, h2]; rfl
      clear h1 h2
      go_enter Tryd.func40, Tryd.ntmps40
      go_wp2
      exact bodyPost_ret (v := .tuple #[.agg #[.int .i64 2, .int .i64 0], .int .i64 0]) (by simp [results, Tryd.results40, go_sem]) rfl ⟨rfl, (Only.refl _ _).alloc _⟩
    · have hs2 : (s.toList == [63]) = false := by rw [Lib.toList_data]; simpa using h2
      rw [if_neg h1, if_neg h2, if_neg h1, if_neg h2, if_neg h1, if_neg h2]
      have hp := fun w => rparse_any s w h
      generalize prN s.data.toList = n at *
      generalize prE s.data.toList = x at *
      have HP := Lib.hid hp
      clear hp h1 h2
      by_cases hx : x = 0
      · rw [if_pos hx, if_pos hx]
        have hx' : (x != 0) = false := by simp [hx]
        have HX := Lib.hid hx
        clear hx
        go_enter Tryd.func40, Tryd.ntmps40
        go_wp2_with fail
        refine (HP.out _).mono ?_
        rintro e w1 ⟨rfl, rfl⟩
        go_wp2
        exact bodyPost_ret (v := .tuple #[.agg #[.int .i64 1, .int .i64 n], .int .i64 0]) (by simp [results, Tryd.results40, go_sem]) rfl ⟨by rw [HX.out], (Only.refl _ _).alloc _⟩
      · rw [if_neg hx, if_neg hx]
        have hx' : (x != 0) = true := by simp [hx]
        clear hx
        go_enter Tryd.func40, Tryd.ntmps40
        go_wp2_with fail
        refine (HP.out _).mono ?_
        rintro e w1 ⟨rfl, rfl⟩
        go_wp2
        exact bodyPost_ret (v := .tuple #[.agg #[.int .i64 0, .int .i64 0], .int .i64 x]) (by simp [results, Tryd.results40, go_sem]) rfl ⟨rfl, (Only.refl _ _).alloc _⟩

end Go.Proofs.YtbenjknaklafmaaDoor
