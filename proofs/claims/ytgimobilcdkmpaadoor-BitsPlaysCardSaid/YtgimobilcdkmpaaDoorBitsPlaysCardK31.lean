/- Parts. -/
import Derived.Test.YtgimobilcdkmpaaDoorBitsPlaysCardK12
import Derived.Test.YtgimobilcdkmpaaDoorBitsPlaysCardK30
set_option maxRecDepth 10000
set_option maxHeartbeats 16000000
set_option linter.unusedVariables false
set_option linter.unusedSimpArgs false
namespace Go.Proofs.YtgimobilcdkmpaaDoor
open Go.RowKit
theorem few18_any (A : Option Addr) (n c : Nat) (zs : List Int) (w : World) (hr : Row w w.heap.size A (zs.map (Value.int .i64))) (hl : zs.length = n) (hnc : n ≤ c) (hc : c ≤ maxLen) :
  Calls Tryd.prog 7 #[.slice A n c] w fun e w' => ∃ v, e = .returned v ∧ w'.ownsRow w.heap.size 3 1 v (min n 100) ((zs.take (min n 100)).map (Value.int .i64)) ∧ Only [] w w' := by
 unfold maxLen at hc;have IC : Hid (∀ j, j = min n 100 → Calls Tryd.prog 26 #[.slice A j c] w fun e w' => ∃ v, e = .returned v ∧ w'.ownsRow w.heap.size 3 1 v (min n 100) ((zs.take (min n 100)).map (Value.int .i64)) ∧ Only [] w w') := by
  rintro j rfl;exact ints_any A _ c _ w (by have := hr.take (min n 100); rwa [← List.map_take] at this) (by rw [List.length_map, List.length_take, hl]; omega) (by intro u hu; obtain ⟨z, _, rfl⟩ := List.mem_map.1 hu; rfl) (by omega)
 clear hr;go_enter Tryd.func7, Tryd.ntmps7
 by_cases hn : n ≤ 100
 ·have hmin : Hid (n = min n 100) := by show n = _; omega
  go_wp2_with fail
  refine (IC.out _ hmin.out).mono ?_;rintro e w1 ⟨v, rfl, h1, h2⟩;go_wp2
  go_ret
  exact ⟨v, rfl, h1, h2⟩
 ·have hmin : Hid (100 = min n 100) := by show 100 = _; omega
  have hn' : (100 : Int) < n := by omega
  go_wp2_with fail
  refine (IC.out _ hmin.out).mono ?_;rintro e w1 ⟨v, rfl, h1, h2⟩;go_wp2
  go_ret
  exact ⟨v, rfl, h1, h2⟩
end Go.Proofs.YtgimobilcdkmpaaDoor
