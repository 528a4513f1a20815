/- Parts. -/
import Derived.Test.YtgimobilcdkmpaaDoorBitsPlaysCardK9
set_option maxRecDepth 10000
set_option maxHeartbeats 16000000
set_option linter.unusedVariables false
set_option linter.unusedSimpArgs false
namespace Go.Proofs.YtgimobilcdkmpaaDoor
open Go.RowKit
theorem ints_any (A : Option Addr) (n c : Nat) (xs : List Value) (w : World) (hr : Row w w.heap.size A xs) (hl : xs.length = n) (h1 : ∀ u ∈ xs, u.oneCell' = true) (hm : n ≤ 1000000) :
  Calls Tryd.prog 26 #[.slice A n c] w fun e w' => ∃ v, e = .returned v ∧ w'.ownsRow w.heap.size 3 1 v n xs ∧ Only [] w w' := by
 obtain ⟨i0, hi, hz0, hz1, hz2⟩ := info_parts info_int;have HR := Hd hr;have HL := Hd hl;clear hr hl;go_enter Tryd.func26, Tryd.ntmps26;go_wp2_with (at_builtin; refine wpList_append_row _ rfl (.tmp 3) (.tmp 4) _ rfl w.heap.size 3 i0 _ 1 8 Tryd.underlying22 hi hz0 hz1 hz2 rfl (by omega) (.slice (some ⟨w.heap.size, 0, none⟩) 0 0) 0 [] rfl (World.ownsRow_lit w #[] 0 (Nat.le_refl _) (by unfold maxLen; omega) rfl) w.heap.size A n c xs rfl (by rw [HL.out, Nat.mul_one]) (HR.out.only ((Only.refl [] _).alloc _) (by simp)) h1 (by unfold maxLen; omega) (by omega) (by simp) ?_; intro v w1 hown hgrow hat)
 go_ret
 refine ⟨v, rfl, by simpa using hown, ((Only.refl [] w).alloc _).step (Only.of_grown (S := [w.heap.size]) hgrow (fun g hg _ => by simp [Value.ownBlock] at hg; simp [hg])) (fun i hi hlt => by simp at hi; omega)⟩
end Go.Proofs.YtgimobilcdkmpaaDoor
