/- Parts. -/
import Derived.Test.YtgimobilcdkmpaaDoorBitsPlaysCardK12
set_option maxRecDepth 10000
set_option maxHeartbeats 16000000
set_option linter.unusedVariables false
set_option linter.unusedSimpArgs false
namespace Go.Proofs.YtgimobilcdkmpaaDoor
open Go.RowKit
theorem lit_row (w : World) (t : TypeId) (cs : Array Value) {w' : World} (ho : Only [] (w.alloc (.cells cs t)) w') : Row w' w'.heap.size (some ⟨w.heap.size, 0, none⟩) cs.toList := by
 have h := (row_lit w t cs).only ho (by simp);rcases h with h | ⟨b, off, e, hb, hs, hc⟩
 ·exact .inl h
 ·exact .inr ⟨b, off, e, by omega, Nat.le_refl _, hc⟩
theorem bworks_any (w : World) (hT : Tab w) (h00 : 0 < w.heap.size) :
  Calls Tryd.prog 23 #[] w fun e w' => e = .returned (.bool true) ∧ Only [] w w' := by
 have HT := Hd hT;clear hT;go_enter Tryd.func23, Tryd.ntmps23;go_wp2_with fail
 refine (new_any _ 3 3 [5, 500, 1] _ (lit_row w 3 #[.int .i64 5, .int .i64 500, .int .i64 1] (Only.refl _ _)) rfl (by omega)).mono ?_;rintro e w1 ⟨rfl, B1, O1⟩;simp only [World.size_alloc] at B1;have P1 := ((Only.refl [] w).alloc (.cells #[.int .i64 5, .int .i64 500, .int .i64 1] 3)).trans O1;go_wp2_with fail
 refine (all_some _ _ _ B1 (HT.out.only h00 P1 (by simp)) (Nat.lt_of_lt_of_le h00 P1.size)).mono ?_;rintro e w2 ⟨v, ⟨rfl, h2⟩, O2⟩;have P2 := P1.trans O2;have e1 : allW (makeW [5, 500, 1]) = [1, 5] := by decide +kernel
 rw [e1] at h2;have h2' : w2.ownsRow w1.heap.size 3 1 v 2 [.int .i64 1, .int .i64 5] := h2;obtain ⟨A2, c2, rfl, hc21, hc22, -, r2⟩ := own_row h2';have HR2 := Hd r2;clear r2 h2 h2' B1 O1 O2 P1 e1;unfold maxLen at hc22;go_wp2_with fail
 have hr2 := HR2.out.only ((Only.refl [] w2).alloc (.cells #[.int .i64 1, .int .i64 5] 3)) (by simp);refine (sameInts_any A2 _ 2 2 c2 _ [1, 5] [1, 5] _ w2.heap.size (w2.heap.size + 1) hr2 (row_lit w2 3 #[.int .i64 1, .int .i64 5]) rfl rfl (by omega) (by omega)).mono ?_;rintro e w3 ⟨rfl, k3, rfl⟩;have hd : decide (([1, 5] : List Int) = [1, 5]) = true := by decide
 rw [hd];clear hr2;have P3 := (P2.alloc (.cells #[.int .i64 1, .int .i64 5] 3)).drewN k3;clear HR2 P2;generalize hw3 : (w2.alloc (.cells #[.int .i64 1, .int .i64 5] 3)).drewN k3 = w3 at *;clear hw3;go_wp2_with fail
 refine (new_any _ 1 1 [3] _ (lit_row w3 3 #[.int .i64 3] (Only.refl _ _)) rfl (by omega)).mono ?_;rintro e w4 ⟨rfl, B4, O4⟩;simp only [World.size_alloc] at B4;have P4 := (P3.alloc (.cells #[.int .i64 3] 3)).trans O4;go_wp2_with fail
 refine (has_any _ 3 _ _ B4).mono ?_;rintro e w5 ⟨rfl, rfl⟩;have e2 : hasW (makeW [3]) 3 = true := by decide +kernel
 rw [e2];clear e2 B4 O4 P3;go_wp2
 go_ret
 exact ⟨rfl, P4⟩

/-! ### A set that is none -/
end Go.Proofs.YtgimobilcdkmpaaDoor
