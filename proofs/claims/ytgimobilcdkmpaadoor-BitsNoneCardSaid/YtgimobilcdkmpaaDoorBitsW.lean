/- The example of layer 18; what a set that is none answers; how many are in a set. -/
import Derived.Test.YtgimobilcdkmpaaDoorBitsNew
set_option linter.unusedVariables false
set_option linter.unusedSimpArgs false
namespace Go.Proofs.YtgimobilcdkmpaaDoor
open Go.RowKit

theorem lit_row (w : World) (t : TypeId) (cs : Array Value) {w' : World} (ho : Only [] (w.alloc (.cells cs t)) w') : Row w' w'.heap.size (some ⟨w.heap.size, 0, none⟩) cs.toList := by
  have h := (row_lit w t cs).only ho (by simp)
  rcases h with h | ⟨b, off, e, hb, hs, hc⟩
  · exact .inl h
  · exact .inr ⟨b, off, e, by omega, Nat.le_refl _, hc⟩

set_option maxHeartbeats 1000000 in
theorem bworks_any (w : World) (hT : Tab w) (h00 : 0 < w.heap.size) :
    Calls Tryd.prog 23 #[] w fun e w' => e = .returned (.bool true) ∧ Only [] w w' := by
  have HT := Lib.hid hT
  clear hT
  go_enter Tryd.func23, Tryd.ntmps23
  go_wp2_with fail
  refine (new_any _ 3 3 [5, 500, 1] _ (lit_row w 3 #[.int .i64 5, .int .i64 500, .int .i64 1] (Only.refl _ _)) rfl (by omega)).mono ?_
  rintro e w1 ⟨rfl, B1, O1⟩
  simp only [World.size_alloc] at B1
  have P1 := ((Only.refl [] w).alloc (.cells #[.int .i64 5, .int .i64 500, .int .i64 1] 3)).trans O1
  go_wp2_with fail
  refine (all_some _ _ _ B1 (HT.out.only h00 P1 (by simp)) (Nat.lt_of_lt_of_le h00 P1.size)).mono ?_
  rintro e w2 ⟨v, ⟨rfl, h2⟩, O2⟩
  have P2 := P1.trans O2
  have e1 : allW (makeW [5, 500, 1]) = [1, 5] := by decide +kernel
  rw [e1] at h2
  have h2' : w2.ownsRow w1.heap.size 3 1 v 2 [.int .i64 1, .int .i64 5] := h2
  obtain ⟨A2, c2, rfl, hc21, hc22, -, r2⟩ := own_row h2'
  have HR2 := Lib.hid r2
  clear r2 h2 h2' B1 O1 O2 P1 e1
  unfold maxLen at hc22
  go_wp2_with fail
  have hr2 := HR2.out.only ((Only.refl [] w2).alloc (.cells #[.int .i64 1, .int .i64 5] 3)) (by simp)
  refine (sameInts_any A2 _ 2 2 c2 _ [1, 5] [1, 5] _ w2.heap.size (w2.heap.size + 1) hr2 (row_lit w2 3 #[.int .i64 1, .int .i64 5]) rfl rfl (by omega) (by omega)).mono ?_
  rintro e w3 ⟨rfl, k3, rfl⟩
  have hd : decide (([1, 5] : List Int) = [1, 5]) = true := by decide
  rw [hd]
  clear hr2
  have P3 := (P2.alloc (.cells #[.int .i64 1, .int .i64 5] 3)).drewN k3
  clear HR2 P2
  generalize hw3 : (w2.alloc (.cells #[.int .i64 1, .int .i64 5] 3)).drewN k3 = w3 at *
  clear hw3
  go_wp2_with fail
  refine (new_any _ 1 1 [3] _ (lit_row w3 3 #[.int .i64 3] (Only.refl _ _)) rfl (by omega)).mono ?_
  rintro e w4 ⟨rfl, B4, O4⟩
  simp only [World.size_alloc] at B4
  have P4 := (P3.alloc (.cells #[.int .i64 3] 3)).trans O4
  go_wp2_with fail
  refine (has_any _ 3 _ _ B4).mono ?_
  rintro e w5 ⟨rfl, rfl⟩
  have e2 : hasW (makeW [3]) 3 = true := by decide +kernel
  rw [e2]
  clear e2 B4 O4 P3
  go_wp2
  go_ret
  exact ⟨rfl, P4⟩

/-! ### A set that is none -/
set_option maxHeartbeats 400000 in
theorem len_none (w : World) : Calls Tryd.prog 19 #[.pointer none] w fun e w' => e = .returned (.int .i64 0) ∧ w = w' := by
  go_enter Tryd.func19, Tryd.ntmps19
  go_wp2
  go_ret
  exact ⟨rfl, rfl⟩
set_option maxHeartbeats 400000 in
theorem copy_none (w : World) : Calls Tryd.prog 16 #[.pointer none] w fun e w' => e = .returned (.pointer none) ∧ w = w' := by
  go_enter Tryd.func16, Tryd.ntmps16
  go_wp2
  go_ret
  exact ⟨rfl, rfl⟩
set_option maxHeartbeats 400000 in
theorem join_none (o : Option Addr) (w : World) : Calls Tryd.prog 14 #[.pointer none, .pointer o] w fun e w' => e = .returned (.bool false) ∧ w = w' := by
  go_enter Tryd.func14, Tryd.ntmps14
  go_wp2
  go_ret
  exact ⟨rfl, rfl⟩
set_option maxHeartbeats 400000 in
theorem join_none2 (p : Nat) (w : World) : Calls Tryd.prog 14 #[.pointer (some ⟨p, 0, none⟩), .pointer none] w fun e w' => e = .returned (.bool false) ∧ w = w' := by
  go_enter Tryd.func14, Tryd.ntmps14
  go_wp2
  go_ret
  exact ⟨rfl, rfl⟩
set_option maxHeartbeats 400000 in
theorem meets_none (o : Option Addr) (w : World) : Calls Tryd.prog 24 #[.pointer none, .pointer o] w fun e w' => e = .returned (.bool false) ∧ w = w' := by
  go_enter Tryd.func24, Tryd.ntmps24
  go_wp2
  go_ret
  exact ⟨rfl, rfl⟩
set_option maxHeartbeats 400000 in
theorem meets_none2 (p : Nat) (w : World) : Calls Tryd.prog 24 #[.pointer (some ⟨p, 0, none⟩), .pointer none] w fun e w' => e = .returned (.bool false) ∧ w = w' := by
  go_enter Tryd.func24, Tryd.ntmps24
  go_wp2
  go_ret
  exact ⟨rfl, rfl⟩
set_option maxHeartbeats 400000 in
theorem ones_exists (x : Nat) : ∃ r : Int, ∀ w : World, Calls Tryd.prog 29 #[.int .u64 x] w fun e w' => e = .returned (.int .i64 r) ∧ w = w' := by
  apply Exists.intro
  case h =>
    intro w
    go_enter Tryd.func29, Tryd.ntmps29
    go_wp2
    go_ret
    exact ⟨rfl, rfl⟩

noncomputable def oc (x : Nat) : Int := Classical.choose (ones_exists x)
theorem ones_any (x : Nat) (w : World) : Calls Tryd.prog 29 #[.int .u64 x] w fun e w' => e = .returned (.int .i64 (oc x)) ∧ w = w' := Classical.choose_spec (ones_exists x) w

noncomputable def lenTo (ws : List Nat) : Nat → Int
  | 0 => 0
  | k + 1 => wrap64 (lenTo ws k + oc (ws.getD k 0))

set_option maxHeartbeats 1000000 in
theorem len_some (p : Nat) (ws : List Nat) (w : World) (h : BSet w p ws) :
    Calls Tryd.prog 19 #[.pointer (some ⟨p, 0, none⟩)] w fun e w' => e = .returned (.int .i64 (lenTo ws 8)) ∧ w = w' := by
  obtain ⟨a0, a1, a2, a3, a4, a5, a6, a7, hws⟩ := eight h.2.1
  have hidx : ∀ k : Nat, k < 8 → ∀ w, (Instr.index 51 (.agg #[.int .u64 a0, .int .u64 a1, .int .u64 a2, .int .u64 a3, .int .u64 a4, .int .u64 a5, .int .u64 a6, .int .u64 a7]) (.int .i64 (k : Int))).run Tryd.prog w = .ok (.int .u64 ((ws.getD k 0 : Nat) : Int)) w := fun k hk w => by
    rw [hws]; exact index_word a0 a1 a2 a3 a4 a5 a6 a7 k hk w
  have c0 := h.cell 0 (by omega)
  have c1 := h.cell 1 (by omega)
  have c2 := h.cell 2 (by omega)
  have c3 := h.cell 3 (by omega)
  have c4 := h.cell 4 (by omega)
  have c5 := h.cell 5 (by omega)
  have c6 := h.cell 6 (by omega)
  have c7 := h.cell 7 (by omega)
  rw [hws] at c0 c1 c2 c3 c4 c5 c6 c7
  simp at c0 c1 c2 c3 c4 c5 c6 c7
  have HX := Lib.hid hidx
  clear hidx hws h
  go_enter Tryd.func19, Tryd.ntmps19
  go_wp2
  go_loop [12, 3] (fun i v => ∃ k : Nat, k ≤ 8 ∧ i = .int .i64 k ∧ v = .int .i64 (lenTo ws k)) (fun i _ => 8 - (intOf i).toNat)
  case atStart => exact ⟨0, by omega, rfl, rfl⟩
  case round =>
    obtain ⟨k, hk, rfl, rfl⟩ := hrel
    by_cases hlt : k < 8
    · have hix := HX.out k hlt
      have HS : Hid (lenTo ws (k + 1) = wrap64 (lenTo ws k + oc (ws.getD k 0))) := rfl
      generalize ws.getD k 0 = x0 at *
      generalize hl0 : lenTo ws k = l0 at *
      clear hl0
      go_wp2_with fail
      refine (ones_any x0 _).mono ?_
      rintro e w1 ⟨rfl, rfl⟩
      generalize oc x0 = o0 at *
      go_wp2
      go_round
      case rel => exact ⟨k + 1, by omega, by go_num, by rw [HS.out]⟩
      case measure => simp [intOf]; omega
    · have hk8 : k = 8 := by omega
      subst hk8
      go_wp2
      go_ret
      exact ⟨rfl, rfl⟩

end Go.Proofs.YtgimobilcdkmpaaDoor
