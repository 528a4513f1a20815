/- FuelNone: whatever is asked of a store that is none, or that New did not make, it has nothing and gives nothing; for every number. -/
import Derived.Test.YtggpbgbnefgebabFuel
set_option linter.unusedVariables false
set_option linter.unusedSimpArgs false
namespace Go.Proofs.Ytggpbgbnefgebab
open Go.RowKit

set_option maxHeartbeats 400000 in
theorem spent_nil (w : World) :
    Calls Try.prog 31 #[.pointer none] w fun e w' => e = .returned (.bool true) ∧ w = w' := by
  go_enter Try.func31, Try.ntmps31
  go_wp2_with (go_at_call 34; refine (is_nil _).mono ?_; rintro e w' ⟨rfl, rfl⟩)
  go_ret
  exact ⟨rfl, rfl⟩

set_option maxHeartbeats 400000 in
theorem spent_unmade (p : Nat) (w : World) (h0 : w.cell? ⟨p, 0, none⟩ = some (.bool false)) :
    Calls Try.prog 31 #[.pointer (some ⟨p, 0, none⟩)] w fun e w' => e = .returned (.bool true) ∧ w = w' := by
  go_enter Try.func31, Try.ntmps31
  go_wp2_with (go_at_call 34; refine (is_some p false _ h0).mono ?_; rintro e w' ⟨rfl, rfl⟩)
  go_ret
  exact ⟨rfl, rfl⟩

set_option maxHeartbeats 400000 in
theorem left_none (p : Option Addr) (w : World) (hn : ∀ w', Only [] w w' → Calls Try.prog 34 #[.pointer p] w' fun e w'' => e = .returned (.bool false) ∧ w' = w'') :
    Calls Try.prog 30 #[.pointer p] w fun e w' => e = .returned (.int .i64 0) ∧ Only [] w w' := by
  have hmf : ∀ (fn : Fn) (first cap : Array Value) (w : World), (Instr.makeFunc fn first cap).run Try.prog w = .ok (.func fn first cap) w := fun _ _ _ _ => rfl
  have HN := Lib.hid hn
  clear hn
  go_enter Try.func30, Try.ntmps30
  go_wp2_with (go_at_call 35; refine (asked_no p _ _ (HN.out _ ((Only.refl _ _).alloc _))).mono ?_; rintro e w' ⟨rfl, rfl⟩)
  go_ret
  exact ⟨rfl, ((Only.refl _ _).alloc _)⟩

set_option maxHeartbeats 400000 in
theorem used_none (p : Option Addr) (w : World) (hn : ∀ w', Only [] w w' → Calls Try.prog 34 #[.pointer p] w' fun e w'' => e = .returned (.bool false) ∧ w' = w'') :
    Calls Try.prog 29 #[.pointer p] w fun e w' => e = .returned (.int .i64 0) ∧ Only [] w w' := by
  have hmf : ∀ (fn : Fn) (first cap : Array Value) (w : World), (Instr.makeFunc fn first cap).run Try.prog w = .ok (.func fn first cap) w := fun _ _ _ _ => rfl
  have HN := Lib.hid hn
  clear hn
  go_enter Try.func29, Try.ntmps29
  go_wp2_with (go_at_call 35; refine (asked_no p _ _ (HN.out _ ((Only.refl _ _).alloc _))).mono ?_; rintro e w' ⟨rfl, rfl⟩)
  go_ret
  exact ⟨rfl, ((Only.refl _ _).alloc _)⟩

/-- The chapter's example. -/
theorem works_any (w : World) :
    Calls Try.prog 26 #[] w fun e w' => e = .returned (.bool true) ∧ Only [] w w' := by
  go_enter Try.func26, Try.ntmps26
  go_wp2_with fail
  refine (new_ok 3 _ (by omega)).mono ?_
  rintro e w1 ⟨rfl, rfl⟩
  have F1 : Fl (w.alloc (.cells #[.bool true, .int .i64 3, .int .i64 0, .bool false] 61)) w.heap.size 3 0 false := Blk.made _ _ _
  have O1 : Only [] w (w.alloc (.cells #[.bool true, .int .i64 3, .int .i64 0, .bool false] 61)) := (Only.refl _ _).alloc _
  go_wp2_with fail
  refine (take_any _ 2 3 0 false _ F1 (by omega) (by omega) (by omega)).mono ?_
  rintro e w2 ⟨rfl, F2, O2⟩
  simp only [show tkE 3 0 false 2 = 0 from by decide, show tkU 3 0 false 2 = 2 from by decide, show tkS 3 0 false 2 = false from by decide] at F2 ⊢
  go_wp2_with fail
  refine (take_any _ 2 3 2 false _ F2 (by omega) (by omega) (by omega)).mono ?_
  rintro e w3 ⟨rfl, F3, O3⟩
  simp only [show tkE 3 2 false 2 = 13 from by decide, show tkU 3 2 false 2 = 3 from by decide, show tkS 3 2 false 2 = true from by decide] at F3 ⊢
  go_wp2_with fail
  refine (used_any _ 3 3 true _ F3).mono ?_
  rintro e w4 ⟨rfl, O4⟩
  have F4 : Fl w4 w.heap.size 3 3 true := O4.blk F3 (by simp)
  go_wp2_with fail
  refine (left_any _ 3 3 true _ F4 (by omega) (by omega) (by omega)).mono ?_
  rintro e w5 ⟨rfl, O5⟩
  have F5 : Fl w5 w.heap.size 3 3 true := O5.blk F4 (by simp)
  go_wp2_with fail
  refine (spent_any _ 3 3 true _ F5).mono ?_
  rintro e w6 ⟨rfl, rfl⟩
  go_wp2
  go_ret
  refine ⟨rfl, ?_⟩
  have hs : ∀ i ∈ [w.heap.size], i < w.heap.size → i ∈ ([] : List Nat) := by
    intro i hi hl
    simp at hi
    omega
  exact (((O1.step O2 hs).step O3 hs).trans (O4.step O5 (by simp)) )

set_option maxHeartbeats 400000 in
theorem fuelNone_walk (n : Int) (w : World) :
    Calls Try.prog 8 #[.int .i64 n] w fun e w' => e = .returned (.bool true) ∧ Only [] w w' := by
  have HN : ∀ w1, Calls Try.prog 34 #[.pointer none] w1 fun e w'' => e = .returned (.bool false) ∧ w1 = w'' := fun w1 => is_nil w1
  have HN' := Lib.hid HN
  clear HN
  go_enter Try.func8, Try.ntmps8
  go_wp2_with fail
  refine (take_nil n _).mono ?_
  rintro e w1 ⟨rfl, rfl⟩
  have B1 : Blk (w.alloc (.cells #[.bool false, .int .i64 0, .int .i64 0, .bool false] 61)) w.heap.size 61 _ := Blk.made _ _ _
  have O1 : Only [] w (w.alloc (.cells #[.bool false, .int .i64 0, .int .i64 0, .bool false] 61)) := (Only.refl _ _).alloc _
  generalize w.alloc (.cells #[.bool false, .int .i64 0, .int .i64 0, .bool false] 61) = wa at *
  go_wp2_with fail
  refine (take_unmade _ n _ (B1.at_ 0)).mono ?_
  rintro e w1 ⟨rfl, rfl⟩
  go_wp2_with fail
  refine (left_none none _ (fun w' _ => HN'.out w')).mono ?_
  rintro e w2 ⟨rfl, O2⟩
  go_wp2_with fail
  refine (used_none none _ (fun w' _ => HN'.out w')).mono ?_
  rintro e w3 ⟨rfl, O3⟩
  have B3 := O3.blk (O2.blk B1 (by simp)) (by simp)
  go_wp2_with fail
  refine (left_none _ _ (fun w' o => is_some _ false w' ((o.blk B3 (by simp)).at_ 0))).mono ?_
  rintro e w4 ⟨rfl, O4⟩
  have B4 := O4.blk B3 (by simp)
  go_wp2_with fail
  refine (used_none _ _ (fun w' o => is_some _ false w' ((o.blk B4 (by simp)).at_ 0))).mono ?_
  rintro e w5 ⟨rfl, O5⟩
  have B5 := O5.blk B4 (by simp)
  go_wp2_with fail
  refine (spent_nil _).mono ?_
  rintro e w6 ⟨rfl, rfl⟩
  go_wp2_with fail
  refine (spent_unmade _ _ (B5.at_ 0)).mono ?_
  rintro e w6 ⟨rfl, rfl⟩
  go_wp2_with fail
  refine (works_any _).mono ?_
  rintro e w6 ⟨rfl, O6⟩
  go_wp2
  go_ret
  exact ⟨rfl, O1.trans (O2.trans (O3.trans (O4.trans (O5.trans O6))))⟩

end Go.Proofs.Ytggpbgbnefgebab
