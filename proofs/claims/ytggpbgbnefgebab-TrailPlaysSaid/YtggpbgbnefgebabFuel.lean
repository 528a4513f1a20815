/- Contracts of the package fuel, and of the reference beside it: a store with its limit, what was used, and whether it is spent. -/
import Derived.Test.YtggpbgbnefgebabKit
set_option linter.unusedVariables false
set_option linter.unusedSimpArgs false
namespace Go.Proofs.Ytggpbgbnefgebab
open Go.RowKit

/-- A store that was made lies in block p. -/
def Fl (w : World) (p : Nat) (lim used : Int) (sp : Bool) : Prop := Blk w p 61 #[.bool true, .int .i64 lim, .int .i64 used, .bool sp]
/-- The reference's store. -/
def Rf (w : World) (p : Nat) (lim used : Int) (sp : Bool) : Prop := Blk w p 54 #[.int .i64 lim, .int .i64 used, .bool sp]

/-- What a Take answers, and what it leaves. -/
def tkE (lim used : Int) (sp : Bool) (n : Int) : Int := if n < 0 then 2 else if sp = true ∨ lim - used < n then 13 else 0
def tkU (lim used : Int) (sp : Bool) (n : Int) : Int := if n < 0 then used else if sp = true ∨ lim - used < n then lim else used + n
def tkS (lim used : Int) (sp : Bool) (n : Int) : Bool := if n < 0 then sp else if sp = true ∨ lim - used < n then true else sp

theorem tkU_bd (lim used : Int) (sp : Bool) (n : Int) (hu : 0 ≤ used) (hl : used ≤ lim) : 0 ≤ tkU lim used sp n ∧ tkU lim used sp n ≤ lim := by
  unfold tkU
  split
  · omega
  · split <;> omega

set_option maxHeartbeats 400000 in
theorem is_nil (w : World) :
    Calls Try.prog 34 #[.pointer none] w fun e w' => e = .returned (.bool false) ∧ w = w' := by
  go_enter Try.func34, Try.ntmps34
  go_wp2
  go_ret
  exact ⟨rfl, rfl⟩

set_option maxHeartbeats 400000 in
theorem is_some (p : Nat) (b : Bool) (w : World) (h0 : w.cell? ⟨p, 0, none⟩ = some (.bool b)) :
    Calls Try.prog 34 #[.pointer (some ⟨p, 0, none⟩)] w fun e w' => e = .returned (.bool b) ∧ w = w' := by
  go_enter Try.func34, Try.ntmps34
  go_wp2
  go_ret
  exact ⟨rfl, rfl⟩

set_option maxHeartbeats 400000 in
theorem new_neg (n : Int) (w : World) (h : n < 0) :
    Calls Try.prog 25 #[.int .i64 n] w fun e w' => e = .returned (.tuple #[.pointer none, .int .i64 2]) ∧ w = w' := by
  go_enter Try.func25, Try.ntmps25
  go_wp2
  go_ret2
  exact ⟨rfl, rfl⟩

set_option maxHeartbeats 400000 in
theorem new_ok (n : Int) (w : World) (h : 0 ≤ n) :
    Calls Try.prog 25 #[.int .i64 n] w fun e w' => e = .returned (.tuple #[.pointer (some ⟨w.heap.size, 0, none⟩), .int .i64 0]) ∧ w.alloc (.cells #[.bool true, .int .i64 n, .int .i64 0, .bool false] 61) = w' := by
  go_enter Try.func25, Try.ntmps25
  go_wp2
  go_ret2
  exact ⟨rfl, rfl⟩

set_option maxHeartbeats 400000 in
theorem take_nil (n : Int) (w : World) :
    Calls Try.prog 27 #[.pointer none, .int .i64 n] w fun e w' => e = .returned (.int .i64 4) ∧ w = w' := by
  go_enter Try.func27, Try.ntmps27
  go_wp2_with (go_at_call 34; refine (is_nil _).mono ?_; rintro e w' ⟨rfl, rfl⟩)
  go_ret
  exact ⟨rfl, rfl⟩

set_option maxHeartbeats 400000 in
theorem take_unmade (p : Nat) (n : Int) (w : World) (h0 : w.cell? ⟨p, 0, none⟩ = some (.bool false)) :
    Calls Try.prog 27 #[.pointer (some ⟨p, 0, none⟩), .int .i64 n] w fun e w' => e = .returned (.int .i64 4) ∧ w = w' := by
  go_enter Try.func27, Try.ntmps27
  go_wp2_with (go_at_call 34; refine (is_some p false _ h0).mono ?_; rintro e w' ⟨rfl, rfl⟩)
  go_ret
  exact ⟨rfl, rfl⟩

set_option maxHeartbeats 400000 in
theorem take_arg (p : Nat) (n : Int) (w : World) (h0 : w.cell? ⟨p, 0, none⟩ = some (.bool true)) (hn : n < 0) :
    Calls Try.prog 27 #[.pointer (some ⟨p, 0, none⟩), .int .i64 n] w fun e w' => e = .returned (.int .i64 2) ∧ w = w' := by
  go_enter Try.func27, Try.ntmps27
  go_wp2_with (go_at_call 34; refine (is_some p true _ h0).mono ?_; rintro e w' ⟨rfl, rfl⟩)
  go_ret
  exact ⟨rfl, rfl⟩

set_option maxHeartbeats 400000 in
theorem take_spent (p : Nat) (n lim used : Int) (w : World) (h0 : w.cell? ⟨p, 0, none⟩ = some (.bool true)) (h1 : w.cell? ⟨p, 1, none⟩ = some (.int .i64 lim))
    (h2 : w.cell? ⟨p, 2, none⟩ = some (.int .i64 used)) (h3 : w.cell? ⟨p, 3, none⟩ = some (.bool true)) (f2 : w.frozen? ⟨p, 2, none⟩ = false) (f3 : w.frozen? ⟨p, 3, none⟩ = false)
    (hn : 0 ≤ n) :
    Calls Try.prog 27 #[.pointer (some ⟨p, 0, none⟩), .int .i64 n] w fun e w' => e = .returned (.int .i64 13) ∧ ∃ k, ((w.drewN k).setCell ⟨p, 2, none⟩ (.int .i64 lim)).setCell ⟨p, 3, none⟩ (.bool true) = w' := by
  go_enter Try.func27, Try.ntmps27
  go_wp2_with (go_at_call 34; refine (is_some p true _ h0).mono ?_; rintro e w' ⟨rfl, rfl⟩)
  go_quiet (fail)
  go_wp2
  go_ret
  exact ⟨rfl, _, rfl⟩

set_option maxHeartbeats 400000 in
theorem take_more (p : Nat) (n lim used : Int) (w : World) (h0 : w.cell? ⟨p, 0, none⟩ = some (.bool true)) (h1 : w.cell? ⟨p, 1, none⟩ = some (.int .i64 lim))
    (h2 : w.cell? ⟨p, 2, none⟩ = some (.int .i64 used)) (h3 : w.cell? ⟨p, 3, none⟩ = some (.bool false)) (f2 : w.frozen? ⟨p, 2, none⟩ = false) (f3 : w.frozen? ⟨p, 3, none⟩ = false)
    (hn : 0 ≤ n) (hu : 0 ≤ used) (hl : used ≤ lim) (hm : lim ≤ 9223372036854775807) (hg : lim - used < n) :
    Calls Try.prog 27 #[.pointer (some ⟨p, 0, none⟩), .int .i64 n] w fun e w' => e = .returned (.int .i64 13) ∧ ∃ k, ((w.drewN k).setCell ⟨p, 2, none⟩ (.int .i64 lim)).setCell ⟨p, 3, none⟩ (.bool true) = w' := by
  go_enter Try.func27, Try.ntmps27
  go_wp2_with (go_at_call 34; refine (is_some p true _ h0).mono ?_; rintro e w' ⟨rfl, rfl⟩)
  go_quiet (fail)
  go_wp2
  go_ret
  exact ⟨rfl, _, rfl⟩

set_option maxHeartbeats 400000 in
theorem take_ok (p : Nat) (n lim used : Int) (w : World) (h0 : w.cell? ⟨p, 0, none⟩ = some (.bool true)) (h1 : w.cell? ⟨p, 1, none⟩ = some (.int .i64 lim))
    (h2 : w.cell? ⟨p, 2, none⟩ = some (.int .i64 used)) (h3 : w.cell? ⟨p, 3, none⟩ = some (.bool false)) (f2 : w.frozen? ⟨p, 2, none⟩ = false)
    (hn : 0 ≤ n) (hu : 0 ≤ used) (hl : used ≤ lim) (hm : lim ≤ 9223372036854775807) (hg : n ≤ lim - used) :
    Calls Try.prog 27 #[.pointer (some ⟨p, 0, none⟩), .int .i64 n] w fun e w' => e = .returned (.int .i64 0) ∧ ∃ k, ((w.drewN k).setCell ⟨p, 2, none⟩ (.int .i64 (used + n))) = w' := by
  go_enter Try.func27, Try.ntmps27
  go_wp2_with (go_at_call 34; refine (is_some p true _ h0).mono ?_; rintro e w' ⟨rfl, rfl⟩)
  go_quiet (fail)
  go_wp2
  go_ret
  exact ⟨rfl, _, rfl⟩

/-- Take, whatever is asked of a store that was made. -/
theorem take_any (p : Nat) (n lim used : Int) (sp : Bool) (w : World) (h : Fl w p lim used sp) (hu : 0 ≤ used) (hl : used ≤ lim) (hm : lim ≤ 9223372036854775807) :
    Calls Try.prog 27 #[.pointer (some ⟨p, 0, none⟩), .int .i64 n] w fun e w' =>
      e = .returned (.int .i64 (tkE lim used sp n)) ∧ Fl w' p lim (tkU lim used sp n) (tkS lim used sp n) ∧ Only [p] w w' := by
  have h0 := h.at_ 0
  have h1 := h.at_ 1
  have h2 := h.at_ 2
  have h3 := h.at_ 3
  have f2 := h.free 2
  have f3 := h.free 3
  by_cases hn : n < 0
  · refine (take_arg p n w h0 hn).mono ?_
    rintro e w' ⟨rfl, rfl⟩
    simp only [tkE, tkU, tkS, if_pos hn]
    exact ⟨trivial, h, Only.refl _ _⟩
  · have hw : ∀ k, Fl (((w.drewN k).setCell ⟨p, 2, none⟩ (.int .i64 lim)).setCell ⟨p, 3, none⟩ (.bool true)) p lim lim true := fun k => by
      have := ((h.drewN k).put 2 (.int .i64 lim)).put 3 (.bool true)
      simpa [Fl] using this
    have ho : ∀ k, Only [p] w (((w.drewN k).setCell ⟨p, 2, none⟩ (.int .i64 lim)).setCell ⟨p, 3, none⟩ (.bool true)) := fun k =>
      (((Only.refl _ _).drewN k).put (by simp) _).put (by simp) _
    cases sp with
    | true =>
      refine (take_spent p n lim used w h0 h1 h2 h3 f2 f3 (by omega)).mono ?_
      rintro e w' ⟨rfl, k, rfl⟩
      simp only [tkE, tkU, tkS, if_neg hn, true_or, if_true]
      exact ⟨trivial, hw k, ho k⟩
    | false =>
      by_cases hg : lim - used < n
      · refine (take_more p n lim used w h0 h1 h2 h3 f2 f3 (by omega) hu hl hm hg).mono ?_
        rintro e w' ⟨rfl, k, rfl⟩
        simp only [tkE, tkU, tkS, if_neg hn, hg, or_true, if_true]
        exact ⟨trivial, hw k, ho k⟩
      · refine (take_ok p n lim used w h0 h1 h2 h3 f2 (by omega) hu hl hm (by omega)).mono ?_
        rintro e w' ⟨rfl, k, rfl⟩
        simp only [tkE, tkU, tkS, if_neg hn, hg, Bool.false_eq_true, or_false, if_false]
        refine ⟨trivial, ?_, ((Only.refl _ _).drewN k).put (by simp) _⟩
        have := (h.drewN k).put 2 (.int .i64 (used + n))
        simpa [Fl] using this

/-! ### What is asked: Left, Used, Spent -/

theorem info_fuel : (Try.prog.info? 49).map (fun i => (i.zero, i.size, i.bytes)) = some (some (.pointer none), 1, 8) := by kernel_rfl

set_option maxHeartbeats 400000 in
theorem left_inner (b p : Nat) (lim used : Int) (w : World) (hb : w.cell? ⟨b, 0, none⟩ = some (.pointer (some ⟨p, 0, none⟩))) (h1 : w.cell? ⟨p, 1, none⟩ = some (.int .i64 lim))
    (h2 : w.cell? ⟨p, 2, none⟩ = some (.int .i64 used)) (hu : 0 ≤ used) (hl : used ≤ lim) (hm : lim ≤ 9223372036854775807) :
    Calls Try.prog 37 #[.pointer (some ⟨b, 0, none⟩)] w fun e w' => e = .returned (.int .i64 (lim - used)) ∧ ∃ k, w.drewN k = w' := by
  go_enter Try.func37, Try.ntmps37
  go_wp2
  go_quiet (fail)
  go_wp2
  go_ret
  exact ⟨rfl, _, rfl⟩

set_option maxHeartbeats 400000 in
theorem used_inner (b p : Nat) (used : Int) (w : World) (hb : w.cell? ⟨b, 0, none⟩ = some (.pointer (some ⟨p, 0, none⟩)))
    (h2 : w.cell? ⟨p, 2, none⟩ = some (.int .i64 used)) :
    Calls Try.prog 36 #[.pointer (some ⟨b, 0, none⟩)] w fun e w' => e = .returned (.int .i64 used) ∧ w = w' := by
  go_enter Try.func36, Try.ntmps36
  go_wp2
  go_ret
  exact ⟨rfl, rfl⟩

set_option maxHeartbeats 400000 in
theorem asked_no (p : Option Addr) (f : Value) (w : World) (hc : Calls Try.prog 34 #[.pointer p] w fun e w' => e = .returned (.bool false) ∧ w = w') :
    Calls Try.prog 35 #[.pointer p, f] w fun e w' => e = .returned (.int .i64 0) ∧ w = w' := by
  have HC := Lib.hid hc
  clear hc
  go_enter Try.func35, Try.ntmps35
  go_wp2_with (go_at_call 34; refine (HC.out).mono ?_; rintro e w' ⟨rfl, rfl⟩)
  go_ret
  exact ⟨rfl, rfl⟩

set_option maxHeartbeats 400000 in
theorem asked_left (b p : Nat) (lim used : Int) (w : World) (h0 : w.cell? ⟨p, 0, none⟩ = some (.bool true)) (hb : w.cell? ⟨b, 0, none⟩ = some (.pointer (some ⟨p, 0, none⟩))) (h1 : w.cell? ⟨p, 1, none⟩ = some (.int .i64 lim))
    (h2 : w.cell? ⟨p, 2, none⟩ = some (.int .i64 used)) (hu : 0 ≤ used) (hl : used ≤ lim) (hm : lim ≤ 9223372036854775807) :
    Calls Try.prog 35 #[.pointer (some ⟨p, 0, none⟩), .func (.func 37) #[] #[.pointer (some ⟨b, 0, none⟩)]] w fun e w' => e = .returned (.int .i64 (lim - used)) ∧ ∃ k, w.drewN k = w' := by
  go_enter Try.func35, Try.ntmps35
  go_wp2_with (first
    | (go_at_call 34; refine (is_some p true _ h0).mono ?_; rintro e w' ⟨rfl, rfl⟩)
    | (go_at_call 37; refine (left_inner b p lim used _ hb h1 h2 hu hl hm).mono ?_; rintro e w' ⟨rfl, k, rfl⟩))
  go_ret
  exact ⟨rfl, k, rfl⟩

set_option maxHeartbeats 400000 in
theorem asked_used (b p : Nat) (used : Int) (w : World) (h0 : w.cell? ⟨p, 0, none⟩ = some (.bool true)) (hb : w.cell? ⟨b, 0, none⟩ = some (.pointer (some ⟨p, 0, none⟩)))
    (h2 : w.cell? ⟨p, 2, none⟩ = some (.int .i64 used)) :
    Calls Try.prog 35 #[.pointer (some ⟨p, 0, none⟩), .func (.func 36) #[] #[.pointer (some ⟨b, 0, none⟩)]] w fun e w' => e = .returned (.int .i64 used) ∧ w = w' := by
  go_enter Try.func35, Try.ntmps35
  go_wp2_with (first
    | (go_at_call 34; refine (is_some p true _ h0).mono ?_; rintro e w' ⟨rfl, rfl⟩)
    | (go_at_call 36; refine (used_inner b p used _ hb h2).mono ?_; rintro e w' ⟨rfl, rfl⟩))
  go_ret
  exact ⟨rfl, rfl⟩

set_option maxHeartbeats 400000 in
theorem left_any (p : Nat) (lim used : Int) (sp : Bool) (w : World) (h : Fl w p lim used sp) (hu : 0 ≤ used) (hl : used ≤ lim) (hm : lim ≤ 9223372036854775807) :
    Calls Try.prog 30 #[.pointer (some ⟨p, 0, none⟩)] w fun e w' => e = .returned (.int .i64 (lim - used)) ∧ Only [] w w' := by
  have hmf : ∀ (fn : Fn) (first cap : Array Value) (w : World), (Instr.makeFunc fn first cap).run Try.prog w = .ok (.func fn first cap) w := fun _ _ _ _ => rfl
  have hlt := h.lt
  have H' := Lib.hid (h.alloc (.cells #[.pointer (some ⟨p, 0, none⟩)] 49))
  have HB := Lib.hid (Blk.made w 49 #[.pointer (some ⟨p, 0, none⟩)])
  clear h
  go_enter Try.func30, Try.ntmps30
  go_wp2_with (go_at_call 35; refine (asked_left _ p lim used _ (H'.out.at_ 0) (HB.out.at_ 0) (H'.out.at_ 1) (H'.out.at_ 2) hu hl hm).mono ?_; rintro e w' ⟨rfl, k, rfl⟩)
  go_ret
  exact ⟨rfl, ((Only.refl _ _).alloc _).drewN k⟩

set_option maxHeartbeats 400000 in
theorem used_any (p : Nat) (lim used : Int) (sp : Bool) (w : World) (h : Fl w p lim used sp) :
    Calls Try.prog 29 #[.pointer (some ⟨p, 0, none⟩)] w fun e w' => e = .returned (.int .i64 used) ∧ Only [] w w' := by
  have hmf : ∀ (fn : Fn) (first cap : Array Value) (w : World), (Instr.makeFunc fn first cap).run Try.prog w = .ok (.func fn first cap) w := fun _ _ _ _ => rfl
  have hlt := h.lt
  have H' := Lib.hid (h.alloc (.cells #[.pointer (some ⟨p, 0, none⟩)] 49))
  have HB := Lib.hid (Blk.made w 49 #[.pointer (some ⟨p, 0, none⟩)])
  clear h
  go_enter Try.func29, Try.ntmps29
  go_wp2_with (go_at_call 35; refine (asked_used _ p used _ (H'.out.at_ 0) (HB.out.at_ 0) (H'.out.at_ 2)).mono ?_; rintro e w' ⟨rfl, rfl⟩)
  go_ret
  exact ⟨rfl, ((Only.refl _ _).alloc _)⟩

set_option maxHeartbeats 400000 in
theorem spent_any (p : Nat) (lim used : Int) (sp : Bool) (w : World) (h : Fl w p lim used sp) :
    Calls Try.prog 31 #[.pointer (some ⟨p, 0, none⟩)] w fun e w' => e = .returned (.bool sp) ∧ w = w' := by
  have h0 := h.at_ 0
  have h3 := h.at_ 3
  simp at h0 h3
  clear h
  go_enter Try.func31, Try.ntmps31
  go_wp2_with (go_at_call 34; refine (is_some p true _ h0).mono ?_; rintro e w' ⟨rfl, rfl⟩)
  go_ret
  exact ⟨rfl, rfl⟩

end Go.Proofs.Ytggpbgbnefgebab
