/- FuelPlays: a store that is asked anyhow answers as the reference does. -/
import Derived.Test.YtggpbgbnefgebabFuelNone
import Derived.Test.YtggpbgbnefgebabOwn
import Derived.Deep.RegionWith
set_option linter.unusedVariables false
set_option linter.unusedSimpArgs false
namespace Go.Proofs.Ytggpbgbnefgebab
open Go.RowKit

theorem info_int : (Try.prog.info? 3).map (fun i => (i.zero, i.size, i.bytes)) = some (some (.int .i64 0), 1, 8) := by kernel_rfl

set_option maxHeartbeats 400000 in
/-- Ints: a copy. -/
theorem ints_any (A : Option Addr) (n c : Nat) (xs : List Value) (w : World) (hr : Row w w.heap.size A xs) (hl : xs.length = n) (h1 : ∀ u ∈ xs, u.oneCell' = true) (hm : n ≤ 1000000) :
    Calls Try.prog 24 #[.slice A n c] w fun e w' => ∃ v, e = .returned v ∧ w'.ownsRow w.heap.size 3 1 v n xs ∧ Only [] w w' := by
  obtain ⟨i0, hi, hz0, hz1, hz2⟩ := info_parts info_int
  have HR := Lib.hid hr
  have HL := Lib.hid hl
  clear hr hl
  go_enter Try.func24, Try.ntmps24
  go_wp2_with (at_builtin; refine wpList_append_row _ rfl (.tmp 3) (.tmp 4) _ rfl w.heap.size 3 i0 _ 1 8 Try.underlying28 hi hz0 hz1 hz2 rfl (by omega) (.slice (some ⟨w.heap.size, 0, none⟩) 0 0) 0 [] rfl (World.ownsRow_lit w #[] 0 (Nat.le_refl _) (by unfold maxLen; omega) rfl) w.heap.size A n c xs rfl (by rw [HL.out, Nat.mul_one]) (HR.out.only ((Only.refl [] _).alloc _) (by simp)) h1 (by unfold maxLen; omega) (by omega) (by simp) ?_; intro v w1 hown hgrow hat)
  go_ret
  refine ⟨v, rfl, by simpa using hown, ((Only.refl [] w).alloc _).step (Only.of_grown (S := [w.heap.size]) hgrow (fun g hg _ => by simp [Value.ownBlock] at hg; simp [hg])) (fun i hi hlt => by simp at hi; omega)⟩

/-! ### The reference -/
set_option maxHeartbeats 400000 in
theorem rtake_arg (p : Nat) (n : Int) (w : World) (hn : n < 0) :
    Calls Try.prog 28 #[.pointer (some ⟨p, 0, none⟩), .int .i64 n] w fun e w' => e = .returned (.int .i64 2) ∧ w = w' := by
  go_enter Try.func28, Try.ntmps28
  go_wp2
  go_ret
  exact ⟨rfl, rfl⟩

set_option maxHeartbeats 400000 in
theorem rtake_spent (p : Nat) (n : Int) (w : World) (h2 : w.cell? ⟨p, 2, none⟩ = some (.bool true)) (hn : 0 ≤ n) :
    Calls Try.prog 28 #[.pointer (some ⟨p, 0, none⟩), .int .i64 n] w fun e w' => e = .returned (.int .i64 13) ∧ w = w' := by
  go_enter Try.func28, Try.ntmps28
  go_wp2
  go_ret
  exact ⟨rfl, rfl⟩

set_option maxHeartbeats 400000 in
theorem rtake_more (p : Nat) (n lim used : Int) (w : World) (h0 : w.cell? ⟨p, 0, none⟩ = some (.int .i64 lim)) (h1 : w.cell? ⟨p, 1, none⟩ = some (.int .i64 used)) (h2 : w.cell? ⟨p, 2, none⟩ = some (.bool false))
    (f1 : w.frozen? ⟨p, 1, none⟩ = false) (f2 : w.frozen? ⟨p, 2, none⟩ = false) (hn : 0 ≤ n) (hu : 0 ≤ used) (hl : used ≤ lim) (hm : lim ≤ 9223372036854775807) (hg : lim - used < n) :
    Calls Try.prog 28 #[.pointer (some ⟨p, 0, none⟩), .int .i64 n] w fun e w' => e = .returned (.int .i64 13) ∧ ∃ k, ((w.drewN k).setCell ⟨p, 1, none⟩ (.int .i64 lim)).setCell ⟨p, 2, none⟩ (.bool true) = w' := by
  go_enter Try.func28, Try.ntmps28
  go_wp2
  go_quiet (fail)
  go_wp2
  go_ret
  exact ⟨rfl, _, rfl⟩

set_option maxHeartbeats 400000 in
theorem rtake_ok (p : Nat) (n lim used : Int) (w : World) (h0 : w.cell? ⟨p, 0, none⟩ = some (.int .i64 lim)) (h1 : w.cell? ⟨p, 1, none⟩ = some (.int .i64 used)) (h2 : w.cell? ⟨p, 2, none⟩ = some (.bool false))
    (f1 : w.frozen? ⟨p, 1, none⟩ = false) (hn : 0 ≤ n) (hu : 0 ≤ used) (hl : used ≤ lim) (hm : lim ≤ 9223372036854775807) (hg : n ≤ lim - used) :
    Calls Try.prog 28 #[.pointer (some ⟨p, 0, none⟩), .int .i64 n] w fun e w' => e = .returned (.int .i64 0) ∧ ∃ k, (w.drewN k).setCell ⟨p, 1, none⟩ (.int .i64 (used + n)) = w' := by
  go_enter Try.func28, Try.ntmps28
  go_wp2
  go_quiet (fail)
  go_wp2
  go_ret
  exact ⟨rfl, _, rfl⟩

/-- The reference's Take. -/
theorem rtake_any (p : Nat) (n lim used : Int) (sp : Bool) (w : World) (h : Rf w p lim used sp) (hu : 0 ≤ used) (hl : used ≤ lim) (hm : lim ≤ 9223372036854775807) (hsp : sp = true → used = lim) :
    Calls Try.prog 28 #[.pointer (some ⟨p, 0, none⟩), .int .i64 n] w fun e w' =>
      e = .returned (.int .i64 (tkE lim used sp n)) ∧ Rf w' p lim (tkU lim used sp n) (tkS lim used sp n) ∧ Only [p] w w' := by
  have h0 := h.at_ 0
  have h1 := h.at_ 1
  have h2 := h.at_ 2
  have f1 := h.free 1
  have f2 := h.free 2
  by_cases hn : n < 0
  · refine (rtake_arg p n w hn).mono ?_
    rintro e w' ⟨rfl, rfl⟩
    simp only [tkE, tkU, tkS, if_pos hn]
    exact ⟨trivial, h, Only.refl _ _⟩
  · cases sp with
    | true =>
      refine (rtake_spent p n w h2 (by omega)).mono ?_
      rintro e w' ⟨rfl, rfl⟩
      simp only [tkE, tkU, tkS, if_neg hn, true_or, if_true]
      exact ⟨trivial, hsp rfl ▸ h, Only.refl _ _⟩
    | false =>
      by_cases hg : lim - used < n
      · refine (rtake_more p n lim used w h0 h1 h2 f1 f2 (by omega) hu hl hm hg).mono ?_
        rintro e w' ⟨rfl, k, rfl⟩
        simp only [tkE, tkU, tkS, if_neg hn, hg, or_true, if_true]
        refine ⟨trivial, ?_, (((Only.refl _ _).drewN k).put (by simp) _).put (by simp) _⟩
        have := ((h.drewN k).put 1 (.int .i64 lim)).put 2 (.bool true)
        simpa [Rf] using this
      · refine (rtake_ok p n lim used w h0 h1 h2 f1 (by omega) hu hl hm (by omega)).mono ?_
        rintro e w' ⟨rfl, k, rfl⟩
        simp only [tkE, tkU, tkS, if_neg hn, hg, Bool.false_eq_true, or_false, if_false]
        refine ⟨trivial, ?_, ((Only.refl _ _).drewN k).put (by simp) _⟩
        have := (h.drewN k).put 1 (.int .i64 (used + n))
        simpa [Rf] using this

/-! ### One round: both stores are asked -/
/-- The program's store in block p, the reference's in q, a cell of the list, and what has changed since w0. -/
structure Pl (w0 w : World) (p q : Nat) (lim u1 : Int) (s1 : Bool) (u2 : Int) (s2 : Bool) (a : Addr) (z : Value) : Prop where
  F : Fl w p lim u1 s1
  R : Rf w q lim u2 s2
  c : w.cell? a = some z
  o : Only [] w0 w
  hp : w0.heap.size ≤ p
  hq : w0.heap.size ≤ q
  ne : p ≠ q
  ap : a.block ≠ p
  aq : a.block ≠ q
  alt : a.block < w.heap.size

section
variable {w0 w : World} {p q : Nat} {lim u1 u2 : Int} {s1 s2 : Bool} {a : Addr} {z : Value}
theorem Pl.drew (h : Pl w0 w p q lim u1 s1 u2 s2 a z) : Pl w0 w.drew p q lim u1 s1 u2 s2 a z := ⟨h.F, h.R, h.c, h.o.drew, h.hp, h.hq, h.ne, h.ap, h.aq, h.alt⟩
theorem Pl.none_ (h : Pl w0 w p q lim u1 s1 u2 s2 a z) {w' : World} (ho : Only [] w w') : Pl w0 w' p q lim u1 s1 u2 s2 a z :=
  ⟨ho.blk h.F (by simp), ho.blk h.R (by simp), by rw [ho.cell h.alt (by simp)]; exact h.c, h.o.trans ho, h.hp, h.hq, h.ne, h.ap, h.aq, Nat.lt_of_lt_of_le h.alt ho.size⟩

theorem pl_take (n : Int) (h : Pl w0 w p q lim u1 s1 u2 s2 a z) (hu : 0 ≤ u1) (hl : u1 ≤ lim) (hm : lim ≤ 9223372036854775807) :
    Calls Try.prog 27 #[.pointer (some ⟨p, 0, none⟩), .int .i64 n] w fun e w' => e = .returned (.int .i64 (tkE lim u1 s1 n)) ∧
      Pl w0 w' p q lim (tkU lim u1 s1 n) (tkS lim u1 s1 n) u2 s2 a z ∧ w'.cell? a = some z := by
  refine (take_any p n lim u1 s1 w h.F hu hl hm).mono ?_
  rintro e w' ⟨rfl, hF, hO⟩
  have hc : w'.cell? a = some z := by rw [hO.cell h.alt (by simpa using h.ap)]; exact h.c
  exact ⟨rfl, ⟨hF, hO.blk h.R (by simpa using h.ne.symm), hc, h.o.step hO (fun i hi hlt => by have := h.hp; simp at hi; omega), h.hp, h.hq, h.ne, h.ap, h.aq, Nat.lt_of_lt_of_le h.alt hO.size⟩, hc⟩

theorem pl_rtake (n : Int) (h : Pl w0 w p q lim u1 s1 u2 s2 a z) (hu : 0 ≤ u2) (hl : u2 ≤ lim) (hm : lim ≤ 9223372036854775807) (hsp : s2 = true → u2 = lim) :
    Calls Try.prog 28 #[.pointer (some ⟨q, 0, none⟩), .int .i64 n] w fun e w' => e = .returned (.int .i64 (tkE lim u2 s2 n)) ∧
      Pl w0 w' p q lim u1 s1 (tkU lim u2 s2 n) (tkS lim u2 s2 n) a z ∧ w'.cell? ⟨q, 1, none⟩ = some (.int .i64 (tkU lim u2 s2 n)) ∧ w'.cell? ⟨q, 2, none⟩ = some (.bool (tkS lim u2 s2 n)) := by
  refine (rtake_any q n lim u2 s2 w h.R hu hl hm hsp).mono ?_
  rintro e w' ⟨rfl, hR, hO⟩
  have hc : w'.cell? a = some z := by rw [hO.cell h.alt (by simpa using h.aq)]; exact h.c
  exact ⟨rfl, ⟨hO.blk h.F (by simpa using h.ne), hR, hc, h.o.step hO (fun i hi hlt => by have := h.hq; simp at hi; omega), h.hp, h.hq, h.ne, h.ap, h.aq, Nat.lt_of_lt_of_le h.alt hO.size⟩, hR.at_ 1, hR.at_ 2⟩

theorem pl_left (h : Pl w0 w p q lim u1 s1 u2 s2 a z) (hu : 0 ≤ u1) (hl : u1 ≤ lim) (hm : lim ≤ 9223372036854775807) :
    Calls Try.prog 30 #[.pointer (some ⟨p, 0, none⟩)] w fun e w' => e = .returned (.int .i64 (lim - u1)) ∧
      Pl w0 w' p q lim u1 s1 u2 s2 a z ∧ w'.cell? ⟨q, 1, none⟩ = some (.int .i64 u2) ∧ w'.cell? ⟨q, 2, none⟩ = some (.bool s2) := by
  refine (left_any p lim u1 s1 w h.F hu hl hm).mono ?_
  rintro e w' ⟨rfl, hO⟩
  have h' := h.none_ hO
  exact ⟨rfl, h', h'.R.at_ 1, h'.R.at_ 2⟩

theorem pl_used (h : Pl w0 w p q lim u1 s1 u2 s2 a z) :
    Calls Try.prog 29 #[.pointer (some ⟨p, 0, none⟩)] w fun e w' => e = .returned (.int .i64 u1) ∧
      Pl w0 w' p q lim u1 s1 u2 s2 a z ∧ w'.cell? ⟨q, 1, none⟩ = some (.int .i64 u2) ∧ w'.cell? ⟨q, 2, none⟩ = some (.bool s2) := by
  refine (used_any p lim u1 s1 w h.F).mono ?_
  rintro e w' ⟨rfl, hO⟩
  have h' := h.none_ hO
  exact ⟨rfl, h', h'.R.at_ 1, h'.R.at_ 2⟩

theorem pl_spent (h : Pl w0 w p q lim u1 s1 u2 s2 a z) :
    Calls Try.prog 31 #[.pointer (some ⟨p, 0, none⟩)] w fun e w' => e = .returned (.bool s1) ∧
      Pl w0 w' p q lim u1 s1 u2 s2 a z ∧ w'.cell? ⟨q, 1, none⟩ = some (.int .i64 u2) ∧ w'.cell? ⟨q, 2, none⟩ = some (.bool s2) := by
  refine (spent_any p lim u1 s1 w h.F).mono ?_
  rintro e w' ⟨rfl, rfl⟩
  exact ⟨rfl, h, h.R.at_ 1, h.R.at_ 2⟩
end

theorem tk_spent (lim used : Int) (sp : Bool) (n : Int) (h : sp = true → used = lim) : tkS lim used sp n = true → tkU lim used sp n = lim := by
  unfold tkS tkU
  by_cases hn : n < 0
  · rw [if_pos hn, if_pos hn]; exact h
  · rw [if_neg hn, if_neg hn]
    split
    · intro _; rfl
    · rename_i hc
      intro hs
      exact absurd (Or.inl hs) hc

attribute [local go_sem ↓] Go.wp_at_zero Go.wp_at_succ

end Go.Proofs.Ytggpbgbnefgebab
