/- Contracts of the package event: words, operand. -/
import Derived.Test.YtbenjknaklafmaaDoorEvM
import Derived.Test.YtbenjknaklafmaaDoorStr
import Derived.Test.YtbenjknaklafmaaDoorValue
set_option linter.unusedVariables false
set_option linter.unusedSimpArgs false
namespace Go.Proofs.YtbenjknaklafmaaDoor
open Go.RowKit
attribute [local go_sem ↓] Go.wp_at_zero Go.wp_at_succ

theorem vwords_any (k : Int) (kw : ByteArray) (ko : Bool) (w : World) :
    Calls Tryd.prog 33 #[.agg #[.int .i64 k, .string kw, .bool ko]] w fun e w' => e = .returned (.int .i64 (if ko = true then 4 else 2)) ∧ Only [] w w' := by
  have HO := Lib.hid ((Only.refl [] w).alloc (.cells #[.int .i64 k, .string kw, .bool ko] 64))
  cases ko <;>
  · go_enter Tryd.func33, Tryd.ntmps33
    go_wp2
    go_ret
    exact ⟨rfl, HO.out⟩

/-- What an operation's value is: its kind, its number, or an error. -/
def opE (k : Int) (s : ByteArray) : Int := if pvE (by_ s) ≠ 0 then pvE (by_ s) else if k = 3 ∧ pvK (by_ s) = 2 then 5 else if k = 3 ∧ pvK (by_ s) = 0 then 11 else 0
def opK (k : Int) (s : ByteArray) : Int := if opE k s = 0 then pvK (by_ s) else 0
def opN (k : Int) (s : ByteArray) : Int := if opE k s = 0 then pvN (by_ s) else 0

set_option maxRecDepth 10000 in
set_option maxHeartbeats 2000000 in
theorem operand_any (k : Int) (s : ByteArray) (w : World) (hs : s.size ≤ 9223372036854775807) :
    Calls Tryd.prog 35 #[.int .i64 k, .string s] w fun e w' => e = .returned (.tuple #[.agg #[.int .i64 (opK k s), .int .i64 (opN k s)], .int .i64 (opE k s)]) ∧ Only [] w w' := by
  have HP := Lib.hid (fun w' => vparse_any s w' hs)
  obtain ⟨pk, hpk⟩ : ∃ x, x = pvK s.data.toList := ⟨_, rfl⟩
  obtain ⟨pn, hpn⟩ : ∃ x, x = pvN s.data.toList := ⟨_, rfl⟩
  obtain ⟨pe, hpe⟩ : ∃ x, x = pvE s.data.toList := ⟨_, rfl⟩
  rw [← hpk, ← hpn, ← hpe] at HP
  have h1 : opE k s = if pe ≠ 0 then pe else if k = 3 ∧ pk = 2 then 5 else if k = 3 ∧ pk = 0 then 11 else 0 := by rw [hpe, hpk]; rfl
  have h2 : opK k s = if opE k s = 0 then pk else 0 := by rw [hpk]; rfl
  have h3 : opN k s = if opE k s = 0 then pn else 0 := by rw [hpn]; rfl
  clear hpk hpn hpe
  generalize opE k s = oe at *
  generalize opK k s = ok at *
  generalize opN k s = on at *
  have hcase : ((pe != 0) = true ∧ oe = pe ∧ ok = 0 ∧ on = 0) ∨ (pe = 0 ∧ k = 3 ∧ pk = 2 ∧ oe = 5 ∧ ok = 0 ∧ on = 0) ∨ (pe = 0 ∧ k = 3 ∧ pk = 0 ∧ oe = 11 ∧ ok = 0 ∧ on = 0) ∨
      (pe = 0 ∧ k = 3 ∧ (pk == 2) = false ∧ (pk == 0) = false ∧ oe = 0 ∧ ok = pk ∧ on = pn) ∨ (pe = 0 ∧ (k == 3) = false ∧ oe = 0 ∧ ok = pk ∧ on = pn) := by
    by_cases a : pe = 0
    · by_cases b : k = 3
      · by_cases c : pk = 2
        · exact .inr (.inl ⟨a, b, c, by simp [h1, a, b, c], by simp [h2, h1, a, b, c], by simp [h3, h1, a, b, c]⟩)
        · by_cases d : pk = 0
          · exact .inr (.inr (.inl ⟨a, b, d, by simp [h1, a, b, d], by simp [h2, h1, a, b, d], by simp [h3, h1, a, b, d]⟩))
          · exact .inr (.inr (.inr (.inl ⟨a, b, by simp [c], by simp [d], by simp [h1, a, c, d], by simp [h2, h1, a, c, d], by simp [h3, h1, a, c, d]⟩)))
      · exact .inr (.inr (.inr (.inr ⟨a, by simp [b], by simp [h1, a, b], by simp [h2, h1, a, b], by simp [h3, h1, a, b]⟩)))
    · exact .inl ⟨by simp [a], by simp [h1, a], by simp [h2, h1, a], by simp [h3, h1, a]⟩
  clear h1 h2 h3
  have HO := Lib.hid ((Only.refl [] w).alloc (.cells #[.int .i64 0, .int .i64 0] 36))
  have HB := Lib.hid (Blk.made w 36 #[.int .i64 0, .int .i64 0])
  rcases hcase with ⟨q1, rfl, rfl, rfl⟩ | ⟨rfl, rfl, rfl, rfl, rfl, rfl⟩ | ⟨rfl, rfl, rfl, rfl, rfl, rfl⟩ | ⟨rfl, rfl, q1, q2, rfl, rfl, rfl⟩ | ⟨rfl, q1, rfl, rfl, rfl⟩
  all_goals
    go_enter Tryd.func35, Tryd.ntmps35
    go_wp2_with fail
    refine (HP.out _).mono ?_
    rintro e w1 ⟨rfl, O1⟩
    have bR := O1.blk HB.out (by simp)
    have HO1 := Lib.hid (HO.out.trans O1)
    have lR := bR.lt
    have f0 := bR.at_ 0
    have f1 := bR.at_ 1
    have g0 := bR.free 0
    have g1 := bR.free 1
    simp at f0 f1
    have h0 := HO1.out.size
    clear O1
    go_wp2
  all_goals
    first
    | refine bodyPost_ret (results_row2 Tryd.results35 _ _ w.heap.size 36 #[.int .i64 ok, .int .i64 on] _ rfl (((bR.put 0 (.int .i64 ok)).put 1 (.int .i64 on)).alloc _) Tryd.underlying36 rfl (by kernel_rfl)) rfl ⟨rfl, ?_⟩
    | refine bodyPost_ret (results_row2 Tryd.results35 _ _ w.heap.size 36 #[.int .i64 0, .int .i64 0] _ rfl (((bR.put 0 (.int .i64 0)).put 1 (.int .i64 0)).alloc _) Tryd.underlying36 rfl (by kernel_rfl)) rfl ⟨rfl, ?_⟩
    repeat (first | exact HO1.out | refine Only.put ?_ (fun h => by simp only at h; omega) _ | refine Only.alloc ?_ _)

end Go.Proofs.YtbenjknaklafmaaDoor
