/- Contracts of the package event: words, operand. Columns: the mathematics. Trimmed texts: the mathematics. -/
import Derived.Test.YtbenjknaklafmaaDoorLogParsesCardK6
import Derived.Test.YtbenjknaklafmaaDoorLogParsesCardK7
import Derived.Test.YtbenjknaklafmaaDoorLogParsesCardK18
import Derived.Test.YtbenjknaklafmaaDoorLogParsesCardK12
import Derived.Lib.SlTrimSet
set_option linter.unusedVariables false
set_option linter.unusedSimpArgs false
namespace Go.Proofs.YtbenjknaklafmaaDoor
open Go.RowKit
attribute [local go_sem ↓] Go.wp_at_zero Go.wp_at_succ

theorem vwords_any (k : Int) (kw : ByteArray) (ko : Bool) (w : World) :
    Calls Tryd.prog 33 #[.agg #[.int .i64 k, .string kw, .bool ko]] w fun e w' => e = .returned (.int .i64 (if ko = true then 4 else 2)) ∧ Only [] w w' := by
  have HO := Lib.hid ((Only.refl [] w).alloc (.cells #[.int .i64 k, .string kw, .bool ko] 64))
  cases ko <;>
  · go_enter Tryd.func33, Tryd.ntmps33
    go_wp2
    go_ret
    exact ⟨rfl, HO.out⟩

/-- What an operation's value is: its kind, its number, or an error. -/
def opE (k : Int) (s : ByteArray) : Int := if pvE (by_ s) ≠ 0 then pvE (by_ s) else if k = 3 ∧ pvK (by_ s) = 2 then 5 else if k = 3 ∧ pvK (by_ s) = 0 then 11 else 0
def opK (k : Int) (s : ByteArray) : Int := if opE k s = 0 then pvK (by_ s) else 0
def opN (k : Int) (s : ByteArray) : Int := if opE k s = 0 then pvN (by_ s) else 0

set_option maxRecDepth 10000 in
set_option maxHeartbeats 2000000 in
theorem operand_any (k : Int) (s : ByteArray) (w : World) (hs : s.size ≤ 9223372036854775807) :
    Calls Tryd.prog 35 #[.int .i64 k, .string s] w fun e w' => e = .returned (.tuple #[.agg #[.int .i64 (opK k s), .int .i64 (opN k s)], .int .i64 (opE k s)]) ∧ Only [] w w' := by
  have HP := Lib.hid (fun w' => vparse_any s w' hs)
  obtain ⟨pk, hpk⟩ : ∃ x, x = pvK s.data.toList := ⟨_, rfl⟩
  obtain ⟨pn, hpn⟩ : ∃ x, x = pvN s.data.toList := ⟨_, rfl⟩
  obtain ⟨pe, hpe⟩ : ∃ x, x = pvE s.data.toList := ⟨_, rfl⟩
  rw [← hpk, ← hpn, ← hpe] at HP
  have h1 : opE k s = if pe ≠ 0 then pe else if k = 3 ∧ pk = 2 then 5 else if k = 3 ∧ pk = 0 then 11 else 0 := by rw [hpe, hpk]; rfl
  have h2 : opK k s = if opE k s = 0 then pk else 0 := by rw [hpk]; rfl
  have h3 : opN k s = if opE k s = 0 then pn else 0 := by rw [hpn]; rfl
  clear hpk hpn hpe
  generalize opE k s = oe at *
  generalize opK k s = ok at *
  generalize opN k s = on at *
  have hcase : ((pe != 0) = true ∧ oe = pe ∧ ok = 0 ∧ on = 0) ∨ (pe = 0 ∧ k = 3 ∧ pk = 2 ∧ oe = 5 ∧ ok = 0 ∧ on = 0) ∨ (pe = 0 ∧ k = 3 ∧ pk = 0 ∧ oe = 11 ∧ ok = 0 ∧ on = 0) ∨
      (pe = 0 ∧ k = 3 ∧ (pk == 2) = false ∧ (pk == 0) = false ∧ oe = 0 ∧ ok = pk ∧ on = pn) ∨ (pe = 0 ∧ (k == 3) = false ∧ oe = 0 ∧ ok = pk ∧ on = pn) := by
    by_cases a : pe = 0
    · by_cases b : k = 3
      · by_cases c : pk = 2
        · exact .inr (.inl ⟨a, b, c, by simp [h1, a, b, c], by simp [h2, h1, a, b, c], by simp [h3, h1, a, b, c]⟩)
        · by_cases d : pk = 0
          · exact .inr (.inr (.inl ⟨a, b, d, by simp [h1, a, b, d], by simp [h2, h1, a, b, d], by simp [h3, h1, a, b, d]⟩))
          · exact .inr (.inr (.inr (.inl ⟨a, b, by simp [c], by simp [d], by simp [h1, a, c, d], by simp [h2, h1, a, c, d], by simp [h3, h1, a, c, d]⟩)))
      · exact .inr (.inr (.inr (.inr ⟨a, by simp [b], by simp [h1, a, b], by simp [h2, h1, a, b], by simp [h3, h1, a, b]⟩)))
    · exact .inl ⟨by simp [a], by simp [h1, a], by simp [h2, h1, a], by simp [h3, h1, a]⟩
  clear h1 h2 h3
  have HO := Lib.hid ((Only.refl [] w).alloc (.cells #[.int .i64 0, .int .i64 0] 36))
  have HB := Lib.hid (Blk.made w 36 #[.int .i64 0, .int .i64 0])
  rcases hcase with ⟨q1, rfl, rfl, rfl⟩ | ⟨rfl, rfl, rfl, rfl, rfl, rfl⟩ | ⟨rfl, rfl, rfl, rfl, rfl, rfl⟩ | ⟨rfl, rfl, q1, q2, rfl, rfl, rfl⟩ | ⟨rfl, q1, rfl, rfl, rfl⟩
  all_goals
    go_enter Tryd.func35, Tryd.ntmps35
    go_wp2_with fail
    refine (HP.out _).mono ?_
    rintro e w1 ⟨rfl, O1⟩
    have bR := O1.blk HB.out (by simp)
    have HO1 := Lib.hid (HO.out.trans O1)
    have lR := bR.lt
    have f0 := bR.at_ 0
    have f1 := bR.at_ 1
    have g0 := bR.free 0
    have g1 := bR.free 1
    simp at f0 f1
    have h0 := HO1.out.size
    clear O1
    go_wp2
  all_goals
    first
    | refine bodyPost_ret (results_row2 Tryd.results35 _ _ w.heap.size 36 #[.int .i64 ok, .int .i64 on] _ rfl (((bR.put 0 (.int .i64 ok)).put 1 (.int .i64 on)).alloc _) Tryd.underlying36 rfl (by kernel_rfl)) rfl ⟨rfl, ?_⟩
    | refine bodyPost_ret (results_row2 Tryd.results35 _ _ w.heap.size 36 #[.int .i64 0, .int .i64 0] _ rfl (((bR.put 0 (.int .i64 0)).put 1 (.int .i64 0)).alloc _) Tryd.underlying36 rfl (by kernel_rfl)) rfl ⟨rfl, ?_⟩
    repeat (first | exact HO1.out | refine Only.put ?_ (fun h => by simp only at h; omega) _ | refine Only.alloc ?_ _)

end Go.Proofs.YtbenjknaklafmaaDoor

set_option linter.unusedVariables false
set_option linter.unusedSimpArgs false
namespace Go.Proofs.YtbenjknaklafmaaDoor
open Go.RowKit
open Go.Lib hiding intOf
attribute [local go_sem ↓] Go.wp_at_zero Go.wp_at_succ

def colFrom (s : ByteArray) (a : Int) : Nat → Nat → Nat
  | 0, _ => 0
  | f + 1, pos => if pos < s.size ∧ (pos : Int) < a then 1 + colFrom s a f (pos + (Utf8.decode s pos).2) else 0
def colOf (s : ByteArray) (a : Int) : Nat := if validD (by_ s) = true then colFrom s a s.size 0 else 0
theorem colFrom_le (s : ByteArray) (a : Int) : ∀ f pos, colFrom s a f pos ≤ f
  | 0, _ => Nat.le_refl _
  | f + 1, pos => by
    have := colFrom_le s a f (pos + (Utf8.decode s pos).2)
    unfold colFrom
    split <;> omega
theorem colFrom_stop (s : ByteArray) (a : Int) (f pos : Nat) (h : ¬ (pos < s.size ∧ (pos : Int) < a)) : colFrom s a f pos = 0 := by
  cases f with
  | zero => rfl
  | succ f => rw [colFrom, if_neg h]

end Go.Proofs.YtbenjknaklafmaaDoor

set_option linter.unusedVariables false
set_option linter.unusedSimpArgs false
namespace Go.Proofs.YtbenjknaklafmaaDoor
open Go.RowKit
open Go.Lib hiding intOf

def blanks : List UInt8 := [9, 13, 32]
theorem right_cons (x : UInt8) (t cs : List UInt8) : trimRightS (x :: t) cs = if trimRightS t cs = [] then (if cs.contains x = true then [] else [x]) else x :: trimRightS t cs := by
  unfold trimRightS
  rw [List.reverse_cons, List.dropWhile_append]
  by_cases h : (t.reverse.dropWhile (cs.contains ·)) = []
  · rw [h, if_pos (by rfl), List.reverse_nil, if_pos rfl, List.dropWhile_cons, List.dropWhile_nil]
    by_cases hx : cs.contains x = true
    · simp only [hx, if_true, List.reverse_nil]
    · simp only [hx, if_false, List.reverse_singleton]; rfl
  · rw [if_neg (by simpa using h), if_neg (by simpa using h)]
    simp
/-- Left first or right first: the same. -/
theorem trim_comm (cs : List UInt8) : ∀ l : List UInt8, trimLeftS (trimRightS l cs) cs = trimRightS (trimLeftS l cs) cs := by
  intro l
  induction l with
  | nil => rfl
  | cons x t ih =>
    have hL : trimLeftS (x :: t) cs = if cs.contains x = true then trimLeftS t cs else x :: t := by
      unfold trimLeftS
      rw [List.dropWhile_cons]
    rw [hL]
    by_cases hx : cs.contains x = true
    · rw [if_pos hx, right_cons]
      by_cases hr : trimRightS t cs = []
      · rw [if_pos hr, if_pos hx, ← ih, hr]
      · rw [if_neg hr, ← ih]
        unfold trimLeftS
        rw [List.dropWhile_cons, if_pos hx]
    · rw [if_neg hx, right_cons]
      by_cases hr : trimRightS t cs = []
      · rw [if_pos hr, if_neg hx]
        unfold trimLeftS
        rw [List.dropWhile_cons, if_neg hx]
      · rw [if_neg hr]
        unfold trimLeftS
        rw [List.dropWhile_cons, if_neg hx]
theorem right_snoc (l : List UInt8) (x : UInt8) (cs : List UInt8) : trimRightS (l ++ [x]) cs = if cs.contains x = true then trimRightS l cs else l ++ [x] := by
  unfold trimRightS
  rw [List.reverse_append, List.reverse_singleton, List.singleton_append, List.dropWhile_cons]
  split
  · rfl
  · simp
theorem left_cons (l : List UInt8) (x : UInt8) (cs : List UInt8) : trimLeftS (x :: l) cs = if cs.contains x = true then trimLeftS l cs else x :: l := by
  unfold trimLeftS
  rw [List.dropWhile_cons]

end Go.Proofs.YtbenjknaklafmaaDoor
