/- Structs by value that came in. Contracts of the package value, and of the reference beside it: which values may be, their texts, and which value a text is. -/
import Derived.Test.YtbenjknaklafmaaDoorLogParsesCardK9
import Derived.Lib.SmallJoins
import Derived.Test.YtbenjknaklafmaaDoorLogParsesCardK16
import Derived.Test.YtbenjknaklafmaaDoorLogParsesCardK17
set_option linter.unusedVariables false
set_option linter.unusedSimpArgs false
namespace Go.Proofs.YtbenjknaklafmaaDoor
open Go.RowKit Go.ChangeShapes Go.WideShapes Go.ChangeAt Go.Joins Go.Deep

section
variable {H : Type} {enc : TypeId × Value → H} {P : Program} {w : World}
/-- A struct of two numbers by value. -/
theorem open_pair {r : Reach} {b0 : Nat} {t ta tb : TypeId} {f0 f1 : Field} {v : Value} {d : DataW H} {p : List MemPlace} (hs : P.underlying t = some (.struct #[f0, f1])) (hone : oneCellFields P #[f0, f1] = true) (hC : P.cellsOf t = 2)
    (ha : f0.type = ta) (hb : f1.type = tb) (hia : P.underlying ta = some (.int .i64)) (hib : P.underlying tb = some (.int .i64)) (hv : Value.okWide P w r b0 t v) (h : DataW.Trod enc P w 0 (fun _ => true) true t v d p) :
    ∃ a b : Int, v = .agg #[.int .i64 a, .int .i64 b] ∧ (Lit.int .i64 a).wf = true ∧ (Lit.int .i64 b).wf = true := by
  obtain ⟨v0, v1, y0, y1, n, rfl, _, _, g0, g1⟩ := Go.Joins.open_agg2 hs hone hC hv h
  rw [ha] at g0
  rw [hb] at g1
  obtain ⟨z0, e0, -, w0⟩ := DataW.trod_int hia g0
  obtain ⟨z1, e1, -, w1⟩ := DataW.trod_int hib g1
  simp at e0 e1
  subst e0
  subst e1
  exact ⟨z0, z1, rfl, w0, w1⟩
end

end Go.Proofs.YtbenjknaklafmaaDoor

set_option linter.unusedVariables false
set_option linter.unusedSimpArgs false
namespace Go.Proofs.YtbenjknaklafmaaDoor
open Go.RowKit

def mayB (k n : Int) : Bool := decide (k = 1) || (decide (k = 0 ∨ k = 2) && decide (n = 0))
def vText (k n : Int) : List UInt8 := if mayB k n = true then (if k = 1 then Lib.itoa n else if k = 2 then [63] else [110, 105, 108]) else []
def vErr (k n : Int) : Int := if mayB k n = true then 0 else 4
def pvK (l : List UInt8) : Int := if l = [110, 105, 108] then 0 else if l = [63] then 2 else if prE l = 0 then 1 else 0
def pvN (l : List UInt8) : Int := if l = [110, 105, 108] then 0 else if l = [63] then 0 else if prE l = 0 then prN l else 0
def pvE (l : List UInt8) : Int := if l = [110, 105, 108] then 0 else if l = [63] then 0 else prE l

theorem ret_boolv {a b : Bool} (h : a = b) : Ending.returned (.bool a) = .returned (.bool b) := by rw [h]

set_option maxHeartbeats 400000 in
theorem vmay_any (k n : Int) (w : World) : Calls Tryd.prog 42 #[.agg #[.int .i64 k, .int .i64 n]] w fun e w' => e = .returned (.bool (mayB k n)) ∧ Only [] w w' := by
  unfold mayB
  by_cases h1 : k = 1
  · subst h1
    go_enter Tryd.func42, Tryd.ntmps42
    go_wp2
    go_ret
    exact ⟨by simp, (Only.refl _ _).alloc _⟩
  · have h1' : (k == 1) = false := by simp [h1]
    have H1 := Lib.hid h1
    clear h1
    by_cases h0 : k = 0
    · subst h0
      go_enter Tryd.func42, Tryd.ntmps42
      go_wp2
      go_ret
      exact ⟨ret_boolv (by simp; try (rw [Bool.eq_iff_iff]; simp)), (Only.refl _ _).alloc _⟩
    · have h0' : (k == 0) = false := by simp [h0]
      have H0 := Lib.hid h0
      clear h0
      by_cases h2 : k = 2
      · subst h2
        go_enter Tryd.func42, Tryd.ntmps42
        go_wp2
        go_ret
        exact ⟨ret_boolv (by simp; try (rw [Bool.eq_iff_iff]; simp)), (Only.refl _ _).alloc _⟩
      · have h2' : (k == 2) = false := by simp [h2]
        have H2 := Lib.hid h2
        clear h2
        go_enter Tryd.func42, Tryd.ntmps42
        go_wp2
        go_ret
        exact ⟨ret_boolv (by simp [H0.out, H1.out, H2.out]), (Only.refl _ _).alloc _⟩

theorem mayB_cases (k n : Int) : (mayB k n = false ∧ vText k n = [] ∧ vErr k n = 4) ∨ (mayB k n = true ∧ vErr k n = 0 ∧ k = 1 ∧ vText k n = Lib.itoa n) ∨ (mayB k n = true ∧ vErr k n = 0 ∧ k = 2 ∧ n = 0 ∧ vText k n = [63]) ∨ (mayB k n = true ∧ vErr k n = 0 ∧ k = 0 ∧ n = 0 ∧ vText k n = [110, 105, 108]) := by
  unfold vText vErr
  cases h : mayB k n with
  | false => simp
  | true =>
    unfold mayB at h
    simp at h
    rcases h with h | ⟨h | h, h'⟩ <;> simp [h] <;> assumption

set_option maxHeartbeats 800000 in
theorem vprint_any (k n : Int) (w : World) (h1 : -9223372036854775808 ≤ n) (h2 : n ≤ 9223372036854775807) :
    Calls Tryd.prog 44 #[.agg #[.int .i64 k, .int .i64 n]] w fun e w' => e = .returned (.tuple #[.string ⟨(vText k n).toArray⟩, .int .i64 (vErr k n)]) ∧ Only [] w w' := by
  have hm := fun w => vmay_any k n w
  have hp := fun w => print_any n w h1 h2
  have HM := Lib.hid hm
  have HP := Lib.hid hp
  clear hm hp
  rcases mayB_cases k n with ⟨a, b, c⟩ | ⟨a, b, rfl, c⟩ | ⟨a, b, rfl, rfl, c⟩ | ⟨a, b, rfl, rfl, c⟩
  all_goals
    rw [b, c]
    have HM' : ∀ w, Hid (Calls Tryd.prog 42 #[.agg #[.int .i64 _, .int .i64 _]] w fun e w' => e = .returned (.bool _) ∧ Only [] w w') := fun w => by
      have := HM.out w; rw [a] at this; exact this
    have HMH := Lib.hid HM'
    clear HM HM' a b c
    go_enter Tryd.func44, Tryd.ntmps44
    go_wp2_with fail
    refine (HMH.out _).out.mono ?_
    rintro e w1 ⟨rfl, O1⟩
    have b1 := O1.blk (Blk.made w 36 #[.int .i64 _, .int .i64 _]) (by simp)
    have c0 := b1.at_ 0
    have c1 := b1.at_ 1
    simp at c0 c1
    have HO := Lib.hid (((Only.refl [] w).alloc (.cells #[.int .i64 _, .int .i64 _] 36)).trans O1)
    clear b1 O1
    go_wp2_with fail
    first
      | (refine (HP.out _).mono ?_
         rintro e w2 ⟨rfl, O2⟩
         go_wp2
         go_ret2
         exact ⟨rfl, HO.out.trans O2⟩)
      | (go_ret2
         exact ⟨rfl, HO.out⟩)

set_option maxHeartbeats 800000 in
theorem vparse_any (s : ByteArray) (w : World) (h : s.size ≤ 9223372036854775807) :
    Calls Tryd.prog 56 #[.string s] w fun e w' => e = .returned (.tuple #[.agg #[.int .i64 (pvK s.data.toList), .int .i64 (pvN s.data.toList)], .int .i64 (pvE s.data.toList)]) ∧ Only [] w w' := by
  unfold pvK pvN pvE
  by_cases h1 : s.data.toList = [110, 105, 108]
  · rw [h1]
    have hs : (s.toList == [110, 105, 108]) = true := by rw [Lib.toList_data, h1]; rfl
    clear h1
    go_enter Tryd.func56, Tryd.ntmps56
    go_wp2
    exact bodyPost_ret (v := .tuple #[.agg #[.int .i64 0, .int .i64 0], .int .i64 0]) (by simp [results, Tryd.results56, go_sem]) rfl ⟨rfl, (Only.refl _ _).alloc _⟩
  · have hs1 : (s.toList == [110, 105, 108]) = false := by rw [Lib.toList_data]; simpa using h1
    by_cases h2 : s.data.toList = [63]
    · rw [h2]
      have hs2 : (s.toList == [63]) = true := by rw [Lib.toList_data, h2]; rfl
      clear h1 h2
      go_enter Tryd.func56, Tryd.ntmps56
      go_wp2
      exact bodyPost_ret (v := .tuple #[.agg #[.int .i64 2, .int .i64 0], .int .i64 0]) (by simp [results, Tryd.results56, go_sem]) rfl ⟨rfl, (Only.refl _ _).alloc _⟩
    · have hs2 : (s.toList == [63]) = false := by rw [Lib.toList_data]; simpa using h2
      rw [if_neg h1, if_neg h2, if_neg h1, if_neg h2, if_neg h1, if_neg h2]
      have hp := fun w => parse_any s w h
      generalize prN s.data.toList = n at *
      generalize prE s.data.toList = x at *
      have HP := Lib.hid hp
      clear hp h1 h2
      by_cases hx : x = 0
      · rw [if_pos hx, if_pos hx]
        have hx' : (x != 0) = false := by simp [hx]
        have HX := Lib.hid hx
        clear hx
        go_enter Tryd.func56, Tryd.ntmps56
        go_wp2_with fail
        refine (HP.out _).mono ?_
        rintro e w1 ⟨rfl, rfl⟩
        go_wp2
        exact bodyPost_ret (v := .tuple #[.agg #[.int .i64 1, .int .i64 n], .int .i64 0]) (by simp [results, Tryd.results56, go_sem]) rfl ⟨by rw [HX.out], (Only.refl _ _).alloc _⟩
      · rw [if_neg hx, if_neg hx]
        have hx' : (x != 0) = true := by simp [hx]
        clear hx
        go_enter Tryd.func56, Tryd.ntmps56
        go_wp2_with fail
        refine (HP.out _).mono ?_
        rintro e w1 ⟨rfl, rfl⟩
        go_wp2
        exact bodyPost_ret (v := .tuple #[.agg #[.int .i64 0, .int .i64 0], .int .i64 x]) (by simp [results, Tryd.results56, go_sem]) rfl ⟨rfl, (Only.refl _ _).alloc _⟩

end Go.Proofs.YtbenjknaklafmaaDoor
