/- Law 21: what its laws share: the examples, May, what a call of the package answers. -/
import Derived.Test.YtlipapclbemjjaaDoorCloseOfCardK42
import Derived.Test.YtlipapclbemjjaaDoorCloseOfCardK23
set_option linter.unusedVariables false
set_option linter.unusedSimpArgs false
namespace Go.Proofs.YtlipapclbemjjaaDoor
open Go.RowKit
attribute [local go_sem ↓] Go.wp_at_zero Go.wp_at_succ
theorem good_wf {n : Nat} {l : List (Int × Int)} (w : WfE n l) : l.all (goodE n) = true := List.all_eq_true.2 fun e he => by
 obtain ⟨a, b, rfl, h1, h2⟩ := w e he
 exact good_iff.2 ⟨⟨by omega, by omega⟩, by omega, by omega⟩
theorem may_good {q : Nat} {l : List (Int × Int)} (hq : q ≤ 500) (w : WfE q l) : mayL (q : Int) l = true := by
 unfold mayL
 rw [decide_eq_true (by omega), Bool.true_and, Int.toNat_natCast]
 exact good_wf w
theorem may_wf {n : Int} {l : List (Int × Int)} (h : mayL n l = true) : ∃ q : Nat, n = q ∧ q ≤ 500 ∧ WfE q l ∧ l.all (goodE q) = true := by
 unfold mayL at h
 rw [Bool.and_eq_true, decide_eq_true_eq] at h
 obtain ⟨⟨h1, h2⟩, h3⟩ := h
 refine ⟨n.toNat, by omega, by omega, wf_good h3, h3⟩
theorem close_yes {q : Nat} {l : List (Int × Int)} (hq : q ≤ 500) (w : WfE q l) : closeR (q : Int) l = (closeL q l, 0) := by unfold closeR; rw [may_good hq w, if_pos rfl, Int.toNat_natCast]
theorem close_no {n : Int} {l : List (Int × Int)} (h : mayL n l = false) : closeR n l = ([], 2) := by unfold closeR; rw [h]; rfl
theorem rmay20_any (n : Int) (A : Option Addr) (m c : Nat) (l : List (Int × Int)) (w : World) (hr : Row w w.heap.size A (edgeC l)) (hl : l.length = m) (hm : m ≤ 1000000) :
  Calls Tryd.prog 10 #[.int .i64 n, .slice A m c] w fun e w' => e = .returned (.bool (mayL n l)) ∧ w = w' := by
 have H : Calls Tryd.prog 25 #[.int .i64 n, .slice A m c] w fun e w' => e = .returned (.bool (mayL n l)) ∧ w = w' := by
  by_cases hn : n < 0 ∨ 500 < n
  ·have : mayL n l = false := by unfold mayL; rw [decide_eq_false (by omega)]; rfl
   rw [this]
   exact rmay_out n A m c w hn
  ·obtain ⟨q, rfl⟩ : ∃ q : Nat, n = q := ⟨n.toNat, by omega⟩
   have : mayL (q : Int) l = l.all (goodE q) := by unfold mayL; rw [decide_eq_true (by omega), Bool.true_and, Int.toNat_natCast]
   rw [this]
   exact rmay_in q A m c l w (by omega) hr hl hm
 have HH := Lib.hid H
 clear H hr hl
 go_enter Tryd.func10, Tryd.ntmps10
 go_wp2_with fail
 refine (HH.out).mono ?_
 rintro e w1 ⟨rfl, rfl⟩
 go_wp2
 go_ret
 exact ⟨rfl, rfl⟩
theorem ex_close : closeR 3 [(0, 1), (1, 2)] = ([(0, 1), (0, 2), (1, 2)], 0) := by kernel_rfl
theorem ex_thin : thinR 3 [(0, 1), (0, 2), (1, 2)] = ([(0, 1), (1, 2)], 0) := by kernel_rfl
set_option maxHeartbeats 4000000 in
theorem works21_any (w : World) (hT : Tab w) (h00 : 0 < w.heap.size) : Calls Tryd.prog 11 #[] w fun e w' => e = .returned (.bool true) ∧ Only [] w w' := by
 have HO1 := Lib.hid ((Only.refl [] w).alloc (.cells #[.int .i64 0, .int .i64 1, .int .i64 1, .int .i64 2] 47))
 have HT := Lib.hid hT
 have h00' := h00
 have HC := Lib.hid (by
  have := cclose_any 3 (some ⟨w.heap.size, 0, none⟩) 2 2 [(0, 1), (1, 2)] _ (by rw [World.size_alloc]; exact row_lit w 47 #[.int .i64 0, .int .i64 1, .int .i64 1, .int .i64 2]) rfl (by omega) (hT.only h00 HO1.out (by simp)) (by simp)
  rw [ex_close] at this
  exact this)
 clear hT
 go_enter Tryd.func11, Tryd.ntmps11
 go_wp2_with fail
 refine (HC.out).mono ?_
 rintro e w1 ⟨A1, c1, ⟨rfl, hv⟩, O1⟩
 have HV := Lib.hid hv
 have HO2 := Lib.hid (HO1.out.trans O1)
 clear hv O1 HC
 have HTH := Lib.hid (by
  have := cthin_any 3 A1 3 c1 [(0, 1), (0, 2), (1, 2)] w1 (row_of_own HV.out) rfl (by omega) (HT.out.only h00' HO2.out (by simp)) (Nat.lt_of_lt_of_le h00' HO2.out.size)
  rw [ex_thin] at this
  exact this)
 clear HV
 go_wp2_with fail
 refine (HTH.out).mono ?_
 rintro e w2 ⟨A2, c2, ⟨rfl, hv⟩, O2⟩
 have HO3 := Lib.hid (HO2.out.trans O2)
 clear hv O2 HTH
 go_wp2
 go_ret
 exact ⟨rfl, HO3.out⟩
end Go.Proofs.YtlipapclbemjjaaDoor
