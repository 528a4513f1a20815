/- Two cells: are they the same, and which one is ahead; cells of what they hold; the example. -/
import Derived.Test.YtclikdibpeiamaaCellB
set_option linter.unusedVariables false
set_option linter.unusedSimpArgs false
namespace Go.Proofs.Ytclikdibpeiamaa
open Go.RowKit

/-- A block of two numbers, kept. -/
theorem made2 (w : World) (t : TypeId) (a b : Int) : Blk (w.alloc (.cells #[.int .i64 a, .int .i64 b] t)) w.heap.size t #[.int .i64 a, .int .i64 b] := Blk.made _ _ _

theorem ret_bool' {a b : Bool} (h : a = b) : Ending.returned (.bool a) = .returned (.bool b) := by rw [h]

def sameB (x x' k m k' m' : Int) : Bool := decide (x = 0) && decide (x' = 0) && decide (k = k' ∧ m = m')

theorem bKN_bd (t n : Int) : 0 ≤ bK t ∧ bK t ≤ 2 ∧ (bK t ≠ 1 → bN t n = 0) := by
  unfold bK bN
  by_cases h1 : t = 1
  · simp [h1]
  · by_cases h2 : t = 2 <;> simp [h1, h2]

theorem quiet_left {P : Program} {f : FuncId} {args : Array Value} {w : World} {n : Nat} {v : Value}
    (h : Calls P f args (w.drewN n) fun e w' => e = .returned v ∧ w.drewN n = w') : Calls P f args (w.drewN n) fun e w'' => e = .returned v ∧ ∃ m, w'' = w.drewN m :=
  h.mono fun _ _ ⟨he, hm⟩ => ⟨he, n, hm.symm⟩

set_option maxHeartbeats 800000 in
theorem Same_any (t n t' n' : Int) (w : World) : Calls Try.prog 18 #[.agg #[ifc t n], .agg #[ifc t' n']] w fun e w' => e = .returned (.bool (sameB (bE t) (bE t') (bK t) (bN t n) (bK t') (bN t' n'))) ∧ Only [] w w' := by
  have hc := fun w => Back_any t n w
  have hd := fun w => Back_any t' n' w
  generalize ifc t n = v at *
  generalize bK t = k at *
  generalize bN t n = m at *
  generalize bE t = x at *
  generalize ifc t' n' = v' at *
  generalize bK t' = k' at *
  generalize bN t' n' = m' at *
  generalize bE t' = x' at *
  have HC := Lib.hid hc
  have HD := Lib.hid hd
  clear hc hd
  have hs : Hid (sameB x x' k m k' m' = (decide (x = 0) && decide (x' = 0) && decide (k = k' ∧ m = m'))) := rfl
  go_enter Try.func18, Try.ntmps18
  go_wp2_with fail
  refine (HC.out _).mono ?_
  rintro e w1 ⟨rfl, O1⟩
  have b1 : Blk w1 (w.heap.size + 1) 30 #[v'] := by
    refine O1.blk ?_ (by simp)
    have := Blk.made (w.alloc (.cells #[v] 30)) 30 #[v']
    simpa using this
  have c1 := b1.at_ 0
  have l1 := b1.lt
  have HO := Lib.hid (((Only.refl [] w).alloc (.cells #[v] 30)).alloc (.cells #[v'] 30) |>.trans O1)
  simp at c1
  clear b1 O1
  go_wp2_with fail
  refine (HD.out _).mono ?_
  rintro e w2 ⟨rfl, O2⟩
  have b2 : Blk w2 w1.heap.size 25 #[.int .i64 k, .int .i64 m] := O2.blk (made2 _ _ _ _) (by simp)
  have HP := Lib.hid (((HO.out.alloc (.cells #[.int .i64 k, .int .i64 m] 25))).trans O2)
  have l2 := b2.lt
  have c20 := b2.at_ 0
  have c21 := b2.at_ 1
  simp at c20 c21
  clear b2 O2 c1
  by_cases hx : x = 0
  · have hx' : (x == 0) = true := by simp [hx]
    by_cases hy : x' = 0
    · have hy' : (x' == 0) = true := by simp [hy]
      clear hx hy
      go_wp2
      all_goals
        go_ret
        refine ⟨ret_bool' ?_, HP.out.alloc _⟩
        rw [hs.out]
        simp_all
    · have hy' : (x' == 0) = false := by simp [hy]
      clear hx hy
      go_wp2
      go_ret
      refine ⟨ret_bool' ?_, HP.out.alloc _⟩
      rw [hs.out]; simp; intro _ h; simp [h] at hy'
  · have hx' : (x == 0) = false := by simp [hx]
    clear hx
    go_wp2
    go_ret
    refine ⟨ret_bool' ?_, HP.out.alloc _⟩
    rw [hs.out]; simp; intro h; simp [h] at hx'

set_option maxHeartbeats 800000 in
theorem Less_any (t n t' n' : Int) (w : World) : Calls Try.prog 19 #[.agg #[ifc t n], .agg #[ifc t' n']] w fun e w' => e = .returned (.bool (decide (bE t = 0) && decide (bE t' = 0) && lessB (bK t) (bN t n) (bK t') (bN t' n'))) ∧ Only [] w w' := by
  have hc := fun w => Back_any t n w
  have hd := fun w => Back_any t' n' w
  obtain ⟨hk1, hk2, hm⟩ : 0 ≤ bK t ∧ bK t ≤ 2 ∧ (bK t ≠ 1 → bN t n = 0) := bKN_bd _ _
  obtain ⟨hk1', hk2', hm'⟩ : 0 ≤ bK t' ∧ bK t' ≤ 2 ∧ (bK t' ≠ 1 → bN t' n' = 0) := bKN_bd _ _
  have HM := Lib.hid hm
  have HM' := Lib.hid hm'
  clear hm hm'
  generalize ifc t n = v at *
  generalize bK t = k at *
  generalize bN t n = m at *
  generalize bE t = x at *
  generalize ifc t' n' = v' at *
  generalize bK t' = k' at *
  generalize bN t' n' = m' at *
  generalize bE t' = x' at *
  have HC := Lib.hid hc
  have HD := Lib.hid hd
  clear hc hd
  go_enter Try.func19, Try.ntmps19
  go_wp2_with fail
  refine (HC.out _).mono ?_
  rintro e w1 ⟨rfl, O1⟩
  have b1 : Blk w1 (w.heap.size + 1) 30 #[v'] := by
    refine O1.blk ?_ (by simp)
    have := Blk.made (w.alloc (.cells #[v] 30)) 30 #[v']
    simpa using this
  have c1 := b1.at_ 0
  have l1 := b1.lt
  have HO := Lib.hid (((Only.refl [] w).alloc (.cells #[v] 30)).alloc (.cells #[v'] 30) |>.trans O1)
  simp at c1
  clear b1 O1
  go_wp2_with fail
  refine (HD.out _).mono ?_
  rintro e w2 ⟨rfl, O2⟩
  have b2 : Blk w2 w1.heap.size 25 #[.int .i64 k, .int .i64 m] := O2.blk (made2 _ _ _ _) (by simp)
  have HP := Lib.hid (((HO.out.alloc (.cells #[.int .i64 k, .int .i64 m] 25))).trans O2)
  have l2 := b2.lt
  have c20 := b2.at_ 0
  have c21 := b2.at_ 1
  simp at c20 c21
  clear b2 O2 c1
  have hr1 := fun w => rank_any k w hk1 hk2
  have hr2 := fun w => rank_any k' w hk1' hk2'
  have HR1 := Lib.hid hr1
  have HR2 := Lib.hid hr2
  clear hr1 hr2
  by_cases hx : x = 0
  · have hx' : (x != 0) = false := by simp [hx]
    have HX := Lib.hid hx
    by_cases hy : x' = 0
    · have hy' : (x' != 0) = false := by simp [hy]
      have HY := Lib.hid hy
      clear hx hy
      by_cases hk : k = k'
      · subst hk
        go_wp2
        go_ret
        refine ⟨ret_bool' ?_, HP.out.alloc _⟩
        rw [HX.out, HY.out]
        unfold lessB
        by_cases h1 : k = 1
        · simp [h1]
        · simp [h1, HM.out h1, HM'.out h1]
      · have hk' : (k != k') = true := by simp [hk]
        have HK := Lib.hid hk
        clear hk
        go_wp2_with fail
        go_quiet (first | (go_at_call_of 33 (Value.int .i64 k); exact quiet_left (HR1.out _)) | (go_at_call 33; exact quiet_left (HR2.out _)))
        go_wp2
        go_ret
        refine ⟨ret_bool' ?_, (HP.out.alloc _).drewN _⟩
        rw [HX.out, HY.out]
        unfold lessB
        rw [if_neg HK.out]
        simp
    · have hy' : (x' != 0) = true := by simp [hy]
      have HY := Lib.hid hy
      clear hx hy
      go_wp2
      go_ret
      refine ⟨ret_bool' ?_, HP.out.alloc _⟩
      simp [HX.out, HY.out]
  · have hx' : (x != 0) = true := by simp [hx]
    have HX := Lib.hid hx
    clear hx
    go_wp2
    go_ret
    refine ⟨ret_bool' ?_, HP.out.alloc _⟩
    simp [HX.out]

end Go.Proofs.Ytclikdibpeiamaa
