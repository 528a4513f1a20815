/- cell.Back, Of, Less, and value.May, Less, compare: the world to the draw. -/
import Derived.Test.YtclikdibpeiamabEx
set_option linter.unusedVariables false
set_option linter.unusedSimpArgs false
namespace Go.Proofs.Ytclikdibpeiamab
open Go.RowKit


def ifc (t n : Int) : Value :=
  if t = 0 then .nilIface else if t = 1 then .iface 2 (.int .i64 n) else if t = 2 then .iface 52 (.agg #[]) else if t = 3 then .iface 3 (.int .i64 n) else .iface 9 (.string ⟨#[120]⟩)

def bK (t : Int) : Int := if t = 1 then 1 else if t = 2 then 2 else 0

def bN (t n : Int) : Int := if t = 1 then n else 0

def bE (t : Int) : Int := if t = 0 ∨ t = 1 ∨ t = 2 then 0 else 15

theorem ta_i (n : Int) (w : World) : (Instr.typeAssert (.iface 2 (.int .i64 n)) 20 2 true).run Try.prog w = .ok (.tuple #[.int .i64 n, .bool true]) w := by kernel_rfl

theorem ta_il (v : Value) (w : World) : (Instr.typeAssert (.iface 52 v) 20 2 true).run Try.prog w = .ok (.tuple #[.int .i64 0, .bool false]) w := by kernel_rfl

theorem ta_ii (v : Value) (w : World) : (Instr.typeAssert (.iface 3 v) 20 2 true).run Try.prog w = .ok (.tuple #[.int .i64 0, .bool false]) w := by kernel_rfl

theorem ta_is (v : Value) (w : World) : (Instr.typeAssert (.iface 9 v) 20 2 true).run Try.prog w = .ok (.tuple #[.int .i64 0, .bool false]) w := by kernel_rfl

theorem ta_ll (w : World) : (Instr.typeAssert (.iface 52 (.agg #[])) 20 52 true).run Try.prog w = .ok (.tuple #[.agg #[], .bool true]) w := by kernel_rfl

theorem ta_li (v : Value) (w : World) : (Instr.typeAssert (.iface 3 v) 20 52 true).run Try.prog w = .ok (.tuple #[.agg #[], .bool false]) w := by kernel_rfl

theorem ta_ls (v : Value) (w : World) : (Instr.typeAssert (.iface 9 v) 20 52 true).run Try.prog w = .ok (.tuple #[.agg #[], .bool false]) w := by kernel_rfl

set_option maxHeartbeats 400000 in
theorem back_0 (w : World) : Calls Try.prog 39 #[.nilIface] w fun e w' => e = .returned (.tuple #[.agg #[.int .i64 0, .int .i64 0], .int .i64 0]) ∧ Ex w w' := by
  go_enter Try.func39, Try.ntmps39
  go_wp2
  exact bodyPost_ret (v := .tuple #[.agg #[.int .i64 0, .int .i64 0], .int .i64 0]) (by simp [results, Try.results39, go_sem]) rfl ⟨rfl, (Ex.refl _).alloc _⟩

set_option maxHeartbeats 400000 in
theorem back_1 (n : Int) (w : World) : Calls Try.prog 39 #[.iface 2 (.int .i64 n)] w fun e w' => e = .returned (.tuple #[.agg #[.int .i64 1, .int .i64 n], .int .i64 0]) ∧ Ex w w' := by
  have h1 := ta_i n
  go_enter Try.func39, Try.ntmps39
  go_wp2
  exact bodyPost_ret (v := .tuple #[.agg #[.int .i64 1, .int .i64 n], .int .i64 0]) (by simp [results, Try.results39, go_sem]) rfl ⟨rfl, (Ex.refl _).alloc _⟩

set_option maxHeartbeats 400000 in
theorem back_2 (w : World) : Calls Try.prog 39 #[.iface 52 (.agg #[])] w fun e w' => e = .returned (.tuple #[.agg #[.int .i64 2, .int .i64 0], .int .i64 0]) ∧ Ex w w' := by
  have h1 := ta_il (.agg #[])
  have h2 := ta_ll
  go_enter Try.func39, Try.ntmps39
  go_wp2
  exact bodyPost_ret (v := .tuple #[.agg #[.int .i64 2, .int .i64 0], .int .i64 0]) (by simp [results, Try.results39, go_sem]) rfl ⟨rfl, ((Ex.refl _).alloc _).alloc _⟩

set_option maxHeartbeats 400000 in
theorem back_3 (n : Int) (w : World) : Calls Try.prog 39 #[.iface 3 (.int .i64 n)] w fun e w' => e = .returned (.tuple #[.agg #[.int .i64 0, .int .i64 0], .int .i64 15]) ∧ Ex w w' := by
  have h1 := ta_ii (.int .i64 n)
  have h2 := ta_li (.int .i64 n)
  go_enter Try.func39, Try.ntmps39
  go_wp2
  exact bodyPost_ret (v := .tuple #[.agg #[.int .i64 0, .int .i64 0], .int .i64 15]) (by simp [results, Try.results39, go_sem]) rfl ⟨rfl, (Ex.refl _).alloc _⟩

set_option maxHeartbeats 400000 in
theorem back_4 (s : ByteArray) (w : World) : Calls Try.prog 39 #[.iface 9 (.string s)] w fun e w' => e = .returned (.tuple #[.agg #[.int .i64 0, .int .i64 0], .int .i64 15]) ∧ Ex w w' := by
  have h1 := ta_is (.string s)
  have h2 := ta_ls (.string s)
  go_enter Try.func39, Try.ntmps39
  go_wp2
  exact bodyPost_ret (v := .tuple #[.agg #[.int .i64 0, .int .i64 0], .int .i64 15]) (by simp [results, Try.results39, go_sem]) rfl ⟨rfl, (Ex.refl _).alloc _⟩

theorem back_any (t n : Int) (w : World) : Calls Try.prog 39 #[ifc t n] w fun e w' => e = .returned (.tuple #[.agg #[.int .i64 (bK t), .int .i64 (bN t n)], .int .i64 (bE t)]) ∧ Ex w w' := by
  unfold ifc bK bN bE
  by_cases h0 : t = 0
  · subst h0; exact back_0 w
  · by_cases h1 : t = 1
    · subst h1; exact back_1 n w
    · by_cases h2 : t = 2
      · subst h2; exact back_2 w
      · by_cases h3 : t = 3
        · subst h3; exact back_3 n w
        · simp only [h0, h1, h2, h3, if_false, or_false]; exact back_4 _ w

set_option maxHeartbeats 400000 in
theorem Back_any (t n : Int) (w : World) : Calls Try.prog 25 #[.agg #[ifc t n]] w fun e w' => e = .returned (.tuple #[.agg #[.int .i64 (bK t), .int .i64 (bN t n)], .int .i64 (bE t)]) ∧ Ex w w' := by
  have hc := fun w => back_any t n w
  generalize ifc t n = v at *
  generalize bK t = k at *
  generalize bN t n = m at *
  generalize bE t = x at *
  have HC := Lib.hid hc
  clear hc
  go_enter Try.func25, Try.ntmps25
  go_wp2_with fail
  refine (HC.out _).mono ?_
  rintro e w1 ⟨rfl, O1⟩
  have hb : Blk w1 (w.heap.size + 1) 24 #[.int .i64 0, .int .i64 0] := by
    refine O1.blk ?_ (by simp)
    have := Blk.made (w.alloc (.cells #[v] 41)) 24 #[.int .i64 0, .int .i64 0]
    simpa using this
  have hlt := hb.lt
  have c0 := hb.at_ 0
  have c1 := hb.at_ 1
  have f0 := hb.free 0
  have f1 := hb.free 1
  have HO := Lib.hid O1
  simp at c0 c1
  clear hb O1
  go_wp2
  exact bodyPost_ret (v := .tuple #[.agg #[.int .i64 k, .int .i64 m], .int .i64 x]) (by simp [results, Try.results25, go_sem, c0, c1]) rfl ⟨rfl, ((((Ex.refl _).alloc _).alloc _).trans HO.out).put (by simp) _ |>.put (by simp) _⟩

def oT (k : Int) : Int := if k = 1 then 1 else if k = 2 then 2 else 0

set_option maxHeartbeats 400000 in
theorem Of_any (k n : Int) (w : World) : Calls Try.prog 20 #[.agg #[.int .i64 k, .int .i64 n]] w fun e w' => e = .returned (.agg #[ifc (oT k) n]) ∧ Ex w w' := by
  unfold oT ifc
  by_cases h1 : k = 1
  · subst h1
    go_enter Try.func20, Try.ntmps20
    go_wp2
    exact bodyPost_ret (v := .agg #[.iface 2 (.int .i64 n)]) (by simp [results, Try.results20, go_sem]) rfl ⟨rfl, ((Ex.refl _).alloc _).alloc _⟩
  · by_cases h2 : k = 2
    · subst h2
      go_enter Try.func20, Try.ntmps20
      go_wp2
      exact bodyPost_ret (v := .agg #[.iface 52 (.agg #[])]) (by simp [results, Try.results20, go_sem]) rfl ⟨rfl, ((Ex.refl _).alloc _).alloc _⟩
    · simp only [h1, h2, if_false, if_true]
      have h1' : (k == 1) = false := by simp [h1]
      have h2' : (k == 2) = false := by simp [h2]
      clear h1 h2
      go_enter Try.func20, Try.ntmps20
      go_wp2
      exact bodyPost_ret (v := .agg #[.nilIface]) (by simp [results, Try.results20, go_sem]) rfl ⟨rfl, ((Ex.refl _).alloc _).alloc _⟩

set_option maxHeartbeats 400000 in
theorem rank_any (k : Int) (w : World) (h0 : 0 ≤ k) (h2 : k ≤ 2) : Calls Try.prog 26 #[.int .i64 k] w fun e w' => e = .returned (.int .i64 k) ∧ w = w' := by
  by_cases h : k = 0
  · subst h
    go_enter Try.func26, Try.ntmps26
    go_wp2
    go_ret
    exact ⟨rfl, rfl⟩
  · by_cases h1 : k = 1
    · subst h1
      go_enter Try.func26, Try.ntmps26
      go_wp2
      go_ret
      exact ⟨rfl, rfl⟩
    · obtain rfl : k = 2 := by omega
      go_enter Try.func26, Try.ntmps26
      go_wp2
      go_ret
      exact ⟨rfl, rfl⟩

def lessB (k m k' m' : Int) : Bool := if k = k' then decide (k = 1 ∧ m < m') else decide (k < k')

def cK (k : Int) : Int := if k = 1 then 1 else if k = 2 then 2 else 0

def cN (k n : Int) : Int := if k = 1 then n else 0

theorem made2 (w : World) (t : TypeId) (a b : Int) : Blk (w.alloc (.cells #[.int .i64 a, .int .i64 b] t)) w.heap.size t #[.int .i64 a, .int .i64 b] := Blk.made _ _ _

theorem ret_bool' {a b : Bool} (h : a = b) : Ending.returned (.bool a) = .returned (.bool b) := by rw [h]

theorem bKN_bd (t n : Int) : 0 ≤ bK t ∧ bK t ≤ 2 ∧ (bK t ≠ 1 → bN t n = 0) := by
  unfold bK bN
  by_cases h1 : t = 1
  · simp [h1]
  · by_cases h2 : t = 2 <;> simp [h1, h2]

theorem quiet_left {P : Program} {f : FuncId} {args : Array Value} {w : World} {n : Nat} {v : Value}
    (h : Calls P f args (w.drewN n) fun e w' => e = .returned v ∧ w.drewN n = w') : Calls P f args (w.drewN n) fun e w'' => e = .returned v ∧ ∃ m, w'' = w.drewN m :=
  h.mono fun _ _ ⟨he, hm⟩ => ⟨he, n, hm.symm⟩

set_option maxHeartbeats 800000 in
theorem Less_any (t n t' n' : Int) (w : World) : Calls Try.prog 19 #[.agg #[ifc t n], .agg #[ifc t' n']] w fun e w' => e = .returned (.bool (decide (bE t = 0) && decide (bE t' = 0) && lessB (bK t) (bN t n) (bK t') (bN t' n'))) ∧ Ex w w' := by
  have hc := fun w => Back_any t n w
  have hd := fun w => Back_any t' n' w
  obtain ⟨hk1, hk2, hm⟩ : 0 ≤ bK t ∧ bK t ≤ 2 ∧ (bK t ≠ 1 → bN t n = 0) := bKN_bd _ _
  obtain ⟨hk1', hk2', hm'⟩ : 0 ≤ bK t' ∧ bK t' ≤ 2 ∧ (bK t' ≠ 1 → bN t' n' = 0) := bKN_bd _ _
  have HM := Lib.hid hm
  have HM' := Lib.hid hm'
  clear hm hm'
  generalize ifc t n = v at *
  generalize bK t = k at *
  generalize bN t n = m at *
  generalize bE t = x at *
  generalize ifc t' n' = v' at *
  generalize bK t' = k' at *
  generalize bN t' n' = m' at *
  generalize bE t' = x' at *
  have HC := Lib.hid hc
  have HD := Lib.hid hd
  clear hc hd
  go_enter Try.func19, Try.ntmps19
  go_wp2_with fail
  refine (HC.out _).mono ?_
  rintro e w1 ⟨rfl, O1⟩
  have b1 : Blk w1 (w.heap.size + 1) 41 #[v'] := by
    refine O1.blk ?_ (by simp)
    have := Blk.made (w.alloc (.cells #[v] 41)) 41 #[v']
    simpa using this
  have c1 := b1.at_ 0
  have l1 := b1.lt
  have HO := Lib.hid (((Ex.refl w).alloc (.cells #[v] 41)).alloc (.cells #[v'] 41) |>.trans O1)
  simp at c1
  clear b1 O1
  go_wp2_with fail
  refine (HD.out _).mono ?_
  rintro e w2 ⟨rfl, O2⟩
  have b2 : Blk w2 w1.heap.size 24 #[.int .i64 k, .int .i64 m] := O2.blk (made2 _ _ _ _) (by simp)
  have HP := Lib.hid (((HO.out.alloc (.cells #[.int .i64 k, .int .i64 m] 24))).trans O2)
  have l2 := b2.lt
  have c20 := b2.at_ 0
  have c21 := b2.at_ 1
  simp at c20 c21
  clear b2 O2 c1
  have hr1 := fun w => rank_any k w hk1 hk2
  have hr2 := fun w => rank_any k' w hk1' hk2'
  have HR1 := Lib.hid hr1
  have HR2 := Lib.hid hr2
  clear hr1 hr2
  by_cases hx : x = 0
  · have hx' : (x != 0) = false := by simp [hx]
    have HX := Lib.hid hx
    by_cases hy : x' = 0
    · have hy' : (x' != 0) = false := by simp [hy]
      have HY := Lib.hid hy
      clear hx hy
      by_cases hk : k = k'
      · subst hk
        go_wp2
        go_ret
        refine ⟨ret_bool' ?_, HP.out.alloc _⟩
        rw [HX.out, HY.out]
        unfold lessB
        by_cases h1 : k = 1
        · simp [h1]
        · simp [h1, HM.out h1, HM'.out h1]
      · have hk' : (k != k') = true := by simp [hk]
        have HK := Lib.hid hk
        clear hk
        go_wp2_with fail
        go_quiet (first | (go_at_call_of 26 (Value.int .i64 k); exact quiet_left (HR1.out _)) | (go_at_call 26; exact quiet_left (HR2.out _)))
        go_wp2
        go_ret
        refine ⟨ret_bool' ?_, (HP.out.alloc _).drewN _⟩
        rw [HX.out, HY.out]
        unfold lessB
        rw [if_neg HK.out]
        simp
    · have hy' : (x' != 0) = true := by simp [hy]
      have HY := Lib.hid hy
      clear hx hy
      go_wp2
      go_ret
      refine ⟨ret_bool' ?_, HP.out.alloc _⟩
      simp [HX.out, HY.out]
  · have hx' : (x != 0) = true := by simp [hx]
    have HX := Lib.hid hx
    clear hx
    go_wp2
    go_ret
    refine ⟨ret_bool' ?_, HP.out.alloc _⟩
    simp [HX.out]

theorem of_words (k n : Int) : bK (oT k) = cK k ∧ bN (oT k) n = cN k n ∧ bE (oT k) = 0 := by
  unfold oT bK cK bN cN bE
  by_cases h1 : k = 1
  · simp [h1]
  · by_cases h2 : k = 2 <;> simp [h1, h2]

def mayB (k n : Int) : Bool := decide (k = 1) || (decide (k = 0 ∨ k = 2) && decide (n = 0))

theorem ret_boolv {a b : Bool} (h : a = b) : Ending.returned (.bool a) = .returned (.bool b) := by rw [h]

set_option maxHeartbeats 400000 in
theorem may_any (k n : Int) (w : World) : Calls Try.prog 12 #[.agg #[.int .i64 k, .int .i64 n]] w fun e w' => e = .returned (.bool (mayB k n)) ∧ Ex w w' := by
  unfold mayB
  by_cases h1 : k = 1
  · subst h1
    go_enter Try.func12, Try.ntmps12
    go_wp2
    go_ret
    exact ⟨by simp, (Ex.refl _).alloc _⟩
  · have h1' : (k == 1) = false := by simp [h1]
    have H1 := Lib.hid h1
    clear h1
    by_cases h0 : k = 0
    · subst h0
      go_enter Try.func12, Try.ntmps12
      go_wp2
      go_ret
      exact ⟨ret_boolv (by simp; try (rw [Bool.eq_iff_iff]; simp)), (Ex.refl _).alloc _⟩
    · have h0' : (k == 0) = false := by simp [h0]
      have H0 := Lib.hid h0
      clear h0
      by_cases h2 : k = 2
      · subst h2
        go_enter Try.func12, Try.ntmps12
        go_wp2
        go_ret
        exact ⟨ret_boolv (by simp; try (rw [Bool.eq_iff_iff]; simp)), (Ex.refl _).alloc _⟩
      · have h2' : (k == 2) = false := by simp [h2]
        have H2 := Lib.hid h2
        clear h2
        go_enter Try.func12, Try.ntmps12
        go_wp2
        go_ret
        exact ⟨ret_boolv (by simp [H0.out, H1.out, H2.out]), (Ex.refl _).alloc _⟩

end Go.Proofs.Ytclikdibpeiamab
