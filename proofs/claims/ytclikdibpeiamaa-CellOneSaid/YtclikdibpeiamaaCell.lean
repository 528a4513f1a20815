/- Contracts of the package cell: what a cell holds, whose it is, and which one of two is ahead. -/
import Derived.Test.YtclikdibpeiamaaBase
set_option linter.unusedVariables false
set_option linter.unusedSimpArgs false
namespace Go.Proofs.Ytclikdibpeiamaa
open Go.RowKit

/-- What a cell holds: 0 nil, 1 an int64, 2 a Lost, 3 an int, others a text. -/
def ifc (t n : Int) : Value :=
  if t = 0 then .nilIface else if t = 1 then .iface 2 (.int .i64 n) else if t = 2 then .iface 56 (.agg #[]) else if t = 3 then .iface 3 (.int .i64 n) else .iface 9 (.string ⟨#[120]⟩)
def bK (t : Int) : Int := if t = 1 then 1 else if t = 2 then 2 else 0
def bN (t n : Int) : Int := if t = 1 then n else 0
def bE (t : Int) : Int := if t = 0 ∨ t = 1 ∨ t = 2 then 0 else 15

theorem ta_i (n : Int) (w : World) : (Instr.typeAssert (.iface 2 (.int .i64 n)) 20 2 true).run Try.prog w = .ok (.tuple #[.int .i64 n, .bool true]) w := by kernel_rfl
theorem ta_il (v : Value) (w : World) : (Instr.typeAssert (.iface 56 v) 20 2 true).run Try.prog w = .ok (.tuple #[.int .i64 0, .bool false]) w := by kernel_rfl
theorem ta_ii (v : Value) (w : World) : (Instr.typeAssert (.iface 3 v) 20 2 true).run Try.prog w = .ok (.tuple #[.int .i64 0, .bool false]) w := by kernel_rfl
theorem ta_is (v : Value) (w : World) : (Instr.typeAssert (.iface 9 v) 20 2 true).run Try.prog w = .ok (.tuple #[.int .i64 0, .bool false]) w := by kernel_rfl
theorem ta_in (w : World) : (Instr.typeAssert .nilIface 20 2 true).run Try.prog w = .ok (.tuple #[.int .i64 0, .bool false]) w := by kernel_rfl
theorem ta_ll (w : World) : (Instr.typeAssert (.iface 56 (.agg #[])) 20 56 true).run Try.prog w = .ok (.tuple #[.agg #[], .bool true]) w := by kernel_rfl
theorem ta_li (v : Value) (w : World) : (Instr.typeAssert (.iface 3 v) 20 56 true).run Try.prog w = .ok (.tuple #[.agg #[], .bool false]) w := by kernel_rfl
theorem ta_ls (v : Value) (w : World) : (Instr.typeAssert (.iface 9 v) 20 56 true).run Try.prog w = .ok (.tuple #[.agg #[], .bool false]) w := by kernel_rfl
theorem ta_ni (n : Int) (w : World) : (Instr.typeAssert (.iface 3 (.int .i64 n)) 20 3 true).run Try.prog w = .ok (.tuple #[.int .i64 n, .bool true]) w := by kernel_rfl
theorem ta_nl (v : Value) (w : World) : (Instr.typeAssert (.iface 56 v) 20 3 true).run Try.prog w = .ok (.tuple #[.int .i64 0, .bool false]) w := by kernel_rfl
theorem ta_ns (v : Value) (w : World) : (Instr.typeAssert (.iface 9 v) 20 3 true).run Try.prog w = .ok (.tuple #[.int .i64 0, .bool false]) w := by kernel_rfl
theorem ta_nn (w : World) : (Instr.typeAssert .nilIface 20 3 true).run Try.prog w = .ok (.tuple #[.int .i64 0, .bool false]) w := by kernel_rfl
theorem ta_must (n : Int) (w : World) : (Instr.typeAssert (.iface 2 (.int .i64 n)) 20 2 false).run Try.prog w = .ok (.int .i64 n) w := by kernel_rfl

set_option maxHeartbeats 400000 in
theorem back_0 (w : World) : Calls Try.prog 28 #[.nilIface] w fun e w' => e = .returned (.tuple #[.agg #[.int .i64 0, .int .i64 0], .int .i64 0]) ∧ Only [] w w' := by
  go_enter Try.func28, Try.ntmps28
  go_wp2
  exact bodyPost_ret (v := .tuple #[.agg #[.int .i64 0, .int .i64 0], .int .i64 0]) (by simp [results, Try.results28, go_sem]) rfl ⟨rfl, (Only.refl _ _).alloc _⟩

set_option maxHeartbeats 400000 in
theorem back_1 (n : Int) (w : World) : Calls Try.prog 28 #[.iface 2 (.int .i64 n)] w fun e w' => e = .returned (.tuple #[.agg #[.int .i64 1, .int .i64 n], .int .i64 0]) ∧ Only [] w w' := by
  have h1 := ta_i n
  go_enter Try.func28, Try.ntmps28
  go_wp2
  exact bodyPost_ret (v := .tuple #[.agg #[.int .i64 1, .int .i64 n], .int .i64 0]) (by simp [results, Try.results28, go_sem]) rfl ⟨rfl, (Only.refl _ _).alloc _⟩

set_option maxHeartbeats 400000 in
theorem back_2 (w : World) : Calls Try.prog 28 #[.iface 56 (.agg #[])] w fun e w' => e = .returned (.tuple #[.agg #[.int .i64 2, .int .i64 0], .int .i64 0]) ∧ Only [] w w' := by
  have h1 := ta_il (.agg #[])
  have h2 := ta_ll
  go_enter Try.func28, Try.ntmps28
  go_wp2
  exact bodyPost_ret (v := .tuple #[.agg #[.int .i64 2, .int .i64 0], .int .i64 0]) (by simp [results, Try.results28, go_sem]) rfl ⟨rfl, ((Only.refl _ _).alloc _).alloc _⟩

set_option maxHeartbeats 400000 in
theorem back_3 (n : Int) (w : World) : Calls Try.prog 28 #[.iface 3 (.int .i64 n)] w fun e w' => e = .returned (.tuple #[.agg #[.int .i64 0, .int .i64 0], .int .i64 15]) ∧ Only [] w w' := by
  have h1 := ta_ii (.int .i64 n)
  have h2 := ta_li (.int .i64 n)
  go_enter Try.func28, Try.ntmps28
  go_wp2
  exact bodyPost_ret (v := .tuple #[.agg #[.int .i64 0, .int .i64 0], .int .i64 15]) (by simp [results, Try.results28, go_sem]) rfl ⟨rfl, (Only.refl _ _).alloc _⟩

set_option maxHeartbeats 400000 in
theorem back_4 (s : ByteArray) (w : World) : Calls Try.prog 28 #[.iface 9 (.string s)] w fun e w' => e = .returned (.tuple #[.agg #[.int .i64 0, .int .i64 0], .int .i64 15]) ∧ Only [] w w' := by
  have h1 := ta_is (.string s)
  have h2 := ta_ls (.string s)
  go_enter Try.func28, Try.ntmps28
  go_wp2
  exact bodyPost_ret (v := .tuple #[.agg #[.int .i64 0, .int .i64 0], .int .i64 15]) (by simp [results, Try.results28, go_sem]) rfl ⟨rfl, (Only.refl _ _).alloc _⟩

theorem back_any (t n : Int) (w : World) : Calls Try.prog 28 #[ifc t n] w fun e w' => e = .returned (.tuple #[.agg #[.int .i64 (bK t), .int .i64 (bN t n)], .int .i64 (bE t)]) ∧ Only [] w w' := by
  unfold ifc bK bN bE
  by_cases h0 : t = 0
  · subst h0; exact back_0 w
  · by_cases h1 : t = 1
    · subst h1; exact back_1 n w
    · by_cases h2 : t = 2
      · subst h2; exact back_2 w
      · by_cases h3 : t = 3
        · subst h3; exact back_3 n w
        · simp only [h0, h1, h2, h3, if_false, or_false]; exact back_4 _ w

def nN (t n : Int) : Int := if t = 1 ∨ t = 3 then n else 0
def nE (t : Int) : Int := if t = 1 ∨ t = 3 then 0 else 15

set_option maxHeartbeats 400000 in
theorem number_any (t n : Int) (w : World) : Calls Try.prog 31 #[ifc t n] w fun e w' => e = .returned (.tuple #[.int .i64 (nN t n), .int .i64 (nE t)]) ∧ w = w' := by
  unfold ifc nN nE
  by_cases h0 : t = 0
  · subst h0
    have h1 := ta_in
    have h2 := ta_nn
    go_enter Try.func31, Try.ntmps31
    go_wp2
    go_ret2
    exact ⟨rfl, rfl⟩
  · by_cases h1 : t = 1
    · subst h1
      have h1 := ta_i n
      clear h0
      go_enter Try.func31, Try.ntmps31
      go_wp2
      go_ret2
      exact ⟨rfl, rfl⟩
    · by_cases h2 : t = 2
      · subst h2
        clear h0 h1
        have h1 := ta_il (.agg #[])
        have h2 := ta_nl (.agg #[])
        go_enter Try.func31, Try.ntmps31
        go_wp2
        go_ret2
        exact ⟨rfl, rfl⟩
      · by_cases h3 : t = 3
        · subst h3
          clear h0 h1 h2
          have h1 := ta_ii (.int .i64 n)
          have h2 := ta_ni n
          go_enter Try.func31, Try.ntmps31
          go_wp2
          go_ret2
          exact ⟨rfl, rfl⟩
        · simp only [h0, h1, h2, h3, if_false, or_false]
          clear h0 h1 h2 h3
          have h1 := ta_is (.string ⟨#[120]⟩)
          have h2 := ta_ns (.string ⟨#[120]⟩)
          go_enter Try.func31, Try.ntmps31
          go_wp2
          go_ret2
          exact ⟨rfl, rfl⟩

set_option maxHeartbeats 400000 in
theorem must_any (n : Int) (w : World) : Calls Try.prog 32 #[.iface 2 (.int .i64 n)] w fun e w' => e = .returned (.int .i64 n) ∧ w = w' := by
  have h1 := ta_must n
  go_enter Try.func32, Try.ntmps32
  go_wp2
  go_ret
  exact ⟨rfl, rfl⟩

set_option maxHeartbeats 400000 in
theorem Back_any (t n : Int) (w : World) : Calls Try.prog 9 #[.agg #[ifc t n]] w fun e w' => e = .returned (.tuple #[.agg #[.int .i64 (bK t), .int .i64 (bN t n)], .int .i64 (bE t)]) ∧ Only [] w w' := by
  have hc := fun w => back_any t n w
  generalize ifc t n = v at *
  generalize bK t = k at *
  generalize bN t n = m at *
  generalize bE t = x at *
  have HC := Lib.hid hc
  clear hc
  go_enter Try.func9, Try.ntmps9
  go_wp2_with fail
  refine (HC.out _).mono ?_
  rintro e w1 ⟨rfl, O1⟩
  have hb : Blk w1 (w.heap.size + 1) 25 #[.int .i64 0, .int .i64 0] := by
    refine O1.blk ?_ (by simp)
    have := Blk.made (w.alloc (.cells #[v] 30)) 25 #[.int .i64 0, .int .i64 0]
    simpa using this
  have hlt := hb.lt
  have c0 := hb.at_ 0
  have c1 := hb.at_ 1
  have f0 := hb.free 0
  have f1 := hb.free 1
  have HO := Lib.hid O1
  simp at c0 c1
  clear hb O1
  go_wp2
  exact bodyPost_ret (v := .tuple #[.agg #[.int .i64 k, .int .i64 m], .int .i64 x]) (by simp [results, Try.results9, go_sem, c0, c1]) rfl ⟨rfl, ((((Only.refl _ _).alloc _).alloc _).trans HO.out).put (by simp) _ |>.put (by simp) _⟩

end Go.Proofs.Ytclikdibpeiamaa
