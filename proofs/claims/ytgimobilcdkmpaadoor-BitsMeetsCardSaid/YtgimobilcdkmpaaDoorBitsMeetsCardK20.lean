/- Sets of numbers: Join, Meets. -/
import Derived.Test.YtgimobilcdkmpaaDoorBitsMeetsCardK16
import Derived.Test.YtgimobilcdkmpaaDoorBitsMeetsCardK18
import Derived.Test.YtgimobilcdkmpaaDoorBitsMeetsCardK19
import Derived.Deep.CutBlock
import Derived.Deep.DeepCutAuto
import Derived.Laws.StructEq
set_option linter.unusedVariables false
set_option linter.unusedSimpArgs false
namespace Go.Proofs.YtgimobilcdkmpaaDoor
open Go.RowKit
attribute [local go_sem ↓] Go.wp_at_zero Go.wp_at_succ
def neqW (l k : List Nat) : Bool := !decide (l = k)
set_option maxHeartbeats 4000000 in
theorem run_neq_w8 (a0 a1 a2 a3 a4 a5 a6 a7 b0 b1 b2 b3 b4 b5 b6 b7 : Nat) (w : World) :
  (binOp .neq 51 (.agg #[.int .u64 a0, .int .u64 a1, .int .u64 a2, .int .u64 a3, .int .u64 a4, .int .u64 a5, .int .u64 a6, .int .u64 a7]) (.agg #[.int .u64 b0, .int .u64 b1, .int .u64 b2, .int .u64 b3, .int .u64 b4, .int .u64 b5, .int .u64 b6, .int .u64 b7])).run Tryd.prog w =
   .ok (.bool (neqW [a0, a1, a2, a3, a4, a5, a6, a7] [b0, b1, b2, b3, b4, b5, b6, b7])) w := by
 unfold neqW
 have key : (Op.equalIn 10000 51 (.agg #[.int .u64 a0, .int .u64 a1, .int .u64 a2, .int .u64 a3, .int .u64 a4, .int .u64 a5, .int .u64 a6, .int .u64 a7]) (.agg #[.int .u64 b0, .int .u64 b1, .int .u64 b2, .int .u64 b3, .int .u64 b4, .int .u64 b5, .int .u64 b6, .int .u64 b7])).run Tryd.prog w = .ok (decide (([a0, a1, a2, a3, a4, a5, a6, a7] : List Nat) = [b0, b1, b2, b3, b4, b5, b6, b7])) w := by
  have hn : (sizeOf 50).run Tryd.prog w = .ok 1 w := by kernel_rfl
  have he : ∀ (x y : Nat), (Op.equalIn 9999 50 (.int .u64 (x : Int)) (.int .u64 (y : Int))).run Tryd.prog w = .ok (decide (x = y)) w := fun x y => by
   rw [run_equalIn_int (P := Tryd.prog) w 9998 50 .u64 .u64 x y Tryd.underlying50]
   congr 1
   by_cases h : x = y
   ·subst h; simp
   ·have : ¬ (x : Int) = (y : Int) := by omega
    simp [h, this]
  have p0 : (part 50 #[.int .u64 a0, .int .u64 a1, .int .u64 a2, .int .u64 a3, .int .u64 a4, .int .u64 a5, .int .u64 a6, .int .u64 a7] 0).run Tryd.prog w = .ok (.int .u64 (a0 : Int)) w := by kernel_rfl
  have q0 : (part 50 #[.int .u64 b0, .int .u64 b1, .int .u64 b2, .int .u64 b3, .int .u64 b4, .int .u64 b5, .int .u64 b6, .int .u64 b7] 0).run Tryd.prog w = .ok (.int .u64 (b0 : Int)) w := by kernel_rfl
  have p1 : (part 50 #[.int .u64 a0, .int .u64 a1, .int .u64 a2, .int .u64 a3, .int .u64 a4, .int .u64 a5, .int .u64 a6, .int .u64 a7] 1).run Tryd.prog w = .ok (.int .u64 (a1 : Int)) w := by kernel_rfl
  have q1 : (part 50 #[.int .u64 b0, .int .u64 b1, .int .u64 b2, .int .u64 b3, .int .u64 b4, .int .u64 b5, .int .u64 b6, .int .u64 b7] 1).run Tryd.prog w = .ok (.int .u64 (b1 : Int)) w := by kernel_rfl
  have p2 : (part 50 #[.int .u64 a0, .int .u64 a1, .int .u64 a2, .int .u64 a3, .int .u64 a4, .int .u64 a5, .int .u64 a6, .int .u64 a7] 2).run Tryd.prog w = .ok (.int .u64 (a2 : Int)) w := by kernel_rfl
  have q2 : (part 50 #[.int .u64 b0, .int .u64 b1, .int .u64 b2, .int .u64 b3, .int .u64 b4, .int .u64 b5, .int .u64 b6, .int .u64 b7] 2).run Tryd.prog w = .ok (.int .u64 (b2 : Int)) w := by kernel_rfl
  have p3 : (part 50 #[.int .u64 a0, .int .u64 a1, .int .u64 a2, .int .u64 a3, .int .u64 a4, .int .u64 a5, .int .u64 a6, .int .u64 a7] 3).run Tryd.prog w = .ok (.int .u64 (a3 : Int)) w := by kernel_rfl
  have q3 : (part 50 #[.int .u64 b0, .int .u64 b1, .int .u64 b2, .int .u64 b3, .int .u64 b4, .int .u64 b5, .int .u64 b6, .int .u64 b7] 3).run Tryd.prog w = .ok (.int .u64 (b3 : Int)) w := by kernel_rfl
  have p4 : (part 50 #[.int .u64 a0, .int .u64 a1, .int .u64 a2, .int .u64 a3, .int .u64 a4, .int .u64 a5, .int .u64 a6, .int .u64 a7] 4).run Tryd.prog w = .ok (.int .u64 (a4 : Int)) w := by kernel_rfl
  have q4 : (part 50 #[.int .u64 b0, .int .u64 b1, .int .u64 b2, .int .u64 b3, .int .u64 b4, .int .u64 b5, .int .u64 b6, .int .u64 b7] 4).run Tryd.prog w = .ok (.int .u64 (b4 : Int)) w := by kernel_rfl
  have p5 : (part 50 #[.int .u64 a0, .int .u64 a1, .int .u64 a2, .int .u64 a3, .int .u64 a4, .int .u64 a5, .int .u64 a6, .int .u64 a7] 5).run Tryd.prog w = .ok (.int .u64 (a5 : Int)) w := by kernel_rfl
  have q5 : (part 50 #[.int .u64 b0, .int .u64 b1, .int .u64 b2, .int .u64 b3, .int .u64 b4, .int .u64 b5, .int .u64 b6, .int .u64 b7] 5).run Tryd.prog w = .ok (.int .u64 (b5 : Int)) w := by kernel_rfl
  have p6 : (part 50 #[.int .u64 a0, .int .u64 a1, .int .u64 a2, .int .u64 a3, .int .u64 a4, .int .u64 a5, .int .u64 a6, .int .u64 a7] 6).run Tryd.prog w = .ok (.int .u64 (a6 : Int)) w := by kernel_rfl
  have q6 : (part 50 #[.int .u64 b0, .int .u64 b1, .int .u64 b2, .int .u64 b3, .int .u64 b4, .int .u64 b5, .int .u64 b6, .int .u64 b7] 6).run Tryd.prog w = .ok (.int .u64 (b6 : Int)) w := by kernel_rfl
  have p7 : (part 50 #[.int .u64 a0, .int .u64 a1, .int .u64 a2, .int .u64 a3, .int .u64 a4, .int .u64 a5, .int .u64 a6, .int .u64 a7] 7).run Tryd.prog w = .ok (.int .u64 (a7 : Int)) w := by kernel_rfl
  have q7 : (part 50 #[.int .u64 b0, .int .u64 b1, .int .u64 b2, .int .u64 b3, .int .u64 b4, .int .u64 b5, .int .u64 b6, .int .u64 b7] 7).run Tryd.prog w = .ok (.int .u64 (b7 : Int)) w := by kernel_rfl
  rw [show (10000 : Nat) = 9999 + 1 from rfl]
  unfold Op.equalIn
  rw [Sem.run_bind, run_underlying Tryd.underlying51]
  simp only [Result.andThen_ok]
  rw [Sem.run_bind, hn]
  simp only [Result.andThen_ok]
  simp only [Std.Legacy.Range.forIn_eq_forIn_range', Std.Legacy.Range.size]
  simp only [show ((8 - 0 + 1 - 1) / 1 : Nat) = 8 from rfl, show List.range' 0 8 1 = [0, 1, 2, 3, 4, 5, 6, 7] from rfl, List.forIn_cons, List.forIn_nil, Sem.run_bind, p0, p1, p2, p3, p4, p5, p6, p7, q0, q1, q2, q3, q4, q5, q6, q7, he, Result.andThen_ok, Sem.run_ite, Sem.run_pure, Nat.mul_one]
  by_cases h0 : a0 = b0
  ·subst h0
   by_cases h1 : a1 = b1
   ·subst h1
    by_cases h2 : a2 = b2
    ·subst h2
     by_cases h3 : a3 = b3
     ·subst h3
      by_cases h4 : a4 = b4
      ·subst h4
       by_cases h5 : a5 = b5
       ·subst h5
        by_cases h6 : a6 = b6
        ·subst h6
         by_cases h7 : a7 = b7
         ·subst h7
          simp [he, Sem.run_bind, Sem.run_ite, p0, q0, p1, q1, p2, q2, p3, q3, p4, q4, p5, q5, p6, q6, p7, q7]
         ·simp [he, Sem.run_bind, Sem.run_ite, p0, q0, p1, q1, p2, q2, p3, q3, p4, q4, p5, q5, p6, q6, p7, q7, h7]
        ·simp [he, Sem.run_bind, Sem.run_ite, p0, q0, p1, q1, p2, q2, p3, q3, p4, q4, p5, q5, p6, q6, p7, q7, h6]
       ·simp [he, Sem.run_bind, Sem.run_ite, p0, q0, p1, q1, p2, q2, p3, q3, p4, q4, p5, q5, p6, q6, p7, q7, h5]
      ·simp [he, Sem.run_bind, Sem.run_ite, p0, q0, p1, q1, p2, q2, p3, q3, p4, q4, p5, q5, p6, q6, p7, q7, h4]
     ·simp [he, Sem.run_bind, Sem.run_ite, p0, q0, p1, q1, p2, q2, p3, q3, p4, q4, p5, q5, p6, q6, p7, q7, h3]
    ·simp [he, Sem.run_bind, Sem.run_ite, p0, q0, p1, q1, p2, q2, p3, q3, p4, q4, p5, q5, p6, q6, p7, q7, h2]
   ·simp [he, Sem.run_bind, Sem.run_ite, p0, q0, p1, q1, p2, q2, p3, q3, p4, q4, p5, q5, p6, q6, p7, q7, h1]
  ·simp [he, Sem.run_bind, Sem.run_ite, p0, q0, p1, q1, p2, q2, p3, q3, p4, q4, p5, q5, p6, q6, p7, q7, h0]
 go_simp
attribute [local go_sem ↓] run_neq_w8
theorem meetTo_succ (ws vs : List Nat) (i : Nat) : meetTo ws vs (i + 1) = (meetTo ws vs i || decide (ws.getD i 0 &&& vs.getD i 0 ≠ 0)) := by
 unfold meetTo
 rw [List.range_succ, List.any_append]
 simp
theorem meetTo_le {ws vs : List Nat} {i k : Nat} (h : meetTo ws vs i = true) (hk : i ≤ k) : meetTo ws vs k = true := by
 unfold meetTo at h ⊢
 obtain ⟨j, hj, h⟩ := List.any_eq_true.1 h
 exact List.any_eq_true.2 ⟨j, List.mem_range.2 (by have := List.mem_range.1 hj; omega), h⟩
set_option maxRecDepth 10000 in
set_option maxHeartbeats 4000000 in
theorem meets_any (p q : Nat) (ws vs : List Nat) (w : World) (h : BSet w p ws) (k : BSet w q vs) :
  Calls Tryd.prog 24 #[.pointer (some ⟨p, 0, none⟩), .pointer (some ⟨q, 0, none⟩)] w fun e w' => e = .returned (.bool (meetTo ws vs 8)) ∧ w = w' := by
 obtain ⟨b0, b1, b2, b3, b4, b5, b6, b7, hvs⟩ := eight k.2.1
 have hidx : ∀ k : Nat, k < 8 → ∀ w, (Instr.index 51 (.agg #[.int .u64 b0, .int .u64 b1, .int .u64 b2, .int .u64 b3, .int .u64 b4, .int .u64 b5, .int .u64 b6, .int .u64 b7]) (.int .i64 (k : Int))).run Tryd.prog w = .ok (.int .u64 ((vs.getD k 0 : Nat) : Int)) w := fun k hk w => by
  rw [hvs]; exact index_word b0 b1 b2 b3 b4 b5 b6 b7 k hk w
 have HX := Lib.hid hidx
 have HBP := Lib.hid h
 have HBQ := Lib.hid k
 have c0 := k.cell 0 (by omega)
 have c1 := k.cell 1 (by omega)
 have c2 := k.cell 2 (by omega)
 have c3 := k.cell 3 (by omega)
 have c4 := k.cell 4 (by omega)
 have c5 := k.cell 5 (by omega)
 have c6 := k.cell 6 (by omega)
 have c7 := k.cell 7 (by omega)
 rw [hvs] at c0 c1 c2 c3 c4 c5 c6 c7
 simp at c0 c1 c2 c3 c4 c5 c6 c7
 have hq := k.lt
 clear hidx hvs h k
 go_enter Tryd.func24, Tryd.ntmps24
 go_wp2_with fail
 clear c0 c1 c2 c3 c4 c5 c6 c7 hq
 go_loopw [17] (fun iv wr => ∃ i : Nat, i ≤ 8 ∧ iv = .int .i64 i ∧ Hid (meetTo ws vs i = false) ∧ w = wr) (fun iv _ => 8 - (intOf iv).toNat)
 case atStart => exact ⟨0, by omega, rfl, Lib.hid rfl, rfl⟩
 case round =>
  obtain ⟨i, hi, rfl, hM, hw⟩ := hrel
  subst hw
  by_cases hlt : i < 8
  ·have hix := HX.out i hlt
   have hdk : decide ((i : Int) < 8) = true := by simp; omega
   have hdn : decide (i < 8) = true := decide_eq_true hlt
   have hi0 : (0 : Int) ≤ (i : Int) := Int.natCast_nonneg _
   have hi8 : (i : Int) < 8 := by omega
   have hce := HBP.out.cell i hlt
   have hlp := HBP.out.lt
   have hbits : bits .and .u64 ((ws.getD i 0 : Nat) : Int) ((vs.getD i 0 : Nat) : Int) = ((ws.getD i 0 &&& vs.getD i 0 : Nat) : Int) := u64_and_nat _ _ (HBP.out.2.2 i) (HBQ.out.2.2 i)
   have HMS := Lib.hid (meetTo_succ ws vs i)
   generalize ws.getD i 0 = x at *
   generalize vs.getD i 0 = y at *
   generalize hz : x &&& y = z at *
   by_cases h0 : z = 0
   ·have hb0 : (((z : Nat) : Int) != 0) = false := by simp [h0]
    have HMN : Hid (meetTo ws vs (i + 1) = false) := Lib.hid (by rw [HMS.out, hM.out]; simp [h0])
    clear hz h0
    go_wp2
    go_roundw
    case rel => first | exact ⟨i + 1, by omega, by go_num, HMN, trivial⟩ | exact ⟨i + 1, by omega, by go_num, HMN, rfl⟩
    case measure => simp [intOf]; omega
   ·have hb0 : (((z : Nat) : Int) != 0) = true := by simp [h0]
    have HMN : Hid (meetTo ws vs 8 = true) := Lib.hid (meetTo_le (i := i + 1) (by rw [HMS.out]; simp [h0]) (by omega))
    clear hz h0
    go_wp2
    go_ret
    exact ⟨by rw [HMN.out]; rfl, rfl⟩
  ·have hi8 : i = 8 := by omega
   subst hi8
   go_wp2
   go_ret
   exact ⟨by rw [hM.out]; rfl, rfl⟩
end Go.Proofs.YtgimobilcdkmpaaDoor
