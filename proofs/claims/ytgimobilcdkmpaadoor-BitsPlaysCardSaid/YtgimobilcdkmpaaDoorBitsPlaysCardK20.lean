/- Parts. -/
import Derived.Test.YtgimobilcdkmpaaDoorBitsPlaysCardK14
import Derived.Test.YtgimobilcdkmpaaDoorBitsPlaysCardK19
import Derived.Deep.CutBlock
import Derived.Deep.DeepCutAuto
import Derived.Laws.StructEq
set_option maxRecDepth 10000
set_option maxHeartbeats 16000000
set_option linter.unusedVariables false
set_option linter.unusedSimpArgs false
namespace Go.Proofs.YtgimobilcdkmpaaDoor
open Go.RowKit
attribute [local go_sem ↓] Go.wp_at_zero Go.wp_at_succ
def neqW (l k : List Nat) : Bool := !decide (l = k)
theorem run_neq_w8 (a0 a1 a2 a3 a4 a5 a6 a7 b0 b1 b2 b3 b4 b5 b6 b7 : Nat) (w : World) :
  (binOp .neq 51 (.agg #[.int .u64 a0, .int .u64 a1, .int .u64 a2, .int .u64 a3, .int .u64 a4, .int .u64 a5, .int .u64 a6, .int .u64 a7]) (.agg #[.int .u64 b0, .int .u64 b1, .int .u64 b2, .int .u64 b3, .int .u64 b4, .int .u64 b5, .int .u64 b6, .int .u64 b7])).run Tryd.prog w =
   .ok (.bool (neqW [a0, a1, a2, a3, a4, a5, a6, a7] [b0, b1, b2, b3, b4, b5, b6, b7])) w := by
 unfold neqW;have key : (Op.equalIn 10000 51 (.agg #[.int .u64 a0, .int .u64 a1, .int .u64 a2, .int .u64 a3, .int .u64 a4, .int .u64 a5, .int .u64 a6, .int .u64 a7]) (.agg #[.int .u64 b0, .int .u64 b1, .int .u64 b2, .int .u64 b3, .int .u64 b4, .int .u64 b5, .int .u64 b6, .int .u64 b7])).run Tryd.prog w = .ok (decide (([a0, a1, a2, a3, a4, a5, a6, a7] : List Nat) = [b0, b1, b2, b3, b4, b5, b6, b7])) w := by
  have hn : (sizeOf 50).run Tryd.prog w = .ok 1 w := by kernel_rfl
  have he : ∀ (x y : Nat), (Op.equalIn 9999 50 (.int .u64 (x : Int)) (.int .u64 (y : Int))).run Tryd.prog w = .ok (decide (x = y)) w := fun x y => by
   rw [run_equalIn_int (P := Tryd.prog) w 9998 50 .u64 .u64 x y Tryd.underlying50]
   congr 1
   by_cases h : x = y
   ·subst h; simp
   ·have : ¬ (x : Int) = (y : Int) := by omega
    simp [h, this]
  have p0 : (part 50 #[.int .u64 a0, .int .u64 a1, .int .u64 a2, .int .u64 a3, .int .u64 a4, .int .u64 a5, .int .u64 a6, .int .u64 a7] 0).run Tryd.prog w = .ok (.int .u64 (a0 : Int)) w := by kernel_rfl
  have q0 : (part 50 #[.int .u64 b0, .int .u64 b1, .int .u64 b2, .int .u64 b3, .int .u64 b4, .int .u64 b5, .int .u64 b6, .int .u64 b7] 0).run Tryd.prog w = .ok (.int .u64 (b0 : Int)) w := by kernel_rfl
  have p1 : (part 50 #[.int .u64 a0, .int .u64 a1, .int .u64 a2, .int .u64 a3, .int .u64 a4, .int .u64 a5, .int .u64 a6, .int .u64 a7] 1).run Tryd.prog w = .ok (.int .u64 (a1 : Int)) w := by kernel_rfl
  have q1 : (part 50 #[.int .u64 b0, .int .u64 b1, .int .u64 b2, .int .u64 b3, .int .u64 b4, .int .u64 b5, .int .u64 b6, .int .u64 b7] 1).run Tryd.prog w = .ok (.int .u64 (b1 : Int)) w := by kernel_rfl
  have p2 : (part 50 #[.int .u64 a0, .int .u64 a1, .int .u64 a2, .int .u64 a3, .int .u64 a4, .int .u64 a5, .int .u64 a6, .int .u64 a7] 2).run Tryd.prog w = .ok (.int .u64 (a2 : Int)) w := by kernel_rfl
  have q2 : (part 50 #[.int .u64 b0, .int .u64 b1, .int .u64 b2, .int .u64 b3, .int .u64 b4, .int .u64 b5, .int .u64 b6, .int .u64 b7] 2).run Tryd.prog w = .ok (.int .u64 (b2 : Int)) w := by kernel_rfl
  have p3 : (part 50 #[.int .u64 a0, .int .u64 a1, .int .u64 a2, .int .u64 a3, .int .u64 a4, .int .u64 a5, .int .u64 a6, .int .u64 a7] 3).run Tryd.prog w = .ok (.int .u64 (a3 : Int)) w := by kernel_rfl
  have q3 : (part 50 #[.int .u64 b0, .int .u64 b1, .int .u64 b2, .int .u64 b3, .int .u64 b4, .int .u64 b5, .int .u64 b6, .int .u64 b7] 3).run Tryd.prog w = .ok (.int .u64 (b3 : Int)) w := by kernel_rfl
  have p4 : (part 50 #[.int .u64 a0, .int .u64 a1, .int .u64 a2, .int .u64 a3, .int .u64 a4, .int .u64 a5, .int .u64 a6, .int .u64 a7] 4).run Tryd.prog w = .ok (.int .u64 (a4 : Int)) w := by kernel_rfl
  have q4 : (part 50 #[.int .u64 b0, .int .u64 b1, .int .u64 b2, .int .u64 b3, .int .u64 b4, .int .u64 b5, .int .u64 b6, .int .u64 b7] 4).run Tryd.prog w = .ok (.int .u64 (b4 : Int)) w := by kernel_rfl
  have p5 : (part 50 #[.int .u64 a0, .int .u64 a1, .int .u64 a2, .int .u64 a3, .int .u64 a4, .int .u64 a5, .int .u64 a6, .int .u64 a7] 5).run Tryd.prog w = .ok (.int .u64 (a5 : Int)) w := by kernel_rfl
  have q5 : (part 50 #[.int .u64 b0, .int .u64 b1, .int .u64 b2, .int .u64 b3, .int .u64 b4, .int .u64 b5, .int .u64 b6, .int .u64 b7] 5).run Tryd.prog w = .ok (.int .u64 (b5 : Int)) w := by kernel_rfl
  have p6 : (part 50 #[.int .u64 a0, .int .u64 a1, .int .u64 a2, .int .u64 a3, .int .u64 a4, .int .u64 a5, .int .u64 a6, .int .u64 a7] 6).run Tryd.prog w = .ok (.int .u64 (a6 : Int)) w := by kernel_rfl
  have q6 : (part 50 #[.int .u64 b0, .int .u64 b1, .int .u64 b2, .int .u64 b3, .int .u64 b4, .int .u64 b5, .int .u64 b6, .int .u64 b7] 6).run Tryd.prog w = .ok (.int .u64 (b6 : Int)) w := by kernel_rfl
  have p7 : (part 50 #[.int .u64 a0, .int .u64 a1, .int .u64 a2, .int .u64 a3, .int .u64 a4, .int .u64 a5, .int .u64 a6, .int .u64 a7] 7).run Tryd.prog w = .ok (.int .u64 (a7 : Int)) w := by kernel_rfl
  have q7 : (part 50 #[.int .u64 b0, .int .u64 b1, .int .u64 b2, .int .u64 b3, .int .u64 b4, .int .u64 b5, .int .u64 b6, .int .u64 b7] 7).run Tryd.prog w = .ok (.int .u64 (b7 : Int)) w := by kernel_rfl
  rw [show (10000 : Nat) = 9999 + 1 from rfl];unfold Op.equalIn;rw [Sem.run_bind, run_underlying Tryd.underlying51];simp only [Result.andThen_ok];rw [Sem.run_bind, hn];simp only [Result.andThen_ok];simp only [Std.Legacy.Range.forIn_eq_forIn_range', Std.Legacy.Range.size];simp only [show ((8 - 0 + 1 - 1) / 1 : Nat) = 8 from rfl, show List.range' 0 8 1 = [0, 1, 2, 3, 4, 5, 6, 7] from rfl, List.forIn_cons, List.forIn_nil, Sem.run_bind, p0, p1, p2, p3, p4, p5, p6, p7, q0, q1, q2, q3, q4, q5, q6, q7, he, Result.andThen_ok, Sem.run_ite, Sem.run_pure, Nat.mul_one]
  by_cases h0 : a0 = b0
  ·subst h0
   by_cases h1 : a1 = b1
   ·subst h1
    by_cases h2 : a2 = b2
    ·subst h2
     by_cases h3 : a3 = b3
     ·subst h3
      by_cases h4 : a4 = b4
      ·subst h4
       by_cases h5 : a5 = b5
       ·subst h5
        by_cases h6 : a6 = b6
        ·subst h6
         by_cases h7 : a7 = b7
         ·subst h7;simp [he, Sem.run_bind, Sem.run_ite, p0, q0, p1, q1, p2, q2, p3, q3, p4, q4, p5, q5, p6, q6, p7, q7]
         ·simp [he, Sem.run_bind, Sem.run_ite, p0, q0, p1, q1, p2, q2, p3, q3, p4, q4, p5, q5, p6, q6, p7, q7, h7]
        ·simp [he, Sem.run_bind, Sem.run_ite, p0, q0, p1, q1, p2, q2, p3, q3, p4, q4, p5, q5, p6, q6, p7, q7, h6]
       ·simp [he, Sem.run_bind, Sem.run_ite, p0, q0, p1, q1, p2, q2, p3, q3, p4, q4, p5, q5, p6, q6, p7, q7, h5]
      ·simp [he, Sem.run_bind, Sem.run_ite, p0, q0, p1, q1, p2, q2, p3, q3, p4, q4, p5, q5, p6, q6, p7, q7, h4]
     ·simp [he, Sem.run_bind, Sem.run_ite, p0, q0, p1, q1, p2, q2, p3, q3, p4, q4, p5, q5, p6, q6, p7, q7, h3]
    ·simp [he, Sem.run_bind, Sem.run_ite, p0, q0, p1, q1, p2, q2, p3, q3, p4, q4, p5, q5, p6, q6, p7, q7, h2]
   ·simp [he, Sem.run_bind, Sem.run_ite, p0, q0, p1, q1, p2, q2, p3, q3, p4, q4, p5, q5, p6, q6, p7, q7, h1]
  ·simp [he, Sem.run_bind, Sem.run_ite, p0, q0, p1, q1, p2, q2, p3, q3, p4, q4, p5, q5, p6, q6, p7, q7, h0]
 go_simp
attribute [local go_sem ↓] run_neq_w8
theorem join_at {ws vs us : List Nat} (h1 : ws.length = 8) (h2 : vs.length = 8) (h3 : us.length = 8) (h : ∀ j, j < 8 → us.getD j 0 = ws.getD j 0 ||| vs.getD j 0) : us = joinW ws vs := by
 apply List.ext_getElem (by rw [h3]; unfold joinW; rw [List.length_zipWith, h1, h2]; rfl)
 intro i hi hi';have e1 : us[i] = us.getD i 0 := by simp [List.getD_eq_getElem?_getD, List.getElem?_eq_getElem hi]
 have e2 : (joinW ws vs)[i] = (joinW ws vs).getD i 0 := by simp [List.getD_eq_getElem?_getD, List.getElem?_eq_getElem hi']
 rw [e1, e2, joinW_get h1 h2, h i (by omega)]
theorem join_any (p q : Nat) (ws vs : List Nat) (w : World) (h : BSet w p ws) (k : BSet w q vs) :
  Calls Tryd.prog 14 #[.pointer (some ⟨p, 0, none⟩), .pointer (some ⟨q, 0, none⟩)] w fun e w' => e = .returned (.bool (!decide (joinW ws vs = ws))) ∧ BSet w' p (joinW ws vs) ∧ Only [p] w w' := by
 obtain ⟨a0, a1, a2, a3, a4, a5, a6, a7, hws⟩ := eight h.2.1;obtain ⟨b0, b1, b2, b3, b4, b5, b6, b7, hvs⟩ := eight k.2.1;have hidx : ∀ k : Nat, k < 8 → ∀ w, (Instr.index 51 (.agg #[.int .u64 b0, .int .u64 b1, .int .u64 b2, .int .u64 b3, .int .u64 b4, .int .u64 b5, .int .u64 b6, .int .u64 b7]) (.int .i64 (k : Int))).run Tryd.prog w = .ok (.int .u64 ((vs.getD k 0 : Nat) : Int)) w := fun k hk w => by
  rw [hvs]; exact index_word b0 b1 b2 b3 b4 b5 b6 b7 k hk w
 have HX := Hd hidx;have HBP := Hd h;have HBQ := Hd k;have HWS := Hd hws;have HVS := Hd hvs;have c0 := h.cell 0 (by omega);have c1 := h.cell 1 (by omega);have c2 := h.cell 2 (by omega);have c3 := h.cell 3 (by omega);have c4 := h.cell 4 (by omega);have c5 := h.cell 5 (by omega);have c6 := h.cell 6 (by omega);have c7 := h.cell 7 (by omega);rw [hws] at c0 c1 c2 c3 c4 c5 c6 c7;simp at c0 c1 c2 c3 c4 c5 c6 c7;have hp := h.lt;clear hidx hws hvs h k;go_enter Tryd.func14, Tryd.ntmps14;go_upto_region 4 with (fail)
 have HX1 := Hd ((Only.refl [] w).alloc (.cells #[.int .u64 a0, .int .u64 a1, .int .u64 a2, .int .u64 a3, .int .u64 a4, .int .u64 a5, .int .u64 a6, .int .u64 a7] 51));have HW1 := Hd (Blk.made w 51 #[.int .u64 a0, .int .u64 a1, .int .u64 a2, .int .u64 a3, .int .u64 a4, .int .u64 a5, .int .u64 a6, .int .u64 a7]);have HP1 := Hd (HBP.out.only HX1.out (by simp));have HQ1 := Hd (HBQ.out.only HX1.out (by simp));have HGW : Hid (w.heap.size ≠ p ∧ w.heap.size ≠ q) := Hd ⟨by omega, by have := HBQ.out.lt; omega⟩;clear c0 c1 c2 c3 c4 c5 c6 c7;generalize (w.alloc (.cells #[.int .u64 a0, .int .u64 a1, .int .u64 a2, .int .u64 a3, .int .u64 a4, .int .u64 a5, .int .u64 a6, .int .u64 a7] 51)) = w1 at *;have c0 := HQ1.out.cell 0 (by omega);have c1 := HQ1.out.cell 1 (by omega);have c2 := HQ1.out.cell 2 (by omega);have c3 := HQ1.out.cell 3 (by omega);have c4 := HQ1.out.cell 4 (by omega);have c5 := HQ1.out.cell 5 (by omega);have c6 := HQ1.out.cell 6 (by omega);have c7 := HQ1.out.cell 7 (by omega);rw [HVS.out] at c0 c1 c2 c3 c4 c5 c6 c7;simp at c0 c1 c2 c3 c4 c5 c6 c7;have hq := HQ1.out.lt;go_wp2_with fail
 clear c0 c1 c2 c3 c4 c5 c6 c7 hq
 go_loopw [22] (fun iv wr => ∃ (i : Nat) (us : List Nat), i ≤ 8 ∧ iv = .int .i64 i ∧ Hid (BSet wr p us) ∧ Hid (∀ j, us.getD j 0 = if j < i then ws.getD j 0 ||| vs.getD j 0 else ws.getD j 0) ∧ Hid (Only [p] w1 wr)) (fun iv _ => 8 - (intOf iv).toNat)
 case atStart => exact ⟨0, ws, by omega, rfl, HP1, Hd (fun j => by simp), Hd (Only.refl _ _)⟩
 case round =>
  obtain ⟨i, us, hi, rfl, hB, hU, hO⟩ := hrel
  by_cases hlt : i < 8
  ·have hix := HX.out i hlt;have hdk : decide ((i : Int) < 8) = true := by simp; omega
   have hdn : decide (i < 8) = true := decide_eq_true hlt;have hi0 : (0 : Int) ≤ (i : Int) := Int.natCast_nonneg _;have hi8 : (i : Int) < 8 := by omega
   have hce := hB.out.cell i hlt;have hfr := hB.out.1.free i;have hlp := hB.out.lt;have hu := hU.out i;rw [if_neg (by omega)] at hu;rw [hu] at hce;have hwb := HBP.out.2.2 i;have hvb := HBQ.out.2.2 i;have hor : ws.getD i 0 ||| vs.getD i 0 < 18446744073709551616 := Nat.or_lt_two_pow (n := 64) hwb hvb;have HPUT := Hd (hB.out.put i (ws.getD i 0 ||| vs.getD i 0) hlt hor);have HUN : Hid (∀ j, (us.set i (ws.getD i 0 ||| vs.getD i 0)).getD j 0 = if j < i + 1 then ws.getD j 0 ||| vs.getD j 0 else ws.getD j 0) := Hd (fun j => by
    rw [getD_set us i j _ (by rw [hB.out.2.1]; exact hlt)]
    by_cases hij : i = j
    ·subst hij; simp
    ·rw [if_neg hij, hU.out j]
     by_cases h1 : j < i
     ·rw [if_pos h1, if_pos (by omega)]
     ·rw [if_neg h1, if_neg (by omega)])
   have HON := Hd (hO.out.put (p := ⟨p, i, none⟩) (fun _ => by simp) (.int .u64 ((ws.getD i 0 ||| vs.getD i 0 : Nat) : Int)));have hbits : bits .or .u64 ((ws.getD i 0 : Nat) : Int) ((vs.getD i 0 : Nat) : Int) = ((ws.getD i 0 ||| vs.getD i 0 : Nat) : Int) := u64_or_nat _ _ hwb hvb;clear hu hor;generalize ws.getD i 0 = x at *;generalize vs.getD i 0 = y at *;go_wp2
   go_region
   all_goals
    go_wp2
    go_roundw
    case rel => first | exact ⟨i + 1, _, by omega, by go_num, Hd HPUT.out.drew, HUN, Hd HON.out.drew⟩ | exact ⟨_, ⟨i + 1, _, by omega, by go_num, Hd HPUT.out.drew, HUN, Hd HON.out.drew⟩, rfl⟩ | exact ⟨_, _, ⟨i + 1, _, by omega, by go_num, Hd HPUT.out.drew, HUN, Hd HON.out.drew⟩, rfl, rfl⟩
    case measure => simp [intOf]; omega
  ·have hi8 : i = 8 := by omega
   subst hi8;have HU : Hid (us = joinW ws vs) := Hd (join_at HBP.out.2.1 HBQ.out.2.1 hB.out.2.1 (fun j hj => by rw [hU.out j, if_pos hj]));obtain ⟨u0, u1, u2, u3, u4', u5, u6, u7, hus⟩ := eight hB.out.2.1;have HUS := Hd hus;have HWB := Hd (hO.out.blk HW1.out (by simp; exact HGW.out.1));have HRES : Hid (neqW [u0, u1, u2, u3, u4', u5, u6, u7] [a0, a1, a2, a3, a4, a5, a6, a7] = (!decide (joinW ws vs = ws))) := Hd (by unfold neqW; rw [← HU.out, HUS.out, HWS.out]);have HFIN : Hid (BSet wr p (joinW ws vs)) := Hd (by rw [← HU.out]; exact hB.out);have HOF := Hd ((HX1.out.wide (T := [p]) (fun i hi => by cases hi)).step hO.out (fun i hi hl => hi));clear hus hU;go_upto_region 9 with (fail)
   refine rg1 [] [] wr ?_;refine tQ 0 (h := tQ 1 (h := tQ 2 (h := ?_)));refine trd (i := 3) (v := ?_) 0 ?_ ?_;rotate_left
   ·(intro wq hSw; have cb := hB.out.only hSw (by simp); have c0 := cb.cell 0 (by omega); have c1 := cb.cell 1 (by omega); have c2 := cb.cell 2 (by omega); have c3 := cb.cell 3 (by omega); have c4 := cb.cell 4 (by omega); have c5 := cb.cell 5 (by omega); have c6 := cb.cell 6 (by omega); have c7 := cb.cell 7 (by omega); rw [HUS.out] at c0 c1 c2 c3 c4 c5 c6 c7; simp at c0 c1 c2 c3 c4 c5 c6 c7; have hlp := cb.lt; have hW := hSw.blk HWB.out (by simp); have lW := hW.lt; have d0 := hW.at_ 0; have d1 := hW.at_ 1; have d2 := hW.at_ 2; have d3 := hW.at_ 3; have d4 := hW.at_ 4; have d5 := hW.at_ 5; have d6 := hW.at_ 6; have d7 := hW.at_ 7; simp at d0 d1 d2 d3 d4 d5 d6 d7; clear cb hW; clear hSw; go_simp; try with_reducible rfl)
   (try simp only [tdz]);refine trd (i := 4) (v := ?_) 0 ?_ ?_;rotate_left
   ·(intro wq hSw; have cb := hB.out.only hSw (by simp); have c0 := cb.cell 0 (by omega); have c1 := cb.cell 1 (by omega); have c2 := cb.cell 2 (by omega); have c3 := cb.cell 3 (by omega); have c4 := cb.cell 4 (by omega); have c5 := cb.cell 5 (by omega); have c6 := cb.cell 6 (by omega); have c7 := cb.cell 7 (by omega); rw [HUS.out] at c0 c1 c2 c3 c4 c5 c6 c7; simp at c0 c1 c2 c3 c4 c5 c6 c7; have hlp := cb.lt; have hW := hSw.blk HWB.out (by simp); have lW := hW.lt; have d0 := hW.at_ 0; have d1 := hW.at_ 1; have d2 := hW.at_ 2; have d3 := hW.at_ 3; have d4 := hW.at_ 4; have d5 := hW.at_ 5; have d6 := hW.at_ 6; have d7 := hW.at_ 7; simp at d0 d1 d2 d3 d4 d5 d6 d7; clear cb hW; clear hSw; go_simp; try with_reducible rfl)
   (try simp only [tdz]);refine tQ 5 (h := tQ 6 (h := ?_));refine tdn ?_;have HNX := Hd ( ((Only.refl [] wr).drew));go_wp2
   go_ret
   exact ⟨by rw [← HRES.out]; rfl, HFIN.out.only HNX.out (by simp), HOF.out.trans (HNX.out.wide (fun i hi => by cases hi))⟩
end Go.Proofs.YtgimobilcdkmpaaDoor
