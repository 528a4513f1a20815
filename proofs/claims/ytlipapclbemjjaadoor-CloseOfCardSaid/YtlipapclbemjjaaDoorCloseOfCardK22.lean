/- Sets of numbers: Join, Meets. -/
import Derived.Test.YtlipapclbemjjaaDoorCloseOfCardK11
import Derived.Test.YtlipapclbemjjaaDoorCloseOfCardK21
import Derived.Test.YtlipapclbemjjaaDoorCloseOfCardK13
import Derived.Deep.CutBlock
import Derived.Deep.DeepCutAuto
import Derived.Laws.StructEq
set_option linter.unusedVariables false
set_option linter.unusedSimpArgs false
namespace Go.Proofs.YtlipapclbemjjaaDoor
open Go.RowKit
attribute [local go_sem ↓] Go.wp_at_zero Go.wp_at_succ
def neqW (l k : List Nat) : Bool := !decide (l = k)
set_option maxHeartbeats 4000000 in
theorem run_neq_w8 (a0 a1 a2 a3 a4 a5 a6 a7 b0 b1 b2 b3 b4 b5 b6 b7 : Nat) (w : World) :
  (binOp .neq 65 (.agg #[.int .u64 a0, .int .u64 a1, .int .u64 a2, .int .u64 a3, .int .u64 a4, .int .u64 a5, .int .u64 a6, .int .u64 a7]) (.agg #[.int .u64 b0, .int .u64 b1, .int .u64 b2, .int .u64 b3, .int .u64 b4, .int .u64 b5, .int .u64 b6, .int .u64 b7])).run Tryd.prog w =
   .ok (.bool (neqW [a0, a1, a2, a3, a4, a5, a6, a7] [b0, b1, b2, b3, b4, b5, b6, b7])) w := by
 unfold neqW
 have key : (Op.equalIn 10000 65 (.agg #[.int .u64 a0, .int .u64 a1, .int .u64 a2, .int .u64 a3, .int .u64 a4, .int .u64 a5, .int .u64 a6, .int .u64 a7]) (.agg #[.int .u64 b0, .int .u64 b1, .int .u64 b2, .int .u64 b3, .int .u64 b4, .int .u64 b5, .int .u64 b6, .int .u64 b7])).run Tryd.prog w = .ok (decide (([a0, a1, a2, a3, a4, a5, a6, a7] : List Nat) = [b0, b1, b2, b3, b4, b5, b6, b7])) w := by
  have hn : (sizeOf 64).run Tryd.prog w = .ok 1 w := by kernel_rfl
  have he : ∀ (x y : Nat), (Op.equalIn 9999 64 (.int .u64 (x : Int)) (.int .u64 (y : Int))).run Tryd.prog w = .ok (decide (x = y)) w := fun x y => by
   rw [run_equalIn_int (P := Tryd.prog) w 9998 64 .u64 .u64 x y Tryd.underlying64]
   congr 1
   by_cases h : x = y
   ·subst h; simp
   ·have : ¬ (x : Int) = (y : Int) := by omega
    simp [h, this]
  have p0 : (part 64 #[.int .u64 a0, .int .u64 a1, .int .u64 a2, .int .u64 a3, .int .u64 a4, .int .u64 a5, .int .u64 a6, .int .u64 a7] 0).run Tryd.prog w = .ok (.int .u64 (a0 : Int)) w := by kernel_rfl
  have q0 : (part 64 #[.int .u64 b0, .int .u64 b1, .int .u64 b2, .int .u64 b3, .int .u64 b4, .int .u64 b5, .int .u64 b6, .int .u64 b7] 0).run Tryd.prog w = .ok (.int .u64 (b0 : Int)) w := by kernel_rfl
  have p1 : (part 64 #[.int .u64 a0, .int .u64 a1, .int .u64 a2, .int .u64 a3, .int .u64 a4, .int .u64 a5, .int .u64 a6, .int .u64 a7] 1).run Tryd.prog w = .ok (.int .u64 (a1 : Int)) w := by kernel_rfl
  have q1 : (part 64 #[.int .u64 b0, .int .u64 b1, .int .u64 b2, .int .u64 b3, .int .u64 b4, .int .u64 b5, .int .u64 b6, .int .u64 b7] 1).run Tryd.prog w = .ok (.int .u64 (b1 : Int)) w := by kernel_rfl
  have p2 : (part 64 #[.int .u64 a0, .int .u64 a1, .int .u64 a2, .int .u64 a3, .int .u64 a4, .int .u64 a5, .int .u64 a6, .int .u64 a7] 2).run Tryd.prog w = .ok (.int .u64 (a2 : Int)) w := by kernel_rfl
  have q2 : (part 64 #[.int .u64 b0, .int .u64 b1, .int .u64 b2, .int .u64 b3, .int .u64 b4, .int .u64 b5, .int .u64 b6, .int .u64 b7] 2).run Tryd.prog w = .ok (.int .u64 (b2 : Int)) w := by kernel_rfl
  have p3 : (part 64 #[.int .u64 a0, .int .u64 a1, .int .u64 a2, .int .u64 a3, .int .u64 a4, .int .u64 a5, .int .u64 a6, .int .u64 a7] 3).run Tryd.prog w = .ok (.int .u64 (a3 : Int)) w := by kernel_rfl
  have q3 : (part 64 #[.int .u64 b0, .int .u64 b1, .int .u64 b2, .int .u64 b3, .int .u64 b4, .int .u64 b5, .int .u64 b6, .int .u64 b7] 3).run Tryd.prog w = .ok (.int .u64 (b3 : Int)) w := by kernel_rfl
  have p4 : (part 64 #[.int .u64 a0, .int .u64 a1, .int .u64 a2, .int .u64 a3, .int .u64 a4, .int .u64 a5, .int .u64 a6, .int .u64 a7] 4).run Tryd.prog w = .ok (.int .u64 (a4 : Int)) w := by kernel_rfl
  have q4 : (part 64 #[.int .u64 b0, .int .u64 b1, .int .u64 b2, .int .u64 b3, .int .u64 b4, .int .u64 b5, .int .u64 b6, .int .u64 b7] 4).run Tryd.prog w = .ok (.int .u64 (b4 : Int)) w := by kernel_rfl
  have p5 : (part 64 #[.int .u64 a0, .int .u64 a1, .int .u64 a2, .int .u64 a3, .int .u64 a4, .int .u64 a5, .int .u64 a6, .int .u64 a7] 5).run Tryd.prog w = .ok (.int .u64 (a5 : Int)) w := by kernel_rfl
  have q5 : (part 64 #[.int .u64 b0, .int .u64 b1, .int .u64 b2, .int .u64 b3, .int .u64 b4, .int .u64 b5, .int .u64 b6, .int .u64 b7] 5).run Tryd.prog w = .ok (.int .u64 (b5 : Int)) w := by kernel_rfl
  have p6 : (part 64 #[.int .u64 a0, .int .u64 a1, .int .u64 a2, .int .u64 a3, .int .u64 a4, .int .u64 a5, .int .u64 a6, .int .u64 a7] 6).run Tryd.prog w = .ok (.int .u64 (a6 : Int)) w := by kernel_rfl
  have q6 : (part 64 #[.int .u64 b0, .int .u64 b1, .int .u64 b2, .int .u64 b3, .int .u64 b4, .int .u64 b5, .int .u64 b6, .int .u64 b7] 6).run Tryd.prog w = .ok (.int .u64 (b6 : Int)) w := by kernel_rfl
  have p7 : (part 64 #[.int .u64 a0, .int .u64 a1, .int .u64 a2, .int .u64 a3, .int .u64 a4, .int .u64 a5, .int .u64 a6, .int .u64 a7] 7).run Tryd.prog w = .ok (.int .u64 (a7 : Int)) w := by kernel_rfl
  have q7 : (part 64 #[.int .u64 b0, .int .u64 b1, .int .u64 b2, .int .u64 b3, .int .u64 b4, .int .u64 b5, .int .u64 b6, .int .u64 b7] 7).run Tryd.prog w = .ok (.int .u64 (b7 : Int)) w := by kernel_rfl
  rw [show (10000 : Nat) = 9999 + 1 from rfl]
  unfold Op.equalIn
  rw [Sem.run_bind, run_underlying Tryd.underlying65]
  simp only [Result.andThen_ok]
  rw [Sem.run_bind, hn]
  simp only [Result.andThen_ok]
  simp only [Std.Legacy.Range.forIn_eq_forIn_range', Std.Legacy.Range.size]
  simp only [show ((8 - 0 + 1 - 1) / 1 : Nat) = 8 from rfl, show List.range' 0 8 1 = [0, 1, 2, 3, 4, 5, 6, 7] from rfl, List.forIn_cons, List.forIn_nil, Sem.run_bind, p0, p1, p2, p3, p4, p5, p6, p7, q0, q1, q2, q3, q4, q5, q6, q7, he, Result.andThen_ok, Sem.run_ite, Sem.run_pure, Nat.mul_one]
  by_cases h0 : a0 = b0
  ·subst h0
   by_cases h1 : a1 = b1
   ·subst h1
    by_cases h2 : a2 = b2
    ·subst h2
     by_cases h3 : a3 = b3
     ·subst h3
      by_cases h4 : a4 = b4
      ·subst h4
       by_cases h5 : a5 = b5
       ·subst h5
        by_cases h6 : a6 = b6
        ·subst h6
         by_cases h7 : a7 = b7
         ·subst h7
          simp [he, Sem.run_bind, Sem.run_ite, p0, q0, p1, q1, p2, q2, p3, q3, p4, q4, p5, q5, p6, q6, p7, q7]
         ·simp [he, Sem.run_bind, Sem.run_ite, p0, q0, p1, q1, p2, q2, p3, q3, p4, q4, p5, q5, p6, q6, p7, q7, h7]
        ·simp [he, Sem.run_bind, Sem.run_ite, p0, q0, p1, q1, p2, q2, p3, q3, p4, q4, p5, q5, p6, q6, p7, q7, h6]
       ·simp [he, Sem.run_bind, Sem.run_ite, p0, q0, p1, q1, p2, q2, p3, q3, p4, q4, p5, q5, p6, q6, p7, q7, h5]
      ·simp [he, Sem.run_bind, Sem.run_ite, p0, q0, p1, q1, p2, q2, p3, q3, p4, q4, p5, q5, p6, q6, p7, q7, h4]
     ·simp [he, Sem.run_bind, Sem.run_ite, p0, q0, p1, q1, p2, q2, p3, q3, p4, q4, p5, q5, p6, q6, p7, q7, h3]
    ·simp [he, Sem.run_bind, Sem.run_ite, p0, q0, p1, q1, p2, q2, p3, q3, p4, q4, p5, q5, p6, q6, p7, q7, h2]
   ·simp [he, Sem.run_bind, Sem.run_ite, p0, q0, p1, q1, p2, q2, p3, q3, p4, q4, p5, q5, p6, q6, p7, q7, h1]
  ·simp [he, Sem.run_bind, Sem.run_ite, p0, q0, p1, q1, p2, q2, p3, q3, p4, q4, p5, q5, p6, q6, p7, q7, h0]
 go_simp
attribute [local go_sem ↓] run_neq_w8
theorem join_at {ws vs us : List Nat} (h1 : ws.length = 8) (h2 : vs.length = 8) (h3 : us.length = 8) (h : ∀ j, j < 8 → us.getD j 0 = ws.getD j 0 ||| vs.getD j 0) : us = joinW ws vs := by
 apply List.ext_getElem (by rw [h3]; unfold joinW; rw [List.length_zipWith, h1, h2]; rfl)
 intro i hi hi'
 have e1 : us[i] = us.getD i 0 := by simp [List.getD_eq_getElem?_getD, List.getElem?_eq_getElem hi]
 have e2 : (joinW ws vs)[i] = (joinW ws vs).getD i 0 := by simp [List.getD_eq_getElem?_getD, List.getElem?_eq_getElem hi']
 rw [e1, e2, joinW_get h1 h2, h i (by omega)]
set_option maxRecDepth 10000 in
set_option maxHeartbeats 4000000 in
theorem join_any (p q : Nat) (ws vs : List Nat) (w : World) (h : BSet w p ws) (k : BSet w q vs) :
  Calls Tryd.prog 37 #[.pointer (some ⟨p, 0, none⟩), .pointer (some ⟨q, 0, none⟩)] w fun e w' => e = .returned (.bool (!decide (joinW ws vs = ws))) ∧ BSet w' p (joinW ws vs) ∧ Only [p] w w' := by
 obtain ⟨a0, a1, a2, a3, a4, a5, a6, a7, hws⟩ := eight h.2.1
 obtain ⟨b0, b1, b2, b3, b4, b5, b6, b7, hvs⟩ := eight k.2.1
 have hidx : ∀ k : Nat, k < 8 → ∀ w, (Instr.index 65 (.agg #[.int .u64 b0, .int .u64 b1, .int .u64 b2, .int .u64 b3, .int .u64 b4, .int .u64 b5, .int .u64 b6, .int .u64 b7]) (.int .i64 (k : Int))).run Tryd.prog w = .ok (.int .u64 ((vs.getD k 0 : Nat) : Int)) w := fun k hk w => by
  rw [hvs]; exact index_word b0 b1 b2 b3 b4 b5 b6 b7 k hk w
 have HX := Lib.hid hidx
 have HBP := Lib.hid h
 have HBQ := Lib.hid k
 have HWS := Lib.hid hws
 have HVS := Lib.hid hvs
 have c0 := h.cell 0 (by omega)
 have c1 := h.cell 1 (by omega)
 have c2 := h.cell 2 (by omega)
 have c3 := h.cell 3 (by omega)
 have c4 := h.cell 4 (by omega)
 have c5 := h.cell 5 (by omega)
 have c6 := h.cell 6 (by omega)
 have c7 := h.cell 7 (by omega)
 rw [hws] at c0 c1 c2 c3 c4 c5 c6 c7
 simp at c0 c1 c2 c3 c4 c5 c6 c7
 have hp := h.lt
 clear hidx hws hvs h k
 go_enter Tryd.func37, Tryd.ntmps37
 go_upto_region 4 with (fail)
 have HX1 := Lib.hid ((Only.refl [] w).alloc (.cells #[.int .u64 a0, .int .u64 a1, .int .u64 a2, .int .u64 a3, .int .u64 a4, .int .u64 a5, .int .u64 a6, .int .u64 a7] 65))
 have HW1 := Lib.hid (Blk.made w 65 #[.int .u64 a0, .int .u64 a1, .int .u64 a2, .int .u64 a3, .int .u64 a4, .int .u64 a5, .int .u64 a6, .int .u64 a7])
 have HP1 := Lib.hid (HBP.out.only HX1.out (by simp))
 have HQ1 := Lib.hid (HBQ.out.only HX1.out (by simp))
 have HGW : Hid (w.heap.size ≠ p ∧ w.heap.size ≠ q) := Lib.hid ⟨by omega, by have := HBQ.out.lt; omega⟩
 clear c0 c1 c2 c3 c4 c5 c6 c7
 generalize (w.alloc (.cells #[.int .u64 a0, .int .u64 a1, .int .u64 a2, .int .u64 a3, .int .u64 a4, .int .u64 a5, .int .u64 a6, .int .u64 a7] 65)) = w1 at *
 have c0 := HQ1.out.cell 0 (by omega)
 have c1 := HQ1.out.cell 1 (by omega)
 have c2 := HQ1.out.cell 2 (by omega)
 have c3 := HQ1.out.cell 3 (by omega)
 have c4 := HQ1.out.cell 4 (by omega)
 have c5 := HQ1.out.cell 5 (by omega)
 have c6 := HQ1.out.cell 6 (by omega)
 have c7 := HQ1.out.cell 7 (by omega)
 rw [HVS.out] at c0 c1 c2 c3 c4 c5 c6 c7
 simp at c0 c1 c2 c3 c4 c5 c6 c7
 have hq := HQ1.out.lt
 go_wp2_with fail
 clear c0 c1 c2 c3 c4 c5 c6 c7 hq
 go_loopw [22] (fun iv wr => ∃ (i : Nat) (us : List Nat), i ≤ 8 ∧ iv = .int .i64 i ∧ Hid (BSet wr p us) ∧ Hid (∀ j, us.getD j 0 = if j < i then ws.getD j 0 ||| vs.getD j 0 else ws.getD j 0) ∧ Hid (Only [p] w1 wr)) (fun iv _ => 8 - (intOf iv).toNat)
 case atStart => exact ⟨0, ws, by omega, rfl, HP1, Lib.hid (fun j => by simp), Lib.hid (Only.refl _ _)⟩
 case round =>
  obtain ⟨i, us, hi, rfl, hB, hU, hO⟩ := hrel
  by_cases hlt : i < 8
  ·have hix := HX.out i hlt
   have hdk : decide ((i : Int) < 8) = true := by simp; omega
   have hdn : decide (i < 8) = true := decide_eq_true hlt
   have hi0 : (0 : Int) ≤ (i : Int) := Int.natCast_nonneg _
   have hi8 : (i : Int) < 8 := by omega
   have hce := hB.out.cell i hlt
   have hfr := hB.out.1.free i
   have hlp := hB.out.lt
   have hu := hU.out i
   rw [if_neg (by omega)] at hu
   rw [hu] at hce
   have hwb := HBP.out.2.2 i
   have hvb := HBQ.out.2.2 i
   have hor : ws.getD i 0 ||| vs.getD i 0 < 18446744073709551616 := Nat.or_lt_two_pow (n := 64) hwb hvb
   have HPUT := Lib.hid (hB.out.put i (ws.getD i 0 ||| vs.getD i 0) hlt hor)
   have HUN : Hid (∀ j, (us.set i (ws.getD i 0 ||| vs.getD i 0)).getD j 0 = if j < i + 1 then ws.getD j 0 ||| vs.getD j 0 else ws.getD j 0) := Lib.hid (fun j => by
    rw [getD_set us i j _ (by rw [hB.out.2.1]; exact hlt)]
    by_cases hij : i = j
    ·subst hij; simp
    ·rw [if_neg hij, hU.out j]
     by_cases h1 : j < i
     ·rw [if_pos h1, if_pos (by omega)]
     ·rw [if_neg h1, if_neg (by omega)])
   have HON := Lib.hid (hO.out.put (p := ⟨p, i, none⟩) (fun _ => by simp) (.int .u64 ((ws.getD i 0 ||| vs.getD i 0 : Nat) : Int)))
   have hbits : bits .or .u64 ((ws.getD i 0 : Nat) : Int) ((vs.getD i 0 : Nat) : Int) = ((ws.getD i 0 ||| vs.getD i 0 : Nat) : Int) := u64_or_nat _ _ hwb hvb
   clear hu hor
   generalize ws.getD i 0 = x at *
   generalize vs.getD i 0 = y at *
   go_wp2
   go_region
   all_goals
    go_wp2
    go_roundw
    case rel => first | exact ⟨i + 1, _, by omega, by go_num, Lib.hid HPUT.out.drew, HUN, Lib.hid HON.out.drew⟩ | exact ⟨_, ⟨i + 1, _, by omega, by go_num, Lib.hid HPUT.out.drew, HUN, Lib.hid HON.out.drew⟩, rfl⟩ | exact ⟨_, _, ⟨i + 1, _, by omega, by go_num, Lib.hid HPUT.out.drew, HUN, Lib.hid HON.out.drew⟩, rfl, rfl⟩
    case measure => simp [intOf]; omega
  ·have hi8 : i = 8 := by omega
   subst hi8
   have HU : Hid (us = joinW ws vs) := Lib.hid (join_at HBP.out.2.1 HBQ.out.2.1 hB.out.2.1 (fun j hj => by rw [hU.out j, if_pos hj]))
   obtain ⟨u0, u1, u2, u3, u4', u5, u6, u7, hus⟩ := eight hB.out.2.1
   have HUS := Lib.hid hus
   have HWB := Lib.hid (hO.out.blk HW1.out (by simp; exact HGW.out.1))
   have HRES : Hid (neqW [u0, u1, u2, u3, u4', u5, u6, u7] [a0, a1, a2, a3, a4, a5, a6, a7] = (!decide (joinW ws vs = ws))) := Lib.hid (by unfold neqW; rw [← HU.out, HUS.out, HWS.out])
   have HFIN : Hid (BSet wr p (joinW ws vs)) := Lib.hid (by rw [← HU.out]; exact hB.out)
   have HOF := Lib.hid ((HX1.out.wide (T := [p]) (fun i hi => by cases hi)).step hO.out (fun i hi hl => hi))
   clear hus hU
   go_upto_region 9 with (fail)
   refine wp_region_noPanic ?_
   refine wp_region_timed (F := [⟨[], [], fun w' => Only [] wr w'⟩]) (by kernel_rfl) (timed_holds ((Only.refl [] wr).drew) (timed_nil)) ?_
   refine timed_pure (i := 0) (v := ?_) rfl (by kernel_rfl) (by kernel_rfl) (by kernel_rfl) (fun _ _ _ h => h) (by kernel_rfl) (by kernel_rfl) ?_ ?_
   rotate_left
   ·(intro w; go_simp; try with_reducible rfl)
   try simp only [Act.put, tdy]
   refine timed_pure (i := 1) (v := ?_) rfl (by kernel_rfl) (by kernel_rfl) (by kernel_rfl) (fun _ _ _ h => h) (by kernel_rfl) (by kernel_rfl) ?_ ?_
   rotate_left
   ·(intro w; go_simp; try with_reducible rfl)
   try simp only [Act.put, tdy]
   refine timed_pure (i := 2) (v := ?_) rfl (by kernel_rfl) (by kernel_rfl) (by kernel_rfl) (fun _ _ _ h => h) (by kernel_rfl) (by kernel_rfl) ?_ ?_
   rotate_left
   ·(intro w; go_simp; try with_reducible rfl)
   try simp only [Act.put, tdy]
   refine timed_read (i := 3) (v := ?_) 0 rfl (by kernel_rfl) (by kernel_rfl) (by kernel_rfl) (fun _ _ _ h => h) (by kernel_rfl) (by kernel_rfl) rfl (by kernel_rfl) ?_ ?_
   rotate_left
   ·(intro wq hSw; (try dsimp only at hSw); have cb := hB.out.only hSw (by simp); have c0 := cb.cell 0 (by omega); have c1 := cb.cell 1 (by omega); have c2 := cb.cell 2 (by omega); have c3 := cb.cell 3 (by omega); have c4 := cb.cell 4 (by omega); have c5 := cb.cell 5 (by omega); have c6 := cb.cell 6 (by omega); have c7 := cb.cell 7 (by omega); rw [HUS.out] at c0 c1 c2 c3 c4 c5 c6 c7; simp at c0 c1 c2 c3 c4 c5 c6 c7; have hlp := cb.lt; have hW := hSw.blk HWB.out (by simp); have lW := hW.lt; have d0 := hW.at_ 0; have d1 := hW.at_ 1; have d2 := hW.at_ 2; have d3 := hW.at_ 3; have d4 := hW.at_ 4; have d5 := hW.at_ 5; have d6 := hW.at_ 6; have d7 := hW.at_ 7; simp at d0 d1 d2 d3 d4 d5 d6 d7; clear cb hW; clear hSw; go_simp; try with_reducible rfl)
   try simp only [Act.put, tdy]
   refine timed_read (i := 4) (v := ?_) 0 rfl (by kernel_rfl) (by kernel_rfl) (by kernel_rfl) (fun _ _ _ h => h) (by kernel_rfl) (by kernel_rfl) rfl (by kernel_rfl) ?_ ?_
   rotate_left
   ·(intro wq hSw; (try dsimp only at hSw); have cb := hB.out.only hSw (by simp); have c0 := cb.cell 0 (by omega); have c1 := cb.cell 1 (by omega); have c2 := cb.cell 2 (by omega); have c3 := cb.cell 3 (by omega); have c4 := cb.cell 4 (by omega); have c5 := cb.cell 5 (by omega); have c6 := cb.cell 6 (by omega); have c7 := cb.cell 7 (by omega); rw [HUS.out] at c0 c1 c2 c3 c4 c5 c6 c7; simp at c0 c1 c2 c3 c4 c5 c6 c7; have hlp := cb.lt; have hW := hSw.blk HWB.out (by simp); have lW := hW.lt; have d0 := hW.at_ 0; have d1 := hW.at_ 1; have d2 := hW.at_ 2; have d3 := hW.at_ 3; have d4 := hW.at_ 4; have d5 := hW.at_ 5; have d6 := hW.at_ 6; have d7 := hW.at_ 7; simp at d0 d1 d2 d3 d4 d5 d6 d7; clear cb hW; clear hSw; go_simp; try with_reducible rfl)
   try simp only [Act.put, tdy]
   refine timed_pure (i := 5) (v := ?_) rfl (by kernel_rfl) (by kernel_rfl) (by kernel_rfl) (fun _ _ _ h => h) (by kernel_rfl) (by kernel_rfl) ?_ ?_
   rotate_left
   ·(intro w; go_simp; try with_reducible rfl)
   try simp only [Act.put, tdy]
   refine timed_pure (i := 6) (v := ?_) rfl (by kernel_rfl) (by kernel_rfl) (by kernel_rfl) (fun _ _ _ h => h) (by kernel_rfl) (by kernel_rfl) ?_ ?_
   rotate_left
   ·(intro w; go_simp; try with_reducible rfl)
   try simp only [Act.put, tdy]
   refine timed_done (by kernel_rfl) ?_ _
   refine NoPanic.normal ?_
   have HNX := Lib.hid ( ((Only.refl [] wr).drew))
   go_wp2
   go_ret
   exact ⟨by rw [← HRES.out]; rfl, HFIN.out.only HNX.out (by simp), HOF.out.trans (HNX.out.wide (fun i hi => by cases hi))⟩
theorem meetTo_succ (ws vs : List Nat) (i : Nat) : meetTo ws vs (i + 1) = (meetTo ws vs i || decide (ws.getD i 0 &&& vs.getD i 0 ≠ 0)) := by
 unfold meetTo
 rw [List.range_succ, List.any_append]
 simp
theorem meetTo_le {ws vs : List Nat} {i k : Nat} (h : meetTo ws vs i = true) (hk : i ≤ k) : meetTo ws vs k = true := by
 unfold meetTo at h ⊢
 obtain ⟨j, hj, h⟩ := List.any_eq_true.1 h
 exact List.any_eq_true.2 ⟨j, List.mem_range.2 (by have := List.mem_range.1 hj; omega), h⟩
set_option maxRecDepth 10000 in
set_option maxHeartbeats 4000000 in
theorem meets_any (p q : Nat) (ws vs : List Nat) (w : World) (h : BSet w p ws) (k : BSet w q vs) :
  Calls Tryd.prog 30 #[.pointer (some ⟨p, 0, none⟩), .pointer (some ⟨q, 0, none⟩)] w fun e w' => e = .returned (.bool (meetTo ws vs 8)) ∧ w = w' := by
 obtain ⟨b0, b1, b2, b3, b4, b5, b6, b7, hvs⟩ := eight k.2.1
 have hidx : ∀ k : Nat, k < 8 → ∀ w, (Instr.index 65 (.agg #[.int .u64 b0, .int .u64 b1, .int .u64 b2, .int .u64 b3, .int .u64 b4, .int .u64 b5, .int .u64 b6, .int .u64 b7]) (.int .i64 (k : Int))).run Tryd.prog w = .ok (.int .u64 ((vs.getD k 0 : Nat) : Int)) w := fun k hk w => by
  rw [hvs]; exact index_word b0 b1 b2 b3 b4 b5 b6 b7 k hk w
 have HX := Lib.hid hidx
 have HBP := Lib.hid h
 have HBQ := Lib.hid k
 have c0 := k.cell 0 (by omega)
 have c1 := k.cell 1 (by omega)
 have c2 := k.cell 2 (by omega)
 have c3 := k.cell 3 (by omega)
 have c4 := k.cell 4 (by omega)
 have c5 := k.cell 5 (by omega)
 have c6 := k.cell 6 (by omega)
 have c7 := k.cell 7 (by omega)
 rw [hvs] at c0 c1 c2 c3 c4 c5 c6 c7
 simp at c0 c1 c2 c3 c4 c5 c6 c7
 have hq := k.lt
 clear hidx hvs h k
 go_enter Tryd.func30, Tryd.ntmps30
 go_wp2_with fail
 clear c0 c1 c2 c3 c4 c5 c6 c7 hq
 go_loopw [17] (fun iv wr => ∃ i : Nat, i ≤ 8 ∧ iv = .int .i64 i ∧ Hid (meetTo ws vs i = false) ∧ w = wr) (fun iv _ => 8 - (intOf iv).toNat)
 case atStart => exact ⟨0, by omega, rfl, Lib.hid rfl, rfl⟩
 case round =>
  obtain ⟨i, hi, rfl, hM, hw⟩ := hrel
  subst hw
  by_cases hlt : i < 8
  ·have hix := HX.out i hlt
   have hdk : decide ((i : Int) < 8) = true := by simp; omega
   have hdn : decide (i < 8) = true := decide_eq_true hlt
   have hi0 : (0 : Int) ≤ (i : Int) := Int.natCast_nonneg _
   have hi8 : (i : Int) < 8 := by omega
   have hce := HBP.out.cell i hlt
   have hlp := HBP.out.lt
   have hbits : bits .and .u64 ((ws.getD i 0 : Nat) : Int) ((vs.getD i 0 : Nat) : Int) = ((ws.getD i 0 &&& vs.getD i 0 : Nat) : Int) := u64_and_nat _ _ (HBP.out.2.2 i) (HBQ.out.2.2 i)
   have HMS := Lib.hid (meetTo_succ ws vs i)
   generalize ws.getD i 0 = x at *
   generalize vs.getD i 0 = y at *
   generalize hz : x &&& y = z at *
   by_cases h0 : z = 0
   ·have hb0 : (((z : Nat) : Int) != 0) = false := by simp [h0]
    have HMN : Hid (meetTo ws vs (i + 1) = false) := Lib.hid (by rw [HMS.out, hM.out]; simp [h0])
    clear hz h0
    go_wp2
    go_roundw
    case rel => first | exact ⟨i + 1, by omega, by go_num, HMN, trivial⟩ | exact ⟨i + 1, by omega, by go_num, HMN, rfl⟩
    case measure => simp [intOf]; omega
   ·have hb0 : (((z : Nat) : Int) != 0) = true := by simp [h0]
    have HMN : Hid (meetTo ws vs 8 = true) := Lib.hid (meetTo_le (i := i + 1) (by rw [HMS.out]; simp [h0]) (by omega))
    clear hz h0
    go_wp2
    go_ret
    exact ⟨by rw [HMN.out]; rfl, rfl⟩
  ·have hi8 : i = 8 := by omega
   subst hi8
   go_wp2
   go_ret
   exact ⟨by rw [hM.out]; rfl, rfl⟩
end Go.Proofs.YtlipapclbemjjaaDoor
