/- Parts. -/
import Derived.Test.YtoojabllolnhnaaDoorLaw22AllK33
import Derived.Test.YtoojabllolnhnaaDoorLaw22AllK34
set_option maxRecDepth 10000
set_option maxHeartbeats 16000000
set_option linter.unusedVariables false
set_option linter.unusedSimpArgs false
namespace Go.Proofs.YtoojabllolnhnaaDoor
open Go.RowKit
attribute [local go_sem ↓] Go.wp_at_zero Go.wp_at_succ
theorem ex_least : leastR 3 [(2, 0)] = ([1, 2, 0], 0) := by kernel_rfl
theorem ex_count : countR 3 [(2, 0)] = (3, 0) := by kernel_rfl
theorem ex_order : isT [1, 2, 0] [(2, 0)] = true := by kernel_rfl
theorem works22_any (w : World) (hT : Tab w) (h00 : 0 < w.heap.size) : Calls Tryd.prog 11 #[] w fun e w' => e = .returned (.bool true) ∧ Only [] w w' := by
 have HE := Hd (fun (W : World) (O : Only [] w W) => (Only.refl [] W).alloc (.cells #[.int .i64 2, .int .i64 0] 46));have HL := Hd (fun (W : World) (O : Only [] w W) => by
  have := tleast_any 3 (some ⟨W.heap.size, 0, none⟩) 1 1 [(2, 0)] _ (by rw [World.size_alloc]; exact row_lit W 46 #[.int .i64 2, .int .i64 0]) rfl (by omega) (hT.only h00 (O.alloc (.cells #[.int .i64 2, .int .i64 0] 46)) (by simp)) (by simp);rw [ex_least] at this;exact this)
 have HC := Hd (fun (W : World) (O : Only [] w W) => by
  have := tcount_any 3 (some ⟨W.heap.size, 0, none⟩) 1 1 [(2, 0)] _ (by rw [World.size_alloc]; exact row_lit W 46 #[.int .i64 2, .int .i64 0]) rfl (by omega) (hT.only h00 (O.alloc (.cells #[.int .i64 2, .int .i64 0] 46)) (by simp)) (by simp);rw [ex_count] at this;exact this)
 have HI := Hd (fun (A : Option Addr) (c B : Nat) (W : World) (O : Only [] w W) (hz : Row W B A ([1, 2, 0].map (Value.int .i64))) => by
  have := tis_any A 3 c B [1, 2, 0] (some ⟨W.heap.size, 0, none⟩) 1 1 [(2, 0)] _ (hz.only ((Only.refl [] W).alloc (.cells #[.int .i64 2, .int .i64 0] 46)) (by simp)) rfl (by rw [World.size_alloc]; exact row_lit W 46 #[.int .i64 2, .int .i64 0]) rfl (by omega) (by omega);rw [ex_order] at this;exact this)
 dsimp only at HL HC;clear hT;go_enter Tryd.func11, Tryd.ntmps11;go_wp2_with fail
 refine (HL.out w (Only.refl [] w)).mono ?_;rintro e w1 ⟨A1, c1, ⟨rfl, hv⟩, O1⟩;have HV1 := Hd hv;have HO1 := Hd ((HE.out w (Only.refl [] w)).trans O1);clear hv O1 HL;go_wp2_with fail
 refine (HC.out w1 HO1.out).mono ?_;rintro e w2 ⟨rfl, O2⟩;have O12 := (HE.out w1 HO1.out).trans O2;have HV2 := Hd (own_only HV1.out O12 (by simp));have HO2 := Hd (HO1.out.trans O12);clear O2 O12 HC HV1 HO1;go_wp2_with fail
 have O3 : Only [] w2 (w2.alloc (.cells #[.int .i64 1, .int .i64 2, .int .i64 0] 3)) := (Only.refl [] w2).alloc _;have HR2 := Hd (row_of_own (own_only HV2.out O3 (by simp)));refine (sameInts_any A1 (some ⟨w2.heap.size, 0, none⟩) 3 3 c1 3 [1, 2, 0] [1, 2, 0] _ _ _ HR2.out (row_lit w2 3 #[.int .i64 1, .int .i64 2, .int .i64 0]) rfl rfl (by omega) (by omega)).mono ?_;rintro e w3 ⟨rfl, kd, rfl⟩;have O4 := O3.drewN kd;have HO3 := Hd (HO2.out.trans O4);have HV3 := Hd (own_only HV2.out O4 (by simp));clear O3 O4 HR2 HV2 HO2;generalize (w2.alloc (.cells #[.int .i64 1, .int .i64 2, .int .i64 0] 3)).drewN kd = w3 at *;go_wp2_with fail
 refine (HI.out A1 c1 _ w3 HO3.out (row_of_own HV3.out)).mono ?_;rintro e w5 ⟨rfl, O5⟩;have HO5 := Hd (HO3.out.trans ((HE.out w3 HO3.out).trans O5));clear O5;go_wp2
 go_ret
 exact ⟨rfl, HO5.out⟩
end Go.Proofs.YtoojabllolnhnaaDoor
namespace Go.Proofs.YtoojabllolnhnaaDoor
open Go.RowKit
theorem rmay19_any (n : Int) (A : Option Addr) (m c : Nat) (l : List (Int × Int)) (w : World) (hr : Row w w.heap.size A (edgeC l)) (hl : l.length = m) (hm : m ≤ 1000000) :
  Calls Tryd.prog 10 #[.int .i64 n, .slice A m c] w fun e w' => e = .returned (.bool (mayL n l)) ∧ w = w' := by
 by_cases hn : n < 0 ∨ 500 < n
 ·have : mayL n l = false := by unfold mayL; rw [decide_eq_false (by omega)]; rfl
  rw [this];exact rmay_out n A m c w hn
 ·obtain ⟨q, rfl⟩ : ∃ q : Nat, n = q := ⟨n.toNat, by omega⟩;have : mayL (q : Int) l = l.all (goodE q) := by unfold mayL; rw [decide_eq_true (by omega), Bool.true_and, Int.toNat_natCast]
  rw [this];exact rmay_in q A m c l w (by omega) hr hl hm
end Go.Proofs.YtoojabllolnhnaaDoor
