/- Contracts of the package event: ofKind. -/
import Derived.Test.YtojlaphklkomfaaDoorPairManyCardK12
import Derived.Test.YtojlaphklkomfaaDoorPairManyCardK13
import Derived.Deep.CutBlock
import Derived.Deep.DeepCutAuto
set_option linter.unusedVariables false
set_option linter.unusedSimpArgs false
namespace Go.Proofs.YtojlaphklkomfaaDoor
open Go.RowKit
attribute [local go_sem ↓] Go.wp_at_zero Go.wp_at_succ

set_option maxHeartbeats 1000000 in
set_option maxRecDepth 10000 in
theorem ofKind_any (k : Int) (w : World) (hV : Verbs w) : Calls Tryd.prog 47 #[.int .i64 k] w fun e w' => e = .returned (.tuple #[.agg #[.int .i64 (kN k), .string (kW k), .bool (kO k)], .bool (kOk k)]) ∧ Only [] w w' := by
  have hv1 := hV.only ((Only.refl [] w).alloc (.cells #[.int .i64 0, .string ⟨#[]⟩, .bool false] 85))
  have hx := verb_idx
  have HX := Lib.hid hx
  have HB := Lib.hid (Blk.made w 85 #[.int .i64 0, .string ⟨#[]⟩, .bool false])
  have HO := Lib.hid ((Only.refl [] w).alloc (.cells #[.int .i64 0, .string ⟨#[]⟩, .bool false] 85))
  have HX2 := HX
  have HV1 : Hid (World.rangeAt (w.alloc (.cells #[.int .i64 0, .string ⟨#[]⟩, .bool false] 85)) 0 0 verbC) := Lib.hid (fun j v hj => by rw [Nat.zero_add]; exact hv1.2 j v hj)
  clear hV hx hv1 HX
  go_enter Tryd.func47, Tryd.ntmps47
  go_upto_region 1 with (fail)
  refine wp_region_lit ?_
  refine wpList_load_mid rfl 97 (.global 0) rfl 0 0 rfl verbC (.array 6 85) HV1.out (by kernel_rfl) rfl (by kernel_rfl) ?_
  have hvv : Value.agg verbC.toArray = verbV := by rfl
  rw [hvv]
  have HX := HX2
  clear HX2 HV1 hvv
  generalize verbV = V at *
  go_wp2_with fail
  go_loopw [7] (fun i wr => ∃ j : Nat, i = .int .i64 j ∧ j ≤ 6 ∧ Hid (∀ m : Nat, 1 ≤ m → m ≤ j → k ≠ (m : Int)) ∧ Hid (Blk wr w.heap.size 85 #[.int .i64 0, .string ⟨#[]⟩, .bool false]) ∧ Hid (Only [] w wr)) (fun i _ => 6 - (intOf i).toNat)
  case atStart => exact ⟨0, rfl, by omega, Lib.hid (fun m h1 h2 => by omega), HB, HO⟩
  case round =>
    obtain ⟨j, rfl, hj, hno, hb, ho⟩ := hrel
    have h00 := ho.out.size
    have f0 := hb.out.at_ 0
    have f1 := hb.out.at_ 1
    have f2 := hb.out.at_ 2
    have g0 := hb.out.free 0
    have g1 := hb.out.free 1
    have g2 := hb.out.free 2
    simp at f0 f1 f2
    have hb0 := hb.out.lt
    by_cases hlt : j < 6
    · have hidx := HX.out j hlt
      have h01 : (j : Int) < 6 := by omega
      have hwk : IntKind.i64.wrap ((j : Int) + 1) = (j : Int) + 1 := IntWalk.i64_in _ (by omega)
      by_cases hk : k = (j : Int) + 1
      · subst hk
        have hbt : ((j : Int) + 1 == (j : Int) + 1) = true := by simp
        have HE : Hid (kN ((j : Int) + 1) = (j : Int) + 1 ∧ kOk ((j : Int) + 1) = true) := Lib.hid ⟨if_pos (by omega), decide_eq_true (by omega)⟩
        obtain ⟨ww, hw⟩ : ∃ ww, ww = kW ((j : Int) + 1) := ⟨_, rfl⟩
        obtain ⟨oo, hoo⟩ : ∃ oo, oo = kO ((j : Int) + 1) := ⟨_, rfl⟩
        rw [← hw, ← hoo] at hidx
        have HWW := Lib.hid hw
        have HOO := Lib.hid hoo
        clear hw hoo
        go_wp2
        have bF : Blk _ w.heap.size 85 #[.int .i64 ((j : Int) + 1), .string ww, .bool oo] := ((hb.out.put 0 (.int .i64 ((j : Int) + 1))).put 1 (.string ww)).put 2 (.bool oo)
        refine bodyPost_ret (results_row2 Tryd.results47 _ _ w.heap.size 85 #[.int .i64 ((j : Int) + 1), .string ww, .bool oo] _ rfl (bF.alloc _) Tryd.underlying85 rfl (by kernel_rfl)) rfl ⟨by rw [HE.out.1, HE.out.2, HWW.out, HOO.out]; rfl, ?_⟩
        repeat (first | exact ho.out | refine Only.put ?_ (fun h => by simp only at h; omega) _ | refine Only.alloc ?_ _)
      · have hbt : ((j : Int) + 1 == k) = false := by simp; omega
        have HK := Lib.hid hk
        clear hk
        go_wp2
        go_roundw
        case rel =>
          refine ⟨j + 1, by go_num, by omega, Lib.hid (fun m h1 h2 e => ?_), Lib.hid ?_, Lib.hid ?_⟩
          · rcases Nat.lt_or_ge j m with h3 | h3
            · have : m = j + 1 := by omega
              subst this
              exact HK.out (by rw [e]; omega)
            · exact hno.out m h1 h3 e
          · repeat (first | exact hb.out | refine Blk.far ?_ (by simp; omega) _ | refine Blk.alloc ?_ _)
          · repeat (first | exact ho.out | refine Only.put ?_ (fun h => by simp only at h; omega) _ | refine Only.alloc ?_ _)
        case measure => simp [intOf]; omega
    · obtain rfl : j = 6 := by omega
      have HZ : Hid (kN k = 0 ∧ kOk k = false ∧ kO k = false ∧ kW k = ⟨#[]⟩) := Lib.hid (by
        have q := hno.out
        have q1 := q 1 (by omega) (by omega)
        have q2 := q 2 (by omega) (by omega)
        have q3 := q 3 (by omega) (by omega)
        have q4 := q 4 (by omega) (by omega)
        have q5 := q 5 (by omega) (by omega)
        have q6 := q 6 (by omega) (by omega)
        rcases kN_cases k with e | e | e | e | e | e | ⟨e1, e2, e3, e4, -⟩
        · exact absurd e q1
        · exact absurd e q2
        · exact absurd e q3
        · exact absurd e q4
        · exact absurd e q5
        · exact absurd e q6
        · exact ⟨e1, e2, e3, e4⟩)
      go_wp2
      have bF : Blk _ w.heap.size 85 #[.int .i64 0, .string ⟨#[]⟩, .bool false] := ((hb.out.put 0 (.int .i64 0)).put 1 (.string ⟨#[]⟩)).put 2 (.bool false)
      refine bodyPost_ret (results_row2 Tryd.results47 _ _ w.heap.size 85 #[.int .i64 0, .string ⟨#[]⟩, .bool false] _ rfl bF Tryd.underlying85 rfl (by kernel_rfl)) rfl ⟨by rw [HZ.out.1, HZ.out.2.1, HZ.out.2.2.1, HZ.out.2.2.2]; rfl, ?_⟩
      repeat (first | exact ho.out | refine Only.put ?_ (fun h => by simp only at h; omega) _ | refine Only.alloc ?_ _)

end Go.Proofs.YtojlaphklkomfaaDoor
