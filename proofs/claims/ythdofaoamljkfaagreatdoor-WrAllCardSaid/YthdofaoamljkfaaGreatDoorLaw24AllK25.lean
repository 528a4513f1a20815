/- Parts. -/
import Derived.Test.YthdofaoamljkfaaGreatDoorLaw24AllK9
import Derived.Deep.CutBlock
import Derived.Deep.DeepCutAuto
set_option maxRecDepth 10000
set_option maxHeartbeats 16000000
set_option linter.unusedVariables false
set_option linter.unusedSimpArgs false
namespace Go.Proofs.YthdofaoamljkfaaGreatDoor
open Go.Lib
def kOk (k : Int) : Bool := decide (1 ≤ k ∧ k ≤ 6)
def kN (k : Int) : Int := if 1 ≤ k ∧ k ≤ 6 then k else 0
def kW (k : Int) : ByteArray := if k = 1 then ⟨#[98, 101, 103, 105, 110]⟩ else if k = 2 then ⟨#[114, 101, 97, 100]⟩ else if k = 3 then ⟨#[119, 114, 105, 116, 101]⟩ else if k = 4 then ⟨#[111, 107]⟩ else if k = 5 then ⟨#[102, 97, 105, 108]⟩ else if k = 6 then ⟨#[105, 110, 102, 111]⟩ else ⟨#[]⟩
def kO (k : Int) : Bool := decide (k = 2 ∨ k = 3)
def wK (s : ByteArray) : Int := if s = ⟨#[98, 101, 103, 105, 110]⟩ then 1 else if s = ⟨#[114, 101, 97, 100]⟩ then 2 else if s = ⟨#[119, 114, 105, 116, 101]⟩ then 3 else if s = ⟨#[111, 107]⟩ then 4 else if s = ⟨#[102, 97, 105, 108]⟩ then 5 else if s = ⟨#[105, 110, 102, 111]⟩ then 6 else 0
theorem kN_cases (k : Int) : (k = 1) ∨ (k = 2) ∨ (k = 3) ∨ (k = 4) ∨ (k = 5) ∨ (k = 6) ∨ (kN k = 0 ∧ kOk k = false ∧ kO k = false ∧ kW k = ⟨#[]⟩ ∧ k ≠ 1 ∧ k ≠ 2 ∧ k ≠ 3 ∧ k ≠ 4 ∧ k ≠ 5 ∧ k ≠ 6) := by
 by_cases h : 1 ≤ k ∧ k ≤ 6
 ·omega
 ·have h1 : k ≠ 1 := by omega
  have h2 : k ≠ 2 := by omega
  have h3 : k ≠ 3 := by omega
  have h4 : k ≠ 4 := by omega
  have h5 : k ≠ 5 := by omega
  have h6 : k ≠ 6 := by omega
  iterate 6 right
  refine ⟨if_neg h, decide_eq_false h, decide_eq_false (by omega), ?_, h1, h2, h3, h4, h5, h6⟩;unfold kW;rw [if_neg h1, if_neg h2, if_neg h3, if_neg h4, if_neg h5, if_neg h6]
theorem wK_cases (s : ByteArray) : (s = ⟨#[98, 101, 103, 105, 110]⟩ ∧ wK s = 1) ∨ (s = ⟨#[114, 101, 97, 100]⟩ ∧ wK s = 2) ∨ (s = ⟨#[119, 114, 105, 116, 101]⟩ ∧ wK s = 3) ∨ (s = ⟨#[111, 107]⟩ ∧ wK s = 4) ∨ (s = ⟨#[102, 97, 105, 108]⟩ ∧ wK s = 5) ∨ (s = ⟨#[105, 110, 102, 111]⟩ ∧ wK s = 6) ∨ (wK s = 0 ∧ s ≠ ⟨#[98, 101, 103, 105, 110]⟩ ∧ s ≠ ⟨#[114, 101, 97, 100]⟩ ∧ s ≠ ⟨#[119, 114, 105, 116, 101]⟩ ∧ s ≠ ⟨#[111, 107]⟩ ∧ s ≠ ⟨#[102, 97, 105, 108]⟩ ∧ s ≠ ⟨#[105, 110, 102, 111]⟩) := by
 unfold wK
 by_cases h1 : s = ⟨#[98, 101, 103, 105, 110]⟩
 ·subst h1; left; exact ⟨rfl, by decide⟩
 by_cases h2 : s = ⟨#[114, 101, 97, 100]⟩
 ·subst h2; right; left; exact ⟨rfl, by decide⟩
 by_cases h3 : s = ⟨#[119, 114, 105, 116, 101]⟩
 ·subst h3; right; right; left; exact ⟨rfl, by decide⟩
 by_cases h4 : s = ⟨#[111, 107]⟩
 ·subst h4; right; right; right; left; exact ⟨rfl, by decide⟩
 by_cases h5 : s = ⟨#[102, 97, 105, 108]⟩
 ·subst h5; right; right; right; right; left; exact ⟨rfl, by decide⟩
 by_cases h6 : s = ⟨#[105, 110, 102, 111]⟩
 ·subst h6; right; right; right; right; right; left; exact ⟨rfl, by decide⟩
 iterate 6 right
 exact ⟨by rw [if_neg h1, if_neg h2, if_neg h3, if_neg h4, if_neg h5, if_neg h6], h1, h2, h3, h4, h5, h6⟩
theorem ev_ne {s : ByteArray} {l : List UInt8} (h : s ≠ ⟨l.toArray⟩) : (s.toList == l) = false ∧ (l == s.toList) = false := by
 constructor
 all_goals
  rw [beq_eq_false_iff_ne, Lib.toList_data];intro e
 ·exact h (by_inj (e.trans List.toList_toArray.symm))
 ·exact h (by_inj (e.symm.trans List.toList_toArray.symm))
def verbC : List Value := [.int .i64 1, .string ⟨#[98, 101, 103, 105, 110]⟩, .bool false, .int .i64 2, .string ⟨#[114, 101, 97, 100]⟩, .bool true, .int .i64 3, .string ⟨#[119, 114, 105, 116, 101]⟩, .bool true, .int .i64 4, .string ⟨#[111, 107]⟩, .bool false, .int .i64 5, .string ⟨#[102, 97, 105, 108]⟩, .bool false, .int .i64 6, .string ⟨#[105, 110, 102, 111]⟩, .bool false]
def verbV : Value := .agg #[.int .i64 1, .string ⟨#[98, 101, 103, 105, 110]⟩, .bool false, .int .i64 2, .string ⟨#[114, 101, 97, 100]⟩, .bool true, .int .i64 3, .string ⟨#[119, 114, 105, 116, 101]⟩, .bool true, .int .i64 4, .string ⟨#[111, 107]⟩, .bool false, .int .i64 5, .string ⟨#[102, 97, 105, 108]⟩, .bool false, .int .i64 6, .string ⟨#[105, 110, 102, 111]⟩, .bool false]
def Verbs (w : World) : Prop := 2 < w.heap.size ∧ ∀ (i : Nat) (u : Value), verbC[i]? = some u → w.cell? ⟨2, i, none⟩ = some u
theorem Verbs.only {w w' : World} (h : Verbs w) (ho : Only [] w w') : Verbs w' :=
 ⟨Nat.lt_of_lt_of_le h.1 ho.size, fun i u hu => (ho.cell (p := ⟨2, i, none⟩) h.1 (by simp)).trans (h.2 i u hu)⟩
theorem verb_i0 (w : World) : (Instr.index 152 verbV (.int .i64 0)).run Tryz.prog w = .ok (.agg #[.int .i64 1, .string (kW 1), .bool (kO 1)]) w := by kernel_rfl
theorem verb_i1 (w : World) : (Instr.index 152 verbV (.int .i64 1)).run Tryz.prog w = .ok (.agg #[.int .i64 2, .string (kW 2), .bool (kO 2)]) w := by kernel_rfl
theorem verb_i2 (w : World) : (Instr.index 152 verbV (.int .i64 2)).run Tryz.prog w = .ok (.agg #[.int .i64 3, .string (kW 3), .bool (kO 3)]) w := by kernel_rfl
theorem verb_i3 (w : World) : (Instr.index 152 verbV (.int .i64 3)).run Tryz.prog w = .ok (.agg #[.int .i64 4, .string (kW 4), .bool (kO 4)]) w := by kernel_rfl
theorem verb_i4 (w : World) : (Instr.index 152 verbV (.int .i64 4)).run Tryz.prog w = .ok (.agg #[.int .i64 5, .string (kW 5), .bool (kO 5)]) w := by kernel_rfl
theorem verb_i5 (w : World) : (Instr.index 152 verbV (.int .i64 5)).run Tryz.prog w = .ok (.agg #[.int .i64 6, .string (kW 6), .bool (kO 6)]) w := by kernel_rfl
theorem verb_idx (j : Nat) (hj : j < 6) (w : World) : (Instr.index 152 verbV (.int .i64 (j : Int))).run Tryz.prog w = .ok (.agg #[.int .i64 ((j : Int) + 1), .string (kW ((j : Int) + 1)), .bool (kO ((j : Int) + 1))]) w := by
 have h : j = 0 ∨ j = 1 ∨ j = 2 ∨ j = 3 ∨ j = 4 ∨ j = 5 := by omega
 rcases h with rfl | rfl | rfl | rfl | rfl | rfl
 ·exact verb_i0 w
 ·exact verb_i1 w
 ·exact verb_i2 w
 ·exact verb_i3 w
 ·exact verb_i4 w
 ·exact verb_i5 w
end Go.Proofs.YthdofaoamljkfaaGreatDoor
namespace Go.Proofs.YthdofaoamljkfaaGreatDoor
open Go.RowKit
attribute [local go_sem ↓] Go.wp_at_zero Go.wp_at_succ
theorem wK_of (j : Nat) (h : j < 6) : wK (kW ((j : Int) + 1)) = (j : Int) + 1 := by
 have h : j = 0 ∨ j = 1 ∨ j = 2 ∨ j = 3 ∨ j = 4 ∨ j = 5 := by omega
 rcases h with rfl | rfl | rfl | rfl | rfl | rfl <;> decide
theorem text_off {s t : ByteArray} (h : s ≠ t) : (s.toList == t.toList) = false := by
 rw [beq_eq_false_iff_ne, Lib.toList_data, Lib.toList_data];intro e;exact h (by_inj e)
theorem ofWord_any (s : ByteArray) (w : World) (hV : Verbs w) : Calls Tryz.prog 89 #[.string s] w fun e w' => e = .returned (.tuple #[.agg #[.int .i64 (wK s), .string (kW (wK s)), .bool (kO (wK s))], .bool (kOk (wK s))]) ∧ Only [] w w' := by
 have hv1 := hV.only ((Only.refl [] w).alloc (.cells #[.int .i64 0, .string ⟨#[]⟩, .bool false] 122));have hx := verb_idx;have HX := Hd hx;have HB := Hd (Blk.made w 122 #[.int .i64 0, .string ⟨#[]⟩, .bool false]);have HO := Hd ((Only.refl [] w).alloc (.cells #[.int .i64 0, .string ⟨#[]⟩, .bool false] 122));have HX2 := HX;have HV1 : Hid (World.rangeAt (w.alloc (.cells #[.int .i64 0, .string ⟨#[]⟩, .bool false] 122)) 2 0 verbC) := Hd (fun j v hj => by rw [Nat.zero_add]; exact hv1.2 j v hj);clear hV hx hv1 HX;go_enter Tryz.func89, Tryz.ntmps89;go_upto_region 1 with (fail)
 refine wp_region_lit ?_;refine wpList_load_mid rfl 152 (.global 2) rfl 2 0 rfl verbC (.array 6 122) HV1.out (by kernel_rfl) rfl (by kernel_rfl) ?_;have hvv : Value.agg verbC.toArray = verbV := by rfl
 rw [hvv];have HX := HX2;clear HX2 HV1 hvv;generalize verbV = V at *;go_wp2_with fail
 go_loopw [7] (fun i wr => ∃ j : Nat, i = .int .i64 j ∧ j ≤ 6 ∧ Hid (∀ m : Nat, 1 ≤ m → m ≤ j → s ≠ kW (m : Int)) ∧ Hid (Blk wr w.heap.size 122 #[.int .i64 0, .string ⟨#[]⟩, .bool false]) ∧ Hid (Only [] w wr)) (fun i _ => 6 - (intOf i).toNat)
 case atStart => exact ⟨0, rfl, by omega, Hd (fun m h1 h2 => by omega), HB, HO⟩
 case round =>
  obtain ⟨j, rfl, hj, hno, hb, ho⟩ := hrel;have h00 := ho.out.size;have f0 := hb.out.at_ 0;have f1 := hb.out.at_ 1;have f2 := hb.out.at_ 2;have g0 := hb.out.free 0;have g1 := hb.out.free 1;have g2 := hb.out.free 2;simp at f0 f1 f2;have hb0 := hb.out.lt
  by_cases hlt : j < 6
  ·have hidx := HX.out j hlt;have h01 : (j : Int) < 6 := by omega
   have hwk : IntKind.i64.wrap ((j : Int) + 1) = (j : Int) + 1 := IntWalk.i64_in _ (by omega)
   by_cases hk : s = kW ((j : Int) + 1)
   ·have HE : Hid (wK s = (j : Int) + 1 ∧ kOk ((j : Int) + 1) = true) := Hd ⟨by rw [hk]; exact wK_of j hlt, decide_eq_true (by omega)⟩;obtain ⟨oo, hoo⟩ : ∃ oo, oo = kO ((j : Int) + 1) := ⟨_, rfl⟩;rw [← hk, ← hoo] at hidx;have HWW := Hd hk;have HOO := Hd hoo;have hbt : (s.toList == s.toList) = true := by simp
    clear hk hoo;go_wp2
    have bF : Blk _ w.heap.size 122 #[.int .i64 ((j : Int) + 1), .string s, .bool oo] := ((hb.out.put 0 (.int .i64 ((j : Int) + 1))).put 1 (.string s)).put 2 (.bool oo);refine bodyPost_ret (results_row2 Tryz.results89 _ _ w.heap.size 122 #[.int .i64 ((j : Int) + 1), .string s, .bool oo] _ rfl (bF.alloc _) Tryz.underlying122 rfl (by kernel_rfl)) rfl ⟨by rw [HE.out.1, HE.out.2, ← HWW.out, HOO.out]; rfl, ?_⟩
    repeat (first | exact ho.out | refine Only.put ?_ (fun h => by simp only at h; omega) _ | refine Only.alloc ?_ _)
   ·have HK := Hd hk;have hbt : ((kW ((j : Int) + 1)).toList == s.toList) = false := text_off (fun e => hk e.symm);obtain ⟨ww, hw⟩ : ∃ ww, ww = kW ((j : Int) + 1) := ⟨_, rfl⟩;rw [← hw] at hidx hbt;have HWW := Hd hw;generalize kO ((j : Int) + 1) = oo at *;clear hk hw;go_wp2
    go_roundw
    case rel =>
     refine ⟨j + 1, by go_num, by omega, Hd (fun m h1 h2 e => ?_), Hd ?_, Hd ?_⟩
     ·rcases Nat.lt_or_ge j m with h3 | h3
      ·have : m = j + 1 := by omega
       subst this;exact HK.out e
      ·exact hno.out m h1 h3 e
     ·repeat (first | exact hb.out | refine Blk.far ?_ (by simp; omega) _ | refine Blk.alloc ?_ _)
     ·repeat (first | exact ho.out | refine Only.put ?_ (fun h => by simp only at h; omega) _ | refine Only.alloc ?_ _)
    case measure => simp [intOf]; omega
  ·obtain rfl : j = 6 := by omega
   have HZ : Hid (wK s = 0) := Hd (by
    have q := hno.out;have q1 := q 1 (by omega) (by omega);have q2 := q 2 (by omega) (by omega);have q3 := q 3 (by omega) (by omega);have q4 := q 4 (by omega) (by omega);have q5 := q 5 (by omega) (by omega);have q6 := q 6 (by omega) (by omega);rcases wK_cases s with ⟨e, -⟩ | ⟨e, -⟩ | ⟨e, -⟩ | ⟨e, -⟩ | ⟨e, -⟩ | ⟨e, -⟩ | ⟨e, -⟩
    ·exact absurd e q1
    ·exact absurd e q2
    ·exact absurd e q3
    ·exact absurd e q4
    ·exact absurd e q5
    ·exact absurd e q6
    ·exact e)
   go_wp2
   have bF : Blk _ w.heap.size 122 #[.int .i64 0, .string ⟨#[]⟩, .bool false] := ((hb.out.put 0 (.int .i64 0)).put 1 (.string ⟨#[]⟩)).put 2 (.bool false);refine bodyPost_ret (results_row2 Tryz.results89 _ _ w.heap.size 122 #[.int .i64 0, .string ⟨#[]⟩, .bool false] _ rfl bF Tryz.underlying122 rfl (by kernel_rfl)) rfl ⟨by rw [HZ.out]; rfl, ?_⟩
   repeat (first | exact ho.out | refine Only.put ?_ (fun h => by simp only at h; omega) _ | refine Only.alloc ?_ _)
theorem ofKind_any (k : Int) (w : World) (hV : Verbs w) : Calls Tryz.prog 116 #[.int .i64 k] w fun e w' => e = .returned (.tuple #[.agg #[.int .i64 (kN k), .string (kW k), .bool (kO k)], .bool (kOk k)]) ∧ Only [] w w' := by
 have hv1 := hV.only ((Only.refl [] w).alloc (.cells #[.int .i64 0, .string ⟨#[]⟩, .bool false] 122));have hx := verb_idx;have HX := Hd hx;have HB := Hd (Blk.made w 122 #[.int .i64 0, .string ⟨#[]⟩, .bool false]);have HO := Hd ((Only.refl [] w).alloc (.cells #[.int .i64 0, .string ⟨#[]⟩, .bool false] 122));have HX2 := HX;have HV1 : Hid (World.rangeAt (w.alloc (.cells #[.int .i64 0, .string ⟨#[]⟩, .bool false] 122)) 2 0 verbC) := Hd (fun j v hj => by rw [Nat.zero_add]; exact hv1.2 j v hj);clear hV hx hv1 HX;go_enter Tryz.func116, Tryz.ntmps116;go_upto_region 1 with (fail)
 refine wp_region_lit ?_;refine wpList_load_mid rfl 152 (.global 2) rfl 2 0 rfl verbC (.array 6 122) HV1.out (by kernel_rfl) rfl (by kernel_rfl) ?_;have hvv : Value.agg verbC.toArray = verbV := by rfl
 rw [hvv];have HX := HX2;clear HX2 HV1 hvv;generalize verbV = V at *;go_wp2_with fail
 go_loopw [7] (fun i wr => ∃ j : Nat, i = .int .i64 j ∧ j ≤ 6 ∧ Hid (∀ m : Nat, 1 ≤ m → m ≤ j → k ≠ (m : Int)) ∧ Hid (Blk wr w.heap.size 122 #[.int .i64 0, .string ⟨#[]⟩, .bool false]) ∧ Hid (Only [] w wr)) (fun i _ => 6 - (intOf i).toNat)
 case atStart => exact ⟨0, rfl, by omega, Hd (fun m h1 h2 => by omega), HB, HO⟩
 case round =>
  obtain ⟨j, rfl, hj, hno, hb, ho⟩ := hrel;have h00 := ho.out.size;have f0 := hb.out.at_ 0;have f1 := hb.out.at_ 1;have f2 := hb.out.at_ 2;have g0 := hb.out.free 0;have g1 := hb.out.free 1;have g2 := hb.out.free 2;simp at f0 f1 f2;have hb0 := hb.out.lt
  by_cases hlt : j < 6
  ·have hidx := HX.out j hlt;have h01 : (j : Int) < 6 := by omega
   have hwk : IntKind.i64.wrap ((j : Int) + 1) = (j : Int) + 1 := IntWalk.i64_in _ (by omega)
   by_cases hk : k = (j : Int) + 1
   ·subst hk;have hbt : ((j : Int) + 1 == (j : Int) + 1) = true := by simp
    have HE : Hid (kN ((j : Int) + 1) = (j : Int) + 1 ∧ kOk ((j : Int) + 1) = true) := Hd ⟨if_pos (by omega), decide_eq_true (by omega)⟩;obtain ⟨ww, hw⟩ : ∃ ww, ww = kW ((j : Int) + 1) := ⟨_, rfl⟩;obtain ⟨oo, hoo⟩ : ∃ oo, oo = kO ((j : Int) + 1) := ⟨_, rfl⟩;rw [← hw, ← hoo] at hidx;have HWW := Hd hw;have HOO := Hd hoo;clear hw hoo;go_wp2
    have bF : Blk _ w.heap.size 122 #[.int .i64 ((j : Int) + 1), .string ww, .bool oo] := ((hb.out.put 0 (.int .i64 ((j : Int) + 1))).put 1 (.string ww)).put 2 (.bool oo);refine bodyPost_ret (results_row2 Tryz.results116 _ _ w.heap.size 122 #[.int .i64 ((j : Int) + 1), .string ww, .bool oo] _ rfl (bF.alloc _) Tryz.underlying122 rfl (by kernel_rfl)) rfl ⟨by rw [HE.out.1, HE.out.2, HWW.out, HOO.out]; rfl, ?_⟩
    repeat (first | exact ho.out | refine Only.put ?_ (fun h => by simp only at h; omega) _ | refine Only.alloc ?_ _)
   ·have hbt : ((j : Int) + 1 == k) = false := by simp; omega
    have HK := Hd hk;clear hk;go_wp2
    go_roundw
    case rel =>
     refine ⟨j + 1, by go_num, by omega, Hd (fun m h1 h2 e => ?_), Hd ?_, Hd ?_⟩
     ·rcases Nat.lt_or_ge j m with h3 | h3
      ·have : m = j + 1 := by omega
       subst this;exact HK.out (by rw [e]; omega)
      ·exact hno.out m h1 h3 e
     ·repeat (first | exact hb.out | refine Blk.far ?_ (by simp; omega) _ | refine Blk.alloc ?_ _)
     ·repeat (first | exact ho.out | refine Only.put ?_ (fun h => by simp only at h; omega) _ | refine Only.alloc ?_ _)
    case measure => simp [intOf]; omega
  ·obtain rfl : j = 6 := by omega
   have HZ : Hid (kN k = 0 ∧ kOk k = false ∧ kO k = false ∧ kW k = ⟨#[]⟩) := Hd (by
    have q := hno.out;have q1 := q 1 (by omega) (by omega);have q2 := q 2 (by omega) (by omega);have q3 := q 3 (by omega) (by omega);have q4 := q 4 (by omega) (by omega);have q5 := q 5 (by omega) (by omega);have q6 := q 6 (by omega) (by omega);rcases kN_cases k with e | e | e | e | e | e | ⟨e1, e2, e3, e4, -⟩
    ·exact absurd e q1
    ·exact absurd e q2
    ·exact absurd e q3
    ·exact absurd e q4
    ·exact absurd e q5
    ·exact absurd e q6
    ·exact ⟨e1, e2, e3, e4⟩)
   go_wp2
   have bF : Blk _ w.heap.size 122 #[.int .i64 0, .string ⟨#[]⟩, .bool false] := ((hb.out.put 0 (.int .i64 0)).put 1 (.string ⟨#[]⟩)).put 2 (.bool false);refine bodyPost_ret (results_row2 Tryz.results116 _ _ w.heap.size 122 #[.int .i64 0, .string ⟨#[]⟩, .bool false] _ rfl bF Tryz.underlying122 rfl (by kernel_rfl)) rfl ⟨by rw [HZ.out.1, HZ.out.2.1, HZ.out.2.2.1, HZ.out.2.2.2]; rfl, ?_⟩
   repeat (first | exact ho.out | refine Only.put ?_ (fun h => by simp only at h; omega) _ | refine Only.alloc ?_ _)
end Go.Proofs.YthdofaoamljkfaaGreatDoor
namespace Go.Proofs.YthdofaoamljkfaaGreatDoor
open Go.RowKit
open Go.Lib hiding intOf
attribute [local go_sem ↓] Go.wp_at_zero Go.wp_at_succ
def evOk (k : Int) (s y : ByteArray) (vk vn : Int) : Bool :=
 kOk k && isName s && (if kO k = true then (!(decide (k = 3) && decide (vk ≠ 1)) && (isName y && mayB vk vn)) else (decide (y = ⟨#[]⟩) && decide (vk = 0 ∧ vn = 0)))
theorem evmay_any (k : Int) (s y : ByteArray) (vk vn ln : Int) (w : World) (hs : s.size ≤ 9223372036854775807) (hy : y.size ≤ 9223372036854775807) (hT : UTabs w) (hV : Verbs w) :
  Calls Tryz.prog 107 #[.agg #[.int .i64 k, .string s, .string y, .int .i64 vk, .int .i64 vn, .int .i64 ln]] w fun e w' => e = .returned (.bool (evOk k s y vk vn)) ∧ Only [] w w' := by
 obtain ⟨r, hr⟩ : ∃ r, r = evOk k s y vk vn := ⟨_, rfl⟩;rw [← hr];have HK := Hd (fun w' (hO : Only [] w w') => ofKind_any k w' (hV.only hO));have HS := Hd (fun w' (hO : Only [] w w') => is_any s w' hs (hT.only hO));have HY := Hd (fun w' (hO : Only [] w w') => is_any y w' hy (hT.only hO));have HM := Hd (fun w' => vmay_any vk vn w');obtain ⟨kk, hkk⟩ : ∃ x, x = kN k := ⟨_, rfl⟩;obtain ⟨kw, hkw⟩ : ∃ x, x = kW k := ⟨_, rfl⟩;obtain ⟨ko, hko⟩ : ∃ x, x = kO k := ⟨_, rfl⟩;obtain ⟨is, his⟩ : ∃ x, x = kOk k := ⟨_, rfl⟩;obtain ⟨ns, hns⟩ : ∃ x, x = isName s := ⟨_, rfl⟩;obtain ⟨ny, hny⟩ : ∃ x, x = isName y := ⟨_, rfl⟩;obtain ⟨mv, hmv⟩ : ∃ x, x = mayB vk vn := ⟨_, rfl⟩;unfold evOk at hr;rw [← hko, ← his, ← hns, ← hny, ← hmv] at hr;rw [← hkk, ← hkw, ← hko, ← his] at HK;rw [← hns] at HS;rw [← hny] at HY;rw [← hmv] at HM;have HR := Hd hr;have bE := Blk.made w 104 #[.int .i64 k, .string s, .string y, .int .i64 vk, .int .i64 vn, .int .i64 ln];have HO := Hd ((Only.refl [] w).alloc (.cells #[.int .i64 k, .string s, .string y, .int .i64 vk, .int .i64 vn, .int .i64 ln] 104));have HE := Hd bE;clear hr hkk hkw hko his hns hny hmv hs hy hT hV bE;go_enter Tryz.func107, Tryz.ntmps107;go_wp2_with fail
 refine (HK.out _ HO.out).mono ?_;rintro e w1 ⟨rfl, O1⟩;have HO1 := Hd ((HO.out.trans O1).alloc (.cells #[.int .i64 kk, .string kw, .bool ko] 122));have HE1 := Hd ((O1.blk HE.out (by simp)).alloc (.cells #[.int .i64 kk, .string kw, .bool ko] 122));have HV1 := Hd (Blk.made w1 122 #[.int .i64 kk, .string kw, .bool ko]);have hw1 := HO1.out.size;have e1 := (O1.blk HE.out (by simp)).at_ 1;have l1 := (O1.blk HE.out (by simp)).lt;simp at e1;clear O1
 cases is with
 | false =>
  go_wp2
  go_ret
  exact ⟨by rw [HR.out]; rfl, HO1.out⟩
 | true =>
  go_wp2_with fail
  refine (HS.out _ HO1.out).mono ?_;rintro e w2 ⟨rfl, O2⟩;have HO2 := Hd (HO1.out.trans O2);have bE2 := O2.blk HE1.out (by simp);have bV2 := O2.blk HV1.out (by simp);clear e1 l1 O2;have lE := bE2.lt;have lV := bV2.lt;have f0 := bE2.at_ 0;have f2 := bE2.at_ 2;have f3 := bE2.at_ 3;have f4 := bE2.at_ 4;have v2 := bV2.at_ 2;simp at f0 f2 f3 f4 v2
  cases ns with
  | false =>
   go_wp2
   go_ret
   exact ⟨by rw [HR.out]; rfl, HO2.out⟩
  | true =>
   cases ko with
   | false =>
    by_cases hy0 : y = ⟨#[]⟩
    ·subst hy0
     by_cases h1 : vk = 0
     ·subst h1
      by_cases h2 : vn = 0
      ·subst h2;go_wp2
       go_ret
       exact ⟨by rw [HR.out]; rfl, HO2.out⟩
      ·have h2' : (vn == 0) = false := by simpa using h2
       have HX := Hd h2;clear h2;go_wp2
       go_ret
       exact ⟨by rw [HR.out]; simp [HX.out], HO2.out⟩
     ·have h1' : (vk == 0) = false := by simpa using h1
      have HX := Hd h1;clear h1;go_wp2
      go_ret
      exact ⟨by rw [HR.out]; simp [HX.out], HO2.out⟩
    ·have h0' : (y.toList == []) = false := (ev_ne (l := []) hy0).1;have HX := Hd hy0;clear hy0;go_wp2
     go_ret
     exact ⟨by rw [HR.out]; simp [HX.out], HO2.out⟩
   | true =>
    have HRK : Hid (r = (!(decide (k = 3) && decide (vk ≠ 1)) && (ny && mv))) := Hd (by rw [HR.out]; simp);have hcase : (k = 3 ∧ (vk != 1) = true ∧ r = false) ∨ (k = 3 ∧ vk = 1 ∧ r = (ny && mv)) ∨ ((k == 3) = false ∧ r = (ny && mv)) := by
     rw [HRK.out]
     by_cases h3 : k = 3
     ·by_cases h1 : vk = 1
      ·exact .inr (.inl ⟨h3, h1, by simp [h3, h1]⟩)
      ·exact .inl ⟨h3, by simp [h1], by simp [h3, h1]⟩
     ·exact .inr (.inr ⟨by simp [h3], by simp [h3]⟩)
    clear HRK;rcases hcase with ⟨rfl, q2, q3⟩ | ⟨rfl, rfl, q3⟩ | ⟨q1, q3⟩
    ·have HQ := Hd q3;clear q3;go_wp2
     go_ret
     exact ⟨by rw [HQ.out]; rfl, HO2.out⟩
    all_goals
     have HQ := Hd q3;clear q3;go_wp2_with fail
     refine (HY.out _ HO2.out).mono ?_;rintro e w3 ⟨rfl, O3⟩;have HO3 := Hd (HO2.out.trans O3);have bE3 := O3.blk bE2 (by simp);clear f0 f2 f3 f4 v2 lE lV O3;have lE := bE3.lt;have f3 := bE3.at_ 3;have f4 := bE3.at_ 4;simp at f3 f4
     cases ny with
     | false =>
      go_wp2
      go_ret
      exact ⟨by rw [HQ.out]; rfl, HO3.out⟩
     | true =>
      go_wp2_with fail
      refine (HM.out _).mono ?_;rintro e w4 ⟨rfl, O4⟩;have HO4 := Hd (HO3.out.trans O4);clear O4;go_wp2
      go_ret
      exact ⟨by rw [HQ.out]; rfl, HO4.out⟩
end Go.Proofs.YthdofaoamljkfaaGreatDoor
