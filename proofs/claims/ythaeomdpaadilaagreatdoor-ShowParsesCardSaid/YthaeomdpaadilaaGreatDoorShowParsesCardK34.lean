/- Contracts of the package event: ofWord. Contracts of the package event: words, operand. -/
import Derived.Test.YthaeomdpaadilaaGreatDoorShowParsesCardK4
import Derived.Test.YthaeomdpaadilaaGreatDoorShowParsesCardK5
import Derived.Deep.CutBlock
import Derived.Deep.DeepCutAuto
import Derived.Test.YthaeomdpaadilaaGreatDoorShowParsesCardK21
set_option linter.unusedVariables false
set_option linter.unusedSimpArgs false
namespace Go.Proofs.YthaeomdpaadilaaGreatDoor
open Go.RowKit
attribute [local go_sem ↓] Go.wp_at_zero Go.wp_at_succ
theorem wK_of (j : Nat) (h : j < 6) : wK (kW ((j : Int) + 1)) = (j : Int) + 1 := by
 have h : j = 0 ∨ j = 1 ∨ j = 2 ∨ j = 3 ∨ j = 4 ∨ j = 5 := by omega
 rcases h with rfl | rfl | rfl | rfl | rfl | rfl <;> decide
theorem text_off {s t : ByteArray} (h : s ≠ t) : (s.toList == t.toList) = false := by
 rw [beq_eq_false_iff_ne, Lib.toList_data, Lib.toList_data]
 intro e
 exact h (by_inj e)
set_option maxHeartbeats 1000000 in
set_option maxRecDepth 10000 in
theorem ofWord_any (s : ByteArray) (w : World) (hV : Verbs w) : Calls Tryz.prog 70 #[.string s] w fun e w' => e = .returned (.tuple #[.agg #[.int .i64 (wK s), .string (kW (wK s)), .bool (kO (wK s))], .bool (kOk (wK s))]) ∧ Only [] w w' := by
 have hv1 := hV.only ((Only.refl [] w).alloc (.cells #[.int .i64 0, .string ⟨#[]⟩, .bool false] 103))
 have hx := verb_idx
 have HX := Lib.hid hx
 have HB := Lib.hid (Blk.made w 103 #[.int .i64 0, .string ⟨#[]⟩, .bool false])
 have HO := Lib.hid ((Only.refl [] w).alloc (.cells #[.int .i64 0, .string ⟨#[]⟩, .bool false] 103))
 have HX2 := HX
 have HV1 : Hid (World.rangeAt (w.alloc (.cells #[.int .i64 0, .string ⟨#[]⟩, .bool false] 103)) 0 0 verbC) := Lib.hid (fun j v hj => by rw [Nat.zero_add]; exact hv1.2 j v hj)
 clear hV hx hv1 HX
 go_enter Tryz.func70, Tryz.ntmps70
 go_upto_region 1 with (fail)
 refine wp_region_lit ?_
 refine wpList_load_mid rfl 134 (.global 0) rfl 0 0 rfl verbC (.array 6 103) HV1.out (by kernel_rfl) rfl (by kernel_rfl) ?_
 have hvv : Value.agg verbC.toArray = verbV := by rfl
 rw [hvv]
 have HX := HX2
 clear HX2 HV1 hvv
 generalize verbV = V at *
 go_wp2_with fail
 go_loopw [7] (fun i wr => ∃ j : Nat, i = .int .i64 j ∧ j ≤ 6 ∧ Hid (∀ m : Nat, 1 ≤ m → m ≤ j → s ≠ kW (m : Int)) ∧ Hid (Blk wr w.heap.size 103 #[.int .i64 0, .string ⟨#[]⟩, .bool false]) ∧ Hid (Only [] w wr)) (fun i _ => 6 - (intOf i).toNat)
 case atStart => exact ⟨0, rfl, by omega, Lib.hid (fun m h1 h2 => by omega), HB, HO⟩
 case round =>
  obtain ⟨j, rfl, hj, hno, hb, ho⟩ := hrel
  have h00 := ho.out.size
  have f0 := hb.out.at_ 0
  have f1 := hb.out.at_ 1
  have f2 := hb.out.at_ 2
  have g0 := hb.out.free 0
  have g1 := hb.out.free 1
  have g2 := hb.out.free 2
  simp at f0 f1 f2
  have hb0 := hb.out.lt
  by_cases hlt : j < 6
  ·have hidx := HX.out j hlt
   have h01 : (j : Int) < 6 := by omega
   have hwk : IntKind.i64.wrap ((j : Int) + 1) = (j : Int) + 1 := IntWalk.i64_in _ (by omega)
   by_cases hk : s = kW ((j : Int) + 1)
   ·have HE : Hid (wK s = (j : Int) + 1 ∧ kOk ((j : Int) + 1) = true) := Lib.hid ⟨by rw [hk]; exact wK_of j hlt, decide_eq_true (by omega)⟩
    obtain ⟨oo, hoo⟩ : ∃ oo, oo = kO ((j : Int) + 1) := ⟨_, rfl⟩
    rw [← hk, ← hoo] at hidx
    have HWW := Lib.hid hk
    have HOO := Lib.hid hoo
    have hbt : (s.toList == s.toList) = true := by simp
    clear hk hoo
    go_wp2
    have bF : Blk _ w.heap.size 103 #[.int .i64 ((j : Int) + 1), .string s, .bool oo] := ((hb.out.put 0 (.int .i64 ((j : Int) + 1))).put 1 (.string s)).put 2 (.bool oo)
    refine bodyPost_ret (results_row2 Tryz.results70 _ _ w.heap.size 103 #[.int .i64 ((j : Int) + 1), .string s, .bool oo] _ rfl (bF.alloc _) Tryz.underlying103 rfl (by kernel_rfl)) rfl ⟨by rw [HE.out.1, HE.out.2, ← HWW.out, HOO.out]; rfl, ?_⟩
    repeat (first | exact ho.out | refine Only.put ?_ (fun h => by simp only at h; omega) _ | refine Only.alloc ?_ _)
   ·have HK := Lib.hid hk
    have hbt : ((kW ((j : Int) + 1)).toList == s.toList) = false := text_off (fun e => hk e.symm)
    obtain ⟨ww, hw⟩ : ∃ ww, ww = kW ((j : Int) + 1) := ⟨_, rfl⟩
    rw [← hw] at hidx hbt
    have HWW := Lib.hid hw
    generalize kO ((j : Int) + 1) = oo at *
    clear hk hw
    go_wp2
    go_roundw
    case rel =>
     refine ⟨j + 1, by go_num, by omega, Lib.hid (fun m h1 h2 e => ?_), Lib.hid ?_, Lib.hid ?_⟩
     ·rcases Nat.lt_or_ge j m with h3 | h3
      ·have : m = j + 1 := by omega
       subst this
       exact HK.out e
      ·exact hno.out m h1 h3 e
     ·repeat (first | exact hb.out | refine Blk.far ?_ (by simp; omega) _ | refine Blk.alloc ?_ _)
     ·repeat (first | exact ho.out | refine Only.put ?_ (fun h => by simp only at h; omega) _ | refine Only.alloc ?_ _)
    case measure => simp [intOf]; omega
  ·obtain rfl : j = 6 := by omega
   have HZ : Hid (wK s = 0) := Lib.hid (by
    have q := hno.out
    have q1 := q 1 (by omega) (by omega)
    have q2 := q 2 (by omega) (by omega)
    have q3 := q 3 (by omega) (by omega)
    have q4 := q 4 (by omega) (by omega)
    have q5 := q 5 (by omega) (by omega)
    have q6 := q 6 (by omega) (by omega)
    rcases wK_cases s with ⟨e, -⟩ | ⟨e, -⟩ | ⟨e, -⟩ | ⟨e, -⟩ | ⟨e, -⟩ | ⟨e, -⟩ | ⟨e, -⟩
    ·exact absurd e q1
    ·exact absurd e q2
    ·exact absurd e q3
    ·exact absurd e q4
    ·exact absurd e q5
    ·exact absurd e q6
    ·exact e)
   go_wp2
   have bF : Blk _ w.heap.size 103 #[.int .i64 0, .string ⟨#[]⟩, .bool false] := ((hb.out.put 0 (.int .i64 0)).put 1 (.string ⟨#[]⟩)).put 2 (.bool false)
   refine bodyPost_ret (results_row2 Tryz.results70 _ _ w.heap.size 103 #[.int .i64 0, .string ⟨#[]⟩, .bool false] _ rfl bF Tryz.underlying103 rfl (by kernel_rfl)) rfl ⟨by rw [HZ.out]; rfl, ?_⟩
   repeat (first | exact ho.out | refine Only.put ?_ (fun h => by simp only at h; omega) _ | refine Only.alloc ?_ _)
end Go.Proofs.YthaeomdpaadilaaGreatDoor

set_option linter.unusedVariables false
set_option linter.unusedSimpArgs false
namespace Go.Proofs.YthaeomdpaadilaaGreatDoor
open Go.RowKit
attribute [local go_sem ↓] Go.wp_at_zero Go.wp_at_succ
theorem vwords_any (k : Int) (kw : ByteArray) (ko : Bool) (w : World) :
  Calls Tryz.prog 71 #[.agg #[.int .i64 k, .string kw, .bool ko]] w fun e w' => e = .returned (.int .i64 (if ko = true then 4 else 2)) ∧ Only [] w w' := by
 have HO := Lib.hid ((Only.refl [] w).alloc (.cells #[.int .i64 k, .string kw, .bool ko] 103))
 cases ko <;>
 ·go_enter Tryz.func71, Tryz.ntmps71
  go_wp2
  go_ret
  exact ⟨rfl, HO.out⟩
/-- What an operation's value is: its kind, its number, or an error. -/
def opE (k : Int) (s : ByteArray) : Int := if pvE (by_ s) ≠ 0 then pvE (by_ s) else if k = 3 ∧ pvK (by_ s) = 2 then 5 else if k = 3 ∧ pvK (by_ s) = 0 then 11 else 0
def opK (k : Int) (s : ByteArray) : Int := if opE k s = 0 then pvK (by_ s) else 0
def opN (k : Int) (s : ByteArray) : Int := if opE k s = 0 then pvN (by_ s) else 0
set_option maxRecDepth 10000 in
set_option maxHeartbeats 2000000 in
theorem operand_any (k : Int) (s : ByteArray) (w : World) (hs : s.size ≤ 9223372036854775807) :
  Calls Tryz.prog 72 #[.int .i64 k, .string s] w fun e w' => e = .returned (.tuple #[.agg #[.int .i64 (opK k s), .int .i64 (opN k s)], .int .i64 (opE k s)]) ∧ Only [] w w' := by
 have HP := Lib.hid (fun w' => vparse_any s w' hs)
 obtain ⟨pk, hpk⟩ : ∃ x, x = pvK s.data.toList := ⟨_, rfl⟩
 obtain ⟨pn, hpn⟩ : ∃ x, x = pvN s.data.toList := ⟨_, rfl⟩
 obtain ⟨pe, hpe⟩ : ∃ x, x = pvE s.data.toList := ⟨_, rfl⟩
 rw [← hpk, ← hpn, ← hpe] at HP
 have h1 : opE k s = if pe ≠ 0 then pe else if k = 3 ∧ pk = 2 then 5 else if k = 3 ∧ pk = 0 then 11 else 0 := by rw [hpe, hpk]; rfl
 have h2 : opK k s = if opE k s = 0 then pk else 0 := by rw [hpk]; rfl
 have h3 : opN k s = if opE k s = 0 then pn else 0 := by rw [hpn]; rfl
 clear hpk hpn hpe
 generalize opE k s = oe at *
 generalize opK k s = ok at *
 generalize opN k s = on at *
 have hcase : ((pe != 0) = true ∧ oe = pe ∧ ok = 0 ∧ on = 0) ∨ (pe = 0 ∧ k = 3 ∧ pk = 2 ∧ oe = 5 ∧ ok = 0 ∧ on = 0) ∨ (pe = 0 ∧ k = 3 ∧ pk = 0 ∧ oe = 11 ∧ ok = 0 ∧ on = 0) ∨
   (pe = 0 ∧ k = 3 ∧ (pk == 2) = false ∧ (pk == 0) = false ∧ oe = 0 ∧ ok = pk ∧ on = pn) ∨ (pe = 0 ∧ (k == 3) = false ∧ oe = 0 ∧ ok = pk ∧ on = pn) := by
  by_cases a : pe = 0
  ·by_cases b : k = 3
   ·by_cases c : pk = 2
    ·exact .inr (.inl ⟨a, b, c, by simp [h1, a, b, c], by simp [h2, h1, a, b, c], by simp [h3, h1, a, b, c]⟩)
    ·by_cases d : pk = 0
     ·exact .inr (.inr (.inl ⟨a, b, d, by simp [h1, a, b, d], by simp [h2, h1, a, b, d], by simp [h3, h1, a, b, d]⟩))
     ·exact .inr (.inr (.inr (.inl ⟨a, b, by simp [c], by simp [d], by simp [h1, a, c, d], by simp [h2, h1, a, c, d], by simp [h3, h1, a, c, d]⟩)))
   ·exact .inr (.inr (.inr (.inr ⟨a, by simp [b], by simp [h1, a, b], by simp [h2, h1, a, b], by simp [h3, h1, a, b]⟩)))
  ·exact .inl ⟨by simp [a], by simp [h1, a], by simp [h2, h1, a], by simp [h3, h1, a]⟩
 clear h1 h2 h3
 have HO := Lib.hid ((Only.refl [] w).alloc (.cells #[.int .i64 0, .int .i64 0] 45))
 have HB := Lib.hid (Blk.made w 45 #[.int .i64 0, .int .i64 0])
 rcases hcase with ⟨q1, rfl, rfl, rfl⟩ | ⟨rfl, rfl, rfl, rfl, rfl, rfl⟩ | ⟨rfl, rfl, rfl, rfl, rfl, rfl⟩ | ⟨rfl, rfl, q1, q2, rfl, rfl, rfl⟩ | ⟨rfl, q1, rfl, rfl, rfl⟩
 all_goals
  go_enter Tryz.func72, Tryz.ntmps72
  go_wp2_with fail
  refine (HP.out _).mono ?_
  rintro e w1 ⟨rfl, O1⟩
  have bR := O1.blk HB.out (by simp)
  have HO1 := Lib.hid (HO.out.trans O1)
  have lR := bR.lt
  have f0 := bR.at_ 0
  have f1 := bR.at_ 1
  have g0 := bR.free 0
  have g1 := bR.free 1
  simp at f0 f1
  have h0 := HO1.out.size
  clear O1
  go_wp2
 all_goals
  first
  | refine bodyPost_ret (results_row2 Tryz.results72 _ _ w.heap.size 45 #[.int .i64 ok, .int .i64 on] _ rfl (((bR.put 0 (.int .i64 ok)).put 1 (.int .i64 on)).alloc _) Tryz.underlying45 rfl (by kernel_rfl)) rfl ⟨rfl, ?_⟩
  | refine bodyPost_ret (results_row2 Tryz.results72 _ _ w.heap.size 45 #[.int .i64 0, .int .i64 0] _ rfl (((bR.put 0 (.int .i64 0)).put 1 (.int .i64 0)).alloc _) Tryz.underlying45 rfl (by kernel_rfl)) rfl ⟨rfl, ?_⟩
  repeat (first | exact HO1.out | refine Only.put ?_ (fun h => by simp only at h; omega) _ | refine Only.alloc ?_ _)
end Go.Proofs.YthaeomdpaadilaaGreatDoor
