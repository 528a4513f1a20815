/- Structs that a call answers: a result that lies in a variable of several cells, with one or two plain results behind it; frames of stores into new blocks. Contracts of the package event: ofKind. Contracts of the package name: digit, may, Reserved; the document's Reserved. -/
import Derived.Test.YthaeomdpaadilaaGreatDoorShowParsesCardK1
import Derived.Deep.MidRow
import Derived.Laws.ResultCell
import Derived.Laws.IdiomCopy
import Derived.Test.YthaeomdpaadilaaGreatDoorShowParsesCardK4
import Derived.Deep.CutBlock
import Derived.Deep.DeepCutAuto
import Derived.Test.YthaeomdpaadilaaGreatDoorShowParsesCardK3
import Derived.OwnWalk
set_option linter.unusedVariables false
set_option linter.unusedSimpArgs false
namespace Go.Proofs.YthaeomdpaadilaaGreatDoor
open Go.RowKit
section
variable {P : Program}
theorem results_row1 {fn : Func} {p : Tmp} {ty : TypeId} (h : fn.results = #[.cell p ty]) (tmps : Array Value) (w : World) (g : Nat) (t : TypeId) (cs : Array Value) (d : TypeDesc)
  (hp : tmps.getD p undef = .pointer (some ⟨g, 0, none⟩)) (hg : Blk w g t cs) (hu : P.underlying ty = some d) (hd : d.isRow = true) (hi : (P.info? ty).map (·.size) = some cs.size) :
  (results fn tmps).run P w = .ok (.agg cs) w :=
 results_cell_row h tmps w g t cs (0, 0) d hp hg hu (by cases d <;> simp_all) hi
theorem results_row2 {fn : Func} {p u : Tmp} {ty : TypeId} (h : fn.results = #[.cell p ty, .tmp u]) (tmps : Array Value) (w : World) (g : Nat) (t : TypeId) (cs : Array Value) (d : TypeDesc)
  (hp : tmps.getD p undef = .pointer (some ⟨g, 0, none⟩)) (hg : Blk w g t cs) (hu : P.underlying ty = some d) (hd : d.isRow = true) (hi : (P.info? ty).map (·.size) = some cs.size) :
  (results fn tmps).run P w = .ok (.tuple #[.agg cs, tmps.getD u undef]) w := by
 have hl := run_loadVar_row (P := P) w g t ty cs (0, 0) d hg hu (by cases d <;> simp_all) hi
 rw [results_cell_tmp h, hp]
 simp [asAddr, hl, Result.andThen]
theorem results_row3 {fn : Func} {p u v : Tmp} {ty : TypeId} (h : fn.results = #[.cell p ty, .tmp u, .tmp v]) (tmps : Array Value) (w : World) (g : Nat) (t : TypeId) (cs : Array Value) (d : TypeDesc)
  (hp : tmps.getD p undef = .pointer (some ⟨g, 0, none⟩)) (hg : Blk w g t cs) (hu : P.underlying ty = some d) (hd : d.isRow = true) (hi : (P.info? ty).map (·.size) = some cs.size) :
  (results fn tmps).run P w = .ok (.tuple #[.agg cs, tmps.getD u undef, tmps.getD v undef]) w := by
 have hp' : tmps[p]?.getD undef = .pointer (some ⟨g, 0, none⟩) := by simpa using hp
 have hl := run_loadVar_row (P := P) w g t ty cs (0, 0) d hg hu (by cases d <;> simp_all) hi
 simp only [results, h]
 simp [Sem.run_bind, Result.andThen, hp', asAddr, hl]
end
/-- A whole struct stored into its own block. -/
theorem Blk.there {w : World} {g : Nat} {t : TypeId} {cs : Array Value} (h : Blk w g t cs) : w.there g 0 cs.size := fun j hj => by
 rw [Nat.zero_add]
 exact ⟨by rw [h.at_ j]; simp [hj], h.free j⟩
theorem setCells_only (g : Nat) : ∀ (vs : List Value) (o : Nat) (S : List Nat) (w w' : World), Only S w w' → (g < w.heap.size → g ∈ S) → Only S w (w'.setCells g o vs)
 | [], _, _, _, _, h, _ => h
 | v :: vs, o, S, w, w', h, hg => setCells_only g vs (o + 1) S w _ (h.put (p := ⟨g, o, none⟩) hg v) hg
theorem Only.putAll {S : List Nat} {w w' : World} (h : Only S w w') {g : Nat} (hg : g < w.heap.size → g ∈ S) (vs : List Value) : Only S w (w'.setCells g 0 vs) := setCells_only g vs 0 S w w' h hg
theorem setCells_blk (g : Nat) (t : TypeId) : ∀ (vs : List Value) (o : Nat) (w : World) (cs : Array Value), Blk w g t cs → o + vs.length = cs.size → Blk (w.setCells g o vs) g t (cs.toList.take o ++ vs).toArray
 | [], o, w, cs, h, hl => by
  have e : (cs.toList.take o ++ []).toArray = cs := by
   rw [List.append_nil, List.take_of_length_le (by simp at hl ⊢; omega)]
  rw [e]
  exact h
 | v :: vs, o, w, cs, h, hl => by
  have h1 := h.put o v
  have hl2 : o < cs.size := by simp at hl; omega
  have h2 := setCells_blk g t vs (o + 1) _ _ h1 (by simp at hl ⊢; omega)
  have e : (cs.setIfInBounds o v).toList.take (o + 1) ++ vs = cs.toList.take o ++ v :: vs := by
   rw [Array.toList_setIfInBounds, List.take_add_one, List.take_set_of_le (by omega)]
   simp [hl2]
  rw [e] at h2
  exact h2
theorem Blk.putAll {w : World} {g : Nat} {t : TypeId} {cs : Array Value} (h : Blk w g t cs) (vs : List Value) (hl : vs.length = cs.size) : Blk (w.setCells g 0 vs) g t vs.toArray := by
 have := setCells_blk g t vs 0 w cs h (by simpa using hl)
 simpa using this
theorem Blk.range {w : World} {g : Nat} {t : TypeId} {cs : Array Value} (h : Blk w g t cs) : w.rangeAt g 0 cs.toList := fun j v hj => by
 rw [Nat.zero_add, h.at_ j]
 simpa using hj
/-- A whole struct stored, in a region that draws. -/
theorem wp_store_blk {P : Program} {op : Oper} {a : Act} {w : World} {K : Act → World → Prop} {Q : Exit → Act → World → Prop} (ty : TypeId) (x y : Operand) (ho : op.op = .store ty x y)
  (g : Nat) (t : TypeId) (cs cells : Array Value) (hx : a.eval x = .pointer (some ⟨g, 0, none⟩)) (hy : a.eval y = .agg cells)
  (hb : Blk w g t cs) (hl : cells.size = cs.size) (hi : (P.info? ty).map (·.size) = some cells.size) (h1 : cells.all (·.oneCell') = true)
  (h : ∀ w', Blk w' g t cells → Only [g] w w' → K (a.put op.dst undef) w') : op.wp P a w K Q :=
 wp_store_mid ty x y ho g 0 cells hx hy (by rw [hl]; exact hb.there) hi h1 (h _ (by have := hb.putAll cells.toList (by simpa using hl); simpa using this) ((Only.refl [g] w).putAll (fun _ => by simp) _))
end Go.Proofs.YthaeomdpaadilaaGreatDoor

set_option linter.unusedVariables false
set_option linter.unusedSimpArgs false
namespace Go.Proofs.YthaeomdpaadilaaGreatDoor
open Go.RowKit
attribute [local go_sem ↓] Go.wp_at_zero Go.wp_at_succ
set_option maxHeartbeats 1000000 in
set_option maxRecDepth 10000 in
theorem ofKind_any (k : Int) (w : World) (hV : Verbs w) : Calls Tryz.prog 60 #[.int .i64 k] w fun e w' => e = .returned (.tuple #[.agg #[.int .i64 (kN k), .string (kW k), .bool (kO k)], .bool (kOk k)]) ∧ Only [] w w' := by
 have hv1 := hV.only ((Only.refl [] w).alloc (.cells #[.int .i64 0, .string ⟨#[]⟩, .bool false] 103))
 have hx := verb_idx
 have HX := Lib.hid hx
 have HB := Lib.hid (Blk.made w 103 #[.int .i64 0, .string ⟨#[]⟩, .bool false])
 have HO := Lib.hid ((Only.refl [] w).alloc (.cells #[.int .i64 0, .string ⟨#[]⟩, .bool false] 103))
 have HX2 := HX
 have HV1 : Hid (World.rangeAt (w.alloc (.cells #[.int .i64 0, .string ⟨#[]⟩, .bool false] 103)) 0 0 verbC) := Lib.hid (fun j v hj => by rw [Nat.zero_add]; exact hv1.2 j v hj)
 clear hV hx hv1 HX
 go_enter Tryz.func60, Tryz.ntmps60
 go_upto_region 1 with (fail)
 refine wp_region_lit ?_
 refine wpList_load_mid rfl 134 (.global 0) rfl 0 0 rfl verbC (.array 6 103) HV1.out (by kernel_rfl) rfl (by kernel_rfl) ?_
 have hvv : Value.agg verbC.toArray = verbV := by rfl
 rw [hvv]
 have HX := HX2
 clear HX2 HV1 hvv
 generalize verbV = V at *
 go_wp2_with fail
 go_loopw [7] (fun i wr => ∃ j : Nat, i = .int .i64 j ∧ j ≤ 6 ∧ Hid (∀ m : Nat, 1 ≤ m → m ≤ j → k ≠ (m : Int)) ∧ Hid (Blk wr w.heap.size 103 #[.int .i64 0, .string ⟨#[]⟩, .bool false]) ∧ Hid (Only [] w wr)) (fun i _ => 6 - (intOf i).toNat)
 case atStart => exact ⟨0, rfl, by omega, Lib.hid (fun m h1 h2 => by omega), HB, HO⟩
 case round =>
  obtain ⟨j, rfl, hj, hno, hb, ho⟩ := hrel
  have h00 := ho.out.size
  have f0 := hb.out.at_ 0
  have f1 := hb.out.at_ 1
  have f2 := hb.out.at_ 2
  have g0 := hb.out.free 0
  have g1 := hb.out.free 1
  have g2 := hb.out.free 2
  simp at f0 f1 f2
  have hb0 := hb.out.lt
  by_cases hlt : j < 6
  ·have hidx := HX.out j hlt
   have h01 : (j : Int) < 6 := by omega
   have hwk : IntKind.i64.wrap ((j : Int) + 1) = (j : Int) + 1 := IntWalk.i64_in _ (by omega)
   by_cases hk : k = (j : Int) + 1
   ·subst hk
    have hbt : ((j : Int) + 1 == (j : Int) + 1) = true := by simp
    have HE : Hid (kN ((j : Int) + 1) = (j : Int) + 1 ∧ kOk ((j : Int) + 1) = true) := Lib.hid ⟨if_pos (by omega), decide_eq_true (by omega)⟩
    obtain ⟨ww, hw⟩ : ∃ ww, ww = kW ((j : Int) + 1) := ⟨_, rfl⟩
    obtain ⟨oo, hoo⟩ : ∃ oo, oo = kO ((j : Int) + 1) := ⟨_, rfl⟩
    rw [← hw, ← hoo] at hidx
    have HWW := Lib.hid hw
    have HOO := Lib.hid hoo
    clear hw hoo
    go_wp2
    have bF : Blk _ w.heap.size 103 #[.int .i64 ((j : Int) + 1), .string ww, .bool oo] := ((hb.out.put 0 (.int .i64 ((j : Int) + 1))).put 1 (.string ww)).put 2 (.bool oo)
    refine bodyPost_ret (results_row2 Tryz.results60 _ _ w.heap.size 103 #[.int .i64 ((j : Int) + 1), .string ww, .bool oo] _ rfl (bF.alloc _) Tryz.underlying103 rfl (by kernel_rfl)) rfl ⟨by rw [HE.out.1, HE.out.2, HWW.out, HOO.out]; rfl, ?_⟩
    repeat (first | exact ho.out | refine Only.put ?_ (fun h => by simp only at h; omega) _ | refine Only.alloc ?_ _)
   ·have hbt : ((j : Int) + 1 == k) = false := by simp; omega
    have HK := Lib.hid hk
    clear hk
    go_wp2
    go_roundw
    case rel =>
     refine ⟨j + 1, by go_num, by omega, Lib.hid (fun m h1 h2 e => ?_), Lib.hid ?_, Lib.hid ?_⟩
     ·rcases Nat.lt_or_ge j m with h3 | h3
      ·have : m = j + 1 := by omega
       subst this
       exact HK.out (by rw [e]; omega)
      ·exact hno.out m h1 h3 e
     ·repeat (first | exact hb.out | refine Blk.far ?_ (by simp; omega) _ | refine Blk.alloc ?_ _)
     ·repeat (first | exact ho.out | refine Only.put ?_ (fun h => by simp only at h; omega) _ | refine Only.alloc ?_ _)
    case measure => simp [intOf]; omega
  ·obtain rfl : j = 6 := by omega
   have HZ : Hid (kN k = 0 ∧ kOk k = false ∧ kO k = false ∧ kW k = ⟨#[]⟩) := Lib.hid (by
    have q := hno.out
    have q1 := q 1 (by omega) (by omega)
    have q2 := q 2 (by omega) (by omega)
    have q3 := q 3 (by omega) (by omega)
    have q4 := q 4 (by omega) (by omega)
    have q5 := q 5 (by omega) (by omega)
    have q6 := q 6 (by omega) (by omega)
    rcases kN_cases k with e | e | e | e | e | e | ⟨e1, e2, e3, e4, -⟩
    ·exact absurd e q1
    ·exact absurd e q2
    ·exact absurd e q3
    ·exact absurd e q4
    ·exact absurd e q5
    ·exact absurd e q6
    ·exact ⟨e1, e2, e3, e4⟩)
   go_wp2
   have bF : Blk _ w.heap.size 103 #[.int .i64 0, .string ⟨#[]⟩, .bool false] := ((hb.out.put 0 (.int .i64 0)).put 1 (.string ⟨#[]⟩)).put 2 (.bool false)
   refine bodyPost_ret (results_row2 Tryz.results60 _ _ w.heap.size 103 #[.int .i64 0, .string ⟨#[]⟩, .bool false] _ rfl bF Tryz.underlying103 rfl (by kernel_rfl)) rfl ⟨by rw [HZ.out.1, HZ.out.2.1, HZ.out.2.2.1, HZ.out.2.2.2]; rfl, ?_⟩
   repeat (first | exact ho.out | refine Only.put ?_ (fun h => by simp only at h; omega) _ | refine Only.alloc ?_ _)
end Go.Proofs.YthaeomdpaadilaaGreatDoor

set_option linter.unusedVariables false
set_option linter.unusedSimpArgs false
namespace Go.Proofs.YthaeomdpaadilaaGreatDoor
open Go.RowKit
open Go.Lib
attribute [local go_sem ↓] Go.wp_at_zero Go.wp_at_succ
theorem digit_any (r : Nat) (w : World) :
  Calls Tryz.prog 87 #[.int .i32 (r : Int)] w fun e w' => e = .returned (.bool (digitR r)) ∧ w = w' := by
 by_cases h1 : 48 ≤ r
 ·have f1 : (48 : Int) ≤ (r : Int) := by omega
  by_cases h2 : r ≤ 57
  ·have f2 : (r : Int) ≤ 57 := by omega
   have hr : digitR r = true := by simp [digitR, h1, h2]
   rw [hr]
   clear h1 h2 hr
   go_enter Tryz.func87, Tryz.ntmps87
   go_wp2
   go_ret
   exact ⟨rfl, rfl⟩
  ·have f2 : decide ((r : Int) ≤ 57) = false := decide_eq_false (by omega)
   have hr : digitR r = false := by simp [digitR, h2]
   rw [hr]
   clear h1 h2 hr
   go_enter Tryz.func87, Tryz.ntmps87
   go_wp2
   go_ret
   exact ⟨rfl, rfl⟩
 ·have f1 : decide ((48 : Int) ≤ (r : Int)) = false := decide_eq_false (by omega)
  have hr : digitR r = false := by simp [digitR, h1]
  rw [hr]
  clear h1 hr
  go_enter Tryz.func87, Tryz.ntmps87
  go_wp2
  go_ret
  exact ⟨rfl, rfl⟩
theorem may_0 (r : Nat) (w : World) (h : r < 48) :
  Calls Tryz.prog 86 #[.int .i32 (r : Int)] w fun e w' => e = .returned (.bool false) ∧ w = w' := by
 have hd : digitR r = false := by
  unfold digitR
  rw [show decide (48 ≤ r) = false from decide_eq_false (by omega)]; rfl
 have HD := Lib.hid (digit_any r w)
 rw [hd] at HD
 have g97 : decide ((97 : Int) ≤ (r : Int)) = false := decide_eq_false (by omega)
 have g65 : decide ((65 : Int) ≤ (r : Int)) = false := decide_eq_false (by omega)
 have e95 : ((r : Int) == 95) = false := by simp; omega
 have t127 : decide ((127 : Int) < (r : Int)) = false := decide_eq_false (by omega)
 clear h hd
 go_enter Tryz.func86, Tryz.ntmps86
 go_wp2_with fail
 refine (HD.out).mono ?_
 rintro e w1 ⟨rfl, rfl⟩
 go_wp2
 go_ret
 exact ⟨rfl, rfl⟩
theorem may_1 (r : Nat) (w : World) (h : 48 ≤ r ∧ r ≤ 57) :
  Calls Tryz.prog 86 #[.int .i32 (r : Int)] w fun e w' => e = .returned (.bool true) ∧ w = w' := by
 have hd : digitR r = true := by
  unfold digitR
  rw [decide_eq_true (by omega), decide_eq_true (by omega)]; rfl
 have HD := Lib.hid (digit_any r w)
 rw [hd] at HD
 have g97 : decide ((97 : Int) ≤ (r : Int)) = false := decide_eq_false (by omega)
 have g65 : decide ((65 : Int) ≤ (r : Int)) = false := decide_eq_false (by omega)
 clear h hd
 go_enter Tryz.func86, Tryz.ntmps86
 go_wp2_with fail
 refine (HD.out).mono ?_
 rintro e w1 ⟨rfl, rfl⟩
 go_wp2
 go_ret
 exact ⟨rfl, rfl⟩
theorem may_2 (r : Nat) (w : World) (h : 58 ≤ r ∧ r ≤ 64) :
  Calls Tryz.prog 86 #[.int .i32 (r : Int)] w fun e w' => e = .returned (.bool false) ∧ w = w' := by
 have hd : digitR r = false := by
  unfold digitR
  rw [show decide (r ≤ 57) = false from decide_eq_false (by omega)]; exact Bool.and_false _
 have HD := Lib.hid (digit_any r w)
 rw [hd] at HD
 have g97 : decide ((97 : Int) ≤ (r : Int)) = false := decide_eq_false (by omega)
 have g65 : decide ((65 : Int) ≤ (r : Int)) = false := decide_eq_false (by omega)
 have e95 : ((r : Int) == 95) = false := by simp; omega
 have t127 : decide ((127 : Int) < (r : Int)) = false := decide_eq_false (by omega)
 clear h hd
 go_enter Tryz.func86, Tryz.ntmps86
 go_wp2_with fail
 refine (HD.out).mono ?_
 rintro e w1 ⟨rfl, rfl⟩
 go_wp2
 go_ret
 exact ⟨rfl, rfl⟩
theorem may_3 (r : Nat) (w : World) (h : 65 ≤ r ∧ r ≤ 90) :
  Calls Tryz.prog 86 #[.int .i32 (r : Int)] w fun e w' => e = .returned (.bool true) ∧ w = w' := by
 have hd : digitR r = false := by
  unfold digitR
  rw [show decide (r ≤ 57) = false from decide_eq_false (by omega)]; exact Bool.and_false _
 have HD := Lib.hid (digit_any r w)
 rw [hd] at HD
 have g97 : decide ((97 : Int) ≤ (r : Int)) = false := decide_eq_false (by omega)
 have g65 : (65 : Int) ≤ (r : Int) := by omega
 have l90 : (r : Int) ≤ 90 := by omega
 clear h hd
 go_enter Tryz.func86, Tryz.ntmps86
 go_wp2
 go_ret
 exact ⟨rfl, rfl⟩
theorem may_4 (r : Nat) (w : World) (h : 91 ≤ r ∧ r ≤ 94) :
  Calls Tryz.prog 86 #[.int .i32 (r : Int)] w fun e w' => e = .returned (.bool false) ∧ w = w' := by
 have hd : digitR r = false := by
  unfold digitR
  rw [show decide (r ≤ 57) = false from decide_eq_false (by omega)]; exact Bool.and_false _
 have HD := Lib.hid (digit_any r w)
 rw [hd] at HD
 have g97 : decide ((97 : Int) ≤ (r : Int)) = false := decide_eq_false (by omega)
 have g65 : (65 : Int) ≤ (r : Int) := by omega
 have l90 : decide ((r : Int) ≤ 90) = false := decide_eq_false (by omega)
 have e95 : ((r : Int) == 95) = false := by simp; omega
 have t127 : decide ((127 : Int) < (r : Int)) = false := decide_eq_false (by omega)
 clear h hd
 go_enter Tryz.func86, Tryz.ntmps86
 go_wp2_with fail
 refine (HD.out).mono ?_
 rintro e w1 ⟨rfl, rfl⟩
 go_wp2
 go_ret
 exact ⟨rfl, rfl⟩
theorem may_5 (r : Nat) (w : World) (h : r = 95) :
  Calls Tryz.prog 86 #[.int .i32 (r : Int)] w fun e w' => e = .returned (.bool true) ∧ w = w' := by
 have hd : digitR r = false := by
  unfold digitR
  rw [show decide (r ≤ 57) = false from decide_eq_false (by omega)]; exact Bool.and_false _
 have HD := Lib.hid (digit_any r w)
 rw [hd] at HD
 have g97 : decide ((97 : Int) ≤ (r : Int)) = false := decide_eq_false (by omega)
 have g65 : (65 : Int) ≤ (r : Int) := by omega
 have l90 : decide ((r : Int) ≤ 90) = false := decide_eq_false (by omega)
 have e95 : ((r : Int) == 95) = true := by simp; omega
 clear h hd
 go_enter Tryz.func86, Tryz.ntmps86
 go_wp2_with fail
 refine (HD.out).mono ?_
 rintro e w1 ⟨rfl, rfl⟩
 go_wp2
 go_ret
 exact ⟨rfl, rfl⟩
theorem may_6 (r : Nat) (w : World) (h : r = 96) :
  Calls Tryz.prog 86 #[.int .i32 (r : Int)] w fun e w' => e = .returned (.bool false) ∧ w = w' := by
 have hd : digitR r = false := by
  unfold digitR
  rw [show decide (r ≤ 57) = false from decide_eq_false (by omega)]; exact Bool.and_false _
 have HD := Lib.hid (digit_any r w)
 rw [hd] at HD
 have g97 : decide ((97 : Int) ≤ (r : Int)) = false := decide_eq_false (by omega)
 have g65 : (65 : Int) ≤ (r : Int) := by omega
 have l90 : decide ((r : Int) ≤ 90) = false := decide_eq_false (by omega)
 have e95 : ((r : Int) == 95) = false := by simp; omega
 have t127 : decide ((127 : Int) < (r : Int)) = false := decide_eq_false (by omega)
 clear h hd
 go_enter Tryz.func86, Tryz.ntmps86
 go_wp2_with fail
 refine (HD.out).mono ?_
 rintro e w1 ⟨rfl, rfl⟩
 go_wp2
 go_ret
 exact ⟨rfl, rfl⟩
theorem may_7 (r : Nat) (w : World) (h : 97 ≤ r ∧ r ≤ 122) :
  Calls Tryz.prog 86 #[.int .i32 (r : Int)] w fun e w' => e = .returned (.bool true) ∧ w = w' := by
 have hd : digitR r = false := by
  unfold digitR
  rw [show decide (r ≤ 57) = false from decide_eq_false (by omega)]; exact Bool.and_false _
 have HD := Lib.hid (digit_any r w)
 rw [hd] at HD
 have g97 : (97 : Int) ≤ (r : Int) := by omega
 have l122 : (r : Int) ≤ 122 := by omega
 clear h hd
 go_enter Tryz.func86, Tryz.ntmps86
 go_wp2
 go_ret
 exact ⟨rfl, rfl⟩
theorem may_8 (r : Nat) (w : World) (h : 123 ≤ r ∧ r ≤ 127) :
  Calls Tryz.prog 86 #[.int .i32 (r : Int)] w fun e w' => e = .returned (.bool false) ∧ w = w' := by
 have hd : digitR r = false := by
  unfold digitR
  rw [show decide (r ≤ 57) = false from decide_eq_false (by omega)]; exact Bool.and_false _
 have HD := Lib.hid (digit_any r w)
 rw [hd] at HD
 have g97 : (97 : Int) ≤ (r : Int) := by omega
 have l122 : decide ((r : Int) ≤ 122) = false := decide_eq_false (by omega)
 have g65 : (65 : Int) ≤ (r : Int) := by omega
 have l90 : decide ((r : Int) ≤ 90) = false := decide_eq_false (by omega)
 have e95 : ((r : Int) == 95) = false := by simp; omega
 have t127 : decide ((127 : Int) < (r : Int)) = false := decide_eq_false (by omega)
 clear h hd
 go_enter Tryz.func86, Tryz.ntmps86
 go_wp2_with fail
 refine (HD.out).mono ?_
 rintro e w1 ⟨rfl, rfl⟩
 go_wp2
 go_ret
 exact ⟨rfl, rfl⟩
theorem may_9 (r : Nat) (w : World) (h : 128 ≤ r) :
  Calls Tryz.prog 86 #[.int .i32 (r : Int)] w fun e w' => e = .returned (.bool true) ∧ w = w' := by
 have hd : digitR r = false := by
  unfold digitR
  rw [show decide (r ≤ 57) = false from decide_eq_false (by omega)]; exact Bool.and_false _
 have HD := Lib.hid (digit_any r w)
 rw [hd] at HD
 have g97 : (97 : Int) ≤ (r : Int) := by omega
 have l122 : decide ((r : Int) ≤ 122) = false := decide_eq_false (by omega)
 have g65 : (65 : Int) ≤ (r : Int) := by omega
 have l90 : decide ((r : Int) ≤ 90) = false := decide_eq_false (by omega)
 have e95 : ((r : Int) == 95) = false := by simp; omega
 have t127 : (127 : Int) < (r : Int) := by omega
 clear h hd
 go_enter Tryz.func86, Tryz.ntmps86
 go_wp2_with fail
 refine (HD.out).mono ?_
 rintro e w1 ⟨rfl, rfl⟩
 go_wp2
 go_ret
 exact ⟨rfl, rfl⟩
theorem may_any (r : Nat) (w : World) :
  Calls Tryz.prog 86 #[.int .i32 (r : Int)] w fun e w' => e = .returned (.bool (mayR r)) ∧ w = w' := by
 by_cases h0 : r < 48
 ·have hv : mayR r = false := by simp [mayR, digitR]; omega
  rw [hv]
  exact may_0 r w (by omega)
 by_cases h1 : r ≤ 57
 ·have hv : mayR r = true := by simp [mayR, digitR]; omega
  rw [hv]
  exact may_1 r w (by omega)
 by_cases h2 : r ≤ 64
 ·have hv : mayR r = false := by simp [mayR, digitR]; omega
  rw [hv]
  exact may_2 r w (by omega)
 by_cases h3 : r ≤ 90
 ·have hv : mayR r = true := by simp [mayR, digitR]; omega
  rw [hv]
  exact may_3 r w (by omega)
 by_cases h4 : r ≤ 94
 ·have hv : mayR r = false := by simp [mayR, digitR]; omega
  rw [hv]
  exact may_4 r w (by omega)
 by_cases h5 : r = 95
 ·have hv : mayR r = true := by simp [mayR, digitR]; omega
  rw [hv]
  exact may_5 r w (by omega)
 by_cases h6 : r = 96
 ·have hv : mayR r = false := by simp [mayR, digitR]; omega
  rw [hv]
  exact may_6 r w (by omega)
 by_cases h7 : r ≤ 122
 ·have hv : mayR r = true := by simp [mayR, digitR]; omega
  rw [hv]
  exact may_7 r w (by omega)
 by_cases h8 : r ≤ 127
 ·have hv : mayR r = false := by simp [mayR, digitR]; omega
  rw [hv]
  exact may_8 r w (by omega)
 have hv : mayR r = true := by simp [mayR, digitR]; omega
 rw [hv]
 exact may_9 r w (by omega)
theorem not_reserved {s : ByteArray} (h : ∀ t ∈ resvL, s ≠ t) : reservedL (by_ s) = false := by
 unfold reservedL
 cases hc : (resvL.map by_).contains (by_ s) with
 | false => rfl
 | true =>
  obtain ⟨t, ht, he⟩ := List.mem_map.1 (List.contains_iff_mem.1 hc)
  exact absurd (by_inj he.symm) (h t ht)
theorem text_ne {s : ByteArray} {l : List UInt8} (h : s ≠ ⟨l.toArray⟩) : (s.toList == l) = false := by
 rw [beq_eq_false_iff_ne]
 intro e
 rw [Lib.toList_data] at e
 exact h (by_inj (e.trans List.toList_toArray.symm))
set_option maxHeartbeats 2000000 in
theorem reserved_any (s : ByteArray) (w : World) :
  Calls Tryz.prog 85 #[.string s] w fun e w' => e = .returned (.bool (reservedL (by_ s))) ∧ w = w' := by
 by_cases h0 : s = (⟨#[98, 101, 103, 105, 110]⟩ : ByteArray)
 ·subst h0
  rw [show reservedL (by_ (⟨#[98, 101, 103, 105, 110]⟩ : ByteArray)) = true by kernel_rfl]
  go_enter Tryz.func85, Tryz.ntmps85
  go_wp2
  go_ret
  exact ⟨rfl, rfl⟩
 by_cases h1 : s = (⟨#[114, 101, 97, 100]⟩ : ByteArray)
 ·subst h1
  rw [show reservedL (by_ (⟨#[114, 101, 97, 100]⟩ : ByteArray)) = true by kernel_rfl]
  clear h0
  go_enter Tryz.func85, Tryz.ntmps85
  go_wp2
  go_ret
  exact ⟨rfl, rfl⟩
 by_cases h2 : s = (⟨#[119, 114, 105, 116, 101]⟩ : ByteArray)
 ·subst h2
  rw [show reservedL (by_ (⟨#[119, 114, 105, 116, 101]⟩ : ByteArray)) = true by kernel_rfl]
  clear h0 h1
  go_enter Tryz.func85, Tryz.ntmps85
  go_wp2
  go_ret
  exact ⟨rfl, rfl⟩
 by_cases h3 : s = (⟨#[111, 107]⟩ : ByteArray)
 ·subst h3
  rw [show reservedL (by_ (⟨#[111, 107]⟩ : ByteArray)) = true by kernel_rfl]
  clear h0 h1 h2
  go_enter Tryz.func85, Tryz.ntmps85
  go_wp2
  go_ret
  exact ⟨rfl, rfl⟩
 by_cases h4 : s = (⟨#[102, 97, 105, 108]⟩ : ByteArray)
 ·subst h4
  rw [show reservedL (by_ (⟨#[102, 97, 105, 108]⟩ : ByteArray)) = true by kernel_rfl]
  clear h0 h1 h2 h3
  go_enter Tryz.func85, Tryz.ntmps85
  go_wp2
  go_ret
  exact ⟨rfl, rfl⟩
 by_cases h5 : s = (⟨#[105, 110, 102, 111]⟩ : ByteArray)
 ·subst h5
  rw [show reservedL (by_ (⟨#[105, 110, 102, 111]⟩ : ByteArray)) = true by kernel_rfl]
  clear h0 h1 h2 h3 h4
  go_enter Tryz.func85, Tryz.ntmps85
  go_wp2
  go_ret
  exact ⟨rfl, rfl⟩
 by_cases h6 : s = (⟨#[110, 105, 108]⟩ : ByteArray)
 ·subst h6
  rw [show reservedL (by_ (⟨#[110, 105, 108]⟩ : ByteArray)) = true by kernel_rfl]
  clear h0 h1 h2 h3 h4 h5
  go_enter Tryz.func85, Tryz.ntmps85
  go_wp2
  go_ret
  exact ⟨rfl, rfl⟩
 have hr : reservedL (by_ s) = false := not_reserved (fun t ht => by
  simp only [resvL, List.mem_cons, List.not_mem_nil, or_false] at ht
  rintro rfl
  rcases ht with h | h | h | h | h | h | h
  ·exact h0 h
  ·exact h1 h
  ·exact h2 h
  ·exact h3 h
  ·exact h4 h
  ·exact h5 h
  ·exact h6 h
  )
 rw [hr]
 have e0 : (s.toList == ([98, 101, 103, 105, 110] : List UInt8)) = false := text_ne h0
 have e1 : (s.toList == ([114, 101, 97, 100] : List UInt8)) = false := text_ne h1
 have e2 : (s.toList == ([119, 114, 105, 116, 101] : List UInt8)) = false := text_ne h2
 have e3 : (s.toList == ([111, 107] : List UInt8)) = false := text_ne h3
 have e4 : (s.toList == ([102, 97, 105, 108] : List UInt8)) = false := text_ne h4
 have e5 : (s.toList == ([105, 110, 102, 111] : List UInt8)) = false := text_ne h5
 have e6 : (s.toList == ([110, 105, 108] : List UInt8)) = false := text_ne h6
 clear hr h0 h1 h2 h3 h4 h5 h6
 go_enter Tryz.func85, Tryz.ntmps85
 go_wp2
 go_ret
 exact ⟨rfl, rfl⟩
set_option maxHeartbeats 2000000 in
theorem rreserved_any (s : ByteArray) (w : World) :
  Calls Tryz.prog 81 #[.string s] w fun e w' => e = .returned (.bool (reservedL (by_ s))) ∧ w = w' := by
 by_cases h0 : s = (⟨#[98, 101, 103, 105, 110]⟩ : ByteArray)
 ·subst h0
  rw [show reservedL (by_ (⟨#[98, 101, 103, 105, 110]⟩ : ByteArray)) = true by kernel_rfl]
  go_enter Tryz.func81, Tryz.ntmps81
  go_wp2
  go_ret
  exact ⟨rfl, rfl⟩
 by_cases h1 : s = (⟨#[114, 101, 97, 100]⟩ : ByteArray)
 ·subst h1
  rw [show reservedL (by_ (⟨#[114, 101, 97, 100]⟩ : ByteArray)) = true by kernel_rfl]
  clear h0
  go_enter Tryz.func81, Tryz.ntmps81
  go_wp2
  go_ret
  exact ⟨rfl, rfl⟩
 by_cases h2 : s = (⟨#[119, 114, 105, 116, 101]⟩ : ByteArray)
 ·subst h2
  rw [show reservedL (by_ (⟨#[119, 114, 105, 116, 101]⟩ : ByteArray)) = true by kernel_rfl]
  clear h0 h1
  go_enter Tryz.func81, Tryz.ntmps81
  go_wp2
  go_ret
  exact ⟨rfl, rfl⟩
 by_cases h3 : s = (⟨#[111, 107]⟩ : ByteArray)
 ·subst h3
  rw [show reservedL (by_ (⟨#[111, 107]⟩ : ByteArray)) = true by kernel_rfl]
  clear h0 h1 h2
  go_enter Tryz.func81, Tryz.ntmps81
  go_wp2
  go_ret
  exact ⟨rfl, rfl⟩
 by_cases h4 : s = (⟨#[102, 97, 105, 108]⟩ : ByteArray)
 ·subst h4
  rw [show reservedL (by_ (⟨#[102, 97, 105, 108]⟩ : ByteArray)) = true by kernel_rfl]
  clear h0 h1 h2 h3
  go_enter Tryz.func81, Tryz.ntmps81
  go_wp2
  go_ret
  exact ⟨rfl, rfl⟩
 by_cases h5 : s = (⟨#[105, 110, 102, 111]⟩ : ByteArray)
 ·subst h5
  rw [show reservedL (by_ (⟨#[105, 110, 102, 111]⟩ : ByteArray)) = true by kernel_rfl]
  clear h0 h1 h2 h3 h4
  go_enter Tryz.func81, Tryz.ntmps81
  go_wp2
  go_ret
  exact ⟨rfl, rfl⟩
 by_cases h6 : s = (⟨#[110, 105, 108]⟩ : ByteArray)
 ·subst h6
  rw [show reservedL (by_ (⟨#[110, 105, 108]⟩ : ByteArray)) = true by kernel_rfl]
  clear h0 h1 h2 h3 h4 h5
  go_enter Tryz.func81, Tryz.ntmps81
  go_wp2
  go_ret
  exact ⟨rfl, rfl⟩
 have hr : reservedL (by_ s) = false := not_reserved (fun t ht => by
  simp only [resvL, List.mem_cons, List.not_mem_nil, or_false] at ht
  rintro rfl
  rcases ht with h | h | h | h | h | h | h
  ·exact h0 h
  ·exact h1 h
  ·exact h2 h
  ·exact h3 h
  ·exact h4 h
  ·exact h5 h
  ·exact h6 h
  )
 rw [hr]
 have e0 : (s.toList == ([98, 101, 103, 105, 110] : List UInt8)) = false := text_ne h0
 have e1 : (s.toList == ([114, 101, 97, 100] : List UInt8)) = false := text_ne h1
 have e2 : (s.toList == ([119, 114, 105, 116, 101] : List UInt8)) = false := text_ne h2
 have e3 : (s.toList == ([111, 107] : List UInt8)) = false := text_ne h3
 have e4 : (s.toList == ([102, 97, 105, 108] : List UInt8)) = false := text_ne h4
 have e5 : (s.toList == ([105, 110, 102, 111] : List UInt8)) = false := text_ne h5
 have e6 : (s.toList == ([110, 105, 108] : List UInt8)) = false := text_ne h6
 clear hr h0 h1 h2 h3 h4 h5 h6
 go_enter Tryz.func81, Tryz.ntmps81
 go_wp2
 go_ret
 exact ⟨rfl, rfl⟩
end Go.Proofs.YthaeomdpaadilaaGreatDoor
