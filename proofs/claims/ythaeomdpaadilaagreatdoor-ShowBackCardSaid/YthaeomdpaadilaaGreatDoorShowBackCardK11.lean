/- Structs that a call answers: a result that lies in a variable of several cells, with one or two plain results behind it; frames of stores into new blocks. Contracts of the package event: ofWord. Contracts of the package event: ofKind. Contracts of the package event: May. -/
import Derived.Test.YthaeomdpaadilaaGreatDoorShowBackCardK1
import Derived.Deep.MidRow
import Derived.Laws.ResultCell
import Derived.Laws.IdiomCopy
import Derived.Test.YthaeomdpaadilaaGreatDoorShowBackCardK10
import Derived.Deep.CutBlock
import Derived.Deep.DeepCutAuto
import Derived.Test.YthaeomdpaadilaaGreatDoorShowBackCardK5
import Derived.Test.YthaeomdpaadilaaGreatDoorShowBackCardK8
set_option linter.unusedVariables false
set_option linter.unusedSimpArgs false
namespace Go.Proofs.YthaeomdpaadilaaGreatDoor
open Go.RowKit

section
variable {P : Program}
theorem results_row1 {fn : Func} {p : Tmp} {ty : TypeId} (h : fn.results = #[.cell p ty]) (tmps : Array Value) (w : World) (g : Nat) (t : TypeId) (cs : Array Value) (d : TypeDesc)
    (hp : tmps.getD p undef = .pointer (some ⟨g, 0, none⟩)) (hg : Blk w g t cs) (hu : P.underlying ty = some d) (hd : d.isRow = true) (hi : (P.info? ty).map (·.size) = some cs.size) :
    (results fn tmps).run P w = .ok (.agg cs) w :=
  results_cell_row h tmps w g t cs (0, 0) d hp hg hu (by cases d <;> simp_all) hi
theorem results_row2 {fn : Func} {p u : Tmp} {ty : TypeId} (h : fn.results = #[.cell p ty, .tmp u]) (tmps : Array Value) (w : World) (g : Nat) (t : TypeId) (cs : Array Value) (d : TypeDesc)
    (hp : tmps.getD p undef = .pointer (some ⟨g, 0, none⟩)) (hg : Blk w g t cs) (hu : P.underlying ty = some d) (hd : d.isRow = true) (hi : (P.info? ty).map (·.size) = some cs.size) :
    (results fn tmps).run P w = .ok (.tuple #[.agg cs, tmps.getD u undef]) w := by
  have hl := run_loadVar_row (P := P) w g t ty cs (0, 0) d hg hu (by cases d <;> simp_all) hi
  rw [results_cell_tmp h, hp]
  simp [asAddr, hl, Result.andThen]
theorem results_row3 {fn : Func} {p u v : Tmp} {ty : TypeId} (h : fn.results = #[.cell p ty, .tmp u, .tmp v]) (tmps : Array Value) (w : World) (g : Nat) (t : TypeId) (cs : Array Value) (d : TypeDesc)
    (hp : tmps.getD p undef = .pointer (some ⟨g, 0, none⟩)) (hg : Blk w g t cs) (hu : P.underlying ty = some d) (hd : d.isRow = true) (hi : (P.info? ty).map (·.size) = some cs.size) :
    (results fn tmps).run P w = .ok (.tuple #[.agg cs, tmps.getD u undef, tmps.getD v undef]) w := by
  have hp' : tmps[p]?.getD undef = .pointer (some ⟨g, 0, none⟩) := by simpa using hp
  have hl := run_loadVar_row (P := P) w g t ty cs (0, 0) d hg hu (by cases d <;> simp_all) hi
  simp only [results, h]
  simp [Sem.run_bind, Result.andThen, hp', asAddr, hl]
end

/-- A whole struct stored into its own block. -/
theorem Blk.there {w : World} {g : Nat} {t : TypeId} {cs : Array Value} (h : Blk w g t cs) : w.there g 0 cs.size := fun j hj => by
  rw [Nat.zero_add]
  exact ⟨by rw [h.at_ j]; simp [hj], h.free j⟩
theorem setCells_only (g : Nat) : ∀ (vs : List Value) (o : Nat) (S : List Nat) (w w' : World), Only S w w' → (g < w.heap.size → g ∈ S) → Only S w (w'.setCells g o vs)
  | [], _, _, _, _, h, _ => h
  | v :: vs, o, S, w, w', h, hg => setCells_only g vs (o + 1) S w _ (h.put (p := ⟨g, o, none⟩) hg v) hg
theorem Only.putAll {S : List Nat} {w w' : World} (h : Only S w w') {g : Nat} (hg : g < w.heap.size → g ∈ S) (vs : List Value) : Only S w (w'.setCells g 0 vs) := setCells_only g vs 0 S w w' h hg
theorem setCells_blk (g : Nat) (t : TypeId) : ∀ (vs : List Value) (o : Nat) (w : World) (cs : Array Value), Blk w g t cs → o + vs.length = cs.size → Blk (w.setCells g o vs) g t (cs.toList.take o ++ vs).toArray
  | [], o, w, cs, h, hl => by
    have e : (cs.toList.take o ++ []).toArray = cs := by
      rw [List.append_nil, List.take_of_length_le (by simp at hl ⊢; omega)]
    rw [e]
    exact h
  | v :: vs, o, w, cs, h, hl => by
    have h1 := h.put o v
    have hl2 : o < cs.size := by simp at hl; omega
    have h2 := setCells_blk g t vs (o + 1) _ _ h1 (by simp at hl ⊢; omega)
    have e : (cs.setIfInBounds o v).toList.take (o + 1) ++ vs = cs.toList.take o ++ v :: vs := by
      rw [Array.toList_setIfInBounds, List.take_add_one, List.take_set_of_le (by omega)]
      simp [hl2]
    rw [e] at h2
    exact h2
theorem Blk.putAll {w : World} {g : Nat} {t : TypeId} {cs : Array Value} (h : Blk w g t cs) (vs : List Value) (hl : vs.length = cs.size) : Blk (w.setCells g 0 vs) g t vs.toArray := by
  have := setCells_blk g t vs 0 w cs h (by simpa using hl)
  simpa using this

theorem Blk.range {w : World} {g : Nat} {t : TypeId} {cs : Array Value} (h : Blk w g t cs) : w.rangeAt g 0 cs.toList := fun j v hj => by
  rw [Nat.zero_add, h.at_ j]
  simpa using hj
/-- A whole struct stored, in a region that draws. -/
theorem wp_store_blk {P : Program} {op : Oper} {a : Act} {w : World} {K : Act → World → Prop} {Q : Exit → Act → World → Prop} (ty : TypeId) (x y : Operand) (ho : op.op = .store ty x y)
    (g : Nat) (t : TypeId) (cs cells : Array Value) (hx : a.eval x = .pointer (some ⟨g, 0, none⟩)) (hy : a.eval y = .agg cells)
    (hb : Blk w g t cs) (hl : cells.size = cs.size) (hi : (P.info? ty).map (·.size) = some cells.size) (h1 : cells.all (·.oneCell') = true)
    (h : ∀ w', Blk w' g t cells → Only [g] w w' → K (a.put op.dst undef) w') : op.wp P a w K Q :=
  wp_store_mid ty x y ho g 0 cells hx hy (by rw [hl]; exact hb.there) hi h1 (h _ (by have := hb.putAll cells.toList (by simpa using hl); simpa using this) ((Only.refl [g] w).putAll (fun _ => by simp) _))

end Go.Proofs.YthaeomdpaadilaaGreatDoor

set_option linter.unusedVariables false
set_option linter.unusedSimpArgs false
namespace Go.Proofs.YthaeomdpaadilaaGreatDoor
open Go.RowKit
attribute [local go_sem ↓] Go.wp_at_zero Go.wp_at_succ

theorem wK_of (j : Nat) (h : j < 6) : wK (kW ((j : Int) + 1)) = (j : Int) + 1 := by
  have h : j = 0 ∨ j = 1 ∨ j = 2 ∨ j = 3 ∨ j = 4 ∨ j = 5 := by omega
  rcases h with rfl | rfl | rfl | rfl | rfl | rfl <;> decide
theorem text_off {s t : ByteArray} (h : s ≠ t) : (s.toList == t.toList) = false := by
  rw [beq_eq_false_iff_ne, Lib.toList_data, Lib.toList_data]
  intro e
  exact h (by_inj e)


set_option maxHeartbeats 1000000 in
set_option maxRecDepth 10000 in
theorem ofWord_any (s : ByteArray) (w : World) (hV : Verbs w) : Calls Tryz.prog 70 #[.string s] w fun e w' => e = .returned (.tuple #[.agg #[.int .i64 (wK s), .string (kW (wK s)), .bool (kO (wK s))], .bool (kOk (wK s))]) ∧ Only [] w w' := by
  have hv1 := hV.only ((Only.refl [] w).alloc (.cells #[.int .i64 0, .string ⟨#[]⟩, .bool false] 103))
  have hx := verb_idx
  have HX := Lib.hid hx
  have HB := Lib.hid (Blk.made w 103 #[.int .i64 0, .string ⟨#[]⟩, .bool false])
  have HO := Lib.hid ((Only.refl [] w).alloc (.cells #[.int .i64 0, .string ⟨#[]⟩, .bool false] 103))
  have HX2 := HX
  have HV1 : Hid (World.rangeAt (w.alloc (.cells #[.int .i64 0, .string ⟨#[]⟩, .bool false] 103)) 0 0 verbC) := Lib.hid (fun j v hj => by rw [Nat.zero_add]; exact hv1.2 j v hj)
  clear hV hx hv1 HX
  go_enter Tryz.func70, Tryz.ntmps70
  go_upto_region 1 with (fail)
  refine wp_region_lit ?_
  refine wpList_load_mid rfl 134 (.global 0) rfl 0 0 rfl verbC (.array 6 103) HV1.out (by kernel_rfl) rfl (by kernel_rfl) ?_
  have hvv : Value.agg verbC.toArray = verbV := by rfl
  rw [hvv]
  have HX := HX2
  clear HX2 HV1 hvv
  generalize verbV = V at *
  go_wp2_with fail
  go_loopw [7] (fun i wr => ∃ j : Nat, i = .int .i64 j ∧ j ≤ 6 ∧ Hid (∀ m : Nat, 1 ≤ m → m ≤ j → s ≠ kW (m : Int)) ∧ Hid (Blk wr w.heap.size 103 #[.int .i64 0, .string ⟨#[]⟩, .bool false]) ∧ Hid (Only [] w wr)) (fun i _ => 6 - (intOf i).toNat)
  case atStart => exact ⟨0, rfl, by omega, Lib.hid (fun m h1 h2 => by omega), HB, HO⟩
  case round =>
    obtain ⟨j, rfl, hj, hno, hb, ho⟩ := hrel
    have h00 := ho.out.size
    have f0 := hb.out.at_ 0
    have f1 := hb.out.at_ 1
    have f2 := hb.out.at_ 2
    have g0 := hb.out.free 0
    have g1 := hb.out.free 1
    have g2 := hb.out.free 2
    simp at f0 f1 f2
    have hb0 := hb.out.lt
    by_cases hlt : j < 6
    · have hidx := HX.out j hlt
      have h01 : (j : Int) < 6 := by omega
      have hwk : IntKind.i64.wrap ((j : Int) + 1) = (j : Int) + 1 := IntWalk.i64_in _ (by omega)
      by_cases hk : s = kW ((j : Int) + 1)
      · have HE : Hid (wK s = (j : Int) + 1 ∧ kOk ((j : Int) + 1) = true) := Lib.hid ⟨by rw [hk]; exact wK_of j hlt, decide_eq_true (by omega)⟩
        obtain ⟨oo, hoo⟩ : ∃ oo, oo = kO ((j : Int) + 1) := ⟨_, rfl⟩
        rw [← hk, ← hoo] at hidx
        have HWW := Lib.hid hk
        have HOO := Lib.hid hoo
        have hbt : (s.toList == s.toList) = true := by simp
        clear hk hoo
        go_wp2
        have bF : Blk _ w.heap.size 103 #[.int .i64 ((j : Int) + 1), .string s, .bool oo] := ((hb.out.put 0 (.int .i64 ((j : Int) + 1))).put 1 (.string s)).put 2 (.bool oo)
        refine bodyPost_ret (results_row2 Tryz.results70 _ _ w.heap.size 103 #[.int .i64 ((j : Int) + 1), .string s, .bool oo] _ rfl (bF.alloc _) Tryz.underlying103 rfl (by kernel_rfl)) rfl ⟨by rw [HE.out.1, HE.out.2, ← HWW.out, HOO.out]; rfl, ?_⟩
        repeat (first | exact ho.out | refine Only.put ?_ (fun h => by simp only at h; omega) _ | refine Only.alloc ?_ _)
      · have HK := Lib.hid hk
        have hbt : ((kW ((j : Int) + 1)).toList == s.toList) = false := text_off (fun e => hk e.symm)
        obtain ⟨ww, hw⟩ : ∃ ww, ww = kW ((j : Int) + 1) := ⟨_, rfl⟩
        rw [← hw] at hidx hbt
        have HWW := Lib.hid hw
        generalize kO ((j : Int) + 1) = oo at *
        clear hk hw
        go_wp2
        go_roundw
        case rel =>
          refine ⟨j + 1, by go_num, by omega, Lib.hid (fun m h1 h2 e => ?_), Lib.hid ?_, Lib.hid ?_⟩
          · rcases Nat.lt_or_ge j m with h3 | h3
            · have : m = j + 1 := by omega
              subst this
              exact HK.out e
            · exact hno.out m h1 h3 e
          · repeat (first | exact hb.out | refine Blk.far ?_ (by simp; omega) _ | refine Blk.alloc ?_ _)
          · repeat (first | exact ho.out | refine Only.put ?_ (fun h => by simp only at h; omega) _ | refine Only.alloc ?_ _)
        case measure => simp [intOf]; omega
    · obtain rfl : j = 6 := by omega
      have HZ : Hid (wK s = 0) := Lib.hid (by
        have q := hno.out
        have q1 := q 1 (by omega) (by omega)
        have q2 := q 2 (by omega) (by omega)
        have q3 := q 3 (by omega) (by omega)
        have q4 := q 4 (by omega) (by omega)
        have q5 := q 5 (by omega) (by omega)
        have q6 := q 6 (by omega) (by omega)
        rcases wK_cases s with ⟨e, -⟩ | ⟨e, -⟩ | ⟨e, -⟩ | ⟨e, -⟩ | ⟨e, -⟩ | ⟨e, -⟩ | ⟨e, -⟩
        · exact absurd e q1
        · exact absurd e q2
        · exact absurd e q3
        · exact absurd e q4
        · exact absurd e q5
        · exact absurd e q6
        · exact e)
      go_wp2
      have bF : Blk _ w.heap.size 103 #[.int .i64 0, .string ⟨#[]⟩, .bool false] := ((hb.out.put 0 (.int .i64 0)).put 1 (.string ⟨#[]⟩)).put 2 (.bool false)
      refine bodyPost_ret (results_row2 Tryz.results70 _ _ w.heap.size 103 #[.int .i64 0, .string ⟨#[]⟩, .bool false] _ rfl bF Tryz.underlying103 rfl (by kernel_rfl)) rfl ⟨by rw [HZ.out]; rfl, ?_⟩
      repeat (first | exact ho.out | refine Only.put ?_ (fun h => by simp only at h; omega) _ | refine Only.alloc ?_ _)

end Go.Proofs.YthaeomdpaadilaaGreatDoor

set_option linter.unusedVariables false
set_option linter.unusedSimpArgs false
namespace Go.Proofs.YthaeomdpaadilaaGreatDoor
open Go.RowKit
attribute [local go_sem ↓] Go.wp_at_zero Go.wp_at_succ

set_option maxHeartbeats 1000000 in
set_option maxRecDepth 10000 in
theorem ofKind_any (k : Int) (w : World) (hV : Verbs w) : Calls Tryz.prog 60 #[.int .i64 k] w fun e w' => e = .returned (.tuple #[.agg #[.int .i64 (kN k), .string (kW k), .bool (kO k)], .bool (kOk k)]) ∧ Only [] w w' := by
  have hv1 := hV.only ((Only.refl [] w).alloc (.cells #[.int .i64 0, .string ⟨#[]⟩, .bool false] 103))
  have hx := verb_idx
  have HX := Lib.hid hx
  have HB := Lib.hid (Blk.made w 103 #[.int .i64 0, .string ⟨#[]⟩, .bool false])
  have HO := Lib.hid ((Only.refl [] w).alloc (.cells #[.int .i64 0, .string ⟨#[]⟩, .bool false] 103))
  have HX2 := HX
  have HV1 : Hid (World.rangeAt (w.alloc (.cells #[.int .i64 0, .string ⟨#[]⟩, .bool false] 103)) 0 0 verbC) := Lib.hid (fun j v hj => by rw [Nat.zero_add]; exact hv1.2 j v hj)
  clear hV hx hv1 HX
  go_enter Tryz.func60, Tryz.ntmps60
  go_upto_region 1 with (fail)
  refine wp_region_lit ?_
  refine wpList_load_mid rfl 134 (.global 0) rfl 0 0 rfl verbC (.array 6 103) HV1.out (by kernel_rfl) rfl (by kernel_rfl) ?_
  have hvv : Value.agg verbC.toArray = verbV := by rfl
  rw [hvv]
  have HX := HX2
  clear HX2 HV1 hvv
  generalize verbV = V at *
  go_wp2_with fail
  go_loopw [7] (fun i wr => ∃ j : Nat, i = .int .i64 j ∧ j ≤ 6 ∧ Hid (∀ m : Nat, 1 ≤ m → m ≤ j → k ≠ (m : Int)) ∧ Hid (Blk wr w.heap.size 103 #[.int .i64 0, .string ⟨#[]⟩, .bool false]) ∧ Hid (Only [] w wr)) (fun i _ => 6 - (intOf i).toNat)
  case atStart => exact ⟨0, rfl, by omega, Lib.hid (fun m h1 h2 => by omega), HB, HO⟩
  case round =>
    obtain ⟨j, rfl, hj, hno, hb, ho⟩ := hrel
    have h00 := ho.out.size
    have f0 := hb.out.at_ 0
    have f1 := hb.out.at_ 1
    have f2 := hb.out.at_ 2
    have g0 := hb.out.free 0
    have g1 := hb.out.free 1
    have g2 := hb.out.free 2
    simp at f0 f1 f2
    have hb0 := hb.out.lt
    by_cases hlt : j < 6
    · have hidx := HX.out j hlt
      have h01 : (j : Int) < 6 := by omega
      have hwk : IntKind.i64.wrap ((j : Int) + 1) = (j : Int) + 1 := IntWalk.i64_in _ (by omega)
      by_cases hk : k = (j : Int) + 1
      · subst hk
        have hbt : ((j : Int) + 1 == (j : Int) + 1) = true := by simp
        have HE : Hid (kN ((j : Int) + 1) = (j : Int) + 1 ∧ kOk ((j : Int) + 1) = true) := Lib.hid ⟨if_pos (by omega), decide_eq_true (by omega)⟩
        obtain ⟨ww, hw⟩ : ∃ ww, ww = kW ((j : Int) + 1) := ⟨_, rfl⟩
        obtain ⟨oo, hoo⟩ : ∃ oo, oo = kO ((j : Int) + 1) := ⟨_, rfl⟩
        rw [← hw, ← hoo] at hidx
        have HWW := Lib.hid hw
        have HOO := Lib.hid hoo
        clear hw hoo
        go_wp2
        have bF : Blk _ w.heap.size 103 #[.int .i64 ((j : Int) + 1), .string ww, .bool oo] := ((hb.out.put 0 (.int .i64 ((j : Int) + 1))).put 1 (.string ww)).put 2 (.bool oo)
        refine bodyPost_ret (results_row2 Tryz.results60 _ _ w.heap.size 103 #[.int .i64 ((j : Int) + 1), .string ww, .bool oo] _ rfl (bF.alloc _) Tryz.underlying103 rfl (by kernel_rfl)) rfl ⟨by rw [HE.out.1, HE.out.2, HWW.out, HOO.out]; rfl, ?_⟩
        repeat (first | exact ho.out | refine Only.put ?_ (fun h => by simp only at h; omega) _ | refine Only.alloc ?_ _)
      · have hbt : ((j : Int) + 1 == k) = false := by simp; omega
        have HK := Lib.hid hk
        clear hk
        go_wp2
        go_roundw
        case rel =>
          refine ⟨j + 1, by go_num, by omega, Lib.hid (fun m h1 h2 e => ?_), Lib.hid ?_, Lib.hid ?_⟩
          · rcases Nat.lt_or_ge j m with h3 | h3
            · have : m = j + 1 := by omega
              subst this
              exact HK.out (by rw [e]; omega)
            · exact hno.out m h1 h3 e
          · repeat (first | exact hb.out | refine Blk.far ?_ (by simp; omega) _ | refine Blk.alloc ?_ _)
          · repeat (first | exact ho.out | refine Only.put ?_ (fun h => by simp only at h; omega) _ | refine Only.alloc ?_ _)
        case measure => simp [intOf]; omega
    · obtain rfl : j = 6 := by omega
      have HZ : Hid (kN k = 0 ∧ kOk k = false ∧ kO k = false ∧ kW k = ⟨#[]⟩) := Lib.hid (by
        have q := hno.out
        have q1 := q 1 (by omega) (by omega)
        have q2 := q 2 (by omega) (by omega)
        have q3 := q 3 (by omega) (by omega)
        have q4 := q 4 (by omega) (by omega)
        have q5 := q 5 (by omega) (by omega)
        have q6 := q 6 (by omega) (by omega)
        rcases kN_cases k with e | e | e | e | e | e | ⟨e1, e2, e3, e4, -⟩
        · exact absurd e q1
        · exact absurd e q2
        · exact absurd e q3
        · exact absurd e q4
        · exact absurd e q5
        · exact absurd e q6
        · exact ⟨e1, e2, e3, e4⟩)
      go_wp2
      have bF : Blk _ w.heap.size 103 #[.int .i64 0, .string ⟨#[]⟩, .bool false] := ((hb.out.put 0 (.int .i64 0)).put 1 (.string ⟨#[]⟩)).put 2 (.bool false)
      refine bodyPost_ret (results_row2 Tryz.results60 _ _ w.heap.size 103 #[.int .i64 0, .string ⟨#[]⟩, .bool false] _ rfl bF Tryz.underlying103 rfl (by kernel_rfl)) rfl ⟨by rw [HZ.out.1, HZ.out.2.1, HZ.out.2.2.1, HZ.out.2.2.2]; rfl, ?_⟩
      repeat (first | exact ho.out | refine Only.put ?_ (fun h => by simp only at h; omega) _ | refine Only.alloc ?_ _)

end Go.Proofs.YthaeomdpaadilaaGreatDoor

set_option linter.unusedVariables false
set_option linter.unusedSimpArgs false
namespace Go.Proofs.YthaeomdpaadilaaGreatDoor
open Go.RowKit
open Go.Lib hiding intOf
attribute [local go_sem ↓] Go.wp_at_zero Go.wp_at_succ

/-- Whether an event may be. -/
def evOk (k : Int) (s y : ByteArray) (vk vn : Int) : Bool :=
  kOk k && isName s && (if kO k = true then (!(decide (k = 3) && decide (vk ≠ 1)) && (isName y && mayB vk vn)) else (decide (y = ⟨#[]⟩) && decide (vk = 0 ∧ vn = 0)))
def evA (k : Int) (s y : ByteArray) (vk vn ln : Int) : Array Value := #[.int .i64 k, .string s, .string y, .int .i64 vk, .int .i64 vn, .int .i64 ln]
def evV (k : Int) (s y : ByteArray) (vk vn ln : Int) : Value := .agg #[.int .i64 k, .string s, .string y, .int .i64 vk, .int .i64 vn, .int .i64 ln]

set_option maxRecDepth 10000 in
set_option maxHeartbeats 4000000 in
theorem evmay_any (k : Int) (s y : ByteArray) (vk vn ln : Int) (w : World) (hs : s.size ≤ 9223372036854775807) (hy : y.size ≤ 9223372036854775807) (hT : UTabs w) (hV : Verbs w) :
    Calls Tryz.prog 34 #[.agg #[.int .i64 k, .string s, .string y, .int .i64 vk, .int .i64 vn, .int .i64 ln]] w fun e w' => e = .returned (.bool (evOk k s y vk vn)) ∧ Only [] w w' := by
  obtain ⟨r, hr⟩ : ∃ r, r = evOk k s y vk vn := ⟨_, rfl⟩
  rw [← hr]
  have HK := Lib.hid (fun w' (hO : Only [] w w') => ofKind_any k w' (hV.only hO))
  have HS := Lib.hid (fun w' (hO : Only [] w w') => is_any s w' hs (hT.only hO))
  have HY := Lib.hid (fun w' (hO : Only [] w w') => is_any y w' hy (hT.only hO))
  have HM := Lib.hid (fun w' => vmay_any vk vn w')
  obtain ⟨kk, hkk⟩ : ∃ x, x = kN k := ⟨_, rfl⟩
  obtain ⟨kw, hkw⟩ : ∃ x, x = kW k := ⟨_, rfl⟩
  obtain ⟨ko, hko⟩ : ∃ x, x = kO k := ⟨_, rfl⟩
  obtain ⟨is, his⟩ : ∃ x, x = kOk k := ⟨_, rfl⟩
  obtain ⟨ns, hns⟩ : ∃ x, x = isName s := ⟨_, rfl⟩
  obtain ⟨ny, hny⟩ : ∃ x, x = isName y := ⟨_, rfl⟩
  obtain ⟨mv, hmv⟩ : ∃ x, x = mayB vk vn := ⟨_, rfl⟩
  unfold evOk at hr
  rw [← hko, ← his, ← hns, ← hny, ← hmv] at hr
  rw [← hkk, ← hkw, ← hko, ← his] at HK
  rw [← hns] at HS
  rw [← hny] at HY
  rw [← hmv] at HM
  have HR := Lib.hid hr
  have bE := Blk.made w 47 #[.int .i64 k, .string s, .string y, .int .i64 vk, .int .i64 vn, .int .i64 ln]
  have HO := Lib.hid ((Only.refl [] w).alloc (.cells #[.int .i64 k, .string s, .string y, .int .i64 vk, .int .i64 vn, .int .i64 ln] 47))
  have HE := Lib.hid bE
  clear hr hkk hkw hko his hns hny hmv hs hy hT hV bE
  go_enter Tryz.func34, Tryz.ntmps34
  go_wp2_with fail
  refine (HK.out _ HO.out).mono ?_
  rintro e w1 ⟨rfl, O1⟩
  have HO1 := Lib.hid ((HO.out.trans O1).alloc (.cells #[.int .i64 kk, .string kw, .bool ko] 103))
  have HE1 := Lib.hid ((O1.blk HE.out (by simp)).alloc (.cells #[.int .i64 kk, .string kw, .bool ko] 103))
  have HV1 := Lib.hid (Blk.made w1 103 #[.int .i64 kk, .string kw, .bool ko])
  have hw1 := HO1.out.size
  have e1 := (O1.blk HE.out (by simp)).at_ 1
  have l1 := (O1.blk HE.out (by simp)).lt
  simp at e1
  clear O1
  cases is with
  | false =>
    go_wp2
    go_ret
    exact ⟨by rw [HR.out]; rfl, HO1.out⟩
  | true =>
    go_wp2_with fail
    refine (HS.out _ HO1.out).mono ?_
    rintro e w2 ⟨rfl, O2⟩
    have HO2 := Lib.hid (HO1.out.trans O2)
    have bE2 := O2.blk HE1.out (by simp)
    have bV2 := O2.blk HV1.out (by simp)
    clear e1 l1 O2
    have lE := bE2.lt
    have lV := bV2.lt
    have f0 := bE2.at_ 0
    have f2 := bE2.at_ 2
    have f3 := bE2.at_ 3
    have f4 := bE2.at_ 4
    have v2 := bV2.at_ 2
    simp at f0 f2 f3 f4 v2
    cases ns with
    | false =>
      go_wp2
      go_ret
      exact ⟨by rw [HR.out]; rfl, HO2.out⟩
    | true =>
      cases ko with
      | false =>
        by_cases hy0 : y = ⟨#[]⟩
        · subst hy0
          by_cases h1 : vk = 0
          · subst h1
            by_cases h2 : vn = 0
            · subst h2
              go_wp2
              go_ret
              exact ⟨by rw [HR.out]; rfl, HO2.out⟩
            · have h2' : (vn == 0) = false := by simpa using h2
              have HX := Lib.hid h2
              clear h2
              go_wp2
              go_ret
              exact ⟨by rw [HR.out]; simp [HX.out], HO2.out⟩
          · have h1' : (vk == 0) = false := by simpa using h1
            have HX := Lib.hid h1
            clear h1
            go_wp2
            go_ret
            exact ⟨by rw [HR.out]; simp [HX.out], HO2.out⟩
        · have h0' : (y.toList == []) = false := (ev_ne (l := []) hy0).1
          have HX := Lib.hid hy0
          clear hy0
          go_wp2
          go_ret
          exact ⟨by rw [HR.out]; simp [HX.out], HO2.out⟩
      | true =>
        have HRK : Hid (r = (!(decide (k = 3) && decide (vk ≠ 1)) && (ny && mv))) := Lib.hid (by rw [HR.out]; simp)
        have hcase : (k = 3 ∧ (vk != 1) = true ∧ r = false) ∨ (k = 3 ∧ vk = 1 ∧ r = (ny && mv)) ∨ ((k == 3) = false ∧ r = (ny && mv)) := by
          rw [HRK.out]
          by_cases h3 : k = 3
          · by_cases h1 : vk = 1
            · exact .inr (.inl ⟨h3, h1, by simp [h3, h1]⟩)
            · exact .inl ⟨h3, by simp [h1], by simp [h3, h1]⟩
          · exact .inr (.inr ⟨by simp [h3], by simp [h3]⟩)
        clear HRK
        rcases hcase with ⟨rfl, q2, q3⟩ | ⟨rfl, rfl, q3⟩ | ⟨q1, q3⟩
        · have HQ := Lib.hid q3
          clear q3
          go_wp2
          go_ret
          exact ⟨by rw [HQ.out]; rfl, HO2.out⟩
        all_goals
          have HQ := Lib.hid q3
          clear q3
          go_wp2_with fail
          refine (HY.out _ HO2.out).mono ?_
          rintro e w3 ⟨rfl, O3⟩
          have HO3 := Lib.hid (HO2.out.trans O3)
          have bE3 := O3.blk bE2 (by simp)
          clear f0 f2 f3 f4 v2 lE lV O3
          have lE := bE3.lt
          have f3 := bE3.at_ 3
          have f4 := bE3.at_ 4
          simp at f3 f4
          cases ny with
          | false =>
            go_wp2
            go_ret
            exact ⟨by rw [HQ.out]; rfl, HO3.out⟩
          | true =>
            go_wp2_with fail
            refine (HM.out _).mono ?_
            rintro e w4 ⟨rfl, O4⟩
            have HO4 := Lib.hid (HO3.out.trans O4)
            clear O4
            go_wp2
            go_ret
            exact ⟨by rw [HQ.out]; rfl, HO4.out⟩

end Go.Proofs.YthaeomdpaadilaaGreatDoor
