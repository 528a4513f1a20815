/- Parts. -/
import Derived.Laws.ResultCell
import Derived.Laws.IdiomCopy
import Derived.Test.YtbiclliooidkjaaGreatDoorLaw41AllK10
import Derived.Deep.CutBlock
import Derived.Deep.DeepCutAuto
import Derived.Maps.OwnSet
set_option maxRecDepth 10000
set_option maxHeartbeats 16000000
set_option linter.unusedVariables false
set_option linter.unusedSimpArgs false
namespace Go.Proofs.YtbiclliooidkjaaGreatDoor
open Go.RowKit
section
variable {P : Program}
theorem results_row1 {fn : Func} {p : Tmp} {ty : TypeId} (h : fn.results = #[.cell p ty]) (tmps : Array Value) (w : World) (g : Nat) (t : TypeId) (cs : Array Value) (d : TypeDesc)
  (hp : tmps.getD p undef = .pointer (some ⟨g, 0, none⟩)) (hg : Blk w g t cs) (hu : P.underlying ty = some d) (hd : d.isRow = true) (hi : (P.info? ty).map (·.size) = some cs.size) :
  (results fn tmps).run P w = .ok (.agg cs) w :=
 results_cell_row h tmps w g t cs (0, 0) d hp hg hu (by cases d <;> simp_all) hi
theorem results_row2 {fn : Func} {p u : Tmp} {ty : TypeId} (h : fn.results = #[.cell p ty, .tmp u]) (tmps : Array Value) (w : World) (g : Nat) (t : TypeId) (cs : Array Value) (d : TypeDesc)
  (hp : tmps.getD p undef = .pointer (some ⟨g, 0, none⟩)) (hg : Blk w g t cs) (hu : P.underlying ty = some d) (hd : d.isRow = true) (hi : (P.info? ty).map (·.size) = some cs.size) :
  (results fn tmps).run P w = .ok (.tuple #[.agg cs, tmps.getD u undef]) w := by
 have hl := run_loadVar_row (P := P) w g t ty cs (0, 0) d hg hu (by cases d <;> simp_all) hi;rw [results_cell_tmp h, hp];simp [asAddr, hl, Result.andThen]
theorem results_row3 {fn : Func} {p u v : Tmp} {ty : TypeId} (h : fn.results = #[.cell p ty, .tmp u, .tmp v]) (tmps : Array Value) (w : World) (g : Nat) (t : TypeId) (cs : Array Value) (d : TypeDesc)
  (hp : tmps.getD p undef = .pointer (some ⟨g, 0, none⟩)) (hg : Blk w g t cs) (hu : P.underlying ty = some d) (hd : d.isRow = true) (hi : (P.info? ty).map (·.size) = some cs.size) :
  (results fn tmps).run P w = .ok (.tuple #[.agg cs, tmps.getD u undef, tmps.getD v undef]) w := by
 have hp' : tmps[p]?.getD undef = .pointer (some ⟨g, 0, none⟩) := by simpa using hp
 have hl := run_loadVar_row (P := P) w g t ty cs (0, 0) d hg hu (by cases d <;> simp_all) hi;simp only [results, h];simp [Sem.run_bind, Result.andThen, hp', asAddr, hl]
end
theorem Blk.there {w : World} {g : Nat} {t : TypeId} {cs : Array Value} (h : Blk w g t cs) : w.there g 0 cs.size := fun j hj => by
 rw [Nat.zero_add];exact ⟨by rw [h.at_ j]; simp [hj], h.free j⟩
theorem setCells_only (g : Nat) : ∀ (vs : List Value) (o : Nat) (S : List Nat) (w w' : World), Only S w w' → (g < w.heap.size → g ∈ S) → Only S w (w'.setCells g o vs)
 | [], _, _, _, _, h, _ => h
 | v :: vs, o, S, w, w', h, hg => setCells_only g vs (o + 1) S w _ (h.put (p := ⟨g, o, none⟩) hg v) hg
theorem Only.putAll {S : List Nat} {w w' : World} (h : Only S w w') {g : Nat} (hg : g < w.heap.size → g ∈ S) (vs : List Value) : Only S w (w'.setCells g 0 vs) := setCells_only g vs 0 S w w' h hg
theorem setCells_blk (g : Nat) (t : TypeId) : ∀ (vs : List Value) (o : Nat) (w : World) (cs : Array Value), Blk w g t cs → o + vs.length = cs.size → Blk (w.setCells g o vs) g t (cs.toList.take o ++ vs).toArray
 | [], o, w, cs, h, hl => by
  have e : (cs.toList.take o ++ []).toArray = cs := by
   rw [List.append_nil, List.take_of_length_le (by simp at hl ⊢; omega)]
  rw [e];exact h
 | v :: vs, o, w, cs, h, hl => by
  have h1 := h.put o v;have hl2 : o < cs.size := by simp at hl; omega
  have h2 := setCells_blk g t vs (o + 1) _ _ h1 (by simp at hl ⊢; omega);have e : (cs.setIfInBounds o v).toList.take (o + 1) ++ vs = cs.toList.take o ++ v :: vs := by
   rw [Array.toList_setIfInBounds, List.take_add_one, List.take_set_of_le (by omega)];simp [hl2]
  rw [e] at h2;exact h2
theorem Blk.putAll {w : World} {g : Nat} {t : TypeId} {cs : Array Value} (h : Blk w g t cs) (vs : List Value) (hl : vs.length = cs.size) : Blk (w.setCells g 0 vs) g t vs.toArray := by
 have := setCells_blk g t vs 0 w cs h (by simpa using hl)
 simpa using this
theorem Blk.range {w : World} {g : Nat} {t : TypeId} {cs : Array Value} (h : Blk w g t cs) : w.rangeAt g 0 cs.toList := fun j v hj => by
 rw [Nat.zero_add, h.at_ j]
 simpa using hj
theorem wp_store_blk {P : Program} {op : Oper} {a : Act} {w : World} {K : Act → World → Prop} {Q : Exit → Act → World → Prop} (ty : TypeId) (x y : Operand) (ho : op.op = .store ty x y)
  (g : Nat) (t : TypeId) (cs cells : Array Value) (hx : a.eval x = .pointer (some ⟨g, 0, none⟩)) (hy : a.eval y = .agg cells)
  (hb : Blk w g t cs) (hl : cells.size = cs.size) (hi : (P.info? ty).map (·.size) = some cells.size) (h1 : cells.all (·.oneCell') = true)
  (h : ∀ w', Blk w' g t cells → Only [g] w w' → K (a.put op.dst undef) w') : op.wp P a w K Q :=
 wp_store_mid ty x y ho g 0 cells hx hy (by rw [hl]; exact hb.there) hi h1 (h _ (by have := hb.putAll cells.toList (by simpa using hl); simpa using this) ((Only.refl [g] w).putAll (fun _ => by simp) _))
attribute [local go_sem ↓] Go.wp_at_zero Go.wp_at_succ
theorem ofKind_any (k : Int) (w : World) (hV : Verbs w) : Calls Tryz.prog 109 #[.int .i64 k] w fun e w' => e = .returned (.tuple #[.agg #[.int .i64 (kN k), .string (kW k), .bool (kO k)], .bool (kOk k)]) ∧ Only [] w w' := by
 have hv1 := hV.only ((Only.refl [] w).alloc (.cells #[.int .i64 0, .string ⟨#[]⟩, .bool false] 122));have hx := verb_idx;have HX := Hd hx;have HB := Hd (Blk.made w 122 #[.int .i64 0, .string ⟨#[]⟩, .bool false]);have HO := Hd ((Only.refl [] w).alloc (.cells #[.int .i64 0, .string ⟨#[]⟩, .bool false] 122));have HX2 := HX;have HV1 : Hid (World.rangeAt (w.alloc (.cells #[.int .i64 0, .string ⟨#[]⟩, .bool false] 122)) 2 0 verbC) := Hd (fun j v hj => by rw [Nat.zero_add]; exact hv1.2 j v hj);clear hV hx hv1 HX;go_enter Tryz.func109, Tryz.ntmps109;go_upto_region 1 with (fail)
 refine wp_region_lit ?_;refine wpList_load_mid rfl 153 (.global 2) rfl 2 0 rfl verbC (.array 6 122) HV1.out (by kernel_rfl) rfl (by kernel_rfl) ?_;have hvv : Value.agg verbC.toArray = verbV := by rfl
 rw [hvv];have HX := HX2;clear HX2 HV1 hvv;generalize verbV = V at *;go_wp2_with fail
 go_loopw [7] (fun i wr => ∃ j : Nat, i = .int .i64 j ∧ j ≤ 6 ∧ Hid (∀ m : Nat, 1 ≤ m → m ≤ j → k ≠ (m : Int)) ∧ Hid (Blk wr w.heap.size 122 #[.int .i64 0, .string ⟨#[]⟩, .bool false]) ∧ Hid (Only [] w wr)) (fun i _ => 6 - (intOf i).toNat)
 case atStart => exact ⟨0, rfl, by omega, Hd (fun m h1 h2 => by omega), HB, HO⟩
 case round =>
  obtain ⟨j, rfl, hj, hno, hb, ho⟩ := hrel;have h00 := ho.out.size;have f0 := hb.out.at_ 0;have f1 := hb.out.at_ 1;have f2 := hb.out.at_ 2;have g0 := hb.out.free 0;have g1 := hb.out.free 1;have g2 := hb.out.free 2;simp at f0 f1 f2;have hb0 := hb.out.lt
  by_cases hlt : j < 6
  ·have hidx := HX.out j hlt;have h01 : (j : Int) < 6 := by omega
   have hwk : IntKind.i64.wrap ((j : Int) + 1) = (j : Int) + 1 := IntWalk.i64_in _ (by omega)
   by_cases hk : k = (j : Int) + 1
   ·subst hk;have hbt : ((j : Int) + 1 == (j : Int) + 1) = true := by simp
    have HE : Hid (kN ((j : Int) + 1) = (j : Int) + 1 ∧ kOk ((j : Int) + 1) = true) := Hd ⟨if_pos (by omega), decide_eq_true (by omega)⟩;obtain ⟨ww, hw⟩ : ∃ ww, ww = kW ((j : Int) + 1) := ⟨_, rfl⟩;obtain ⟨oo, hoo⟩ : ∃ oo, oo = kO ((j : Int) + 1) := ⟨_, rfl⟩;rw [← hw, ← hoo] at hidx;have HWW := Hd hw;have HOO := Hd hoo;clear hw hoo;go_wp2
    have bF : Blk _ w.heap.size 122 #[.int .i64 ((j : Int) + 1), .string ww, .bool oo] := ((hb.out.put 0 (.int .i64 ((j : Int) + 1))).put 1 (.string ww)).put 2 (.bool oo);refine bodyPost_ret (results_row2 Tryz.results109 _ _ w.heap.size 122 #[.int .i64 ((j : Int) + 1), .string ww, .bool oo] _ rfl (bF.alloc _) Tryz.underlying122 rfl (by kernel_rfl)) rfl ⟨by rw [HE.out.1, HE.out.2, HWW.out, HOO.out]; rfl, ?_⟩
    repeat (first | exact ho.out | refine Only.put ?_ (fun h => by simp only at h; omega) _ | refine Only.alloc ?_ _)
   ·have hbt : ((j : Int) + 1 == k) = false := by simp; omega
    have HK := Hd hk;clear hk;go_wp2
    go_roundw
    case rel =>
     refine ⟨j + 1, by go_num, by omega, Hd (fun m h1 h2 e => ?_), Hd ?_, Hd ?_⟩
     ·rcases Nat.lt_or_ge j m with h3 | h3
      ·have : m = j + 1 := by omega
       subst this;exact HK.out (by rw [e]; omega)
      ·exact hno.out m h1 h3 e
     ·repeat (first | exact hb.out | refine Blk.far ?_ (by simp; omega) _ | refine Blk.alloc ?_ _)
     ·repeat (first | exact ho.out | refine Only.put ?_ (fun h => by simp only at h; omega) _ | refine Only.alloc ?_ _)
    case measure => simp [intOf]; omega
  ·obtain rfl : j = 6 := by omega
   have HZ : Hid (kN k = 0 ∧ kOk k = false ∧ kO k = false ∧ kW k = ⟨#[]⟩) := Hd (by
    have q := hno.out;have q1 := q 1 (by omega) (by omega);have q2 := q 2 (by omega) (by omega);have q3 := q 3 (by omega) (by omega);have q4 := q 4 (by omega) (by omega);have q5 := q 5 (by omega) (by omega);have q6 := q 6 (by omega) (by omega);rcases kN_cases k with e | e | e | e | e | e | ⟨e1, e2, e3, e4, -⟩
    ·exact absurd e q1
    ·exact absurd e q2
    ·exact absurd e q3
    ·exact absurd e q4
    ·exact absurd e q5
    ·exact absurd e q6
    ·exact ⟨e1, e2, e3, e4⟩)
   go_wp2
   have bF : Blk _ w.heap.size 122 #[.int .i64 0, .string ⟨#[]⟩, .bool false] := ((hb.out.put 0 (.int .i64 0)).put 1 (.string ⟨#[]⟩)).put 2 (.bool false);refine bodyPost_ret (results_row2 Tryz.results109 _ _ w.heap.size 122 #[.int .i64 0, .string ⟨#[]⟩, .bool false] _ rfl bF Tryz.underlying122 rfl (by kernel_rfl)) rfl ⟨by rw [HZ.out.1, HZ.out.2.1, HZ.out.2.2.1, HZ.out.2.2.2]; rfl, ?_⟩
   repeat (first | exact ho.out | refine Only.put ?_ (fun h => by simp only at h; omega) _ | refine Only.alloc ?_ _)
end Go.Proofs.YtbiclliooidkjaaGreatDoor
namespace Go.Proofs.YtbiclliooidkjaaGreatDoor
open Go.RowKit
open Go.Lib hiding intOf
attribute [local go_sem ↓] Go.wp_at_zero Go.wp_at_succ
def evOk (k : Int) (s y : ByteArray) (vk vn : Int) : Bool :=
 kOk k && isName s && (if kO k = true then (!(decide (k = 3) && decide (vk ≠ 1)) && (isName y && mayB vk vn)) else (decide (y = ⟨#[]⟩) && decide (vk = 0 ∧ vn = 0)))
theorem evmay_any (k : Int) (s y : ByteArray) (vk vn ln : Int) (w : World) (hs : s.size ≤ 9223372036854775807) (hy : y.size ≤ 9223372036854775807) (hT : UTabs w) (hV : Verbs w) :
  Calls Tryz.prog 99 #[.agg #[.int .i64 k, .string s, .string y, .int .i64 vk, .int .i64 vn, .int .i64 ln]] w fun e w' => e = .returned (.bool (evOk k s y vk vn)) ∧ Only [] w w' := by
 obtain ⟨r, hr⟩ : ∃ r, r = evOk k s y vk vn := ⟨_, rfl⟩;rw [← hr];have HK := Hd (fun w' (hO : Only [] w w') => ofKind_any k w' (hV.only hO));have HS := Hd (fun w' (hO : Only [] w w') => is_any s w' hs (hT.only hO));have HY := Hd (fun w' (hO : Only [] w w') => is_any y w' hy (hT.only hO));have HM := Hd (fun w' => vmay_any vk vn w');obtain ⟨kk, hkk⟩ : ∃ x, x = kN k := ⟨_, rfl⟩;obtain ⟨kw, hkw⟩ : ∃ x, x = kW k := ⟨_, rfl⟩;obtain ⟨ko, hko⟩ : ∃ x, x = kO k := ⟨_, rfl⟩;obtain ⟨is, his⟩ : ∃ x, x = kOk k := ⟨_, rfl⟩;obtain ⟨ns, hns⟩ : ∃ x, x = isName s := ⟨_, rfl⟩;obtain ⟨ny, hny⟩ : ∃ x, x = isName y := ⟨_, rfl⟩;obtain ⟨mv, hmv⟩ : ∃ x, x = mayB vk vn := ⟨_, rfl⟩;unfold evOk at hr;rw [← hko, ← his, ← hns, ← hny, ← hmv] at hr;rw [← hkk, ← hkw, ← hko, ← his] at HK;rw [← hns] at HS;rw [← hny] at HY;rw [← hmv] at HM;have HR := Hd hr;have bE := Blk.made w 99 #[.int .i64 k, .string s, .string y, .int .i64 vk, .int .i64 vn, .int .i64 ln];have HO := Hd ((Only.refl [] w).alloc (.cells #[.int .i64 k, .string s, .string y, .int .i64 vk, .int .i64 vn, .int .i64 ln] 99));have HE := Hd bE;clear hr hkk hkw hko his hns hny hmv hs hy hT hV bE;go_enter Tryz.func99, Tryz.ntmps99;go_wp2_with fail
 refine (HK.out _ HO.out).mono ?_;rintro e w1 ⟨rfl, O1⟩;have HO1 := Hd ((HO.out.trans O1).alloc (.cells #[.int .i64 kk, .string kw, .bool ko] 122));have HE1 := Hd ((O1.blk HE.out (by simp)).alloc (.cells #[.int .i64 kk, .string kw, .bool ko] 122));have HV1 := Hd (Blk.made w1 122 #[.int .i64 kk, .string kw, .bool ko]);have hw1 := HO1.out.size;have e1 := (O1.blk HE.out (by simp)).at_ 1;have l1 := (O1.blk HE.out (by simp)).lt;simp at e1;clear O1
 cases is with
 | false =>
  go_wp2
  go_ret
  exact ⟨by rw [HR.out]; rfl, HO1.out⟩
 | true =>
  go_wp2_with fail
  refine (HS.out _ HO1.out).mono ?_;rintro e w2 ⟨rfl, O2⟩;have HO2 := Hd (HO1.out.trans O2);have bE2 := O2.blk HE1.out (by simp);have bV2 := O2.blk HV1.out (by simp);clear e1 l1 O2;have lE := bE2.lt;have lV := bV2.lt;have f0 := bE2.at_ 0;have f2 := bE2.at_ 2;have f3 := bE2.at_ 3;have f4 := bE2.at_ 4;have v2 := bV2.at_ 2;simp at f0 f2 f3 f4 v2
  cases ns with
  | false =>
   go_wp2
   go_ret
   exact ⟨by rw [HR.out]; rfl, HO2.out⟩
  | true =>
   cases ko with
   | false =>
    by_cases hy0 : y = ⟨#[]⟩
    ·subst hy0
     by_cases h1 : vk = 0
     ·subst h1
      by_cases h2 : vn = 0
      ·subst h2;go_wp2
       go_ret
       exact ⟨by rw [HR.out]; rfl, HO2.out⟩
      ·have h2' : (vn == 0) = false := by simpa using h2
       have HX := Hd h2;clear h2;go_wp2
       go_ret
       exact ⟨by rw [HR.out]; simp [HX.out], HO2.out⟩
     ·have h1' : (vk == 0) = false := by simpa using h1
      have HX := Hd h1;clear h1;go_wp2
      go_ret
      exact ⟨by rw [HR.out]; simp [HX.out], HO2.out⟩
    ·have h0' : (y.toList == []) = false := (ev_ne (l := []) hy0).1;have HX := Hd hy0;clear hy0;go_wp2
     go_ret
     exact ⟨by rw [HR.out]; simp [HX.out], HO2.out⟩
   | true =>
    have HRK : Hid (r = (!(decide (k = 3) && decide (vk ≠ 1)) && (ny && mv))) := Hd (by rw [HR.out]; simp);have hcase : (k = 3 ∧ (vk != 1) = true ∧ r = false) ∨ (k = 3 ∧ vk = 1 ∧ r = (ny && mv)) ∨ ((k == 3) = false ∧ r = (ny && mv)) := by
     rw [HRK.out]
     by_cases h3 : k = 3
     ·by_cases h1 : vk = 1
      ·exact .inr (.inl ⟨h3, h1, by simp [h3, h1]⟩)
      ·exact .inl ⟨h3, by simp [h1], by simp [h3, h1]⟩
     ·exact .inr (.inr ⟨by simp [h3], by simp [h3]⟩)
    clear HRK;rcases hcase with ⟨rfl, q2, q3⟩ | ⟨rfl, rfl, q3⟩ | ⟨q1, q3⟩
    ·have HQ := Hd q3;clear q3;go_wp2
     go_ret
     exact ⟨by rw [HQ.out]; rfl, HO2.out⟩
    all_goals
     have HQ := Hd q3;clear q3;go_wp2_with fail
     refine (HY.out _ HO2.out).mono ?_;rintro e w3 ⟨rfl, O3⟩;have HO3 := Hd (HO2.out.trans O3);have bE3 := O3.blk bE2 (by simp);clear f0 f2 f3 f4 v2 lE lV O3;have lE := bE3.lt;have f3 := bE3.at_ 3;have f4 := bE3.at_ 4;simp at f3 f4
     cases ny with
     | false =>
      go_wp2
      go_ret
      exact ⟨by rw [HQ.out]; rfl, HO3.out⟩
     | true =>
      go_wp2_with fail
      refine (HM.out _).mono ?_;rintro e w4 ⟨rfl, O4⟩;have HO4 := Hd (HO3.out.trans O4);clear O4;go_wp2
      go_ret
      exact ⟨by rw [HQ.out]; rfl, HO4.out⟩
end Go.Proofs.YtbiclliooidkjaaGreatDoor
namespace Go.Proofs.YtbiclliooidkjaaGreatDoor
open Go.RowKit
theorem own_set {w : World} {base : Nat} {e : TypeId} {size : Nat} {v : Value} {n : Nat} {xs : List Value} {g : Nat} (h : w.ownsRow base e size v n xs) (hg : v.ownBlock = some g) {j : Nat} (hj : j < xs.length) (u : Value) :
  (w.setCell ⟨g, j, none⟩ u).ownsRow base e size v n (xs.set j u) := by
 obtain ⟨h0, ⟨rfl, -⟩ | ⟨g', cap, cur, rfl, h1, h2, h3, h4, h5, h6⟩⟩ := h
 ·simp [Value.ownBlock] at hg
 ·obtain rfl : g' = g := by simpa [Value.ownBlock] using hg
  refine ⟨by simpa using h0, .inr ⟨g', cap, cur.setIfInBounds j u, rfl, h1, Blk.put h2 j u, h3, h4, by simpa using h5, ?_⟩⟩;rw [Array.toList_setIfInBounds, ← h6];have hjl : j < n * size := by omega
  apply List.ext_getElem?
  intro k
  by_cases hk : k < n * size
  ·rw [List.getElem?_take_of_lt hk, List.getElem?_set, List.getElem?_set, List.getElem?_take_of_lt hk];have : (List.take (n * size) cur.toList).length = n * size := by rw [h6]; exact h0
   by_cases hjk : j = k
   ·subst hjk;rw [if_pos rfl, if_pos rfl, if_pos (by have h9 := this; rw [List.length_take] at h9; omega), if_pos (by rw [this]; exact hk)]
   ·rw [if_neg hjk, if_neg hjk]
  ·rw [List.getElem?_eq_none (by rw [List.length_take]; omega), List.getElem?_eq_none (by rw [List.length_set, List.length_take]; omega)]
theorem own_cell {w : World} {base : Nat} {e : TypeId} {size : Nat} {v : Value} {n : Nat} {xs : List Value} {g : Nat} (h : w.ownsRow base e size v n xs) (hg : v.ownBlock = some g) {j : Nat} {u : Value} (hj : xs[j]? = some u) :
  w.cell? ⟨g, j, none⟩ = some u ∧ w.frozen? ⟨g, j, none⟩ = false := by
 obtain ⟨cur, hb⟩ := own_blk h hg;have := h.cells hg j u hj;refine ⟨?_, hb.free j⟩;have e' : (⟨g, 0, none⟩ : Addr).add j = ⟨g, j, none⟩ := by
  unfold Addr.add
  split
  ·rename_i h; subst h; rfl
  ·simp
 rwa [e'] at this
open Go.Lib hiding intOf
structure Pt where
 s : ByteArray
 f : Int
 ln : Int
 ks : List ByteArray
 ops : List Op4
structure Mk where
 ps : List Pt
 ss : List ByteArray
 ks : List ByteArray
def openI (ps : List Pt) (s : ByteArray) : Option Nat := ps.findIdx? fun p => decide (p.s = s) && decide (p.f = 0)
def withB (t : List ByteArray) (s : ByteArray) : List ByteArray := if 0 ≤ posB t s then t else sortB (t ++ [s])
def fateE (k : Int) : Int := if k = 4 then 1 else if k = 5 then 2 else 3
def beginE (m : Mk) (a : Ev6) : Int := if (withB m.ss a.s).length > 20 ∨ m.ps.length = 40 then 7 else 0
def beginM (m : Mk) (a : Ev6) : Mk := if (withB m.ss a.s).length > 20 ∨ m.ps.length = 40 then m else ⟨m.ps ++ [⟨a.s, 0, a.ln, [], []⟩], withB m.ss a.s, m.ks⟩
def addP (p : Pt) (a : Ev6) : Pt := { p with ks := p.ks ++ [a.y], ops := p.ops ++ [⟨decide (a.k = 3), 0, a.vk, a.vn⟩] }
def addE (m : Mk) (p : Pt) (a : Ev6) : Int := if p.ops.length = 20 ∨ (withB m.ks a.y).length > 40 then 7 else 0
def addM (m : Mk) (i : Nat) (p : Pt) (a : Ev6) : Mk := if p.ops.length = 20 ∨ (withB m.ks a.y).length > 40 then m else ⟨m.ps.set i (addP p a), m.ss, withB m.ks a.y⟩
def takeE (m : Mk) (a : Ev6) : Int :=
 if evOk a.k a.s a.y a.vk a.vn = false then 4 else
 match openI m.ps a.s with
 | some i => if a.k = 1 then 9 else if a.k = 2 ∨ a.k = 3 then (match m.ps[i]? with | some p => addE m p a | none => 0) else 0
 | none => if a.k = 1 then beginE m a else 10
def takeM (m : Mk) (a : Ev6) : Mk :=
 if evOk a.k a.s a.y a.vk a.vn = false then m else
 match openI m.ps a.s with
 | some i => if a.k = 1 then m else (match m.ps[i]? with | some p => if a.k = 2 ∨ a.k = 3 then addM m i p a else ⟨m.ps.set i { p with f := fateE a.k }, m.ss, m.ks⟩ | none => m)
 | none => if a.k = 1 then beginM m a else m
structure PtA where
 p : Pt
 A : Option Addr
 c : Nat
 Z : Option Addr
 d : Nat
def PtA.c5 (x : PtA) : List Value := [.string x.p.s, .int .i64 x.p.f, .int .i64 x.p.ln, .slice x.A x.p.ks.length x.c, .slice x.Z x.p.ops.length x.d]
def ptC (l : List PtA) : List Value := l.flatMap PtA.c5
theorem ptC_len (l : List PtA) : (ptC l).length = l.length * 5 := flat_len _ 5 (fun _ => rfl) l
theorem ptC_get (l : List PtA) (i : Nat) (x : PtA) (h : l[i]? = some x) : ∀ j, j < 5 → (ptC l)[i * 5 + j]? = x.c5[j]? := flat_get _ 5 (fun _ => rfl) l i x h
theorem ptC_append (l k : List PtA) : ptC (l ++ k) = ptC l ++ ptC k := by simp [ptC]
theorem flat_set {α : Type} (f : α → List Value) (n : Nat) (h : ∀ x, (f x).length = n) : ∀ (l : List α) (i j : Nat) (x y : α) (u : Value), l[i]? = some x → j < n → f y = (f x).set j u → (l.flatMap f).set (i * n + j) u = (l.set i y).flatMap f
 | [], i, j, x, y, u, hx, _, _ => by simp at hx
 | z :: l, 0, j, x, y, u, hx, hj, hy => by
  simp at hx;subst hx;rw [List.set_cons_zero, List.flatMap_cons, List.flatMap_cons, hy, Nat.zero_mul, Nat.zero_add, List.set_append_left _ _ (by rw [h]; exact hj)]
 | z :: l, i + 1, j, x, y, u, hx, hj, hy => by
  have := flat_set f n h l i j x y u (by simpa using hx) hj hy;rw [List.set_cons_succ, List.flatMap_cons, List.flatMap_cons, ← this, List.set_append_right _ _ (by rw [h, Nat.add_mul]; omega)]
  congr 2
  rw [h, Nat.add_mul];omega
theorem ptC_set (l : List PtA) (i j : Nat) (x y : PtA) (u : Value) (hx : l[i]? = some x) (hj : j < 5) (hy : y.c5 = x.c5.set j u) : (ptC l).set (i * 5 + j) u = ptC (l.set i y) := flat_set _ 5 (fun _ => rfl) l i j x y u hx hj hy
end Go.Proofs.YtbiclliooidkjaaGreatDoor
namespace Go.Proofs.YtbiclliooidkjaaGreatDoor
open Go.RowKit
structure OR where
 e : TypeId
 sz : Nat
 v : Value
 n : Nat
 xs : List Value
def OR.ok (w : World) (base : Nat) (r : OR) : Prop := w.ownsRow base r.e r.sz r.v r.n r.xs
structure ORs (w : World) (base : Nat) (L : List OR) : Prop where
 all : ∀ (i : Nat) (r : OR), L[i]? = some r → r.ok w base
 ap : ∀ (i j : Nat) (r s : OR), L[i]? = some r → L[j]? = some s → i ≠ j → ∀ g, r.v.ownBlock = some g → s.v.ownBlock ≠ some g
def ownB (L : List OR) : List Nat := L.flatMap fun r => r.v.ownBlock.toList
theorem ownB_mem {L : List OR} {g : Nat} : g ∈ ownB L ↔ ∃ (i : Nat) (r : OR), L[i]? = some r ∧ r.v.ownBlock = some g := by
 unfold ownB;rw [List.mem_flatMap]
 constructor
 ·rintro ⟨r, hr, hg⟩;obtain ⟨i, hi⟩ := List.mem_iff_getElem?.1 hr;exact ⟨i, r, hi, by simpa using hg⟩
 ·rintro ⟨i, r, hi, hg⟩;exact ⟨r, List.mem_of_getElem? hi, by simp [hg]⟩
section
variable {w w' : World} {base : Nat} {L : List OR}
theorem ORs.only {S : List Nat} (h : ORs w base L) (O : Only S w w') (hS : ∀ g ∈ ownB L, g ∉ S) : ORs w' base L :=
 ⟨fun i r hr => own_only (h.all i r hr) O (fun g hg => hS g (ownB_mem.2 ⟨i, r, hr, hg⟩)), h.ap⟩
theorem ORs.same (h : ORs w base L) (O : Only [] w w') : ORs w' base L := h.only O (by simp)
theorem ORs.ge (h : ORs w base L) : ∀ g ∈ ownB L, base ≤ g ∧ g < w.heap.size := fun g hg => by
 obtain ⟨i, r, hi, hr⟩ := ownB_mem.1 hg;exact (h.all i r hi).lt g hr
theorem ORs.upd {i : Nat} {r r' : OR} (h : ORs w base L) (hi : L[i]? = some r) (O : Only r.v.ownBlock.toList w w') (hr : r'.ok w' base) (hv : r'.v.ownBlock = r.v.ownBlock ∨ ∀ g, r'.v.ownBlock = some g → w.heap.size ≤ g) : ORs w' base (L.set i r') := by
 have hil := (List.getElem?_eq_some_iff.1 hi).1;have key : ∀ (j : Nat) (s : OR), L[j]? = some s → j ≠ i → ∀ g, r'.v.ownBlock = some g → s.v.ownBlock ≠ some g := fun j s hs hji g hg hsg => by
  rcases hv with e | e
  ·rw [e] at hg;exact h.ap i j r s hi hs (Ne.symm hji) g hg hsg
  ·have h1 := e g hg;have h2 := (h.all j s hs).lt g hsg;omega
 refine ⟨fun j s hs => ?_, fun j k s t hs ht hjk g hg htg => ?_⟩
 ·rw [List.getElem?_set] at hs
  by_cases hij : i = j
  ·rw [if_pos hij, if_pos hil] at hs;obtain rfl := Option.some.inj hs;exact hr
  ·rw [if_neg hij] at hs;exact own_only (h.all j s hs) O (fun g hg hm => h.ap j i s r hs hi (Ne.symm hij) g hg (by simpa using hm))
 ·rw [List.getElem?_set] at hs ht
  by_cases hij : i = j
  ·rw [if_pos hij, if_pos hil] at hs;obtain rfl := Option.some.inj hs;rw [if_neg (by omega)] at ht;exact key k t ht (by omega) g hg htg
  ·rw [if_neg hij] at hs
   by_cases hik : i = k
   ·rw [if_pos hik, if_pos hil] at ht;obtain rfl := Option.some.inj ht;exact key j s hs (by omega) g htg hg
   ·rw [if_neg hik] at ht;exact h.ap j k s t hs ht hjk g hg htg
theorem ORs.push {r' : OR} (h : ORs w base L) (hr : r'.ok w base) (hv : r'.v.ownBlock = none) : ORs w base (L ++ [r']) := by
 have hat : ∀ (j : Nat) (s : OR), (L ++ [r'])[j]? = some s → L[j]? = some s ∨ s = r' := fun j s hs => by
  rcases Nat.lt_or_ge j L.length with hl | hl
  ·rw [List.getElem?_append_left hl] at hs;exact .inl hs
  ·rw [List.getElem?_append_right hl] at hs
   cases hd : j - L.length with
   | zero => rw [hd] at hs; simp at hs; exact .inr hs.symm
   | succ k => rw [hd] at hs; simp at hs
 refine ⟨fun j s hs => ?_, fun j k s t hs ht hjk g hg htg => ?_⟩
 ·rcases hat j s hs with h1 | rfl
  ·exact h.all j s h1
  ·exact hr
 ·rcases hat j s hs with h1 | rfl
  ·rcases hat k t ht with h2 | rfl
   ·exact h.ap j k s t h1 h2 hjk g hg htg
   ·rw [hv] at htg; cases htg
  ·rw [hv] at hg; cases hg
theorem ORs.cell {i g j : Nat} {r : OR} {xs : List Value} (h : ORs w base L) (hi : L[i]? = some r) (hg : r.v.ownBlock = some g) (hj : j < r.xs.length) (u : Value) (hx : r.xs.set j u = xs) :
  ORs (w.setCell ⟨g, j, none⟩ u) base (L.set i ⟨r.e, r.sz, r.v, r.n, xs⟩) :=
 h.upd (r' := ⟨r.e, r.sz, r.v, r.n, xs⟩) hi ((Only.refl _ w).put (p := ⟨g, j, none⟩) (fun _ => by simp [hg]) u) (by subst hx; exact own_set (h.all i r hi) hg hj u) (.inl rfl)
end
end Go.Proofs.YtbiclliooidkjaaGreatDoor
