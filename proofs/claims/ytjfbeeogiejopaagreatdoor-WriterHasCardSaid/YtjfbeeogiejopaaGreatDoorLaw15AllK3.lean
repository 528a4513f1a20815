/- Contracts of the package event: ofKind. Slices that are only read: a slice's cells as a list, nil let in; how a slice argument opens to it. Slices that a call makes: append from whatever slice, nil and empty let in; a copy of a list of integers. -/
import Derived.Test.YtjfbeeogiejopaaGreatDoorLaw15AllK2
import Derived.Deep.CutBlock
import Derived.Deep.DeepCutAuto
import Derived.Test.YtjfbeeogiejopaaGreatDoorLaw15AllK1
import Derived.Deep.Slices
import Derived.Deep.Strs
import Derived.Maps.AppendAt
import Derived.Laws.OwnMore
set_option linter.unusedVariables false
set_option linter.unusedSimpArgs false
namespace Go.Proofs.YtjfbeeogiejopaaGreatDoor
open Go.RowKit
attribute [local go_sem ↓] Go.wp_at_zero Go.wp_at_succ
set_option maxHeartbeats 1000000 in
set_option maxRecDepth 10000 in
theorem ofKind_any (k : Int) (w : World) (hV : Verbs w) : Calls Tryz.prog 164 #[.int .i64 k] w fun e w' => e = .returned (.tuple #[.agg #[.int .i64 (kN k), .string (kW k), .bool (kO k)], .bool (kOk k)]) ∧ Only [] w w' := by
 have hv1 := hV.only ((Only.refl [] w).alloc (.cells #[.int .i64 0, .string ⟨#[]⟩, .bool false] 151))
 have hx := verb_idx
 have HX := Lib.hid hx
 have HB := Lib.hid (Blk.made w 151 #[.int .i64 0, .string ⟨#[]⟩, .bool false])
 have HO := Lib.hid ((Only.refl [] w).alloc (.cells #[.int .i64 0, .string ⟨#[]⟩, .bool false] 151))
 have HX2 := HX
 have HV1 : Hid (World.rangeAt (w.alloc (.cells #[.int .i64 0, .string ⟨#[]⟩, .bool false] 151)) 2 0 verbC) := Lib.hid (fun j v hj => by rw [Nat.zero_add]; exact hv1.2 j v hj)
 clear hV hx hv1 HX
 go_enter Tryz.func164, Tryz.ntmps164
 go_upto_region 1 with (fail)
 refine wp_region_lit ?_
 refine wpList_load_mid rfl 196 (.global 2) rfl 2 0 rfl verbC (.array 6 151) HV1.out (by kernel_rfl) rfl (by kernel_rfl) ?_
 have hvv : Value.agg verbC.toArray = verbV := by rfl
 rw [hvv]
 have HX := HX2
 clear HX2 HV1 hvv
 generalize verbV = V at *
 go_wp2_with fail
 go_loopw [7] (fun i wr => ∃ j : Nat, i = .int .i64 j ∧ j ≤ 6 ∧ Hid (∀ m : Nat, 1 ≤ m → m ≤ j → k ≠ (m : Int)) ∧ Hid (Blk wr w.heap.size 151 #[.int .i64 0, .string ⟨#[]⟩, .bool false]) ∧ Hid (Only [] w wr)) (fun i _ => 6 - (intOf i).toNat)
 case atStart => exact ⟨0, rfl, by omega, Lib.hid (fun m h1 h2 => by omega), HB, HO⟩
 case round =>
  obtain ⟨j, rfl, hj, hno, hb, ho⟩ := hrel
  have h00 := ho.out.size
  have f0 := hb.out.at_ 0
  have f1 := hb.out.at_ 1
  have f2 := hb.out.at_ 2
  have g0 := hb.out.free 0
  have g1 := hb.out.free 1
  have g2 := hb.out.free 2
  simp at f0 f1 f2
  have hb0 := hb.out.lt
  by_cases hlt : j < 6
  ·have hidx := HX.out j hlt
   have h01 : (j : Int) < 6 := by omega
   have hwk : IntKind.i64.wrap ((j : Int) + 1) = (j : Int) + 1 := IntWalk.i64_in _ (by omega)
   by_cases hk : k = (j : Int) + 1
   ·subst hk
    have hbt : ((j : Int) + 1 == (j : Int) + 1) = true := by simp
    have HE : Hid (kN ((j : Int) + 1) = (j : Int) + 1 ∧ kOk ((j : Int) + 1) = true) := Lib.hid ⟨if_pos (by omega), decide_eq_true (by omega)⟩
    obtain ⟨ww, hw⟩ : ∃ ww, ww = kW ((j : Int) + 1) := ⟨_, rfl⟩
    obtain ⟨oo, hoo⟩ : ∃ oo, oo = kO ((j : Int) + 1) := ⟨_, rfl⟩
    rw [← hw, ← hoo] at hidx
    have HWW := Lib.hid hw
    have HOO := Lib.hid hoo
    clear hw hoo
    go_wp2
    have bF : Blk _ w.heap.size 151 #[.int .i64 ((j : Int) + 1), .string ww, .bool oo] := ((hb.out.put 0 (.int .i64 ((j : Int) + 1))).put 1 (.string ww)).put 2 (.bool oo)
    refine bodyPost_ret (results_row2 Tryz.results164 _ _ w.heap.size 151 #[.int .i64 ((j : Int) + 1), .string ww, .bool oo] _ rfl (bF.alloc _) Tryz.underlying151 rfl (by kernel_rfl)) rfl ⟨by rw [HE.out.1, HE.out.2, HWW.out, HOO.out]; rfl, ?_⟩
    repeat (first | exact ho.out | refine Only.put ?_ (fun h => by simp only at h; omega) _ | refine Only.alloc ?_ _)
   ·have hbt : ((j : Int) + 1 == k) = false := by simp; omega
    have HK := Lib.hid hk
    clear hk
    go_wp2
    go_roundw
    case rel =>
     refine ⟨j + 1, by go_num, by omega, Lib.hid (fun m h1 h2 e => ?_), Lib.hid ?_, Lib.hid ?_⟩
     ·rcases Nat.lt_or_ge j m with h3 | h3
      ·have : m = j + 1 := by omega
       subst this
       exact HK.out (by rw [e]; omega)
      ·exact hno.out m h1 h3 e
     ·repeat (first | exact hb.out | refine Blk.far ?_ (by simp; omega) _ | refine Blk.alloc ?_ _)
     ·repeat (first | exact ho.out | refine Only.put ?_ (fun h => by simp only at h; omega) _ | refine Only.alloc ?_ _)
    case measure => simp [intOf]; omega
  ·obtain rfl : j = 6 := by omega
   have HZ : Hid (kN k = 0 ∧ kOk k = false ∧ kO k = false ∧ kW k = ⟨#[]⟩) := Lib.hid (by
    have q := hno.out
    have q1 := q 1 (by omega) (by omega)
    have q2 := q 2 (by omega) (by omega)
    have q3 := q 3 (by omega) (by omega)
    have q4 := q 4 (by omega) (by omega)
    have q5 := q 5 (by omega) (by omega)
    have q6 := q 6 (by omega) (by omega)
    rcases kN_cases k with e | e | e | e | e | e | ⟨e1, e2, e3, e4, -⟩
    ·exact absurd e q1
    ·exact absurd e q2
    ·exact absurd e q3
    ·exact absurd e q4
    ·exact absurd e q5
    ·exact absurd e q6
    ·exact ⟨e1, e2, e3, e4⟩)
   go_wp2
   have bF : Blk _ w.heap.size 151 #[.int .i64 0, .string ⟨#[]⟩, .bool false] := ((hb.out.put 0 (.int .i64 0)).put 1 (.string ⟨#[]⟩)).put 2 (.bool false)
   refine bodyPost_ret (results_row2 Tryz.results164 _ _ w.heap.size 151 #[.int .i64 0, .string ⟨#[]⟩, .bool false] _ rfl bF Tryz.underlying151 rfl (by kernel_rfl)) rfl ⟨by rw [HZ.out.1, HZ.out.2.1, HZ.out.2.2.1, HZ.out.2.2.2]; rfl, ?_⟩
   repeat (first | exact ho.out | refine Only.put ?_ (fun h => by simp only at h; omega) _ | refine Only.alloc ?_ _)
end Go.Proofs.YtjfbeeogiejopaaGreatDoor

set_option linter.unusedVariables false
set_option linter.unusedSimpArgs false
namespace Go.Proofs.YtjfbeeogiejopaaGreatDoor
open Go.RowKit Go.ChangeShapes Go.WideShapes
/-- From A on lie the cells xs (if there are any), below block B. -/
def Row (w : World) (B : Nat) (A : Option Addr) (xs : List Value) : Prop :=
 xs = [] ∨ ∃ b off, A = some ⟨b, off, none⟩ ∧ b < B ∧ B ≤ w.heap.size ∧ ∀ (j : Nat) (u : Value), xs[j]? = some u → w.cell? ⟨b, off + j, none⟩ = some u
section
variable {w w' : World} {B : Nat} {A : Option Addr} {xs : List Value}
theorem Row.nil : Row w B A [] := .inl rfl
theorem Row.open_ (h : Row w B A xs) {k : Nat} (hk : k < xs.length) :
  ∃ b off, A = some ⟨b, off, none⟩ ∧ b < B ∧ b < w.heap.size ∧ ∀ (j : Nat) (u : Value), xs[j]? = some u → w.cell? ⟨b, off + j, none⟩ = some u := by
 rcases h with rfl | ⟨b, off, hA, hb, hs, hc⟩
 ·simp at hk
 ·exact ⟨b, off, hA, hb, by omega, hc⟩
theorem Row.only {S : List Nat} (h : Row w B A xs) (ho : Only S w w') (hS : ∀ i ∈ S, B ≤ i) : Row w' B A xs := by
 rcases h with rfl | ⟨b, off, hA, hb, hs, hc⟩
 ·exact .inl rfl
 ·refine .inr ⟨b, off, hA, hb, Nat.le_trans hs ho.size, fun j u hu => ?_⟩
  rw [ho.cell (p := ⟨b, off + j, none⟩) (Nat.lt_of_lt_of_le hb hs) (fun hm => by have := hS _ hm; simp only at this; omega)]
  exact hc j u hu
theorem Row.take (h : Row w B A xs) (n : Nat) : Row w B A (xs.take n) := by
 rcases h with rfl | ⟨b, off, hA, hb, hs, hc⟩
 ·exact .inl (by simp)
 ·refine .inr ⟨b, off, hA, hb, hs, fun j u hu => hc j u ?_⟩
  rw [List.getElem?_take] at hu
  split at hu
  ·exact hu
  ·cases hu
end
theorem row_up {w : World} {B : Nat} {A : Option Addr} {xs : List Value} (h : Row w B A xs) : Row w w.heap.size A xs := by
 rcases h with h | ⟨b, off, hA, hb, hs, hc⟩
 ·exact .inl h
 ·exact .inr ⟨b, off, hA, Nat.lt_of_lt_of_le hb hs, Nat.le_refl _, hc⟩
section
variable {H : Type} {enc : TypeId × Value → H} {P : Program} {w : World}
end
theorem bd_i64 {n : Int} (h : (Lit.int .i64 n).wf = true) : -9223372036854775808 ≤ n ∧ n ≤ 9223372036854775807 := by
 simpa [Lit.wf, IntKind.min, IntKind.max, IntKind.signed, IntKind.bits] using h
section
variable {H : Type} {enc : TypeId × Value → H} {P : Program} {w : World}
open Go.Deep
end
end Go.Proofs.YtjfbeeogiejopaaGreatDoor

set_option linter.unusedVariables false
set_option linter.unusedSimpArgs false
namespace Go.Proofs.YtjfbeeogiejopaaGreatDoor
open Go.RowKit
section
variable {P : Program} (w : World)
/-- append(v, x...) where v is a row of the call's own and x whatever slice that reads as a list. -/
theorem run_append_row (base : Nat) (t ty e : TypeId) (i : TypeInfo) (z : Value) (size bytes : Nat) (ht : P.underlying t = some (.slice e)) (hi : P.info? e = some i) (hz : i.zero = some z)
  (hsize : i.size = size) (hby : i.bytes = bytes) (hzs : z.cells.size = size) (hsz : 0 < size)
  (v : Value) (n : Nat) (xs : List Value) (hown : w.ownsRow base e size v n xs) (B : Nat) (A : Option Addr) (m c : Nat) (news : List Value) (hl : news.length = m * size)
  (hr : Row w B A news) (h1 : ∀ u ∈ news, u.oneCell' = true) (h63 : n + m ≤ maxLen) (hbytes : (n + m) * bytes ≤ 140737488355328) (hbase : base ≤ w.heap.size) :
  ∃ v' w', (Builtin.append_ #[t, t] ty #[v, .slice A m c]).run P w = .ok v' w' ∧ w'.ownsRow base e size v' (n + m) (xs ++ news) ∧ w.grownBy w' v.ownBlock ∧
   (v'.ownBlock = v.ownBlock ∨ v'.ownBlock = some w.heap.size) := by
 cases A with
 | none =>
  have hn : news = [] := by
   rcases hr with h | ⟨b, off, h, _⟩
   ·exact h
   ·cases h
  subst hn
  have hm : m = 0 := by
   have h2 : m * size = 0 := by simpa using hl.symm
   rcases Nat.mul_eq_zero.1 h2 with h | h
   ·exact h
   ·omega
  subst hm
  refine ⟨v, w, ?_, by simpa using hown, ⟨rfl, rfl, rfl, Nat.le_refl _, fun _ _ _ => rfl⟩, .inl rfl⟩
  rcases hown.2 with ⟨rfl, rfl⟩ | ⟨g, cap, cur, rfl, _, _, hnc, _⟩
  ·simp [Builtin.append_, run_underlying ht, sizeOf, typeInfo, hi, Builtin.lenOf, Builtin.firstCells]
  ·simp [Builtin.append_, run_underlying ht, sizeOf, typeInfo, hi, Builtin.lenOf, Builtin.firstCells, hnc, storeCells]
 | some ad =>
  have hcells : ∀ j u, news[j]? = some u → w.cell? (ad.add j) = some u := by
   intro j u hu
   rcases hr with h | ⟨b, off, h, _, _, hc⟩
   ·subst h; cases hu
   ·injection h with h
    subst h
    have := hc j u hu
    unfold Addr.add
    split
    ·rename_i h0; subst h0; exact this
    ·exact this
  obtain ⟨v', w', h2, h3, h4, _, h5⟩ := run_append_own_at (P := P) w base t ty e i z size bytes ht hi hz hsize hby hzs hsz v n xs hown ad m c news hl hcells h1 h63 hbytes hbase
  exact ⟨v', w', h2, h3, h4, h5⟩
theorem wp_append_row {o : Oper} {a : Act} {K : Act → World → Prop} {Q : Exit → Act → World → Prop} (s x : Operand) (t : TypeId)
  (ho : o.op = .call { callee := .builtin .append, args := #[s, x], argTypes := #[t, t] })
  (base : Nat) (e : TypeId) (i : TypeInfo) (z : Value) (size bytes : Nat) (ht : P.underlying t = some (.slice e)) (hi : P.info? e = some i) (hz : i.zero = some z)
  (hsize : i.size = size) (hby : i.bytes = bytes) (hzs : z.cells.size = size) (hsz : 0 < size)
  (v : Value) (n : Nat) (xs : List Value) (hs : a.eval s = v) (hown : w.ownsRow base e size v n xs) (B : Nat) (A : Option Addr) (m c : Nat) (news : List Value) (hx : a.eval x = .slice A m c) (hl : news.length = m * size)
  (hr : Row w B A news) (h1 : ∀ u ∈ news, u.oneCell' = true) (h63 : n + m ≤ maxLen) (hbytes : (n + m) * bytes ≤ 140737488355328) (hbase : base ≤ w.heap.size)
  (h : ∀ v' w', w'.ownsRow base e size v' (n + m) (xs ++ news) → w.grownBy w' v.ownBlock → (v'.ownBlock = v.ownBlock ∨ v'.ownBlock = some w.heap.size) → K (a.put o.dst v') w') :
  o.wp P a w K Q := by
 obtain ⟨v', w', hr', h2, h3, h4⟩ := run_append_row (P := P) w base t o.type e i z size bytes ht hi hz hsize hby hzs hsz v n xs hown B A m c news hl hr h1 h63 hbytes hbase
 unfold Oper.wp execOp
 simp only [ho, resolve, invoke, builtin, Sem.run_bind, Sem.run_pure, Result.andThen_ok, List.map_toArray, List.map_cons, List.map_nil, hs, hx, hr']
 exact h v' w' h2 h3 h4
theorem wpList_append_row {ops : Array Oper} {rest : List Oper} {o : Oper} {a : Act} {Q : Exit → Act → World → Prop} (hgd : o.guard = none) (s x : Operand) (t : TypeId)
  (ho : o.op = .call { callee := .builtin .append, args := #[s, x], argTypes := #[t, t] })
  (base : Nat) (e : TypeId) (i : TypeInfo) (z : Value) (size bytes : Nat) (ht : P.underlying t = some (.slice e)) (hi : P.info? e = some i) (hz : i.zero = some z)
  (hsize : i.size = size) (hby : i.bytes = bytes) (hzs : z.cells.size = size) (hsz : 0 < size)
  (v : Value) (n : Nat) (xs : List Value) (hs : a.eval s = v) (hown : w.ownsRow base e size v n xs) (B : Nat) (A : Option Addr) (m c : Nat) (news : List Value) (hx : a.eval x = .slice A m c) (hl : news.length = m * size)
  (hr : Row w B A news) (h1 : ∀ u ∈ news, u.oneCell' = true) (h63 : n + m ≤ maxLen) (hbytes : (n + m) * bytes ≤ 140737488355328) (hbase : base ≤ w.heap.size)
  (h : ∀ v' w', w'.ownsRow base e size v' (n + m) (xs ++ news) → w.grownBy w' v.ownBlock → (v'.ownBlock = v.ownBlock ∨ v'.ownBlock = some w.heap.size) → wpList P ops Q rest (a.put o.dst v') w') :
  wpList P ops Q (o :: rest) a w :=
 wpList_plain hgd fun _ hK => wp_append_row w s x t ho base e i z size bytes ht hi hz hsize hby hzs hsz v n xs hs hown B A m c news hx hl hr h1 h63 hbytes hbase fun v' w' h2 h3 h4 => hK _ _ (h v' w' h2 h3 h4)
theorem step_append_row {ops : Array Oper} {o : Oper} {a : Act} {K : Act → World → Prop} {Q : Exit → Act → World → Prop} {E : Prop} (hgd : o.guard = none) (s x : Operand) (t : TypeId)
  (ho : o.op = .call { callee := .builtin .append, args := #[s, x], argTypes := #[t, t] })
  (base : Nat) (e : TypeId) (i : TypeInfo) (z : Value) (size bytes : Nat) (ht : P.underlying t = some (.slice e)) (hi : P.info? e = some i) (hz : i.zero = some z)
  (hsize : i.size = size) (hby : i.bytes = bytes) (hzs : z.cells.size = size) (hsz : 0 < size)
  (v : Value) (n : Nat) (xs : List Value) (hs : a.eval s = v) (hown : w.ownsRow base e size v n xs) (B : Nat) (A : Option Addr) (m c : Nat) (news : List Value) (hx : a.eval x = .slice A m c) (hl : news.length = m * size)
  (hr : Row w B A news) (h1 : ∀ u ∈ news, u.oneCell' = true) (h63 : n + m ≤ maxLen) (hbytes : (n + m) * bytes ≤ 140737488355328) (hbase : base ≤ w.heap.size)
  (h : ∀ v' w', w'.ownsRow base e size v' (n + m) (xs ++ news) → w.grownBy w' v.ownBlock → (v'.ownBlock = v.ownBlock ∨ v'.ownBlock = some w.heap.size) → K (a.put o.dst v') w') :
  if Region.wanted o (yielded ops a.tmps) = true then Oper.wp P o a w K Q else E := by
 rw [if_pos (by unfold Region.wanted; rw [hgd])]
 exact wp_append_row w s x t ho base e i z size bytes ht hi hz hsize hby hzs hsz v n xs hs hown B A m c news hx hl hr h1 h63 hbytes hbase h
end
/-- What does not touch its block leaves a row. -/
theorem own_only {w w' : World} {base : Nat} {e : TypeId} {size : Nat} {v : Value} {n : Nat} {xs : List Value} (h : w.ownsRow base e size v n xs) {S : List Nat} (ho : Only S w w') (hS : ∀ g, v.ownBlock = some g → g ∉ S) :
  w'.ownsRow base e size v n xs := by
 obtain ⟨hl, hv⟩ := h
 refine ⟨hl, ?_⟩
 rcases hv with hv | ⟨g, cap, cur, rfl, hb, hg, rest⟩
 ·exact .inl hv
 ·exact .inr ⟨g, cap, cur, rfl, hb, ho.blk hg (hS g rfl), rest⟩
theorem own_blk {w : World} {base : Nat} {e : TypeId} {size : Nat} {v : Value} {n : Nat} {xs : List Value} (h : w.ownsRow base e size v n xs) {g : Nat} (hg : v.ownBlock = some g) : ∃ cur, Blk w g e cur := by
 rcases h.2 with ⟨rfl, _⟩ | ⟨g', cap, cur, rfl, hb, hh, _⟩
 ·simp [Value.ownBlock] at hg
 ·simp [Value.ownBlock] at hg
  subst hg
  exact ⟨cur, hh⟩
/-- A row's block is none of another type. -/
theorem own_apart {w : World} {base : Nat} {e : TypeId} {size : Nat} {v : Value} {n : Nat} {xs : List Value} (h : w.ownsRow base e size v n xs) {g : Nat} {t : TypeId} {cs : Array Value} (hb : Blk w g t cs) (hne : e ≠ t) :
  g ∉ v.ownBlock.toList := by
 intro hm
 cases hv : v.ownBlock with
 | none => rw [hv] at hm; cases hm
 | some g' =>
  rw [hv] at hm
  simp at hm
  subst hm
  obtain ⟨cur, hc⟩ := own_blk h hv
  exact hc.apart hb hne rfl
theorem own_lt {w : World} {base : Nat} {e : TypeId} {size : Nat} {v : Value} {n : Nat} {xs : List Value} (h : w.ownsRow base e size v n xs) {g : Nat} (hg : g ∈ v.ownBlock.toList) : g < w.heap.size := by
 cases hv : v.ownBlock with
 | none => rw [hv] at hg; cases hg
 | some g' =>
  rw [hv] at hg
  simp at hg
  subst hg
  obtain ⟨cur, hc⟩ := own_blk h hv
  exact hc.lt
theorem only_grown {w w' : World} {v : Value} (h : w.grownBy w' v.ownBlock) : Only v.ownBlock.toList w w' := Only.of_grown h (fun g hg _ => by simp [hg])
/-- A literal of the call's own, as a slice that is read. -/
theorem row_lit (w : World) (t : TypeId) (cs : Array Value) : Row (w.alloc (.cells cs t)) (w.heap.size + 1) (some ⟨w.heap.size, 0, none⟩) cs.toList :=
 .inr ⟨w.heap.size, 0, rfl, by omega, by simp, fun j u hu => by rw [Nat.zero_add, (Blk.made w t cs).at_ j]; simpa using hu⟩
/-- A row of the call's own as a slice that is read. -/
theorem own_row {w : World} {base : Nat} {e : TypeId} {size : Nat} {v : Value} {n : Nat} {xs : List Value} (h : w.ownsRow base e size v n xs) :
  ∃ A c, v = .slice A n c ∧ n ≤ c ∧ c ≤ maxLen ∧ xs.length = n * size ∧ Row w w.heap.size A xs := by
 obtain ⟨hl, hv⟩ := h
 rcases hv with ⟨rfl, rfl⟩ | ⟨g, cap, cur, rfl, hb, hg, hn, hm, hs, ht⟩
 ·have : xs = [] := List.eq_nil_of_length_eq_zero (by simpa using hl)
  subst this
  exact ⟨none, 0, rfl, Nat.le_refl _, by unfold maxLen; omega, hl, .inl rfl⟩
 ·refine ⟨_, cap, rfl, hn, hm, hl, .inr ⟨g, 0, rfl, (Array.getElem?_eq_some_iff.1 hg).1, Nat.le_refl _, fun j u hu => ?_⟩⟩
  rw [← ht, List.getElem?_take] at hu
  split at hu
  ·rw [cell_of_row w g (0 + j) cur e (0, 0) hg, Nat.zero_add]
   simpa using hu
  ·cases hu
theorem own_new {w : World} {base : Nat} {e : TypeId} {size : Nat} {v : Value} {n : Nat} {xs : List Value} (h : w.ownsRow base e size v n xs) {S : List Nat} : ∀ i ∈ v.ownBlock.toList, i < base → i ∈ S := fun i hi hl => by
 cases hv : v.ownBlock with
 | none => rw [hv] at hi; cases hi
 | some g =>
  rw [hv] at hi
  simp at hi
  subst hi
  have := (h.lt _ hv).1
  omega
end Go.Proofs.YtjfbeeogiejopaaGreatDoor
