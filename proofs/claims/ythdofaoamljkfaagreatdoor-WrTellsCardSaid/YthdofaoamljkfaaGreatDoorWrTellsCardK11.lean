/- Parts. -/
import Derived.Test.YthdofaoamljkfaaGreatDoorWrTellsCardK10
import Derived.Lib.SmallJoins
import Derived.ChangeSame
set_option maxRecDepth 10000
set_option maxHeartbeats 16000000
set_option linter.unusedVariables false
set_option linter.unusedSimpArgs false
namespace Go.Proofs.YthdofaoamljkfaaGreatDoor
open Go.RowKit Go.Shelf
open Go.Lib hiding intOf
attribute [local go_sem] Oper.semAt_some
abbrev Bo := Nat × Op4
def bkC (x : Bo) : Array Value := #[.int .i64 (x.1 : Int), .agg #[.bool x.2.wr, .int .i64 x.2.key, .int .i64 x.2.vk, .int .i64 x.2.vn]]
def zl (l : List Op4) : List Bo := l.zipIdx.map fun x => (x.2, x.1)
theorem zl_len (l : List Op4) : (zl l).length = l.length := by simp [zl]
theorem zl_snd (l : List Op4) : (zl l).map Prod.snd = l := by
 unfold zl;rw [List.map_map];refine List.ext_getElem? fun i => ?_;simp only [List.getElem?_map, List.getElem?_zipIdx]
 cases l[i]? <;> rfl
theorem zl_drop {l : List Op4} {k : Nat} {o : Op4} (h : l[k]? = some o) : ((zl l).drop k).reverse = ((zl l).drop (k + 1)).reverse ++ [(k, o)] := by
 have hk := (List.getElem?_eq_some_iff.1 h).1;have hz : (zl l)[k]? = some (k, o) := by
  unfold zl;rw [List.getElem?_map, List.getElem?_zipIdx, h];simp
 obtain ⟨h1, h2⟩ := List.getElem?_eq_some_iff.1 hz;rw [List.drop_eq_getElem_cons h1, List.reverse_cons, h2]
theorem zl_prefix (l : List Op4) (k : Nat) : ((zl l).drop k).reverse <+: (zl l).reverse := by
 conv => rhs; rw [← List.take_append_drop k (zl l), List.reverse_append]
 exact List.prefix_append _ _
set_option maxRecDepth 100000 in
theorem back1_inK (PX : Bo → Prop) (Kp : World → World → Prop) (F : Fence) (n : Nat) (hf : F.fn 82) (hro : F.round = none) (hn : 1 ≤ n) (l Bn n₁ : Nat) (A : Option Addr) (m c : Nat) (ops : List Op4) (J Jx : List Bo → World → Prop) (W : World) (hK0 : ∀ W, Kp W W) (hKt : ∀ {A B C : World}, Kp A B → Kp B C → Kp A C) (hK1 : ∀ {A B : World}, Kp A B → Below n₁ A B) (hK2 : ∀ {A B : World}, Kp A B → B.cell? ⟨Bn, 0, none⟩ = A.cell? ⟨Bn, 0, none⟩)
  (hm : ops.length = m) (hM : m ≤ 1000) (hJ : AbidesFrom W.heap.size J)
  (hPP : ∀ k o, ops[k]? = some o → PX (k, o)) (hY : ∀ pre x W1, PX x → J pre W1 → pre.length < 1000001 → YieldAt F (n - 1) Tryz.prog l (bkC x) W1 fun e W' =>
   (e = .returned (.bool true) ∧ J (pre ++ [x]) W' ∧ Kp W1 W') ∨ (e = .returned (.bool false) ∧ Jx (pre ++ [x]) W'))
  (hBn : W.cell? ⟨Bn, 0, none⟩ = some (.slice A m c)) (hg : Row W n₁ A (opC ops)) (h0 : J [] W) :
  CallsIn F n Tryz.prog 82 #[.func (.yield l) #[] #[], .pointer (some ⟨Bn, 0, none⟩)] W fun e W' => (∃ v, e = .returned v) ∧
   ((∃ ys, ys = (zl ops).reverse ∧ J ys W') ∨ (∃ pre, pre <+: (zl ops).reverse ∧ Jx pre W')) := by
 have hzm : (zl ops).length = m := by rw [zl_len, hm]
 have HZ := Hd hzm;have HM := Hd hm;have hw1 : IntKind.i64.wrap ((m : Int) - 1) = (m : Int) - 1 := IntWalk.i64_in _ (by omega);clear hzm hm;refine callsIn_of_wp Tryz.func82 rfl hf ?_ hro;simp only [Tryz.ntmps82, List.size_toArray, List.length_cons, List.length_nil, Nat.reduceAdd, Nat.reduceSub, Array.replicate_succ, Array.replicate_zero, List.push_toArray, List.append_toArray, List.nil_append, List.cons_append]
 gi_wp2
 gi_loopw [3] (fun iv wr => ∃ k : Nat, iv = .int .i64 ((k : Int) - 1) ∧ k ≤ m ∧ J ((zl ops).drop k).reverse wr ∧ Kp W wr) (fun iv _ => (intOf iv + 1).toNat)
 case atStart => exact ⟨m, rfl, Nat.le_refl _, by rw [List.drop_of_length_le (by rw [HZ.out]; exact Nat.le_refl _)]; exact h0, hK0 _⟩
 case round =>
  obtain ⟨k, rfl, hk, hJs, hnx⟩ := hrel
  cases k with
  | zero =>
   have hd2 : decide ((0 : Int) ≤ ((0 : Nat) : Int) - 1) = false := by decide
   gi_wp2
   go_end0
   exact ⟨⟨_, rfl⟩, .inl ⟨_, rfl, hJs⟩⟩
  | succ k =>
   obtain ⟨y, hy⟩ : ∃ y, ops[k]? = some y := ⟨_, List.getElem?_eq_getElem (by rw [HM.out]; omega)⟩;obtain ⟨b, off, rfl, hb, -, hP⟩ := row_op hg hy;obtain ⟨p0, p1, p2, p3⟩ := hP.belowB (hK1 hnx) hb;have HTT := Hd (zl_drop hy);have HPX := Hd (zl_prefix ops k);have hPY := hPP k y hy;obtain ⟨yw, yk, yv, yn⟩ := y;dsimp only at p0 p1 p2 p3;have e1 : ((k + 1 : Nat) : Int) - 1 = (k : Int) := by omega
   rw [e1];have hk0 : (0 : Int) ≤ (k : Int) := Int.natCast_nonneg _;have hkm : (k : Int) < (m : Int) := by omega
   have hwk : IntKind.i64.wrap ((k : Int) - 1) = (k : Int) - 1 := IntWalk.i64_in _ (by omega);have hBr := (hK2 hnx).trans hBn;have hlen : ((zl ops).drop (k + 1)).reverse.length < 1000001 := by
    rw [List.length_reverse, List.length_drop, HZ.out];omega
   obtain ⟨fn, tmps, assign, body, hyy, hR⟩ := hY _ (k, ⟨yw, yk, yv, yn⟩) _ hPY hJs hlen;dsimp only [bkC] at hyy hR;clear hP hy e1 hPY
   gi_wp2
   refine hR.mono ?_;rintro e W3 (⟨rfl, hJ4, hk4⟩ | ⟨rfl, hJx4⟩)
   ·gi_wp2
    go_roundw
    case rel => exact ⟨k, rfl, by omega, by rw [HTT.out]; exact hJ4, hKt hnx hk4⟩
    case measure => simp [intOf]
   ·gi_wp2
    refine bodyPost_ret (results_none rfl _ _ _) rfl ?_;exact ⟨⟨_, rfl⟩, .inr ⟨_, by rw [← HTT.out]; exact HPX.out, hJx4⟩⟩
theorem back_in (F : Fence) (n : Nat) (hf : F.fn 68) (hro : F.round = none) (A : Option Addr) (m c : Nat) (w : World) :
  CallsIn F n Tryz.prog 68 #[.slice A m c] w fun e w' => e = .returned (.func (.func 82) #[] #[.pointer (some ⟨w.heap.size, 0, none⟩)]) ∧ w' = w.alloc (.cells #[.slice A m c] 45) := by
 refine callsIn_of_wp Tryz.func68 rfl hf ?_ hro;simp only [Tryz.ntmps68, List.size_toArray, List.length_cons, List.length_nil, Nat.reduceAdd, Nat.reduceSub, Array.replicate_succ, Array.replicate_zero, List.push_toArray, List.append_toArray, List.nil_append, List.cons_append]
 gi_wp2
 go_ret
 exact ⟨rfl, rfl⟩
theorem back_stopsP (PX : Bo → Prop) (Kp : World → World → Prop) (F : Fence) (n : Nat) (hf : F.fn 82) (hro : F.round = none) (hn : 1 ≤ n) (Bn n₁ : Nat) (A : Option Addr) (m c : Nat) (ops : List Op4) (w : World) (hBn : Bn < w.heap.size)
  (hK0 : ∀ W, Kp W W) (hKt : ∀ {A B C : World}, Kp A B → Kp B C → Kp A C) (hK1 : ∀ {A B : World}, Kp A B → Below n₁ A B) (hK2 : ∀ {A B : World}, Kp A B → B.cell? ⟨Bn, 0, none⟩ = A.cell? ⟨Bn, 0, none⟩)
  (hc : w.cell? ⟨Bn, 0, none⟩ = some (.slice A m c)) (hg : Row w n₁ A (opC ops)) (hm : ops.length = m) (hM : m ≤ 1000) (hPP : ∀ k o, ops[k]? = some o → PX (k, o)) :
  SeqStopsK F n Tryz.prog 82 #[.pointer (some ⟨Bn, 0, none⟩)] (fun x : {x : Bo // PX x} => bkC x.1) Kp (fun ys => ys.map Subtype.val = (zl ops).reverse) (fun _ => True) 1000001 w := fun l J Jx W hW hJ _ hY h0 => by
 refine (back1_inK PX Kp F n hf hro hn l Bn n₁ A m c ops (fun pre W => ∃ pre' : List {x : Bo // PX x}, pre'.map Subtype.val = pre ∧ J pre' W) (fun pre W => ∃ pre' : List {x : Bo // PX x}, pre'.map Subtype.val = pre ∧ Jx pre' W) W hK0 hKt hK1 hK2 hm hM
  (fun pre X Y row ⟨pre', e, hs⟩ hg hr => ⟨pre', e, hJ pre' X Y row hs hg hr⟩) hPP ?_ ((hW.cell (p := ⟨Bn, 0, none⟩) hBn).trans hc) (hg.only (Only.of_below hW []) (fun _ h => by cases h)) ⟨[], rfl, h0⟩).mono ?_
 ·rintro pre x W1 hx ⟨pre', rfl, hs⟩ hl;obtain ⟨fn, tmps, assign, body, hyy, hR⟩ := hY pre' ⟨x, hx⟩ W1 hs (by simpa using hl);refine ⟨fn, tmps, assign, body, hyy, hR.mono ?_⟩;rintro e W' (⟨rfl, h1, h2⟩ | ⟨rfl, h1⟩)
  ·exact .inl ⟨rfl, ⟨_, by simp, h1⟩, h2⟩
  ·exact .inr ⟨rfl, _, by simp, h1⟩
 ·rintro e W' ⟨hv, ⟨ys, rfl, pre', e1, hs⟩ | ⟨pre, -, pre', e1, hs⟩⟩
  ·exact ⟨hv, .inl ⟨pre', e1, hs⟩⟩
  ·exact ⟨hv, .inr ⟨pre', trivial, hs⟩⟩
end Go.Proofs.YthdofaoamljkfaaGreatDoor
namespace Go.Proofs.YthdofaoamljkfaaGreatDoor
open Go.RowKit
theorem wpList_store_blk {P : Program} {ops : Array Oper} {rest : List Oper} {op : Oper} {a : Act} {w : World} {Q : Exit → Act → World → Prop} (hgd : op.guard = none) (ty : TypeId) (x y : Operand) (ho : op.op = .store ty x y)
  (g : Nat) (t : TypeId) (cs cells : Array Value) (hx : a.eval x = .pointer (some ⟨g, 0, none⟩)) (hy : a.eval y = .agg cells)
  (hb : Blk w g t cs) (hl : cells.size = cs.size) (hi : (P.info? ty).map (·.size) = some cells.size) (h1 : cells.all (·.oneCell') = true)
  (h : ∀ w', Blk w' g t cells → Only [g] w w' → wpList P ops Q rest (a.put op.dst undef) w') : wpList P ops Q (op :: rest) a w :=
 wpList_store_mid hgd ty x y ho g 0 cells hx hy (by rw [hl]; exact hb.there) hi h1 (h _ (by have := hb.putAll cells.toList (by simpa using hl); simpa using this) ((Only.refl [g] w).putAll (fun _ => by simp) _))
open Go.Lib hiding intOf
attribute [local go_sem ↓] Go.wp_at_zero Go.wp_at_succ
theorem errH_yes {h : Hst} (hm : mayH h = true) : errH h = 0 := by unfold errH; rw [hm]; rfl
theorem errH_not {h : Hst} (hm : mayH h = false) : errH h = 4 := by unfold errH; rw [hm]; rfl


end Go.Proofs.YthdofaoamljkfaaGreatDoor
namespace Go.Proofs.YthdofaoamljkfaaGreatDoor
open Go.RowKit Go.ChangeShapes Go.WideShapes Go.ChangeAt Go.Joins Go.Deep
theorem list_ofG {α : Type} {Q : Nat → α → Prop} : ∀ {N : Nat}, (∀ k, k < N → ∃ z, Q k z) → ∃ zs : List α, zs.length = N ∧ ∀ k z, zs[k]? = some z → Q k z
 | 0, _ => ⟨[], rfl, fun k z h => by simp at h⟩
 | N + 1, h => by
  obtain ⟨zs, hl, hz⟩ := list_ofG (N := N) (fun k hk => h k (by omega));obtain ⟨z, hq⟩ := h N (by omega);refine ⟨zs ++ [z], by simp [hl], fun k y hy => ?_⟩;rcases Nat.lt_or_ge k zs.length with hk | hk
  ·rw [List.getElem?_append_left hk] at hy;exact hz k y hy
  ·rw [List.getElem?_append_right hk] at hy;have hk0 : k - zs.length = 0 := by
    cases hj : k - zs.length with
    | zero => rfl
    | succ j => rw [hj] at hy; simp at hy
   rw [hk0] at hy;simp at hy;subst hy;have : k = N := by omega
   subst this;exact hq
section
variable {H : Type} {enc : TypeId × Value → H} {P : Program} {w : World}
theorem row_of {α : Type} (f : α → List Value) (sz : Nat) (hf : ∀ x, (f x).length = sz) (hsz : 0 < sz) (Q : α → Prop) {t e : TypeId} {fuel : Nat} {cs : List Value} {x : DataW H × List MemPlace} (ht : P.underlying t = some (.slice e)) (hC : P.cellsOf e = sz)
  (each : ∀ fuel' cs' x', DataW.trod enc P w 0 (fun _ => true) true fuel' e cs' = some x' → ∃ y : α, Q y ∧ cs' = f y) (h : DataW.trod enc P w 0 (fun _ => true) true fuel t cs = some x) :
  ∃ (A : Option Addr) (n c : Nat) (l : List α), cs = [.slice A n c] ∧ n ≤ c ∧ c ≤ maxLen ∧ l.length = n ∧ (∀ y ∈ l, Q y) ∧ Row w w.heap.size A (l.flatMap f) := by
 rcases open_slice ht h with ⟨hcs, _⟩ | ⟨a, len, cap, m, n, D, Pl, hcs, _, hl, hm, hmm, _, hcell⟩
 ·exact ⟨none, 0, 0, [], hcs, Nat.le_refl _, by unfold maxLen; omega, rfl, (fun z hz => by cases hz), .inl rfl⟩
 ·simp only [if_true] at hmm;subst hmm;have each' : ∀ k, k < len → ∃ y : α, Q y ∧ ∀ i, i < sz → w.cell? (a.add (k * sz + i)) = (f y)[i]? := by
   intro k hk;obtain ⟨cs', hc, htr⟩ := hcell k (by omega);rw [hC] at hc;obtain ⟨y, hq, hcs'⟩ := each _ _ _ htr;obtain ⟨_, hcl, hat⟩ := World.cells?_some hc;refine ⟨y, hq, fun i hi => ?_⟩;have hk' : a.add (k * sz + i) = (a.add (k * sz)).add i := by rw [Go.Deep.add_add]
   rw [hk', hat i hi, hcs']
  obtain ⟨l, hll, hz⟩ := list_ofG each';refine ⟨some a, len, _, l, hcs, hl, hm, hll, fun z hzm => ?_, ?_⟩
  ·obtain ⟨k, hk⟩ := List.mem_iff_getElem?.1 hzm;exact (hz k z hk).1
  ·by_cases h0 : len = 0
   ·subst h0;have : l = [] := List.eq_nil_of_length_eq_zero hll;subst this;exact .inl rfl
   ·obtain ⟨x0, -, hx0⟩ := each' 0 (by omega);obtain ⟨u0, hu0⟩ : ∃ u, (f x0)[0]? = some u := ⟨_, List.getElem?_eq_getElem (by rw [hf]; exact hsz)⟩;have hz0 : w.cell? (a.add 0) = some u0 := by
     have := hx0 0 hsz;rw [hu0] at this
     simpa using this
    have hA : a.spot = none := by
     unfold World.cell? Addr.add at hz0
     cases hsp : a.spot with
     | none => rfl
     | some s =>
      rw [if_pos rfl] at hz0
      split at hz0
      ·simp [hsp] at hz0
      ·cases hz0
    obtain ⟨b, off, sp⟩ := a;simp only at hA;subst hA;have hb : b < w.heap.size := World.block_lt_of_cell? w _ (by simpa [Addr.add] using hz0);refine .inr ⟨b, off, rfl, hb, Nat.le_refl _, fun t u hu => ?_⟩;have hlt : t < (l.flatMap f).length := (List.getElem?_eq_some_iff.1 hu).1;rw [flat_len f sz hf] at hlt;have hts : t / sz < l.length := (Nat.div_lt_iff_lt_mul hsz).2 hlt;obtain ⟨x, hx⟩ : ∃ x, l[t / sz]? = some x := ⟨_, List.getElem?_eq_getElem hts⟩;have g := flat_get f sz hf l (t / sz) x hx (t % sz) (Nat.mod_lt _ hsz);have e : t / sz * sz + t % sz = t := by rw [Nat.mul_comm]; exact Nat.div_add_mod t sz
    rw [e, hu] at g;have h1 := (hz (t / sz) x hx).2 (t % sz) (Nat.mod_lt _ hsz);rw [e] at h1;have e' : (⟨b, off, none⟩ : Addr).add t = ⟨b, off + t, none⟩ := by
     unfold Addr.add
     split
     ·rename_i h; subst h; rfl
     ·rfl
    rw [e'] at h1;rw [h1];exact g.symm
end
def OpI (y : Op4) : Prop := -9223372036854775808 ≤ y.vn ∧ y.vn ≤ 9223372036854775807
section
variable {H : Type} {enc : TypeId × Value → H} {P : Program} {w : World}
theorem op_cells2 {fuel : Nat} {t ti tb tv tj : TypeId} {f0 f1 f2 g0 g1 : Field} {cs : List Value} {x : DataW H × List MemPlace}
  (hs : P.underlying t = some (.struct #[f0, f1, f2])) (hvs : P.underlying tv = some (.struct #[g0, g1])) (hC : P.cellsOf t = 4)
  (hb : P.underlying tb = some .bool) (hi : P.underlying ti = some (.int .i64)) (hj : P.underlying tj = some (.int .i64)) (cb : P.cellsOf tb = 1) (ci : P.cellsOf ti = 1) (cj : P.cellsOf tj = 1) (cv : P.cellsOf tv = 2)
  (e0 : f0.type = tb ∧ f0.offset = 0) (e1 : f1.type = ti ∧ f1.offset = 1) (e2 : f2.type = tv ∧ f2.offset = 2) (q0 : g0.type = ti ∧ g0.offset = 0) (q1 : g1.type = tj ∧ g1.offset = 1)
  (h : DataW.trod enc P w 0 (fun _ => true) true fuel t cs = some x) : ∃ y : Op4, OpI y ∧ cs = y.c := by
 obtain ⟨xs, n, _, rfl, hl, hlen, hf⟩ := DataW.trod_struct hs h;rw [hC] at hl
 match cs, hl with
 | [c0, c1, c2, c3], _ =>
  have h0 := hf 0 f0 rfl;have h1 := hf 1 f1 rfl;have h2 := hf 2 f2 rfl;rw [e0.1, e0.2, cb] at h0;rw [e1.1, e1.2, ci] at h1;rw [e2.1, e2.2, cv] at h2
  match xs, hlen with
  | [y0, y1, y2], _ =>
   obtain ⟨b, a0, -⟩ := DataW.trod_bool hb (by simpa using h0);obtain ⟨k, a1, -, wk⟩ := DataW.trod_int hi (by simpa using h1);obtain ⟨z0, z1, m, -, -, g3, g4⟩ := trod_struct2 hvs (by simpa using h2);rw [q0.1, q0.2, ci] at g3;rw [q1.1, q1.2, cj] at g4;obtain ⟨vk, a3, -, wvk⟩ := DataW.trod_int hi (by simpa using g3);obtain ⟨vn, a4, -, wvn⟩ := DataW.trod_int hj (by simpa using g4);simp at a0 a1 a3 a4;subst a0 a1 a3 a4;exact ⟨⟨b, k, vk, vn⟩, bd_i64 wvn, rfl⟩
theorem txn_cells2 {fuel : Nat} {t ti tl : TypeId} {f0 f1 f2 : Field} {cs : List Value} {x : DataW H × List MemPlace}
  (hs : P.underlying t = some (.struct #[f0, f1, f2])) (hC : P.cellsOf t = 3) (hi : P.underlying ti = some (.int .i64)) (ci : P.cellsOf ti = 1) (cl : P.cellsOf tl = 1)
  (e0 : f0.type = ti ∧ f0.offset = 0) (e1 : f1.type = ti ∧ f1.offset = 1) (e2 : f2.type = tl ∧ f2.offset = 2)
  (ops : ∀ fuel' cs' x', DataW.trod enc P w 0 (fun _ => true) true fuel' tl cs' = some x' → ∃ (A : Option Addr) (n c : Nat) (l : List Op4), cs' = [.slice A n c] ∧ n ≤ c ∧ c ≤ maxLen ∧ l.length = n ∧ (∀ y ∈ l, OpI y) ∧ Row w w.heap.size A (l.flatMap Op4.c))
  (h : DataW.trod enc P w 0 (fun _ => true) true fuel t cs = some x) : ∃ y : TxA, (TxOk w w.heap.size y ∧ ∀ x ∈ y.t.ops, OpI x) ∧ cs = y.c := by
 obtain ⟨xs, n, _, rfl, hl, hlen, hf⟩ := DataW.trod_struct hs h;rw [hC] at hl
 match cs, hl with
 | [c0, c1, c2], _ =>
  have h0 := hf 0 f0 rfl;have h1 := hf 1 f1 rfl;have h2 := hf 2 f2 rfl;rw [e0.1, e0.2, ci] at h0;rw [e1.1, e1.2, ci] at h1;rw [e2.1, e2.2, cl] at h2
  match xs, hlen with
  | [y0, y1, y2], _ =>
   obtain ⟨s, a0, -, -⟩ := DataW.trod_int hi (by simpa using h0);obtain ⟨f, a1, -, -⟩ := DataW.trod_int hi (by simpa using h1);obtain ⟨A, m, c, l, a2, hle, hcm, hll, hQ, hR⟩ := ops _ _ _ (by simpa using h2);simp at a0 a1 a2;subst a0 a1 a2 hll;exact ⟨⟨⟨s, f, l⟩, A, c⟩, ⟨⟨hR, hle, hcm⟩, hQ⟩, rfl⟩
theorem open_hist2 {r : Reach} {b0 : Nat} {t ts te tt tx ti tl tq tb tv tj : TypeId} {f0 f1 f2 x0 x1 x2 o0 o1 o2 g0 g1 : Field} {v : Value} {d : DataW H} {p : List MemPlace}
  (hs : P.underlying t = some (.struct #[f0, f1, f2])) (hC : P.cellsOf t = 3) (hts : P.underlying ts = some (.slice te)) (hte : P.underlying te = some .string) (cte : P.cellsOf te = 1) (cts : P.cellsOf ts = 1)
  (htt : P.underlying tt = some (.slice tx)) (ctt : P.cellsOf tt = 1) (hx : P.underlying tx = some (.struct #[x0, x1, x2])) (hCx : P.cellsOf tx = 3) (hi : P.underlying ti = some (.int .i64)) (ci : P.cellsOf ti = 1)
  (htl : P.underlying tl = some (.slice tq)) (ctl : P.cellsOf tl = 1) (hos : P.underlying tq = some (.struct #[o0, o1, o2])) (hvs : P.underlying tv = some (.struct #[g0, g1])) (hCo : P.cellsOf tq = 4)
  (hb : P.underlying tb = some .bool) (hj : P.underlying tj = some (.int .i64)) (cb : P.cellsOf tb = 1) (cj : P.cellsOf tj = 1) (cv : P.cellsOf tv = 2)
  (e0 : f0.type = ts ∧ f0.offset = 0) (e1 : f1.type = ts ∧ f1.offset = 1) (e2 : f2.type = tt ∧ f2.offset = 2)
  (k0 : x0.type = ti ∧ x0.offset = 0) (k1 : x1.type = ti ∧ x1.offset = 1) (k2 : x2.type = tl ∧ x2.offset = 2)
  (m0 : o0.type = tb ∧ o0.offset = 0) (m1 : o1.type = ti ∧ o1.offset = 1) (m2 : o2.type = tv ∧ o2.offset = 2) (q0 : g0.type = ti ∧ g0.offset = 0) (q1 : g1.type = tj ∧ g1.offset = 1)
  (hv : Value.okWide P w r b0 t v) (h : DataW.Trod enc P w 0 (fun _ => true) true t v d p) :
  ∃ (A0 A1 A2 : Option Addr) (c0 c1 c2 : Nat) (g : Hst), v = hval A0 A1 A2 g.ss.length g.ks.length g.l.length c0 c1 c2 ∧ HAt w w.heap.size A0 A1 A2 g ∧ g.ss.length ≤ maxLen ∧ g.ks.length ≤ maxLen ∧ g.l.length ≤ maxLen ∧ (∀ z ∈ g.ss, z.size ≤ maxLen) ∧ (∀ z ∈ g.ks, z.size ≤ maxLen) ∧ ∀ t ∈ g.l, ∀ x ∈ t.ops, OpI x := by
 obtain ⟨cs, rfl, hsz⟩ := okWide_struct hs hv;obtain ⟨fuel, hf0⟩ := h;have strs1 : ∀ fuel' cs' x', DataW.trod enc P w 0 (fun _ => true) true fuel' te cs' = some x' → ∃ y : ByteArray, y.size ≤ maxLen ∧ cs' = [.string y] := fun fuel' cs' x' h => by
  obtain ⟨s, a, -, ws⟩ := DataW.trod_string hte h;exact ⟨s, ws, a⟩
 have ops1 := fun fuel' cs' x' (h : DataW.trod enc P w 0 (fun _ => true) true fuel' tl cs' = some x') => row_of Op4.c 4 (fun _ => rfl) (by omega) OpI htl hCo (fun _ _ _ h => op_cells2 hos hvs hCo hb hi hj cb ci cj cv m0 m1 m2 q0 q1 h) h;obtain ⟨xs, n, _, hxx, hl, hlen, hf⟩ := DataW.trod_struct hs hf0;rw [hC] at hl;have hcells : (Value.agg cs).cells.toList = cs.toList := by simp [Value.cells]
 rw [hcells] at hl hf
 match hcs : cs.toList, hl with
 | [c0, c1, c2], _ =>
  rw [hcs] at hf;have h0 := hf 0 f0 rfl;have h1 := hf 1 f1 rfl;have h2 := hf 2 f2 rfl;rw [e0.1, e0.2, cts] at h0;rw [e1.1, e1.2, cts] at h1;rw [e2.1, e2.2, ctt] at h2
  match xs, hlen with
  | [y0, y1, y2], _ =>
   obtain ⟨A0, n0, d0, z0, a0, l0, m0', hn0, hz0, r0⟩ := row_of (fun s : ByteArray => [Value.string s]) 1 (fun _ => rfl) (by omega) (fun s => s.size ≤ maxLen) hts cte strs1 (by simpa using h0);obtain ⟨A1, n1, d1, z1, a1, l1, m1', hn1, hz1, r1⟩ := row_of (fun s : ByteArray => [Value.string s]) 1 (fun _ => rfl) (by omega) (fun s => s.size ≤ maxLen) hts cte strs1 (by simpa using h1);obtain ⟨A2, n2, d2, z2, a2, l2, m2', hn2, hz2, r2⟩ := row_of TxA.c 3 (fun _ => rfl) (by omega) (fun y => TxOk w w.heap.size y ∧ ∀ x ∈ y.t.ops, OpI x) htt hCx (fun _ _ _ h => txn_cells2 hx hCx hi ci ctl k0 k1 k2 ops1 h) (by simpa using h2);simp at a0 a1 a2;subst a0 a1 a2;have fs : ∀ l : List ByteArray, l.flatMap (fun s => [Value.string s]) = strs l := fun l => by
    induction l with
    | nil => rfl
    | cons x l ih => rw [List.flatMap_cons, ih]; rfl
   rw [fs] at r0 r1;refine ⟨A0, A1, A2, d0, d1, d2, ⟨z0, z1, z2.map TxA.t⟩, ?_, ⟨r0, r1, z2, rfl, r2, fun x hx => (hz2 x hx).1⟩, by rw [hn0]; exact Nat.le_trans l0 m0', by rw [hn1]; exact Nat.le_trans l1 m1', by rw [List.length_map, hn2]; exact Nat.le_trans l2 m2', hz0, hz1, fun t ht => by
    obtain ⟨x, hx, rfl⟩ := List.mem_map.1 ht;exact (hz2 x hx).2⟩
   have e : cs = #[.slice A0 n0 d0, .slice A1 n1 d1, .slice A2 n2 d2] := by
    apply Array.toList_inj.1
    rw [hcs]
   unfold hval;dsimp only;rw [e, hn0, hn1, List.length_map, hn2]
end
end Go.Proofs.YthdofaoamljkfaaGreatDoor
