/- Parts. -/
import Derived.Test.YthdofaoamljkfaaGreatDoorLaw24AllK9
import Derived.Lib.Agree
import Derived.Shelf.SlSortCmp.Insertion
import Derived.Shelf.GgSortFunc.InsertionK
import Derived.Shelf.SlSortFuncK.RowK2
import Derived.Lib.SliceRun
import Derived.Deep.LoopGhost
import Derived.Maps.OwnIn
import Derived.Sort.MapsRangeIn
set_option maxRecDepth 10000
set_option maxHeartbeats 16000000
set_option linter.unusedVariables false
set_option linter.unusedSimpArgs false
namespace Go.Proofs.YthdofaoamljkfaaGreatDoor
open Go.RowKit Go.ChangeShapes Go.WideShapes Go.ChangeAt Go.Joins Go.Deep
def OpI (y : Op4) : Prop := -9223372036854775808 ≤ y.vn ∧ y.vn ≤ 9223372036854775807
section
variable {H : Type} {enc : TypeId × Value → H} {P : Program} {w : World}
theorem op_cells2 {fuel : Nat} {t ti tb tv tj : TypeId} {f0 f1 f2 g0 g1 : Field} {cs : List Value} {x : DataW H × List MemPlace}
  (hs : P.underlying t = some (.struct #[f0, f1, f2])) (hvs : P.underlying tv = some (.struct #[g0, g1])) (hC : P.cellsOf t = 4)
  (hb : P.underlying tb = some .bool) (hi : P.underlying ti = some (.int .i64)) (hj : P.underlying tj = some (.int .i64)) (cb : P.cellsOf tb = 1) (ci : P.cellsOf ti = 1) (cj : P.cellsOf tj = 1) (cv : P.cellsOf tv = 2)
  (e0 : f0.type = tb ∧ f0.offset = 0) (e1 : f1.type = ti ∧ f1.offset = 1) (e2 : f2.type = tv ∧ f2.offset = 2) (q0 : g0.type = ti ∧ g0.offset = 0) (q1 : g1.type = tj ∧ g1.offset = 1)
  (h : DataW.trod enc P w 0 (fun _ => true) true fuel t cs = some x) : ∃ y : Op4, OpI y ∧ cs = y.c := by
 obtain ⟨xs, n, _, rfl, hl, hlen, hf⟩ := DataW.trod_struct hs h;rw [hC] at hl
 match cs, hl with
 | [c0, c1, c2, c3], _ =>
  have h0 := hf 0 f0 rfl;have h1 := hf 1 f1 rfl;have h2 := hf 2 f2 rfl;rw [e0.1, e0.2, cb] at h0;rw [e1.1, e1.2, ci] at h1;rw [e2.1, e2.2, cv] at h2
  match xs, hlen with
  | [y0, y1, y2], _ =>
   obtain ⟨b, a0, -⟩ := DataW.trod_bool hb (by simpa using h0);obtain ⟨k, a1, -, wk⟩ := DataW.trod_int hi (by simpa using h1);obtain ⟨z0, z1, m, -, -, g3, g4⟩ := trod_struct2 hvs (by simpa using h2);rw [q0.1, q0.2, ci] at g3;rw [q1.1, q1.2, cj] at g4;obtain ⟨vk, a3, -, wvk⟩ := DataW.trod_int hi (by simpa using g3);obtain ⟨vn, a4, -, wvn⟩ := DataW.trod_int hj (by simpa using g4);simp at a0 a1 a3 a4;subst a0 a1 a3 a4;exact ⟨⟨b, k, vk, vn⟩, bd_i64 wvn, rfl⟩
theorem txn_cells2 {fuel : Nat} {t ti tl : TypeId} {f0 f1 f2 : Field} {cs : List Value} {x : DataW H × List MemPlace}
  (hs : P.underlying t = some (.struct #[f0, f1, f2])) (hC : P.cellsOf t = 3) (hi : P.underlying ti = some (.int .i64)) (ci : P.cellsOf ti = 1) (cl : P.cellsOf tl = 1)
  (e0 : f0.type = ti ∧ f0.offset = 0) (e1 : f1.type = ti ∧ f1.offset = 1) (e2 : f2.type = tl ∧ f2.offset = 2)
  (ops : ∀ fuel' cs' x', DataW.trod enc P w 0 (fun _ => true) true fuel' tl cs' = some x' → ∃ (A : Option Addr) (n c : Nat) (l : List Op4), cs' = [.slice A n c] ∧ n ≤ c ∧ c ≤ maxLen ∧ l.length = n ∧ (∀ y ∈ l, OpI y) ∧ Row w w.heap.size A (l.flatMap Op4.c))
  (h : DataW.trod enc P w 0 (fun _ => true) true fuel t cs = some x) : ∃ y : TxA, (TxOk w w.heap.size y ∧ ∀ x ∈ y.t.ops, OpI x) ∧ cs = y.c := by
 obtain ⟨xs, n, _, rfl, hl, hlen, hf⟩ := DataW.trod_struct hs h;rw [hC] at hl
 match cs, hl with
 | [c0, c1, c2], _ =>
  have h0 := hf 0 f0 rfl;have h1 := hf 1 f1 rfl;have h2 := hf 2 f2 rfl;rw [e0.1, e0.2, ci] at h0;rw [e1.1, e1.2, ci] at h1;rw [e2.1, e2.2, cl] at h2
  match xs, hlen with
  | [y0, y1, y2], _ =>
   obtain ⟨s, a0, -, -⟩ := DataW.trod_int hi (by simpa using h0);obtain ⟨f, a1, -, -⟩ := DataW.trod_int hi (by simpa using h1);obtain ⟨A, m, c, l, a2, hle, hcm, hll, hQ, hR⟩ := ops _ _ _ (by simpa using h2);simp at a0 a1 a2;subst a0 a1 a2 hll;exact ⟨⟨⟨s, f, l⟩, A, c⟩, ⟨⟨hR, hle, hcm⟩, hQ⟩, rfl⟩
theorem open_hist2 {r : Reach} {b0 : Nat} {t ts te tt tx ti tl tq tb tv tj : TypeId} {f0 f1 f2 x0 x1 x2 o0 o1 o2 g0 g1 : Field} {v : Value} {d : DataW H} {p : List MemPlace}
  (hs : P.underlying t = some (.struct #[f0, f1, f2])) (hC : P.cellsOf t = 3) (hts : P.underlying ts = some (.slice te)) (hte : P.underlying te = some .string) (cte : P.cellsOf te = 1) (cts : P.cellsOf ts = 1)
  (htt : P.underlying tt = some (.slice tx)) (ctt : P.cellsOf tt = 1) (hx : P.underlying tx = some (.struct #[x0, x1, x2])) (hCx : P.cellsOf tx = 3) (hi : P.underlying ti = some (.int .i64)) (ci : P.cellsOf ti = 1)
  (htl : P.underlying tl = some (.slice tq)) (ctl : P.cellsOf tl = 1) (hos : P.underlying tq = some (.struct #[o0, o1, o2])) (hvs : P.underlying tv = some (.struct #[g0, g1])) (hCo : P.cellsOf tq = 4)
  (hb : P.underlying tb = some .bool) (hj : P.underlying tj = some (.int .i64)) (cb : P.cellsOf tb = 1) (cj : P.cellsOf tj = 1) (cv : P.cellsOf tv = 2)
  (e0 : f0.type = ts ∧ f0.offset = 0) (e1 : f1.type = ts ∧ f1.offset = 1) (e2 : f2.type = tt ∧ f2.offset = 2)
  (k0 : x0.type = ti ∧ x0.offset = 0) (k1 : x1.type = ti ∧ x1.offset = 1) (k2 : x2.type = tl ∧ x2.offset = 2)
  (m0 : o0.type = tb ∧ o0.offset = 0) (m1 : o1.type = ti ∧ o1.offset = 1) (m2 : o2.type = tv ∧ o2.offset = 2) (q0 : g0.type = ti ∧ g0.offset = 0) (q1 : g1.type = tj ∧ g1.offset = 1)
  (hv : Value.okWide P w r b0 t v) (h : DataW.Trod enc P w 0 (fun _ => true) true t v d p) :
  ∃ (A0 A1 A2 : Option Addr) (c0 c1 c2 : Nat) (g : Hst), v = hval A0 A1 A2 g.ss.length g.ks.length g.l.length c0 c1 c2 ∧ HAt w w.heap.size A0 A1 A2 g ∧ g.ss.length ≤ maxLen ∧ g.ks.length ≤ maxLen ∧ g.l.length ≤ maxLen ∧ (∀ z ∈ g.ss, z.size ≤ maxLen) ∧ (∀ z ∈ g.ks, z.size ≤ maxLen) ∧ ∀ t ∈ g.l, ∀ x ∈ t.ops, OpI x := by
 obtain ⟨cs, rfl, hsz⟩ := okWide_struct hs hv;obtain ⟨fuel, hf0⟩ := h;have strs1 : ∀ fuel' cs' x', DataW.trod enc P w 0 (fun _ => true) true fuel' te cs' = some x' → ∃ y : ByteArray, y.size ≤ maxLen ∧ cs' = [.string y] := fun fuel' cs' x' h => by
  obtain ⟨s, a, -, ws⟩ := DataW.trod_string hte h;exact ⟨s, ws, a⟩
 have ops1 := fun fuel' cs' x' (h : DataW.trod enc P w 0 (fun _ => true) true fuel' tl cs' = some x') => row_of Op4.c 4 (fun _ => rfl) (by omega) OpI htl hCo (fun _ _ _ h => op_cells2 hos hvs hCo hb hi hj cb ci cj cv m0 m1 m2 q0 q1 h) h;obtain ⟨xs, n, _, hxx, hl, hlen, hf⟩ := DataW.trod_struct hs hf0;rw [hC] at hl;have hcells : (Value.agg cs).cells.toList = cs.toList := by simp [Value.cells]
 rw [hcells] at hl hf
 match hcs : cs.toList, hl with
 | [c0, c1, c2], _ =>
  rw [hcs] at hf;have h0 := hf 0 f0 rfl;have h1 := hf 1 f1 rfl;have h2 := hf 2 f2 rfl;rw [e0.1, e0.2, cts] at h0;rw [e1.1, e1.2, cts] at h1;rw [e2.1, e2.2, ctt] at h2
  match xs, hlen with
  | [y0, y1, y2], _ =>
   obtain ⟨A0, n0, d0, z0, a0, l0, m0', hn0, hz0, r0⟩ := row_of (fun s : ByteArray => [Value.string s]) 1 (fun _ => rfl) (by omega) (fun s => s.size ≤ maxLen) hts cte strs1 (by simpa using h0);obtain ⟨A1, n1, d1, z1, a1, l1, m1', hn1, hz1, r1⟩ := row_of (fun s : ByteArray => [Value.string s]) 1 (fun _ => rfl) (by omega) (fun s => s.size ≤ maxLen) hts cte strs1 (by simpa using h1);obtain ⟨A2, n2, d2, z2, a2, l2, m2', hn2, hz2, r2⟩ := row_of TxA.c 3 (fun _ => rfl) (by omega) (fun y => TxOk w w.heap.size y ∧ ∀ x ∈ y.t.ops, OpI x) htt hCx (fun _ _ _ h => txn_cells2 hx hCx hi ci ctl k0 k1 k2 ops1 h) (by simpa using h2);simp at a0 a1 a2;subst a0 a1 a2;have fs : ∀ l : List ByteArray, l.flatMap (fun s => [Value.string s]) = strs l := fun l => by
    induction l with
    | nil => rfl
    | cons x l ih => rw [List.flatMap_cons, ih]; rfl
   rw [fs] at r0 r1;refine ⟨A0, A1, A2, d0, d1, d2, ⟨z0, z1, z2.map TxA.t⟩, ?_, ⟨r0, r1, z2, rfl, r2, fun x hx => (hz2 x hx).1⟩, by rw [hn0]; exact Nat.le_trans l0 m0', by rw [hn1]; exact Nat.le_trans l1 m1', by rw [List.length_map, hn2]; exact Nat.le_trans l2 m2', hz0, hz1, fun t ht => by
    obtain ⟨x, hx, rfl⟩ := List.mem_map.1 ht;exact (hz2 x hx).2⟩
   have e : cs = #[.slice A0 n0 d0, .slice A1 n1 d1, .slice A2 n2 d2] := by
    apply Array.toList_inj.1
    rw [hcs]
   unfold hval;dsimp only;rw [e, hn0, hn1, List.length_map, hn2]
end
end Go.Proofs.YthdofaoamljkfaaGreatDoor
namespace Go.Proofs.YthdofaoamljkfaaGreatDoor
open Go.RowKit Go.ChangeShapes Go.WideShapes
section
variable {H : Type} {enc : TypeId × Value → H} {P : Program} {w : World}
open Go.Deep
end
section
variable {H : Type} {enc : TypeId × Value → H} {P : Program} {w : World}
end
end Go.Proofs.YthdofaoamljkfaaGreatDoor


namespace Go.Proofs.YthdofaoamljkfaaGreatDoor
open Go.RowKit
open Go.Lib hiding intOf
attribute [local go_sem ↓] Go.wp_at_zero Go.wp_at_succ
@[reducible] def ValT : Type := {a : Int × Int // mayP a = true}
theorem val_0 : mayP (0, 0) = true := by decide
def HasBlk (w : World) (g : Nat) (t : TypeId) (k : Nat) : Prop := ∃ cs, Blk w g t cs ∧ cs.size = k
theorem HasBlk.modify {w : World} {g : Nat} {t : TypeId} {k : Nat} (h : HasBlk w g t k) {w' : World} (f : Array Value → Array Value) (hf : ∀ cs, (f cs).size = cs.size) (he : w'.heap[g]? = (w.heap.modify g (Go.Sort.onCells f))[g]?) : HasBlk w' g t k := by
 obtain ⟨cs, hb, hs⟩ := h;unfold Blk at hb;rw [Array.getElem?_modify, if_pos rfl, hb] at he;exact ⟨_, he, by rw [hf]; exact hs⟩
theorem HasBlk.setCells {w : World} {g : Nat} {t : TypeId} {n : Nat} (h : HasBlk w g t n) : ∀ (vs : List Value) (o : Nat), HasBlk (w.setCells g o vs) g t n
 | [], _ => h
 | v :: vs, o => by
  obtain ⟨cs, hb, hs⟩ := h;exact HasBlk.setCells (w := w.setCell ⟨g, o, none⟩ v) ⟨_, hb.put o v, by simpa using hs⟩ vs (o + 1)
end Go.Proofs.YthdofaoamljkfaaGreatDoor
namespace Go.Proofs.YthdofaoamljkfaaGreatDoor
open Go.RowKit Go.Sort
open Go.Lib hiding intOf
attribute [local go_sem ↓] Go.wp_at_zero Go.wp_at_succ


end Go.Proofs.YthdofaoamljkfaaGreatDoor
namespace Go.Proofs.YthdofaoamljkfaaGreatDoor
open Go.RowKit
open Go.Lib hiding intOf
attribute [local go_sem ↓] Go.wp_at_zero Go.wp_at_succ


end Go.Proofs.YthdofaoamljkfaaGreatDoor
namespace Go.Proofs.YthdofaoamljkfaaGreatDoor
open Go.RowKit
section
variable {P : Program} {ops : Array Oper} {Q : Exit → Act → World → Prop} {md : Region.Mode} {S : Array Bool → World → Prop}
theorem timed_forks {l : List Nat} {fuel : Nat} {listed : Array Bool} {a : Act} {w : World} (hr : Region.ready md ops listed = l) (hl : l ≠ [])
  (h : ∀ k ∈ l, ∃ ok, ops[k]? = some ok ∧ ∀ K' : Act → World → Prop, Shut (∀ a w, S (listed.setIfInBounds k true) w → (S (listed.setIfInBounds k true) w → wpAnyT P md ops Q S fuel (listed.setIfInBounds k true) a w) → K' a w) →
   if Region.wanted ok (yielded ops a.tmps) = true then Oper.wp P ok a w K' Q else K' (a.put ok.dst undef) w) : S listed w → wpAnyT P md ops Q S (fuel + 1) listed a w := by
 intro _;refine ⟨fun h0 => (by rw [hr] at h0; exact absurd h0 hl), fun k hk => ?_⟩;rw [hr] at hk;obtain ⟨ok, ho, hs⟩ := h k hk;exact wpOp_step ho (fun K' hK => hs K' (fun a w hS hW => hK a w ⟨hS, hW hS⟩))
end
section
variable {G : Prop}
theorem cut_0_0 (F : World → Prop) {L : World → Prop} (h1 : (∀ (w : World), F w  → L w ) → G) (h2 : ∀ (w : World), F w  → L w ) : G := h1 h2
theorem cut_1_0 (F : World → Nat → Prop) {L : World → Nat → Prop} (h1 : (∀ (w : World) (g0 : Nat), F w g0  → L w g0 ) → G) (h2 : ∀ (w : World) (g0 : Nat), F w g0  → L w g0 ) : G := h1 h2
theorem cut_1_0_1 (F : World → Nat → Option Addr → Prop) {L : World → Nat → Option Addr → Prop} (h1 : (∀ (w : World) (g0 : Nat) (z0 : Option Addr), F w g0 z0 → L w g0 z0) → G) (h2 : ∀ (w : World) (g0 : Nat) (z0 : Option Addr), F w g0 z0 → L w g0 z0) : G := h1 h2
theorem cut_2_0_1 (F : World → Nat → Nat → Option Addr → Prop) {L : World → Nat → Nat → Option Addr → Prop} (h1 : (∀ (w : World) (g0 g1 : Nat) (z0 : Option Addr), F w g0 g1 z0 → L w g0 g1 z0) → G) (h2 : ∀ (w : World) (g0 g1 : Nat) (z0 : Option Addr), F w g0 g1 z0 → L w g0 g1 z0) : G := h1 h2
end
theorem fork_cons {p : Nat → Prop} {k : Nat} {l : List Nat} (h : p k) (r : ∀ j ∈ l, p j) : ∀ j ∈ k :: l, p j := List.forall_mem_cons.2 ⟨h, r⟩
theorem fork_nil {p : Nat → Prop} : ∀ j ∈ ([] : List Nat), p j := fun _ h => by cases h
open Go.Lib hiding intOf
attribute [local go_sem ↓] Go.wp_at_zero Go.wp_at_succ
def HInt (h : Hst) : Prop := ∀ t ∈ h.l, ∀ x ∈ t.ops, OpI x
theorem may_ops {h : Hst} (hm : mayH h = true) : h.l.length ≤ 40 ∧ (∀ t ∈ h.l, t.ops.length ≤ 20) ∧ ∀ t ∈ h.l, ∀ o ∈ t.ops, 0 ≤ o.key ∧ o.key < (h.ks.length : Int) ∧ mayB o.vk o.vn = true ∧ (o.wr = true → o.vk = 1) := by
 unfold mayH namesB txsB opsB at hm;simp only [Bool.and_eq_true, decide_eq_true_eq] at hm;obtain ⟨-, -, ⟨hn, hx, -⟩, ho, -⟩ := hm;refine ⟨hn, fun t ht => ?_, fun t ht o hop => ?_⟩
 ·have h1 := List.all_eq_true.1 hx t ht;unfold txB at h1;simp only [Bool.and_eq_true, decide_eq_true_eq] at h1;exact h1.2.2
 ·have h1 := List.all_eq_true.1 (List.all_eq_true.1 ho t ht) o hop;unfold opB at h1;simp only [Bool.and_eq_true, decide_eq_true_eq, Bool.or_eq_true, Bool.not_eq_true'] at h1;refine ⟨h1.1.1, h1.1.2, h1.2.1, fun hw => ?_⟩;rcases h1.2.2 with h2 | h2
  ·rw [hw] at h2; cases h2
  ·exact h2
end Go.Proofs.YthdofaoamljkfaaGreatDoor
namespace Go.Proofs.YthdofaoamljkfaaGreatDoor
abbrev Pl := Nat × Nat × Op4
def plsT (i : Nat) (l : List Op4) : List Pl := l.zipIdx.map fun x => (i, x.2, x.1)
def plsL (l : List Tx) : List Pl := l.zipIdx.flatMap fun x => plsT x.2 x.1.ops
theorem plsT_take {i : Nat} {l : List Op4} {j : Nat} {x : Op4} (h : l[j]? = some x) : plsT i (l.take (j + 1)) = plsT i (l.take j) ++ [(i, j, x)] := by
 have hj := (List.getElem?_eq_some_iff.1 h).1;unfold plsT;rw [List.take_add_one, h, List.zipIdx_append, List.map_append, List.length_take, Nat.min_eq_left (Nat.le_of_lt hj)];simp [List.zipIdx]
theorem plsL_take {l : List Tx} {k : Nat} {t : Tx} (h : l[k]? = some t) : plsL (l.take (k + 1)) = plsL (l.take k) ++ plsT k t.ops := by
 have hk := (List.getElem?_eq_some_iff.1 h).1;unfold plsL;rw [List.take_add_one, h, List.zipIdx_append, List.flatMap_append, List.length_take, Nat.min_eq_left (Nat.le_of_lt hk)];simp [List.zipIdx]
theorem plsT_len (i : Nat) (l : List Op4) : (plsT i l).length = l.length := by simp [plsT]
theorem plsL_len : ∀ (l : List Tx), (∀ t ∈ l, t.ops.length ≤ 1000) → (plsL l).length ≤ l.length * 1000 := by
 intro l;unfold plsL;generalize 0 = s
 induction l generalizing s with
 | nil => intro _; simp
 | cons t l ih =>
  intro h;have h1 := ih (s + 1) (fun x hx => h x (List.mem_cons_of_mem _ hx));have h2 := h t List.mem_cons_self;rw [List.zipIdx_cons, List.flatMap_cons, List.length_append, plsT_len, List.length_cons]
  show t.ops.length + _ ≤ _
  omega
def placeC (l : List (Int × Int)) : List Value := l.flatMap fun e => [.int .i64 e.1, .int .i64 e.2]
theorem placeC_append (l k : List (Int × Int)) : placeC (l ++ k) = placeC l ++ placeC k := by simp [placeC]
def lostP (ps : List Pl) : List (Int × Int) := (ps.filter fun x => decide (x.2.2.vk = 2)).map fun x => ((x.1 : Int), (x.2.1 : Int))
theorem lostP_hit (pre : List Pl) {x : Pl} (h : x.2.2.vk = 2) : lostP (pre ++ [x]) = lostP pre ++ [((x.1 : Int), (x.2.1 : Int))] := by simp [lostP, h]
theorem lostP_miss (pre : List Pl) {x : Pl} (h : ¬ x.2.2.vk = 2) : lostP (pre ++ [x]) = lostP pre := by simp [lostP, h]
theorem lostP_le (pre : List Pl) : (lostP pre).length ≤ pre.length := by
 unfold lostP;rw [List.length_map];exact List.length_filter_le _ _
theorem info_place : (Tryz.prog.info? 56).map (fun i => (i.zero, i.size, i.bytes)) = some (some (.agg #[.int .i64 0, .int .i64 0]), 2, 16) := by kernel_rfl
open Go.RowKit Go.Shelf
open Go.Lib hiding intOf
attribute [local go_sem] Oper.semAt_some

def NWf (n : Int) : Prop := (Lit.int .i64 n).wf = true
def HasN (D : DataW Unit) (p : Int → Bool) : Prop := ∀ n, NWf n → Maps.has D (.int .i64 n) = p n
def hitP (key : Int) (pre : List Pl) (n : Int) : Bool := pre.any fun x => hitN key n x.2.2
theorem HasN.nil (key : Int) : HasN (.map []) (hitP key []) := fun n _ => by simp [Maps.has, hitP]
theorem hitP_snoc (key : Int) (pre : List Pl) (x : Pl) (n : Int) : hitP key (pre ++ [x]) n = (hitP key pre n || hitN key n x.2.2) := by simp [hitP]
theorem HasN.put {D : DataW Unit} {key : Int} {pre : List Pl} (h : HasN D (hitP key pre)) (hD : Maps.IsMap D) {x : Pl} (hw : x.2.2.wr = true) (hk : x.2.2.key = key) (d : DataW Unit) : HasN (D.put (.int .i64 x.2.2.vn) d) (hitP key (pre ++ [x])) := fun n hn => by
 rw [hitP_snoc];unfold hitN;rw [hw, hk]
 by_cases e : x.2.2.vn = n
 ·subst e;rw [Maps.has_put_same hD (by trivial : WideAt.IsKeyLit (.int .i64 x.2.2.vn))];simp
 ·rw [Maps.has_put_other (by intro q; cases q; exact e rfl), h n hn];simp [e]
theorem HasN.skip {D : DataW Unit} {key : Int} {pre : List Pl} (h : HasN D (hitP key pre)) {x : Pl} (hx : (x.2.2.wr && decide (x.2.2.key = key)) = false) : HasN D (hitP key (pre ++ [x])) := fun n hn => by
 rw [hitP_snoc, h n hn];unfold hitN;rw [← Bool.and_assoc, hx];simp
end Go.Proofs.YthdofaoamljkfaaGreatDoor
namespace Go.Proofs.YthdofaoamljkfaaGreatDoor
open Go.RowKit
open Go.Lib hiding intOf
attribute [local go_sem ↓] Go.wp_at_zero Go.wp_at_succ
theorem read_inv {h : Hst} {a b : Int} {t : Tx} {o : Op4} (hr : readO h a b = some (t, o)) : mayH h = true ∧ ∃ i j : Nat, a = (i : Int) ∧ b = (j : Int) ∧ h.l[i]? = some t ∧ t.ops[j]? = some o ∧ o.wr = false := by
 unfold readO at hr
 cases ho : opAtH h a b with
 | none => rw [ho] at hr; cases hr
 | some x =>
  rw [ho] at hr;simp only [Option.bind_some] at hr
  split at hr
  ·cases hr
  ·rename_i hw
   simp at hr;subst hr;unfold opAtH txAtH at ho
   split at ho
   ·rename_i hc
    cases hx : h.l[a.toNat]? with
    | none => rw [hx] at ho; cases ho
    | some t' =>
     rw [hx] at ho;simp only [Option.bind_some] at ho
     split at ho
     ·rename_i hb
      cases hy : t'.ops[b.toNat]? with
      | none => rw [hy] at ho; cases ho
      | some o' =>
       rw [hy] at ho;simp at ho;obtain ⟨rfl, rfl⟩ := ho;exact ⟨hc.1, a.toNat, b.toNat, by omega, by omega, hx, hy, by simpa using hw⟩
     ·cases ho
   ·cases ho
end Go.Proofs.YthdofaoamljkfaaGreatDoor
namespace Go.Proofs.YthdofaoamljkfaaGreatDoor

end Go.Proofs.YthdofaoamljkfaaGreatDoor
