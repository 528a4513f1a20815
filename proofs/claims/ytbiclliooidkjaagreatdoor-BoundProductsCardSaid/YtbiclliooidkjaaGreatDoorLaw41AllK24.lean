/- Parts. -/
import Derived.Test.YtbiclliooidkjaaGreatDoorLaw41AllK23
import Derived.Maps.RangeWalk
import Derived.DeepKeys4
import Derived.Lib.SmallJoins
import Derived.ChangeSame
import Derived.Lib.Agree
import Derived.Shelf.SlSortCmp.Insertion
import Derived.Shelf.GgSortFunc.InsertionK
import Derived.Shelf.SlSortFuncK.RowK2
import Derived.Lib.SliceRun
import Derived.Deep.LoopGhost
import Derived.Test.YtbiclliooidkjaaGreatDoorLaw41AllK22
import Derived.Maps.OwnIn
import Derived.Sort.MapsRangeIn
set_option maxRecDepth 10000
set_option maxHeartbeats 16000000
set_option linter.unusedVariables false
set_option linter.unusedSimpArgs false
namespace Go.Proofs.YtbiclliooidkjaaGreatDoor
open Go.RowKit
open Go.Lib hiding intOf
attribute [local go_sem ↓] Go.wp_at_zero Go.wp_at_succ


end Go.Proofs.YtbiclliooidkjaaGreatDoor
namespace Go.Proofs.YtbiclliooidkjaaGreatDoor
open Go.RowKit
section
variable {H : Type} {P : Program} {w w' : World} {k : TypeId} {R : Value → Option (DataW H × List MemPlace)} {b n r : Nat} {D : DataW H} {S : List Nat}
variable {left : Lit → Bool} {cnt : Nat}
end
abbrev V2 := Int × Int
def agV (v : V2) : Value := .agg #[.int .i64 v.1, .int .i64 v.2]
def VWf (v : V2) : Prop := (Lit.int .i64 v.1).wf = true ∧ (Lit.int .i64 v.2).wf = true
def kV (v : V2) : Lit := .string (keyBytes [.int .i64 v.1, .int .i64 v.2])
theorem val_row : (48 : TypeId) < Tryz.prog.types.size := of_decide_eq_true (by kernel_rfl)
theorem val_wide : (match Tryz.prog.underlying 48 with | some (.array _ _) | some (.struct _) => true | _ => false) = true := by rw [Tryz.underlying48]
theorem val_cells : Tryz.prog.cellsOf 48 = 2 := by kernel_rfl
theorem val_keyType : Tryz.prog.keyType 48 = true := by kernel_rfl
theorem val_one : Tryz.prog.cellsOf 3 = 1 ∧ Tryz.prog.cellsOf 2 = 1 := ⟨by kernel_rfl, by kernel_rfl⟩
theorem succ_of_lt {a b : Nat} (h : a < b) : ∃ m, b = m + 1 := ⟨b - 1, by omega⟩
theorem types_succ : ∃ m, Tryz.prog.types.size = m + 1 := succ_of_lt val_row
set_option maxRecDepth 100000 in
theorem law_val : Go.Maps.Keyed Tryz.prog 48 := Go.Maps.Keyed.of_law (deep_law_laid laidOut (m := 2) (by omega) val_row (by kernel_rfl) val_wide)
theorem key_val {v : V2} (h : VWf v) : keyOf Tryz.prog 48 (agV v) = some (kV v) := by
 obtain ⟨m, hm⟩ := types_succ;unfold keyOf agV kV;rw [Tryz.underlying48];dsimp only;rw [if_pos (by simp [val_keyType, Value.formed, Tryz.underlying48, val_cells]), hm];unfold Program.keyLits;rw [Tryz.underlying48];dsimp only;rw [if_pos (by rw [val_cells]; exact ⟨rfl, by simp⟩)];simp [val_one.1, val_one.2, Program.keyLits, Tryz.underlying3, Tryz.underlying2, h.1, h.2, Value.cells]
theorem kV_inj {u v : V2} (hu : VWf u) (hv : VWf v) (h : kV u = kV v) : u = v := by
 have := law_val.inj (key_val hu) (by rw [h]; exact key_val hv);unfold agV at this;simp at this;exact Prod.ext this.1 this.2
theorem kV_lit (v : V2) : WideAt.IsKeyLit (kV v) := by unfold kV; trivial
theorem kV_same {u v : V2} (hu : VWf u) (hv : VWf v) : (kV u).sameKey (kV v) = decide (u = v) := by
 by_cases h : u = v
 ·subst h;rw [decide_eq_true rfl];exact WideAt.sameKey_self (kV_lit u)
 ·rw [decide_eq_false h];exact Maps.sameKey_ne (fun e => h (kV_inj hu hv e))
def HasV (D : DataW Unit) (vs : List V2) : Prop := ∀ v, VWf v → (Maps.has D (kV v) = true ↔ v ∈ vs)
theorem HasV.nil : HasV (.map []) [] := fun v _ => by simp [Maps.has]
theorem HasV.put {D : DataW Unit} {vs : List V2} (h : HasV D vs) (hD : Maps.IsMap D) {u : V2} (hu : VWf u) (d : DataW Unit) : HasV (D.put (kV u) d) (vs ++ [u]) := fun v hv => by
 by_cases e : v = u
 ·subst e;simp [Maps.has_put_same hD (kV_lit v)]
 ·rw [Maps.has_put_other (fun q => e (kV_inj hv hu q)), h v hv];simp [e]
def MetV (D : DataW Unit) (left : Lit → Bool) (zs : List V2) : Prop := (∀ z ∈ zs, VWf z) ∧ ∀ v, VWf v → (v ∈ zs ↔ (Maps.has D (kV v) = true ∧ left (kV v) = false))
theorem MetV.step {D : DataW Unit} {left : Lit → Bool} {zs : List V2} (h : MetV D left zs) {u : V2} (hu : VWf u) (hat : Maps.has D (kV u) = true) : MetV D (fun z => left z && !z.sameKey (kV u)) (zs ++ [u]) := by
 refine ⟨fun z hz => ?_, fun v hv => ?_⟩
 ·rcases List.mem_append.1 hz with hz | hz
  ·exact h.1 z hz
  ·simp at hz;subst hz;exact hu
 ·show _ ↔ (_ ∧ (left (kV v) && !(kV v).sameKey (kV u)) = false)
  rw [List.mem_append, h.2 v hv, kV_same hv hu]
  by_cases e : v = u
  ·subst e;simp [hat]
  ·simp [e]
theorem MetV.all {D : DataW Unit} {left : Lit → Bool} {zs vs : List V2} (h : MetV D left zs) (hD : HasV D vs) (hvs : ∀ v ∈ vs, VWf v) (hl : ∀ kl, left kl = false) : sortV zs = sortV vs := by
 refine sortV_unique (sortV_vals zs).1.1 fun y => ?_;rw [(sortV_vals zs).2]
 constructor
 ·rintro ⟨h1, h2⟩;exact ⟨(hD y (h.1 y h1)).1 ((h.2 y (h.1 y h1)).1 h1).1, h2⟩
 ·rintro ⟨h1, h2⟩;exact ⟨(h.2 y (hvs y h1)).2 ⟨(hD y (hvs y h1)).2 h1, hl _⟩, h2⟩
end Go.Proofs.YtbiclliooidkjaaGreatDoor
namespace Go.Proofs.YtbiclliooidkjaaGreatDoor
open Go.RowKit Go.ChangeShapes Go.WideShapes Go.ChangeAt Go.Joins Go.Deep
theorem list_ofG {α : Type} {Q : Nat → α → Prop} : ∀ {N : Nat}, (∀ k, k < N → ∃ z, Q k z) → ∃ zs : List α, zs.length = N ∧ ∀ k z, zs[k]? = some z → Q k z
 | 0, _ => ⟨[], rfl, fun k z h => by simp at h⟩
 | N + 1, h => by
  obtain ⟨zs, hl, hz⟩ := list_ofG (N := N) (fun k hk => h k (by omega));obtain ⟨z, hq⟩ := h N (by omega);refine ⟨zs ++ [z], by simp [hl], fun k y hy => ?_⟩;rcases Nat.lt_or_ge k zs.length with hk | hk
  ·rw [List.getElem?_append_left hk] at hy;exact hz k y hy
  ·rw [List.getElem?_append_right hk] at hy;have hk0 : k - zs.length = 0 := by
    cases hj : k - zs.length with
    | zero => rfl
    | succ j => rw [hj] at hy; simp at hy
   rw [hk0] at hy;simp at hy;subst hy;have : k = N := by omega
   subst this;exact hq
section
variable {H : Type} {enc : TypeId × Value → H} {P : Program} {w : World}
theorem row_of {α : Type} (f : α → List Value) (sz : Nat) (hf : ∀ x, (f x).length = sz) (hsz : 0 < sz) (Q : α → Prop) {t e : TypeId} {fuel : Nat} {cs : List Value} {x : DataW H × List MemPlace} (ht : P.underlying t = some (.slice e)) (hC : P.cellsOf e = sz)
  (each : ∀ fuel' cs' x', DataW.trod enc P w 0 (fun _ => true) true fuel' e cs' = some x' → ∃ y : α, Q y ∧ cs' = f y) (h : DataW.trod enc P w 0 (fun _ => true) true fuel t cs = some x) :
  ∃ (A : Option Addr) (n c : Nat) (l : List α), cs = [.slice A n c] ∧ n ≤ c ∧ c ≤ maxLen ∧ l.length = n ∧ (∀ y ∈ l, Q y) ∧ Row w w.heap.size A (l.flatMap f) := by
 rcases open_slice ht h with ⟨hcs, _⟩ | ⟨a, len, cap, m, n, D, Pl, hcs, _, hl, hm, hmm, _, hcell⟩
 ·exact ⟨none, 0, 0, [], hcs, Nat.le_refl _, by unfold maxLen; omega, rfl, (fun z hz => by cases hz), .inl rfl⟩
 ·simp only [if_true] at hmm;subst hmm;have each' : ∀ k, k < len → ∃ y : α, Q y ∧ ∀ i, i < sz → w.cell? (a.add (k * sz + i)) = (f y)[i]? := by
   intro k hk;obtain ⟨cs', hc, htr⟩ := hcell k (by omega);rw [hC] at hc;obtain ⟨y, hq, hcs'⟩ := each _ _ _ htr;obtain ⟨_, hcl, hat⟩ := World.cells?_some hc;refine ⟨y, hq, fun i hi => ?_⟩;have hk' : a.add (k * sz + i) = (a.add (k * sz)).add i := by rw [Go.Deep.add_add]
   rw [hk', hat i hi, hcs']
  obtain ⟨l, hll, hz⟩ := list_ofG each';refine ⟨some a, len, _, l, hcs, hl, hm, hll, fun z hzm => ?_, ?_⟩
  ·obtain ⟨k, hk⟩ := List.mem_iff_getElem?.1 hzm;exact (hz k z hk).1
  ·by_cases h0 : len = 0
   ·subst h0;have : l = [] := List.eq_nil_of_length_eq_zero hll;subst this;exact .inl rfl
   ·obtain ⟨x0, -, hx0⟩ := each' 0 (by omega);obtain ⟨u0, hu0⟩ : ∃ u, (f x0)[0]? = some u := ⟨_, List.getElem?_eq_getElem (by rw [hf]; exact hsz)⟩;have hz0 : w.cell? (a.add 0) = some u0 := by
     have := hx0 0 hsz;rw [hu0] at this
     simpa using this
    have hA : a.spot = none := by
     unfold World.cell? Addr.add at hz0
     cases hsp : a.spot with
     | none => rfl
     | some s =>
      rw [if_pos rfl] at hz0
      split at hz0
      ·simp [hsp] at hz0
      ·cases hz0
    obtain ⟨b, off, sp⟩ := a;simp only at hA;subst hA;have hb : b < w.heap.size := World.block_lt_of_cell? w _ (by simpa [Addr.add] using hz0);refine .inr ⟨b, off, rfl, hb, Nat.le_refl _, fun t u hu => ?_⟩;have hlt : t < (l.flatMap f).length := (List.getElem?_eq_some_iff.1 hu).1;rw [flat_len f sz hf] at hlt;have hts : t / sz < l.length := (Nat.div_lt_iff_lt_mul hsz).2 hlt;obtain ⟨x, hx⟩ : ∃ x, l[t / sz]? = some x := ⟨_, List.getElem?_eq_getElem hts⟩;have g := flat_get f sz hf l (t / sz) x hx (t % sz) (Nat.mod_lt _ hsz);have e : t / sz * sz + t % sz = t := by rw [Nat.mul_comm]; exact Nat.div_add_mod t sz
    rw [e, hu] at g;have h1 := (hz (t / sz) x hx).2 (t % sz) (Nat.mod_lt _ hsz);rw [e] at h1;have e' : (⟨b, off, none⟩ : Addr).add t = ⟨b, off + t, none⟩ := by
     unfold Addr.add
     split
     ·rename_i h; subst h; rfl
     ·rfl
    rw [e'] at h1;rw [h1];exact g.symm
end
def OpI (y : Op4) : Prop := -9223372036854775808 ≤ y.vn ∧ y.vn ≤ 9223372036854775807
section
variable {H : Type} {enc : TypeId × Value → H} {P : Program} {w : World}
theorem op_cells2 {fuel : Nat} {t ti tb tv tj : TypeId} {f0 f1 f2 g0 g1 : Field} {cs : List Value} {x : DataW H × List MemPlace}
  (hs : P.underlying t = some (.struct #[f0, f1, f2])) (hvs : P.underlying tv = some (.struct #[g0, g1])) (hC : P.cellsOf t = 4)
  (hb : P.underlying tb = some .bool) (hi : P.underlying ti = some (.int .i64)) (hj : P.underlying tj = some (.int .i64)) (cb : P.cellsOf tb = 1) (ci : P.cellsOf ti = 1) (cj : P.cellsOf tj = 1) (cv : P.cellsOf tv = 2)
  (e0 : f0.type = tb ∧ f0.offset = 0) (e1 : f1.type = ti ∧ f1.offset = 1) (e2 : f2.type = tv ∧ f2.offset = 2) (q0 : g0.type = ti ∧ g0.offset = 0) (q1 : g1.type = tj ∧ g1.offset = 1)
  (h : DataW.trod enc P w 0 (fun _ => true) true fuel t cs = some x) : ∃ y : Op4, OpI y ∧ cs = y.c := by
 obtain ⟨xs, n, _, rfl, hl, hlen, hf⟩ := DataW.trod_struct hs h;rw [hC] at hl
 match cs, hl with
 | [c0, c1, c2, c3], _ =>
  have h0 := hf 0 f0 rfl;have h1 := hf 1 f1 rfl;have h2 := hf 2 f2 rfl;rw [e0.1, e0.2, cb] at h0;rw [e1.1, e1.2, ci] at h1;rw [e2.1, e2.2, cv] at h2
  match xs, hlen with
  | [y0, y1, y2], _ =>
   obtain ⟨b, a0, -⟩ := DataW.trod_bool hb (by simpa using h0);obtain ⟨k, a1, -, wk⟩ := DataW.trod_int hi (by simpa using h1);obtain ⟨z0, z1, m, -, -, g3, g4⟩ := trod_struct2 hvs (by simpa using h2);rw [q0.1, q0.2, ci] at g3;rw [q1.1, q1.2, cj] at g4;obtain ⟨vk, a3, -, wvk⟩ := DataW.trod_int hi (by simpa using g3);obtain ⟨vn, a4, -, wvn⟩ := DataW.trod_int hj (by simpa using g4);simp at a0 a1 a3 a4;subst a0 a1 a3 a4;exact ⟨⟨b, k, vk, vn⟩, bd_i64 wvn, rfl⟩
theorem txn_cells2 {fuel : Nat} {t ti tl : TypeId} {f0 f1 f2 : Field} {cs : List Value} {x : DataW H × List MemPlace}
  (hs : P.underlying t = some (.struct #[f0, f1, f2])) (hC : P.cellsOf t = 3) (hi : P.underlying ti = some (.int .i64)) (ci : P.cellsOf ti = 1) (cl : P.cellsOf tl = 1)
  (e0 : f0.type = ti ∧ f0.offset = 0) (e1 : f1.type = ti ∧ f1.offset = 1) (e2 : f2.type = tl ∧ f2.offset = 2)
  (ops : ∀ fuel' cs' x', DataW.trod enc P w 0 (fun _ => true) true fuel' tl cs' = some x' → ∃ (A : Option Addr) (n c : Nat) (l : List Op4), cs' = [.slice A n c] ∧ n ≤ c ∧ c ≤ maxLen ∧ l.length = n ∧ (∀ y ∈ l, OpI y) ∧ Row w w.heap.size A (l.flatMap Op4.c))
  (h : DataW.trod enc P w 0 (fun _ => true) true fuel t cs = some x) : ∃ y : TxA, (TxOk w w.heap.size y ∧ ∀ x ∈ y.t.ops, OpI x) ∧ cs = y.c := by
 obtain ⟨xs, n, _, rfl, hl, hlen, hf⟩ := DataW.trod_struct hs h;rw [hC] at hl
 match cs, hl with
 | [c0, c1, c2], _ =>
  have h0 := hf 0 f0 rfl;have h1 := hf 1 f1 rfl;have h2 := hf 2 f2 rfl;rw [e0.1, e0.2, ci] at h0;rw [e1.1, e1.2, ci] at h1;rw [e2.1, e2.2, cl] at h2
  match xs, hlen with
  | [y0, y1, y2], _ =>
   obtain ⟨s, a0, -, -⟩ := DataW.trod_int hi (by simpa using h0);obtain ⟨f, a1, -, -⟩ := DataW.trod_int hi (by simpa using h1);obtain ⟨A, m, c, l, a2, hle, hcm, hll, hQ, hR⟩ := ops _ _ _ (by simpa using h2);simp at a0 a1 a2;subst a0 a1 a2 hll;exact ⟨⟨⟨s, f, l⟩, A, c⟩, ⟨⟨hR, hle, hcm⟩, hQ⟩, rfl⟩
theorem open_hist2 {r : Reach} {b0 : Nat} {t ts te tt tx ti tl tq tb tv tj : TypeId} {f0 f1 f2 x0 x1 x2 o0 o1 o2 g0 g1 : Field} {v : Value} {d : DataW H} {p : List MemPlace}
  (hs : P.underlying t = some (.struct #[f0, f1, f2])) (hC : P.cellsOf t = 3) (hts : P.underlying ts = some (.slice te)) (hte : P.underlying te = some .string) (cte : P.cellsOf te = 1) (cts : P.cellsOf ts = 1)
  (htt : P.underlying tt = some (.slice tx)) (ctt : P.cellsOf tt = 1) (hx : P.underlying tx = some (.struct #[x0, x1, x2])) (hCx : P.cellsOf tx = 3) (hi : P.underlying ti = some (.int .i64)) (ci : P.cellsOf ti = 1)
  (htl : P.underlying tl = some (.slice tq)) (ctl : P.cellsOf tl = 1) (hos : P.underlying tq = some (.struct #[o0, o1, o2])) (hvs : P.underlying tv = some (.struct #[g0, g1])) (hCo : P.cellsOf tq = 4)
  (hb : P.underlying tb = some .bool) (hj : P.underlying tj = some (.int .i64)) (cb : P.cellsOf tb = 1) (cj : P.cellsOf tj = 1) (cv : P.cellsOf tv = 2)
  (e0 : f0.type = ts ∧ f0.offset = 0) (e1 : f1.type = ts ∧ f1.offset = 1) (e2 : f2.type = tt ∧ f2.offset = 2)
  (k0 : x0.type = ti ∧ x0.offset = 0) (k1 : x1.type = ti ∧ x1.offset = 1) (k2 : x2.type = tl ∧ x2.offset = 2)
  (m0 : o0.type = tb ∧ o0.offset = 0) (m1 : o1.type = ti ∧ o1.offset = 1) (m2 : o2.type = tv ∧ o2.offset = 2) (q0 : g0.type = ti ∧ g0.offset = 0) (q1 : g1.type = tj ∧ g1.offset = 1)
  (hv : Value.okWide P w r b0 t v) (h : DataW.Trod enc P w 0 (fun _ => true) true t v d p) :
  ∃ (A0 A1 A2 : Option Addr) (c0 c1 c2 : Nat) (g : Hst), v = hval A0 A1 A2 g.ss.length g.ks.length g.l.length c0 c1 c2 ∧ HAt w w.heap.size A0 A1 A2 g ∧ g.ss.length ≤ maxLen ∧ g.ks.length ≤ maxLen ∧ g.l.length ≤ maxLen ∧ (∀ z ∈ g.ss, z.size ≤ maxLen) ∧ (∀ z ∈ g.ks, z.size ≤ maxLen) ∧ ∀ t ∈ g.l, ∀ x ∈ t.ops, OpI x := by
 obtain ⟨cs, rfl, hsz⟩ := okWide_struct hs hv;obtain ⟨fuel, hf0⟩ := h;have strs1 : ∀ fuel' cs' x', DataW.trod enc P w 0 (fun _ => true) true fuel' te cs' = some x' → ∃ y : ByteArray, y.size ≤ maxLen ∧ cs' = [.string y] := fun fuel' cs' x' h => by
  obtain ⟨s, a, -, ws⟩ := DataW.trod_string hte h;exact ⟨s, ws, a⟩
 have ops1 := fun fuel' cs' x' (h : DataW.trod enc P w 0 (fun _ => true) true fuel' tl cs' = some x') => row_of Op4.c 4 (fun _ => rfl) (by omega) OpI htl hCo (fun _ _ _ h => op_cells2 hos hvs hCo hb hi hj cb ci cj cv m0 m1 m2 q0 q1 h) h;obtain ⟨xs, n, _, hxx, hl, hlen, hf⟩ := DataW.trod_struct hs hf0;rw [hC] at hl;have hcells : (Value.agg cs).cells.toList = cs.toList := by simp [Value.cells]
 rw [hcells] at hl hf
 match hcs : cs.toList, hl with
 | [c0, c1, c2], _ =>
  rw [hcs] at hf;have h0 := hf 0 f0 rfl;have h1 := hf 1 f1 rfl;have h2 := hf 2 f2 rfl;rw [e0.1, e0.2, cts] at h0;rw [e1.1, e1.2, cts] at h1;rw [e2.1, e2.2, ctt] at h2
  match xs, hlen with
  | [y0, y1, y2], _ =>
   obtain ⟨A0, n0, d0, z0, a0, l0, m0', hn0, hz0, r0⟩ := row_of (fun s : ByteArray => [Value.string s]) 1 (fun _ => rfl) (by omega) (fun s => s.size ≤ maxLen) hts cte strs1 (by simpa using h0);obtain ⟨A1, n1, d1, z1, a1, l1, m1', hn1, hz1, r1⟩ := row_of (fun s : ByteArray => [Value.string s]) 1 (fun _ => rfl) (by omega) (fun s => s.size ≤ maxLen) hts cte strs1 (by simpa using h1);obtain ⟨A2, n2, d2, z2, a2, l2, m2', hn2, hz2, r2⟩ := row_of TxA.c 3 (fun _ => rfl) (by omega) (fun y => TxOk w w.heap.size y ∧ ∀ x ∈ y.t.ops, OpI x) htt hCx (fun _ _ _ h => txn_cells2 hx hCx hi ci ctl k0 k1 k2 ops1 h) (by simpa using h2);simp at a0 a1 a2;subst a0 a1 a2;have fs : ∀ l : List ByteArray, l.flatMap (fun s => [Value.string s]) = strs l := fun l => by
    induction l with
    | nil => rfl
    | cons x l ih => rw [List.flatMap_cons, ih]; rfl
   rw [fs] at r0 r1;refine ⟨A0, A1, A2, d0, d1, d2, ⟨z0, z1, z2.map TxA.t⟩, ?_, ⟨r0, r1, z2, rfl, r2, fun x hx => (hz2 x hx).1⟩, by rw [hn0]; exact Nat.le_trans l0 m0', by rw [hn1]; exact Nat.le_trans l1 m1', by rw [List.length_map, hn2]; exact Nat.le_trans l2 m2', hz0, hz1, fun t ht => by
    obtain ⟨x, hx, rfl⟩ := List.mem_map.1 ht;exact (hz2 x hx).2⟩
   have e : cs = #[.slice A0 n0 d0, .slice A1 n1 d1, .slice A2 n2 d2] := by
    apply Array.toList_inj.1
    rw [hcs]
   unfold hval;dsimp only;rw [e, hn0, hn1, List.length_map, hn2]
end
end Go.Proofs.YtbiclliooidkjaaGreatDoor
namespace Go.Proofs.YtbiclliooidkjaaGreatDoor
open Go.RowKit Go.ChangeShapes Go.WideShapes
section
variable {H : Type} {enc : TypeId × Value → H} {P : Program} {w : World}
open Go.Deep
end
section
variable {H : Type} {enc : TypeId × Value → H} {P : Program} {w : World}
end
end Go.Proofs.YtbiclliooidkjaaGreatDoor


namespace Go.Proofs.YtbiclliooidkjaaGreatDoor
open Go.RowKit
open Go.Lib hiding intOf
attribute [local go_sem ↓] Go.wp_at_zero Go.wp_at_succ
@[reducible] def ValT : Type := {a : Int × Int // mayP a = true}
theorem val_0 : mayP (0, 0) = true := by decide
def HasBlk (w : World) (g : Nat) (t : TypeId) (k : Nat) : Prop := ∃ cs, Blk w g t cs ∧ cs.size = k
theorem HasBlk.modify {w : World} {g : Nat} {t : TypeId} {k : Nat} (h : HasBlk w g t k) {w' : World} (f : Array Value → Array Value) (hf : ∀ cs, (f cs).size = cs.size) (he : w'.heap[g]? = (w.heap.modify g (Go.Sort.onCells f))[g]?) : HasBlk w' g t k := by
 obtain ⟨cs, hb, hs⟩ := h;unfold Blk at hb;rw [Array.getElem?_modify, if_pos rfl, hb] at he;exact ⟨_, he, by rw [hf]; exact hs⟩
theorem HasBlk.setCells {w : World} {g : Nat} {t : TypeId} {n : Nat} (h : HasBlk w g t n) : ∀ (vs : List Value) (o : Nat), HasBlk (w.setCells g o vs) g t n
 | [], _ => h
 | v :: vs, o => by
  obtain ⟨cs, hb, hs⟩ := h;exact HasBlk.setCells (w := w.setCell ⟨g, o, none⟩ v) ⟨_, hb.put o v, by simpa using hs⟩ vs (o + 1)
end Go.Proofs.YtbiclliooidkjaaGreatDoor
namespace Go.Proofs.YtbiclliooidkjaaGreatDoor
open Go.RowKit Go.Sort
open Go.Lib hiding intOf
attribute [local go_sem ↓] Go.wp_at_zero Go.wp_at_succ


end Go.Proofs.YtbiclliooidkjaaGreatDoor
namespace Go.Proofs.YtbiclliooidkjaaGreatDoor
open Go.RowKit
open Go.Lib hiding intOf
attribute [local go_sem ↓] Go.wp_at_zero Go.wp_at_succ



end Go.Proofs.YtbiclliooidkjaaGreatDoor
namespace Go.Proofs.YtbiclliooidkjaaGreatDoor
open Go.RowKit Go.Shelf
open Go.Lib hiding intOf
attribute [local go_sem] Oper.semAt_some
def NWf (n : Int) : Prop := (Lit.int .i64 n).wf = true
def HasN (D : DataW Unit) (p : Int → Bool) : Prop := ∀ n, NWf n → Maps.has D (.int .i64 n) = p n
def hitP (key : Int) (pre : List Pl) (n : Int) : Bool := pre.any fun x => hitN key n x.2.2
theorem HasN.nil (key : Int) : HasN (.map []) (hitP key []) := fun n _ => by simp [Maps.has, hitP]
theorem hitP_snoc (key : Int) (pre : List Pl) (x : Pl) (n : Int) : hitP key (pre ++ [x]) n = (hitP key pre n || hitN key n x.2.2) := by simp [hitP]
theorem HasN.put {D : DataW Unit} {key : Int} {pre : List Pl} (h : HasN D (hitP key pre)) (hD : Maps.IsMap D) {x : Pl} (hw : x.2.2.wr = true) (hk : x.2.2.key = key) (d : DataW Unit) : HasN (D.put (.int .i64 x.2.2.vn) d) (hitP key (pre ++ [x])) := fun n hn => by
 rw [hitP_snoc];unfold hitN;rw [hw, hk]
 by_cases e : x.2.2.vn = n
 ·subst e;rw [Maps.has_put_same hD (by trivial : WideAt.IsKeyLit (.int .i64 x.2.2.vn))];simp
 ·rw [Maps.has_put_other (by intro q; cases q; exact e rfl), h n hn];simp [e]
theorem HasN.skip {D : DataW Unit} {key : Int} {pre : List Pl} (h : HasN D (hitP key pre)) {x : Pl} (hx : (x.2.2.wr && decide (x.2.2.key = key)) = false) : HasN D (hitP key (pre ++ [x])) := fun n hn => by
 rw [hitP_snoc, h n hn];unfold hitN;rw [← Bool.and_assoc, hx];simp
end Go.Proofs.YtbiclliooidkjaaGreatDoor
namespace Go.Proofs.YtbiclliooidkjaaGreatDoor
open Go.RowKit
open Go.Lib hiding intOf
attribute [local go_sem ↓] Go.wp_at_zero Go.wp_at_succ

end Go.Proofs.YtbiclliooidkjaaGreatDoor
