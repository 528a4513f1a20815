/- Parts. -/
import Derived.Test.YtjfbeeogiejopaaGreatDoorWorldNextCardK14
import Derived.Maps.RangeWalk
import Derived.DeepKeys4
import Derived.ChangeSame
import Derived.Shelf.SlSortCmp.WholeK
import Derived.Lib.SliceRun
import Derived.Deep.LoopGhost
set_option maxRecDepth 10000
set_option maxHeartbeats 16000000
set_option linter.unusedVariables false
set_option linter.unusedSimpArgs false
namespace Go.Proofs.YtjfbeeogiejopaaGreatDoor
open Go.RowKit
open Go.Lib hiding intOf
attribute [local go_sem ↓] Go.wp_at_zero Go.wp_at_succ
theorem errH_yes {h : Hst} (hm : mayH h = true) : errH h = 0 := by unfold errH; rw [hm]; rfl
theorem errH_not {h : Hst} (hm : mayH h = false) : errH h = 4 := by unfold errH; rw [hm]; rfl
theorem forT_own {a key : Int} {i : Nat} {t : Tx} (h : (i : Int) = a) : forT a key i t = none := by unfold forT; rw [if_pos (.inl h)]
theorem forT_fail {a key : Int} {i : Nat} {t : Tx} (h : t.f = 2) : forT a key i t = none := by unfold forT; rw [if_pos (.inr h)]
theorem forT_left {a key : Int} {i : Nat} {t : Tx} (h : (i : Int) ≠ a) (h2 : t.f ≠ 2) : forT a key i t = leftW key t.ops := by unfold forT; rw [if_neg (fun e => e.elim h h2)]
theorem kforread_any (A0 A1 A2 : Option Addr) (n0 n1 n2 c0 c1 c2 B : Nat) (h : Hst) (a b key : Int) (i : Nat) (t : Tx) (w : World) (hg : HIn w B A0 A1 A2 n0 n1 n2 h) (ht : h.l[i]? = some t) :
  Calls Tryz.prog 40 #[hval A0 A1 A2 n0 n1 n2 c0 c1 c2, .agg #[.int .i64 a, .int .i64 b], .int .i64 (i : Int), .int .i64 key] w fun e w' => e = .returned (optT (forT a key i t)) ∧ Only [] w w' := by
 obtain ⟨bl, off, A', cp, rfl, -, hbw, hT, hX⟩ := hg.at_.r2.at_ ht;have hno := hg.sm.no t (List.mem_of_getElem? ht);have hi2 : i < n2 := by rw [← hg.n2]; exact (List.getElem?_eq_some_iff.1 ht).1
 have HLF := Hd (fun w' (O : Only [] w w') => left_any A' _ cp B t.ops key w' (hX.row.only O (by simp)) rfl hno);unfold hval;clear hg ht hX;have HO1 := Hd ((((Only.refl [] w).alloc (.cells #[.slice A0 n0 c0, .slice A1 n1 c1, .slice (some ⟨bl, off, none⟩) n2 c2] 25)).alloc (.cells #[.int .i64 a, .int .i64 b] 27)).alloc (.cells #[.int .i64 0, .int .i64 0] 38));have HB1 := Hd (((Blk.made w 25 #[.slice A0 n0 c0, .slice A1 n1 c1, .slice (some ⟨bl, off, none⟩) n2 c2]).alloc (.cells #[.int .i64 a, .int .i64 b] 27)).alloc (.cells #[.int .i64 0, .int .i64 0] 38));have HP1 := Hd ((Blk.made (w.alloc (.cells #[.slice A0 n0 c0, .slice A1 n1 c1, .slice (some ⟨bl, off, none⟩) n2 c2] 25)) 27 #[.int .i64 a, .int .i64 b]).alloc (.cells #[.int .i64 0, .int .i64 0] 38));have HR1 := Hd (Blk.made ((w.alloc (.cells #[.slice A0 n0 c0, .slice A1 n1 c1, .slice (some ⟨bl, off, none⟩) n2 c2] 25)).alloc (.cells #[.int .i64 a, .int .i64 b] 27)) 38 #[.int .i64 0, .int .i64 0]);simp only [World.size_alloc] at HP1 HR1;have HTX := Hd (hT.only HO1.out hbw (by simp));have hi0 : (0 : Int) ≤ (i : Int) := Int.natCast_nonneg _;have hi2' : (i : Int) < (n2 : Int) := by omega
 clear hT;go_enter Tryz.func40, Tryz.ntmps40;go_upto_region 1 with (fail)
 have hsz := HO1.out.size;generalize (((w.alloc (.cells #[.slice A0 n0 c0, .slice A1 n1 c1, .slice (some ⟨bl, off, none⟩) n2 c2] 25)).alloc (.cells #[.int .i64 a, .int .i64 b] 27)).alloc (.cells #[.int .i64 0, .int .i64 0] 38)) = w1 at *;generalize hgr : w.heap.size + 1 + 1 = gr at *;generalize hgp : w.heap.size + 1 = gp at *;generalize hgg : w.heap.size = g at *;have hbr : bl < w1.heap.size := by omega
 have lB := HB1.out.lt;have y2 := HB1.out.at_ 2;have lP := HP1.out.lt;have p0 := HP1.out.at_ 0;simp at y2 p0;have x1 := HTX.out.c1;have x2 := HTX.out.c2;dsimp only at x1 x2
 by_cases q1 : (i : Int) = a
 ·have HE := Hd (forT_own (key := key) (t := t) q1);have d1 : ((i : Int) == a) = true := by simpa using q1
  clear q1;go_wp2_with (refine wpList_store_blk rfl 38 (.tmp 8) (.tmp 23) rfl gr 38 _ #[.int .i64 0, .int .i64 0] rfl rfl HR1.out rfl (by kernel_rfl) (by kernel_rfl) ?_; intro w9 b9 o9; have HB9 := Hd b9; have HN9 := Hd o9; clear b9 o9)
  refine bodyPost_ret (results_row2 Tryz.results40 _ _ gr 38 #[.int .i64 0, .int .i64 0] _ rfl HB9.out Tryz.underlying38 rfl (by kernel_rfl)) rfl ?_;exact ⟨by rw [HE.out]; rfl, HO1.out.step HN9.out (fun i hi hl => by simp at hi; omega)⟩
 ·have d1 : ((i : Int) == a) = false := by simpa using q1
  by_cases q2 : t.f = 2
  ·have HE := Hd (forT_fail (a := a) (key := key) (i := i) q2);have d2 : (t.f == 2) = true := by simpa using q2
   generalize htf : t.f = tf at *;clear q1 q2;go_wp2_with (refine wpList_store_blk rfl 38 (.tmp 8) (.tmp 23) rfl gr 38 _ #[.int .i64 0, .int .i64 0] rfl rfl HR1.out rfl (by kernel_rfl) (by kernel_rfl) ?_; intro w9 b9 o9; have HB9 := Hd b9; have HN9 := Hd o9; clear b9 o9)
   refine bodyPost_ret (results_row2 Tryz.results40 _ _ gr 38 #[.int .i64 0, .int .i64 0] _ rfl HB9.out Tryz.underlying38 rfl (by kernel_rfl)) rfl ?_;exact ⟨by rw [HE.out]; rfl, HO1.out.step HN9.out (fun i hi hl => by simp at hi; omega)⟩
  ·have HE := Hd (forT_left (key := key) q1 q2);have d2 : (t.f == 2) = false := by simpa using q2
   have HF := Hd (HLF.out _ HO1.out);generalize leftW key t.ops = v at *;generalize htf : t.f = tf at *;generalize t.ops.length = m at *;clear q1 q2;go_wp2_with fail
   refine (HF.out).mono ?_;rintro e w3 ⟨rfl, O3⟩;have HO3 := Hd (HO1.out.trans O3);have HR3 := Hd (O3.blk HR1.out (by simp));unfold optT optV;clear O3;go_wp2_with (refine wpList_store_blk rfl 38 (.tmp 8) (.tmp 32) rfl gr 38 _ #[.int .i64 (v.getD (0, 0)).1, .int .i64 (v.getD (0, 0)).2] rfl rfl HR3.out rfl (by kernel_rfl) (by kernel_rfl) ?_; intro w9 b9 o9; have HB9 := Hd b9; have HN9 := Hd o9; clear b9 o9)
   refine bodyPost_ret (results_row2 Tryz.results40 _ _ gr 38 #[.int .i64 (v.getD (0, 0)).1, .int .i64 (v.getD (0, 0)).2] _ rfl HB9.out Tryz.underlying38 rfl (by kernel_rfl)) rfl ?_;exact ⟨by rw [HE.out]; rfl, HO3.out.step HN9.out (fun i hi hl => by simp at hi; omega)⟩


end Go.Proofs.YtjfbeeogiejopaaGreatDoor
namespace Go.Proofs.YtjfbeeogiejopaaGreatDoor
open Go.RowKit
section
variable {H : Type} {P : Program} {w w' : World} {k : TypeId} {R : Value → Option (DataW H × List MemPlace)} {b n r : Nat} {D : DataW H} {S : List Nat}
theorem ownsMap_blt (h : w.ownsMap P k R b n D) : b < w.heap.size := by
 obtain ⟨es, clock, h1, -⟩ := h;exact (Array.getElem?_eq_some_iff.1 h1).1
theorem ownsMap_only (h : w.ownsMap P k R b n D) (ho : Only S w w') (hb : b ∉ S) : w'.ownsMap P k R b n D := by
 have hlt := ownsMap_blt h;obtain ⟨es, clock, h1, h2⟩ := h;exact ⟨es, clock, (ho.keeps b hlt hb).trans h1, h2⟩
theorem ownsMap_blk (h : w.ownsMap P k R b n D) {g : Nat} {t : TypeId} {cs : Array Value} (hb : Blk w g t cs) : g ≠ b := by
 rintro rfl;obtain ⟨es, clock, h1, -⟩ := h;rw [show w.heap[g]? = _ from hb] at h1
 cases h1
theorem ownsMap_own (h : w.ownsMap P k R b n D) {base : Nat} {t : TypeId} {sz m : Nat} {v : Value} {xs : List Value} (hr : w.ownsRow base t sz v m xs) : b ∉ v.ownBlock.toList := by
 intro hm
 cases hv : v.ownBlock with
 | none => rw [hv] at hm; cases hm
 | some g =>
  rw [hv] at hm;obtain ⟨cur, hb⟩ := own_blk hr hv;have := ownsMap_blk h hb;simp at hm;omega
variable {left : Lit → Bool} {cnt : Nat}
theorem ranges_lt (h : w.ranges P k R b r n D left cnt) : b < w.heap.size ∧ r < w.heap.size := by
 obtain ⟨es, clock, since, seen, c0, h1, -, -, -, h5, -⟩ := h;exact ⟨(Array.getElem?_eq_some_iff.1 h1).1, (Array.getElem?_eq_some_iff.1 h5).1⟩
theorem ranges_only (h : w.ranges P k R b r n D left cnt) (ho : Only S w w') (hb : b ∉ S) (hr : r ∉ S) : w'.ranges P k R b r n D left cnt := by
 have hlt := ranges_lt h;obtain ⟨es, clock, since, seen, c0, h1, h2, h3, h4, h5, h6⟩ := h;exact ⟨es, clock, since, seen, c0, (ho.keeps b hlt.1 hb).trans h1, h2, h3, h4, (ho.keeps r hlt.2 hr).trans h5, h6⟩
theorem ranges_blk (h : w.ranges P k R b r n D left cnt) {g : Nat} {t : TypeId} {cs : Array Value} (hb : Blk w g t cs) : g ≠ b ∧ g ≠ r := by
 refine ⟨ownsMap_blk h.owns hb, ?_⟩;rintro rfl;obtain ⟨es, clock, since, seen, c0, h1, -, -, -, h5, -⟩ := h;rw [show w.heap[g]? = _ from hb] at h5
 cases h5
theorem ranges_own (h : w.ranges P k R b r n D left cnt) {base : Nat} {t : TypeId} {sz m : Nat} {v : Value} {xs : List Value} (hr : w.ownsRow base t sz v m xs) : b ∉ v.ownBlock.toList ∧ r ∉ v.ownBlock.toList := by
 refine ⟨ownsMap_own h.owns hr, fun hm => ?_⟩
 cases hv : v.ownBlock with
 | none => rw [hv] at hm; cases hm
 | some g =>
  rw [hv] at hm;obtain ⟨cur, hb⟩ := own_blk hr hv;have := (ranges_blk h hb).2;simp at hm;omega
end
theorem wpList_insert_own {H : Type} {P : Program} (w : World) {ops : Array Oper} {rest : List Oper} {o : Oper} {a : Act} {Q : Exit → Act → World → Prop}
  (hg : o.guard = none) (m x v : Operand) (t : TypeId) (hop : o.op = Op.insert t m x v)
  (k e : TypeId) (K : Go.Maps.Keyed P k) (ht : P.underlying t = some (.map k e)) (R : Value → Option (DataW H × List MemPlace)) (b n : Nat) (D : DataW H)
  (hm : a.eval m = .map (some b)) (hown : w.ownsMap P k R b n D) (hn : n < maxLen) (key val : Value) (kl : Lit) (hx : a.eval x = key) (hv : a.eval v = val) (hkey : keyOf P k key = some kl)
  (d : DataW H) (ps : List MemPlace) (hval : R val = some (d, ps))
  (hK : ∀ w', w'.ownsMap P k R b (n + 1) (D.put kl d) → w.grownBy w' (some b) → wpList P ops Q rest (a.put o.dst undef) w') :
  wpList P ops Q (o :: rest) a w := by
 refine wpList_plain hg fun K' hK' => ?_;obtain ⟨w', hrun, r1, r2⟩ := hown.update K ht hn hkey hval;unfold Oper.wp;simp [execOp, hop, hm, hx, hv, hrun, Result.andThen];exact hK' _ _ (hK w' r1 r2)
abbrev V2 := Int × Int
def agV (v : V2) : Value := .agg #[.int .i64 v.1, .int .i64 v.2]
def VWf (v : V2) : Prop := (Lit.int .i64 v.1).wf = true ∧ (Lit.int .i64 v.2).wf = true
def kV (v : V2) : Lit := .string (keyBytes [.int .i64 v.1, .int .i64 v.2])
theorem val_row : (38 : TypeId) < Tryz.prog.types.size := of_decide_eq_true (by kernel_rfl)
theorem val_wide : (match Tryz.prog.underlying 38 with | some (.array _ _) | some (.struct _) => true | _ => false) = true := by rw [Tryz.underlying38]
theorem val_cells : Tryz.prog.cellsOf 38 = 2 := by kernel_rfl
theorem val_keyType : Tryz.prog.keyType 38 = true := by kernel_rfl
theorem val_one : Tryz.prog.cellsOf 3 = 1 ∧ Tryz.prog.cellsOf 2 = 1 := ⟨by kernel_rfl, by kernel_rfl⟩
theorem succ_of_lt {a b : Nat} (h : a < b) : ∃ m, b = m + 1 := ⟨b - 1, by omega⟩
theorem types_succ : ∃ m, Tryz.prog.types.size = m + 1 := succ_of_lt val_row
set_option maxRecDepth 100000 in
theorem law_val : Go.Maps.Keyed Tryz.prog 38 := Go.Maps.Keyed.of_law (deep_law_laid laidOut (m := 2) (by omega) val_row (by kernel_rfl) val_wide)
theorem lits_val {d : Nat} {cs : List Value} {L : List Lit} (h : Tryz.prog.keyLits (d + 1 + 1) 38 cs = some L) : ∃ v : V2, VWf v ∧ cs = [.int .i64 v.1, .int .i64 v.2] ∧ L = [.int .i64 v.1, .int .i64 v.2] := by
 unfold Program.keyLits at h;rw [Tryz.underlying38] at h;dsimp only at h
 split at h
 ·rename_i hl
  obtain ⟨hl, -⟩ := hl;rw [val_cells] at hl
  match cs, hl with
  | [x, y], _ =>
   simp only [List.toList_toArray, List.mapM_cons, List.mapM_nil, val_one.1, val_one.2] at h;unfold Program.keyLits at h;rw [Tryz.underlying3, Tryz.underlying2] at h
   cases x with
   | int q n =>
    cases y with
    | int q2 m =>
     simp at h
     by_cases h1 : q = .i64 ∧ (Lit.int .i64 n).wf = true
     ·by_cases h2 : q2 = .i64 ∧ (Lit.int .i64 m).wf = true
      ·obtain ⟨rfl, w1⟩ := h1;obtain ⟨rfl, w2⟩ := h2;simp [w1, w2] at h;exact ⟨(n, m), ⟨w1, w2⟩, rfl, h.symm⟩
      ·simp [h1.1, h1.2, h2] at h
     ·simp [h1] at h
    | _ => simp at h
   | _ => simp at h
 ·cases h
theorem key_val {v : V2} (h : VWf v) : keyOf Tryz.prog 38 (agV v) = some (kV v) := by
 obtain ⟨m, hm⟩ := types_succ;unfold keyOf agV kV;rw [Tryz.underlying38];dsimp only;rw [if_pos (by simp [val_keyType, Value.formed, Tryz.underlying38, val_cells]), hm];unfold Program.keyLits;rw [Tryz.underlying38];dsimp only;rw [if_pos (by rw [val_cells]; exact ⟨rfl, by simp⟩)];simp [val_one.1, val_one.2, Program.keyLits, Tryz.underlying3, Tryz.underlying2, h.1, h.2, Value.cells]
set_option maxRecDepth 100000 in
theorem key_inv {key : Value} {kl : Lit} (h : keyOf Tryz.prog 38 key = some kl) : ∃ v : V2, VWf v ∧ key = agV v ∧ kl = kV v := by
 obtain ⟨xs, L, rfl, hL, rfl⟩ := keyOf_top val_wide h;obtain ⟨m, hm⟩ := types_succ;rw [hm] at hL;obtain ⟨v, hv, hc, rfl⟩ := lits_val hL;exact ⟨v, hv, by unfold agV; congr 1; exact Array.ext' (by simpa using hc), rfl⟩
theorem kV_inj {u v : V2} (hu : VWf u) (hv : VWf v) (h : kV u = kV v) : u = v := by
 have := law_val.inj (key_val hu) (by rw [h]; exact key_val hv);unfold agV at this;simp at this;exact Prod.ext this.1 this.2
theorem kV_lit (v : V2) : WideAt.IsKeyLit (kV v) := by unfold kV; trivial
theorem kV_same {u v : V2} (hu : VWf u) (hv : VWf v) : (kV u).sameKey (kV v) = decide (u = v) := by
 by_cases h : u = v
 ·subst h;rw [decide_eq_true rfl];exact WideAt.sameKey_self (kV_lit u)
 ·rw [decide_eq_false h];exact Maps.sameKey_ne (fun e => h (kV_inj hu hv e))
def HasV (D : DataW Unit) (vs : List V2) : Prop := ∀ v, VWf v → (Maps.has D (kV v) = true ↔ v ∈ vs)
theorem HasV.nil : HasV (.map []) [] := fun v _ => by simp [Maps.has]
theorem HasV.put {D : DataW Unit} {vs : List V2} (h : HasV D vs) (hD : Maps.IsMap D) {u : V2} (hu : VWf u) (d : DataW Unit) : HasV (D.put (kV u) d) (vs ++ [u]) := fun v hv => by
 by_cases e : v = u
 ·subst e;simp [Maps.has_put_same hD (kV_lit v)]
 ·rw [Maps.has_put_other (fun q => e (kV_inj hv hu q)), h v hv];simp [e]
def MetV (D : DataW Unit) (left : Lit → Bool) (zs : List V2) : Prop := (∀ z ∈ zs, VWf z) ∧ ∀ v, VWf v → (v ∈ zs ↔ (Maps.has D (kV v) = true ∧ left (kV v) = false))
theorem MetV.start (D : DataW Unit) : MetV D (Maps.has D) [] := ⟨by simp, fun v hv => by cases Maps.has D (kV v) <;> simp⟩
theorem MetV.step {D : DataW Unit} {left : Lit → Bool} {zs : List V2} (h : MetV D left zs) {u : V2} (hu : VWf u) (hat : Maps.has D (kV u) = true) : MetV D (fun z => left z && !z.sameKey (kV u)) (zs ++ [u]) := by
 refine ⟨fun z hz => ?_, fun v hv => ?_⟩
 ·rcases List.mem_append.1 hz with hz | hz
  ·exact h.1 z hz
  ·simp at hz;subst hz;exact hu
 ·show _ ↔ (_ ∧ (left (kV v) && !(kV v).sameKey (kV u)) = false)
  rw [List.mem_append, h.2 v hv, kV_same hv hu]
  by_cases e : v = u
  ·subst e;simp [hat]
  ·simp [e]
theorem MetV.all {D : DataW Unit} {left : Lit → Bool} {zs vs : List V2} (h : MetV D left zs) (hD : HasV D vs) (hvs : ∀ v ∈ vs, VWf v) (hl : ∀ kl, left kl = false) : sortV zs = sortV vs := by
 refine sortV_unique (sortV_vals zs).1.1 fun y => ?_;rw [(sortV_vals zs).2]
 constructor
 ·rintro ⟨h1, h2⟩;exact ⟨(hD y (h.1 y h1)).1 ((h.2 y (h.1 y h1)).1 h1).1, h2⟩
 ·rintro ⟨h1, h2⟩;exact ⟨(h.2 y (hvs y h1)).2 ⟨(hD y (hvs y h1)).2 h1, hl _⟩, h2⟩
end Go.Proofs.YtjfbeeogiejopaaGreatDoor
namespace Go.Proofs.YtjfbeeogiejopaaGreatDoor
open Go.RowKit Go.ChangeShapes Go.WideShapes Go.ChangeAt Go.Joins Go.Deep
theorem list_ofG {α : Type} {Q : Nat → α → Prop} : ∀ {N : Nat}, (∀ k, k < N → ∃ z, Q k z) → ∃ zs : List α, zs.length = N ∧ ∀ k z, zs[k]? = some z → Q k z
 | 0, _ => ⟨[], rfl, fun k z h => by simp at h⟩
 | N + 1, h => by
  obtain ⟨zs, hl, hz⟩ := list_ofG (N := N) (fun k hk => h k (by omega));obtain ⟨z, hq⟩ := h N (by omega);refine ⟨zs ++ [z], by simp [hl], fun k y hy => ?_⟩;rcases Nat.lt_or_ge k zs.length with hk | hk
  ·rw [List.getElem?_append_left hk] at hy;exact hz k y hy
  ·rw [List.getElem?_append_right hk] at hy;have hk0 : k - zs.length = 0 := by
    cases hj : k - zs.length with
    | zero => rfl
    | succ j => rw [hj] at hy; simp at hy
   rw [hk0] at hy;simp at hy;subst hy;have : k = N := by omega
   subst this;exact hq
section
variable {H : Type} {enc : TypeId × Value → H} {P : Program} {w : World}
theorem row_of {α : Type} (f : α → List Value) (sz : Nat) (hf : ∀ x, (f x).length = sz) (hsz : 0 < sz) (Q : α → Prop) {t e : TypeId} {fuel : Nat} {cs : List Value} {x : DataW H × List MemPlace} (ht : P.underlying t = some (.slice e)) (hC : P.cellsOf e = sz)
  (each : ∀ fuel' cs' x', DataW.trod enc P w 0 (fun _ => true) true fuel' e cs' = some x' → ∃ y : α, Q y ∧ cs' = f y) (h : DataW.trod enc P w 0 (fun _ => true) true fuel t cs = some x) :
  ∃ (A : Option Addr) (n c : Nat) (l : List α), cs = [.slice A n c] ∧ n ≤ c ∧ c ≤ maxLen ∧ l.length = n ∧ (∀ y ∈ l, Q y) ∧ Row w w.heap.size A (l.flatMap f) := by
 rcases open_slice ht h with ⟨hcs, _⟩ | ⟨a, len, cap, m, n, D, Pl, hcs, _, hl, hm, hmm, _, hcell⟩
 ·exact ⟨none, 0, 0, [], hcs, Nat.le_refl _, by unfold maxLen; omega, rfl, (fun z hz => by cases hz), .inl rfl⟩
 ·simp only [if_true] at hmm;subst hmm;have each' : ∀ k, k < len → ∃ y : α, Q y ∧ ∀ i, i < sz → w.cell? (a.add (k * sz + i)) = (f y)[i]? := by
   intro k hk;obtain ⟨cs', hc, htr⟩ := hcell k (by omega);rw [hC] at hc;obtain ⟨y, hq, hcs'⟩ := each _ _ _ htr;obtain ⟨_, hcl, hat⟩ := World.cells?_some hc;refine ⟨y, hq, fun i hi => ?_⟩;have hk' : a.add (k * sz + i) = (a.add (k * sz)).add i := by rw [Go.Deep.add_add]
   rw [hk', hat i hi, hcs']
  obtain ⟨l, hll, hz⟩ := list_ofG each';refine ⟨some a, len, _, l, hcs, hl, hm, hll, fun z hzm => ?_, ?_⟩
  ·obtain ⟨k, hk⟩ := List.mem_iff_getElem?.1 hzm;exact (hz k z hk).1
  ·by_cases h0 : len = 0
   ·subst h0;have : l = [] := List.eq_nil_of_length_eq_zero hll;subst this;exact .inl rfl
   ·obtain ⟨x0, -, hx0⟩ := each' 0 (by omega);obtain ⟨u0, hu0⟩ : ∃ u, (f x0)[0]? = some u := ⟨_, List.getElem?_eq_getElem (by rw [hf]; exact hsz)⟩;have hz0 : w.cell? (a.add 0) = some u0 := by
     have := hx0 0 hsz;rw [hu0] at this
     simpa using this
    have hA : a.spot = none := by
     unfold World.cell? Addr.add at hz0
     cases hsp : a.spot with
     | none => rfl
     | some s =>
      rw [if_pos rfl] at hz0
      split at hz0
      ·simp [hsp] at hz0
      ·cases hz0
    obtain ⟨b, off, sp⟩ := a;simp only at hA;subst hA;have hb : b < w.heap.size := World.block_lt_of_cell? w _ (by simpa [Addr.add] using hz0);refine .inr ⟨b, off, rfl, hb, Nat.le_refl _, fun t u hu => ?_⟩;have hlt : t < (l.flatMap f).length := (List.getElem?_eq_some_iff.1 hu).1;rw [flat_len f sz hf] at hlt;have hts : t / sz < l.length := (Nat.div_lt_iff_lt_mul hsz).2 hlt;obtain ⟨x, hx⟩ : ∃ x, l[t / sz]? = some x := ⟨_, List.getElem?_eq_getElem hts⟩;have g := flat_get f sz hf l (t / sz) x hx (t % sz) (Nat.mod_lt _ hsz);have e : t / sz * sz + t % sz = t := by rw [Nat.mul_comm]; exact Nat.div_add_mod t sz
    rw [e, hu] at g;have h1 := (hz (t / sz) x hx).2 (t % sz) (Nat.mod_lt _ hsz);rw [e] at h1;have e' : (⟨b, off, none⟩ : Addr).add t = ⟨b, off + t, none⟩ := by
     unfold Addr.add
     split
     ·rename_i h; subst h; rfl
     ·rfl
    rw [e'] at h1;rw [h1];exact g.symm
end
def OpI (y : Op4) : Prop := -9223372036854775808 ≤ y.vn ∧ y.vn ≤ 9223372036854775807
section
variable {H : Type} {enc : TypeId × Value → H} {P : Program} {w : World}
theorem op_cells2 {fuel : Nat} {t ti tb tv tj : TypeId} {f0 f1 f2 g0 g1 : Field} {cs : List Value} {x : DataW H × List MemPlace}
  (hs : P.underlying t = some (.struct #[f0, f1, f2])) (hvs : P.underlying tv = some (.struct #[g0, g1])) (hC : P.cellsOf t = 4)
  (hb : P.underlying tb = some .bool) (hi : P.underlying ti = some (.int .i64)) (hj : P.underlying tj = some (.int .i64)) (cb : P.cellsOf tb = 1) (ci : P.cellsOf ti = 1) (cj : P.cellsOf tj = 1) (cv : P.cellsOf tv = 2)
  (e0 : f0.type = tb ∧ f0.offset = 0) (e1 : f1.type = ti ∧ f1.offset = 1) (e2 : f2.type = tv ∧ f2.offset = 2) (q0 : g0.type = ti ∧ g0.offset = 0) (q1 : g1.type = tj ∧ g1.offset = 1)
  (h : DataW.trod enc P w 0 (fun _ => true) true fuel t cs = some x) : ∃ y : Op4, OpI y ∧ cs = y.c := by
 obtain ⟨xs, n, _, rfl, hl, hlen, hf⟩ := DataW.trod_struct hs h;rw [hC] at hl
 match cs, hl with
 | [c0, c1, c2, c3], _ =>
  have h0 := hf 0 f0 rfl;have h1 := hf 1 f1 rfl;have h2 := hf 2 f2 rfl;rw [e0.1, e0.2, cb] at h0;rw [e1.1, e1.2, ci] at h1;rw [e2.1, e2.2, cv] at h2
  match xs, hlen with
  | [y0, y1, y2], _ =>
   obtain ⟨b, a0, -⟩ := DataW.trod_bool hb (by simpa using h0);obtain ⟨k, a1, -, wk⟩ := DataW.trod_int hi (by simpa using h1);obtain ⟨z0, z1, m, -, -, g3, g4⟩ := trod_struct2 hvs (by simpa using h2);rw [q0.1, q0.2, ci] at g3;rw [q1.1, q1.2, cj] at g4;obtain ⟨vk, a3, -, wvk⟩ := DataW.trod_int hi (by simpa using g3);obtain ⟨vn, a4, -, wvn⟩ := DataW.trod_int hj (by simpa using g4);simp at a0 a1 a3 a4;subst a0 a1 a3 a4;exact ⟨⟨b, k, vk, vn⟩, bd_i64 wvn, rfl⟩
theorem txn_cells2 {fuel : Nat} {t ti tl : TypeId} {f0 f1 f2 : Field} {cs : List Value} {x : DataW H × List MemPlace}
  (hs : P.underlying t = some (.struct #[f0, f1, f2])) (hC : P.cellsOf t = 3) (hi : P.underlying ti = some (.int .i64)) (ci : P.cellsOf ti = 1) (cl : P.cellsOf tl = 1)
  (e0 : f0.type = ti ∧ f0.offset = 0) (e1 : f1.type = ti ∧ f1.offset = 1) (e2 : f2.type = tl ∧ f2.offset = 2)
  (ops : ∀ fuel' cs' x', DataW.trod enc P w 0 (fun _ => true) true fuel' tl cs' = some x' → ∃ (A : Option Addr) (n c : Nat) (l : List Op4), cs' = [.slice A n c] ∧ n ≤ c ∧ c ≤ maxLen ∧ l.length = n ∧ (∀ y ∈ l, OpI y) ∧ Row w w.heap.size A (l.flatMap Op4.c))
  (h : DataW.trod enc P w 0 (fun _ => true) true fuel t cs = some x) : ∃ y : TxA, (TxOk w w.heap.size y ∧ ∀ x ∈ y.t.ops, OpI x) ∧ cs = y.c := by
 obtain ⟨xs, n, _, rfl, hl, hlen, hf⟩ := DataW.trod_struct hs h;rw [hC] at hl
 match cs, hl with
 | [c0, c1, c2], _ =>
  have h0 := hf 0 f0 rfl;have h1 := hf 1 f1 rfl;have h2 := hf 2 f2 rfl;rw [e0.1, e0.2, ci] at h0;rw [e1.1, e1.2, ci] at h1;rw [e2.1, e2.2, cl] at h2
  match xs, hlen with
  | [y0, y1, y2], _ =>
   obtain ⟨s, a0, -, -⟩ := DataW.trod_int hi (by simpa using h0);obtain ⟨f, a1, -, -⟩ := DataW.trod_int hi (by simpa using h1);obtain ⟨A, m, c, l, a2, hle, hcm, hll, hQ, hR⟩ := ops _ _ _ (by simpa using h2);simp at a0 a1 a2;subst a0 a1 a2 hll;exact ⟨⟨⟨s, f, l⟩, A, c⟩, ⟨⟨hR, hle, hcm⟩, hQ⟩, rfl⟩
theorem open_hist2 {r : Reach} {b0 : Nat} {t ts te tt tx ti tl tq tb tv tj : TypeId} {f0 f1 f2 x0 x1 x2 o0 o1 o2 g0 g1 : Field} {v : Value} {d : DataW H} {p : List MemPlace}
  (hs : P.underlying t = some (.struct #[f0, f1, f2])) (hC : P.cellsOf t = 3) (hts : P.underlying ts = some (.slice te)) (hte : P.underlying te = some .string) (cte : P.cellsOf te = 1) (cts : P.cellsOf ts = 1)
  (htt : P.underlying tt = some (.slice tx)) (ctt : P.cellsOf tt = 1) (hx : P.underlying tx = some (.struct #[x0, x1, x2])) (hCx : P.cellsOf tx = 3) (hi : P.underlying ti = some (.int .i64)) (ci : P.cellsOf ti = 1)
  (htl : P.underlying tl = some (.slice tq)) (ctl : P.cellsOf tl = 1) (hos : P.underlying tq = some (.struct #[o0, o1, o2])) (hvs : P.underlying tv = some (.struct #[g0, g1])) (hCo : P.cellsOf tq = 4)
  (hb : P.underlying tb = some .bool) (hj : P.underlying tj = some (.int .i64)) (cb : P.cellsOf tb = 1) (cj : P.cellsOf tj = 1) (cv : P.cellsOf tv = 2)
  (e0 : f0.type = ts ∧ f0.offset = 0) (e1 : f1.type = ts ∧ f1.offset = 1) (e2 : f2.type = tt ∧ f2.offset = 2)
  (k0 : x0.type = ti ∧ x0.offset = 0) (k1 : x1.type = ti ∧ x1.offset = 1) (k2 : x2.type = tl ∧ x2.offset = 2)
  (m0 : o0.type = tb ∧ o0.offset = 0) (m1 : o1.type = ti ∧ o1.offset = 1) (m2 : o2.type = tv ∧ o2.offset = 2) (q0 : g0.type = ti ∧ g0.offset = 0) (q1 : g1.type = tj ∧ g1.offset = 1)
  (hv : Value.okWide P w r b0 t v) (h : DataW.Trod enc P w 0 (fun _ => true) true t v d p) :
  ∃ (A0 A1 A2 : Option Addr) (c0 c1 c2 : Nat) (g : Hst), v = hval A0 A1 A2 g.ss.length g.ks.length g.l.length c0 c1 c2 ∧ HAt w w.heap.size A0 A1 A2 g ∧ g.ss.length ≤ maxLen ∧ g.ks.length ≤ maxLen ∧ g.l.length ≤ maxLen ∧ (∀ z ∈ g.ss, z.size ≤ maxLen) ∧ (∀ z ∈ g.ks, z.size ≤ maxLen) ∧ ∀ t ∈ g.l, ∀ x ∈ t.ops, OpI x := by
 obtain ⟨cs, rfl, hsz⟩ := okWide_struct hs hv;obtain ⟨fuel, hf0⟩ := h;have strs1 : ∀ fuel' cs' x', DataW.trod enc P w 0 (fun _ => true) true fuel' te cs' = some x' → ∃ y : ByteArray, y.size ≤ maxLen ∧ cs' = [.string y] := fun fuel' cs' x' h => by
  obtain ⟨s, a, -, ws⟩ := DataW.trod_string hte h;exact ⟨s, ws, a⟩
 have ops1 := fun fuel' cs' x' (h : DataW.trod enc P w 0 (fun _ => true) true fuel' tl cs' = some x') => row_of Op4.c 4 (fun _ => rfl) (by omega) OpI htl hCo (fun _ _ _ h => op_cells2 hos hvs hCo hb hi hj cb ci cj cv m0 m1 m2 q0 q1 h) h;obtain ⟨xs, n, _, hxx, hl, hlen, hf⟩ := DataW.trod_struct hs hf0;rw [hC] at hl;have hcells : (Value.agg cs).cells.toList = cs.toList := by simp [Value.cells]
 rw [hcells] at hl hf
 match hcs : cs.toList, hl with
 | [c0, c1, c2], _ =>
  rw [hcs] at hf;have h0 := hf 0 f0 rfl;have h1 := hf 1 f1 rfl;have h2 := hf 2 f2 rfl;rw [e0.1, e0.2, cts] at h0;rw [e1.1, e1.2, cts] at h1;rw [e2.1, e2.2, ctt] at h2
  match xs, hlen with
  | [y0, y1, y2], _ =>
   obtain ⟨A0, n0, d0, z0, a0, l0, m0', hn0, hz0, r0⟩ := row_of (fun s : ByteArray => [Value.string s]) 1 (fun _ => rfl) (by omega) (fun s => s.size ≤ maxLen) hts cte strs1 (by simpa using h0);obtain ⟨A1, n1, d1, z1, a1, l1, m1', hn1, hz1, r1⟩ := row_of (fun s : ByteArray => [Value.string s]) 1 (fun _ => rfl) (by omega) (fun s => s.size ≤ maxLen) hts cte strs1 (by simpa using h1);obtain ⟨A2, n2, d2, z2, a2, l2, m2', hn2, hz2, r2⟩ := row_of TxA.c 3 (fun _ => rfl) (by omega) (fun y => TxOk w w.heap.size y ∧ ∀ x ∈ y.t.ops, OpI x) htt hCx (fun _ _ _ h => txn_cells2 hx hCx hi ci ctl k0 k1 k2 ops1 h) (by simpa using h2);simp at a0 a1 a2;subst a0 a1 a2;have fs : ∀ l : List ByteArray, l.flatMap (fun s => [Value.string s]) = strs l := fun l => by
    induction l with
    | nil => rfl
    | cons x l ih => rw [List.flatMap_cons, ih]; rfl
   rw [fs] at r0 r1;refine ⟨A0, A1, A2, d0, d1, d2, ⟨z0, z1, z2.map TxA.t⟩, ?_, ⟨r0, r1, z2, rfl, r2, fun x hx => (hz2 x hx).1⟩, by rw [hn0]; exact Nat.le_trans l0 m0', by rw [hn1]; exact Nat.le_trans l1 m1', by rw [List.length_map, hn2]; exact Nat.le_trans l2 m2', hz0, hz1, fun t ht => by
    obtain ⟨x, hx, rfl⟩ := List.mem_map.1 ht;exact (hz2 x hx).2⟩
   have e : cs = #[.slice A0 n0 d0, .slice A1 n1 d1, .slice A2 n2 d2] := by
    apply Array.toList_inj.1
    rw [hcs]
   unfold hval;dsimp only;rw [e, hn0, hn1, List.length_map, hn2]
end
end Go.Proofs.YtjfbeeogiejopaaGreatDoor
namespace Go.Proofs.YtjfbeeogiejopaaGreatDoor
open Go.RowKit Go.ChangeShapes Go.WideShapes
def edgeC (h : List (Int × Int)) : List Value := h.flatMap fun e => [.int .i64 e.1, .int .i64 e.2]
theorem edgeC_len (h : List (Int × Int)) : (edgeC h).length = h.length * 2 := by
 induction h with
 | nil => rfl
 | cons e h ih => simp only [edgeC, List.flatMap_cons, List.length_append, List.length_cons, List.length_nil] at ih ⊢; omega
theorem edgeC_append (h k : List (Int × Int)) : edgeC (h ++ k) = edgeC h ++ edgeC k := by simp [edgeC]
theorem one_edgeC (h : List (Int × Int)) : ∀ u ∈ edgeC h, u.oneCell' = true := by
 intro u hu;simp only [edgeC, List.mem_flatMap, List.mem_cons, List.not_mem_nil, or_false] at hu;obtain ⟨e, _, rfl | rfl⟩ := hu <;> rfl
theorem edgeC_get (h : List (Int × Int)) (i : Nat) (e : Int × Int) (hi : h[i]? = some e) : (edgeC h)[i * 2]? = some (.int .i64 e.1) ∧ (edgeC h)[i * 2 + 1]? = some (.int .i64 e.2) := by
 induction h generalizing i with
 | nil => cases hi
 | cons x h ih =>
  cases i with
  | zero => simp at hi; subst hi; exact ⟨rfl, rfl⟩
  | succ i =>
   have := ih i (by simpa using hi);simp only [edgeC, List.flatMap_cons, List.cons_append, List.nil_append] at this ⊢;rw [show (i + 1) * 2 = i * 2 + 2 by omega, show i * 2 + 2 + 1 = (i * 2 + 1) + 2 by omega];exact this
section
variable {H : Type} {enc : TypeId × Value → H} {P : Program} {w : World}
open Go.Deep
end
section
variable {H : Type} {enc : TypeId × Value → H} {P : Program} {w : World}
end
end Go.Proofs.YtjfbeeogiejopaaGreatDoor
namespace Go.Proofs
open Go.Shelf
def Tryz.laysSortZ_ren : Go.Shelf.Ren := ⟨fun | 6 => 95 | 15 => 112 | 14 => 111 | 28 => 135 | 29 => 136 | 20 => 127 | 21 => 128 | 22 => 129 | 23 => 130 | 24 => 131 | 25 => 132 | 26 => 133 | 27 => 134 | 46 => 154 | 47 => 155 | 48 => 156 | 49 => 157 | 50 => 158 | 57 => 168 | n => n, fun | 22 => 33 | 24 => 38 | 25 => 124 | 3 => 3 | 39 => 145 | 0 => 0 | 53 => 180 | 55 => 182 | 4 => 4 | 46 => 174 | 45 => 173 | 50 => 166 | 5 => 5 | 9 => 9 | 66 => 204 | 70 => 208 | 76 => 218 | 77 => 170 | n => n, fun | n => n⟩
theorem Tryz.laysSortZ : Go.Proofs.SlLaysF0.n6 Tryz.prog Tryz.laysSortZ_ren := {
 mixed := by kernel_rfl
 f6 := ⟨Tryz.f95.name, by decide, Tryz.func95.trans (congrArg some (by kernel_rfl))⟩
 f14 := ⟨Tryz.f111.name, by decide, Tryz.func111.trans (congrArg some (by kernel_rfl))⟩
 f15 := Tryz.func112.trans (congrArg some (by kernel_rfl))
 f20 := ⟨Tryz.f127.name, by decide, Tryz.func127.trans (congrArg some (by kernel_rfl))⟩
 f21 := ⟨Tryz.f128.name, by decide, Tryz.func128.trans (congrArg some (by kernel_rfl))⟩
 f22 := ⟨Tryz.f129.name, by decide, Tryz.func129.trans (congrArg some (by kernel_rfl))⟩
 f23 := ⟨Tryz.f130.name, by decide, Tryz.func130.trans (congrArg some (by kernel_rfl))⟩
 f24 := ⟨Tryz.f131.name, by decide, Tryz.func131.trans (congrArg some (by kernel_rfl))⟩
 f25 := ⟨Tryz.f132.name, by decide, Tryz.func132.trans (congrArg some (by kernel_rfl))⟩
 f26 := ⟨Tryz.f133.name, by decide, Tryz.func133.trans (congrArg some (by kernel_rfl))⟩
 f27 := ⟨Tryz.f134.name, by decide, Tryz.func134.trans (congrArg some (by kernel_rfl))⟩
 f28 := Tryz.func135.trans (congrArg some (by kernel_rfl))
 f29 := Tryz.func136.trans (congrArg some (by kernel_rfl))
 f46 := ⟨Tryz.f154.name, by decide, Tryz.func154.trans (congrArg some (by kernel_rfl))⟩
 f47 := Tryz.func155.trans (congrArg some (by kernel_rfl))
 f48 := Tryz.func156.trans (congrArg some (by kernel_rfl))
 f49 := ⟨Tryz.f157.name, by decide, Tryz.func157.trans (congrArg some (by kernel_rfl))⟩
 f50 := ⟨Tryz.f158.name, by decide, Tryz.func158.trans (congrArg some (by kernel_rfl))⟩
 f57 := ⟨Tryz.f168.name, by decide, Tryz.func168.trans (congrArg some (by kernel_rfl))⟩
 t0 := Tryz.underlying0
 a0 := Tryz.isAgg0
 z0 := Tryz.sizeOf0
 v0 := Tryz.zeroValue0
 t3 := Tryz.underlying3
 a3 := Tryz.isAgg3
 z3 := Tryz.sizeOf3
 v3 := Tryz.zeroValue3
 t4 := Tryz.underlying4
 a4 := Tryz.isAgg4
 z4 := Tryz.sizeOf4
 v4 := Tryz.zeroValue4
 t5 := Tryz.underlying5
 a5 := Tryz.isAgg5
 z5 := Tryz.sizeOf5
 v5 := Tryz.zeroValue5
 t9 := Tryz.underlying9
 a9 := Tryz.isAgg9
 z9 := Tryz.sizeOf9
 v9 := Tryz.zeroValue9
 t22 := Tryz.underlying33
 a22 := Tryz.isAgg33
 z22 := Tryz.sizeOf33
 v22 := Tryz.zeroValue33
 t25 := Tryz.underlying124
 a25 := Tryz.isAgg124
 z25 := Tryz.sizeOf124
 v25 := Tryz.zeroValue124
 t39 := Tryz.underlying145
 a39 := Tryz.isAgg145
 z39 := Tryz.sizeOf145
 v39 := Tryz.zeroValue145
 t45 := Tryz.underlying173
 a45 := Tryz.isAgg173
 z45 := Tryz.sizeOf173
 v45 := Tryz.zeroValue173
 t46 := Tryz.underlying174
 a46 := Tryz.isAgg174
 z46 := Tryz.sizeOf174
 v46 := Tryz.zeroValue174
 t50 := Tryz.underlying166
 a50 := Tryz.isAgg166
 z50 := Tryz.sizeOf166
 v50 := Tryz.zeroValue166
 t53 := Tryz.underlying180
 a53 := Tryz.isAgg180
 z53 := Tryz.sizeOf180
 v53 := Tryz.zeroValue180
 t55 := Tryz.underlying182
 a55 := Tryz.isAgg182
 z55 := Tryz.sizeOf182
 v55 := Tryz.zeroValue182
 t66 := Tryz.underlying204
 a66 := Tryz.isAgg204
 z66 := Tryz.sizeOf204
 v66 := Tryz.zeroValue204
 t70 := Tryz.underlying208
 a70 := Tryz.isAgg208
 z70 := Tryz.sizeOf208
 v70 := Tryz.zeroValue208
 t76 := Tryz.underlying218
 a76 := Tryz.isAgg218
 z76 := Tryz.sizeOf218
 v76 := Tryz.zeroValue218
 t77 := Tryz.underlying170
 a77 := Tryz.isAgg170
 z77 := Tryz.sizeOf170
 v77 := Tryz.zeroValue170 }
end Go.Proofs
namespace Go.Proofs.YtjfbeeogiejopaaGreatDoor
open Go.RowKit
open Go.Lib hiding intOf
attribute [local go_sem ↓] Go.wp_at_zero Go.wp_at_succ
@[reducible] def ValT : Type := {a : Int × Int // mayP a = true}
theorem val_0 : mayP (0, 0) = true := by decide
def encT (x : ValT) : List Value := [.int .i64 x.1.1, .int .i64 x.1.2]
def cmpT (x y : ValT) : Int := cmpV x.1 y.1
theorem ltT_eq (x y : ValT) : ltOf cmpT x y = lessV x.1 y.1 := by
 unfold ltOf cmpT cmpV
 cases lessV x.1 y.1 with
 | true => simp
 | false => cases lessV y.1 x.1 <;> simp
theorem ltT_swo : Go.Sort.SWO (ltOf cmpT) where
 irrefl x := by rw [ltT_eq]; exact lessV_irr _
 trans x y z h1 h2 := by
  rw [ltT_eq] at *;exact lessV_trans h1 h2
 ntrans x y z h1 h2 := by
  rw [ltT_eq] at *
  cases h : lessV x.1 z.1 with
  | false => rfl
  | true =>
   cases h3 : lessV z.1 y.1 with
   | true =>
    have := lessV_trans h h3;rw [h1] at this
    cases this
   | false =>
    have e := lessV_total y.2 z.2 h2 h3;rw [e, h] at h1
    cases h1
theorem below_sortWorldK {α : Type} [Inhabited α] (enc : α → List Value) (k : Nat) {B : Nat} {a : World} (w : World) (blk off m : Nat) (dk : Array α) (os : Array Obj) (h : Below B a w) (hB : B ≤ blk) (hs : B ≤ w.heap.size) : Below B a (sortWorldK enc k w blk off m dk os) := by
 have hsz : (w.heap.modify blk (Go.Sort.onCells (Go.Sort.putCells id off (Go.Sort.flatK enc k dk)))).size = w.heap.size := by simp
 refine ⟨h.os, h.tape, h.output, Nat.le_trans h.size ?_, fun j hj => ?_⟩
 ·show _ ≤ (w.heap.modify blk (Go.Sort.onCells (Go.Sort.putCells id off (Go.Sort.flatK enc k dk))) ++ os).size
  rw [Array.size_append, hsz];omega
 ·show (w.heap.modify blk (Go.Sort.onCells (Go.Sort.putCells id off (Go.Sort.flatK enc k dk))) ++ os)[j]? = _
  rw [Array.getElem?_append_left (by rw [hsz]; omega), Array.getElem?_modify, if_neg (by omega)];exact h.block j hj
def HasBlk (w : World) (g : Nat) (t : TypeId) (k : Nat) : Prop := ∃ cs, Blk w g t cs ∧ cs.size = k
theorem HasBlk.modify {w : World} {g : Nat} {t : TypeId} {k : Nat} (h : HasBlk w g t k) {w' : World} (f : Array Value → Array Value) (hf : ∀ cs, (f cs).size = cs.size) (he : w'.heap[g]? = (w.heap.modify g (Go.Sort.onCells f))[g]?) : HasBlk w' g t k := by
 obtain ⟨cs, hb, hs⟩ := h;unfold Blk at hb;rw [Array.getElem?_modify, if_pos rfl, hb] at he;exact ⟨_, he, by rw [hf]; exact hs⟩
theorem HasBlk.sortWorldK {α : Type} [Inhabited α] (enc : α → List Value) (k : Nat) {w : World} {g : Nat} {t : TypeId} {n : Nat} (h : HasBlk w g t n) (off m : Nat) (dk : Array α) (os : Array Obj) : HasBlk (sortWorldK enc k w g off m dk os) g t n := by
 have hlt := h.elim fun cs hc => hc.1.lt;refine h.modify (Go.Sort.putCells id off (Go.Sort.flatK enc k dk)) (fun cs => by simp [Go.Sort.putCells]) ?_
 show (w.heap.modify g (Go.Sort.onCells (Go.Sort.putCells id off (Go.Sort.flatK enc k dk))) ++ os)[g]? = _
 rw [Array.getElem?_append_left (by simpa using hlt)]
theorem HasBlk.setCells {w : World} {g : Nat} {t : TypeId} {n : Nat} (h : HasBlk w g t n) : ∀ (vs : List Value) (o : Nat), HasBlk (w.setCells g o vs) g t n
 | [], _ => h
 | v :: vs, o => by
  obtain ⟨cs, hb, hs⟩ := h;exact HasBlk.setCells (w := w.setCell ⟨g, o, none⟩ v) ⟨_, hb.put o v, by simpa using hs⟩ vs (o + 1)
theorem vsortf_own (w0 w : World) (g cap n : Nat) (cur : Array Value) (fair : List (Int × Int)) (hl : fair.length = n) (hnm : ∀ b ∈ fair, mayP b = true) (hN : n ≤ 1000) (hb : Blk w g 38 cur) (ht : cur.toList.take (n * 2) = edgeC fair) (hg : w0.heap.size ≤ g) (h0 : Below w0.heap.size w0 w) :
  Calls Tryz.prog 95 #[.slice (some ⟨g, 0, none⟩) n cap, .func (.func 96) #[] #[]] w fun e w' => e = .returned (.tuple #[]) ∧ Below w0.heap.size w0 w' ∧ g < w'.heap.size ∧ (∀ t k, HasBlk w g t k → HasBlk w' g t k) ∧
   ∃ bs : List (Int × Int), bs.length = n ∧ bs.Perm fair ∧ bs.Pairwise (fun a b => lessV b a = false) ∧ ∀ j, j < n → w'.cell? ⟨g, j * 2, none⟩ = some (.int .i64 (bs.getD j (0, 0)).1) ∧ w'.cell? ⟨g, j * 2 + 1, none⟩ = some (.int .i64 (bs.getD j (0, 0)).2) ∧ w'.frozen? ⟨g, j * 2, none⟩ = false ∧ w'.frozen? ⟨g, j * 2 + 1, none⟩ = false := by
 letI : Inhabited ValT := ⟨⟨(0, 0), val_0⟩⟩
 obtain ⟨dl, hdl⟩ : ∃ dl : List ValT, dl.map (fun x : ValT => x.1) = fair := by
  refine ⟨fair.attach.map fun x => (⟨x.1, hnm x.1 x.2⟩ : ValT), ?_⟩;rw [List.map_map];exact List.attach_map_subtype_val fair
 have hdn : dl.length = n := by rw [← hl, ← hdl, List.length_map]
 have hk2 : ∀ x : ValT, (encT x).length = 2 := fun _ => rfl;have hget : ∀ j, j < n → ∀ e : List ValT, e.length = n → encT (e.toArray[j]!) = [.int .i64 ((e.map fun x : ValT => x.1).getD j (0, 0)).1, .int .i64 ((e.map fun x : ValT => x.1).getD j (0, 0)).2] := by
  intro j hj e he;rw [getElem!_pos e.toArray j (by simpa [he] using hj), List.getD_eq_getElem?_getD, List.getElem?_map, List.getElem?_eq_getElem (by omega)]
  rfl
 have hH : Go.Sort.HoldsK encT 2 w g 0 dl.toArray := by
  intro t ht2;have ht3 : t < n * 2 := by simpa [hdn] using ht2
  refine ⟨?_, hb.free _⟩;have hj : t / 2 < n := by omega
  have hfj : fair[t / 2]? = some (fair.getD (t / 2) (0, 0)) := by
   rw [List.getD_eq_getElem?_getD, List.getElem?_eq_getElem (by omega)]
   rfl
  have hE := edgeC_get fair (t / 2) _ hfj;rw [← ht, List.getElem?_take, List.getElem?_take, if_pos (by omega), if_pos (by omega), Array.getElem?_toList, Array.getElem?_toList] at hE
  show w.cell? ⟨g, 0 + t, none⟩ = some ((Go.Sort.flatK encT 2 dl.toArray)[t]!)
  rw [Go.Sort.get_flatK _ _ _ _ (by simpa [hdn] using ht3), hget (t / 2) hj dl hdn, hdl, hb.at_, Nat.zero_add];rcases Nat.mod_two_eq_zero_or_one t with h2 | h2
  ·rw [h2];have e : t / 2 * 2 = t := by omega
   rw [e] at hE;exact hE.1
  ·rw [h2];have e : t / 2 * 2 + 1 = t := by omega
   rw [e] at hE;exact hE.2
 have hlt := hb.lt;have hws : w0.heap.size ≤ w.heap.size := by omega
 have hcmp : CmpLays Tryz.prog 96 #[] encT 2 cmpT g 0 dl.toArray.size w := by
  intro m os dk hdk x y;have h := vcompare_ex x.1 y.1 (sortWorldK encT 2 w g 0 m dk os);have e : (#[.agg (encT x).toArray, .agg (encT y).toArray] ++ #[] : Array Value) = #[.agg #[.int .i64 x.1.1, .int .i64 x.1.2], .agg #[.int .i64 y.1.1, .int .i64 y.1.2]] := by simp [encT]
  rw [e];exact h.mono fun e w' ⟨he, hx⟩ => ⟨he, hx.grown⟩
 have h := AnyQ.slices_SortFunc Tryz.laysSortZ 2 (fun _ => by kernel_rfl) (fun _ => by kernel_rfl) encT hk2 (fun x v hv => by simp [encT] at hv; rcases hv with rfl | rfl <;> rfl) cmpT ltT_swo 96 #[] g 0 cap dl.toArray w (enters_of Tryz.func96 (by kernel_rfl) rfl) hcmp hH hlt (by simp [hdn]; omega);have hsz : dl.toArray.size = n := by simp [hdn]
 rw [hsz] at h;refine Calls.mono h ?_;rintro e w' ⟨rfl, d', q, os, ⟨hp1, -, hp2⟩, hso, rfl⟩;obtain ⟨ms⟩ := d';have hmn : ms.length = n := by simpa [hdn] using hp1
 have hx1 : (dl.toArray.extract 0 n).toList = dl := by simp [← hdn]
 have hx2 : ((Array.mk ms).extract 0 n).toList = ms := by simp [← hmn]
 rw [hx1, hx2] at hp2;refine ⟨rfl, ?_, ?_, fun t k hb => hb.sortWorldK encT 2 0 q _ os, ms.map (fun x : ValT => x.1), by rw [List.length_map, hmn], ?_, ?_, ?_⟩
 ·exact below_sortWorldK encT 2 w g 0 q _ os h0 hg hws
 ·exact Nat.lt_of_lt_of_le hlt (size_sortWorldK_c encT 2 w g 0 q _ os)
 ·rw [← hdl];exact hp2.map _
 ·rw [List.pairwise_map, List.pairwise_iff_getElem];intro i j hi hj hij;have h2 := hso i j (Nat.zero_le _) hij (by omega);rw [ltT_eq, getElem!_pos (Array.mk ms) i (by simpa using hi), getElem!_pos (Array.mk ms) j (by simpa using hj)] at h2;exact h2
 ·intro j hj;have hdk : (ms.toArray).size = dl.toArray.size := by simp [hmn, hdn]
  have hh : Go.Sort.HoldsK encT 2 (sortWorldK encT 2 w g 0 q ms.toArray os) g 0 ms.toArray := holdsK_sortWorldK_c encT 2 w g 0 dl.toArray ms.toArray q os hH hlt hdk;have h2 := hh.cell (i := j) (c := 0) (by simpa [hmn] using hj) (by omega);have h3 := hh.cell (i := j) (c := 1) (by simpa [hmn] using hj) (by omega);rw [hget j hj ms hmn, Nat.zero_add] at h2 h3;exact ⟨h2.1, h3.1, h2.2, h3.2⟩
end Go.Proofs.YtjfbeeogiejopaaGreatDoor
namespace Go.Proofs.YtjfbeeogiejopaaGreatDoor
open Go.RowKit Go.Sort
open Go.Lib hiding intOf
attribute [local go_sem ↓] Go.wp_at_zero Go.wp_at_succ
def encP (x : Int × Int) : List Value := [.int .i64 x.1, .int .i64 x.2]
theorem cellsP {w : World} {g : Nat} {d : Array (Int × Int)} (h : HoldsK encP 2 w g 0 d) {i : Nat} (hi : i < d.size) :
  w.cell? ⟨g, i * 2, none⟩ = some (.int .i64 (d[i]!).1) ∧ w.cell? ⟨g, i * 2 + 1, none⟩ = some (.int .i64 (d[i]!).2) ∧ w.frozen? ⟨g, i * 2, none⟩ = false ∧ w.frozen? ⟨g, i * 2 + 1, none⟩ = false := by
 have h0 := h.cell (i := i) (c := 0) hi (by omega);have h1 := h.cell (i := i) (c := 1) hi (by omega);rw [Nat.zero_add] at h0 h1;exact ⟨h0.1, h1.1, h0.2, h1.2⟩
theorem setMany_one (d : Array (Int × Int)) (i : Nat) (u : Int × Int) (hi : i < d.size) : setMany (flatK encP 2 d) (i * 2) (encP u) = flatK encP 2 (d.setIfInBounds i u) := by
 refine ext_get! (by simp) fun t ht => ?_;have ht' : t < d.size * 2 := by simpa using ht
 rw [get_setMany _ _ _ t (by simpa using ht'), get_flatK _ _ _ t ht', get_flatK _ _ _ t (by simpa using ht')]
 by_cases a : i * 2 ≤ t ∧ t < i * 2 + (encP u).length
 ·have hl : (encP u).length = 2 := rfl;rw [hl] at a;rw [if_pos (by rw [hl]; exact a), show t / 2 = i by omega, getElem!_set_same d i _ hi, show t - i * 2 = t % 2 by omega]
 ·have hl : (encP u).length = 2 := rfl;rw [hl] at a;rw [if_neg (by rw [hl]; exact a), getElem!_set_other d i (t / 2) _ (by omega)]
theorem store_worldP {w wr : World} {q g : Nat} {dk : Array (Int × Int)} {i : Nat} (hi : i < dk.size) (hwr : wr = putRowK encP 2 (Sort.ahead w q) g 0 dk) (u : Int × Int) :
  wr.setCells g (i * 2) (encP u) = putRowK encP 2 (Sort.ahead w q) g 0 (dk.setIfInBounds i u) := by
 subst hwr;unfold putRowK;have h := setCells_putRow (Sort.ahead w q) g 0 (encP u) (i * 2) (flatK encP 2 dk) (by rw [size_flatK]; show i * 2 + 2 ≤ _; omega);rw [Nat.zero_add] at h;rw [h, setMany_one dk i u hi]
theorem run_clear2 {P : Program} (w : World) (t e ty : TypeId) (z z0 z1 : Value) (ht : P.underlying t = some (.slice e)) (hv : ∀ w, (zeroValue e).run P w = .ok z w) (hz : z.cells = #[z0, z1]) (h0 : z0.oneCell' = true) (h1 : z1.oneCell' = true) (b o n c : Nat) (hn : 0 < n)
  (hc : ∀ j, j < n * 2 → (w.cell? ⟨b, o + j, none⟩).isSome = true) (hf : ∀ j, j < n * 2 → w.frozen? ⟨b, o + j, none⟩ = false) :
  (Builtin.clear_ #[t] ty #[.slice (some ⟨b, o, none⟩) n c]).run P w = .ok (.tuple #[]) (w.setCells b o (Builtin.zeroCells z.cells n).toList) ∧ (Builtin.zeroCells z.cells n).toList.length = n * 2 := by
 have hlen : (Builtin.zeroCells z.cells n).toList.length = n * 2 := by
  rw [hz];simp [Builtin.zeroCells];try omega
 have hone : ∀ v ∈ (Builtin.zeroCells z.cells n).toList, v.oneCell' = true := by
  intro v hv;rw [hz] at hv;simp [Builtin.zeroCells] at hv;obtain ⟨i, hi, rfl⟩ := hv;rcases Nat.mod_two_eq_zero_or_one i with h2 | h2
  ·simp [h2, h0]
  ·simp [h2, h1]
 refine ⟨?_, hlen⟩;have hst := Go.run_storeCells_cells (P := P) b o (Builtin.zeroCells z.cells n).toList 0 w (by rw [hlen]; simpa using hc) (by rw [hlen]; simpa using hf) hone;simp only [Nat.add_zero] at hst;obtain ⟨m, rfl⟩ : ∃ m, n = m + 1 := ⟨n - 1, by omega⟩;simp [Builtin.clear_, run_underlying ht, hv, hst]
theorem putRowK_below {B : Nat} {a w : World} {g : Nat} (q : Nat) (d : Array (Int × Int)) (hg : B ≤ g) (h : Below B a w) : Below B a (putRowK encP 2 (Sort.ahead w q) g 0 d) := by
 refine ⟨h.os, h.tape, h.output, ?_, fun j hj => ?_⟩
 ·have := h.size;rw [size_putRowK];exact this
 ·show (w.heap.modify g _)[j]? = _
  rw [Array.getElem?_modify, if_neg (by omega)];exact h.block j hj
theorem HasBlk.putRowK {w : World} {g : Nat} {t : TypeId} {n : Nat} (h : HasBlk w g t n) (q : Nat) (d : Array (Int × Int)) : HasBlk (putRowK encP 2 (Sort.ahead w q) g 0 d) g t n :=
 h.modify (Go.Sort.putCells id 0 (Go.Sort.flatK encP 2 d)) (fun cs => by simp [Go.Sort.putCells]) rfl
theorem setCells_below {B b : Nat} {a : World} (hb : B ≤ b) : ∀ (vs : List Value) (o : Nat) (w : World), Below B a w → Below B a (w.setCells b o vs)
 | [], _, _, h => h
 | v :: vs, o, w, h => by
  refine setCells_below hb vs (o + 1) _ ⟨h.os, h.tape, h.output, by simpa [World.setCell] using h.size, fun k hk => ?_⟩;rw [Below.heap_setCell w _ v k (by show k ≠ b; omega)];exact h.block k hk
theorem row_of_low {w : World} {g : Nat} (l : List (Int × Int)) (hg : g < w.heap.size) (h : ∀ j, j < l.length → w.cell? ⟨g, j * 2, none⟩ = some (.int .i64 (l[j]!).1) ∧ w.cell? ⟨g, j * 2 + 1, none⟩ = some (.int .i64 (l[j]!).2)) : Row w w.heap.size (some ⟨g, 0, none⟩) (edgeC l) := by
 refine .inr ⟨g, 0, rfl, hg, Nat.le_refl _, fun t u hu => ?_⟩;have ht : t < l.length * 2 := by rw [← edgeC_len]; exact (List.getElem?_eq_some_iff.1 hu).1
 have hj : t / 2 < l.length := by omega
 obtain ⟨h0, h1⟩ := h (t / 2) hj;have hE := edgeC_get l (t / 2) (l[t / 2]!) (by rw [List.getElem?_eq_getElem hj, getElem!_pos l (t / 2) hj]);rw [Nat.zero_add];rcases Nat.mod_two_eq_zero_or_one t with h2 | h2
 ·have e : t / 2 * 2 = t := by omega
  rw [e] at h0 hE;rw [h0];rw [hE.1] at hu;exact hu
 ·have e : t / 2 * 2 + 1 = t := by omega
  rw [e] at h1 hE;rw [h1];rw [hE.2] at hu;exact hu
theorem vcompact_own (w0 w : World) (g cap n : Nat) (d : Array (Int × Int)) (hl : d.size = n) (hN : n ≤ 1000) (hcap : n ≤ cap) (hH : HoldsK encP 2 w g 0 d) (hg : w0.heap.size ≤ g) (hlt : g < w.heap.size) (h0 : Below w0.heap.size w0 w) :
  Calls Tryz.prog 97 #[.slice (some ⟨g, 0, none⟩) n cap] w fun e w' => e = .returned (.slice (some ⟨g, 0, none⟩) (compactUpTo d n).length cap) ∧ Below w0.heap.size w0 w' ∧ Row w' w'.heap.size (some ⟨g, 0, none⟩) (edgeC (compactUpTo d n)) ∧ ∀ t k, HasBlk w g t k → HasBlk w' g t k := by
 have HH := Hd hH;have HB := Hd (fun q dk => putRowK_below (B := w0.heap.size) (a := w0) (w := w) (g := g) q dk hg h0);have hsame : ∀ q, (∀ j, j < n → keeps d j = true) → compactUpTo d n = d.toList ∧ Below w0.heap.size w0 (w.drewN q) ∧ Row (w.drewN q) (w.drewN q).heap.size (some ⟨g, 0, none⟩) (edgeC d.toList) := by
  intro q hall;refine ⟨by rw [compactUpTo_all d _ hall, ← hl, range_map_get], ⟨h0.os, h0.tape, h0.output, h0.size, h0.block⟩, row_of_low d.toList hlt fun j hj => ?_⟩;have hj' : j < d.size := by simpa using hj
  have h := cellsP hH hj';rw [getElem!_pos d j hj'] at h;rw [getElem!_pos d.toList j hj];exact ⟨h.1, h.2.1⟩
 have HS := Hd hsame;have HL := Hd hl;clear hH hsame h0 hl
 by_cases h2 : n < 2
 ·have hd1 : decide ((n : Int) < 2) = true := by simp; omega
  have hd2 : (n : Int) < 2 := by omega
  go_enter Tryz.func97, Tryz.ntmps97;go_wp2
  go_ret
  obtain ⟨e1, e2, e3⟩ := HS.out 0 (fun j hj => keeps_lt_one d j (by omega));rw [e1];exact ⟨by rw [Array.length_toList, HL.out]; rfl, e2, e3, fun t k hb => hb⟩
 ·have hd1 : decide ((n : Int) < 2) = false := by simp; omega
  have hd2 : ¬ (n : Int) < 2 := by omega
  go_enter Tryz.func97, Tryz.ntmps97;go_wp2_with fail
  go_loopw [3] (fun s3 wr => ∃ k q : Nat, 1 ≤ k ∧ k ≤ n ∧ s3 = .int .i64 k ∧ Hid (wr = w.drewN q) ∧ Hid (∀ j, j < k → keeps d j = true)) (fun s3 _ => n - (intOf s3).toNat)
  case atStart => exact ⟨1, 0, Nat.le_refl _, by omega, rfl, rfl, keeps_lt_one d⟩
  case round =>
   obtain ⟨k, q, hk1, hk, rfl, hw, hall⟩ := hrel
   by_cases hlt1 : k < n
   ·obtain ⟨c0, c1, -, -⟩ := cellsP HH.out (i := k) (by rw [HL.out]; exact hlt1);obtain ⟨p0, p1, -, -⟩ := cellsP HH.out (i := k - 1) (by rw [HL.out]; omega);obtain ⟨x, hx⟩ : ∃ x, x = d[k]! := ⟨_, rfl⟩;obtain ⟨y, hy⟩ : ∃ y, y = d[k - 1]! := ⟨_, rfl⟩;rw [← hx] at c0 c1;rw [← hy] at p0 p1;have HX := Hd hx;have HY := Hd hy;clear hx hy;obtain ⟨x0, x1⟩ := x;obtain ⟨y0, y1⟩ := y;dsimp only at c0 c1 p0 p1;have c0' : wr.cell? ⟨g, k * 2, none⟩ = some (.int .i64 x0) := by rw [hw.out]; exact c0
    have c1' : wr.cell? ⟨g, k * 2 + 1, none⟩ = some (.int .i64 x1) := by rw [hw.out]; exact c1
    have p0' : wr.cell? ⟨g, (k - 1) * 2, none⟩ = some (.int .i64 y0) := by rw [hw.out]; exact p0
    have p1' : wr.cell? ⟨g, (k - 1) * 2 + 1, none⟩ = some (.int .i64 y1) := by rw [hw.out]; exact p1
    clear c0 c1 p0 p1;have hk0 : (0 : Int) ≤ (k : Int) := Int.natCast_nonneg _;have hkn : (k : Int) < (n : Int) := by omega
    by_cases hdup : x0 = y0 ∧ x1 = y1
    ·obtain ⟨rfl, rfl⟩ := hdup;go_wp2_with fail
     go_quiet (fail)
     go_wp2
     clear c0' c1' p0' p1';obtain ⟨wo, hwo⟩ : ∃ wo : World, wo = wr := ⟨_, rfl⟩;subst hwo
     go_loopw [3, 5] (fun s3 s5 wi => ∃ (kk k2 q2 : Nat) (dk : Array (Int × Int)), s3 = .int .i64 kk ∧ s5 = .int .i64 k2 ∧ 1 ≤ k2 ∧ k + k2 ≤ n ∧ Hid (wi = putRowK encP 2 (Sort.ahead w q2) g 0 dk) ∧ Hid (CompInv d (k + k2) kk dk)) (fun _ s5 _ => n - (intOf s5).toNat)
     case atStart =>
      refine ⟨k, 1, q + nq, d, rfl, rfl, Nat.le_refl _, by omega, ?_, CompInv.start hall.out (keeps_neg (by omega) (by rw [← HX.out, ← HY.out]))⟩
      show wo.drewN nq = _
      rw [putRowK_self encP 2 (Sort.ahead w (q + nq)) g 0 d (holdsK_ahead encP 2 w (q + nq) g 0 d HH.out), hw.out];exact World.drewN_drewN w q nq
     case round =>
      obtain ⟨kk, k2, q2, dk, rfl, rfl, h21, hle, hwi, hI⟩ := hrel;have hkk := hI.out.lt;have hds := hI.out.size;rw [HL.out] at hds;have hHk : HoldsK encP 2 wr g 0 dk := by rw [hwi.out]; exact holdsK_putRowK encP 2 _ g 0 d dk (holdsK_ahead encP 2 w q2 g 0 d HH.out) hI.out.size
      by_cases hlt2 : k + k2 < n
      ·obtain ⟨m0, m1, -, -⟩ := cellsP hHk (i := k + k2) (by omega);obtain ⟨r0, r1, -, -⟩ := cellsP hHk (i := k + k2 - 1) (by omega);obtain ⟨s0, s1, f0, f1⟩ := cellsP hHk (i := kk) (by omega);rw [hI.out.high (k + k2) (by omega), show (k + k2) * 2 = k * 2 + k2 * 2 by omega] at m0 m1;rw [hI.out.high (k + k2 - 1) (by omega), show (k + k2 - 1) * 2 = k * 2 + (k2 - 1) * 2 by omega] at r0 r1;clear hHk;obtain ⟨u, hu⟩ : ∃ u, u = d[k + k2]! := ⟨_, rfl⟩;obtain ⟨v, hv⟩ : ∃ v, v = d[k + k2 - 1]! := ⟨_, rfl⟩;rw [← hu] at m0 m1;rw [← hv] at r0 r1;generalize dk[kk]! = old at s0 s1;have HU := Hd hu;have HV := Hd hv;clear hu hv;obtain ⟨u0, u1⟩ := u;obtain ⟨v0, v1⟩ := v;dsimp only at m0 m1 r0 r1;have hkk0 : (0 : Int) ≤ (kk : Int) := Int.natCast_nonneg _;have hkkn : (kk : Int) < (n : Int) := by omega
       have hk20 : (0 : Int) ≤ (k2 : Int) := Int.natCast_nonneg _;have hk2n : (k2 : Int) < ((n - k : Nat) : Int) := by omega
       have hk2b : k2 ≤ 1000 := by omega
       have hwk : IntKind.i64.wrap ((k2 : Int) - 1) = (k2 : Int) - 1 := IntWalk.i64_in _ (by omega);have hm1 : (0 : Int) ≤ (k2 : Int) - 1 := by omega
       have hm2 : (k2 : Int) - 1 < ((n - k : Nat) : Int) := by omega
       have hm3 : ((k2 : Int) - 1).toNat = k2 - 1 := by omega
       have hm4 : k2 ≤ n - k := by omega
       have hm5 : (k2 : Int) ≤ ((n - k : Nat) : Int) := by omega
       have hm6 : (1 : Int) ≤ (k2 : Int) := by omega
       have hm7 : k2 - 1 < n - k := by omega
       have hm8 : k2 < n - k := by omega
       by_cases huv : u0 = v0 ∧ u1 = v1
       ·obtain ⟨rfl, rfl⟩ := huv;go_wp2_with fail
        go_quiet (fail)
        go_wp2
        go_roundw
        case rel =>
         refine ⟨kk, k2 + 1, q2 + nq, dk, rfl, by go_num, by omega, by omega, ?_, hI.out.skip (keeps_neg (by omega) (by rw [← HU.out, ← HV.out]))⟩
         show wr.drewN nq = _
         rw [hwi.out, putRowK_drewN]
        case measure => simp [intOf]; omega
       ·have hcase : (u0 == v0) = false ∨ ((u0 == v0) = true ∧ (u1 == v1) = false) := by
         by_cases e0 : u0 = v0
         ·exact .inr ⟨by simp [e0], by simp; exact fun e1 => huv ⟨e0, e1⟩⟩
         ·exact .inl (by simp [e0])
        have HNE := Hd huv;clear huv;rcases hcase with hb0 | ⟨hb0, hb1⟩
        all_goals
         go_wp2_with fail
         go_quiet (fail)
         go_wp2
         go_roundw
         case rel =>
          refine ⟨kk + 1, k2 + 1, q2 + nq, dk.setIfInBounds kk (u0, u1), by go_num, by go_num, by omega, by omega, ?_, ?_⟩
          ·exact store_worldP (wr := wr.drewN nq) (by omega) (by rw [hwi.out, putRowK_drewN]) (u0, u1)
          ·have h := hI.out.keep (by rw [HL.out]; omega) (keeps_pos (by rw [← HU.out, ← HV.out]; intro h; exact HNE.out ⟨congrArg Prod.fst h, congrArg Prod.snd h⟩));rw [← HU.out] at h;exact h
         case measure => simp [intOf]; omega
      ·have hend : k + k2 = n := by omega
       have hcl := fun ty => run_clear2 (P := Tryz.prog) wr 33 38 ty (.agg #[.int .i64 0, .int .i64 0]) (.int .i64 0) (.int .i64 0) Tryz.underlying33 (fun _ => by kernel_rfl) rfl rfl rfl g (kk * 2) (n - kk) (cap - kk) (by omega)
        (fun j hj => by
         have h := (hHk (kk * 2 + j) (by rw [size_flatK]; omega)).1;rw [Nat.zero_add] at h;rw [h]; rfl)
        (fun j hj => by
         have h := (hHk (kk * 2 + j) (by rw [size_flatK]; omega)).2;rw [Nat.zero_add] at h;exact h)
       have HHK := Hd hHk;clear hHk;generalize (Builtin.zeroCells (Value.agg #[.int .i64 0, .int .i64 0]).cells (n - kk)).toList = vs at hcl;have hcl1 := fun ty => (hcl ty).1;clear hcl;have hkk0 : (0 : Int) ≤ (kk : Int) := Int.natCast_nonneg _;have hkkn : (kk : Int) ≤ (n : Int) := by omega
       have hkkc : kk ≤ cap := by omega
       go_wp2
       go_ret
       have hI2 := hI.out;rw [hend] at hI2;have hlen := hI2.len;refine ⟨by rw [hlen]; rfl, setCells_below hg vs _ _ (by rw [hwi.out]; exact HB.out q2 dk), ?_, fun t k hb => HasBlk.setCells (by rw [hwi.out]; exact hb.putRowK q2 dk) _ _⟩;have hgw : g < (wr.setCells g (kk * 2) vs).heap.size := by
        rw [size_setCells, hwi.out, size_putRowK];exact hlt
       refine row_of_low _ hgw fun j hj => ?_;rw [hlen] at hj;have hc := cellsP HHK.out (i := j) (by omega);have hlow := hI2.low j hj;have e : (compactUpTo d n)[j]! = dk[j]! := by rw [List.getElem!_eq_getElem?_getD, hlow]; rfl
       rw [e];rw [World.cell?_setCells_out g vs (kk * 2) wr ⟨g, j * 2, none⟩ (fun _ _ => .inl (by show j * 2 < kk * 2; omega)), World.cell?_setCells_out g vs (kk * 2) wr ⟨g, j * 2 + 1, none⟩ (fun _ _ => .inl (by show j * 2 + 1 < kk * 2; omega))];exact ⟨hc.1, hc.2.1⟩
    ·have hcase : (x0 == y0) = false ∨ ((x0 == y0) = true ∧ (x1 == y1) = false) := by
      by_cases e0 : x0 = y0
      ·exact .inr ⟨by simp [e0], by simp; exact fun e1 => hdup ⟨e0, e1⟩⟩
      ·exact .inl (by simp [e0])
     have HNE := Hd hdup;clear hdup;rcases hcase with hb0 | ⟨hb0, hb1⟩
     all_goals
      go_wp2_with fail
      go_quiet (fail)
      go_wp2
      go_roundw
      case rel =>
       refine ⟨k + 1, q + nq, by omega, by omega, by go_num, by show _ = _; rw [hw.out, World.drewN_drewN], fun j hj => ?_⟩
       by_cases e : j = k
       ·subst e;exact keeps_pos (by rw [← HX.out, ← HY.out]; intro h; exact HNE.out ⟨congrArg Prod.fst h, congrArg Prod.snd h⟩)
       ·exact hall.out j (by omega)
      case measure => simp [intOf]; omega
   ·have hkn : k = n := by omega
    subst hkn;go_wp2
    go_ret
    obtain ⟨e1, e2, e3⟩ := HS.out q hall.out;rw [e1, hw.out];exact ⟨by rw [Array.length_toList, HL.out]; rfl, e2, e3, fun t k hb => hb⟩
end Go.Proofs.YtjfbeeogiejopaaGreatDoor
