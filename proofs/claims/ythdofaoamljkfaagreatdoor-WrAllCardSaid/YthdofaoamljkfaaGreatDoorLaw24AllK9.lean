/- Parts. -/
import Derived.Test.YthdofaoamljkfaaGreatDoorLaw24AllK8
import Derived.RangeFuncNested
import Derived.RangeFuncBound
import Derived.RangeFuncCalls
import Derived.RangeFuncLeaves
import Derived.RangeFuncBox
import Derived.Shelf.Abstract
import Derived.Shelf.RegionOpen
import Derived.OwnWalkIn
import Derived.TacticsInMore
import Derived.LoopNIn
import Derived.LoopIn
import Derived.Deep.MidRow
import Derived.Laws.ResultCell
import Derived.Laws.IdiomCopy
import Derived.Lib.SmallJoins
import Derived.ChangeSame
set_option maxRecDepth 10000
set_option maxHeartbeats 16000000
set_option linter.unusedVariables false
set_option linter.unusedSimpArgs false
namespace Go.Proofs.YthdofaoamljkfaaGreatDoor
open Go.RowKit
open Go.Lib hiding intOf
attribute [local go_sem ↓] Go.wp_at_zero Go.wp_at_succ
def mayH (h : Hst) : Bool := namesB h.ss 20 && (namesB h.ks 40 && (txsB h && opsB h))
def errH (h : Hst) : Int := if mayH h = true then 0 else 4
structure HIn (w : World) (B : Nat) (A0 A1 A2 : Option Addr) (n0 n1 n2 : Nat) (h : Hst) : Prop where
 at_ : HAt w B A0 A1 A2 h
 n0 : h.ss.length = n0
 n1 : h.ks.length = n1
 n2 : h.l.length = n2
 sm : HSmall h
 u : UTabs w
theorem HIn.only {S : List Nat} {w w' : World} {B : Nat} {A0 A1 A2 : Option Addr} {n0 n1 n2 : Nat} {h : Hst} (g : HIn w B A0 A1 A2 n0 n1 n2 h) (ho : Only S w w') (hS : ∀ i ∈ S, B ≤ i) (hU : UTabs w') : HIn w' B A0 A1 A2 n0 n1 n2 h :=
 ⟨g.at_.only ho hS, g.n0, g.n1, g.n2, g.sm, hU⟩
theorem HIn.up {w : World} {B : Nat} {A0 A1 A2 : Option Addr} {n0 n1 n2 : Nat} {h : Hst} (g : HIn w B A0 A1 A2 n0 n1 n2 h) : HIn w w.heap.size A0 A1 A2 n0 n1 n2 h := ⟨g.at_.up, g.n0, g.n1, g.n2, g.sm, g.u⟩
theorem HIn.same {w w' : World} {B : Nat} {A0 A1 A2 : Option Addr} {n0 n1 n2 : Nat} {h : Hst} (g : HIn w B A0 A1 A2 n0 n1 n2 h) (ho : Only [] w w') : HIn w' B A0 A1 A2 n0 n1 n2 h :=
 g.only ho (fun _ h => by cases h) (g.u.only ho)
theorem mayH_no0 {h : Hst} (h0 : namesB h.ss 20 = false) : errH h = 4 := by unfold errH mayH; rw [h0]; rfl
theorem mayH_no1 {h : Hst} (h0 : namesB h.ss 20 = true) (h1 : namesB h.ks 40 = false) : errH h = 4 := by unfold errH mayH; rw [h0, h1]; rfl
theorem mayH_no2 {h : Hst} (h0 : namesB h.ss 20 = true) (h1 : namesB h.ks 40 = true) (h2 : txsB h = false) : errH h = 4 := by unfold errH mayH; rw [h0, h1, h2]; rfl
theorem mayH_no3 {h : Hst} (h0 : namesB h.ss 20 = true) (h1 : namesB h.ks 40 = true) (h2 : txsB h = true) (h3 : opsB h = false) : errH h = 4 := by unfold errH mayH; rw [h0, h1, h2, h3]; rfl
theorem mayH_yes {h : Hst} (h0 : namesB h.ss 20 = true) (h1 : namesB h.ks 40 = true) (h2 : txsB h = true) (h3 : opsB h = true) : errH h = 0 := by unfold errH mayH; rw [h0, h1, h2, h3]; rfl
theorem namesB_le {l : List ByteArray} {m : Nat} (h : namesB l m = true) : l.length ≤ m := by
 unfold namesB at h;simp at h;exact h.1
theorem hmay_any (A0 A1 A2 : Option Addr) (n0 n1 n2 c0 c1 c2 B : Nat) (h : Hst) (w : World) (hg : HIn w B A0 A1 A2 n0 n1 n2 h) :
  Calls Tryz.prog 39 #[hval A0 A1 A2 n0 n1 n2 c0 c1 c2] w fun e w' => e = .returned (.int .i64 (errH h)) ∧ Only [] w w' := by
 have HI := Hd hg;have HN0 := Hd (fun w' (O : Only [] w w') => names_any A0 n0 c0 B 20 h.ss w' hg.n0 (by have := hg.sm.ns; rw [hg.n0] at this; omega) hg.sm.s (hg.same O).at_.r0 (hg.same O).u);have HN1 := Hd (fun w' (O : Only [] w w') => names_any A1 n1 c1 B 40 h.ks w' hg.n1 (by have := hg.sm.nk; rw [hg.n1] at this; omega) hg.sm.k (hg.same O).at_.r1 (hg.same O).u);have HTX := Hd (fun (h0 : namesB h.ss 20 = true) w' (O : Only [] w w') => txs_any A0 A1 A2 n0 n1 n2 c0 c1 c2 B h w' (hg.same O).at_ hg.n0 hg.n2 (by have := namesB_le h0; rw [hg.n0] at this; exact this) (by have := hg.sm.nl; rw [hg.n2] at this; exact this));have HOP := Hd (fun (h0 : namesB h.ks 40 = true) w' (O : Only [] w w') => ops_any A0 A1 A2 n0 n1 n2 c0 c1 c2 B h w' (hg.same O).at_ hg.n1 hg.n2 (by have := namesB_le h0; rw [hg.n1] at this; exact this) (by have := hg.sm.nl; rw [hg.n2] at this; exact this) hg.sm.no);unfold hval at HTX HOP ⊢;have HO := Hd ((Only.refl [] w).alloc (.cells #[.slice A0 n0 c0, .slice A1 n1 c1, .slice A2 n2 c2] 25));have HB := Hd (Blk.made w 25 #[.slice A0 n0 c0, .slice A1 n1 c1, .slice A2 n2 c2]);clear hg;have F0 := Hd (HN0.out _ HO.out)
 cases h0 : namesB h.ss 20 with
 | false =>
  rw [h0] at F0;have HE := Hd (mayH_no0 h0);clear h0;go_enter Tryz.func39, Tryz.ntmps39;go_wp2_with fail
  refine (F0.out).mono ?_;rintro e w1 ⟨rfl, O1⟩;have HO1 := Hd (HO.out.trans O1);clear O1;go_wp2
  go_ret
  exact ⟨by rw [HE.out]; rfl, HO1.out⟩
 | true =>
  rw [h0] at F0;have HTX1 := Hd (HTX.out h0);have H0 := Hd h0;clear HTX h0;go_enter Tryz.func39, Tryz.ntmps39;go_wp2_with fail
  refine (F0.out).mono ?_;rintro e w1 ⟨rfl, O1⟩;have HO1 := Hd (HO.out.trans O1);have b1 := O1.blk HB.out (by simp);clear O1;have HB1 := Hd b1;have l1 := b1.lt;have x1 := b1.at_ 1;simp at x1;clear b1;have F1 := Hd (HN1.out _ HO1.out)
  cases h1 : namesB h.ks 40 with
  | false =>
   rw [h1] at F1;have HE := Hd (mayH_no1 H0.out h1);clear h1;go_wp2_with fail
   refine (F1.out).mono ?_;rintro e w2 ⟨rfl, O2⟩;have HO2 := Hd (HO1.out.trans O2);clear O2;go_wp2
   go_ret
   exact ⟨by rw [HE.out]; rfl, HO2.out⟩
  | true =>
   rw [h1] at F1;have HOP1 := Hd (HOP.out h1);have H1 := Hd h1;clear HOP h1;go_wp2_with fail
   refine (F1.out).mono ?_;rintro e w2 ⟨rfl, O2⟩;have HO2 := Hd (HO1.out.trans O2);have b2 := O2.blk HB1.out (by simp);clear O2 l1 x1;have HB2 := Hd b2;have l2 := b2.lt;have y0 := b2.at_ 0;have y1 := b2.at_ 1;have y2 := b2.at_ 2;simp at y0 y1 y2;clear b2;have F2 := Hd (HTX1.out _ HO2.out)
   cases h2 : txsB h with
   | false =>
    rw [h2] at F2;have HE := Hd (mayH_no2 H0.out H1.out h2);clear h2;go_wp2_with fail
    refine (F2.out).mono ?_;rintro e w3 ⟨rfl, O3⟩;have HO3 := Hd (HO2.out.trans O3);clear O3;go_wp2
    go_ret
    exact ⟨by rw [HE.out]; rfl, HO3.out⟩
   | true =>
    rw [h2] at F2;have H2 := Hd h2;clear h2;go_wp2_with fail
    refine (F2.out).mono ?_;rintro e w3 ⟨rfl, O3⟩;have HO3 := Hd (HO2.out.trans O3);have b3 := O3.blk HB2.out (by simp);clear O3 l2 y0 y1 y2;have l3 := b3.lt;have y0 := b3.at_ 0;have y1 := b3.at_ 1;have y2 := b3.at_ 2;simp at y0 y1 y2;clear b3;have F3 := Hd (HOP1.out _ HO3.out)
    cases h3 : opsB h with
    | false =>
     rw [h3] at F3;have HE := Hd (mayH_no3 H0.out H1.out H2.out h3);clear h3;go_wp2_with fail
     refine (F3.out).mono ?_;rintro e w4 ⟨rfl, O4⟩;have HO4 := Hd (HO3.out.trans O4);clear O4;go_wp2
     go_ret
     exact ⟨by rw [HE.out]; rfl, HO4.out⟩
    | true =>
     rw [h3] at F3;have HE := Hd (mayH_yes H0.out H1.out H2.out h3);clear h3;go_wp2_with fail
     refine (F3.out).mono ?_;rintro e w4 ⟨rfl, O4⟩;have HO4 := Hd (HO3.out.trans O4);clear O4;go_wp2
     go_ret
     exact ⟨by rw [HE.out]; rfl, HO4.out⟩
end Go.Proofs.YthdofaoamljkfaaGreatDoor
namespace Go.Proofs.YthdofaoamljkfaaGreatDoor
def whichL (p : Tx → Bool) (l : List Tx) : List Int := (l.zipIdx.filter fun x => p x.1).map fun x => (x.2 : Int)
theorem which_take {p : Tx → Bool} {l : List Tx} {k : Nat} {t : Tx} (h : l[k]? = some t) : whichL p (l.take (k + 1)) = whichL p (l.take k) ++ if p t = true then [(k : Int)] else [] := by
 have hk := (List.getElem?_eq_some_iff.1 h).1;unfold whichL;rw [List.take_add_one, h, List.zipIdx_append, List.filter_append, List.map_append, List.length_take, Nat.min_eq_left (Nat.le_of_lt hk)]
 by_cases hp : p t = true <;> simp [hp, List.zipIdx]
theorem which_le (p : Tx → Bool) (l : List Tx) : (whichL p l).length ≤ l.length := by
 unfold whichL;rw [List.length_map];exact Nat.le_trans (List.length_filter_le _ _) (by simp)
def txAtH (h : Hst) (a : Int) : Option Tx := if mayH h = true ∧ 0 ≤ a then h.l[a.toNat]? else none
def opAtH (h : Hst) (a b : Int) : Option (Tx × Op4) := (txAtH h a).bind fun t => if 0 ≤ b then (t.ops[b.toNat]?).map (fun o => (t, o)) else none
def ownO (h : Hst) (a b : Int) : Option (Int × Int) := (opAtH h a b).bind fun x => leftW x.2.key (x.1.ops.take b.toNat)
def outerB (h : Hst) (a b : Int) : Bool := match opAtH h a b with | some x => !x.2.wr && !(leftW x.2.key (x.1.ops.take b.toNat)).isSome | none => false
theorem txAt_no {h : Hst} {a : Int} (hm : mayH h = false) : txAtH h a = none := by unfold txAtH; rw [hm]; simp
theorem txAt_neg {h : Hst} {a : Int} (ha : a < 0) : txAtH h a = none := by unfold txAtH; rw [if_neg (by omega)]
theorem txAt_big {h : Hst} {a : Int} (ha : (h.l.length : Int) ≤ a) : txAtH h a = none := by
 unfold txAtH
 split
 ·exact List.getElem?_eq_none (by omega)
 ·rfl
theorem txAt_yes {h : Hst} {i : Nat} {t : Tx} (hm : mayH h = true) (ht : h.l[i]? = some t) : txAtH h (i : Int) = some t := by
 unfold txAtH;rw [if_pos ⟨hm, by omega⟩]
 simpa using ht
theorem opAt_none {h : Hst} {a b : Int} (ht : txAtH h a = none) : opAtH h a b = none := by unfold opAtH; rw [ht]; rfl
theorem opAt_neg {h : Hst} {a b : Int} (hb : b < 0) : opAtH h a b = none := by
 unfold opAtH
 cases txAtH h a with
 | none => rfl
 | some t => simp only [Option.bind_some]; rw [if_neg (by omega)]
theorem opAt_big {h : Hst} {a b : Int} {t : Tx} (ht : txAtH h a = some t) (hb : (t.ops.length : Int) ≤ b) : opAtH h a b = none := by
 unfold opAtH;rw [ht];simp only [Option.bind_some]
 split
 ·rw [List.getElem?_eq_none (by omega)]; rfl
 ·rfl
theorem opAt_yes {h : Hst} {a : Int} {j : Nat} {t : Tx} {o : Op4} (ht : txAtH h a = some t) (ho : t.ops[j]? = some o) : opAtH h a (j : Int) = some (t, o) := by
 unfold opAtH;rw [ht];simp only [Option.bind_some];rw [if_pos (by omega)];simp [ho]
theorem own_none {h : Hst} {a b : Int} (ho : opAtH h a b = none) : ownO h a b = none := by unfold ownO; rw [ho]; rfl
theorem own_some {h : Hst} {a b : Int} {t : Tx} {o : Op4} (ho : opAtH h a b = some (t, o)) : ownO h a b = leftW o.key (t.ops.take b.toNat) := by unfold ownO; rw [ho]; rfl
theorem outer_none {h : Hst} {a b : Int} (ho : opAtH h a b = none) : outerB h a b = false := by unfold outerB; rw [ho]
theorem outer_some {h : Hst} {a b : Int} {t : Tx} {o : Op4} (ho : opAtH h a b = some (t, o)) : outerB h a b = (!o.wr && !(leftW o.key (t.ops.take b.toNat)).isSome) := by unfold outerB; rw [ho]
def readO (h : Hst) (a b : Int) : Option (Tx × Op4) := (opAtH h a b).bind fun x => if x.2.wr = true then none else some x
theorem read_none {h : Hst} {a b : Int} (ho : opAtH h a b = none) : readO h a b = none := by unfold readO; rw [ho]; rfl
theorem read_write {h : Hst} {a b : Int} {x : Tx × Op4} (ho : opAtH h a b = some x) (hw : x.2.wr = true) : readO h a b = none := by unfold readO; rw [ho]; simp [hw]
theorem read_some {h : Hst} {a b : Int} {x : Tx × Op4} (ho : opAtH h a b = some x) (hw : x.2.wr = false) : readO h a b = some x := by unfold readO; rw [ho]; simp [hw]
def forT (a key : Int) (i : Nat) (t : Tx) : Option (Int × Int) := if (i : Int) = a ∨ t.f = 2 then none else leftW key t.ops
def fitsV (v u : Int × Int) : Bool := decide (v.1 = 2) || decide (v = u)
def fitsO (v : Int × Int) : Option (Int × Int) → Bool
 | some u => fitsV v u
 | none => false
def whoL (a key : Int) (v : Int × Int) (l : List Tx) : List Int := (l.zipIdx.filter fun x => fitsO v (forT a key x.2 x.1)).map fun x => (x.2 : Int)
def headW (v : Int × Int) : List Int := if v.1 = 1 then [] else [-1]
def wrOf (h : Hst) (a b : Int) : List Int :=
 match readO h a b with
 | some x => headW (x.2.vk, x.2.vn) ++ whoL a x.2.key (x.2.vk, x.2.vn) h.l
 | none => []
theorem wrOf_none {h : Hst} {a b : Int} (hr : readO h a b = none) : wrOf h a b = [] := by unfold wrOf; rw [hr]
theorem wrOf_some {h : Hst} {a b : Int} {t : Tx} {o : Op4} (hr : readO h a b = some (t, o)) : wrOf h a b = headW (o.vk, o.vn) ++ whoL a o.key (o.vk, o.vn) h.l := by unfold wrOf; rw [hr]
theorem whoL_take {a key : Int} {v : Int × Int} {l : List Tx} {k : Nat} {t : Tx} (h : l[k]? = some t) : whoL a key v (l.take (k + 1)) = whoL a key v (l.take k) ++ if fitsO v (forT a key k t) = true then [(k : Int)] else [] := by
 have hk := (List.getElem?_eq_some_iff.1 h).1;unfold whoL;rw [List.take_add_one, h, List.zipIdx_append, List.filter_append, List.map_append, List.length_take, Nat.min_eq_left (Nat.le_of_lt hk)]
 by_cases hp : fitsO v (forT a key k t) = true <;> simp [hp, List.zipIdx]
theorem whoL_le (a key : Int) (v : Int × Int) (l : List Tx) : (whoL a key v l).length ≤ l.length := by
 unfold whoL;rw [List.length_map];exact Nat.le_trans (List.length_filter_le _ _) (by simp)
theorem headW_le (v : Int × Int) : (headW v).length ≤ 1 := by unfold headW; split <;> simp
def hitN (key n : Int) (o : Op4) : Bool := o.wr && (decide (o.key = key) && decide (o.vn = n))
open Go.RowKit Go.Shelf
open Go.Lib hiding intOf
attribute [local go_sem] Oper.semAt_some
theorem OpAt.belowB {B : Nat} {w w' : World} {b o : Nat} {x : Op4} (h : OpAt w b o x) (ho : Below B w w') (hb : b < B) : OpAt w' b o x :=
 ⟨(ho.cell (p := ⟨b, o, none⟩) hb).trans h.c0, (ho.cell (p := ⟨b, o + 1, none⟩) hb).trans h.c1, (ho.cell (p := ⟨b, o + 2, none⟩) hb).trans h.c2, (ho.cell (p := ⟨b, o + 3, none⟩) hb).trans h.c3⟩
theorem TxAt.belowB {B : Nat} {w w' : World} {b o : Nat} {x : TxA} (h : TxAt w b o x) (ho : Below B w w') (hb : b < B) : TxAt w' b o x :=
 ⟨(ho.cell (p := ⟨b, o, none⟩) hb).trans h.c0, (ho.cell (p := ⟨b, o + 1, none⟩) hb).trans h.c1, (ho.cell (p := ⟨b, o + 2, none⟩) hb).trans h.c2⟩
theorem blk_own {β : Type} (B : Nat) (t : TypeId) (f : β → Array Value) : Own (fun s W => Blk W B t (f s)) := fun s X Y row hs hg hrow =>
 (hg.block B hs.lt (fun e' => by obtain ⟨o, ho, hc⟩ := hrow B e'.symm; rw [show X.heap[B]? = _ from hs] at ho; cases ho; cases hc)).trans hs
end Go.Proofs.YthdofaoamljkfaaGreatDoor
namespace Go.Proofs.YthdofaoamljkfaaGreatDoor
open Go.RowKit
section
variable {P : Program}
theorem results_row1 {fn : Func} {p : Tmp} {ty : TypeId} (h : fn.results = #[.cell p ty]) (tmps : Array Value) (w : World) (g : Nat) (t : TypeId) (cs : Array Value) (d : TypeDesc)
  (hp : tmps.getD p undef = .pointer (some ⟨g, 0, none⟩)) (hg : Blk w g t cs) (hu : P.underlying ty = some d) (hd : d.isRow = true) (hi : (P.info? ty).map (·.size) = some cs.size) :
  (results fn tmps).run P w = .ok (.agg cs) w :=
 results_cell_row h tmps w g t cs (0, 0) d hp hg hu (by cases d <;> simp_all) hi
theorem results_row2 {fn : Func} {p u : Tmp} {ty : TypeId} (h : fn.results = #[.cell p ty, .tmp u]) (tmps : Array Value) (w : World) (g : Nat) (t : TypeId) (cs : Array Value) (d : TypeDesc)
  (hp : tmps.getD p undef = .pointer (some ⟨g, 0, none⟩)) (hg : Blk w g t cs) (hu : P.underlying ty = some d) (hd : d.isRow = true) (hi : (P.info? ty).map (·.size) = some cs.size) :
  (results fn tmps).run P w = .ok (.tuple #[.agg cs, tmps.getD u undef]) w := by
 have hl := run_loadVar_row (P := P) w g t ty cs (0, 0) d hg hu (by cases d <;> simp_all) hi;rw [results_cell_tmp h, hp];simp [asAddr, hl, Result.andThen]
theorem results_row3 {fn : Func} {p u v : Tmp} {ty : TypeId} (h : fn.results = #[.cell p ty, .tmp u, .tmp v]) (tmps : Array Value) (w : World) (g : Nat) (t : TypeId) (cs : Array Value) (d : TypeDesc)
  (hp : tmps.getD p undef = .pointer (some ⟨g, 0, none⟩)) (hg : Blk w g t cs) (hu : P.underlying ty = some d) (hd : d.isRow = true) (hi : (P.info? ty).map (·.size) = some cs.size) :
  (results fn tmps).run P w = .ok (.tuple #[.agg cs, tmps.getD u undef, tmps.getD v undef]) w := by
 have hp' : tmps[p]?.getD undef = .pointer (some ⟨g, 0, none⟩) := by simpa using hp
 have hl := run_loadVar_row (P := P) w g t ty cs (0, 0) d hg hu (by cases d <;> simp_all) hi;simp only [results, h];simp [Sem.run_bind, Result.andThen, hp', asAddr, hl]
end
theorem Blk.there {w : World} {g : Nat} {t : TypeId} {cs : Array Value} (h : Blk w g t cs) : w.there g 0 cs.size := fun j hj => by
 rw [Nat.zero_add];exact ⟨by rw [h.at_ j]; simp [hj], h.free j⟩
theorem setCells_only (g : Nat) : ∀ (vs : List Value) (o : Nat) (S : List Nat) (w w' : World), Only S w w' → (g < w.heap.size → g ∈ S) → Only S w (w'.setCells g o vs)
 | [], _, _, _, _, h, _ => h
 | v :: vs, o, S, w, w', h, hg => setCells_only g vs (o + 1) S w _ (h.put (p := ⟨g, o, none⟩) hg v) hg
theorem Only.putAll {S : List Nat} {w w' : World} (h : Only S w w') {g : Nat} (hg : g < w.heap.size → g ∈ S) (vs : List Value) : Only S w (w'.setCells g 0 vs) := setCells_only g vs 0 S w w' h hg
theorem setCells_blk (g : Nat) (t : TypeId) : ∀ (vs : List Value) (o : Nat) (w : World) (cs : Array Value), Blk w g t cs → o + vs.length = cs.size → Blk (w.setCells g o vs) g t (cs.toList.take o ++ vs).toArray
 | [], o, w, cs, h, hl => by
  have e : (cs.toList.take o ++ []).toArray = cs := by
   rw [List.append_nil, List.take_of_length_le (by simp at hl ⊢; omega)]
  rw [e];exact h
 | v :: vs, o, w, cs, h, hl => by
  have h1 := h.put o v;have hl2 : o < cs.size := by simp at hl; omega
  have h2 := setCells_blk g t vs (o + 1) _ _ h1 (by simp at hl ⊢; omega);have e : (cs.setIfInBounds o v).toList.take (o + 1) ++ vs = cs.toList.take o ++ v :: vs := by
   rw [Array.toList_setIfInBounds, List.take_add_one, List.take_set_of_le (by omega)];simp [hl2]
  rw [e] at h2;exact h2
theorem Blk.putAll {w : World} {g : Nat} {t : TypeId} {cs : Array Value} (h : Blk w g t cs) (vs : List Value) (hl : vs.length = cs.size) : Blk (w.setCells g 0 vs) g t vs.toArray := by
 have := setCells_blk g t vs 0 w cs h (by simpa using hl)
 simpa using this
theorem Blk.range {w : World} {g : Nat} {t : TypeId} {cs : Array Value} (h : Blk w g t cs) : w.rangeAt g 0 cs.toList := fun j v hj => by
 rw [Nat.zero_add, h.at_ j]
 simpa using hj
theorem wp_store_blk {P : Program} {op : Oper} {a : Act} {w : World} {K : Act → World → Prop} {Q : Exit → Act → World → Prop} (ty : TypeId) (x y : Operand) (ho : op.op = .store ty x y)
  (g : Nat) (t : TypeId) (cs cells : Array Value) (hx : a.eval x = .pointer (some ⟨g, 0, none⟩)) (hy : a.eval y = .agg cells)
  (hb : Blk w g t cs) (hl : cells.size = cs.size) (hi : (P.info? ty).map (·.size) = some cells.size) (h1 : cells.all (·.oneCell') = true)
  (h : ∀ w', Blk w' g t cells → Only [g] w w' → K (a.put op.dst undef) w') : op.wp P a w K Q :=
 wp_store_mid ty x y ho g 0 cells hx hy (by rw [hl]; exact hb.there) hi h1 (h _ (by have := hb.putAll cells.toList (by simpa using hl); simpa using this) ((Only.refl [g] w).putAll (fun _ => by simp) _))
end Go.Proofs.YthdofaoamljkfaaGreatDoor
namespace Go.Proofs.YthdofaoamljkfaaGreatDoor
open Go.RowKit Go.Shelf
open Go.Lib hiding intOf
attribute [local go_sem] Oper.semAt_some
abbrev Bo := Nat × Op4
def bkC (x : Bo) : Array Value := #[.int .i64 (x.1 : Int), .agg #[.bool x.2.wr, .int .i64 x.2.key, .int .i64 x.2.vk, .int .i64 x.2.vn]]
def zl (l : List Op4) : List Bo := l.zipIdx.map fun x => (x.2, x.1)
theorem zl_len (l : List Op4) : (zl l).length = l.length := by simp [zl]
theorem zl_snd (l : List Op4) : (zl l).map Prod.snd = l := by
 unfold zl;rw [List.map_map];refine List.ext_getElem? fun i => ?_;simp only [List.getElem?_map, List.getElem?_zipIdx]
 cases l[i]? <;> rfl
theorem zl_drop {l : List Op4} {k : Nat} {o : Op4} (h : l[k]? = some o) : ((zl l).drop k).reverse = ((zl l).drop (k + 1)).reverse ++ [(k, o)] := by
 have hk := (List.getElem?_eq_some_iff.1 h).1;have hz : (zl l)[k]? = some (k, o) := by
  unfold zl;rw [List.getElem?_map, List.getElem?_zipIdx, h];simp
 obtain ⟨h1, h2⟩ := List.getElem?_eq_some_iff.1 hz;rw [List.drop_eq_getElem_cons h1, List.reverse_cons, h2]
theorem zl_prefix (l : List Op4) (k : Nat) : ((zl l).drop k).reverse <+: (zl l).reverse := by
 conv => rhs; rw [← List.take_append_drop k (zl l), List.reverse_append]
 exact List.prefix_append _ _
set_option maxRecDepth 100000 in
theorem back1_inK (PX : Bo → Prop) (Kp : World → World → Prop) (F : Fence) (n : Nat) (hf : F.fn 82) (hro : F.round = none) (hn : 1 ≤ n) (l Bn n₁ : Nat) (A : Option Addr) (m c : Nat) (ops : List Op4) (J Jx : List Bo → World → Prop) (W : World) (hK0 : ∀ W, Kp W W) (hKt : ∀ {A B C : World}, Kp A B → Kp B C → Kp A C) (hK1 : ∀ {A B : World}, Kp A B → Below n₁ A B) (hK2 : ∀ {A B : World}, Kp A B → B.cell? ⟨Bn, 0, none⟩ = A.cell? ⟨Bn, 0, none⟩)
  (hm : ops.length = m) (hM : m ≤ 1000) (hJ : AbidesFrom W.heap.size J)
  (hPP : ∀ k o, ops[k]? = some o → PX (k, o)) (hY : ∀ pre x W1, PX x → J pre W1 → pre.length < 1000001 → YieldAt F (n - 1) Tryz.prog l (bkC x) W1 fun e W' =>
   (e = .returned (.bool true) ∧ J (pre ++ [x]) W' ∧ Kp W1 W') ∨ (e = .returned (.bool false) ∧ Jx (pre ++ [x]) W'))
  (hBn : W.cell? ⟨Bn, 0, none⟩ = some (.slice A m c)) (hg : Row W n₁ A (opC ops)) (h0 : J [] W) :
  CallsIn F n Tryz.prog 82 #[.func (.yield l) #[] #[], .pointer (some ⟨Bn, 0, none⟩)] W fun e W' => (∃ v, e = .returned v) ∧
   ((∃ ys, ys = (zl ops).reverse ∧ J ys W') ∨ (∃ pre, pre <+: (zl ops).reverse ∧ Jx pre W')) := by
 have hzm : (zl ops).length = m := by rw [zl_len, hm]
 have HZ := Hd hzm;have HM := Hd hm;have hw1 : IntKind.i64.wrap ((m : Int) - 1) = (m : Int) - 1 := IntWalk.i64_in _ (by omega);clear hzm hm;refine callsIn_of_wp Tryz.func82 rfl hf ?_ hro;simp only [Tryz.ntmps82, List.size_toArray, List.length_cons, List.length_nil, Nat.reduceAdd, Nat.reduceSub, Array.replicate_succ, Array.replicate_zero, List.push_toArray, List.append_toArray, List.nil_append, List.cons_append]
 gi_wp2
 gi_loopw [3] (fun iv wr => ∃ k : Nat, iv = .int .i64 ((k : Int) - 1) ∧ k ≤ m ∧ J ((zl ops).drop k).reverse wr ∧ Kp W wr) (fun iv _ => (intOf iv + 1).toNat)
 case atStart => exact ⟨m, rfl, Nat.le_refl _, by rw [List.drop_of_length_le (by rw [HZ.out]; exact Nat.le_refl _)]; exact h0, hK0 _⟩
 case round =>
  obtain ⟨k, rfl, hk, hJs, hnx⟩ := hrel
  cases k with
  | zero =>
   have hd2 : decide ((0 : Int) ≤ ((0 : Nat) : Int) - 1) = false := by decide
   gi_wp2
   go_end0
   exact ⟨⟨_, rfl⟩, .inl ⟨_, rfl, hJs⟩⟩
  | succ k =>
   obtain ⟨y, hy⟩ : ∃ y, ops[k]? = some y := ⟨_, List.getElem?_eq_getElem (by rw [HM.out]; omega)⟩;obtain ⟨b, off, rfl, hb, -, hP⟩ := row_op hg hy;obtain ⟨p0, p1, p2, p3⟩ := hP.belowB (hK1 hnx) hb;have HTT := Hd (zl_drop hy);have HPX := Hd (zl_prefix ops k);have hPY := hPP k y hy;obtain ⟨yw, yk, yv, yn⟩ := y;dsimp only at p0 p1 p2 p3;have e1 : ((k + 1 : Nat) : Int) - 1 = (k : Int) := by omega
   rw [e1];have hk0 : (0 : Int) ≤ (k : Int) := Int.natCast_nonneg _;have hkm : (k : Int) < (m : Int) := by omega
   have hwk : IntKind.i64.wrap ((k : Int) - 1) = (k : Int) - 1 := IntWalk.i64_in _ (by omega);have hBr := (hK2 hnx).trans hBn;have hlen : ((zl ops).drop (k + 1)).reverse.length < 1000001 := by
    rw [List.length_reverse, List.length_drop, HZ.out];omega
   obtain ⟨fn, tmps, assign, body, hyy, hR⟩ := hY _ (k, ⟨yw, yk, yv, yn⟩) _ hPY hJs hlen;dsimp only [bkC] at hyy hR;clear hP hy e1 hPY
   gi_wp2
   refine hR.mono ?_;rintro e W3 (⟨rfl, hJ4, hk4⟩ | ⟨rfl, hJx4⟩)
   ·gi_wp2
    go_roundw
    case rel => exact ⟨k, rfl, by omega, by rw [HTT.out]; exact hJ4, hKt hnx hk4⟩
    case measure => simp [intOf]
   ·gi_wp2
    refine bodyPost_ret (results_none rfl _ _ _) rfl ?_;exact ⟨⟨_, rfl⟩, .inr ⟨_, by rw [← HTT.out]; exact HPX.out, hJx4⟩⟩
theorem back_in (F : Fence) (n : Nat) (hf : F.fn 68) (hro : F.round = none) (A : Option Addr) (m c : Nat) (w : World) :
  CallsIn F n Tryz.prog 68 #[.slice A m c] w fun e w' => e = .returned (.func (.func 82) #[] #[.pointer (some ⟨w.heap.size, 0, none⟩)]) ∧ w' = w.alloc (.cells #[.slice A m c] 45) := by
 refine callsIn_of_wp Tryz.func68 rfl hf ?_ hro;simp only [Tryz.ntmps68, List.size_toArray, List.length_cons, List.length_nil, Nat.reduceAdd, Nat.reduceSub, Array.replicate_succ, Array.replicate_zero, List.push_toArray, List.append_toArray, List.nil_append, List.cons_append]
 gi_wp2
 go_ret
 exact ⟨rfl, rfl⟩
theorem back_stopsP (PX : Bo → Prop) (Kp : World → World → Prop) (F : Fence) (n : Nat) (hf : F.fn 82) (hro : F.round = none) (hn : 1 ≤ n) (Bn n₁ : Nat) (A : Option Addr) (m c : Nat) (ops : List Op4) (w : World) (hBn : Bn < w.heap.size)
  (hK0 : ∀ W, Kp W W) (hKt : ∀ {A B C : World}, Kp A B → Kp B C → Kp A C) (hK1 : ∀ {A B : World}, Kp A B → Below n₁ A B) (hK2 : ∀ {A B : World}, Kp A B → B.cell? ⟨Bn, 0, none⟩ = A.cell? ⟨Bn, 0, none⟩)
  (hc : w.cell? ⟨Bn, 0, none⟩ = some (.slice A m c)) (hg : Row w n₁ A (opC ops)) (hm : ops.length = m) (hM : m ≤ 1000) (hPP : ∀ k o, ops[k]? = some o → PX (k, o)) :
  SeqStopsK F n Tryz.prog 82 #[.pointer (some ⟨Bn, 0, none⟩)] (fun x : {x : Bo // PX x} => bkC x.1) Kp (fun ys => ys.map Subtype.val = (zl ops).reverse) (fun _ => True) 1000001 w := fun l J Jx W hW hJ _ hY h0 => by
 refine (back1_inK PX Kp F n hf hro hn l Bn n₁ A m c ops (fun pre W => ∃ pre' : List {x : Bo // PX x}, pre'.map Subtype.val = pre ∧ J pre' W) (fun pre W => ∃ pre' : List {x : Bo // PX x}, pre'.map Subtype.val = pre ∧ Jx pre' W) W hK0 hKt hK1 hK2 hm hM
  (fun pre X Y row ⟨pre', e, hs⟩ hg hr => ⟨pre', e, hJ pre' X Y row hs hg hr⟩) hPP ?_ ((hW.cell (p := ⟨Bn, 0, none⟩) hBn).trans hc) (hg.only (Only.of_below hW []) (fun _ h => by cases h)) ⟨[], rfl, h0⟩).mono ?_
 ·rintro pre x W1 hx ⟨pre', rfl, hs⟩ hl;obtain ⟨fn, tmps, assign, body, hyy, hR⟩ := hY pre' ⟨x, hx⟩ W1 hs (by simpa using hl);refine ⟨fn, tmps, assign, body, hyy, hR.mono ?_⟩;rintro e W' (⟨rfl, h1, h2⟩ | ⟨rfl, h1⟩)
  ·exact .inl ⟨rfl, ⟨_, by simp, h1⟩, h2⟩
  ·exact .inr ⟨rfl, _, by simp, h1⟩
 ·rintro e W' ⟨hv, ⟨ys, rfl, pre', e1, hs⟩ | ⟨pre, -, pre', e1, hs⟩⟩
  ·exact ⟨hv, .inl ⟨pre', e1, hs⟩⟩
  ·exact ⟨hv, .inr ⟨pre', trivial, hs⟩⟩
end Go.Proofs.YthdofaoamljkfaaGreatDoor
namespace Go.Proofs.YthdofaoamljkfaaGreatDoor
open Go.RowKit
theorem wpList_store_blk {P : Program} {ops : Array Oper} {rest : List Oper} {op : Oper} {a : Act} {w : World} {Q : Exit → Act → World → Prop} (hgd : op.guard = none) (ty : TypeId) (x y : Operand) (ho : op.op = .store ty x y)
  (g : Nat) (t : TypeId) (cs cells : Array Value) (hx : a.eval x = .pointer (some ⟨g, 0, none⟩)) (hy : a.eval y = .agg cells)
  (hb : Blk w g t cs) (hl : cells.size = cs.size) (hi : (P.info? ty).map (·.size) = some cells.size) (h1 : cells.all (·.oneCell') = true)
  (h : ∀ w', Blk w' g t cells → Only [g] w w' → wpList P ops Q rest (a.put op.dst undef) w') : wpList P ops Q (op :: rest) a w :=
 wpList_store_mid hgd ty x y ho g 0 cells hx hy (by rw [hl]; exact hb.there) hi h1 (h _ (by have := hb.putAll cells.toList (by simpa using hl); simpa using this) ((Only.refl [g] w).putAll (fun _ => by simp) _))
open Go.Lib hiding intOf
attribute [local go_sem ↓] Go.wp_at_zero Go.wp_at_succ
theorem errH_yes {h : Hst} (hm : mayH h = true) : errH h = 0 := by unfold errH; rw [hm]; rfl
theorem errH_not {h : Hst} (hm : mayH h = false) : errH h = 4 := by unfold errH; rw [hm]; rfl


end Go.Proofs.YthdofaoamljkfaaGreatDoor
namespace Go.Proofs.YthdofaoamljkfaaGreatDoor
open Go.RowKit Go.ChangeShapes Go.WideShapes Go.ChangeAt Go.Joins Go.Deep
theorem list_ofG {α : Type} {Q : Nat → α → Prop} : ∀ {N : Nat}, (∀ k, k < N → ∃ z, Q k z) → ∃ zs : List α, zs.length = N ∧ ∀ k z, zs[k]? = some z → Q k z
 | 0, _ => ⟨[], rfl, fun k z h => by simp at h⟩
 | N + 1, h => by
  obtain ⟨zs, hl, hz⟩ := list_ofG (N := N) (fun k hk => h k (by omega));obtain ⟨z, hq⟩ := h N (by omega);refine ⟨zs ++ [z], by simp [hl], fun k y hy => ?_⟩;rcases Nat.lt_or_ge k zs.length with hk | hk
  ·rw [List.getElem?_append_left hk] at hy;exact hz k y hy
  ·rw [List.getElem?_append_right hk] at hy;have hk0 : k - zs.length = 0 := by
    cases hj : k - zs.length with
    | zero => rfl
    | succ j => rw [hj] at hy; simp at hy
   rw [hk0] at hy;simp at hy;subst hy;have : k = N := by omega
   subst this;exact hq
section
variable {H : Type} {enc : TypeId × Value → H} {P : Program} {w : World}
theorem row_of {α : Type} (f : α → List Value) (sz : Nat) (hf : ∀ x, (f x).length = sz) (hsz : 0 < sz) (Q : α → Prop) {t e : TypeId} {fuel : Nat} {cs : List Value} {x : DataW H × List MemPlace} (ht : P.underlying t = some (.slice e)) (hC : P.cellsOf e = sz)
  (each : ∀ fuel' cs' x', DataW.trod enc P w 0 (fun _ => true) true fuel' e cs' = some x' → ∃ y : α, Q y ∧ cs' = f y) (h : DataW.trod enc P w 0 (fun _ => true) true fuel t cs = some x) :
  ∃ (A : Option Addr) (n c : Nat) (l : List α), cs = [.slice A n c] ∧ n ≤ c ∧ c ≤ maxLen ∧ l.length = n ∧ (∀ y ∈ l, Q y) ∧ Row w w.heap.size A (l.flatMap f) := by
 rcases open_slice ht h with ⟨hcs, _⟩ | ⟨a, len, cap, m, n, D, Pl, hcs, _, hl, hm, hmm, _, hcell⟩
 ·exact ⟨none, 0, 0, [], hcs, Nat.le_refl _, by unfold maxLen; omega, rfl, (fun z hz => by cases hz), .inl rfl⟩
 ·simp only [if_true] at hmm;subst hmm;have each' : ∀ k, k < len → ∃ y : α, Q y ∧ ∀ i, i < sz → w.cell? (a.add (k * sz + i)) = (f y)[i]? := by
   intro k hk;obtain ⟨cs', hc, htr⟩ := hcell k (by omega);rw [hC] at hc;obtain ⟨y, hq, hcs'⟩ := each _ _ _ htr;obtain ⟨_, hcl, hat⟩ := World.cells?_some hc;refine ⟨y, hq, fun i hi => ?_⟩;have hk' : a.add (k * sz + i) = (a.add (k * sz)).add i := by rw [Go.Deep.add_add]
   rw [hk', hat i hi, hcs']
  obtain ⟨l, hll, hz⟩ := list_ofG each';refine ⟨some a, len, _, l, hcs, hl, hm, hll, fun z hzm => ?_, ?_⟩
  ·obtain ⟨k, hk⟩ := List.mem_iff_getElem?.1 hzm;exact (hz k z hk).1
  ·by_cases h0 : len = 0
   ·subst h0;have : l = [] := List.eq_nil_of_length_eq_zero hll;subst this;exact .inl rfl
   ·obtain ⟨x0, -, hx0⟩ := each' 0 (by omega);obtain ⟨u0, hu0⟩ : ∃ u, (f x0)[0]? = some u := ⟨_, List.getElem?_eq_getElem (by rw [hf]; exact hsz)⟩;have hz0 : w.cell? (a.add 0) = some u0 := by
     have := hx0 0 hsz;rw [hu0] at this
     simpa using this
    have hA : a.spot = none := by
     unfold World.cell? Addr.add at hz0
     cases hsp : a.spot with
     | none => rfl
     | some s =>
      rw [if_pos rfl] at hz0
      split at hz0
      ·simp [hsp] at hz0
      ·cases hz0
    obtain ⟨b, off, sp⟩ := a;simp only at hA;subst hA;have hb : b < w.heap.size := World.block_lt_of_cell? w _ (by simpa [Addr.add] using hz0);refine .inr ⟨b, off, rfl, hb, Nat.le_refl _, fun t u hu => ?_⟩;have hlt : t < (l.flatMap f).length := (List.getElem?_eq_some_iff.1 hu).1;rw [flat_len f sz hf] at hlt;have hts : t / sz < l.length := (Nat.div_lt_iff_lt_mul hsz).2 hlt;obtain ⟨x, hx⟩ : ∃ x, l[t / sz]? = some x := ⟨_, List.getElem?_eq_getElem hts⟩;have g := flat_get f sz hf l (t / sz) x hx (t % sz) (Nat.mod_lt _ hsz);have e : t / sz * sz + t % sz = t := by rw [Nat.mul_comm]; exact Nat.div_add_mod t sz
    rw [e, hu] at g;have h1 := (hz (t / sz) x hx).2 (t % sz) (Nat.mod_lt _ hsz);rw [e] at h1;have e' : (⟨b, off, none⟩ : Addr).add t = ⟨b, off + t, none⟩ := by
     unfold Addr.add
     split
     ·rename_i h; subst h; rfl
     ·rfl
    rw [e'] at h1;rw [h1];exact g.symm
end
end Go.Proofs.YthdofaoamljkfaaGreatDoor
