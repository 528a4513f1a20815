/- Parts. -/
import Derived.Test.YtghimogdeijgdaaGreatDoorLaw17AllK7
import Derived.Sort.Grow
import Derived.RangeFuncNested
import Derived.RangeFuncBound
import Derived.RangeFuncCalls
import Derived.RangeFuncLeaves
import Derived.RangeFuncBox
import Derived.Shelf.Abstract
import Derived.Shelf.RegionOpen
import Derived.OwnWalkIn
import Derived.TacticsInMore
import Derived.LoopNIn
import Derived.LoopIn
import Derived.Deep.MidRow
import Derived.Laws.ResultCell
import Derived.Laws.IdiomCopy
set_option maxRecDepth 10000
set_option maxHeartbeats 16000000
set_option linter.unusedVariables false
set_option linter.unusedSimpArgs false
namespace Go.Proofs.YtghimogdeijgdaaGreatDoor
open Go.RowKit
open Go.Lib hiding intOf
attribute [local go_sem ↓] Go.wp_at_zero Go.wp_at_succ
def mayH (h : Hst) : Bool := namesB h.ss 20 && (namesB h.ks 40 && (txsB h && opsB h))
def errH (h : Hst) : Int := if mayH h = true then 0 else 4
structure HIn (w : World) (B : Nat) (A0 A1 A2 : Option Addr) (n0 n1 n2 : Nat) (h : Hst) : Prop where
 at_ : HAt w B A0 A1 A2 h
 n0 : h.ss.length = n0
 n1 : h.ks.length = n1
 n2 : h.l.length = n2
 sm : HSmall h
 u : UTabs w
theorem HIn.only {S : List Nat} {w w' : World} {B : Nat} {A0 A1 A2 : Option Addr} {n0 n1 n2 : Nat} {h : Hst} (g : HIn w B A0 A1 A2 n0 n1 n2 h) (ho : Only S w w') (hS : ∀ i ∈ S, B ≤ i) (hU : UTabs w') : HIn w' B A0 A1 A2 n0 n1 n2 h :=
 ⟨g.at_.only ho hS, g.n0, g.n1, g.n2, g.sm, hU⟩
theorem HIn.up {w : World} {B : Nat} {A0 A1 A2 : Option Addr} {n0 n1 n2 : Nat} {h : Hst} (g : HIn w B A0 A1 A2 n0 n1 n2 h) : HIn w w.heap.size A0 A1 A2 n0 n1 n2 h := ⟨g.at_.up, g.n0, g.n1, g.n2, g.sm, g.u⟩
theorem HIn.same {w w' : World} {B : Nat} {A0 A1 A2 : Option Addr} {n0 n1 n2 : Nat} {h : Hst} (g : HIn w B A0 A1 A2 n0 n1 n2 h) (ho : Only [] w w') : HIn w' B A0 A1 A2 n0 n1 n2 h :=
 g.only ho (fun _ h => by cases h) (g.u.only ho)
theorem mayH_no0 {h : Hst} (h0 : namesB h.ss 20 = false) : errH h = 4 := by unfold errH mayH; rw [h0]; rfl
theorem mayH_no1 {h : Hst} (h0 : namesB h.ss 20 = true) (h1 : namesB h.ks 40 = false) : errH h = 4 := by unfold errH mayH; rw [h0, h1]; rfl
theorem mayH_no2 {h : Hst} (h0 : namesB h.ss 20 = true) (h1 : namesB h.ks 40 = true) (h2 : txsB h = false) : errH h = 4 := by unfold errH mayH; rw [h0, h1, h2]; rfl
theorem mayH_no3 {h : Hst} (h0 : namesB h.ss 20 = true) (h1 : namesB h.ks 40 = true) (h2 : txsB h = true) (h3 : opsB h = false) : errH h = 4 := by unfold errH mayH; rw [h0, h1, h2, h3]; rfl
theorem mayH_yes {h : Hst} (h0 : namesB h.ss 20 = true) (h1 : namesB h.ks 40 = true) (h2 : txsB h = true) (h3 : opsB h = true) : errH h = 0 := by unfold errH mayH; rw [h0, h1, h2, h3]; rfl
theorem namesB_le {l : List ByteArray} {m : Nat} (h : namesB l m = true) : l.length ≤ m := by
 unfold namesB at h;simp at h;exact h.1
theorem hmay_any (A0 A1 A2 : Option Addr) (n0 n1 n2 c0 c1 c2 B : Nat) (h : Hst) (w : World) (hg : HIn w B A0 A1 A2 n0 n1 n2 h) :
  Calls Tryz.prog 22 #[hval A0 A1 A2 n0 n1 n2 c0 c1 c2] w fun e w' => e = .returned (.int .i64 (errH h)) ∧ Only [] w w' := by
 have HI := Hd hg;have HN0 := Hd (fun w' (O : Only [] w w') => names_any A0 n0 c0 B 20 h.ss w' hg.n0 (by have := hg.sm.ns; rw [hg.n0] at this; omega) hg.sm.s (hg.same O).at_.r0 (hg.same O).u);have HN1 := Hd (fun w' (O : Only [] w w') => names_any A1 n1 c1 B 40 h.ks w' hg.n1 (by have := hg.sm.nk; rw [hg.n1] at this; omega) hg.sm.k (hg.same O).at_.r1 (hg.same O).u);have HTX := Hd (fun (h0 : namesB h.ss 20 = true) w' (O : Only [] w w') => txs_any A0 A1 A2 n0 n1 n2 c0 c1 c2 B h w' (hg.same O).at_ hg.n0 hg.n2 (by have := namesB_le h0; rw [hg.n0] at this; exact this) (by have := hg.sm.nl; rw [hg.n2] at this; exact this));have HOP := Hd (fun (h0 : namesB h.ks 40 = true) w' (O : Only [] w w') => ops_any A0 A1 A2 n0 n1 n2 c0 c1 c2 B h w' (hg.same O).at_ hg.n1 hg.n2 (by have := namesB_le h0; rw [hg.n1] at this; exact this) (by have := hg.sm.nl; rw [hg.n2] at this; exact this) hg.sm.no);unfold hval at HTX HOP ⊢;have HO := Hd ((Only.refl [] w).alloc (.cells #[.slice A0 n0 c0, .slice A1 n1 c1, .slice A2 n2 c2] 25));have HB := Hd (Blk.made w 25 #[.slice A0 n0 c0, .slice A1 n1 c1, .slice A2 n2 c2]);clear hg;have F0 := Hd (HN0.out _ HO.out)
 cases h0 : namesB h.ss 20 with
 | false =>
  rw [h0] at F0;have HE := Hd (mayH_no0 h0);clear h0;go_enter Tryz.func22, Tryz.ntmps22;go_wp2_with fail
  refine (F0.out).mono ?_;rintro e w1 ⟨rfl, O1⟩;have HO1 := Hd (HO.out.trans O1);clear O1;go_wp2
  go_ret
  exact ⟨by rw [HE.out]; rfl, HO1.out⟩
 | true =>
  rw [h0] at F0;have HTX1 := Hd (HTX.out h0);have H0 := Hd h0;clear HTX h0;go_enter Tryz.func22, Tryz.ntmps22;go_wp2_with fail
  refine (F0.out).mono ?_;rintro e w1 ⟨rfl, O1⟩;have HO1 := Hd (HO.out.trans O1);have b1 := O1.blk HB.out (by simp);clear O1;have HB1 := Hd b1;have l1 := b1.lt;have x1 := b1.at_ 1;simp at x1;clear b1;have F1 := Hd (HN1.out _ HO1.out)
  cases h1 : namesB h.ks 40 with
  | false =>
   rw [h1] at F1;have HE := Hd (mayH_no1 H0.out h1);clear h1;go_wp2_with fail
   refine (F1.out).mono ?_;rintro e w2 ⟨rfl, O2⟩;have HO2 := Hd (HO1.out.trans O2);clear O2;go_wp2
   go_ret
   exact ⟨by rw [HE.out]; rfl, HO2.out⟩
  | true =>
   rw [h1] at F1;have HOP1 := Hd (HOP.out h1);have H1 := Hd h1;clear HOP h1;go_wp2_with fail
   refine (F1.out).mono ?_;rintro e w2 ⟨rfl, O2⟩;have HO2 := Hd (HO1.out.trans O2);have b2 := O2.blk HB1.out (by simp);clear O2 l1 x1;have HB2 := Hd b2;have l2 := b2.lt;have y0 := b2.at_ 0;have y1 := b2.at_ 1;have y2 := b2.at_ 2;simp at y0 y1 y2;clear b2;have F2 := Hd (HTX1.out _ HO2.out)
   cases h2 : txsB h with
   | false =>
    rw [h2] at F2;have HE := Hd (mayH_no2 H0.out H1.out h2);clear h2;go_wp2_with fail
    refine (F2.out).mono ?_;rintro e w3 ⟨rfl, O3⟩;have HO3 := Hd (HO2.out.trans O3);clear O3;go_wp2
    go_ret
    exact ⟨by rw [HE.out]; rfl, HO3.out⟩
   | true =>
    rw [h2] at F2;have H2 := Hd h2;clear h2;go_wp2_with fail
    refine (F2.out).mono ?_;rintro e w3 ⟨rfl, O3⟩;have HO3 := Hd (HO2.out.trans O3);have b3 := O3.blk HB2.out (by simp);clear O3 l2 y0 y1 y2;have l3 := b3.lt;have y0 := b3.at_ 0;have y1 := b3.at_ 1;have y2 := b3.at_ 2;simp at y0 y1 y2;clear b3;have F3 := Hd (HOP1.out _ HO3.out)
    cases h3 : opsB h with
    | false =>
     rw [h3] at F3;have HE := Hd (mayH_no3 H0.out H1.out H2.out h3);clear h3;go_wp2_with fail
     refine (F3.out).mono ?_;rintro e w4 ⟨rfl, O4⟩;have HO4 := Hd (HO3.out.trans O4);clear O4;go_wp2
     go_ret
     exact ⟨by rw [HE.out]; rfl, HO4.out⟩
    | true =>
     rw [h3] at F3;have HE := Hd (mayH_yes H0.out H1.out H2.out h3);clear h3;go_wp2_with fail
     refine (F3.out).mono ?_;rintro e w4 ⟨rfl, O4⟩;have HO4 := Hd (HO3.out.trans O4);clear O4;go_wp2
     go_ret
     exact ⟨by rw [HE.out]; rfl, HO4.out⟩
end Go.Proofs.YtghimogdeijgdaaGreatDoor
namespace Go.Proofs.YtghimogdeijgdaaGreatDoor
def whichL (p : Tx → Bool) (l : List Tx) : List Int := (l.zipIdx.filter fun x => p x.1).map fun x => (x.2 : Int)
theorem which_take {p : Tx → Bool} {l : List Tx} {k : Nat} {t : Tx} (h : l[k]? = some t) : whichL p (l.take (k + 1)) = whichL p (l.take k) ++ if p t = true then [(k : Int)] else [] := by
 have hk := (List.getElem?_eq_some_iff.1 h).1;unfold whichL;rw [List.take_add_one, h, List.zipIdx_append, List.filter_append, List.map_append, List.length_take, Nat.min_eq_left (Nat.le_of_lt hk)]
 by_cases hp : p t = true <;> simp [hp, List.zipIdx]
theorem which_le (p : Tx → Bool) (l : List Tx) : (whichL p l).length ≤ l.length := by
 unfold whichL;rw [List.length_map];exact Nat.le_trans (List.length_filter_le _ _) (by simp)

open Go.RowKit
structure ExV (w w' : World) : Prop where
 only : Only [] w w'
 drawn : w.drawn ≤ w'.drawn
section
variable {w w' w'' : World}
theorem ExV.refl (w : World) : ExV w w := ⟨Only.refl [] w, Nat.le_refl _⟩
theorem ExV.trans (h : ExV w w') (k : ExV w' w'') : ExV w w'' := ⟨h.only.trans k.only, Nat.le_trans h.drawn k.drawn⟩
theorem ExV.alloc (h : ExV w w') (o : Obj) : ExV w (w'.alloc o) := ⟨h.only.alloc o, h.drawn⟩
theorem ExV.drewN (h : ExV w w') (n : Nat) : ExV w (w'.drewN n) := ⟨h.only.drewN n, Nat.le_trans h.drawn (by show w'.drawn ≤ w'.drawn + n; omega)⟩
theorem ExV.drew (h : ExV w w') : ExV w w'.drew := ⟨h.only.drew, Nat.le_trans h.drawn (by show w'.drawn ≤ w'.drawn + 1; omega)⟩
theorem ExV.put (h : ExV w w') {p : Addr} (hp : p.block < w.heap.size → p.block ∈ ([] : List Nat)) (u : Value) : ExV w (w'.setCell p u) := ⟨h.only.put hp u, h.drawn⟩
theorem ExV.blk {g : Nat} {t : TypeId} {cs : Array Value} (h : ExV w w') (hb : Blk w g t cs) (hg : g ∉ ([] : List Nat)) : Blk w' g t cs := h.only.blk hb hg
theorem ExV.size (h : ExV w w') : w.heap.size ≤ w'.heap.size := h.only.size
end
theorem ExV.grown {w w' : World} (h : ExV w w') : ∃ q os, w' = Go.Sort.grow (w.drewN q) os := by
 have hb : Below w.heap.size w w' := h.only.below (Nat.le_refl _) (by simp);refine ⟨w'.drawn - w.drawn, w'.heap.extract w.heap.size w'.heap.size, ?_⟩;have hd := h.drawn;obtain ⟨heap', tape', drawn', os', output'⟩ := w';have e1 : os' = w.os := hb.os;have e2 : tape' = w.tape := hb.tape;have e3 : output' = w.output := hb.output;have hs : w.heap.size ≤ heap'.size := hb.size;have hk' : ∀ k, k < w.heap.size → heap'[k]? = w.heap[k]? := hb.block;have hd' : w.drawn ≤ drawn' := hd;subst e1 e2 e3;have eh : heap' = w.heap ++ heap'.extract w.heap.size heap'.size := by
  apply Array.ext_getElem?
  intro k
  by_cases hk : k < w.heap.size
  ·rw [Array.getElem?_append_left hk]; exact hk' k hk
  ·rw [Array.getElem?_append_right (by omega), Array.getElem?_extract]
   by_cases hk2 : k < heap'.size
   ·rw [if_pos (by omega)]; congr 1; omega
   ·rw [if_neg (by omega), Array.getElem?_eq_none (by omega)]
 have ed : w.drawn + (drawn' - w.drawn) = drawn' := by omega
 simp only [Go.Sort.grow, World.drewN, ed]
 congr 1
def bN (t n : Int) : Int := if t = 1 then n else 0
def bE (t : Int) : Int := if t = 0 ∨ t = 1 ∨ t = 2 then 0 else 15
def lessBV (k m k' m' : Int) : Bool := if k = k' then decide (k = 1 ∧ m < m') else decide (k < k')
def cK (k : Int) : Int := if k = 1 then 1 else if k = 2 then 2 else 0
def cN (k n : Int) : Int := if k = 1 then n else 0
def lessV (a b : Int × Int) : Bool := mayB a.1 a.2 && mayB b.1 b.2 && lessBV (cK a.1) (cN a.1 a.2) (cK b.1) (cN b.1 b.2)
end Go.Proofs.YtghimogdeijgdaaGreatDoor
namespace Go.Proofs.YtghimogdeijgdaaGreatDoor
open Go.Lib
def mayP (a : Int × Int) : Bool := mayB a.1 a.2
theorem lessB_spec (k m k' m' : Int) : lessBV k m k' m' = true ↔ (k < k' ∨ (k = k' ∧ k = 1 ∧ m < m')) := by
 unfold lessBV
 by_cases h : k = k'
 ·rw [if_pos h]; simp; omega
 ·rw [if_neg h]; simp; omega
theorem may_spec (a : Int × Int) : mayP a = true ↔ (a.1 = 1 ∨ ((a.1 = 0 ∨ a.1 = 2) ∧ a.2 = 0)) := by
 unfold mayP mayB;simp
theorem lessV_spec (a b : Int × Int) : lessV a b = true ↔ mayP a = true ∧ mayP b = true ∧ (a.1 < b.1 ∨ (a.1 = b.1 ∧ a.1 = 1 ∧ a.2 < b.2)) := by
 unfold lessV;rw [Bool.and_eq_true, Bool.and_eq_true, lessB_spec, and_assoc]
 show mayP a = true ∧ mayP b = true ∧ _ ↔ _
 constructor
 ·rintro ⟨ha, hb, h⟩;refine ⟨ha, hb, ?_⟩;rw [may_spec] at ha hb;unfold cK cN at h;rcases ha with ha | ⟨ha | ha, ha2⟩ <;> rcases hb with hb | ⟨hb | hb, hb2⟩ <;> simp [ha, hb] at h ⊢ <;> omega
 ·rintro ⟨ha, hb, h⟩;refine ⟨ha, hb, ?_⟩;rw [may_spec] at ha hb;unfold cK cN;rcases ha with ha | ⟨ha | ha, ha2⟩ <;> rcases hb with hb | ⟨hb | hb, hb2⟩ <;> simp [ha, hb] at h ⊢ <;> omega
theorem lessV_irr (a : Int × Int) : lessV a a = false := by
 cases h : lessV a a with
 | false => rfl
 | true => obtain ⟨_, _, h⟩ := (lessV_spec a a).1 h; omega
theorem lessV_trans {a b c : Int × Int} (h1 : lessV a b = true) (h2 : lessV b c = true) : lessV a c = true := by
 obtain ⟨ha, hb, h1⟩ := (lessV_spec a b).1 h1;obtain ⟨_, hc, h2⟩ := (lessV_spec b c).1 h2;exact (lessV_spec a c).2 ⟨ha, hc, by omega⟩
theorem lessV_asym {a b : Int × Int} (h : lessV a b = true) : lessV b a = false := by
 cases h2 : lessV b a with
 | false => rfl
 | true =>
  have := lessV_trans h h2;rw [lessV_irr] at this
  cases this
theorem lessV_total {a b : Int × Int} (ha : mayP a = true) (hb : mayP b = true) (h1 : lessV a b = false) (h2 : lessV b a = false) : a = b := by
 have n1 : ¬ (a.1 < b.1 ∨ (a.1 = b.1 ∧ a.1 = 1 ∧ a.2 < b.2)) := fun h => by
  rw [(lessV_spec a b).2 ⟨ha, hb, h⟩] at h1
  cases h1
 have n2 : ¬ (b.1 < a.1 ∨ (b.1 = a.1 ∧ b.1 = 1 ∧ b.2 < a.2)) := fun h => by
  rw [(lessV_spec b a).2 ⟨hb, ha, h⟩] at h2
  cases h2
 rw [may_spec] at ha hb;have e1 : a.1 = b.1 := by omega
 have e2 : a.2 = b.2 := by omega
 exact Prod.ext e1 e2
def RisingV (l : List (Int × Int)) : Prop := l.Pairwise fun a b => lessV a b = true
theorem rising_uniqueV : ∀ l m : List (Int × Int), RisingV l → RisingV m → (∀ x, x ∈ l ↔ x ∈ m) → l = m
 | [], [], _, _, _ => rfl
 | [], y :: m, _, _, h => by have := (h y).2 (List.mem_cons_self ..); cases this
 | x :: l, [], _, _, h => by have := (h x).1 (List.mem_cons_self ..); cases this
 | x :: l, y :: m, hl, hm, h => by
  obtain ⟨hx, hl2⟩ := List.pairwise_cons.1 hl;obtain ⟨hy, hm2⟩ := List.pairwise_cons.1 hm;have exy : x = y := by
   rcases List.mem_cons.1 ((h x).1 (List.mem_cons_self ..)) with e | e
   ·exact e
   ·rcases List.mem_cons.1 ((h y).2 (List.mem_cons_self ..)) with e2 | e2
    ·exact e2.symm
    ·have h1 := hy x e;have h2 := hx y e2;rw [lessV_asym h1] at h2
     cases h2
  subst exy;have : l = m := by
   refine rising_uniqueV l m hl2 hm2 fun z => ⟨fun hz => ?_, fun hz => ?_⟩
   ·rcases List.mem_cons.1 ((h z).1 (List.mem_cons_of_mem _ hz)) with e | e
    ·subst e;have := hx z hz;rw [lessV_irr] at this
     cases this
    ·exact e
   ·rcases List.mem_cons.1 ((h z).2 (List.mem_cons_of_mem _ hz)) with e | e
    ·subst e;have := hy z hz;rw [lessV_irr] at this
     cases this
    ·exact e
  rw [this]
def aheadOfV (out : List (Int × Int)) (x : (Int × Int)) : Nat := (out.takeWhile fun y => lessV y x).length
def insV (out : List (Int × Int)) (x : (Int × Int)) : List (Int × Int) :=
 if mayP x = true then (if out[aheadOfV out x]? = some x then out else out.take (aheadOfV out x) ++ x :: out.drop (aheadOfV out x)) else out
def sortV (l : List (Int × Int)) : List (Int × Int) := l.foldl insV []
theorem ahead_splitV (out : List (Int × Int)) (x : (Int × Int)) : out.take (aheadOfV out x) = out.takeWhile (fun y => lessV y x) ∧ out.drop (aheadOfV out x) = out.dropWhile (fun y => lessV y x) := by
 have h := List.takeWhile_append_dropWhile (p := fun y => lessV y x) (l := out);have h1 := congrArg (List.take (out.takeWhile fun y => lessV y x).length) h;have h2 := congrArg (List.drop (out.takeWhile fun y => lessV y x).length) h;rw [List.take_left] at h1;rw [List.drop_left] at h2;exact ⟨h1.symm, h2.symm⟩
structure Vals (out : List (Int × Int)) : Prop where
 rise : RisingV out
 may : ∀ x ∈ out, mayP x = true
theorem vals_nil : Vals [] := ⟨List.Pairwise.nil, fun x h => (by cases h)⟩
theorem drop_headV {p : (Int × Int) → Bool} : ∀ {l : List (Int × Int)} {y : (Int × Int)} {t : List (Int × Int)}, l.dropWhile p = y :: t → p y = false
 | x :: l, y, t, h => by
  by_cases hx : p x = true
  ·rw [List.dropWhile_cons_of_pos hx] at h;exact drop_headV h
  ·rw [List.dropWhile_cons_of_neg hx] at h;obtain ⟨rfl, -⟩ := List.cons.inj h
   simpa using hx
theorem vtake_all {p : (Int × Int) → Bool} : ∀ (l : List (Int × Int)), ∀ y ∈ l.takeWhile p, p y = true
 | x :: l, y, h => by
  by_cases hx : p x = true
  ·rw [List.takeWhile_cons_of_pos hx] at h;rcases List.mem_cons.1 h with rfl | h
   ·exact hx
   ·exact vtake_all l y h
  ·rw [List.takeWhile_cons_of_neg hx] at h
   cases h
theorem ins_vals {out : List (Int × Int)} (h : Vals out) (x : (Int × Int)) : Vals (insV out x) ∧ ∀ y, y ∈ insV out x ↔ y ∈ out ∨ (y = x ∧ mayP x = true) := by
 unfold insV
 by_cases hx : mayP x = true
 ·rw [if_pos hx]
  by_cases he : out[aheadOfV out x]? = some x
  ·rw [if_pos he];refine ⟨h, fun y => ⟨.inl, ?_⟩⟩;rintro (hy | ⟨rfl, -⟩)
   ·exact hy
   ·exact List.mem_of_getElem? he
  ·rw [if_neg he];obtain ⟨h1, h2⟩ := ahead_splitV out x;have happ : out.take (aheadOfV out x) ++ out.drop (aheadOfV out x) = out := List.take_append_drop _ _;have hall := vtake_all (p := fun y => lessV y x) out;rw [← h1] at hall;have hrest : ∀ y ∈ out.drop (aheadOfV out x), lessV x y = true := by
    cases hd : out.drop (aheadOfV out x) with
    | nil => intro y hy; cases hy
    | cons z t =>
     have hz : lessV z x = false := drop_headV (p := fun y => lessV y x) (by rw [← h2]; exact hd);have hzm : z ∈ out := by rw [← happ, hd]; simp
     have hzx : z ≠ x := fun e => he (by
      have : (out.drop (aheadOfV out x))[0]? = some z := by rw [hd]; rfl
      rw [List.getElem?_drop, Nat.add_zero] at this;rw [this, e])
     have hxz : lessV x z = true := by
      cases hc : lessV x z with
      | true => rfl
      | false => exact absurd (lessV_total (h.may z hzm) hx hz hc) hzx
     have hr := h.rise;rw [← happ, hd] at hr;have hr2 := (List.pairwise_append.1 hr).2.1;intro y hy;rcases List.mem_cons.1 hy with rfl | hy
     ·exact hxz
     ·exact lessV_trans hxz ((List.pairwise_cons.1 hr2).1 y hy)
   have hr := h.rise;unfold RisingV at hr;rw [← happ] at hr;obtain ⟨ra, rb, rab⟩ := List.pairwise_append.1 hr;refine ⟨⟨?_, ?_⟩, fun y => ?_⟩
   ·refine List.pairwise_append.2 ⟨ra, List.pairwise_cons.2 ⟨hrest, rb⟩, fun a ha b hb => ?_⟩;rcases List.mem_cons.1 hb with rfl | hb
    ·exact hall a ha
    ·exact rab a ha b hb
   ·intro y hy;rcases List.mem_append.1 hy with hy | hy
    ·exact h.may y (List.mem_of_mem_take hy)
    ·rcases List.mem_cons.1 hy with rfl | hy
     ·exact hx
     ·exact h.may y (List.mem_of_mem_drop hy)
   ·constructor
    ·intro hy;rcases List.mem_append.1 hy with hy | hy
     ·exact .inl (List.mem_of_mem_take hy)
     ·rcases List.mem_cons.1 hy with rfl | hy
      ·exact .inr ⟨rfl, hx⟩
      ·exact .inl (List.mem_of_mem_drop hy)
    ·rintro (hy | ⟨rfl, -⟩)
     ·rw [← happ] at hy;rcases List.mem_append.1 hy with hy | hy
      ·exact List.mem_append.2 (.inl hy)
      ·exact List.mem_append.2 (.inr (List.mem_cons_of_mem _ hy))
     ·exact List.mem_append.2 (.inr (List.mem_cons_self ..))
 ·rw [if_neg hx];refine ⟨h, fun y => ⟨.inl, ?_⟩⟩;rintro (hy | ⟨-, hc⟩)
  ·exact hy
  ·exact absurd hc hx
theorem fold_vals : ∀ (l out : List (Int × Int)), Vals out → Vals (l.foldl insV out) ∧ ∀ y, y ∈ l.foldl insV out ↔ y ∈ out ∨ (y ∈ l ∧ mayP y = true)
 | [], out, h => ⟨h, fun y => by simp⟩
 | x :: l, out, h => by
  obtain ⟨h1, h2⟩ := ins_vals h x;obtain ⟨h3, h4⟩ := fold_vals l (insV out x) h1;refine ⟨h3, fun y => ?_⟩;rw [List.foldl_cons, h4, h2]
  constructor
  ·rintro ((h | ⟨rfl, h⟩) | ⟨h, h'⟩)
   ·exact .inl h
   ·exact .inr ⟨List.mem_cons_self .., h⟩
   ·exact .inr ⟨List.mem_cons_of_mem _ h, h'⟩
  ·rintro (h | ⟨h, h'⟩)
   ·exact .inl (.inl h)
   ·rcases List.mem_cons.1 h with rfl | h
    ·exact .inl (.inr ⟨rfl, h'⟩)
    ·exact .inr ⟨h, h'⟩
theorem sortV_vals (l : List (Int × Int)) : Vals (sortV l) ∧ ∀ y, y ∈ sortV l ↔ y ∈ l ∧ mayP y = true := by
 obtain ⟨h1, h2⟩ := fold_vals l [] vals_nil;exact ⟨h1, fun y => by rw [show sortV l = l.foldl insV [] from rfl, h2]; simp⟩
theorem sortV_unique {l m : List (Int × Int)} (hr : RisingV m) (hm : ∀ y, y ∈ m ↔ y ∈ l ∧ mayP y = true) : m = sortV l :=
 rising_uniqueV m (sortV l) hr (sortV_vals l).1.rise fun y => by rw [hm, (sortV_vals l).2]
end Go.Proofs.YtghimogdeijgdaaGreatDoor
namespace Go.Proofs.YtghimogdeijgdaaGreatDoor
def forT (a key : Int) (i : Nat) (t : Tx) : Option (Int × Int) := if (i : Int) = a ∨ t.f = 2 then none else leftW key t.ops
def leftL (a key : Int) (l : List Tx) : List (Int × Int) := l.zipIdx.filterMap fun x => forT a key x.2 x.1
def valsO (a key : Int) (l : List Tx) : List (Int × Int) := (0, 0) :: leftL a key l
def hitN (key n : Int) (o : Op4) : Bool := o.wr && (decide (o.key = key) && decide (o.vn = n))
def wroteN (l : List Tx) (key n : Int) : Bool := l.any fun t => t.ops.any (hitN key n)
def freshN (l : List Tx) (key : Int) : Nat := ((List.range 2000).find? fun n : Nat => !wroteN l key (n : Int)).getD 0
open Go.RowKit Go.Shelf
open Go.Lib hiding intOf
attribute [local go_sem] Oper.semAt_some
theorem OpAt.belowB {B : Nat} {w w' : World} {b o : Nat} {x : Op4} (h : OpAt w b o x) (ho : Below B w w') (hb : b < B) : OpAt w' b o x :=
 ⟨(ho.cell (p := ⟨b, o, none⟩) hb).trans h.c0, (ho.cell (p := ⟨b, o + 1, none⟩) hb).trans h.c1, (ho.cell (p := ⟨b, o + 2, none⟩) hb).trans h.c2, (ho.cell (p := ⟨b, o + 3, none⟩) hb).trans h.c3⟩
theorem TxAt.belowB {B : Nat} {w w' : World} {b o : Nat} {x : TxA} (h : TxAt w b o x) (ho : Below B w w') (hb : b < B) : TxAt w' b o x :=
 ⟨(ho.cell (p := ⟨b, o, none⟩) hb).trans h.c0, (ho.cell (p := ⟨b, o + 1, none⟩) hb).trans h.c1, (ho.cell (p := ⟨b, o + 2, none⟩) hb).trans h.c2⟩
theorem blk_own {β : Type} (B : Nat) (t : TypeId) (f : β → Array Value) : Own (fun s W => Blk W B t (f s)) := fun s X Y row hs hg hrow =>
 (hg.block B hs.lt (fun e' => by obtain ⟨o, ho, hc⟩ := hrow B e'.symm; rw [show X.heap[B]? = _ from hs] at ho; cases ho; cases hc)).trans hs
end Go.Proofs.YtghimogdeijgdaaGreatDoor
namespace Go.Proofs.YtghimogdeijgdaaGreatDoor
open Go.RowKit
section
variable {P : Program}
theorem results_row1 {fn : Func} {p : Tmp} {ty : TypeId} (h : fn.results = #[.cell p ty]) (tmps : Array Value) (w : World) (g : Nat) (t : TypeId) (cs : Array Value) (d : TypeDesc)
  (hp : tmps.getD p undef = .pointer (some ⟨g, 0, none⟩)) (hg : Blk w g t cs) (hu : P.underlying ty = some d) (hd : d.isRow = true) (hi : (P.info? ty).map (·.size) = some cs.size) :
  (results fn tmps).run P w = .ok (.agg cs) w :=
 results_cell_row h tmps w g t cs (0, 0) d hp hg hu (by cases d <;> simp_all) hi
theorem results_row2 {fn : Func} {p u : Tmp} {ty : TypeId} (h : fn.results = #[.cell p ty, .tmp u]) (tmps : Array Value) (w : World) (g : Nat) (t : TypeId) (cs : Array Value) (d : TypeDesc)
  (hp : tmps.getD p undef = .pointer (some ⟨g, 0, none⟩)) (hg : Blk w g t cs) (hu : P.underlying ty = some d) (hd : d.isRow = true) (hi : (P.info? ty).map (·.size) = some cs.size) :
  (results fn tmps).run P w = .ok (.tuple #[.agg cs, tmps.getD u undef]) w := by
 have hl := run_loadVar_row (P := P) w g t ty cs (0, 0) d hg hu (by cases d <;> simp_all) hi;rw [results_cell_tmp h, hp];simp [asAddr, hl, Result.andThen]
theorem results_row3 {fn : Func} {p u v : Tmp} {ty : TypeId} (h : fn.results = #[.cell p ty, .tmp u, .tmp v]) (tmps : Array Value) (w : World) (g : Nat) (t : TypeId) (cs : Array Value) (d : TypeDesc)
  (hp : tmps.getD p undef = .pointer (some ⟨g, 0, none⟩)) (hg : Blk w g t cs) (hu : P.underlying ty = some d) (hd : d.isRow = true) (hi : (P.info? ty).map (·.size) = some cs.size) :
  (results fn tmps).run P w = .ok (.tuple #[.agg cs, tmps.getD u undef, tmps.getD v undef]) w := by
 have hp' : tmps[p]?.getD undef = .pointer (some ⟨g, 0, none⟩) := by simpa using hp
 have hl := run_loadVar_row (P := P) w g t ty cs (0, 0) d hg hu (by cases d <;> simp_all) hi;simp only [results, h];simp [Sem.run_bind, Result.andThen, hp', asAddr, hl]
end
theorem Blk.there {w : World} {g : Nat} {t : TypeId} {cs : Array Value} (h : Blk w g t cs) : w.there g 0 cs.size := fun j hj => by
 rw [Nat.zero_add];exact ⟨by rw [h.at_ j]; simp [hj], h.free j⟩
theorem setCells_only (g : Nat) : ∀ (vs : List Value) (o : Nat) (S : List Nat) (w w' : World), Only S w w' → (g < w.heap.size → g ∈ S) → Only S w (w'.setCells g o vs)
 | [], _, _, _, _, h, _ => h
 | v :: vs, o, S, w, w', h, hg => setCells_only g vs (o + 1) S w _ (h.put (p := ⟨g, o, none⟩) hg v) hg
theorem Only.putAll {S : List Nat} {w w' : World} (h : Only S w w') {g : Nat} (hg : g < w.heap.size → g ∈ S) (vs : List Value) : Only S w (w'.setCells g 0 vs) := setCells_only g vs 0 S w w' h hg
theorem setCells_blk (g : Nat) (t : TypeId) : ∀ (vs : List Value) (o : Nat) (w : World) (cs : Array Value), Blk w g t cs → o + vs.length = cs.size → Blk (w.setCells g o vs) g t (cs.toList.take o ++ vs).toArray
 | [], o, w, cs, h, hl => by
  have e : (cs.toList.take o ++ []).toArray = cs := by
   rw [List.append_nil, List.take_of_length_le (by simp at hl ⊢; omega)]
  rw [e];exact h
 | v :: vs, o, w, cs, h, hl => by
  have h1 := h.put o v;have hl2 : o < cs.size := by simp at hl; omega
  have h2 := setCells_blk g t vs (o + 1) _ _ h1 (by simp at hl ⊢; omega);have e : (cs.setIfInBounds o v).toList.take (o + 1) ++ vs = cs.toList.take o ++ v :: vs := by
   rw [Array.toList_setIfInBounds, List.take_add_one, List.take_set_of_le (by omega)];simp [hl2]
  rw [e] at h2;exact h2
theorem Blk.putAll {w : World} {g : Nat} {t : TypeId} {cs : Array Value} (h : Blk w g t cs) (vs : List Value) (hl : vs.length = cs.size) : Blk (w.setCells g 0 vs) g t vs.toArray := by
 have := setCells_blk g t vs 0 w cs h (by simpa using hl)
 simpa using this
theorem Blk.range {w : World} {g : Nat} {t : TypeId} {cs : Array Value} (h : Blk w g t cs) : w.rangeAt g 0 cs.toList := fun j v hj => by
 rw [Nat.zero_add, h.at_ j]
 simpa using hj
theorem wp_store_blk {P : Program} {op : Oper} {a : Act} {w : World} {K : Act → World → Prop} {Q : Exit → Act → World → Prop} (ty : TypeId) (x y : Operand) (ho : op.op = .store ty x y)
  (g : Nat) (t : TypeId) (cs cells : Array Value) (hx : a.eval x = .pointer (some ⟨g, 0, none⟩)) (hy : a.eval y = .agg cells)
  (hb : Blk w g t cs) (hl : cells.size = cs.size) (hi : (P.info? ty).map (·.size) = some cells.size) (h1 : cells.all (·.oneCell') = true)
  (h : ∀ w', Blk w' g t cells → Only [g] w w' → K (a.put op.dst undef) w') : op.wp P a w K Q :=
 wp_store_mid ty x y ho g 0 cells hx hy (by rw [hl]; exact hb.there) hi h1 (h _ (by have := hb.putAll cells.toList (by simpa using hl); simpa using this) ((Only.refl [g] w).putAll (fun _ => by simp) _))
end Go.Proofs.YtghimogdeijgdaaGreatDoor
