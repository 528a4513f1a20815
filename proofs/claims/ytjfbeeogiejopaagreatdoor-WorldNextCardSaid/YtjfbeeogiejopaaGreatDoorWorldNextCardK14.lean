/- Parts. -/
import Derived.Test.YtjfbeeogiejopaaGreatDoorWorldNextCardK13
import Derived.RangeFuncNested
import Derived.RangeFuncBound
import Derived.RangeFuncCalls
import Derived.RangeFuncLeaves
import Derived.RangeFuncBox
import Derived.Shelf.Abstract
import Derived.Shelf.RegionOpen
import Derived.OwnWalkIn
import Derived.TacticsInMore
import Derived.LoopNIn
import Derived.LoopIn
set_option maxRecDepth 10000
set_option maxHeartbeats 16000000
set_option linter.unusedVariables false
set_option linter.unusedSimpArgs false
namespace Go.Proofs.YtjfbeeogiejopaaGreatDoor
open Go.Lib
def mayP (a : Int × Int) : Bool := mayB a.1 a.2
theorem lessB_spec (k m k' m' : Int) : lessBV k m k' m' = true ↔ (k < k' ∨ (k = k' ∧ k = 1 ∧ m < m')) := by
 unfold lessBV
 by_cases h : k = k'
 ·rw [if_pos h]; simp; omega
 ·rw [if_neg h]; simp; omega
theorem may_spec (a : Int × Int) : mayP a = true ↔ (a.1 = 1 ∨ ((a.1 = 0 ∨ a.1 = 2) ∧ a.2 = 0)) := by
 unfold mayP mayB;simp
theorem lessV_spec (a b : Int × Int) : lessV a b = true ↔ mayP a = true ∧ mayP b = true ∧ (a.1 < b.1 ∨ (a.1 = b.1 ∧ a.1 = 1 ∧ a.2 < b.2)) := by
 unfold lessV;rw [Bool.and_eq_true, Bool.and_eq_true, lessB_spec, and_assoc]
 show mayP a = true ∧ mayP b = true ∧ _ ↔ _
 constructor
 ·rintro ⟨ha, hb, h⟩;refine ⟨ha, hb, ?_⟩;rw [may_spec] at ha hb;unfold cK cN at h;rcases ha with ha | ⟨ha | ha, ha2⟩ <;> rcases hb with hb | ⟨hb | hb, hb2⟩ <;> simp [ha, hb] at h ⊢ <;> omega
 ·rintro ⟨ha, hb, h⟩;refine ⟨ha, hb, ?_⟩;rw [may_spec] at ha hb;unfold cK cN;rcases ha with ha | ⟨ha | ha, ha2⟩ <;> rcases hb with hb | ⟨hb | hb, hb2⟩ <;> simp [ha, hb] at h ⊢ <;> omega
theorem lessV_irr (a : Int × Int) : lessV a a = false := by
 cases h : lessV a a with
 | false => rfl
 | true => obtain ⟨_, _, h⟩ := (lessV_spec a a).1 h; omega
theorem lessV_trans {a b c : Int × Int} (h1 : lessV a b = true) (h2 : lessV b c = true) : lessV a c = true := by
 obtain ⟨ha, hb, h1⟩ := (lessV_spec a b).1 h1;obtain ⟨_, hc, h2⟩ := (lessV_spec b c).1 h2;exact (lessV_spec a c).2 ⟨ha, hc, by omega⟩
theorem lessV_asym {a b : Int × Int} (h : lessV a b = true) : lessV b a = false := by
 cases h2 : lessV b a with
 | false => rfl
 | true =>
  have := lessV_trans h h2;rw [lessV_irr] at this
  cases this
theorem lessV_total {a b : Int × Int} (ha : mayP a = true) (hb : mayP b = true) (h1 : lessV a b = false) (h2 : lessV b a = false) : a = b := by
 have n1 : ¬ (a.1 < b.1 ∨ (a.1 = b.1 ∧ a.1 = 1 ∧ a.2 < b.2)) := fun h => by
  rw [(lessV_spec a b).2 ⟨ha, hb, h⟩] at h1
  cases h1
 have n2 : ¬ (b.1 < a.1 ∨ (b.1 = a.1 ∧ b.1 = 1 ∧ b.2 < a.2)) := fun h => by
  rw [(lessV_spec b a).2 ⟨hb, ha, h⟩] at h2
  cases h2
 rw [may_spec] at ha hb;have e1 : a.1 = b.1 := by omega
 have e2 : a.2 = b.2 := by omega
 exact Prod.ext e1 e2
def RisingV (l : List (Int × Int)) : Prop := l.Pairwise fun a b => lessV a b = true
theorem rising_uniqueV : ∀ l m : List (Int × Int), RisingV l → RisingV m → (∀ x, x ∈ l ↔ x ∈ m) → l = m
 | [], [], _, _, _ => rfl
 | [], y :: m, _, _, h => by have := (h y).2 (List.mem_cons_self ..); cases this
 | x :: l, [], _, _, h => by have := (h x).1 (List.mem_cons_self ..); cases this
 | x :: l, y :: m, hl, hm, h => by
  obtain ⟨hx, hl2⟩ := List.pairwise_cons.1 hl;obtain ⟨hy, hm2⟩ := List.pairwise_cons.1 hm;have exy : x = y := by
   rcases List.mem_cons.1 ((h x).1 (List.mem_cons_self ..)) with e | e
   ·exact e
   ·rcases List.mem_cons.1 ((h y).2 (List.mem_cons_self ..)) with e2 | e2
    ·exact e2.symm
    ·have h1 := hy x e;have h2 := hx y e2;rw [lessV_asym h1] at h2
     cases h2
  subst exy;have : l = m := by
   refine rising_uniqueV l m hl2 hm2 fun z => ⟨fun hz => ?_, fun hz => ?_⟩
   ·rcases List.mem_cons.1 ((h z).1 (List.mem_cons_of_mem _ hz)) with e | e
    ·subst e;have := hx z hz;rw [lessV_irr] at this
     cases this
    ·exact e
   ·rcases List.mem_cons.1 ((h z).2 (List.mem_cons_of_mem _ hz)) with e | e
    ·subst e;have := hy z hz;rw [lessV_irr] at this
     cases this
    ·exact e
  rw [this]
def aheadOfV (out : List (Int × Int)) (x : (Int × Int)) : Nat := (out.takeWhile fun y => lessV y x).length
def insV (out : List (Int × Int)) (x : (Int × Int)) : List (Int × Int) :=
 if mayP x = true then (if out[aheadOfV out x]? = some x then out else out.take (aheadOfV out x) ++ x :: out.drop (aheadOfV out x)) else out
def sortV (l : List (Int × Int)) : List (Int × Int) := l.foldl insV []
theorem ahead_leV (out : List (Int × Int)) (x : (Int × Int)) : aheadOfV out x ≤ out.length := (List.takeWhile_sublist _).length_le
theorem ahead_splitV (out : List (Int × Int)) (x : (Int × Int)) : out.take (aheadOfV out x) = out.takeWhile (fun y => lessV y x) ∧ out.drop (aheadOfV out x) = out.dropWhile (fun y => lessV y x) := by
 have h := List.takeWhile_append_dropWhile (p := fun y => lessV y x) (l := out);have h1 := congrArg (List.take (out.takeWhile fun y => lessV y x).length) h;have h2 := congrArg (List.drop (out.takeWhile fun y => lessV y x).length) h;rw [List.take_left] at h1;rw [List.drop_left] at h2;exact ⟨h1.symm, h2.symm⟩
structure Vals (out : List (Int × Int)) : Prop where
 rise : RisingV out
 may : ∀ x ∈ out, mayP x = true
theorem vals_nil : Vals [] := ⟨List.Pairwise.nil, fun x h => (by cases h)⟩
theorem drop_headV {p : (Int × Int) → Bool} : ∀ {l : List (Int × Int)} {y : (Int × Int)} {t : List (Int × Int)}, l.dropWhile p = y :: t → p y = false
 | x :: l, y, t, h => by
  by_cases hx : p x = true
  ·rw [List.dropWhile_cons_of_pos hx] at h;exact drop_headV h
  ·rw [List.dropWhile_cons_of_neg hx] at h;obtain ⟨rfl, -⟩ := List.cons.inj h
   simpa using hx
theorem vtake_all {p : (Int × Int) → Bool} : ∀ (l : List (Int × Int)), ∀ y ∈ l.takeWhile p, p y = true
 | x :: l, y, h => by
  by_cases hx : p x = true
  ·rw [List.takeWhile_cons_of_pos hx] at h;rcases List.mem_cons.1 h with rfl | h
   ·exact hx
   ·exact vtake_all l y h
  ·rw [List.takeWhile_cons_of_neg hx] at h
   cases h
theorem ins_vals {out : List (Int × Int)} (h : Vals out) (x : (Int × Int)) : Vals (insV out x) ∧ ∀ y, y ∈ insV out x ↔ y ∈ out ∨ (y = x ∧ mayP x = true) := by
 unfold insV
 by_cases hx : mayP x = true
 ·rw [if_pos hx]
  by_cases he : out[aheadOfV out x]? = some x
  ·rw [if_pos he];refine ⟨h, fun y => ⟨.inl, ?_⟩⟩;rintro (hy | ⟨rfl, -⟩)
   ·exact hy
   ·exact List.mem_of_getElem? he
  ·rw [if_neg he];obtain ⟨h1, h2⟩ := ahead_splitV out x;have happ : out.take (aheadOfV out x) ++ out.drop (aheadOfV out x) = out := List.take_append_drop _ _;have hall := vtake_all (p := fun y => lessV y x) out;rw [← h1] at hall;have hrest : ∀ y ∈ out.drop (aheadOfV out x), lessV x y = true := by
    cases hd : out.drop (aheadOfV out x) with
    | nil => intro y hy; cases hy
    | cons z t =>
     have hz : lessV z x = false := drop_headV (p := fun y => lessV y x) (by rw [← h2]; exact hd);have hzm : z ∈ out := by rw [← happ, hd]; simp
     have hzx : z ≠ x := fun e => he (by
      have : (out.drop (aheadOfV out x))[0]? = some z := by rw [hd]; rfl
      rw [List.getElem?_drop, Nat.add_zero] at this;rw [this, e])
     have hxz : lessV x z = true := by
      cases hc : lessV x z with
      | true => rfl
      | false => exact absurd (lessV_total (h.may z hzm) hx hz hc) hzx
     have hr := h.rise;rw [← happ, hd] at hr;have hr2 := (List.pairwise_append.1 hr).2.1;intro y hy;rcases List.mem_cons.1 hy with rfl | hy
     ·exact hxz
     ·exact lessV_trans hxz ((List.pairwise_cons.1 hr2).1 y hy)
   have hr := h.rise;unfold RisingV at hr;rw [← happ] at hr;obtain ⟨ra, rb, rab⟩ := List.pairwise_append.1 hr;refine ⟨⟨?_, ?_⟩, fun y => ?_⟩
   ·refine List.pairwise_append.2 ⟨ra, List.pairwise_cons.2 ⟨hrest, rb⟩, fun a ha b hb => ?_⟩;rcases List.mem_cons.1 hb with rfl | hb
    ·exact hall a ha
    ·exact rab a ha b hb
   ·intro y hy;rcases List.mem_append.1 hy with hy | hy
    ·exact h.may y (List.mem_of_mem_take hy)
    ·rcases List.mem_cons.1 hy with rfl | hy
     ·exact hx
     ·exact h.may y (List.mem_of_mem_drop hy)
   ·constructor
    ·intro hy;rcases List.mem_append.1 hy with hy | hy
     ·exact .inl (List.mem_of_mem_take hy)
     ·rcases List.mem_cons.1 hy with rfl | hy
      ·exact .inr ⟨rfl, hx⟩
      ·exact .inl (List.mem_of_mem_drop hy)
    ·rintro (hy | ⟨rfl, -⟩)
     ·rw [← happ] at hy;rcases List.mem_append.1 hy with hy | hy
      ·exact List.mem_append.2 (.inl hy)
      ·exact List.mem_append.2 (.inr (List.mem_cons_of_mem _ hy))
     ·exact List.mem_append.2 (.inr (List.mem_cons_self ..))
 ·rw [if_neg hx];refine ⟨h, fun y => ⟨.inl, ?_⟩⟩;rintro (hy | ⟨-, hc⟩)
  ·exact hy
  ·exact absurd hc hx
theorem fold_vals : ∀ (l out : List (Int × Int)), Vals out → Vals (l.foldl insV out) ∧ ∀ y, y ∈ l.foldl insV out ↔ y ∈ out ∨ (y ∈ l ∧ mayP y = true)
 | [], out, h => ⟨h, fun y => by simp⟩
 | x :: l, out, h => by
  obtain ⟨h1, h2⟩ := ins_vals h x;obtain ⟨h3, h4⟩ := fold_vals l (insV out x) h1;refine ⟨h3, fun y => ?_⟩;rw [List.foldl_cons, h4, h2]
  constructor
  ·rintro ((h | ⟨rfl, h⟩) | ⟨h, h'⟩)
   ·exact .inl h
   ·exact .inr ⟨List.mem_cons_self .., h⟩
   ·exact .inr ⟨List.mem_cons_of_mem _ h, h'⟩
  ·rintro (h | ⟨h, h'⟩)
   ·exact .inl (.inl h)
   ·rcases List.mem_cons.1 h with rfl | h
    ·exact .inl (.inr ⟨rfl, h'⟩)
    ·exact .inr ⟨h, h'⟩
theorem sortV_vals (l : List (Int × Int)) : Vals (sortV l) ∧ ∀ y, y ∈ sortV l ↔ y ∈ l ∧ mayP y = true := by
 obtain ⟨h1, h2⟩ := fold_vals l [] vals_nil;exact ⟨h1, fun y => by rw [show sortV l = l.foldl insV [] from rfl, h2]; simp⟩
theorem sortV_unique {l m : List (Int × Int)} (hr : RisingV m) (hm : ∀ y, y ∈ m ↔ y ∈ l ∧ mayP y = true) : m = sortV l :=
 rising_uniqueV m (sortV l) hr (sortV_vals l).1.rise fun y => by rw [hm, (sortV_vals l).2]
end Go.Proofs.YtjfbeeogiejopaaGreatDoor
namespace Go.Proofs.YtjfbeeogiejopaaGreatDoor
def readO (h : Hst) (a b : Int) : Option (Tx × Op4) := (opAtH h a b).bind fun x => if x.2.wr = true then none else some x
theorem read_none {h : Hst} {a b : Int} (ho : opAtH h a b = none) : readO h a b = none := by unfold readO; rw [ho]; rfl
theorem read_write {h : Hst} {a b : Int} {x : Tx × Op4} (ho : opAtH h a b = some x) (hw : x.2.wr = true) : readO h a b = none := by unfold readO; rw [ho]; simp [hw]
theorem read_some {h : Hst} {a b : Int} {x : Tx × Op4} (ho : opAtH h a b = some x) (hw : x.2.wr = false) : readO h a b = some x := by unfold readO; rw [ho]; simp [hw]
def forT (a key : Int) (i : Nat) (t : Tx) : Option (Int × Int) := if (i : Int) = a ∨ t.f = 2 then none else leftW key t.ops
def leftL (a key : Int) (l : List Tx) : List (Int × Int) := l.zipIdx.filterMap fun x => forT a key x.2 x.1
def valsO (a key : Int) (l : List Tx) : List (Int × Int) := (0, 0) :: leftL a key l
def valsH (h : Hst) (a b : Int) : List (Int × Int) :=
 match readO h a b with
 | some x => sortV (valsO a x.2.key h.l)
 | none => []
theorem valsH_none {h : Hst} {a b : Int} (hr : readO h a b = none) : valsH h a b = [] := by unfold valsH; rw [hr]
theorem valsH_some {h : Hst} {a b : Int} {t : Tx} {o : Op4} (hr : readO h a b = some (t, o)) : valsH h a b = sortV (valsO a o.key h.l) := by unfold valsH; rw [hr]
theorem leftL_take {a key : Int} {l : List Tx} {k : Nat} {t : Tx} (h : l[k]? = some t) : leftL a key (l.take (k + 1)) = leftL a key (l.take k) ++ (forT a key k t).toList := by
 have hk := (List.getElem?_eq_some_iff.1 h).1;unfold leftL;rw [List.take_add_one, h, List.zipIdx_append, List.filterMap_append, List.length_take, Nat.min_eq_left (Nat.le_of_lt hk)]
 cases hf : forT a key k t <;> simp [hf, List.zipIdx]
theorem leftL_le (a key : Int) (l : List Tx) : (leftL a key l).length ≤ l.length := by
 unfold leftL;exact Nat.le_trans (List.length_filterMap_le _ _) (by simp)

/-! ### Fresh values -/
def hitN (key n : Int) (o : Op4) : Bool := o.wr && (decide (o.key = key) && decide (o.vn = n))
def wroteN (l : List Tx) (key n : Int) : Bool := l.any fun t => t.ops.any (hitN key n)
def freshN (l : List Tx) (key : Int) : Nat := ((List.range 2000).find? fun n : Nat => !wroteN l key (n : Int)).getD 0
def numsL (l : List Tx) : List Int := l.flatMap fun t => t.ops.map fun o => o.vn
theorem wrote_mem {l : List Tx} {key n : Int} (h : wroteN l key n = true) : n ∈ numsL l := by
 unfold wroteN at h;simp only [List.any_eq_true] at h;obtain ⟨t, ht, o, ho, hh⟩ := h;unfold hitN at hh;simp only [Bool.and_eq_true, decide_eq_true_eq] at hh;exact List.mem_flatMap.2 ⟨t, ht, List.mem_map.2 ⟨o, ho, hh.2.2⟩⟩
theorem nodup_len {α : Type} [BEq α] [LawfulBEq α] : ∀ (l k : List α), l.Nodup → (∀ x ∈ l, x ∈ k) → l.length ≤ k.length
 | [], k, _, _ => Nat.zero_le _
 | x :: l, k, hd, hm => by
  have hx := hm x List.mem_cons_self;have hd2 := List.nodup_cons.1 hd;have := nodup_len l (k.erase x) hd2.2 (fun y hy => (List.mem_erase_of_ne (fun e => hd2.1 (by rw [← e]; exact hy))).2 (hm y (List.mem_cons_of_mem _ hy)));rw [List.length_erase_of_mem hx] at this;have := List.length_pos_of_mem hx;rw [List.length_cons];omega
theorem nums_len {l : List Tx} (hn : l.length ≤ 40) (ho : ∀ t ∈ l, t.ops.length ≤ 20) : (numsL l).length ≤ 800 := by
 have : ∀ (k : List Tx), (∀ t ∈ k, t.ops.length ≤ 20) → (numsL k).length ≤ k.length * 20 := by
  intro k
  induction k with
  | nil => intro _; simp [numsL]
  | cons t k ih =>
   intro h;have h1 := ih (fun x hx => h x (List.mem_cons_of_mem _ hx));have h2 := h t List.mem_cons_self;unfold numsL at *;rw [List.flatMap_cons, List.length_append, List.length_map, List.length_cons];omega
 have := this l ho;omega
theorem fresh_bound {l : List Tx} {key : Int} {n : Nat} (hn : l.length ≤ 40) (ho : ∀ t ∈ l, t.ops.length ≤ 20) (h : ∀ m : Nat, m < n → wroteN l key (m : Int) = true) : n ≤ 800 := by
 have h1 := nodup_len ((List.range n).map fun m : Nat => (m : Int)) (numsL l) (by
  rw [List.nodup_iff_pairwise_ne, List.pairwise_map];exact (List.nodup_range (n := n)).imp (fun hne e => hne (by omega))) (fun x hx => by
  obtain ⟨m, hm, rfl⟩ := List.mem_map.1 hx;exact wrote_mem (h m (List.mem_range.1 hm)))
 have h2 := nums_len hn ho;rw [List.length_map, List.length_range] at h1;omega
theorem fresh_is {l : List Tx} {key : Int} {n : Nat} (hb : n < 2000) (h : ∀ m : Nat, m < n → wroteN l key (m : Int) = true) (hn : wroteN l key (n : Int) = false) : freshN l key = n := by
 unfold freshN;have : (List.range 2000).find? (fun n : Nat => !wroteN l key (n : Int)) = some n := by
  rw [List.find?_range_eq_some];exact ⟨by simp [hn], by simpa using hb, fun m hm => by simp [h m hm]⟩
 rw [this]
 rfl
theorem fresh_not {l : List Tx} {key : Int} (hn : l.length ≤ 40) (ho : ∀ t ∈ l, t.ops.length ≤ 20) : wroteN l key (freshN l key : Int) = false := by
 unfold freshN
 cases hf : (List.range 2000).find? (fun n : Nat => !wroteN l key (n : Int)) with
 | none =>
  exfalso
  have h1 := List.find?_eq_none.1 hf;have := fresh_bound (key := key) (n := 2000) hn ho (fun m hm => by have := h1 m (List.mem_range.2 hm); simpa using this);omega
 | some n =>
  have := List.find?_some hf
  simpa using this
def freshV (h : Hst) (key : Int) : Int × Int := if mayH h = true ∧ 0 ≤ key ∧ key < (h.ks.length : Int) then (1, (freshN h.l key : Int)) else (0, 0)

/-! ### The most that write one key -/
open Go.RowKit Go.Shelf
open Go.Lib hiding intOf
attribute [local go_sem] Oper.semAt_some
theorem OpAt.belowB {B : Nat} {w w' : World} {b o : Nat} {x : Op4} (h : OpAt w b o x) (ho : Below B w w') (hb : b < B) : OpAt w' b o x :=
 ⟨(ho.cell (p := ⟨b, o, none⟩) hb).trans h.c0, (ho.cell (p := ⟨b, o + 1, none⟩) hb).trans h.c1, (ho.cell (p := ⟨b, o + 2, none⟩) hb).trans h.c2, (ho.cell (p := ⟨b, o + 3, none⟩) hb).trans h.c3⟩
theorem TxAt.belowB {B : Nat} {w w' : World} {b o : Nat} {x : TxA} (h : TxAt w b o x) (ho : Below B w w') (hb : b < B) : TxAt w' b o x :=
 ⟨(ho.cell (p := ⟨b, o, none⟩) hb).trans h.c0, (ho.cell (p := ⟨b, o + 1, none⟩) hb).trans h.c1, (ho.cell (p := ⟨b, o + 2, none⟩) hb).trans h.c2⟩
theorem blk_own {β : Type} (B : Nat) (t : TypeId) (f : β → Array Value) : Own (fun s W => Blk W B t (f s)) := fun s X Y row hs hg hrow =>
 (hg.block B hs.lt (fun e' => by obtain ⟨o, ho, hc⟩ := hrow B e'.symm; rw [show X.heap[B]? = _ from hs] at ho; cases ho; cases hc)).trans hs
abbrev Bo := Nat × Op4
def bkC (x : Bo) : Array Value := #[.int .i64 (x.1 : Int), .agg #[.bool x.2.wr, .int .i64 x.2.key, .int .i64 x.2.vk, .int .i64 x.2.vn]]
def zl (l : List Op4) : List Bo := l.zipIdx.map fun x => (x.2, x.1)
theorem zl_len (l : List Op4) : (zl l).length = l.length := by simp [zl]
theorem zl_snd (l : List Op4) : (zl l).map Prod.snd = l := by
 unfold zl;rw [List.map_map];refine List.ext_getElem? fun i => ?_;simp only [List.getElem?_map, List.getElem?_zipIdx]
 cases l[i]? <;> rfl
theorem zl_drop {l : List Op4} {k : Nat} {o : Op4} (h : l[k]? = some o) : ((zl l).drop k).reverse = ((zl l).drop (k + 1)).reverse ++ [(k, o)] := by
 have hk := (List.getElem?_eq_some_iff.1 h).1;have hz : (zl l)[k]? = some (k, o) := by
  unfold zl;rw [List.getElem?_map, List.getElem?_zipIdx, h];simp
 obtain ⟨h1, h2⟩ := List.getElem?_eq_some_iff.1 hz;rw [List.drop_eq_getElem_cons h1, List.reverse_cons, h2]
theorem zl_prefix (l : List Op4) (k : Nat) : ((zl l).drop k).reverse <+: (zl l).reverse := by
 conv => rhs; rw [← List.take_append_drop k (zl l), List.reverse_append]
 exact List.prefix_append _ _
def lastO (pre : List Bo) : Op4 := (pre.getLast?.map Prod.snd).getD ⟨false, 0, 0, 0⟩
theorem lastO_snoc (pre : List Bo) (x : Bo) : lastO (pre ++ [x]) = x.2 := by simp [lastO]
def HitAt (key : Int) (pre : List Bo) : Prop := ∃ pre0 x, pre = pre0 ++ [x] ∧ (∀ y ∈ pre0, hitO key y.2 = false) ∧ hitO key x.2 = true
theorem hitAt_left {key : Int} {l : List Op4} {pre : List Bo} (hp : pre <+: (zl l).reverse) (h : HitAt key pre) : leftW key l = some ((lastO pre).vk, (lastO pre).vn) := by
 obtain ⟨pre0, x, rfl, hm, hx⟩ := h;obtain ⟨post, hpost⟩ := hp;have e : zl l = post.reverse ++ x :: pre0.reverse := by
  have := congrArg List.reverse hpost;rw [List.reverse_reverse] at this;rw [← this];simp
 have el : l = (post.reverse.map Prod.snd ++ [x.2]) ++ pre0.reverse.map Prod.snd := by
  conv => lhs; rw [← zl_snd l, e]
  simp
 rw [lastO_snoc, el, leftW_app key _ _ (fun o ho => by
  obtain ⟨y, hy, rfl⟩ := List.mem_map.1 ho;exact hm y (List.mem_reverse.1 hy)), leftW_snoc, if_pos hx]
theorem noHit_left {key : Int} {l : List Op4} (h : ∀ y ∈ (zl l).reverse, hitO key y.2 = false) : leftW key l = none :=
 leftW_miss fun o ho => by
  rw [← zl_snd l] at ho;obtain ⟨y, hy, rfl⟩ := List.mem_map.1 ho;exact h y (List.mem_reverse.2 hy)
set_option maxRecDepth 100000 in
theorem back1_in (F : Fence) (n : Nat) (hf : F.fn 107) (hro : F.round = none) (hn : 1 ≤ n) (l Bn n₀ : Nat) (A : Option Addr) (m c : Nat) (ops : List Op4) (J Jx : List Bo → World → Prop) (W : World) (hW0 : n₀ ≤ W.heap.size)
  (hm : ops.length = m) (hM : m ≤ 1000) (hJ : AbidesFrom W.heap.size J)
  (hY : ∀ pre x W1, J pre W1 → pre.length < 1000001 → YieldAt F (n - 1) Tryz.prog l (bkC x) W1 fun e W' =>
   (e = .returned (.bool true) ∧ J (pre ++ [x]) W' ∧ Below n₀ W1 W') ∨ (e = .returned (.bool false) ∧ Jx (pre ++ [x]) W'))
  (hlt0 : Bn < n₀) (hBn : W.cell? ⟨Bn, 0, none⟩ = some (.slice A m c)) (hg : Row W n₀ A (opC ops)) (h0 : J [] W) :
  CallsIn F n Tryz.prog 107 #[.func (.yield l) #[] #[], .pointer (some ⟨Bn, 0, none⟩)] W fun e W' => (∃ v, e = .returned v) ∧
   ((∃ ys, ys = (zl ops).reverse ∧ J ys W') ∨ (∃ pre, pre <+: (zl ops).reverse ∧ Jx pre W')) := by
 have hzm : (zl ops).length = m := by rw [zl_len, hm]
 have HZ := Hd hzm;have HM := Hd hm;have hw1 : IntKind.i64.wrap ((m : Int) - 1) = (m : Int) - 1 := IntWalk.i64_in _ (by omega);clear hzm hm;refine callsIn_of_wp Tryz.func107 rfl hf ?_ hro;simp only [Tryz.ntmps107, List.size_toArray, List.length_cons, List.length_nil, Nat.reduceAdd, Nat.reduceSub, Array.replicate_succ, Array.replicate_zero, List.push_toArray, List.append_toArray, List.nil_append, List.cons_append]
 gi_wp2
 gi_loopw [3] (fun iv wr => ∃ k : Nat, iv = .int .i64 ((k : Int) - 1) ∧ k ≤ m ∧ J ((zl ops).drop k).reverse wr ∧ Below n₀ W wr) (fun iv _ => (intOf iv + 1).toNat)
 case atStart => exact ⟨m, rfl, Nat.le_refl _, by rw [List.drop_of_length_le (by rw [HZ.out]; exact Nat.le_refl _)]; exact h0, Below.refl _ _⟩
 case round =>
  obtain ⟨k, rfl, hk, hJs, hnx⟩ := hrel
  cases k with
  | zero =>
   have hd2 : decide ((0 : Int) ≤ ((0 : Nat) : Int) - 1) = false := by decide
   gi_wp2
   go_end0
   exact ⟨⟨_, rfl⟩, .inl ⟨_, rfl, hJs⟩⟩
  | succ k =>
   obtain ⟨y, hy⟩ : ∃ y, ops[k]? = some y := ⟨_, List.getElem?_eq_getElem (by rw [HM.out]; omega)⟩;obtain ⟨b, off, rfl, hb, -, hP⟩ := row_op hg hy;obtain ⟨p0, p1, p2, p3⟩ := hP.belowB hnx hb;have HTT := Hd (zl_drop hy);have HPX := Hd (zl_prefix ops k);obtain ⟨yw, yk, yv, yn⟩ := y;dsimp only at p0 p1 p2 p3;have e1 : ((k + 1 : Nat) : Int) - 1 = (k : Int) := by omega
   rw [e1];have hk0 : (0 : Int) ≤ (k : Int) := Int.natCast_nonneg _;have hkm : (k : Int) < (m : Int) := by omega
   have hwk : IntKind.i64.wrap ((k : Int) - 1) = (k : Int) - 1 := IntWalk.i64_in _ (by omega);have hBr := (hnx.cell (p := ⟨Bn, 0, none⟩) hlt0).trans hBn;have hlen : ((zl ops).drop (k + 1)).reverse.length < 1000001 := by
    rw [List.length_reverse, List.length_drop, HZ.out];omega
   obtain ⟨fn, tmps, assign, body, hyy, hR⟩ := hY _ (k, ⟨yw, yk, yv, yn⟩) _ hJs hlen;dsimp only [bkC] at hyy hR;clear hP hy e1
   gi_wp2
   refine hR.mono ?_;rintro e W3 (⟨rfl, hJ4, hk4⟩ | ⟨rfl, hJx4⟩)
   ·gi_wp2
    go_roundw
    case rel => exact ⟨k, rfl, by omega, by rw [HTT.out]; exact hJ4, hnx.trans hk4⟩
    case measure => simp [intOf]
   ·gi_wp2
    refine bodyPost_ret (results_none rfl _ _ _) rfl ?_;exact ⟨⟨_, rfl⟩, .inr ⟨_, by rw [← HTT.out]; exact HPX.out, hJx4⟩⟩
theorem back_in (F : Fence) (n : Nat) (hf : F.fn 81) (hro : F.round = none) (A : Option Addr) (m c : Nat) (w : World) :
  CallsIn F n Tryz.prog 81 #[.slice A m c] w fun e w' => e = .returned (.func (.func 107) #[] #[.pointer (some ⟨w.heap.size, 0, none⟩)]) ∧ w' = w.alloc (.cells #[.slice A m c] 44) := by
 refine callsIn_of_wp Tryz.func81 rfl hf ?_ hro;simp only [Tryz.ntmps81, List.size_toArray, List.length_cons, List.length_nil, Nat.reduceAdd, Nat.reduceSub, Array.replicate_succ, Array.replicate_zero, List.push_toArray, List.append_toArray, List.nil_append, List.cons_append]
 gi_wp2
 go_ret
 exact ⟨rfl, rfl⟩
theorem back_stops (F : Fence) (n : Nat) (hf : F.fn 107) (hro : F.round = none) (hn : 1 ≤ n) (Bn n₀ : Nat) (A : Option Addr) (m c : Nat) (ops : List Op4) (w : World) (hBn : Bn < w.heap.size) (hn₀ : n₀ ≤ w.heap.size) (hlt0 : Bn < n₀)
  (hc : w.cell? ⟨Bn, 0, none⟩ = some (.slice A m c)) (hg : Row w n₀ A (opC ops)) (hm : ops.length = m) (hM : m ≤ 1000) :
  SeqStopsK F n Tryz.prog 107 #[.pointer (some ⟨Bn, 0, none⟩)] bkC (Below n₀) (fun ys => ys = (zl ops).reverse) (fun pre => pre <+: (zl ops).reverse) 1000001 w := fun l J Jx W hW hJ _ hY h0 =>
 back1_in F n hf hro hn l Bn n₀ A m c ops J Jx W (Nat.le_trans hn₀ hW.size) hm hM hJ hY hlt0 ((hW.cell (p := ⟨Bn, 0, none⟩) hBn).trans hc) (hg.only (Only.of_below hW []) (fun _ h => by cases h)) h0
theorem results_cc {fn : Func} {p u : Tmp} {ty tu : TypeId} (h : fn.results = #[.cell p ty, .cell u tu]) (tmps : Array Value) (w : World) (g gu : Nat) (t : TypeId) (cs : Array Value) (d : TypeDesc) (vu : Value)
  (hp : tmps.getD p undef = .pointer (some ⟨g, 0, none⟩)) (hg : Blk w g t cs) (hu : Tryz.prog.underlying ty = some d) (hd : d.isRow = true) (hi : (Tryz.prog.info? ty).map (·.size) = some cs.size)
  (hpu : tmps.getD u undef = .pointer (some ⟨gu, 0, none⟩)) (hcu : (loadVar tu ⟨gu, 0, none⟩).run Tryz.prog w = .ok vu w) :
  (results fn tmps).run Tryz.prog w = .ok (.tuple #[.agg cs, vu]) w := by
 have hp' : tmps[p]?.getD undef = .pointer (some ⟨g, 0, none⟩) := by simpa using hp
 have hpu' : tmps[u]?.getD undef = .pointer (some ⟨gu, 0, none⟩) := by simpa using hpu
 have hl := run_loadVar_row (P := Tryz.prog) w g t ty cs (0, 0) d hg hu (by cases d <;> simp_all) hi;simp only [results, h];simp [Sem.run_bind, Result.andThen, hp', hpu', asAddr, hl, hcu]
theorem load_bool {w : World} {g : Nat} {b : Bool} (h : Boxed w g 4 (.bool b)) : (loadVar 4 ⟨g, 0, none⟩).run Tryz.prog w = .ok (.bool b) w := by
 have hc := h.cell;simp [go_sem, hc]
set_option maxRecDepth 100000 in
theorem left_in (F : Fence) (n : Nat) (hf0 : F.fn 49) (hf1 : F.fn 81) (hf2 : F.fn 107) (hro : F.round = none) (hn : 4 ≤ n) (A : Option Addr) (m c : Nat) (ops : List Op4) (key : Int) (w : World)
  (hg : Row w w.heap.size A (opC ops)) (hm : ops.length = m) (hM : m ≤ 1000) :
  CallsIn F n Tryz.prog 49 #[.slice A m c, .int .i64 key] w fun e W' => e = .returned (optT (leftW key ops)) ∧ Below w.heap.size w W' := by
 have h1 : 1 ≤ n := by omega
 refine callsIn_of_wp_marks Tryz.func49 rfl hf0 ?_ hro;simp only [Tryz.ntmps49, List.size_toArray, List.length_cons, List.length_nil, Nat.reduceAdd, Nat.reduceSub, Array.replicate_succ, Array.replicate_zero, List.push_toArray, List.append_toArray, List.nil_append, List.cons_append]
 gi_wp2_with (gi_at_call 81; refine (back_in F (n - 1) hf1 hro _ _ _ _).mono ?_; rintro e w' ⟨rfl, rfl⟩)
 have bK := (((Boxed.new w 3 (.int .i64 key)).alloc (.cells #[.int .i64 0, .int .i64 0] 38)).alloc (.cells #[.bool false] 4)).alloc (.cells #[.slice A m c] 44);have bV := ((Blk.made (w.alloc (.cells #[.int .i64 key] 3)) 38 #[.int .i64 0, .int .i64 0]).alloc (.cells #[.bool false] 4)).alloc (.cells #[.slice A m c] 44);have bB := (Boxed.new ((w.alloc (.cells #[.int .i64 key] 3)).alloc (.cells #[.int .i64 0, .int .i64 0] 38)) 4 (.bool false)).alloc (.cells #[.slice A m c] 44);have bS := Boxed.new (((w.alloc (.cells #[.int .i64 key] 3)).alloc (.cells #[.int .i64 0, .int .i64 0] 38)).alloc (.cells #[.bool false] 4)) 44 (.slice A m c);simp only [World.size_alloc] at bV bB bS;have hB0 : Below w.heap.size w ((((w.alloc (.cells #[.int .i64 key] 3)).alloc (.cells #[.int .i64 0, .int .i64 0] 38)).alloc (.cells #[.bool false] 4)).alloc (.cells #[.slice A m c] 44)) := ((((Below.refl _ w).alloc (Nat.le_refl _) _).alloc (by simp) _).alloc (by simp; omega) _).alloc (by simp; omega) _;have hsz : ((((w.alloc (.cells #[.int .i64 key] 3)).alloc (.cells #[.int .i64 0, .int .i64 0] 38)).alloc (.cells #[.bool false] 4)).alloc (.cells #[.slice A m c] 44)).heap.size = w.heap.size + 4 := by simp
 obtain ⟨W0, hW0⟩ : ∃ W0, ((((w.alloc (.cells #[.int .i64 key] 3)).alloc (.cells #[.int .i64 0, .int .i64 0] 38)).alloc (.cells #[.bool false] 4)).alloc (.cells #[.slice A m c] 44)) = W0 := ⟨_, rfl⟩;rw [hW0] at bK bV bB bS hB0 hsz ⊢;clear hW0;have hg0 : Row W0 W0.heap.size A (opC ops) := row_up (hg.only (Only.of_below hB0 []) (fun _ h => by cases h));refine wpIn_rangeFunc_ownH hro h1 (gf := 107) (lb := #[.pointer (some ⟨w.heap.size + 1 + 1 + 1, 0, none⟩)]) rfl hf2 (enters_of Tryz.func107 (by kernel_rfl) rfl)
  (back_stops F (n - 1) hf2 hro (by omega) (w.heap.size + 1 + 1 + 1) W0.heap.size A m c ops W0 (by omega) (Nat.le_refl _) (by omega) bS.cell hg0 hm hM) belowK_t (belowK_b (by omega)) (Below.refl _ _) (fun _ => rfl)
  (fun pre W => (((((∀ y ∈ pre, hitO key y.2 = false) ∧ Boxed W w.heap.size 3 (.int .i64 key)) ∧ Blk W (w.heap.size + 1) 38 #[.int .i64 0, .int .i64 0]) ∧ Boxed W (w.heap.size + 1 + 1) 4 (.bool false)) ∧ Below w.heap.size w W) ∧ W0.heap.size ≤ W.heap.size)
  (fun c pre W => (((c = .ret ∧ HitAt key pre) ∧ Blk W (w.heap.size + 1) 38 #[.int .i64 (lastO pre).vk, .int .i64 (lastO pre).vn]) ∧ Boxed W (w.heap.size + 1 + 1) 4 (.bool true)) ∧ Below w.heap.size w W)
  (OwnFrom.and (OwnFrom.and (OwnFrom.and (OwnFrom.and (OwnFrom.and (ownFrom_pure _ _) (Own.from (boxed_own _ _ _) _)) (Own.from (blk_own _ _ (fun _ => _)) _)) (Own.from (boxed_own _ _ _) _)) (ownFrom_below (Nat.le_refl _) (by omega))) (fun s X Y row hs hg hr => Nat.le_trans hs hg.size))
  (fun c => OwnFrom.and (OwnFrom.and (OwnFrom.and (ownFrom_pure _ _) (Own.from (blk_own _ _ (fun pre => #[.int .i64 (lastO pre).vk, .int .i64 (lastO pre).vn])) _)) (Own.from (boxed_own _ _ _) _)) (ownFrom_below (Nat.le_refl _) (by omega)))
  ⟨⟨⟨⟨⟨by simp, bK⟩, bV⟩, bB⟩, hB0⟩, Nat.le_refl _⟩
  (fun x a' W => ∃ Bx, W0.heap.size ≤ Bx ∧ Blk W Bx 48 #[.bool x.2.wr, .int .i64 x.2.key, .int .i64 x.2.vk, .int .i64 x.2.vn] ∧
   a' = { tmps := #[.slice A m c, .int .i64 key, undef, .pointer (some ⟨w.heap.size, 0, none⟩), .pointer (some ⟨w.heap.size + 1, 0, none⟩), .pointer (some ⟨w.heap.size + 1 + 1, 0, none⟩), undef, .pointer (some ⟨Bx, 0, none⟩), .slice A m c, .func (.func 107) #[] #[.pointer (some ⟨w.heap.size + 1 + 1 + 1, 0, none⟩)], .int .i64 (x.1 : Int), .agg #[.bool x.2.wr, .int .i64 x.2.key, .int .i64 x.2.vk, .int .i64 x.2.vn], undef, undef, undef, undef, undef, undef, undef, undef, undef, undef, undef], defers := [] })
  (fun x a' _ X Y row hs hg hr => by
   obtain ⟨Bx, h0, b1, e⟩ := hs;exact ⟨Bx, h0, blk_own Bx _ (fun (_ : Unit) => _) () X Y row b1 hg (fun r e => (hr r e).2), e⟩)
  ?assign ?body ?done ?stop
 case assign =>
  rintro l pre x W K ⟨⟨⟨⟨⟨hp, bK⟩, bV⟩, bB⟩, hB1⟩, hsW⟩ hK;unfold bkC
  gi_wp2
  refine hK _ _ ((KeepsOthers.alloc _ _).from _) ((Below.refl _ W).alloc hsW _) ⟨⟨⟨⟨⟨hp, bK.alloc _⟩, bV.alloc _⟩, bB.alloc _⟩, hB1.alloc hB1.size _⟩, by simp; omega⟩
   ⟨W.heap.size, hsW, Blk.made W _ _, rfl⟩
 case body =>
  rintro l pre ⟨xi, ⟨yw, yk, yv, yn⟩⟩ a' W hl ⟨r, hr⟩ ⟨⟨⟨⟨⟨hp, bK⟩, bV⟩, bB⟩, hB⟩, hsW⟩ ⟨Bx, hBx, bO, rfl⟩ hlt;have hcK := bK.cell;have hcB := bB.cell;have hfB := bB.frozen;dsimp only at bO;have o0 := bO.at_ 0;have o1 := bO.at_ 1;have o2 := bO.at_ 2;have o3 := bO.at_ 3;have v0 := bV.at_ 0;have v1 := bV.at_ 1;have lO := bO.lt;have lV := bV.lt;have f0 := bV.free 0;have f1 := bV.free 1;simp at o0 o1 o2 o3 v0 v1
  cases yw with
  | false =>
   gi_wp2
   exact ⟨KeepsFrom.refl _ _, Below.refl _ _, ⟨⟨⟨⟨⟨fun y hy => (List.mem_append.1 hy).elim (hp y) (fun e => by simp at e; subst e; rfl), bK⟩, bV⟩, bB⟩, hB⟩, hsW⟩⟩
  | true =>
   by_cases hk : yk = key
   ·subst hk
    gi_wp2
    have q1 : w.heap.size + 1 ≠ w.heap.size + 1 + 1 := by omega
    refine ⟨(((KeepsOthers.setCell _ _ _).trans (KeepsOthers.setCell _ _ _)).trans (KeepsOthers.setCell _ _ _)).from _, ⟨⟨⟨rfl, ⟨pre, _, rfl, hp, by simp [hitO]⟩⟩, ?_⟩, ?_⟩, ((hB.setCell (p := ⟨w.heap.size + 1, 0, none⟩) (by simp) _).setCell (p := ⟨w.heap.size + 1, 1, none⟩) (by simp) _).setCell (p := ⟨w.heap.size + 1 + 1, 0, none⟩) (by simp; omega) _⟩
    ·rw [lastO_snoc];have := ((bV.put 0 (.int .i64 yv)).put 1 (.int .i64 yn)).far (p := ⟨w.heap.size + 1 + 1, 0, none⟩) q1 (.bool true)
     simpa using this
    ·exact Boxed.set (.bool true) (Blk.far (Blk.far bB (p := ⟨w.heap.size + 1, 0, none⟩) (Ne.symm q1) _) (p := ⟨w.heap.size + 1, 1, none⟩) (Ne.symm q1) _)
   ·have hk1 : (yk == key) = false := by simpa using hk
    gi_wp2
    exact ⟨KeepsFrom.refl _ _, Below.refl _ _, ⟨⟨⟨⟨⟨fun y hy => (List.mem_append.1 hy).elim (hp y) (fun e => by simp at e; subst e; unfold hitO; simp [hk]), bK⟩, bV⟩, bB⟩, hB⟩, hsW⟩⟩
 case done =>
  rintro D ys W hD rfl ⟨⟨⟨⟨⟨hp, bK⟩, bV⟩, bB⟩, hB⟩, hsW⟩ hK;have v0 := bV.at_ 0;have v1 := bV.at_ 1;have lV := bV.lt;have hcB := bB.cell;have hfB := bB.frozen;have f0 := bV.free 0;have f1 := bV.free 1;simp at v0 v1;have q1 : w.heap.size + 1 ≠ w.heap.size + 1 + 1 := by omega
  gi_wp2
  have hB3 := ((hB.setCell (p := ⟨w.heap.size + 1, 0, none⟩) (by simp) (.int .i64 0)).setCell (p := ⟨w.heap.size + 1, 1, none⟩) (by simp) (.int .i64 0)).setCell (p := ⟨w.heap.size + 1 + 1, 0, none⟩) (by simp; omega) (.bool false);have bV3 : Blk (((W.setCell ⟨w.heap.size + 1, 0, none⟩ (.int .i64 0)).setCell ⟨w.heap.size + 1, 1, none⟩ (.int .i64 0)).setCell ⟨w.heap.size + 1 + 1, 0, none⟩ (.bool false)) (w.heap.size + 1) 38 #[.int .i64 0, .int .i64 0] := by
   have := ((bV.put 0 (.int .i64 0)).put 1 (.int .i64 0)).far (p := ⟨w.heap.size + 1 + 1, 0, none⟩) q1 (.bool false)
   simpa using this
  have bB3 : Boxed (((W.setCell ⟨w.heap.size + 1, 0, none⟩ (.int .i64 0)).setCell ⟨w.heap.size + 1, 1, none⟩ (.int .i64 0)).setCell ⟨w.heap.size + 1 + 1, 0, none⟩ (.bool false)) (w.heap.size + 1 + 1) 4 (.bool false) :=
   Boxed.set (.bool false) (Blk.far (Blk.far bB (p := ⟨w.heap.size + 1, 0, none⟩) (Ne.symm q1) _) (p := ⟨w.heap.size + 1, 1, none⟩) (Ne.symm q1) _)
  have hK3 := (((KeepsOthers.setCell W ⟨w.heap.size + 1, 0, none⟩ (.int .i64 0)).trans (KeepsOthers.setCell _ ⟨w.heap.size + 1, 1, none⟩ (.int .i64 0))).trans (KeepsOthers.setCell _ ⟨w.heap.size + 1 + 1, 0, none⟩ (.bool false))).same D _ hK rfl;generalize (((W.setCell ⟨w.heap.size + 1, 0, none⟩ (.int .i64 0)).setCell ⟨w.heap.size + 1, 1, none⟩ (.int .i64 0)).setCell ⟨w.heap.size + 1 + 1, 0, none⟩ (.bool false)) = W3 at *;refine ⟨by simp, .inl ⟨_, _, rfl, run_takeDeferred hK3, ?_⟩⟩;refine ⟨_, results_cc rfl _ _ (w.heap.size + 1) (w.heap.size + 1 + 1) 38 #[.int .i64 0, .int .i64 0] _ (.bool false) rfl ((blk_own _ _ (fun (_ : Unit) => _)).putObj (s := ()) (.deferred none) bV3 hK3 rfl) Tryz.underlying38 rfl (by kernel_rfl) rfl (load_bool ((boxed_own _ _ (fun (_ : Unit) => _)).putObj (s := ()) (.deferred none) bB3 hK3 rfl)), ?_, hB3.trans (belowK_b (w := w) (Nat.le_refl _) W3 D _ _ (by omega) hK3 rfl rfl)⟩;rw [noHit_left hp]
  rfl
 case stop =>
  rintro D c pre W hD hpre ⟨⟨⟨⟨rfl, hh⟩, bV⟩, bB⟩, hB⟩ hK;have hle := hitAt_left hpre hh;generalize (lastO pre).vk = vk at *;generalize (lastO pre).vn = vn at *
  gi_wp2
  refine ⟨by simp, .inl ⟨_, _, rfl, run_takeDeferred hK, ?_⟩⟩;refine ⟨_, results_cc rfl _ _ (w.heap.size + 1) (w.heap.size + 1 + 1) 38 #[.int .i64 vk, .int .i64 vn] _ (.bool true) rfl ((blk_own _ _ (fun (_ : Unit) => _)).putObj (s := ()) (.deferred none) bV hK rfl) Tryz.underlying38 rfl (by kernel_rfl) rfl (load_bool ((boxed_own _ _ (fun (_ : Unit) => _)).putObj (s := ()) (.deferred none) bB hK rfl)), ?_, hB.trans (belowK_b (w := w) (Nat.le_refl _) W D _ _ (by omega) hK rfl rfl)⟩;rw [hle]
  rfl
theorem left_any (A : Option Addr) (m c B : Nat) (ops : List Op4) (key : Int) (w : World) (hg : Row w B A (opC ops)) (hm : ops.length = m) (hM : m ≤ 1000) :
  Calls Tryz.prog 49 #[.slice A m c, .int .i64 key] w fun e W' => e = .returned (optT (leftW key ops)) ∧ Only [] w W' :=
 (callsIn_wide.1 (left_in Fence.wide 6 trivial trivial trivial rfl (by omega) A m c ops key w (row_up hg) hm hM)).mono fun e W' ⟨he, hb⟩ => ⟨he, Only.of_below hb []⟩
end Go.Proofs.YtjfbeeogiejopaaGreatDoor
