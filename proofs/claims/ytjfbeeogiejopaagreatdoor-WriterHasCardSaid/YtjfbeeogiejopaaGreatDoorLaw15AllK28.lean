/- Values in order: the mathematics. Who may have written what is read; what a lost read may have read; fresh values. Mathematics. Iterators: what they are walked by. -/
import Derived.Test.YtjfbeeogiejopaaGreatDoorLaw15AllK27
import Derived.Lib.SlicesCompact
import Derived.Test.YtjfbeeogiejopaaGreatDoorLaw15AllK26
import Derived.RangeFuncNested
import Derived.RangeFuncBound
import Derived.RangeFuncCalls
import Derived.RangeFuncLeaves
import Derived.RangeFuncBox
import Derived.Shelf.Abstract
import Derived.Shelf.RegionOpen
import Derived.WalkKit
import Derived.OwnWalkIn
import Derived.TacticsInMore
import Derived.LoopNIn
import Derived.LoopIn
import Derived.Maps.AppendAt
import Derived.Test.YtjfbeeogiejopaaGreatDoorLaw15AllK11
set_option linter.unusedVariables false
set_option linter.unusedSimpArgs false
namespace Go.Proofs.YtjfbeeogiejopaaGreatDoor
open Go.Lib
def mayP (a : Int × Int) : Bool := mayB a.1 a.2
theorem lessB_spec (k m k' m' : Int) : lessBV k m k' m' = true ↔ (k < k' ∨ (k = k' ∧ k = 1 ∧ m < m')) := by
 unfold lessBV
 by_cases h : k = k'
 ·rw [if_pos h]; simp; omega
 ·rw [if_neg h]; simp; omega
theorem may_spec (a : Int × Int) : mayP a = true ↔ (a.1 = 1 ∨ ((a.1 = 0 ∨ a.1 = 2) ∧ a.2 = 0)) := by
 unfold mayP mayB
 simp
theorem lessV_spec (a b : Int × Int) : lessV a b = true ↔ mayP a = true ∧ mayP b = true ∧ (a.1 < b.1 ∨ (a.1 = b.1 ∧ a.1 = 1 ∧ a.2 < b.2)) := by
 unfold lessV
 rw [Bool.and_eq_true, Bool.and_eq_true, lessB_spec, and_assoc]
 show mayP a = true ∧ mayP b = true ∧ _ ↔ _
 constructor
 ·rintro ⟨ha, hb, h⟩
  refine ⟨ha, hb, ?_⟩
  rw [may_spec] at ha hb
  unfold cK cN at h
  rcases ha with ha | ⟨ha | ha, ha2⟩ <;> rcases hb with hb | ⟨hb | hb, hb2⟩ <;> simp [ha, hb] at h ⊢ <;> omega
 ·rintro ⟨ha, hb, h⟩
  refine ⟨ha, hb, ?_⟩
  rw [may_spec] at ha hb
  unfold cK cN
  rcases ha with ha | ⟨ha | ha, ha2⟩ <;> rcases hb with hb | ⟨hb | hb, hb2⟩ <;> simp [ha, hb] at h ⊢ <;> omega
theorem lessV_irr (a : Int × Int) : lessV a a = false := by
 cases h : lessV a a with
 | false => rfl
 | true => obtain ⟨_, _, h⟩ := (lessV_spec a a).1 h; omega
theorem lessV_trans {a b c : Int × Int} (h1 : lessV a b = true) (h2 : lessV b c = true) : lessV a c = true := by
 obtain ⟨ha, hb, h1⟩ := (lessV_spec a b).1 h1
 obtain ⟨_, hc, h2⟩ := (lessV_spec b c).1 h2
 exact (lessV_spec a c).2 ⟨ha, hc, by omega⟩
theorem lessV_asym {a b : Int × Int} (h : lessV a b = true) : lessV b a = false := by
 cases h2 : lessV b a with
 | false => rfl
 | true =>
  have := lessV_trans h h2
  rw [lessV_irr] at this
  cases this
theorem lessV_total {a b : Int × Int} (ha : mayP a = true) (hb : mayP b = true) (h1 : lessV a b = false) (h2 : lessV b a = false) : a = b := by
 have n1 : ¬ (a.1 < b.1 ∨ (a.1 = b.1 ∧ a.1 = 1 ∧ a.2 < b.2)) := fun h => by
  rw [(lessV_spec a b).2 ⟨ha, hb, h⟩] at h1
  cases h1
 have n2 : ¬ (b.1 < a.1 ∨ (b.1 = a.1 ∧ b.1 = 1 ∧ b.2 < a.2)) := fun h => by
  rw [(lessV_spec b a).2 ⟨hb, ha, h⟩] at h2
  cases h2
 rw [may_spec] at ha hb
 have e1 : a.1 = b.1 := by omega
 have e2 : a.2 = b.2 := by omega
 exact Prod.ext e1 e2
/-- Values that rise. -/
def RisingV (l : List (Int × Int)) : Prop := l.Pairwise fun a b => lessV a b = true
theorem rising_uniqueV : ∀ l m : List (Int × Int), RisingV l → RisingV m → (∀ x, x ∈ l ↔ x ∈ m) → l = m
 | [], [], _, _, _ => rfl
 | [], y :: m, _, _, h => by have := (h y).2 (List.mem_cons_self ..); cases this
 | x :: l, [], _, _, h => by have := (h x).1 (List.mem_cons_self ..); cases this
 | x :: l, y :: m, hl, hm, h => by
  obtain ⟨hx, hl2⟩ := List.pairwise_cons.1 hl
  obtain ⟨hy, hm2⟩ := List.pairwise_cons.1 hm
  have exy : x = y := by
   rcases List.mem_cons.1 ((h x).1 (List.mem_cons_self ..)) with e | e
   ·exact e
   ·rcases List.mem_cons.1 ((h y).2 (List.mem_cons_self ..)) with e2 | e2
    ·exact e2.symm
    ·have h1 := hy x e
     have h2 := hx y e2
     rw [lessV_asym h1] at h2
     cases h2
  subst exy
  have : l = m := by
   refine rising_uniqueV l m hl2 hm2 fun z => ⟨fun hz => ?_, fun hz => ?_⟩
   ·rcases List.mem_cons.1 ((h z).1 (List.mem_cons_of_mem _ hz)) with e | e
    ·subst e
     have := hx z hz
     rw [lessV_irr] at this
     cases this
    ·exact e
   ·rcases List.mem_cons.1 ((h z).2 (List.mem_cons_of_mem _ hz)) with e | e
    ·subst e
     have := hy z hz
     rw [lessV_irr] at this
     cases this
    ·exact e
  rw [this]
/-- One name more: where those that are ahead of it end. -/
def aheadOfV (out : List (Int × Int)) (x : (Int × Int)) : Nat := (out.takeWhile fun y => lessV y x).length
def insV (out : List (Int × Int)) (x : (Int × Int)) : List (Int × Int) :=
 if mayP x = true then (if out[aheadOfV out x]? = some x then out else out.take (aheadOfV out x) ++ x :: out.drop (aheadOfV out x)) else out
def sortV (l : List (Int × Int)) : List (Int × Int) := l.foldl insV []
theorem ahead_splitV (out : List (Int × Int)) (x : (Int × Int)) : out.take (aheadOfV out x) = out.takeWhile (fun y => lessV y x) ∧ out.drop (aheadOfV out x) = out.dropWhile (fun y => lessV y x) := by
 have h := List.takeWhile_append_dropWhile (p := fun y => lessV y x) (l := out)
 have h1 := congrArg (List.take (out.takeWhile fun y => lessV y x).length) h
 have h2 := congrArg (List.drop (out.takeWhile fun y => lessV y x).length) h
 rw [List.take_left] at h1
 rw [List.drop_left] at h2
 exact ⟨h1.symm, h2.symm⟩
structure Vals (out : List (Int × Int)) : Prop where
 rise : RisingV out
 may : ∀ x ∈ out, mayP x = true
theorem vals_nil : Vals [] := ⟨List.Pairwise.nil, fun x h => (by cases h)⟩
theorem drop_headV {p : (Int × Int) → Bool} : ∀ {l : List (Int × Int)} {y : (Int × Int)} {t : List (Int × Int)}, l.dropWhile p = y :: t → p y = false
 | x :: l, y, t, h => by
  by_cases hx : p x = true
  ·rw [List.dropWhile_cons_of_pos hx] at h
   exact drop_headV h
  ·rw [List.dropWhile_cons_of_neg hx] at h
   obtain ⟨rfl, -⟩ := List.cons.inj h
   simpa using hx
theorem vtake_all {p : (Int × Int) → Bool} : ∀ (l : List (Int × Int)), ∀ y ∈ l.takeWhile p, p y = true
 | x :: l, y, h => by
  by_cases hx : p x = true
  ·rw [List.takeWhile_cons_of_pos hx] at h
   rcases List.mem_cons.1 h with rfl | h
   ·exact hx
   ·exact vtake_all l y h
  ·rw [List.takeWhile_cons_of_neg hx] at h
   cases h
theorem ins_vals {out : List (Int × Int)} (h : Vals out) (x : (Int × Int)) : Vals (insV out x) ∧ ∀ y, y ∈ insV out x ↔ y ∈ out ∨ (y = x ∧ mayP x = true) := by
 unfold insV
 by_cases hx : mayP x = true
 ·rw [if_pos hx]
  by_cases he : out[aheadOfV out x]? = some x
  ·rw [if_pos he]
   refine ⟨h, fun y => ⟨.inl, ?_⟩⟩
   rintro (hy | ⟨rfl, -⟩)
   ·exact hy
   ·exact List.mem_of_getElem? he
  ·rw [if_neg he]
   obtain ⟨h1, h2⟩ := ahead_splitV out x
   have happ : out.take (aheadOfV out x) ++ out.drop (aheadOfV out x) = out := List.take_append_drop _ _
   have hall := vtake_all (p := fun y => lessV y x) out
   rw [← h1] at hall
   have hrest : ∀ y ∈ out.drop (aheadOfV out x), lessV x y = true := by
    cases hd : out.drop (aheadOfV out x) with
    | nil => intro y hy; cases hy
    | cons z t =>
     have hz : lessV z x = false := drop_headV (p := fun y => lessV y x) (by rw [← h2]; exact hd)
     have hzm : z ∈ out := by rw [← happ, hd]; simp
     have hzx : z ≠ x := fun e => he (by
      have : (out.drop (aheadOfV out x))[0]? = some z := by rw [hd]; rfl
      rw [List.getElem?_drop, Nat.add_zero] at this
      rw [this, e])
     have hxz : lessV x z = true := by
      cases hc : lessV x z with
      | true => rfl
      | false => exact absurd (lessV_total (h.may z hzm) hx hz hc) hzx
     have hr := h.rise
     rw [← happ, hd] at hr
     have hr2 := (List.pairwise_append.1 hr).2.1
     intro y hy
     rcases List.mem_cons.1 hy with rfl | hy
     ·exact hxz
     ·exact lessV_trans hxz ((List.pairwise_cons.1 hr2).1 y hy)
   have hr := h.rise
   unfold RisingV at hr
   rw [← happ] at hr
   obtain ⟨ra, rb, rab⟩ := List.pairwise_append.1 hr
   refine ⟨⟨?_, ?_⟩, fun y => ?_⟩
   ·refine List.pairwise_append.2 ⟨ra, List.pairwise_cons.2 ⟨hrest, rb⟩, fun a ha b hb => ?_⟩
    rcases List.mem_cons.1 hb with rfl | hb
    ·exact hall a ha
    ·exact rab a ha b hb
   ·intro y hy
    rcases List.mem_append.1 hy with hy | hy
    ·exact h.may y (List.mem_of_mem_take hy)
    ·rcases List.mem_cons.1 hy with rfl | hy
     ·exact hx
     ·exact h.may y (List.mem_of_mem_drop hy)
   ·constructor
    ·intro hy
     rcases List.mem_append.1 hy with hy | hy
     ·exact .inl (List.mem_of_mem_take hy)
     ·rcases List.mem_cons.1 hy with rfl | hy
      ·exact .inr ⟨rfl, hx⟩
      ·exact .inl (List.mem_of_mem_drop hy)
    ·rintro (hy | ⟨rfl, -⟩)
     ·rw [← happ] at hy
      rcases List.mem_append.1 hy with hy | hy
      ·exact List.mem_append.2 (.inl hy)
      ·exact List.mem_append.2 (.inr (List.mem_cons_of_mem _ hy))
     ·exact List.mem_append.2 (.inr (List.mem_cons_self ..))
 ·rw [if_neg hx]
  refine ⟨h, fun y => ⟨.inl, ?_⟩⟩
  rintro (hy | ⟨-, hc⟩)
  ·exact hy
  ·exact absurd hc hx
theorem fold_vals : ∀ (l out : List (Int × Int)), Vals out → Vals (l.foldl insV out) ∧ ∀ y, y ∈ l.foldl insV out ↔ y ∈ out ∨ (y ∈ l ∧ mayP y = true)
 | [], out, h => ⟨h, fun y => by simp⟩
 | x :: l, out, h => by
  obtain ⟨h1, h2⟩ := ins_vals h x
  obtain ⟨h3, h4⟩ := fold_vals l (insV out x) h1
  refine ⟨h3, fun y => ?_⟩
  rw [List.foldl_cons, h4, h2]
  constructor
  ·rintro ((h | ⟨rfl, h⟩) | ⟨h, h'⟩)
   ·exact .inl h
   ·exact .inr ⟨List.mem_cons_self .., h⟩
   ·exact .inr ⟨List.mem_cons_of_mem _ h, h'⟩
  ·rintro (h | ⟨h, h'⟩)
   ·exact .inl (.inl h)
   ·rcases List.mem_cons.1 h with rfl | h
    ·exact .inl (.inr ⟨rfl, h'⟩)
    ·exact .inr ⟨h, h'⟩
theorem sortV_vals (l : List (Int × Int)) : Vals (sortV l) ∧ ∀ y, y ∈ sortV l ↔ y ∈ l ∧ mayP y = true := by
 obtain ⟨h1, h2⟩ := fold_vals l [] vals_nil
 exact ⟨h1, fun y => by rw [show sortV l = l.foldl insV [] from rfl, h2]; simp⟩
/-- What has just those vals, and rises, is that list. -/
theorem sortV_unique {l m : List (Int × Int)} (hr : RisingV m) (hm : ∀ y, y ∈ m ↔ y ∈ l ∧ mayP y = true) : m = sortV l :=
 rising_uniqueV m (sortV l) hr (sortV_vals l).1.rise fun y => by rw [hm, (sortV_vals l).2]
end Go.Proofs.YtjfbeeogiejopaaGreatDoor

set_option linter.unusedVariables false
set_option linter.unusedSimpArgs false
namespace Go.Proofs.YtjfbeeogiejopaaGreatDoor
/-- The read at a place. -/
def readO (h : Hst) (a b : Int) : Option (Tx × Op4) := (opAtH h a b).bind fun x => if x.2.wr = true then none else some x
theorem read_none {h : Hst} {a b : Int} (ho : opAtH h a b = none) : readO h a b = none := by unfold readO; rw [ho]; rfl
theorem read_some {h : Hst} {a b : Int} {x : Tx × Op4} (ho : opAtH h a b = some x) (hw : x.2.wr = false) : readO h a b = some x := by unfold readO; rw [ho]; simp [hw]
/-- What transaction i leaves of a key for a read of transaction a. -/
def forT (a key : Int) (i : Nat) (t : Tx) : Option (Int × Int) := if (i : Int) = a ∨ t.f = 2 then none else leftW key t.ops
def fitsV (v u : Int × Int) : Bool := decide (v.1 = 2) || decide (v = u)
def fitsO (v : Int × Int) : Option (Int × Int) → Bool
 | some u => fitsV v u
 | none => false
def whoL (a key : Int) (v : Int × Int) (l : List Tx) : List Int := (l.zipIdx.filter fun x => fitsO v (forT a key x.2 x.1)).map fun x => (x.2 : Int)
def headW (v : Int × Int) : List Int := if v.1 = 1 then [] else [-1]
def wrOf (h : Hst) (a b : Int) : List Int :=
 match readO h a b with
 | some x => headW (x.2.vk, x.2.vn) ++ whoL a x.2.key (x.2.vk, x.2.vn) h.l
 | none => []
def leftL (a key : Int) (l : List Tx) : List (Int × Int) := l.zipIdx.filterMap fun x => forT a key x.2 x.1
def valsO (a key : Int) (l : List Tx) : List (Int × Int) := (0, 0) :: leftL a key l
def valsH (h : Hst) (a b : Int) : List (Int × Int) :=
 match readO h a b with
 | some x => sortV (valsO a x.2.key h.l)
 | none => []
theorem wrOf_none {h : Hst} {a b : Int} (hr : readO h a b = none) : wrOf h a b = [] := by unfold wrOf; rw [hr]
theorem wrOf_some {h : Hst} {a b : Int} {t : Tx} {o : Op4} (hr : readO h a b = some (t, o)) : wrOf h a b = headW (o.vk, o.vn) ++ whoL a o.key (o.vk, o.vn) h.l := by unfold wrOf; rw [hr]
theorem valsH_none {h : Hst} {a b : Int} (hr : readO h a b = none) : valsH h a b = [] := by unfold valsH; rw [hr]
theorem valsH_some {h : Hst} {a b : Int} {t : Tx} {o : Op4} (hr : readO h a b = some (t, o)) : valsH h a b = sortV (valsO a o.key h.l) := by unfold valsH; rw [hr]
theorem whoL_take {a key : Int} {v : Int × Int} {l : List Tx} {k : Nat} {t : Tx} (h : l[k]? = some t) : whoL a key v (l.take (k + 1)) = whoL a key v (l.take k) ++ if fitsO v (forT a key k t) = true then [(k : Int)] else [] := by
 have hk := (List.getElem?_eq_some_iff.1 h).1
 unfold whoL
 rw [List.take_add_one, h, List.zipIdx_append, List.filter_append, List.map_append, List.length_take, Nat.min_eq_left (Nat.le_of_lt hk)]
 by_cases hp : fitsO v (forT a key k t) = true <;> simp [hp, List.zipIdx]
theorem whoL_le (a key : Int) (v : Int × Int) (l : List Tx) : (whoL a key v l).length ≤ l.length := by
 unfold whoL
 rw [List.length_map]
 exact Nat.le_trans (List.length_filter_le _ _) (by simp)
theorem headW_le (v : Int × Int) : (headW v).length ≤ 1 := by unfold headW; split <;> simp
theorem leftL_take {a key : Int} {l : List Tx} {k : Nat} {t : Tx} (h : l[k]? = some t) : leftL a key (l.take (k + 1)) = leftL a key (l.take k) ++ (forT a key k t).toList := by
 have hk := (List.getElem?_eq_some_iff.1 h).1
 unfold leftL
 rw [List.take_add_one, h, List.zipIdx_append, List.filterMap_append, List.length_take, Nat.min_eq_left (Nat.le_of_lt hk)]
 cases hf : forT a key k t <;> simp [hf, List.zipIdx]
theorem leftL_le (a key : Int) (l : List Tx) : (leftL a key l).length ≤ l.length := by
 unfold leftL
 exact Nat.le_trans (List.length_filterMap_le _ _) (by simp)

/-! ### Fresh values -/
/-- Has some write of a key that number? -/
def hitN (key n : Int) (o : Op4) : Bool := o.wr && (decide (o.key = key) && decide (o.vn = n))
def wroteN (l : List Tx) (key n : Int) : Bool := l.any fun t => t.ops.any (hitN key n)
def freshN (l : List Tx) (key : Int) : Nat := ((List.range 2000).find? fun n : Nat => !wroteN l key (n : Int)).getD 0
def numsL (l : List Tx) : List Int := l.flatMap fun t => t.ops.map fun o => o.vn
theorem wrote_mem {l : List Tx} {key n : Int} (h : wroteN l key n = true) : n ∈ numsL l := by
 unfold wroteN at h
 simp only [List.any_eq_true] at h
 obtain ⟨t, ht, o, ho, hh⟩ := h
 unfold hitN at hh
 simp only [Bool.and_eq_true, decide_eq_true_eq] at hh
 exact List.mem_flatMap.2 ⟨t, ht, List.mem_map.2 ⟨o, ho, hh.2.2⟩⟩
theorem nodup_len {α : Type} [BEq α] [LawfulBEq α] : ∀ (l k : List α), l.Nodup → (∀ x ∈ l, x ∈ k) → l.length ≤ k.length
 | [], k, _, _ => Nat.zero_le _
 | x :: l, k, hd, hm => by
  have hx := hm x List.mem_cons_self
  have hd2 := List.nodup_cons.1 hd
  have := nodup_len l (k.erase x) hd2.2 (fun y hy => (List.mem_erase_of_ne (fun e => hd2.1 (by rw [← e]; exact hy))).2 (hm y (List.mem_cons_of_mem _ hy)))
  rw [List.length_erase_of_mem hx] at this
  have := List.length_pos_of_mem hx
  rw [List.length_cons]
  omega
theorem nums_len {l : List Tx} (hn : l.length ≤ 40) (ho : ∀ t ∈ l, t.ops.length ≤ 20) : (numsL l).length ≤ 800 := by
 have : ∀ (k : List Tx), (∀ t ∈ k, t.ops.length ≤ 20) → (numsL k).length ≤ k.length * 20 := by
  intro k
  induction k with
  | nil => intro _; simp [numsL]
  | cons t k ih =>
   intro h
   have h1 := ih (fun x hx => h x (List.mem_cons_of_mem _ hx))
   have h2 := h t List.mem_cons_self
   unfold numsL at *
   rw [List.flatMap_cons, List.length_append, List.length_map, List.length_cons]
   omega
 have := this l ho
 omega
/-- Below are all written: then it is not far. -/
theorem fresh_bound {l : List Tx} {key : Int} {n : Nat} (hn : l.length ≤ 40) (ho : ∀ t ∈ l, t.ops.length ≤ 20) (h : ∀ m : Nat, m < n → wroteN l key (m : Int) = true) : n ≤ 800 := by
 have h1 := nodup_len ((List.range n).map fun m : Nat => (m : Int)) (numsL l) (by
  rw [List.nodup_iff_pairwise_ne, List.pairwise_map]
  exact (List.nodup_range (n := n)).imp (fun hne e => hne (by omega))) (fun x hx => by
  obtain ⟨m, hm, rfl⟩ := List.mem_map.1 hx
  exact wrote_mem (h m (List.mem_range.1 hm)))
 have h2 := nums_len hn ho
 rw [List.length_map, List.length_range] at h1
 omega
theorem fresh_is {l : List Tx} {key : Int} {n : Nat} (hb : n < 2000) (h : ∀ m : Nat, m < n → wroteN l key (m : Int) = true) (hn : wroteN l key (n : Int) = false) : freshN l key = n := by
 unfold freshN
 have : (List.range 2000).find? (fun n : Nat => !wroteN l key (n : Int)) = some n := by
  rw [List.find?_range_eq_some]
  exact ⟨by simp [hn], by simpa using hb, fun m hm => by simp [h m hm]⟩
 rw [this]
 rfl
theorem fresh_not {l : List Tx} {key : Int} (hn : l.length ≤ 40) (ho : ∀ t ∈ l, t.ops.length ≤ 20) : wroteN l key (freshN l key : Int) = false := by
 unfold freshN
 cases hf : (List.range 2000).find? (fun n : Nat => !wroteN l key (n : Int)) with
 | none =>
  exfalso
  have h1 := List.find?_eq_none.1 hf
  have := fresh_bound (key := key) (n := 2000) hn ho (fun m hm => by have := h1 m (List.mem_range.2 hm); simpa using this)
  omega
 | some n =>
  have := List.find?_some hf
  simpa using this
def freshV (h : Hst) (key : Int) : Int × Int := if mayH h = true ∧ 0 ≤ key ∧ key < (h.ks.length : Int) then (1, (freshN h.l key : Int)) else (0, 0)

/-! ### The most that write one key -/
def manyW (l : List Tx) (key : Int) : Nat := (whichL (writesB key) l).length
def mostN (l : List Tx) : Nat → Nat
 | 0 => 0
 | k + 1 => max (mostN l k) (manyW l (k : Int))
def mostH (h : Hst) : Nat := if mayH h = true then mostN h.l h.ks.length else 0
theorem manyW_le (l : List Tx) (key : Int) : manyW l key ≤ l.length := which_le _ _
theorem mostN_le (l : List Tx) : ∀ k, mostN l k ≤ l.length
 | 0 => Nat.zero_le _
 | k + 1 => Nat.max_le.2 ⟨mostN_le l k, manyW_le l _⟩
theorem manyW_take {key : Int} {l : List Tx} {k : Nat} {t : Tx} (h : l[k]? = some t) : manyW (l.take (k + 1)) key = manyW (l.take k) key + if writesB key t = true then 1 else 0 := by
 unfold manyW
 rw [which_take h, List.length_append]
 by_cases hp : writesB key t = true <;> simp [hp]
end Go.Proofs.YtjfbeeogiejopaaGreatDoor

set_option linter.unusedVariables false
set_option linter.unusedSimpArgs false
namespace Go.Proofs.YtjfbeeogiejopaaGreatDoor
open Go.RowKit Go.Shelf
open Go.Lib hiding intOf
attribute [local go_sem] Oper.semAt_some
theorem OpAt.belowB {B : Nat} {w w' : World} {b o : Nat} {x : Op4} (h : OpAt w b o x) (ho : Below B w w') (hb : b < B) : OpAt w' b o x :=
 ⟨(ho.cell (p := ⟨b, o, none⟩) hb).trans h.c0, (ho.cell (p := ⟨b, o + 1, none⟩) hb).trans h.c1, (ho.cell (p := ⟨b, o + 2, none⟩) hb).trans h.c2, (ho.cell (p := ⟨b, o + 3, none⟩) hb).trans h.c3⟩
theorem TxAt.belowB {B : Nat} {w w' : World} {b o : Nat} {x : TxA} (h : TxAt w b o x) (ho : Below B w w') (hb : b < B) : TxAt w' b o x :=
 ⟨(ho.cell (p := ⟨b, o, none⟩) hb).trans h.c0, (ho.cell (p := ⟨b, o + 1, none⟩) hb).trans h.c1, (ho.cell (p := ⟨b, o + 2, none⟩) hb).trans h.c2⟩
theorem blk_own {β : Type} (B : Nat) (t : TypeId) (f : β → Array Value) : Own (fun s W => Blk W B t (f s)) := fun s X Y row hs hg hrow =>
 (hg.block B hs.lt (fun e' => by obtain ⟨o, ho, hc⟩ := hrow B e'.symm; rw [show X.heap[B]? = _ from hs] at ho; cases ho; cases hc)).trans hs
end Go.Proofs.YtjfbeeogiejopaaGreatDoor
