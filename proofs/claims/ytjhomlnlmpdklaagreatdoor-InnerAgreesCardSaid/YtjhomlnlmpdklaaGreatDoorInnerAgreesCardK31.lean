/- The package hist: May. Which transactions of a history are asked for. Mathematics. What is told of a history's ops and transactions. Mathematics. inner.txn: the ops of a transaction, if there is one of a history that may be. Iterators: what they are walked by. -/
import Derived.Test.YtjhomlnlmpdklaaGreatDoorInnerAgreesCardK30
import Derived.Test.YtjhomlnlmpdklaaGreatDoorInnerAgreesCardK14
import Derived.Test.YtjhomlnlmpdklaaGreatDoorInnerAgreesCardK28
import Derived.RangeFuncNested
import Derived.RangeFuncBound
import Derived.RangeFuncCalls
import Derived.RangeFuncLeaves
import Derived.RangeFuncBox
import Derived.Shelf.Abstract
import Derived.Shelf.RegionOpen
import Derived.WalkKit
import Derived.OwnWalkIn
import Derived.TacticsInMore
import Derived.LoopNIn
import Derived.LoopIn
import Derived.Maps.AppendAt
set_option linter.unusedVariables false
set_option linter.unusedSimpArgs false
namespace Go.Proofs.YtjhomlnlmpdklaaGreatDoor
open Go.RowKit
open Go.Lib hiding intOf
attribute [local go_sem ↓] Go.wp_at_zero Go.wp_at_succ
def mayH (h : Hst) : Bool := namesB h.ss 20 && (namesB h.ks 40 && (txsB h && opsB h))
def errH (h : Hst) : Int := if mayH h = true then 0 else 4
/-- A history lies there, and is not too great; the tables lie there. -/
structure HIn (w : World) (B : Nat) (A0 A1 A2 : Option Addr) (n0 n1 n2 : Nat) (h : Hst) : Prop where
 at_ : HAt w B A0 A1 A2 h
 n0 : h.ss.length = n0
 n1 : h.ks.length = n1
 n2 : h.l.length = n2
 sm : HSmall h
 u : UTabs w
theorem HIn.only {S : List Nat} {w w' : World} {B : Nat} {A0 A1 A2 : Option Addr} {n0 n1 n2 : Nat} {h : Hst} (g : HIn w B A0 A1 A2 n0 n1 n2 h) (ho : Only S w w') (hS : ∀ i ∈ S, B ≤ i) (hU : UTabs w') : HIn w' B A0 A1 A2 n0 n1 n2 h :=
 ⟨g.at_.only ho hS, g.n0, g.n1, g.n2, g.sm, hU⟩
theorem HIn.up {w : World} {B : Nat} {A0 A1 A2 : Option Addr} {n0 n1 n2 : Nat} {h : Hst} (g : HIn w B A0 A1 A2 n0 n1 n2 h) : HIn w w.heap.size A0 A1 A2 n0 n1 n2 h := ⟨g.at_.up, g.n0, g.n1, g.n2, g.sm, g.u⟩
theorem HIn.same {w w' : World} {B : Nat} {A0 A1 A2 : Option Addr} {n0 n1 n2 : Nat} {h : Hst} (g : HIn w B A0 A1 A2 n0 n1 n2 h) (ho : Only [] w w') : HIn w' B A0 A1 A2 n0 n1 n2 h :=
 g.only ho (fun _ h => by cases h) (g.u.only ho)
theorem mayH_no0 {h : Hst} (h0 : namesB h.ss 20 = false) : errH h = 4 := by unfold errH mayH; rw [h0]; rfl
theorem mayH_no1 {h : Hst} (h0 : namesB h.ss 20 = true) (h1 : namesB h.ks 40 = false) : errH h = 4 := by unfold errH mayH; rw [h0, h1]; rfl
theorem mayH_no2 {h : Hst} (h0 : namesB h.ss 20 = true) (h1 : namesB h.ks 40 = true) (h2 : txsB h = false) : errH h = 4 := by unfold errH mayH; rw [h0, h1, h2]; rfl
theorem mayH_no3 {h : Hst} (h0 : namesB h.ss 20 = true) (h1 : namesB h.ks 40 = true) (h2 : txsB h = true) (h3 : opsB h = false) : errH h = 4 := by unfold errH mayH; rw [h0, h1, h2, h3]; rfl
theorem mayH_yes {h : Hst} (h0 : namesB h.ss 20 = true) (h1 : namesB h.ks 40 = true) (h2 : txsB h = true) (h3 : opsB h = true) : errH h = 0 := by unfold errH mayH; rw [h0, h1, h2, h3]; rfl
theorem namesB_le {l : List ByteArray} {m : Nat} (h : namesB l m = true) : l.length ≤ m := by
 unfold namesB at h
 simp at h
 exact h.1
set_option maxRecDepth 10000 in
set_option maxHeartbeats 2000000 in
theorem hmay_any (A0 A1 A2 : Option Addr) (n0 n1 n2 c0 c1 c2 B : Nat) (h : Hst) (w : World) (hg : HIn w B A0 A1 A2 n0 n1 n2 h) :
  Calls Tryz.prog 39 #[hval A0 A1 A2 n0 n1 n2 c0 c1 c2] w fun e w' => e = .returned (.int .i64 (errH h)) ∧ Only [] w w' := by
 have HI := Lib.hid hg
 have HN0 := Lib.hid (fun w' (O : Only [] w w') => names_any A0 n0 c0 B 20 h.ss w' hg.n0 (by have := hg.sm.ns; rw [hg.n0] at this; omega) hg.sm.s (hg.same O).at_.r0 (hg.same O).u)
 have HN1 := Lib.hid (fun w' (O : Only [] w w') => names_any A1 n1 c1 B 40 h.ks w' hg.n1 (by have := hg.sm.nk; rw [hg.n1] at this; omega) hg.sm.k (hg.same O).at_.r1 (hg.same O).u)
 have HTX := Lib.hid (fun (h0 : namesB h.ss 20 = true) w' (O : Only [] w w') => txs_any A0 A1 A2 n0 n1 n2 c0 c1 c2 B h w' (hg.same O).at_ hg.n0 hg.n2 (by have := namesB_le h0; rw [hg.n0] at this; exact this) (by have := hg.sm.nl; rw [hg.n2] at this; exact this))
 have HOP := Lib.hid (fun (h0 : namesB h.ks 40 = true) w' (O : Only [] w w') => ops_any A0 A1 A2 n0 n1 n2 c0 c1 c2 B h w' (hg.same O).at_ hg.n1 hg.n2 (by have := namesB_le h0; rw [hg.n1] at this; exact this) (by have := hg.sm.nl; rw [hg.n2] at this; exact this) hg.sm.no)
 unfold hval at HTX HOP ⊢
 have HO := Lib.hid ((Only.refl [] w).alloc (.cells #[.slice A0 n0 c0, .slice A1 n1 c1, .slice A2 n2 c2] 25))
 have HB := Lib.hid (Blk.made w 25 #[.slice A0 n0 c0, .slice A1 n1 c1, .slice A2 n2 c2])
 clear hg
 have F0 := Lib.hid (HN0.out _ HO.out)
 cases h0 : namesB h.ss 20 with
 | false =>
  rw [h0] at F0
  have HE := Lib.hid (mayH_no0 h0)
  clear h0
  go_enter Tryz.func39, Tryz.ntmps39
  go_wp2_with fail
  refine (F0.out).mono ?_
  rintro e w1 ⟨rfl, O1⟩
  have HO1 := Lib.hid (HO.out.trans O1)
  clear O1
  go_wp2
  go_ret
  exact ⟨by rw [HE.out]; rfl, HO1.out⟩
 | true =>
  rw [h0] at F0
  have HTX1 := Lib.hid (HTX.out h0)
  have H0 := Lib.hid h0
  clear HTX h0
  go_enter Tryz.func39, Tryz.ntmps39
  go_wp2_with fail
  refine (F0.out).mono ?_
  rintro e w1 ⟨rfl, O1⟩
  have HO1 := Lib.hid (HO.out.trans O1)
  have b1 := O1.blk HB.out (by simp)
  clear O1
  have HB1 := Lib.hid b1
  have l1 := b1.lt
  have x1 := b1.at_ 1
  simp at x1
  clear b1
  have F1 := Lib.hid (HN1.out _ HO1.out)
  cases h1 : namesB h.ks 40 with
  | false =>
   rw [h1] at F1
   have HE := Lib.hid (mayH_no1 H0.out h1)
   clear h1
   go_wp2_with fail
   refine (F1.out).mono ?_
   rintro e w2 ⟨rfl, O2⟩
   have HO2 := Lib.hid (HO1.out.trans O2)
   clear O2
   go_wp2
   go_ret
   exact ⟨by rw [HE.out]; rfl, HO2.out⟩
  | true =>
   rw [h1] at F1
   have HOP1 := Lib.hid (HOP.out h1)
   have H1 := Lib.hid h1
   clear HOP h1
   go_wp2_with fail
   refine (F1.out).mono ?_
   rintro e w2 ⟨rfl, O2⟩
   have HO2 := Lib.hid (HO1.out.trans O2)
   have b2 := O2.blk HB1.out (by simp)
   clear O2 l1 x1
   have HB2 := Lib.hid b2
   have l2 := b2.lt
   have y0 := b2.at_ 0
   have y1 := b2.at_ 1
   have y2 := b2.at_ 2
   simp at y0 y1 y2
   clear b2
   have F2 := Lib.hid (HTX1.out _ HO2.out)
   cases h2 : txsB h with
   | false =>
    rw [h2] at F2
    have HE := Lib.hid (mayH_no2 H0.out H1.out h2)
    clear h2
    go_wp2_with fail
    refine (F2.out).mono ?_
    rintro e w3 ⟨rfl, O3⟩
    have HO3 := Lib.hid (HO2.out.trans O3)
    clear O3
    go_wp2
    go_ret
    exact ⟨by rw [HE.out]; rfl, HO3.out⟩
   | true =>
    rw [h2] at F2
    have H2 := Lib.hid h2
    clear h2
    go_wp2_with fail
    refine (F2.out).mono ?_
    rintro e w3 ⟨rfl, O3⟩
    have HO3 := Lib.hid (HO2.out.trans O3)
    have b3 := O3.blk HB2.out (by simp)
    clear O3 l2 y0 y1 y2
    have l3 := b3.lt
    have y0 := b3.at_ 0
    have y1 := b3.at_ 1
    have y2 := b3.at_ 2
    simp at y0 y1 y2
    clear b3
    have F3 := Lib.hid (HOP1.out _ HO3.out)
    cases h3 : opsB h with
    | false =>
     rw [h3] at F3
     have HE := Lib.hid (mayH_no3 H0.out H1.out H2.out h3)
     clear h3
     go_wp2_with fail
     refine (F3.out).mono ?_
     rintro e w4 ⟨rfl, O4⟩
     have HO4 := Lib.hid (HO3.out.trans O4)
     clear O4
     go_wp2
     go_ret
     exact ⟨by rw [HE.out]; rfl, HO4.out⟩
    | true =>
     rw [h3] at F3
     have HE := Lib.hid (mayH_yes H0.out H1.out H2.out h3)
     clear h3
     go_wp2_with fail
     refine (F3.out).mono ?_
     rintro e w4 ⟨rfl, O4⟩
     have HO4 := Lib.hid (HO3.out.trans O4)
     clear O4
     go_wp2
     go_ret
     exact ⟨by rw [HE.out]; rfl, HO4.out⟩
end Go.Proofs.YtjhomlnlmpdklaaGreatDoor

set_option linter.unusedVariables false
set_option linter.unusedSimpArgs false
namespace Go.Proofs.YtjhomlnlmpdklaaGreatDoor
def whichL (p : Tx → Bool) (l : List Tx) : List Int := (l.zipIdx.filter fun x => p x.1).map fun x => (x.2 : Int)
theorem which_take {p : Tx → Bool} {l : List Tx} {k : Nat} {t : Tx} (h : l[k]? = some t) : whichL p (l.take (k + 1)) = whichL p (l.take k) ++ if p t = true then [(k : Int)] else [] := by
 have hk := (List.getElem?_eq_some_iff.1 h).1
 unfold whichL
 rw [List.take_add_one, h, List.zipIdx_append, List.filter_append, List.map_append, List.length_take, Nat.min_eq_left (Nat.le_of_lt hk)]
 by_cases hp : p t = true <;> simp [hp, List.zipIdx]
theorem which_le (p : Tx → Bool) (l : List Tx) : (whichL p l).length ≤ l.length := by
 unfold whichL
 rw [List.length_map]
 exact Nat.le_trans (List.length_filter_le _ _) (by simp)
end Go.Proofs.YtjhomlnlmpdklaaGreatDoor

set_option linter.unusedVariables false
set_option linter.unusedSimpArgs false
namespace Go.Proofs.YtjhomlnlmpdklaaGreatDoor
/-- The transaction at a place of a history that may be. -/
def txAtH (h : Hst) (a : Int) : Option Tx := if mayH h = true ∧ 0 ≤ a then h.l[a.toNat]? else none
def opAtH (h : Hst) (a b : Int) : Option (Tx × Op4) := (txAtH h a).bind fun t => if 0 ≤ b then (t.ops[b.toNat]?).map (fun o => (t, o)) else none
def ownO (h : Hst) (a b : Int) : Option (Int × Int) := (opAtH h a b).bind fun x => leftW x.2.key (x.1.ops.take b.toNat)
def outerB (h : Hst) (a b : Int) : Bool := match opAtH h a b with | some x => !x.2.wr && !(leftW x.2.key (x.1.ops.take b.toNat)).isSome | none => false
def leavesO (h : Hst) (a key : Int) : Option (Int × Int) := (txAtH h a).bind fun t => leftW key t.ops
def badH (h : Hst) (a : Int) : List Int := match txAtH h a with | some t => bdL t.ops | none => []
def writesB (key : Int) (t : Tx) : Bool := (leftW key t.ops).isSome && !decide (t.f = 2)
def wrtH (h : Hst) (key : Int) : List Int := if mayH h = true then whichL (writesB key) h.l else []
theorem txAt_no {h : Hst} {a : Int} (hm : mayH h = false) : txAtH h a = none := by unfold txAtH; rw [hm]; simp
theorem txAt_neg {h : Hst} {a : Int} (ha : a < 0) : txAtH h a = none := by unfold txAtH; rw [if_neg (by omega)]
theorem txAt_big {h : Hst} {a : Int} (ha : (h.l.length : Int) ≤ a) : txAtH h a = none := by
 unfold txAtH
 split
 ·exact List.getElem?_eq_none (by omega)
 ·rfl
theorem txAt_yes {h : Hst} {i : Nat} {t : Tx} (hm : mayH h = true) (ht : h.l[i]? = some t) : txAtH h (i : Int) = some t := by
 unfold txAtH
 rw [if_pos ⟨hm, by omega⟩]
 simpa using ht
theorem opAt_none {h : Hst} {a b : Int} (ht : txAtH h a = none) : opAtH h a b = none := by unfold opAtH; rw [ht]; rfl
theorem opAt_neg {h : Hst} {a b : Int} (hb : b < 0) : opAtH h a b = none := by
 unfold opAtH
 cases txAtH h a with
 | none => rfl
 | some t => simp only [Option.bind_some]; rw [if_neg (by omega)]
theorem opAt_big {h : Hst} {a b : Int} {t : Tx} (ht : txAtH h a = some t) (hb : (t.ops.length : Int) ≤ b) : opAtH h a b = none := by
 unfold opAtH
 rw [ht]
 simp only [Option.bind_some]
 split
 ·rw [List.getElem?_eq_none (by omega)]; rfl
 ·rfl
theorem opAt_yes {h : Hst} {a : Int} {j : Nat} {t : Tx} {o : Op4} (ht : txAtH h a = some t) (ho : t.ops[j]? = some o) : opAtH h a (j : Int) = some (t, o) := by
 unfold opAtH
 rw [ht]
 simp only [Option.bind_some]
 rw [if_pos (by omega)]
 simp [ho]
theorem own_none {h : Hst} {a b : Int} (ho : opAtH h a b = none) : ownO h a b = none := by unfold ownO; rw [ho]; rfl
theorem own_some {h : Hst} {a b : Int} {t : Tx} {o : Op4} (ho : opAtH h a b = some (t, o)) : ownO h a b = leftW o.key (t.ops.take b.toNat) := by unfold ownO; rw [ho]; rfl
theorem outer_none {h : Hst} {a b : Int} (ho : opAtH h a b = none) : outerB h a b = false := by unfold outerB; rw [ho]
theorem outer_some {h : Hst} {a b : Int} {t : Tx} {o : Op4} (ho : opAtH h a b = some (t, o)) : outerB h a b = (!o.wr && !(leftW o.key (t.ops.take b.toNat)).isSome) := by unfold outerB; rw [ho]
theorem bad_none {h : Hst} {a : Int} (ht : txAtH h a = none) : badH h a = [] := by unfold badH; rw [ht]
theorem bad_some {h : Hst} {a : Int} {t : Tx} (ht : txAtH h a = some t) : badH h a = bdL t.ops := by unfold badH; rw [ht]
theorem leaves_none {h : Hst} {a key : Int} (ht : txAtH h a = none) : leavesO h a key = none := by unfold leavesO; rw [ht]; rfl
theorem leaves_some {h : Hst} {a key : Int} {t : Tx} (ht : txAtH h a = some t) : leavesO h a key = leftW key t.ops := by unfold leavesO; rw [ht]; rfl
theorem bdL_take {l : List Op4} {i : Nat} {o : Op4} (h : l[i]? = some o) : bdL (l.take (i + 1)) = bdL (l.take i) ++ if badO l i o = true then [(i : Int)] else [] := by
 have hi := (List.getElem?_eq_some_iff.1 h).1
 have hz : ∀ (j : Nat), (l.take j).zipIdx = l.zipIdx.take j := fun j => by
  refine List.ext_getElem? fun k => ?_
  rw [List.getElem?_zipIdx, List.getElem?_take, List.getElem?_take, List.getElem?_zipIdx]
  split <;> rfl
 have key : ∀ (j : Nat), j ≤ l.length → bdL (l.take j) = ((l.zipIdx.take j).filter fun x => badO l x.2 x.1).map fun x => (x.2 : Int) := fun j hj => by
  unfold bdL
  rw [hz]
  congr 1
  refine List.filter_congr fun x hx => ?_
  obtain ⟨k, hk, rfl⟩ := List.mem_iff_getElem.1 hx
  have hk' : k < j := by rw [List.length_take] at hk; omega
  simp only [List.getElem_take, List.getElem_zipIdx]
  unfold badO
  rw [List.take_take, Nat.zero_add, Nat.min_eq_left (by omega)]
 rw [key _ (by omega), key _ (by omega), List.take_add_one, List.filter_append, List.map_append]
 congr 1
 rw [List.getElem?_zipIdx, h]
 cases hb : badO l i o <;> simp [hb]
theorem bdL_le (l : List Op4) : (bdL l).length ≤ l.length := by
 unfold bdL
 rw [List.length_map]
 exact Nat.le_trans (List.length_filter_le _ _) (by simp)
end Go.Proofs.YtjhomlnlmpdklaaGreatDoor

set_option linter.unusedVariables false
set_option linter.unusedSimpArgs false
namespace Go.Proofs.YtjhomlnlmpdklaaGreatDoor
open Go.RowKit
open Go.Lib hiding intOf
attribute [local go_sem ↓] Go.wp_at_zero Go.wp_at_succ
theorem errH_yes {h : Hst} (hm : mayH h = true) : errH h = 0 := by unfold errH; rw [hm]; rfl
theorem errH_not {h : Hst} (hm : mayH h = false) : errH h = 4 := by unfold errH; rw [hm]; rfl
set_option maxRecDepth 10000 in
set_option maxHeartbeats 4000000 in
theorem txn_no (A0 A1 A2 : Option Addr) (n0 n1 n2 c0 c1 c2 B : Nat) (h : Hst) (a : Int) (w : World) (hg : HIn w B A0 A1 A2 n0 n1 n2 h) (ht : txAtH h a = none) :
  Calls Tryz.prog 32 #[hval A0 A1 A2 n0 n1 n2 c0 c1 c2, .int .i64 a] w fun e w' => e = .returned (.tuple #[.slice none 0 0, .bool false]) ∧ Only [] w w' := by
 have HN2 := Lib.hid hg.n2
 have HM := Lib.hid (fun w' (O : Only [] w w') => hmay_any A0 A1 A2 n0 n1 n2 c0 c1 c2 B h w' (hg.same O))
 unfold hval at HM ⊢
 clear hg
 have O1 : Only [] w (w.alloc (.cells #[.slice A0 n0 c0, .slice A1 n1 c1, .slice A2 n2 c2] 25)) := (Only.refl [] w).alloc _
 have HB1 := Lib.hid (Blk.made w 25 #[.slice A0 n0 c0, .slice A1 n1 c1, .slice A2 n2 c2])
 have HF := Lib.hid (HM.out _ O1)
 have HO1 := Lib.hid O1
 clear O1 HM
 cases hm : mayH h with
 | false =>
  rw [errH_not hm] at HF
  clear hm ht
  go_enter Tryz.func32, Tryz.ntmps32
  go_wp2_with fail
  refine (HF.out).mono ?_
  rintro e w2 ⟨rfl, O2⟩
  have HO2 := Lib.hid (HO1.out.trans O2)
  clear O2
  go_wp2
  go_ret2
  exact ⟨rfl, HO2.out⟩
 | true =>
  rw [errH_yes hm] at HF
  by_cases h1 : a < 0
  ·clear ht hm
   go_enter Tryz.func32, Tryz.ntmps32
   go_wp2_with fail
   refine (HF.out).mono ?_
   rintro e w2 ⟨rfl, O2⟩
   have HO2 := Lib.hid (HO1.out.trans O2)
   have d1 : decide (a < 0) = true := decide_eq_true (by omega)
   clear O2 h1
   go_wp2
   go_ret2
   exact ⟨rfl, HO2.out⟩
  ·have h2 : (n2 : Int) ≤ a := by
    by_cases h2 : (n2 : Int) ≤ a
    ·exact h2
    ·obtain ⟨i, rfl⟩ : ∃ i : Nat, a = i := ⟨a.toNat, by omega⟩
     obtain ⟨t, he⟩ : ∃ t, h.l[i]? = some t := ⟨_, List.getElem?_eq_getElem (by rw [HN2.out]; omega)⟩
     rw [txAt_yes hm he] at ht
     cases ht
   clear ht hm
   go_enter Tryz.func32, Tryz.ntmps32
   go_wp2_with fail
   refine (HF.out).mono ?_
   rintro e w2 ⟨rfl, O2⟩
   have HO2 := Lib.hid (HO1.out.trans O2)
   have b2 := O2.blk HB1.out (by simp)
   have l2 := b2.lt
   have y2 := b2.at_ 2
   simp at y2
   have d1 : decide (a < 0) = false := decide_eq_false (by omega)
   have d2 : decide ((n2 : Int) ≤ a) = true := decide_eq_true (by omega)
   clear O2 h1 h2 b2
   go_wp2
   go_ret2
   exact ⟨rfl, HO2.out⟩
set_option maxRecDepth 10000 in
set_option maxHeartbeats 4000000 in
theorem txn_yes (A0 A1 A2 : Option Addr) (n0 n1 n2 c0 c1 c2 B : Nat) (h : Hst) (a : Int) (t : Tx) (w : World) (hg : HIn w B A0 A1 A2 n0 n1 n2 h) (ht : txAtH h a = some t) :
  Calls Tryz.prog 32 #[hval A0 A1 A2 n0 n1 n2 c0 c1 c2, .int .i64 a] w fun e w' => ∃ A c, (e = .returned (.tuple #[.slice A t.ops.length c, .bool true]) ∧ TxOk w' B ⟨t, A, c⟩) ∧ Only [] w w' := by
 have HN2 := Lib.hid hg.n2
 have HL := Lib.hid hg.at_.r2
 have HM := Lib.hid (fun w' (O : Only [] w w') => hmay_any A0 A1 A2 n0 n1 n2 c0 c1 c2 B h w' (hg.same O))
 unfold hval at HM ⊢
 clear hg
 have O1 : Only [] w (w.alloc (.cells #[.slice A0 n0 c0, .slice A1 n1 c1, .slice A2 n2 c2] 25)) := (Only.refl [] w).alloc _
 have HB1 := Lib.hid (Blk.made w 25 #[.slice A0 n0 c0, .slice A1 n1 c1, .slice A2 n2 c2])
 have HF := Lib.hid (HM.out _ O1)
 have HO1 := Lib.hid O1
 clear O1 HM
 have hm : mayH h = true := by
  cases hm : mayH h with
  | true => rfl
  | false => rw [txAt_no hm] at ht; cases ht
 rw [errH_yes hm] at HF
 have h1 : ¬ a < 0 := fun h1 => by rw [txAt_neg h1] at ht; cases ht
 have h2 : ¬ (n2 : Int) ≤ a := fun h2 => by rw [txAt_big (by rw [HN2.out]; exact h2)] at ht; cases ht
 obtain ⟨i, rfl⟩ : ∃ i : Nat, a = i := ⟨a.toNat, by omega⟩
 have hi : h.l[i]? = some t := by
  unfold txAtH at ht
  rw [if_pos ⟨hm, by omega⟩] at ht
  simpa using ht
 obtain ⟨b, off, A', cp, rfl, -, hbw, hT, hOk⟩ := HL.out.at_ hi
 have HT := Lib.hid hT
 have HOk := Lib.hid hOk
 clear ht hm hi hT hOk HL
 go_enter Tryz.func32, Tryz.ntmps32
 go_wp2_with fail
 refine (HF.out).mono ?_
 rintro e w2 ⟨rfl, O2⟩
 have HO2 := Lib.hid (HO1.out.trans O2)
 have b2 := O2.blk HB1.out (by simp)
 have l2 := b2.lt
 have y2 := b2.at_ 2
 simp at y2
 obtain ⟨t0, t1, t2⟩ := HT.out.only HO2.out hbw (by simp)
 have HX := Lib.hid (HOk.out.only HO2.out (by simp))
 have hbr : b < w2.heap.size := by have := HO2.out.size; omega
 have hi0 : (0 : Int) ≤ (i : Int) := Int.natCast_nonneg _
 have hi1 : (i : Int) < (n2 : Int) := by omega
 have d1 : decide ((i : Int) < 0) = false := decide_eq_false (by omega)
 have d2 : decide ((n2 : Int) ≤ (i : Int)) = false := decide_eq_false (by omega)
 have d3 : decide (n2 ≤ i) = false := decide_eq_false (by omega)
 dsimp only at t2
 clear O2 h1 h2 b2 HOk HT
 go_wp2
 go_ret2
 exact ⟨_, _, ⟨rfl, HX.out⟩, HO2.out⟩
end Go.Proofs.YtjhomlnlmpdklaaGreatDoor

set_option linter.unusedVariables false
set_option linter.unusedSimpArgs false
namespace Go.Proofs.YtjhomlnlmpdklaaGreatDoor
open Go.RowKit Go.Shelf
open Go.Lib hiding intOf
attribute [local go_sem] Oper.semAt_some
theorem OpAt.belowB {B : Nat} {w w' : World} {b o : Nat} {x : Op4} (h : OpAt w b o x) (ho : Below B w w') (hb : b < B) : OpAt w' b o x :=
 ⟨(ho.cell (p := ⟨b, o, none⟩) hb).trans h.c0, (ho.cell (p := ⟨b, o + 1, none⟩) hb).trans h.c1, (ho.cell (p := ⟨b, o + 2, none⟩) hb).trans h.c2, (ho.cell (p := ⟨b, o + 3, none⟩) hb).trans h.c3⟩
theorem TxAt.belowB {B : Nat} {w w' : World} {b o : Nat} {x : TxA} (h : TxAt w b o x) (ho : Below B w w') (hb : b < B) : TxAt w' b o x :=
 ⟨(ho.cell (p := ⟨b, o, none⟩) hb).trans h.c0, (ho.cell (p := ⟨b, o + 1, none⟩) hb).trans h.c1, (ho.cell (p := ⟨b, o + 2, none⟩) hb).trans h.c2⟩
theorem blk_own {β : Type} (B : Nat) (t : TypeId) (f : β → Array Value) : Own (fun s W => Blk W B t (f s)) := fun s X Y row hs hg hrow =>
 (hg.block B hs.lt (fun e' => by obtain ⟨o, ho, hc⟩ := hrow B e'.symm; rw [show X.heap[B]? = _ from hs] at ho; cases ho; cases hc)).trans hs
end Go.Proofs.YtjhomlnlmpdklaaGreatDoor
