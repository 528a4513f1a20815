/- The package hist: May. Histories of which some ops stay. Mathematics. slices.ContainsFunc as erase calls it: is there an op, a transaction of that key that stays? -/
import Derived.Test.YtjhomlnlmpdklaaGreatDoorEraseStaysCardK30
import Derived.Test.YtjhomlnlmpdklaaGreatDoorEraseStaysCardK3
set_option linter.unusedVariables false
set_option linter.unusedSimpArgs false
namespace Go.Proofs.YtjhomlnlmpdklaaGreatDoor
open Go.RowKit
open Go.Lib hiding intOf
attribute [local go_sem ↓] Go.wp_at_zero Go.wp_at_succ
def mayH (h : Hst) : Bool := namesB h.ss 20 && (namesB h.ks 40 && (txsB h && opsB h))
def errH (h : Hst) : Int := if mayH h = true then 0 else 4
/-- A history lies there, and is not too great; the tables lie there. -/
structure HIn (w : World) (B : Nat) (A0 A1 A2 : Option Addr) (n0 n1 n2 : Nat) (h : Hst) : Prop where
 at_ : HAt w B A0 A1 A2 h
 n0 : h.ss.length = n0
 n1 : h.ks.length = n1
 n2 : h.l.length = n2
 sm : HSmall h
 u : UTabs w
theorem HIn.only {S : List Nat} {w w' : World} {B : Nat} {A0 A1 A2 : Option Addr} {n0 n1 n2 : Nat} {h : Hst} (g : HIn w B A0 A1 A2 n0 n1 n2 h) (ho : Only S w w') (hS : ∀ i ∈ S, B ≤ i) (hU : UTabs w') : HIn w' B A0 A1 A2 n0 n1 n2 h :=
 ⟨g.at_.only ho hS, g.n0, g.n1, g.n2, g.sm, hU⟩
theorem HIn.up {w : World} {B : Nat} {A0 A1 A2 : Option Addr} {n0 n1 n2 : Nat} {h : Hst} (g : HIn w B A0 A1 A2 n0 n1 n2 h) : HIn w w.heap.size A0 A1 A2 n0 n1 n2 h := ⟨g.at_.up, g.n0, g.n1, g.n2, g.sm, g.u⟩
theorem HIn.same {w w' : World} {B : Nat} {A0 A1 A2 : Option Addr} {n0 n1 n2 : Nat} {h : Hst} (g : HIn w B A0 A1 A2 n0 n1 n2 h) (ho : Only [] w w') : HIn w' B A0 A1 A2 n0 n1 n2 h :=
 g.only ho (fun _ h => by cases h) (g.u.only ho)
theorem mayH_no0 {h : Hst} (h0 : namesB h.ss 20 = false) : errH h = 4 := by unfold errH mayH; rw [h0]; rfl
theorem mayH_no1 {h : Hst} (h0 : namesB h.ss 20 = true) (h1 : namesB h.ks 40 = false) : errH h = 4 := by unfold errH mayH; rw [h0, h1]; rfl
theorem mayH_no2 {h : Hst} (h0 : namesB h.ss 20 = true) (h1 : namesB h.ks 40 = true) (h2 : txsB h = false) : errH h = 4 := by unfold errH mayH; rw [h0, h1, h2]; rfl
theorem mayH_no3 {h : Hst} (h0 : namesB h.ss 20 = true) (h1 : namesB h.ks 40 = true) (h2 : txsB h = true) (h3 : opsB h = false) : errH h = 4 := by unfold errH mayH; rw [h0, h1, h2, h3]; rfl
theorem mayH_yes {h : Hst} (h0 : namesB h.ss 20 = true) (h1 : namesB h.ks 40 = true) (h2 : txsB h = true) (h3 : opsB h = true) : errH h = 0 := by unfold errH mayH; rw [h0, h1, h2, h3]; rfl
theorem namesB_le {l : List ByteArray} {m : Nat} (h : namesB l m = true) : l.length ≤ m := by
 unfold namesB at h
 simp at h
 exact h.1
set_option maxRecDepth 10000 in
set_option maxHeartbeats 2000000 in
theorem hmay_any (A0 A1 A2 : Option Addr) (n0 n1 n2 c0 c1 c2 B : Nat) (h : Hst) (w : World) (hg : HIn w B A0 A1 A2 n0 n1 n2 h) :
  Calls Tryz.prog 39 #[hval A0 A1 A2 n0 n1 n2 c0 c1 c2] w fun e w' => e = .returned (.int .i64 (errH h)) ∧ Only [] w w' := by
 have HI := Lib.hid hg
 have HN0 := Lib.hid (fun w' (O : Only [] w w') => names_any A0 n0 c0 B 20 h.ss w' hg.n0 (by have := hg.sm.ns; rw [hg.n0] at this; omega) hg.sm.s (hg.same O).at_.r0 (hg.same O).u)
 have HN1 := Lib.hid (fun w' (O : Only [] w w') => names_any A1 n1 c1 B 40 h.ks w' hg.n1 (by have := hg.sm.nk; rw [hg.n1] at this; omega) hg.sm.k (hg.same O).at_.r1 (hg.same O).u)
 have HTX := Lib.hid (fun (h0 : namesB h.ss 20 = true) w' (O : Only [] w w') => txs_any A0 A1 A2 n0 n1 n2 c0 c1 c2 B h w' (hg.same O).at_ hg.n0 hg.n2 (by have := namesB_le h0; rw [hg.n0] at this; exact this) (by have := hg.sm.nl; rw [hg.n2] at this; exact this))
 have HOP := Lib.hid (fun (h0 : namesB h.ks 40 = true) w' (O : Only [] w w') => ops_any A0 A1 A2 n0 n1 n2 c0 c1 c2 B h w' (hg.same O).at_ hg.n1 hg.n2 (by have := namesB_le h0; rw [hg.n1] at this; exact this) (by have := hg.sm.nl; rw [hg.n2] at this; exact this) hg.sm.no)
 unfold hval at HTX HOP ⊢
 have HO := Lib.hid ((Only.refl [] w).alloc (.cells #[.slice A0 n0 c0, .slice A1 n1 c1, .slice A2 n2 c2] 25))
 have HB := Lib.hid (Blk.made w 25 #[.slice A0 n0 c0, .slice A1 n1 c1, .slice A2 n2 c2])
 clear hg
 have F0 := Lib.hid (HN0.out _ HO.out)
 cases h0 : namesB h.ss 20 with
 | false =>
  rw [h0] at F0
  have HE := Lib.hid (mayH_no0 h0)
  clear h0
  go_enter Tryz.func39, Tryz.ntmps39
  go_wp2_with fail
  refine (F0.out).mono ?_
  rintro e w1 ⟨rfl, O1⟩
  have HO1 := Lib.hid (HO.out.trans O1)
  clear O1
  go_wp2
  go_ret
  exact ⟨by rw [HE.out]; rfl, HO1.out⟩
 | true =>
  rw [h0] at F0
  have HTX1 := Lib.hid (HTX.out h0)
  have H0 := Lib.hid h0
  clear HTX h0
  go_enter Tryz.func39, Tryz.ntmps39
  go_wp2_with fail
  refine (F0.out).mono ?_
  rintro e w1 ⟨rfl, O1⟩
  have HO1 := Lib.hid (HO.out.trans O1)
  have b1 := O1.blk HB.out (by simp)
  clear O1
  have HB1 := Lib.hid b1
  have l1 := b1.lt
  have x1 := b1.at_ 1
  simp at x1
  clear b1
  have F1 := Lib.hid (HN1.out _ HO1.out)
  cases h1 : namesB h.ks 40 with
  | false =>
   rw [h1] at F1
   have HE := Lib.hid (mayH_no1 H0.out h1)
   clear h1
   go_wp2_with fail
   refine (F1.out).mono ?_
   rintro e w2 ⟨rfl, O2⟩
   have HO2 := Lib.hid (HO1.out.trans O2)
   clear O2
   go_wp2
   go_ret
   exact ⟨by rw [HE.out]; rfl, HO2.out⟩
  | true =>
   rw [h1] at F1
   have HOP1 := Lib.hid (HOP.out h1)
   have H1 := Lib.hid h1
   clear HOP h1
   go_wp2_with fail
   refine (F1.out).mono ?_
   rintro e w2 ⟨rfl, O2⟩
   have HO2 := Lib.hid (HO1.out.trans O2)
   have b2 := O2.blk HB1.out (by simp)
   clear O2 l1 x1
   have HB2 := Lib.hid b2
   have l2 := b2.lt
   have y0 := b2.at_ 0
   have y1 := b2.at_ 1
   have y2 := b2.at_ 2
   simp at y0 y1 y2
   clear b2
   have F2 := Lib.hid (HTX1.out _ HO2.out)
   cases h2 : txsB h with
   | false =>
    rw [h2] at F2
    have HE := Lib.hid (mayH_no2 H0.out H1.out h2)
    clear h2
    go_wp2_with fail
    refine (F2.out).mono ?_
    rintro e w3 ⟨rfl, O3⟩
    have HO3 := Lib.hid (HO2.out.trans O3)
    clear O3
    go_wp2
    go_ret
    exact ⟨by rw [HE.out]; rfl, HO3.out⟩
   | true =>
    rw [h2] at F2
    have H2 := Lib.hid h2
    clear h2
    go_wp2_with fail
    refine (F2.out).mono ?_
    rintro e w3 ⟨rfl, O3⟩
    have HO3 := Lib.hid (HO2.out.trans O3)
    have b3 := O3.blk HB2.out (by simp)
    clear O3 l2 y0 y1 y2
    have l3 := b3.lt
    have y0 := b3.at_ 0
    have y1 := b3.at_ 1
    have y2 := b3.at_ 2
    simp at y0 y1 y2
    clear b3
    have F3 := Lib.hid (HOP1.out _ HO3.out)
    cases h3 : opsB h with
    | false =>
     rw [h3] at F3
     have HE := Lib.hid (mayH_no3 H0.out H1.out H2.out h3)
     clear h3
     go_wp2_with fail
     refine (F3.out).mono ?_
     rintro e w4 ⟨rfl, O4⟩
     have HO4 := Lib.hid (HO3.out.trans O4)
     clear O4
     go_wp2
     go_ret
     exact ⟨by rw [HE.out]; rfl, HO4.out⟩
    | true =>
     rw [h3] at F3
     have HE := Lib.hid (mayH_yes H0.out H1.out H2.out h3)
     clear h3
     go_wp2_with fail
     refine (F3.out).mono ?_
     rintro e w4 ⟨rfl, O4⟩
     have HO4 := Lib.hid (HO3.out.trans O4)
     clear O4
     go_wp2
     go_ret
     exact ⟨by rw [HE.out]; rfl, HO4.out⟩
end Go.Proofs.YtjhomlnlmpdklaaGreatDoor

set_option linter.unusedVariables false
set_option linter.unusedSimpArgs false
namespace Go.Proofs.YtjhomlnlmpdklaaGreatDoor
/-- Has a transaction an op of that key that stays? -/
def opUse (p : Op4 → Bool) (i : Int) (o : Op4) : Bool := decide (o.key = i) && p o
def txUse (p : Op4 → Bool) (i : Int) (t : Tx) : Bool := t.ops.any (opUse p i)
def usedK (p : Op4 → Bool) (l : List Tx) (i : Int) : Bool := l.any (txUse p i)
/-- How many keys ahead of one are still used: its new number. -/
def numK (p : Op4 → Bool) (l : List Tx) (i : Nat) : Nat := ((List.range i).filter fun k : Nat => usedK p l (k : Int)).length
/-- The names that stay, of the first ones. -/
def keptK (p : Op4 → Bool) (l : List Tx) (ks : List ByteArray) : List ByteArray := (ks.zipIdx.filter fun x => usedK p l (x.2 : Int)).map Prod.fst
def keyTo (p : Op4 → Bool) (l : List Tx) (o : Op4) : Op4 := { o with key := (numK p l o.key.toNat : Int) }
def keptO (p : Op4 → Bool) (l : List Tx) (ops : List Op4) : List Op4 := (ops.filter p).map (keyTo p l)
def keptT (p : Op4 → Bool) (l : List Tx) (t : Tx) : Tx := { t with ops := keptO p l t.ops }
def keptH (p : Op4 → Bool) (h : Hst) : Hst := ⟨h.ss, keptK p h.l h.ks, h.l.map (keptT p h.l)⟩
theorem numK_succ (p : Op4 → Bool) (l : List Tx) (i : Nat) : numK p l (i + 1) = numK p l i + if usedK p l (i : Int) = true then 1 else 0 := by
 unfold numK
 rw [List.range_succ, List.filter_append, List.length_append]
 cases h : usedK p l (i : Int) <;> simp [h]
theorem numK_le (p : Op4 → Bool) (l : List Tx) (i : Nat) : numK p l i ≤ i := by
 unfold numK
 exact Nat.le_trans (List.length_filter_le _ _) (by simp)
theorem keptK_take {p : Op4 → Bool} {l : List Tx} {ks : List ByteArray} {i : Nat} {s : ByteArray} (h : ks[i]? = some s) :
  keptK p l (ks.take (i + 1)) = keptK p l (ks.take i) ++ if usedK p l (i : Int) = true then [s] else [] := by
 have hk := (List.getElem?_eq_some_iff.1 h).1
 unfold keptK
 rw [List.take_add_one, h, List.zipIdx_append, List.filter_append, List.map_append, List.length_take, Nat.min_eq_left (Nat.le_of_lt hk)]
 cases hp : usedK p l (i : Int) <;> simp [hp, List.zipIdx]
theorem keptK_len (p : Op4 → Bool) (l : List Tx) (ks : List ByteArray) (i : Nat) (hi : i ≤ ks.length) : (keptK p l (ks.take i)).length = numK p l i := by
 induction i with
 | zero => rfl
 | succ i ih =>
  obtain ⟨s, hs⟩ : ∃ s, ks[i]? = some s := ⟨_, List.getElem?_eq_getElem (by omega)⟩
  rw [keptK_take hs, List.length_append, ih (by omega), numK_succ]
  cases usedK p l (i : Int) <;> simp
theorem keptO_take {p : Op4 → Bool} {l : List Tx} {ops : List Op4} {j : Nat} {o : Op4} (h : ops[j]? = some o) :
  keptO p l (ops.take (j + 1)) = keptO p l (ops.take j) ++ if p o = true then [keyTo p l o] else [] := by
 unfold keptO
 rw [List.take_add_one, h, List.filter_append, List.map_append]
 cases hp : p o <;> simp [hp]
theorem keptO_len (p : Op4 → Bool) (l : List Tx) (ops : List Op4) : (keptO p l ops).length ≤ ops.length := by
 unfold keptO
 rw [List.length_map]
 exact List.length_filter_le _ _
theorem used_of {p : Op4 → Bool} {l : List Tx} {t : Tx} {o : Op4} (ht : t ∈ l) (ho : o ∈ t.ops) (hp : p o = true) : usedK p l o.key = true :=
 List.any_eq_true.2 ⟨t, ht, List.any_eq_true.2 ⟨o, ho, by unfold opUse; simp [hp]⟩⟩
end Go.Proofs.YtjhomlnlmpdklaaGreatDoor

set_option linter.unusedVariables false
set_option linter.unusedSimpArgs false
namespace Go.Proofs.YtjhomlnlmpdklaaGreatDoor
open Go.RowKit
open Go.Lib hiding intOf
attribute [local go_sem ↓] Go.wp_at_zero Go.wp_at_succ
def notLost (o : Op4) : Bool := !decide (o.vk = 2)
def anyOp (_ : Op4) : Bool := true
/-- The function k asks of an op whether it stays. -/
def Stays (k : FuncId) (p : Op4 → Bool) : Prop := (k = 43 ∧ p = notLost) ∨ (k = 45 ∧ p = anyOp)
set_option maxHeartbeats 1000000 in
theorem stays_of (o : Op4) (w : World) : Calls Tryz.prog 43 #[.agg #[.bool o.wr, .int .i64 o.key, .int .i64 o.vk, .int .i64 o.vn]] w fun e w' => e = .returned (.bool (!decide (o.vk = 2))) ∧ Only [] w w' := by
 obtain ⟨yw, yk, yv, yn⟩ := o
 dsimp only
 have HB : (yv != 2) = !decide (yv = 2) := by by_cases h : yv = 2 <;> simp [h]
 have HO := Lib.hid ((Only.refl [] w).alloc (.cells #[.bool yw, .int .i64 yk, .int .i64 yv, .int .i64 yn] 46))
 generalize (!decide (yv = 2)) = r at *
 go_enter Tryz.func43, Tryz.ntmps43
 go_wp2
 go_ret
 exact ⟨by first | rfl | (rw [HB]; rfl), HO.out⟩
set_option maxHeartbeats 1000000 in
theorem stays_by (o : Op4) (w : World) : Calls Tryz.prog 45 #[.agg #[.bool o.wr, .int .i64 o.key, .int .i64 o.vk, .int .i64 o.vn]] w fun e w' => e = .returned (.bool true) ∧ Only [] w w' := by
 obtain ⟨yw, yk, yv, yn⟩ := o
 dsimp only
 have HO := Lib.hid ((Only.refl [] w).alloc (.cells #[.bool yw, .int .i64 yk, .int .i64 yv, .int .i64 yn] 46))
 go_enter Tryz.func45, Tryz.ntmps45
 go_wp2
 go_ret
 exact ⟨rfl, HO.out⟩
set_option maxRecDepth 100000 in
set_option maxHeartbeats 1000000 in
theorem hit_any (k : FuncId) (p : Op4 → Bool) (hS : Stays k p) (g9 g3 : Nat) (i : Int) (o : Op4) (w : World) (h9 : w.cell? ⟨g9, 0, none⟩ = some (.int .i64 i)) (h3 : w.cell? ⟨g3, 0, none⟩ = some (.func (.func k) #[] #[])) :
  Calls Tryz.prog 61 #[.agg #[.bool o.wr, .int .i64 o.key, .int .i64 o.vk, .int .i64 o.vn], .pointer (some ⟨g9, 0, none⟩), .pointer (some ⟨g3, 0, none⟩)] w fun e w' => e = .returned (.bool (opUse p i o)) ∧ Only [] w w' := by
 obtain ⟨yw, yk, yv, yn⟩ := o
 have HSO := Lib.hid (fun w' => stays_of ⟨yw, yk, yv, yn⟩ w')
 have HSB := Lib.hid (fun w' => stays_by ⟨yw, yk, yv, yn⟩ w')
 have HPO : Hid (notLost ⟨yw, yk, yv, yn⟩ = !decide (yv = 2)) := Lib.hid rfl
 dsimp only at HSO HSB ⊢
 unfold opUse
 dsimp only
 have l9 : g9 < w.heap.size := by
  cases hh : w.heap[g9]? with
  | none => simp [World.cell?, hh] at h9
  | some x => exact (Array.getElem?_eq_some_iff.1 hh).1
 have l3 : g3 < w.heap.size := by
  cases hh : w.heap[g3]? with
  | none => simp [World.cell?, hh] at h3
  | some x => exact (Array.getElem?_eq_some_iff.1 hh).1
 have HO := Lib.hid ((Only.refl [] w).alloc (.cells #[.bool yw, .int .i64 yk, .int .i64 yv, .int .i64 yn] 46))
 by_cases hk : yk = i
 ·have hk1 : (yk == i) = true := by simpa using hk
  have hd : decide (yk = i) = true := decide_eq_true hk
  rw [hd]
  clear hk hd
  rcases hS with ⟨rfl, rfl⟩ | ⟨rfl, rfl⟩
  ·rw [HPO.out]
   generalize (!decide (yv = 2)) = r at *
   go_enter Tryz.func61, Tryz.ntmps61
   go_wp2_with fail
   refine (HSO.out _).mono ?_
   rintro e w2 ⟨rfl, O2⟩
   have HO2 := Lib.hid (HO.out.trans O2)
   clear O2
   go_wp2
   go_ret
   exact ⟨rfl, HO2.out⟩
  ·go_enter Tryz.func61, Tryz.ntmps61
   go_wp2_with fail
   refine (HSB.out _).mono ?_
   rintro e w2 ⟨rfl, O2⟩
   have HO2 := Lib.hid (HO.out.trans O2)
   clear O2
   go_wp2
   go_ret
   exact ⟨rfl, HO2.out⟩
 ·have hk1 : (yk == i) = false := by simpa using hk
  have hd : decide (yk = i) = false := decide_eq_false hk
  rw [hd]
  clear hk hd hS
  go_enter Tryz.func61, Tryz.ntmps61
  go_wp2
  go_ret
  exact ⟨rfl, HO.out⟩
def idxO {α : Type} (q : α → Bool) (l : List α) : Int := match l.findIdx? q with | some i => (i : Int) | none => -1
theorem idxO_some {α : Type} {q : α → Bool} {l : List α} {k : Nat} {x : α} (hk : l[k]? = some x) (hq : q x = true) (hn : ∀ j y, j < k → l[j]? = some y → q y = false) : idxO q l = k := by
 unfold idxO
 have : l.findIdx? q = some k := by
  rw [List.findIdx?_eq_some_iff_getElem]
  obtain ⟨h1, h2⟩ := List.getElem?_eq_some_iff.1 hk
  refine ⟨h1, by rw [h2]; exact hq, fun j hj => ?_⟩
  have := hn j _ hj (List.getElem?_eq_getElem (by omega))
  simpa using this
 rw [this]
theorem idxO_none {α : Type} {q : α → Bool} {l : List α} (hn : ∀ (j : Nat) y, l[j]? = some y → q y = false) : idxO q l = -1 := by
 unfold idxO
 have : l.findIdx? q = none := by
  rw [List.findIdx?_eq_none_iff]
  intro y hy
  obtain ⟨j, hj⟩ := List.mem_iff_getElem?.1 hy
  exact hn j y hj
 rw [this]
theorem idxO_any {α : Type} (q : α → Bool) (l : List α) : decide (0 ≤ idxO q l) = l.any q := by
 unfold idxO
 cases h : l.findIdx? q with
 | none =>
  rw [List.findIdx?_eq_none_iff] at h
  have : l.any q = false := by
   rw [List.any_eq_false]
   intro x hx
   simp [h x hx]
  rw [this]
  rfl
 | some i =>
  rw [List.findIdx?_eq_some_iff_getElem] at h
  obtain ⟨h1, h2, -⟩ := h
  rw [List.any_eq_true.2 ⟨l[i], List.getElem_mem h1, h2⟩]
  simp
/-- The cells that keeping$1 has captured. -/
structure Caught (w : World) (k : FuncId) (i : Int) (g9 g3 : Nat) : Prop where
 c9 : w.cell? ⟨g9, 0, none⟩ = some (.int .i64 i)
 c3 : w.cell? ⟨g3, 0, none⟩ = some (.func (.func k) #[] #[])
 l9 : g9 < w.heap.size
 l3 : g3 < w.heap.size
theorem Caught.only {w w' : World} {k : FuncId} {i : Int} {g9 g3 : Nat} (h : Caught w k i g9 g3) (O : Only [] w w') : Caught w' k i g9 g3 :=
 ⟨(O.cell (p := ⟨g9, 0, none⟩) h.l9 (by simp)).trans h.c9, (O.cell (p := ⟨g3, 0, none⟩) h.l3 (by simp)).trans h.c3, Nat.lt_of_lt_of_le h.l9 O.size, Nat.lt_of_lt_of_le h.l3 O.size⟩
set_option maxRecDepth 10000 in
set_option maxHeartbeats 1000000 in
theorem opsIdx_any (k : FuncId) (p : Op4 → Bool) (hS : Stays k p) (g9 g3 : Nat) (i : Int) (A : Option Addr) (n c B : Nat) (ops : List Op4) (w : World) (hC : Caught w k i g9 g3) (hg : Row w B A (opC ops)) (hn : ops.length = n) (hM : n ≤ 1000) :
  Calls Tryz.prog 92 #[.slice A n c, .func (.func 61) #[] #[.pointer (some ⟨g9, 0, none⟩), .pointer (some ⟨g3, 0, none⟩)]] w fun e w' => e = .returned (.int .i64 (idxO (opUse p i) ops)) ∧ Only [] w w' := by
 have HS := Lib.hid hS
 have HC := Lib.hid hC
 have HG := Lib.hid hg
 have HN := Lib.hid hn
 clear hS hC hg hn
 go_enter Tryz.func92, Tryz.ntmps92
 go_wp2_with fail
 go_loopw [8] (fun iv wr => ∃ j : Nat, iv = .int .i64 j ∧ j ≤ n ∧ Hid (∀ j' y, j' < j → ops[j']? = some y → opUse p i y = false) ∧ Hid (Only [] w wr)) (fun iv _ => n - (intOf iv).toNat)
 case atStart => exact ⟨0, rfl, by omega, Lib.hid (fun j y h => by omega), Lib.hid (Only.refl _ _)⟩
 case round =>
  obtain ⟨j, rfl, hj, hno, hO⟩ := hrel
  have hsz := hO.out.size
  by_cases hlt : j < n
  ·obtain ⟨y, hy⟩ : ∃ y, ops[j]? = some y := ⟨_, List.getElem?_eq_getElem (by rw [HN.out]; exact hlt)⟩
   obtain ⟨b, off, rfl, -, hbw, hP⟩ := row_op HG.out hy
   obtain ⟨p0, p1, p2, p3⟩ := hP.only hO.out hbw (by simp)
   have HH := Lib.hid (hit_any k p HS.out g9 g3 i y wr (HC.out.only hO.out).c9 (HC.out.only hO.out).c3)
   have HY := Lib.hid hy
   obtain ⟨yw, yk, yv, yn⟩ := y
   dsimp only at p0 p1 p2 p3 HH
   have h01 : (j : Int) < (n : Int) := by omega
   have hj0 : (0 : Int) ≤ (j : Int) := Int.natCast_nonneg _
   have hwj : IntKind.i64.wrap ((j : Int) + 1) = (j : Int) + 1 := IntWalk.i64_in _ (by omega)
   have hbr : b < wr.heap.size := by omega
   clear hP hy
   cases hq : opUse p i ⟨yw, yk, yv, yn⟩ with
   | true =>
    have HI := Lib.hid (idxO_some HY.out hq hno.out)
    rw [hq] at HH
    clear hq
    go_wp2_with fail
    refine (HH.out).mono ?_
    rintro e w2 ⟨rfl, O2⟩
    have HO2 := Lib.hid (hO.out.trans O2)
    clear O2
    go_wp2
    go_ret
    exact ⟨by rw [HI.out]; rfl, HO2.out⟩
   | false =>
    have HQ := Lib.hid hq
    rw [hq] at HH
    clear hq
    go_wp2_with fail
    refine (HH.out).mono ?_
    rintro e w2 ⟨rfl, O2⟩
    have HO2 := Lib.hid (hO.out.trans O2)
    clear O2
    go_wp2
    go_roundw
    case rel =>
     refine ⟨j + 1, by go_num, by omega, Lib.hid (fun j' y' hj' hy' => ?_), HO2⟩
     by_cases h : j' < j
     ·exact hno.out j' y' h hy'
     ·obtain rfl : j' = j := by omega
      rw [HY.out] at hy'
      obtain rfl := Option.some.inj hy'
      exact HQ.out
    case measure => simp [intOf]; omega
  ·have hjn : j = n := by omega
   subst hjn
   have hd : decide ((j : Int) < (j : Int)) = false := by simp
   have HI : Hid (idxO (opUse p i) ops = -1) := Lib.hid (idxO_none fun j' y hy => hno.out j' y (by rw [← HN.out]; exact (List.getElem?_eq_some_iff.1 hy).1) hy)
   go_wp2
   go_ret
   exact ⟨by rw [HI.out]; rfl, hO.out⟩
set_option maxHeartbeats 1000000 in
theorem opsHas_any (k : FuncId) (p : Op4 → Bool) (hS : Stays k p) (g9 g3 : Nat) (i : Int) (A : Option Addr) (n c B : Nat) (ops : List Op4) (w : World) (hC : Caught w k i g9 g3) (hg : Row w B A (opC ops)) (hn : ops.length = n) (hM : n ≤ 1000) :
  Calls Tryz.prog 77 #[.slice A n c, .func (.func 61) #[] #[.pointer (some ⟨g9, 0, none⟩), .pointer (some ⟨g3, 0, none⟩)]] w fun e w' => e = .returned (.bool (ops.any (opUse p i))) ∧ Only [] w w' := by
 have HI := Lib.hid (opsIdx_any k p hS g9 g3 i A n c B ops w hC hg hn hM)
 have HA := Lib.hid (idxO_any (opUse p i) ops)
 clear hS hC hg hn
 generalize idxO (opUse p i) ops = x at *
 generalize ops.any (opUse p i) = r at *
 go_enter Tryz.func77, Tryz.ntmps77
 go_wp2_with fail
 refine (HI.out).mono ?_
 rintro e w2 ⟨rfl, O2⟩
 have HO2 := Lib.hid O2
 clear O2
 go_wp2
 go_ret
 exact ⟨by rw [← HA.out]; rfl, HO2.out⟩
end Go.Proofs.YtjhomlnlmpdklaaGreatDoor
