/- slices.ContainsFunc as erase calls it: is there an op, a transaction of that key that stays? erase.uses: is a key still used? -/
import Derived.Test.YtjhomlnlmpdklaaGreatDoorErasePlaceCardK32
import Derived.Test.YtjhomlnlmpdklaaGreatDoorErasePlaceCardK4
set_option linter.unusedVariables false
set_option linter.unusedSimpArgs false
namespace Go.Proofs.YtjhomlnlmpdklaaGreatDoor
open Go.RowKit
open Go.Lib hiding intOf
attribute [local go_sem ↓] Go.wp_at_zero Go.wp_at_succ
def notLost (o : Op4) : Bool := !decide (o.vk = 2)
def anyOp (_ : Op4) : Bool := true
/-- The function k asks of an op whether it stays. -/
def Stays (k : FuncId) (p : Op4 → Bool) : Prop := (k = 43 ∧ p = notLost) ∨ (k = 45 ∧ p = anyOp)
set_option maxHeartbeats 1000000 in
theorem stays_of (o : Op4) (w : World) : Calls Tryz.prog 43 #[.agg #[.bool o.wr, .int .i64 o.key, .int .i64 o.vk, .int .i64 o.vn]] w fun e w' => e = .returned (.bool (!decide (o.vk = 2))) ∧ Only [] w w' := by
 obtain ⟨yw, yk, yv, yn⟩ := o
 dsimp only
 have HB : (yv != 2) = !decide (yv = 2) := by by_cases h : yv = 2 <;> simp [h]
 have HO := Lib.hid ((Only.refl [] w).alloc (.cells #[.bool yw, .int .i64 yk, .int .i64 yv, .int .i64 yn] 46))
 generalize (!decide (yv = 2)) = r at *
 go_enter Tryz.func43, Tryz.ntmps43
 go_wp2
 go_ret
 exact ⟨by first | rfl | (rw [HB]; rfl), HO.out⟩
set_option maxHeartbeats 1000000 in
theorem stays_by (o : Op4) (w : World) : Calls Tryz.prog 45 #[.agg #[.bool o.wr, .int .i64 o.key, .int .i64 o.vk, .int .i64 o.vn]] w fun e w' => e = .returned (.bool true) ∧ Only [] w w' := by
 obtain ⟨yw, yk, yv, yn⟩ := o
 dsimp only
 have HO := Lib.hid ((Only.refl [] w).alloc (.cells #[.bool yw, .int .i64 yk, .int .i64 yv, .int .i64 yn] 46))
 go_enter Tryz.func45, Tryz.ntmps45
 go_wp2
 go_ret
 exact ⟨rfl, HO.out⟩
set_option maxRecDepth 100000 in
set_option maxHeartbeats 1000000 in
theorem hit_any (k : FuncId) (p : Op4 → Bool) (hS : Stays k p) (g9 g3 : Nat) (i : Int) (o : Op4) (w : World) (h9 : w.cell? ⟨g9, 0, none⟩ = some (.int .i64 i)) (h3 : w.cell? ⟨g3, 0, none⟩ = some (.func (.func k) #[] #[])) :
  Calls Tryz.prog 61 #[.agg #[.bool o.wr, .int .i64 o.key, .int .i64 o.vk, .int .i64 o.vn], .pointer (some ⟨g9, 0, none⟩), .pointer (some ⟨g3, 0, none⟩)] w fun e w' => e = .returned (.bool (opUse p i o)) ∧ Only [] w w' := by
 obtain ⟨yw, yk, yv, yn⟩ := o
 have HSO := Lib.hid (fun w' => stays_of ⟨yw, yk, yv, yn⟩ w')
 have HSB := Lib.hid (fun w' => stays_by ⟨yw, yk, yv, yn⟩ w')
 have HPO : Hid (notLost ⟨yw, yk, yv, yn⟩ = !decide (yv = 2)) := Lib.hid rfl
 dsimp only at HSO HSB ⊢
 unfold opUse
 dsimp only
 have l9 : g9 < w.heap.size := by
  cases hh : w.heap[g9]? with
  | none => simp [World.cell?, hh] at h9
  | some x => exact (Array.getElem?_eq_some_iff.1 hh).1
 have l3 : g3 < w.heap.size := by
  cases hh : w.heap[g3]? with
  | none => simp [World.cell?, hh] at h3
  | some x => exact (Array.getElem?_eq_some_iff.1 hh).1
 have HO := Lib.hid ((Only.refl [] w).alloc (.cells #[.bool yw, .int .i64 yk, .int .i64 yv, .int .i64 yn] 46))
 by_cases hk : yk = i
 ·have hk1 : (yk == i) = true := by simpa using hk
  have hd : decide (yk = i) = true := decide_eq_true hk
  rw [hd]
  clear hk hd
  rcases hS with ⟨rfl, rfl⟩ | ⟨rfl, rfl⟩
  ·rw [HPO.out]
   generalize (!decide (yv = 2)) = r at *
   go_enter Tryz.func61, Tryz.ntmps61
   go_wp2_with fail
   refine (HSO.out _).mono ?_
   rintro e w2 ⟨rfl, O2⟩
   have HO2 := Lib.hid (HO.out.trans O2)
   clear O2
   go_wp2
   go_ret
   exact ⟨rfl, HO2.out⟩
  ·go_enter Tryz.func61, Tryz.ntmps61
   go_wp2_with fail
   refine (HSB.out _).mono ?_
   rintro e w2 ⟨rfl, O2⟩
   have HO2 := Lib.hid (HO.out.trans O2)
   clear O2
   go_wp2
   go_ret
   exact ⟨rfl, HO2.out⟩
 ·have hk1 : (yk == i) = false := by simpa using hk
  have hd : decide (yk = i) = false := decide_eq_false hk
  rw [hd]
  clear hk hd hS
  go_enter Tryz.func61, Tryz.ntmps61
  go_wp2
  go_ret
  exact ⟨rfl, HO.out⟩
def idxO {α : Type} (q : α → Bool) (l : List α) : Int := match l.findIdx? q with | some i => (i : Int) | none => -1
theorem idxO_some {α : Type} {q : α → Bool} {l : List α} {k : Nat} {x : α} (hk : l[k]? = some x) (hq : q x = true) (hn : ∀ j y, j < k → l[j]? = some y → q y = false) : idxO q l = k := by
 unfold idxO
 have : l.findIdx? q = some k := by
  rw [List.findIdx?_eq_some_iff_getElem]
  obtain ⟨h1, h2⟩ := List.getElem?_eq_some_iff.1 hk
  refine ⟨h1, by rw [h2]; exact hq, fun j hj => ?_⟩
  have := hn j _ hj (List.getElem?_eq_getElem (by omega))
  simpa using this
 rw [this]
theorem idxO_none {α : Type} {q : α → Bool} {l : List α} (hn : ∀ (j : Nat) y, l[j]? = some y → q y = false) : idxO q l = -1 := by
 unfold idxO
 have : l.findIdx? q = none := by
  rw [List.findIdx?_eq_none_iff]
  intro y hy
  obtain ⟨j, hj⟩ := List.mem_iff_getElem?.1 hy
  exact hn j y hj
 rw [this]
theorem idxO_any {α : Type} (q : α → Bool) (l : List α) : decide (0 ≤ idxO q l) = l.any q := by
 unfold idxO
 cases h : l.findIdx? q with
 | none =>
  rw [List.findIdx?_eq_none_iff] at h
  have : l.any q = false := by
   rw [List.any_eq_false]
   intro x hx
   simp [h x hx]
  rw [this]
  rfl
 | some i =>
  rw [List.findIdx?_eq_some_iff_getElem] at h
  obtain ⟨h1, h2, -⟩ := h
  rw [List.any_eq_true.2 ⟨l[i], List.getElem_mem h1, h2⟩]
  simp
/-- The cells that keeping$1 has captured. -/
structure Caught (w : World) (k : FuncId) (i : Int) (g9 g3 : Nat) : Prop where
 c9 : w.cell? ⟨g9, 0, none⟩ = some (.int .i64 i)
 c3 : w.cell? ⟨g3, 0, none⟩ = some (.func (.func k) #[] #[])
 l9 : g9 < w.heap.size
 l3 : g3 < w.heap.size
theorem Caught.only {w w' : World} {k : FuncId} {i : Int} {g9 g3 : Nat} (h : Caught w k i g9 g3) (O : Only [] w w') : Caught w' k i g9 g3 :=
 ⟨(O.cell (p := ⟨g9, 0, none⟩) h.l9 (by simp)).trans h.c9, (O.cell (p := ⟨g3, 0, none⟩) h.l3 (by simp)).trans h.c3, Nat.lt_of_lt_of_le h.l9 O.size, Nat.lt_of_lt_of_le h.l3 O.size⟩
set_option maxRecDepth 10000 in
set_option maxHeartbeats 1000000 in
theorem opsIdx_any (k : FuncId) (p : Op4 → Bool) (hS : Stays k p) (g9 g3 : Nat) (i : Int) (A : Option Addr) (n c B : Nat) (ops : List Op4) (w : World) (hC : Caught w k i g9 g3) (hg : Row w B A (opC ops)) (hn : ops.length = n) (hM : n ≤ 1000) :
  Calls Tryz.prog 92 #[.slice A n c, .func (.func 61) #[] #[.pointer (some ⟨g9, 0, none⟩), .pointer (some ⟨g3, 0, none⟩)]] w fun e w' => e = .returned (.int .i64 (idxO (opUse p i) ops)) ∧ Only [] w w' := by
 have HS := Lib.hid hS
 have HC := Lib.hid hC
 have HG := Lib.hid hg
 have HN := Lib.hid hn
 clear hS hC hg hn
 go_enter Tryz.func92, Tryz.ntmps92
 go_wp2_with fail
 go_loopw [8] (fun iv wr => ∃ j : Nat, iv = .int .i64 j ∧ j ≤ n ∧ Hid (∀ j' y, j' < j → ops[j']? = some y → opUse p i y = false) ∧ Hid (Only [] w wr)) (fun iv _ => n - (intOf iv).toNat)
 case atStart => exact ⟨0, rfl, by omega, Lib.hid (fun j y h => by omega), Lib.hid (Only.refl _ _)⟩
 case round =>
  obtain ⟨j, rfl, hj, hno, hO⟩ := hrel
  have hsz := hO.out.size
  by_cases hlt : j < n
  ·obtain ⟨y, hy⟩ : ∃ y, ops[j]? = some y := ⟨_, List.getElem?_eq_getElem (by rw [HN.out]; exact hlt)⟩
   obtain ⟨b, off, rfl, -, hbw, hP⟩ := row_op HG.out hy
   obtain ⟨p0, p1, p2, p3⟩ := hP.only hO.out hbw (by simp)
   have HH := Lib.hid (hit_any k p HS.out g9 g3 i y wr (HC.out.only hO.out).c9 (HC.out.only hO.out).c3)
   have HY := Lib.hid hy
   obtain ⟨yw, yk, yv, yn⟩ := y
   dsimp only at p0 p1 p2 p3 HH
   have h01 : (j : Int) < (n : Int) := by omega
   have hj0 : (0 : Int) ≤ (j : Int) := Int.natCast_nonneg _
   have hwj : IntKind.i64.wrap ((j : Int) + 1) = (j : Int) + 1 := IntWalk.i64_in _ (by omega)
   have hbr : b < wr.heap.size := by omega
   clear hP hy
   cases hq : opUse p i ⟨yw, yk, yv, yn⟩ with
   | true =>
    have HI := Lib.hid (idxO_some HY.out hq hno.out)
    rw [hq] at HH
    clear hq
    go_wp2_with fail
    refine (HH.out).mono ?_
    rintro e w2 ⟨rfl, O2⟩
    have HO2 := Lib.hid (hO.out.trans O2)
    clear O2
    go_wp2
    go_ret
    exact ⟨by rw [HI.out]; rfl, HO2.out⟩
   | false =>
    have HQ := Lib.hid hq
    rw [hq] at HH
    clear hq
    go_wp2_with fail
    refine (HH.out).mono ?_
    rintro e w2 ⟨rfl, O2⟩
    have HO2 := Lib.hid (hO.out.trans O2)
    clear O2
    go_wp2
    go_roundw
    case rel =>
     refine ⟨j + 1, by go_num, by omega, Lib.hid (fun j' y' hj' hy' => ?_), HO2⟩
     by_cases h : j' < j
     ·exact hno.out j' y' h hy'
     ·obtain rfl : j' = j := by omega
      rw [HY.out] at hy'
      obtain rfl := Option.some.inj hy'
      exact HQ.out
    case measure => simp [intOf]; omega
  ·have hjn : j = n := by omega
   subst hjn
   have hd : decide ((j : Int) < (j : Int)) = false := by simp
   have HI : Hid (idxO (opUse p i) ops = -1) := Lib.hid (idxO_none fun j' y hy => hno.out j' y (by rw [← HN.out]; exact (List.getElem?_eq_some_iff.1 hy).1) hy)
   go_wp2
   go_ret
   exact ⟨by rw [HI.out]; rfl, hO.out⟩
set_option maxHeartbeats 1000000 in
theorem opsHas_any (k : FuncId) (p : Op4 → Bool) (hS : Stays k p) (g9 g3 : Nat) (i : Int) (A : Option Addr) (n c B : Nat) (ops : List Op4) (w : World) (hC : Caught w k i g9 g3) (hg : Row w B A (opC ops)) (hn : ops.length = n) (hM : n ≤ 1000) :
  Calls Tryz.prog 77 #[.slice A n c, .func (.func 61) #[] #[.pointer (some ⟨g9, 0, none⟩), .pointer (some ⟨g3, 0, none⟩)]] w fun e w' => e = .returned (.bool (ops.any (opUse p i))) ∧ Only [] w w' := by
 have HI := Lib.hid (opsIdx_any k p hS g9 g3 i A n c B ops w hC hg hn hM)
 have HA := Lib.hid (idxO_any (opUse p i) ops)
 clear hS hC hg hn
 generalize idxO (opUse p i) ops = x at *
 generalize ops.any (opUse p i) = r at *
 go_enter Tryz.func77, Tryz.ntmps77
 go_wp2_with fail
 refine (HI.out).mono ?_
 rintro e w2 ⟨rfl, O2⟩
 have HO2 := Lib.hid O2
 clear O2
 go_wp2
 go_ret
 exact ⟨by rw [← HA.out]; rfl, HO2.out⟩
end Go.Proofs.YtjhomlnlmpdklaaGreatDoor

set_option linter.unusedVariables false
set_option linter.unusedSimpArgs false
namespace Go.Proofs.YtjhomlnlmpdklaaGreatDoor
open Go.RowKit
open Go.Lib hiding intOf
attribute [local go_sem ↓] Go.wp_at_zero Go.wp_at_succ
/-- The function value that keeping makes, as it lies in the box of uses. -/
def hitF (g9 g3 : Nat) : Value := .func (.func 61) #[] #[.pointer (some ⟨g9, 0, none⟩), .pointer (some ⟨g3, 0, none⟩)]
structure CaughtU (w : World) (k : FuncId) (i : Int) (g9 g3 gu : Nat) : Prop where
 c : Caught w k i g9 g3
 cu : w.cell? ⟨gu, 0, none⟩ = some (hitF g9 g3)
 lu : gu < w.heap.size
theorem CaughtU.only {w w' : World} {k : FuncId} {i : Int} {g9 g3 gu : Nat} (h : CaughtU w k i g9 g3 gu) (O : Only [] w w') : CaughtU w' k i g9 g3 gu :=
 ⟨h.c.only O, (O.cell (p := ⟨gu, 0, none⟩) h.lu (by simp)).trans h.cu, Nat.lt_of_lt_of_le h.lu O.size⟩
set_option maxRecDepth 10000 in
set_option maxHeartbeats 1000000 in
theorem txuse_any (k : FuncId) (p : Op4 → Bool) (hS : Stays k p) (g9 g3 gu : Nat) (i s f : Int) (A : Option Addr) (m cp B : Nat) (ops : List Op4) (w : World) (hC : CaughtU w k i g9 g3 gu) (hg : Row w B A (opC ops)) (hn : ops.length = m) (hM : m ≤ 1000) :
  Calls Tryz.prog 76 #[.agg #[.int .i64 s, .int .i64 f, .slice A m cp], .pointer (some ⟨gu, 0, none⟩)] w fun e w' => e = .returned (.bool (ops.any (opUse p i))) ∧ Only [] w w' := by
 have HO := Lib.hid ((Only.refl [] w).alloc (.cells #[.int .i64 s, .int .i64 f, .slice A m cp] 44))
 have HCF := Lib.hid (opsHas_any k p hS g9 g3 i A m cp B ops _ (hC.c.only HO.out) (hg.only HO.out (by simp)) hn hM)
 have hu := hC.cu
 have lu := hC.lu
 unfold hitF at hu
 generalize ops.any (opUse p i) = r at *
 clear hS hC hg hn
 go_enter Tryz.func76, Tryz.ntmps76
 go_wp2_with fail
 refine (HCF.out).mono ?_
 rintro e w2 ⟨rfl, O2⟩
 have HO2 := Lib.hid (HO.out.trans O2)
 clear O2
 go_wp2
 go_ret
 exact ⟨rfl, HO2.out⟩
set_option maxRecDepth 10000 in
set_option maxHeartbeats 1000000 in
theorem txIdx_any (k : FuncId) (p : Op4 → Bool) (hS : Stays k p) (g9 g3 gu : Nat) (i : Int) (A : Option Addr) (n c B : Nat) (l : List Tx) (w : World) (hC : CaughtU w k i g9 g3 gu) (hg : LRow w B A l) (hn : l.length = n) (hM : n ≤ 1000) (hno : ∀ t ∈ l, t.ops.length ≤ 1000) :
  Calls Tryz.prog 91 #[.slice A n c, .func (.func 76) #[] #[.pointer (some ⟨gu, 0, none⟩)]] w fun e w' => e = .returned (.int .i64 (idxO (txUse p i) l)) ∧ Only [] w w' := by
 have HS := Lib.hid hS
 have HC := Lib.hid hC
 have HG := Lib.hid hg
 have HN := Lib.hid hn
 have HNO := Lib.hid hno
 clear hS hC hg hn hno
 go_enter Tryz.func91, Tryz.ntmps91
 go_wp2_with fail
 go_loopw [8] (fun iv wr => ∃ j : Nat, iv = .int .i64 j ∧ j ≤ n ∧ Hid (∀ j' y, j' < j → l[j']? = some y → txUse p i y = false) ∧ Hid (Only [] w wr)) (fun iv _ => n - (intOf iv).toNat)
 case atStart => exact ⟨0, rfl, by omega, Lib.hid (fun j y h => by omega), Lib.hid (Only.refl _ _)⟩
 case round =>
  obtain ⟨j, rfl, hj, hno, hO⟩ := hrel
  have hsz := hO.out.size
  by_cases hlt : j < n
  ·obtain ⟨y, hy⟩ : ∃ y, l[j]? = some y := ⟨_, List.getElem?_eq_getElem (by rw [HN.out]; exact hlt)⟩
   obtain ⟨b, off, A', cp, rfl, -, hbw, hT, hOk⟩ := HG.out.at_ hy
   obtain ⟨p0, p1, p2⟩ := hT.only hO.out hbw (by simp)
   have hm1 := HNO.out y (List.mem_of_getElem? hy)
   have HROW := Lib.hid (hOk.row.only hO.out (by simp))
   have HY := Lib.hid hy
   obtain ⟨s, f, ops⟩ := y
   dsimp only at p0 p1 p2 HROW hm1
   have HH := Lib.hid (txuse_any k p HS.out g9 g3 gu i s f A' ops.length cp B ops wr (HC.out.only hO.out) HROW.out rfl hm1)
   have HQE : Hid (txUse p i ⟨s, f, ops⟩ = ops.any (opUse p i)) := Lib.hid rfl
   generalize hmm : ops.length = m at *
   have h01 : (j : Int) < (n : Int) := by omega
   have hj0 : (0 : Int) ≤ (j : Int) := Int.natCast_nonneg _
   have hwj : IntKind.i64.wrap ((j : Int) + 1) = (j : Int) + 1 := IntWalk.i64_in _ (by omega)
   have hbr : b < wr.heap.size := by omega
   clear hT hOk hy
   cases hq : ops.any (opUse p i) with
   | true =>
    have HI := Lib.hid (idxO_some HY.out (HQE.out.trans hq) hno.out)
    rw [hq] at HH
    clear hq
    go_wp2_with fail
    refine (HH.out).mono ?_
    rintro e w2 ⟨rfl, O2⟩
    have HO2 := Lib.hid (hO.out.trans O2)
    clear O2
    go_wp2
    go_ret
    exact ⟨by rw [HI.out]; rfl, HO2.out⟩
   | false =>
    have HQ := Lib.hid (HQE.out.trans hq)
    rw [hq] at HH
    clear hq
    go_wp2_with fail
    refine (HH.out).mono ?_
    rintro e w2 ⟨rfl, O2⟩
    have HO2 := Lib.hid (hO.out.trans O2)
    clear O2
    go_wp2
    go_roundw
    case rel =>
     refine ⟨j + 1, by go_num, by omega, Lib.hid (fun j' y' hj' hy' => ?_), HO2⟩
     by_cases h : j' < j
     ·exact hno.out j' y' h hy'
     ·obtain rfl : j' = j := by omega
      rw [HY.out] at hy'
      obtain rfl := Option.some.inj hy'
      exact HQ.out
    case measure => simp [intOf]; omega
  ·have hjn : j = n := by omega
   subst hjn
   have hd : decide ((j : Int) < (j : Int)) = false := by simp
   have HI : Hid (idxO (txUse p i) l = -1) := Lib.hid (idxO_none fun j' y hy => hno.out j' y (by rw [← HN.out]; exact (List.getElem?_eq_some_iff.1 hy).1) hy)
   go_wp2
   go_ret
   exact ⟨by rw [HI.out]; rfl, hO.out⟩
set_option maxHeartbeats 1000000 in
theorem txHas_any (k : FuncId) (p : Op4 → Bool) (hS : Stays k p) (g9 g3 gu : Nat) (i : Int) (A : Option Addr) (n c B : Nat) (l : List Tx) (w : World) (hC : CaughtU w k i g9 g3 gu) (hg : LRow w B A l) (hn : l.length = n) (hM : n ≤ 1000) (hno : ∀ t ∈ l, t.ops.length ≤ 1000) :
  Calls Tryz.prog 75 #[.slice A n c, .func (.func 76) #[] #[.pointer (some ⟨gu, 0, none⟩)]] w fun e w' => e = .returned (.bool (usedK p l i)) ∧ Only [] w w' := by
 have HI := Lib.hid (txIdx_any k p hS g9 g3 gu i A n c B l w hC hg hn hM hno)
 have HA := Lib.hid (idxO_any (txUse p i) l)
 unfold usedK
 clear hS hC hg hn
 generalize idxO (txUse p i) l = x at *
 generalize l.any (txUse p i) = r at *
 go_enter Tryz.func75, Tryz.ntmps75
 go_wp2_with fail
 refine (HI.out).mono ?_
 rintro e w2 ⟨rfl, O2⟩
 have HO2 := Lib.hid O2
 clear O2
 go_wp2
 go_ret
 exact ⟨by rw [← HA.out]; rfl, HO2.out⟩
set_option maxRecDepth 10000 in
set_option maxHeartbeats 1000000 in
theorem uses_any (k : FuncId) (p : Op4 → Bool) (hS : Stays k p) (g9 g3 : Nat) (i : Int) (A0 A1 A2 : Option Addr) (n0 n1 n2 c0 c1 c2 B : Nat) (l : List Tx) (w : World) (hC : Caught w k i g9 g3) (hg : LRow w B A2 l) (hn : l.length = n2) (hM : n2 ≤ 1000) (hno : ∀ t ∈ l, t.ops.length ≤ 1000) :
  Calls Tryz.prog 60 #[.agg #[.slice A0 n0 c0, .slice A1 n1 c1, .slice A2 n2 c2], .func (.func 61) #[] #[.pointer (some ⟨g9, 0, none⟩), .pointer (some ⟨g3, 0, none⟩)]] w fun e w' => e = .returned (.bool (usedK p l i)) ∧ Only [] w w' := by
 have HO := Lib.hid (((Only.refl [] w).alloc (.cells #[.slice A0 n0 c0, .slice A1 n1 c1, .slice A2 n2 c2] 25)).alloc (.cells #[hitF g9 g3] 69))
 have HB := Lib.hid (Blk.made (w.alloc (.cells #[.slice A0 n0 c0, .slice A1 n1 c1, .slice A2 n2 c2] 25)) 69 #[hitF g9 g3])
 rw [World.size_alloc] at HB
 have HCU : Hid (CaughtU ((w.alloc (.cells #[.slice A0 n0 c0, .slice A1 n1 c1, .slice A2 n2 c2] 25)).alloc (.cells #[hitF g9 g3] 69)) k i g9 g3 (w.heap.size + 1)) := Lib.hid ⟨hC.only HO.out, by rw [HB.out.at_ 0]; rfl, HB.out.lt⟩
 have HH := Lib.hid (txHas_any k p hS g9 g3 (w.heap.size + 1) i A2 n2 c2 B l _ HCU.out (hg.only HO.out (by simp)) hn hM hno)
 generalize usedK p l i = r at *
 unfold hitF at HH HO
 clear hS hC hg hn HB HCU
 go_enter Tryz.func60, Tryz.ntmps60
 go_wp2_with fail
 refine (HH.out).mono ?_
 rintro e w2 ⟨rfl, O2⟩
 have HO2 := Lib.hid (HO.out.trans O2)
 clear O2
 go_wp2
 go_ret
 exact ⟨rfl, HO2.out⟩
end Go.Proofs.YtjhomlnlmpdklaaGreatDoor
