/- erase.uses: is a key still used? Several rows of the call's own at once, none of which shares a block with another. What erase.keeping holds while it goes through a history. What a transaction's ops leave of a key. Mathematics. Which transactions of a history are asked for. Mathematics. What is told of a history's ops and transactions. Mathematics. inner.txn: the ops of a transaction, if there is one of a history that may be. A history that is not too great: the law's Few, and that it is one of its own. -/
import Derived.Test.YtjhomlnlmpdklaaGreatDoorEraseStaysCardK31
import Derived.Test.YtjhomlnlmpdklaaGreatDoorEraseStaysCardK3
import Derived.Test.YtjhomlnlmpdklaaGreatDoorEraseStaysCardK19
import Derived.Test.YtjhomlnlmpdklaaGreatDoorEraseStaysCardK15
import Derived.Test.YtjhomlnlmpdklaaGreatDoorEraseStaysCardK20
import Derived.Maps.OwnOps
import Derived.Test.YtjhomlnlmpdklaaGreatDoorEraseStaysCardK14
set_option linter.unusedVariables false
set_option linter.unusedSimpArgs false
namespace Go.Proofs.YtjhomlnlmpdklaaGreatDoor
open Go.RowKit
open Go.Lib hiding intOf
attribute [local go_sem ↓] Go.wp_at_zero Go.wp_at_succ
/-- The function value that keeping makes, as it lies in the box of uses. -/
def hitF (g9 g3 : Nat) : Value := .func (.func 61) #[] #[.pointer (some ⟨g9, 0, none⟩), .pointer (some ⟨g3, 0, none⟩)]
structure CaughtU (w : World) (k : FuncId) (i : Int) (g9 g3 gu : Nat) : Prop where
 c : Caught w k i g9 g3
 cu : w.cell? ⟨gu, 0, none⟩ = some (hitF g9 g3)
 lu : gu < w.heap.size
theorem CaughtU.only {w w' : World} {k : FuncId} {i : Int} {g9 g3 gu : Nat} (h : CaughtU w k i g9 g3 gu) (O : Only [] w w') : CaughtU w' k i g9 g3 gu :=
 ⟨h.c.only O, (O.cell (p := ⟨gu, 0, none⟩) h.lu (by simp)).trans h.cu, Nat.lt_of_lt_of_le h.lu O.size⟩
set_option maxRecDepth 10000 in
set_option maxHeartbeats 1000000 in
theorem txuse_any (k : FuncId) (p : Op4 → Bool) (hS : Stays k p) (g9 g3 gu : Nat) (i s f : Int) (A : Option Addr) (m cp B : Nat) (ops : List Op4) (w : World) (hC : CaughtU w k i g9 g3 gu) (hg : Row w B A (opC ops)) (hn : ops.length = m) (hM : m ≤ 1000) :
  Calls Tryz.prog 76 #[.agg #[.int .i64 s, .int .i64 f, .slice A m cp], .pointer (some ⟨gu, 0, none⟩)] w fun e w' => e = .returned (.bool (ops.any (opUse p i))) ∧ Only [] w w' := by
 have HO := Lib.hid ((Only.refl [] w).alloc (.cells #[.int .i64 s, .int .i64 f, .slice A m cp] 44))
 have HCF := Lib.hid (opsHas_any k p hS g9 g3 i A m cp B ops _ (hC.c.only HO.out) (hg.only HO.out (by simp)) hn hM)
 have hu := hC.cu
 have lu := hC.lu
 unfold hitF at hu
 generalize ops.any (opUse p i) = r at *
 clear hS hC hg hn
 go_enter Tryz.func76, Tryz.ntmps76
 go_wp2_with fail
 refine (HCF.out).mono ?_
 rintro e w2 ⟨rfl, O2⟩
 have HO2 := Lib.hid (HO.out.trans O2)
 clear O2
 go_wp2
 go_ret
 exact ⟨rfl, HO2.out⟩
set_option maxRecDepth 10000 in
set_option maxHeartbeats 1000000 in
theorem txIdx_any (k : FuncId) (p : Op4 → Bool) (hS : Stays k p) (g9 g3 gu : Nat) (i : Int) (A : Option Addr) (n c B : Nat) (l : List Tx) (w : World) (hC : CaughtU w k i g9 g3 gu) (hg : LRow w B A l) (hn : l.length = n) (hM : n ≤ 1000) (hno : ∀ t ∈ l, t.ops.length ≤ 1000) :
  Calls Tryz.prog 91 #[.slice A n c, .func (.func 76) #[] #[.pointer (some ⟨gu, 0, none⟩)]] w fun e w' => e = .returned (.int .i64 (idxO (txUse p i) l)) ∧ Only [] w w' := by
 have HS := Lib.hid hS
 have HC := Lib.hid hC
 have HG := Lib.hid hg
 have HN := Lib.hid hn
 have HNO := Lib.hid hno
 clear hS hC hg hn hno
 go_enter Tryz.func91, Tryz.ntmps91
 go_wp2_with fail
 go_loopw [8] (fun iv wr => ∃ j : Nat, iv = .int .i64 j ∧ j ≤ n ∧ Hid (∀ j' y, j' < j → l[j']? = some y → txUse p i y = false) ∧ Hid (Only [] w wr)) (fun iv _ => n - (intOf iv).toNat)
 case atStart => exact ⟨0, rfl, by omega, Lib.hid (fun j y h => by omega), Lib.hid (Only.refl _ _)⟩
 case round =>
  obtain ⟨j, rfl, hj, hno, hO⟩ := hrel
  have hsz := hO.out.size
  by_cases hlt : j < n
  ·obtain ⟨y, hy⟩ : ∃ y, l[j]? = some y := ⟨_, List.getElem?_eq_getElem (by rw [HN.out]; exact hlt)⟩
   obtain ⟨b, off, A', cp, rfl, -, hbw, hT, hOk⟩ := HG.out.at_ hy
   obtain ⟨p0, p1, p2⟩ := hT.only hO.out hbw (by simp)
   have hm1 := HNO.out y (List.mem_of_getElem? hy)
   have HROW := Lib.hid (hOk.row.only hO.out (by simp))
   have HY := Lib.hid hy
   obtain ⟨s, f, ops⟩ := y
   dsimp only at p0 p1 p2 HROW hm1
   have HH := Lib.hid (txuse_any k p HS.out g9 g3 gu i s f A' ops.length cp B ops wr (HC.out.only hO.out) HROW.out rfl hm1)
   have HQE : Hid (txUse p i ⟨s, f, ops⟩ = ops.any (opUse p i)) := Lib.hid rfl
   generalize hmm : ops.length = m at *
   have h01 : (j : Int) < (n : Int) := by omega
   have hj0 : (0 : Int) ≤ (j : Int) := Int.natCast_nonneg _
   have hwj : IntKind.i64.wrap ((j : Int) + 1) = (j : Int) + 1 := IntWalk.i64_in _ (by omega)
   have hbr : b < wr.heap.size := by omega
   clear hT hOk hy
   cases hq : ops.any (opUse p i) with
   | true =>
    have HI := Lib.hid (idxO_some HY.out (HQE.out.trans hq) hno.out)
    rw [hq] at HH
    clear hq
    go_wp2_with fail
    refine (HH.out).mono ?_
    rintro e w2 ⟨rfl, O2⟩
    have HO2 := Lib.hid (hO.out.trans O2)
    clear O2
    go_wp2
    go_ret
    exact ⟨by rw [HI.out]; rfl, HO2.out⟩
   | false =>
    have HQ := Lib.hid (HQE.out.trans hq)
    rw [hq] at HH
    clear hq
    go_wp2_with fail
    refine (HH.out).mono ?_
    rintro e w2 ⟨rfl, O2⟩
    have HO2 := Lib.hid (hO.out.trans O2)
    clear O2
    go_wp2
    go_roundw
    case rel =>
     refine ⟨j + 1, by go_num, by omega, Lib.hid (fun j' y' hj' hy' => ?_), HO2⟩
     by_cases h : j' < j
     ·exact hno.out j' y' h hy'
     ·obtain rfl : j' = j := by omega
      rw [HY.out] at hy'
      obtain rfl := Option.some.inj hy'
      exact HQ.out
    case measure => simp [intOf]; omega
  ·have hjn : j = n := by omega
   subst hjn
   have hd : decide ((j : Int) < (j : Int)) = false := by simp
   have HI : Hid (idxO (txUse p i) l = -1) := Lib.hid (idxO_none fun j' y hy => hno.out j' y (by rw [← HN.out]; exact (List.getElem?_eq_some_iff.1 hy).1) hy)
   go_wp2
   go_ret
   exact ⟨by rw [HI.out]; rfl, hO.out⟩
set_option maxHeartbeats 1000000 in
theorem txHas_any (k : FuncId) (p : Op4 → Bool) (hS : Stays k p) (g9 g3 gu : Nat) (i : Int) (A : Option Addr) (n c B : Nat) (l : List Tx) (w : World) (hC : CaughtU w k i g9 g3 gu) (hg : LRow w B A l) (hn : l.length = n) (hM : n ≤ 1000) (hno : ∀ t ∈ l, t.ops.length ≤ 1000) :
  Calls Tryz.prog 75 #[.slice A n c, .func (.func 76) #[] #[.pointer (some ⟨gu, 0, none⟩)]] w fun e w' => e = .returned (.bool (usedK p l i)) ∧ Only [] w w' := by
 have HI := Lib.hid (txIdx_any k p hS g9 g3 gu i A n c B l w hC hg hn hM hno)
 have HA := Lib.hid (idxO_any (txUse p i) l)
 unfold usedK
 clear hS hC hg hn
 generalize idxO (txUse p i) l = x at *
 generalize l.any (txUse p i) = r at *
 go_enter Tryz.func75, Tryz.ntmps75
 go_wp2_with fail
 refine (HI.out).mono ?_
 rintro e w2 ⟨rfl, O2⟩
 have HO2 := Lib.hid O2
 clear O2
 go_wp2
 go_ret
 exact ⟨by rw [← HA.out]; rfl, HO2.out⟩
set_option maxRecDepth 10000 in
set_option maxHeartbeats 1000000 in
theorem uses_any (k : FuncId) (p : Op4 → Bool) (hS : Stays k p) (g9 g3 : Nat) (i : Int) (A0 A1 A2 : Option Addr) (n0 n1 n2 c0 c1 c2 B : Nat) (l : List Tx) (w : World) (hC : Caught w k i g9 g3) (hg : LRow w B A2 l) (hn : l.length = n2) (hM : n2 ≤ 1000) (hno : ∀ t ∈ l, t.ops.length ≤ 1000) :
  Calls Tryz.prog 60 #[.agg #[.slice A0 n0 c0, .slice A1 n1 c1, .slice A2 n2 c2], .func (.func 61) #[] #[.pointer (some ⟨g9, 0, none⟩), .pointer (some ⟨g3, 0, none⟩)]] w fun e w' => e = .returned (.bool (usedK p l i)) ∧ Only [] w w' := by
 have HO := Lib.hid (((Only.refl [] w).alloc (.cells #[.slice A0 n0 c0, .slice A1 n1 c1, .slice A2 n2 c2] 25)).alloc (.cells #[hitF g9 g3] 69))
 have HB := Lib.hid (Blk.made (w.alloc (.cells #[.slice A0 n0 c0, .slice A1 n1 c1, .slice A2 n2 c2] 25)) 69 #[hitF g9 g3])
 rw [World.size_alloc] at HB
 have HCU : Hid (CaughtU ((w.alloc (.cells #[.slice A0 n0 c0, .slice A1 n1 c1, .slice A2 n2 c2] 25)).alloc (.cells #[hitF g9 g3] 69)) k i g9 g3 (w.heap.size + 1)) := Lib.hid ⟨hC.only HO.out, by rw [HB.out.at_ 0]; rfl, HB.out.lt⟩
 have HH := Lib.hid (txHas_any k p hS g9 g3 (w.heap.size + 1) i A2 n2 c2 B l _ HCU.out (hg.only HO.out (by simp)) hn hM hno)
 generalize usedK p l i = r at *
 unfold hitF at HH HO
 clear hS hC hg hn HB HCU
 go_enter Tryz.func60, Tryz.ntmps60
 go_wp2_with fail
 refine (HH.out).mono ?_
 rintro e w2 ⟨rfl, O2⟩
 have HO2 := Lib.hid (HO.out.trans O2)
 clear O2
 go_wp2
 go_ret
 exact ⟨rfl, HO2.out⟩
end Go.Proofs.YtjhomlnlmpdklaaGreatDoor

set_option linter.unusedVariables false
set_option linter.unusedSimpArgs false
namespace Go.Proofs.YtjhomlnlmpdklaaGreatDoor
open Go.RowKit
structure OR where
 e : TypeId
 sz : Nat
 v : Value
 n : Nat
 xs : List Value
def OR.ok (w : World) (base : Nat) (r : OR) : Prop := w.ownsRow base r.e r.sz r.v r.n r.xs
structure ORs (w : World) (base : Nat) (L : List OR) : Prop where
 all : ∀ (i : Nat) (r : OR), L[i]? = some r → r.ok w base
 ap : ∀ (i j : Nat) (r s : OR), L[i]? = some r → L[j]? = some s → i ≠ j → ∀ g, r.v.ownBlock = some g → s.v.ownBlock ≠ some g
/-- The blocks of rows. -/
def ownB (L : List OR) : List Nat := L.flatMap fun r => r.v.ownBlock.toList
theorem ownB_mem {L : List OR} {g : Nat} : g ∈ ownB L ↔ ∃ (i : Nat) (r : OR), L[i]? = some r ∧ r.v.ownBlock = some g := by
 unfold ownB
 rw [List.mem_flatMap]
 constructor
 ·rintro ⟨r, hr, hg⟩
  obtain ⟨i, hi⟩ := List.mem_iff_getElem?.1 hr
  exact ⟨i, r, hi, by simpa using hg⟩
 ·rintro ⟨i, r, hi, hg⟩
  exact ⟨r, List.mem_of_getElem? hi, by simp [hg]⟩
section
variable {w w' : World} {base : Nat} {L : List OR}
theorem ORs.only {S : List Nat} (h : ORs w base L) (O : Only S w w') (hS : ∀ g ∈ ownB L, g ∉ S) : ORs w' base L :=
 ⟨fun i r hr => own_only (h.all i r hr) O (fun g hg => hS g (ownB_mem.2 ⟨i, r, hr, hg⟩)), h.ap⟩
theorem ORs.same (h : ORs w base L) (O : Only [] w w') : ORs w' base L := h.only O (by simp)
theorem ORs.ge (h : ORs w base L) : ∀ g ∈ ownB L, base ≤ g ∧ g < w.heap.size := fun g hg => by
 obtain ⟨i, r, hi, hr⟩ := ownB_mem.1 hg
 exact (h.all i r hi).lt g hr
theorem ORs.upd {i : Nat} {r r' : OR} (h : ORs w base L) (hi : L[i]? = some r) (O : Only r.v.ownBlock.toList w w') (hr : r'.ok w' base) (hv : r'.v.ownBlock = r.v.ownBlock ∨ ∀ g, r'.v.ownBlock = some g → w.heap.size ≤ g) : ORs w' base (L.set i r') := by
 have hil := (List.getElem?_eq_some_iff.1 hi).1
 have key : ∀ (j : Nat) (s : OR), L[j]? = some s → j ≠ i → ∀ g, r'.v.ownBlock = some g → s.v.ownBlock ≠ some g := fun j s hs hji g hg hsg => by
  rcases hv with e | e
  ·rw [e] at hg
   exact h.ap i j r s hi hs (Ne.symm hji) g hg hsg
  ·have h1 := e g hg
   have h2 := (h.all j s hs).lt g hsg
   omega
 refine ⟨fun j s hs => ?_, fun j k s t hs ht hjk g hg htg => ?_⟩
 ·rw [List.getElem?_set] at hs
  by_cases hij : i = j
  ·rw [if_pos hij, if_pos hil] at hs
   obtain rfl := Option.some.inj hs
   exact hr
  ·rw [if_neg hij] at hs
   exact own_only (h.all j s hs) O (fun g hg hm => h.ap j i s r hs hi (Ne.symm hij) g hg (by simpa using hm))
 ·rw [List.getElem?_set] at hs ht
  by_cases hij : i = j
  ·rw [if_pos hij, if_pos hil] at hs
   obtain rfl := Option.some.inj hs
   rw [if_neg (by omega)] at ht
   exact key k t ht (by omega) g hg htg
  ·rw [if_neg hij] at hs
   by_cases hik : i = k
   ·rw [if_pos hik, if_pos hil] at ht
    obtain rfl := Option.some.inj ht
    exact key j s hs (by omega) g htg hg
   ·rw [if_neg hik] at ht
    exact h.ap j k s t hs ht hjk g hg htg
theorem ORs.push {r' : OR} (h : ORs w base L) (hr : r'.ok w base) (hv : r'.v.ownBlock = none) : ORs w base (L ++ [r']) := by
 have hat : ∀ (j : Nat) (s : OR), (L ++ [r'])[j]? = some s → L[j]? = some s ∨ s = r' := fun j s hs => by
  rcases Nat.lt_or_ge j L.length with hl | hl
  ·rw [List.getElem?_append_left hl] at hs
   exact .inl hs
  ·rw [List.getElem?_append_right hl] at hs
   cases hd : j - L.length with
   | zero => rw [hd] at hs; simp at hs; exact .inr hs.symm
   | succ k => rw [hd] at hs; simp at hs
 refine ⟨fun j s hs => ?_, fun j k s t hs ht hjk g hg htg => ?_⟩
 ·rcases hat j s hs with h1 | rfl
  ·exact h.all j s h1
  ·exact hr
 ·rcases hat j s hs with h1 | rfl
  ·rcases hat k t ht with h2 | rfl
   ·exact h.ap j k s t h1 h2 hjk g hg htg
   ·rw [hv] at htg; cases htg
  ·rw [hv] at hg; cases hg
/-- A cell of a row is written. -/
theorem ORs.cell {i g j : Nat} {r : OR} {xs : List Value} (h : ORs w base L) (hi : L[i]? = some r) (hg : r.v.ownBlock = some g) (hj : j < r.xs.length) (u : Value) (hx : r.xs.set j u = xs) :
  ORs (w.setCell ⟨g, j, none⟩ u) base (L.set i ⟨r.e, r.sz, r.v, r.n, xs⟩) :=
 h.upd (r' := ⟨r.e, r.sz, r.v, r.n, xs⟩) hi ((Only.refl _ w).put (p := ⟨g, j, none⟩) (fun _ => by simp [hg]) u) (by subst hx; exact own_set (h.all i r hi) hg hj u) (.inl rfl)
end
end Go.Proofs.YtjhomlnlmpdklaaGreatDoor

set_option linter.unusedVariables false
set_option linter.unusedSimpArgs false
namespace Go.Proofs.YtjhomlnlmpdklaaGreatDoor
open Go.RowKit
open Go.Lib hiding intOf
def fnC (k : FuncId) : Array Value := #[.func (.func k) #[] #[]]
def zeroH : Array Value := #[.slice none 0 0, .slice none 0 0, .slice none 0 0]
structure EK (w0 w : World) (k : FuncId) (hc : Array Value) (g0 g1 g2 gG b : Nat) (cs : Array Value) (L : List OR) (nn : Nat) (D : DataW Unit) : Prop where
 bh : Blk w g0 25 hc
 bf : Blk w g1 69 (fnC k)
 br : Blk w g2 25 zeroH
 bg : Blk w gG 25 cs
 rows : ORs w w0.heap.size L
 map : w.ownsMap Tryz.prog 3 (plainElem Tryz.prog 3) b nn D
 o : Only [] w0 w
 d01 : g0 < g1
 d12 : g1 < g2
 d2G : g2 < gG
 base : w0.heap.size ≤ g0
 bb : w0.heap.size ≤ b
 ty : ∀ r ∈ L, r.e ≠ 25 ∧ r.e ≠ 69
section
variable {w0 w w' : World} {k : FuncId} {hc cs : Array Value} {g0 g1 g2 gG b nn : Nat} {L : List OR} {D : DataW Unit}
theorem EK.same (h : EK w0 w k hc g0 g1 g2 gG b cs L nn D) (O : Only [] w w') : EK w0 w' k hc g0 g1 g2 gG b cs L nn D where
 bh := O.blk h.bh (by simp)
 bf := O.blk h.bf (by simp)
 br := O.blk h.br (by simp)
 bg := O.blk h.bg (by simp)
 rows := h.rows.same O
 map := map_only h.map O (by simp)
 o := h.o.trans O
 d01 := h.d01
 d12 := h.d12
 d2G := h.d2G
 base := h.base
 bb := h.bb
 ty := h.ty
theorem EK.upd {i : Nat} {r r' : OR} (h : EK w0 w k hc g0 g1 g2 gG b cs L nn D) (hi : L[i]? = some r) (O : Only r.v.ownBlock.toList w w') (hr : r'.ok w' w0.heap.size) (he : r'.e = r.e)
  (hv : r'.v.ownBlock = r.v.ownBlock ∨ ∀ g, r'.v.ownBlock = some g → w.heap.size ≤ g) : EK w0 w' k hc g0 g1 g2 gG b cs (L.set i r') nn D where
 bh := O.blk h.bh (own_apart (h.rows.all i r hi) h.bh (h.ty r (List.mem_of_getElem? hi)).1)
 bf := O.blk h.bf (own_apart (h.rows.all i r hi) h.bf (h.ty r (List.mem_of_getElem? hi)).2)
 br := O.blk h.br (own_apart (h.rows.all i r hi) h.br (h.ty r (List.mem_of_getElem? hi)).1)
 bg := O.blk h.bg (own_apart (h.rows.all i r hi) h.bg (h.ty r (List.mem_of_getElem? hi)).1)
 rows := h.rows.upd hi O hr hv
 map := map_only h.map O (map_not_own h.map (h.rows.all i r hi))
 o := h.o.step O (fun j hj hl => by
  have := (h.rows.all i r hi).lt j (by simpa using hj)
  omega)
 d01 := h.d01
 d12 := h.d12
 d2G := h.d2G
 base := h.base
 bb := h.bb
 ty := fun s hs => by
  rcases List.mem_or_eq_of_mem_set hs with h1 | rfl
  ·exact h.ty s h1
  ·rw [he]; exact h.ty r (List.mem_of_getElem? hi)
theorem EK.push {r' : OR} (h : EK w0 w k hc g0 g1 g2 gG b cs L nn D) (hr : r'.ok w w0.heap.size) (hv : r'.v.ownBlock = none) (ht : r'.e ≠ 25 ∧ r'.e ≠ 69) : EK w0 w k hc g0 g1 g2 gG b cs (L ++ [r']) nn D :=
  { h with
    rows := h.rows.push hr hv
    ty := fun s hs => by
      rcases List.mem_append.1 hs with h1 | h1
      · exact h.ty s h1
      · simp at h1; subst h1; exact ht }
theorem EK.notG (h : EK w0 w k hc g0 g1 g2 gG b cs L nn D) : ∀ g ∈ ownB L, g ∉ [gG] := fun g hg hm => by
 simp at hm
 subst hm
 obtain ⟨i, r, hi, hr⟩ := ownB_mem.1 hg
 exact own_apart (h.rows.all i r hi) h.bg (h.ty r (List.mem_of_getElem? hi)).1 (by simp [hr])
theorem EK.setG (h : EK w0 w k hc g0 g1 g2 gG b cs L nn D) (j : Nat) (u : Value) : EK w0 (w.setCell ⟨gG, j, none⟩ u) k hc g0 g1 g2 gG b (cs.setIfInBounds j u) L nn D where
 bh := h.bh.far (p := ⟨gG, j, none⟩) (by have := h.d01; have := h.d12; have := h.d2G; show g0 ≠ gG; omega) u
 bf := h.bf.far (p := ⟨gG, j, none⟩) (by have := h.d12; have := h.d2G; show g1 ≠ gG; omega) u
 br := h.br.far (p := ⟨gG, j, none⟩) (by have := h.d2G; show g2 ≠ gG; omega) u
 bg := h.bg.put j u
 rows := h.rows.only ((Only.refl [gG] w).put (p := ⟨gG, j, none⟩) (fun _ => by simp) u) h.notG
 map := map_only h.map ((Only.refl [gG] w).put (p := ⟨gG, j, none⟩) (fun _ => by simp) u) (by have := map_not_blk h.map h.bg; simp; omega)
 o := h.o.step ((Only.refl [gG] w).put (p := ⟨gG, j, none⟩) (fun _ => by simp) u) (fun i hi hl => by
  have := h.d01; have := h.d12; have := h.d2G; have := h.base
  simp at hi
  omega)
 d01 := h.d01
 d12 := h.d12
 d2G := h.d2G
 base := h.base
 bb := h.bb
 ty := h.ty
theorem EK.mapped {nn' : Nat} {D' : DataW Unit} (h : EK w0 w k hc g0 g1 g2 gG b cs L nn D) (hm : w'.ownsMap Tryz.prog 3 (plainElem Tryz.prog 3) b nn' D') (hg : w.grownBy w' (some b)) : EK w0 w' k hc g0 g1 g2 gG b cs L nn' D' :=
  have O : Only [b] w w' := Only.of_grown hg (fun g e _ => by cases e; simp)
  have hb : ∀ g t cs, Blk w g t cs → g ∉ [b] := fun g t cs hB => by have := map_not_blk h.map hB; simpa using this
  { bh := O.blk h.bh (hb _ _ _ h.bh)
    bf := O.blk h.bf (hb _ _ _ h.bf)
    br := O.blk h.br (hb _ _ _ h.br)
    bg := O.blk h.bg (hb _ _ _ h.bg)
    rows := h.rows.only O (fun g hg' hm' => by
      simp at hm'
      subst hm'
      obtain ⟨i, r, hi, hr⟩ := ownB_mem.1 hg'
      exact map_not_own h.map (h.rows.all i r hi) (by simp [hr]))
    map := hm
    o := h.o.step O (fun i hi hl => by have := h.bb; simp at hi; omega)
    d01 := h.d01
    d12 := h.d12
    d2G := h.d2G
    base := h.base
    bb := h.bb
    ty := h.ty }
theorem EK.grow {i : Nat} {r : OR} {v' : Value} {n' : Nat} {xs' : List Value} (h : EK w0 w k hc g0 g1 g2 gG b cs L nn D) (hi : L[i]? = some r) (hgrow : w.grownBy w' r.v.ownBlock) (hown : w'.ownsRow w0.heap.size r.e r.sz v' n' xs')
  (hat : v'.ownBlock = r.v.ownBlock ∨ v'.ownBlock = some w.heap.size) : EK w0 w' k hc g0 g1 g2 gG b cs (L.set i ⟨r.e, r.sz, v', n', xs'⟩) nn D :=
 h.upd (r' := ⟨r.e, r.sz, v', n', xs'⟩) hi (only_grown hgrow) hown rfl (hat.imp id fun e g hg => by rw [e] at hg; cases hg; exact Nat.le_refl _)
theorem EK.growLast {r : OR} {v' : Value} {n' : Nat} {xs' : List Value} (h : EK w0 w k hc g0 g1 g2 gG b cs (L ++ [r]) nn D) (hgrow : w.grownBy w' r.v.ownBlock) (hown : w'.ownsRow w0.heap.size r.e r.sz v' n' xs')
  (hat : v'.ownBlock = r.v.ownBlock ∨ v'.ownBlock = some w.heap.size) : EK w0 w' k hc g0 g1 g2 gG b cs (L ++ [⟨r.e, r.sz, v', n', xs'⟩]) nn D := by
 have h1 := h.grow (i := L.length) (r := r) (by simp) hgrow hown hat
 have e : (L ++ [r]).set L.length ⟨r.e, r.sz, v', n', xs'⟩ = L ++ [⟨r.e, r.sz, v', n', xs'⟩] := by simp
 rwa [e] at h1
theorem EK.setFree {g : Nat} {t : TypeId} {cs' : Array Value} (h : EK w0 w k hc g0 g1 g2 gG b cs L nn D) (hb : Blk w g t cs') (ht : t ≠ 25 ∧ t ≠ 69) (hL : g ∉ ownB L) (hg : w0.heap.size ≤ g) (j : Nat) (u : Value) :
    EK w0 (w.setCell ⟨g, j, none⟩ u) k hc g0 g1 g2 gG b cs L nn D :=
  have O : Only [g] w (w.setCell ⟨g, j, none⟩ u) := (Only.refl [g] w).put (p := ⟨g, j, none⟩) (fun _ => by simp) u
  { bh := h.bh.far (p := ⟨g, j, none⟩) (h.bh.apart hb (Ne.symm ht.1)) u
    bf := h.bf.far (p := ⟨g, j, none⟩) (h.bf.apart hb (Ne.symm ht.2)) u
    br := h.br.far (p := ⟨g, j, none⟩) (h.br.apart hb (Ne.symm ht.1)) u
    bg := h.bg.far (p := ⟨g, j, none⟩) (h.bg.apart hb (Ne.symm ht.1)) u
    rows := h.rows.only O (fun x hx hm => by simp at hm; subst hm; exact hL hx)
    map := map_only h.map O (by have := map_not_blk h.map hb; simp; omega)
    o := h.o.step O (fun i hi hl => by simp at hi; omega)
    d01 := h.d01
    d12 := h.d12
    d2G := h.d2G
    base := h.base
    bb := h.bb
    ty := h.ty }
theorem EK.last {r : OR} (h : EK w0 w k hc g0 g1 g2 gG b cs (L ++ [r]) nn D) : w.ownsRow w0.heap.size r.e r.sz r.v r.n r.xs := h.rows.all L.length r (by simp)
end
/-- The new numbers of the keys ahead of i. -/
structure Nums (p : Op4 → Bool) (l : List Tx) (D : DataW Unit) (i : Nat) : Prop where
 im : Maps.IsMap D
 at_ : ∀ j : Nat, j < i → usedK p l (j : Int) = true → D.atKey (.int .i64 (j : Int)) (.lit (.int .i64 0)) = .lit (.int .i64 (numK p l j : Int))
end Go.Proofs.YtjhomlnlmpdklaaGreatDoor

set_option linter.unusedVariables false
set_option linter.unusedSimpArgs false
namespace Go.Proofs.YtjhomlnlmpdklaaGreatDoor
/-- A value, and whether there is one. -/
def optV (o : Option (Int × Int)) : Value := .agg #[.int .i64 (o.getD (0, 0)).1, .int .i64 (o.getD (0, 0)).2]
def optT (o : Option (Int × Int)) : Value := .tuple #[optV o, .bool o.isSome]
end Go.Proofs.YtjhomlnlmpdklaaGreatDoor

set_option linter.unusedVariables false
set_option linter.unusedSimpArgs false
namespace Go.Proofs.YtjhomlnlmpdklaaGreatDoor
end Go.Proofs.YtjhomlnlmpdklaaGreatDoor

set_option linter.unusedVariables false
set_option linter.unusedSimpArgs false
namespace Go.Proofs.YtjhomlnlmpdklaaGreatDoor
/-- The transaction at a place of a history that may be. -/
def txAtH (h : Hst) (a : Int) : Option Tx := if mayH h = true ∧ 0 ≤ a then h.l[a.toNat]? else none
def opAtH (h : Hst) (a b : Int) : Option (Tx × Op4) := (txAtH h a).bind fun t => if 0 ≤ b then (t.ops[b.toNat]?).map (fun o => (t, o)) else none
theorem txAt_no {h : Hst} {a : Int} (hm : mayH h = false) : txAtH h a = none := by unfold txAtH; rw [hm]; simp
theorem txAt_neg {h : Hst} {a : Int} (ha : a < 0) : txAtH h a = none := by unfold txAtH; rw [if_neg (by omega)]
theorem txAt_big {h : Hst} {a : Int} (ha : (h.l.length : Int) ≤ a) : txAtH h a = none := by
 unfold txAtH
 split
 ·exact List.getElem?_eq_none (by omega)
 ·rfl
theorem txAt_yes {h : Hst} {i : Nat} {t : Tx} (hm : mayH h = true) (ht : h.l[i]? = some t) : txAtH h (i : Int) = some t := by
 unfold txAtH
 rw [if_pos ⟨hm, by omega⟩]
 simpa using ht
theorem opAt_none {h : Hst} {a b : Int} (ht : txAtH h a = none) : opAtH h a b = none := by unfold opAtH; rw [ht]; rfl
theorem opAt_neg {h : Hst} {a b : Int} (hb : b < 0) : opAtH h a b = none := by
 unfold opAtH
 cases txAtH h a with
 | none => rfl
 | some t => simp only [Option.bind_some]; rw [if_neg (by omega)]
theorem opAt_big {h : Hst} {a b : Int} {t : Tx} (ht : txAtH h a = some t) (hb : (t.ops.length : Int) ≤ b) : opAtH h a b = none := by
 unfold opAtH
 rw [ht]
 simp only [Option.bind_some]
 split
 ·rw [List.getElem?_eq_none (by omega)]; rfl
 ·rfl
theorem opAt_yes {h : Hst} {a : Int} {j : Nat} {t : Tx} {o : Op4} (ht : txAtH h a = some t) (ho : t.ops[j]? = some o) : opAtH h a (j : Int) = some (t, o) := by
 unfold opAtH
 rw [ht]
 simp only [Option.bind_some]
 rw [if_pos (by omega)]
 simp [ho]
end Go.Proofs.YtjhomlnlmpdklaaGreatDoor

set_option linter.unusedVariables false
set_option linter.unusedSimpArgs false
namespace Go.Proofs.YtjhomlnlmpdklaaGreatDoor
open Go.RowKit
open Go.Lib hiding intOf
attribute [local go_sem ↓] Go.wp_at_zero Go.wp_at_succ
theorem errH_yes {h : Hst} (hm : mayH h = true) : errH h = 0 := by unfold errH; rw [hm]; rfl
theorem errH_not {h : Hst} (hm : mayH h = false) : errH h = 4 := by unfold errH; rw [hm]; rfl
end Go.Proofs.YtjhomlnlmpdklaaGreatDoor

set_option linter.unusedVariables false
set_option linter.unusedSimpArgs false
namespace Go.Proofs.YtjhomlnlmpdklaaGreatDoor
open Go.RowKit
open Go.Lib hiding intOf
def short11 (s : ByteArray) : ByteArray := s.extract 0 (min s.size 100)
theorem short11_size (s : ByteArray) : (short11 s).size ≤ 100 := by
 unfold short11
 rw [ByteArray.size_extract]
 omega
def fewTx (t : Tx) : Tx := { t with ops := t.ops.take 25 }
def fewH (h : Hst) : Hst := ⟨(h.ss.take 25).map short11, (h.ks.take 45).map short11, (h.l.take 45).map fewTx⟩
theorem few_small (h : Hst) : HSmall (fewH h) where
 s := fun x hx => by
  obtain ⟨y, -, rfl⟩ := List.mem_map.1 hx
  have := short11_size y
  omega
 k := fun x hx => by
  obtain ⟨y, -, rfl⟩ := List.mem_map.1 hx
  have := short11_size y
  omega
 ns := by unfold fewH; dsimp only; rw [List.length_map, List.length_take]; omega
 nk := by unfold fewH; dsimp only; rw [List.length_map, List.length_take]; omega
 nl := by unfold fewH; dsimp only; rw [List.length_map, List.length_take]; omega
 no := fun t ht => by
  obtain ⟨y, -, rfl⟩ := List.mem_map.1 ht
  unfold fewTx
  dsimp only
  rw [List.length_take]
  omega
end Go.Proofs.YtjhomlnlmpdklaaGreatDoor
