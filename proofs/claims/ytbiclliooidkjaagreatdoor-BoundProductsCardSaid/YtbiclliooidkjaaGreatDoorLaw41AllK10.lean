/- Parts. -/
import Derived.Test.YtbiclliooidkjaaGreatDoorLaw41AllK9
import Derived.Deep.MidRow
set_option maxRecDepth 10000
set_option maxHeartbeats 16000000
set_option linter.unusedVariables false
set_option linter.unusedSimpArgs false
namespace Go.Proofs.YtbiclliooidkjaaGreatDoor
open Go.RowKit
open Go.Lib hiding intOf
attribute [local go_sem ↓] Go.wp_at_zero Go.wp_at_succ
def notLost (o : Op4) : Bool := !decide (o.vk = 2)
def anyOp (_ : Op4) : Bool := true
def Stays (k : FuncId) (p : Op4 → Bool) : Prop := (k = 46 ∧ p = notLost) ∨ (k = 28 ∧ p = anyOp)
theorem stays_of (o : Op4) (w : World) : Calls Tryz.prog 46 #[.agg #[.bool o.wr, .int .i64 o.key, .int .i64 o.vk, .int .i64 o.vn]] w fun e w' => e = .returned (.bool (!decide (o.vk = 2))) ∧ Only [] w w' := by
 obtain ⟨yw, yk, yv, yn⟩ := o;dsimp only;have HB : (yv != 2) = !decide (yv = 2) := by by_cases h : yv = 2 <;> simp [h]
 have HO := Hd ((Only.refl [] w).alloc (.cells #[.bool yw, .int .i64 yk, .int .i64 yv, .int .i64 yn] 50));generalize (!decide (yv = 2)) = r at *;go_enter Tryz.func46, Tryz.ntmps46;go_wp2
 go_ret
 exact ⟨by first | rfl | (rw [HB]; rfl), HO.out⟩
theorem stays_by (o : Op4) (w : World) : Calls Tryz.prog 28 #[.agg #[.bool o.wr, .int .i64 o.key, .int .i64 o.vk, .int .i64 o.vn]] w fun e w' => e = .returned (.bool true) ∧ Only [] w w' := by
 obtain ⟨yw, yk, yv, yn⟩ := o;dsimp only;have HO := Hd ((Only.refl [] w).alloc (.cells #[.bool yw, .int .i64 yk, .int .i64 yv, .int .i64 yn] 50));go_enter Tryz.func28, Tryz.ntmps28;go_wp2
 go_ret
 exact ⟨rfl, HO.out⟩
set_option maxRecDepth 100000 in
theorem hit_any (k : FuncId) (p : Op4 → Bool) (hS : Stays k p) (g9 g3 : Nat) (i : Int) (o : Op4) (w : World) (h9 : w.cell? ⟨g9, 0, none⟩ = some (.int .i64 i)) (h3 : w.cell? ⟨g3, 0, none⟩ = some (.func (.func k) #[] #[])) :
  Calls Tryz.prog 45 #[.agg #[.bool o.wr, .int .i64 o.key, .int .i64 o.vk, .int .i64 o.vn], .pointer (some ⟨g9, 0, none⟩), .pointer (some ⟨g3, 0, none⟩)] w fun e w' => e = .returned (.bool (opUse p i o)) ∧ Only [] w w' := by
 obtain ⟨yw, yk, yv, yn⟩ := o;have HSO := Hd (fun w' => stays_of ⟨yw, yk, yv, yn⟩ w');have HSB := Hd (fun w' => stays_by ⟨yw, yk, yv, yn⟩ w');have HPO : Hid (notLost ⟨yw, yk, yv, yn⟩ = !decide (yv = 2)) := Hd rfl;dsimp only at HSO HSB ⊢;unfold opUse;dsimp only;have l9 : g9 < w.heap.size := by
  cases hh : w.heap[g9]? with
  | none => simp [World.cell?, hh] at h9
  | some x => exact (Array.getElem?_eq_some_iff.1 hh).1
 have l3 : g3 < w.heap.size := by
  cases hh : w.heap[g3]? with
  | none => simp [World.cell?, hh] at h3
  | some x => exact (Array.getElem?_eq_some_iff.1 hh).1
 have HO := Hd ((Only.refl [] w).alloc (.cells #[.bool yw, .int .i64 yk, .int .i64 yv, .int .i64 yn] 50))
 by_cases hk : yk = i
 ·have hk1 : (yk == i) = true := by simpa using hk
  have hd : decide (yk = i) = true := decide_eq_true hk;rw [hd];clear hk hd;rcases hS with ⟨rfl, rfl⟩ | ⟨rfl, rfl⟩
  ·rw [HPO.out];generalize (!decide (yv = 2)) = r at *;go_enter Tryz.func45, Tryz.ntmps45;go_wp2_with fail
   refine (HSO.out _).mono ?_;rintro e w2 ⟨rfl, O2⟩;have HO2 := Hd (HO.out.trans O2);clear O2;go_wp2
   go_ret
   exact ⟨rfl, HO2.out⟩
  ·go_enter Tryz.func45, Tryz.ntmps45;go_wp2_with fail
   refine (HSB.out _).mono ?_;rintro e w2 ⟨rfl, O2⟩;have HO2 := Hd (HO.out.trans O2);clear O2;go_wp2
   go_ret
   exact ⟨rfl, HO2.out⟩
 ·have hk1 : (yk == i) = false := by simpa using hk
  have hd : decide (yk = i) = false := decide_eq_false hk;rw [hd];clear hk hd hS;go_enter Tryz.func45, Tryz.ntmps45;go_wp2
  go_ret
  exact ⟨rfl, HO.out⟩
structure Caught (w : World) (k : FuncId) (i : Int) (g9 g3 : Nat) : Prop where
 c9 : w.cell? ⟨g9, 0, none⟩ = some (.int .i64 i)
 c3 : w.cell? ⟨g3, 0, none⟩ = some (.func (.func k) #[] #[])
 l9 : g9 < w.heap.size
 l3 : g3 < w.heap.size
theorem Caught.only {w w' : World} {k : FuncId} {i : Int} {g9 g3 : Nat} (h : Caught w k i g9 g3) (O : Only [] w w') : Caught w' k i g9 g3 :=
 ⟨(O.cell (p := ⟨g9, 0, none⟩) h.l9 (by simp)).trans h.c9, (O.cell (p := ⟨g3, 0, none⟩) h.l3 (by simp)).trans h.c3, Nat.lt_of_lt_of_le h.l9 O.size, Nat.lt_of_lt_of_le h.l3 O.size⟩
theorem opsIdx_any (k : FuncId) (p : Op4 → Bool) (hS : Stays k p) (g9 g3 : Nat) (i : Int) (A : Option Addr) (n c B : Nat) (ops : List Op4) (w : World) (hC : Caught w k i g9 g3) (hg : Row w B A (opC ops)) (hn : ops.length = n) (hM : n ≤ 1000) :
  Calls Tryz.prog 86 #[.slice A n c, .func (.func 45) #[] #[.pointer (some ⟨g9, 0, none⟩), .pointer (some ⟨g3, 0, none⟩)]] w fun e w' => e = .returned (.int .i64 (idxO (opUse p i) ops)) ∧ Only [] w w' := by
 have HS := Hd hS;have HC := Hd hC;have HG := Hd hg;have HN := Hd hn;clear hS hC hg hn;go_enter Tryz.func86, Tryz.ntmps86;go_wp2_with fail
 go_loopw [8] (fun iv wr => ∃ j : Nat, iv = .int .i64 j ∧ j ≤ n ∧ Hid (∀ j' y, j' < j → ops[j']? = some y → opUse p i y = false) ∧ Hid (Only [] w wr)) (fun iv _ => n - (intOf iv).toNat)
 case atStart => exact ⟨0, rfl, by omega, Hd (fun j y h => by omega), Hd (Only.refl _ _)⟩
 case round =>
  obtain ⟨j, rfl, hj, hno, hO⟩ := hrel;have hsz := hO.out.size
  by_cases hlt : j < n
  ·obtain ⟨y, hy⟩ : ∃ y, ops[j]? = some y := ⟨_, List.getElem?_eq_getElem (by rw [HN.out]; exact hlt)⟩;obtain ⟨b, off, rfl, -, hbw, hP⟩ := row_op HG.out hy;obtain ⟨p0, p1, p2, p3⟩ := hP.only hO.out hbw (by simp);have HH := Hd (hit_any k p HS.out g9 g3 i y wr (HC.out.only hO.out).c9 (HC.out.only hO.out).c3);have HY := Hd hy;obtain ⟨yw, yk, yv, yn⟩ := y;dsimp only at p0 p1 p2 p3 HH;have h01 : (j : Int) < (n : Int) := by omega
   have hj0 : (0 : Int) ≤ (j : Int) := Int.natCast_nonneg _;have hwj : IntKind.i64.wrap ((j : Int) + 1) = (j : Int) + 1 := IntWalk.i64_in _ (by omega);have hbr : b < wr.heap.size := by omega
   clear hP hy
   cases hq : opUse p i ⟨yw, yk, yv, yn⟩ with
   | true =>
    have HI := Hd (idxO_some HY.out hq hno.out);rw [hq] at HH;clear hq;go_wp2_with fail
    refine (HH.out).mono ?_;rintro e w2 ⟨rfl, O2⟩;have HO2 := Hd (hO.out.trans O2);clear O2;go_wp2
    go_ret
    exact ⟨by rw [HI.out]; rfl, HO2.out⟩
   | false =>
    have HQ := Hd hq;rw [hq] at HH;clear hq;go_wp2_with fail
    refine (HH.out).mono ?_;rintro e w2 ⟨rfl, O2⟩;have HO2 := Hd (hO.out.trans O2);clear O2;go_wp2
    go_roundw
    case rel =>
     refine ⟨j + 1, by go_num, by omega, Hd (fun j' y' hj' hy' => ?_), HO2⟩
     by_cases h : j' < j
     ·exact hno.out j' y' h hy'
     ·obtain rfl : j' = j := by omega
      rw [HY.out] at hy';obtain rfl := Option.some.inj hy';exact HQ.out
    case measure => simp [intOf]; omega
  ·have hjn : j = n := by omega
   subst hjn;have hd : decide ((j : Int) < (j : Int)) = false := by simp
   have HI : Hid (idxO (opUse p i) ops = -1) := Hd (idxO_none fun j' y hy => hno.out j' y (by rw [← HN.out]; exact (List.getElem?_eq_some_iff.1 hy).1) hy);go_wp2
   go_ret
   exact ⟨by rw [HI.out]; rfl, hO.out⟩
theorem opsHas_any (k : FuncId) (p : Op4 → Bool) (hS : Stays k p) (g9 g3 : Nat) (i : Int) (A : Option Addr) (n c B : Nat) (ops : List Op4) (w : World) (hC : Caught w k i g9 g3) (hg : Row w B A (opC ops)) (hn : ops.length = n) (hM : n ≤ 1000) :
  Calls Tryz.prog 67 #[.slice A n c, .func (.func 45) #[] #[.pointer (some ⟨g9, 0, none⟩), .pointer (some ⟨g3, 0, none⟩)]] w fun e w' => e = .returned (.bool (ops.any (opUse p i))) ∧ Only [] w w' := by
 have HI := Hd (opsIdx_any k p hS g9 g3 i A n c B ops w hC hg hn hM);have HA := Hd (idxO_any (opUse p i) ops);clear hS hC hg hn;generalize idxO (opUse p i) ops = x at *;generalize ops.any (opUse p i) = r at *;go_enter Tryz.func67, Tryz.ntmps67;go_wp2_with fail
 refine (HI.out).mono ?_;rintro e w2 ⟨rfl, O2⟩;have HO2 := Hd O2;clear O2;go_wp2
 go_ret
 exact ⟨by rw [← HA.out]; rfl, HO2.out⟩
def hitF (g9 g3 : Nat) : Value := .func (.func 45) #[] #[.pointer (some ⟨g9, 0, none⟩), .pointer (some ⟨g3, 0, none⟩)]
structure CaughtU (w : World) (k : FuncId) (i : Int) (g9 g3 gu : Nat) : Prop where
 c : Caught w k i g9 g3
 cu : w.cell? ⟨gu, 0, none⟩ = some (hitF g9 g3)
 lu : gu < w.heap.size
theorem CaughtU.only {w w' : World} {k : FuncId} {i : Int} {g9 g3 gu : Nat} (h : CaughtU w k i g9 g3 gu) (O : Only [] w w') : CaughtU w' k i g9 g3 gu :=
 ⟨h.c.only O, (O.cell (p := ⟨gu, 0, none⟩) h.lu (by simp)).trans h.cu, Nat.lt_of_lt_of_le h.lu O.size⟩
theorem txuse_any (k : FuncId) (p : Op4 → Bool) (hS : Stays k p) (g9 g3 gu : Nat) (i s f : Int) (A : Option Addr) (m cp B : Nat) (ops : List Op4) (w : World) (hC : CaughtU w k i g9 g3 gu) (hg : Row w B A (opC ops)) (hn : ops.length = m) (hM : m ≤ 1000) :
  Calls Tryz.prog 66 #[.agg #[.int .i64 s, .int .i64 f, .slice A m cp], .pointer (some ⟨gu, 0, none⟩)] w fun e w' => e = .returned (.bool (ops.any (opUse p i))) ∧ Only [] w w' := by
 have HO := Hd ((Only.refl [] w).alloc (.cells #[.int .i64 s, .int .i64 f, .slice A m cp] 39));have HCF := Hd (opsHas_any k p hS g9 g3 i A m cp B ops _ (hC.c.only HO.out) (hg.only HO.out (by simp)) hn hM);have hu := hC.cu;have lu := hC.lu;unfold hitF at hu;generalize ops.any (opUse p i) = r at *;clear hS hC hg hn;go_enter Tryz.func66, Tryz.ntmps66;go_wp2_with fail
 refine (HCF.out).mono ?_;rintro e w2 ⟨rfl, O2⟩;have HO2 := Hd (HO.out.trans O2);clear O2;go_wp2
 go_ret
 exact ⟨rfl, HO2.out⟩
theorem txIdx_any (k : FuncId) (p : Op4 → Bool) (hS : Stays k p) (g9 g3 gu : Nat) (i : Int) (A : Option Addr) (n c B : Nat) (l : List Tx) (w : World) (hC : CaughtU w k i g9 g3 gu) (hg : LRow w B A l) (hn : l.length = n) (hM : n ≤ 1000) (hno : ∀ t ∈ l, t.ops.length ≤ 1000) :
  Calls Tryz.prog 85 #[.slice A n c, .func (.func 66) #[] #[.pointer (some ⟨gu, 0, none⟩)]] w fun e w' => e = .returned (.int .i64 (idxO (txUse p i) l)) ∧ Only [] w w' := by
 have HS := Hd hS;have HC := Hd hC;have HG := Hd hg;have HN := Hd hn;have HNO := Hd hno;clear hS hC hg hn hno;go_enter Tryz.func85, Tryz.ntmps85;go_wp2_with fail
 go_loopw [8] (fun iv wr => ∃ j : Nat, iv = .int .i64 j ∧ j ≤ n ∧ Hid (∀ j' y, j' < j → l[j']? = some y → txUse p i y = false) ∧ Hid (Only [] w wr)) (fun iv _ => n - (intOf iv).toNat)
 case atStart => exact ⟨0, rfl, by omega, Hd (fun j y h => by omega), Hd (Only.refl _ _)⟩
 case round =>
  obtain ⟨j, rfl, hj, hno, hO⟩ := hrel;have hsz := hO.out.size
  by_cases hlt : j < n
  ·obtain ⟨y, hy⟩ : ∃ y, l[j]? = some y := ⟨_, List.getElem?_eq_getElem (by rw [HN.out]; exact hlt)⟩;obtain ⟨b, off, A', cp, rfl, -, hbw, hT, hOk⟩ := HG.out.at_ hy;obtain ⟨p0, p1, p2⟩ := hT.only hO.out hbw (by simp);have hm1 := HNO.out y (List.mem_of_getElem? hy);have HROW := Hd (hOk.row.only hO.out (by simp));have HY := Hd hy;obtain ⟨s, f, ops⟩ := y;dsimp only at p0 p1 p2 HROW hm1;have HH := Hd (txuse_any k p HS.out g9 g3 gu i s f A' ops.length cp B ops wr (HC.out.only hO.out) HROW.out rfl hm1);have HQE : Hid (txUse p i ⟨s, f, ops⟩ = ops.any (opUse p i)) := Hd rfl;generalize hmm : ops.length = m at *;have h01 : (j : Int) < (n : Int) := by omega
   have hj0 : (0 : Int) ≤ (j : Int) := Int.natCast_nonneg _;have hwj : IntKind.i64.wrap ((j : Int) + 1) = (j : Int) + 1 := IntWalk.i64_in _ (by omega);have hbr : b < wr.heap.size := by omega
   clear hT hOk hy
   cases hq : ops.any (opUse p i) with
   | true =>
    have HI := Hd (idxO_some HY.out (HQE.out.trans hq) hno.out);rw [hq] at HH;clear hq;go_wp2_with fail
    refine (HH.out).mono ?_;rintro e w2 ⟨rfl, O2⟩;have HO2 := Hd (hO.out.trans O2);clear O2;go_wp2
    go_ret
    exact ⟨by rw [HI.out]; rfl, HO2.out⟩
   | false =>
    have HQ := Hd (HQE.out.trans hq);rw [hq] at HH;clear hq;go_wp2_with fail
    refine (HH.out).mono ?_;rintro e w2 ⟨rfl, O2⟩;have HO2 := Hd (hO.out.trans O2);clear O2;go_wp2
    go_roundw
    case rel =>
     refine ⟨j + 1, by go_num, by omega, Hd (fun j' y' hj' hy' => ?_), HO2⟩
     by_cases h : j' < j
     ·exact hno.out j' y' h hy'
     ·obtain rfl : j' = j := by omega
      rw [HY.out] at hy';obtain rfl := Option.some.inj hy';exact HQ.out
    case measure => simp [intOf]; omega
  ·have hjn : j = n := by omega
   subst hjn;have hd : decide ((j : Int) < (j : Int)) = false := by simp
   have HI : Hid (idxO (txUse p i) l = -1) := Hd (idxO_none fun j' y hy => hno.out j' y (by rw [← HN.out]; exact (List.getElem?_eq_some_iff.1 hy).1) hy);go_wp2
   go_ret
   exact ⟨by rw [HI.out]; rfl, hO.out⟩
theorem txHas_any (k : FuncId) (p : Op4 → Bool) (hS : Stays k p) (g9 g3 gu : Nat) (i : Int) (A : Option Addr) (n c B : Nat) (l : List Tx) (w : World) (hC : CaughtU w k i g9 g3 gu) (hg : LRow w B A l) (hn : l.length = n) (hM : n ≤ 1000) (hno : ∀ t ∈ l, t.ops.length ≤ 1000) :
  Calls Tryz.prog 65 #[.slice A n c, .func (.func 66) #[] #[.pointer (some ⟨gu, 0, none⟩)]] w fun e w' => e = .returned (.bool (usedK p l i)) ∧ Only [] w w' := by
 have HI := Hd (txIdx_any k p hS g9 g3 gu i A n c B l w hC hg hn hM hno);have HA := Hd (idxO_any (txUse p i) l);unfold usedK;clear hS hC hg hn;generalize idxO (txUse p i) l = x at *;generalize l.any (txUse p i) = r at *;go_enter Tryz.func65, Tryz.ntmps65;go_wp2_with fail
 refine (HI.out).mono ?_;rintro e w2 ⟨rfl, O2⟩;have HO2 := Hd O2;clear O2;go_wp2
 go_ret
 exact ⟨by rw [← HA.out]; rfl, HO2.out⟩
theorem uses_any (k : FuncId) (p : Op4 → Bool) (hS : Stays k p) (g9 g3 : Nat) (i : Int) (A0 A1 A2 : Option Addr) (n0 n1 n2 c0 c1 c2 B : Nat) (l : List Tx) (w : World) (hC : Caught w k i g9 g3) (hg : LRow w B A2 l) (hn : l.length = n2) (hM : n2 ≤ 1000) (hno : ∀ t ∈ l, t.ops.length ≤ 1000) :
  Calls Tryz.prog 44 #[.agg #[.slice A0 n0 c0, .slice A1 n1 c1, .slice A2 n2 c2], .func (.func 45) #[] #[.pointer (some ⟨g9, 0, none⟩), .pointer (some ⟨g3, 0, none⟩)]] w fun e w' => e = .returned (.bool (usedK p l i)) ∧ Only [] w w' := by
 have HO := Hd (((Only.refl [] w).alloc (.cells #[.slice A0 n0 c0, .slice A1 n1 c1, .slice A2 n2 c2] 25)).alloc (.cells #[hitF g9 g3] 58));have HB := Hd (Blk.made (w.alloc (.cells #[.slice A0 n0 c0, .slice A1 n1 c1, .slice A2 n2 c2] 25)) 58 #[hitF g9 g3]);rw [World.size_alloc] at HB;have HCU : Hid (CaughtU ((w.alloc (.cells #[.slice A0 n0 c0, .slice A1 n1 c1, .slice A2 n2 c2] 25)).alloc (.cells #[hitF g9 g3] 58)) k i g9 g3 (w.heap.size + 1)) := Hd ⟨hC.only HO.out, by rw [HB.out.at_ 0]; rfl, HB.out.lt⟩;have HH := Hd (txHas_any k p hS g9 g3 (w.heap.size + 1) i A2 n2 c2 B l _ HCU.out (hg.only HO.out (by simp)) hn hM hno);generalize usedK p l i = r at *;unfold hitF at HH HO;clear hS hC hg hn HB HCU;go_enter Tryz.func44, Tryz.ntmps44;go_wp2_with fail
 refine (HH.out).mono ?_;rintro e w2 ⟨rfl, O2⟩;have HO2 := Hd (HO.out.trans O2);clear O2;go_wp2
 go_ret
 exact ⟨rfl, HO2.out⟩
end Go.Proofs.YtbiclliooidkjaaGreatDoor
namespace Go.Proofs.YtbiclliooidkjaaGreatDoor
open Go.RowKit
theorem own_two {w : World} {base base' : Nat} {e e' : TypeId} {size size' : Nat} {v v' : Value} {n n' : Nat} {xs xs' : List Value} (h : w.ownsRow base e size v n xs) (h' : w.ownsRow base' e' size' v' n' xs') (hne : e ≠ e') :
  ∀ g, v.ownBlock = some g → g ∉ v'.ownBlock.toList := fun g hg hm => by
 obtain ⟨cur, hb⟩ := own_blk h hg;exact own_apart h' hb (Ne.symm hne) hm
theorem own_off {w : World} {base : Nat} {e : TypeId} {size : Nat} {v : Value} {n : Nat} {xs : List Value} (h : w.ownsRow base e size v n xs) {b : Nat} (hb : b < base) : b ∉ v.ownBlock.toList := fun hm => by
 cases hv : v.ownBlock with
 | none => rw [hv] at hm; cases hm
 | some g =>
  rw [hv] at hm;simp at hm;subst hm;have := (h.lt b hv).1;omega
theorem own_lower {w : World} {base base' : Nat} {e : TypeId} {size : Nat} {v : Value} {n : Nat} {xs : List Value} (h : w.ownsRow base e size v n xs) (hb : base' ≤ base) : w.ownsRow base' e size v n xs := by
 obtain ⟨hl, hv⟩ := h;refine ⟨hl, ?_⟩;rcases hv with hv | ⟨g, cap, cur, rfl, h1, rest⟩
 ·exact .inl hv
 ·exact .inr ⟨g, cap, cur, rfl, Nat.le_trans hb h1, rest⟩
structure Ev6 where
 k : Int
 s : ByteArray
 y : ByteArray
 vk : Int
 vn : Int
 ln : Int
def Ev6.c (x : Ev6) : List Value := [.int .i64 x.k, .string x.s, .string x.y, .int .i64 x.vk, .int .i64 x.vn, .int .i64 x.ln]
def logC (l : List Ev6) : List Value := l.flatMap Ev6.c
theorem logC_len (l : List Ev6) : (logC l).length = l.length * 6 := by
 induction l with
 | nil => rfl
 | cons x l ih => simp only [logC, List.flatMap_cons, List.length_append, List.length_cons] at ih ⊢; rw [ih]; simp [Ev6.c]; omega
theorem logC_snoc (l : List Ev6) (x : Ev6) : logC (l ++ [x]) = logC l ++ x.c := by simp [logC]
theorem logC_get : ∀ (l : List Ev6) (i : Nat) (x : Ev6), l[i]? = some x → ∀ j, j < 6 → (logC l)[i * 6 + j]? = x.c[j]?
 | [], i, x, h, _, _ => by simp at h
 | x0 :: l, 0, x, h, j, hj => by
  simp at h;subst h;simp only [logC, List.flatMap_cons];rw [List.getElem?_append_left (by simp [Ev6.c]; omega)];simp
 | x0 :: l, i + 1, x, h, j, hj => by
  have := logC_get l i x (by simpa using h) j hj;simp only [logC, List.flatMap_cons] at this ⊢;rw [List.getElem?_append_right (by simp [Ev6.c]; omega)];rw [← this]
  congr 1
  simp [Ev6.c];omega
theorem info_event : (Tryz.prog.info? 99).map (fun i => (i.zero, i.size, i.bytes)) = some (some (.agg #[.int .i64 0, .string ⟨#[]⟩, .string ⟨#[]⟩, .int .i64 0, .int .i64 0, .int .i64 0]), 6, 64) := by kernel_rfl
structure EvAt (w : World) (b o : Nat) (x : Ev6) : Prop where
 c0 : w.cell? ⟨b, o, none⟩ = some (.int .i64 x.k)
 c1 : w.cell? ⟨b, o + 1, none⟩ = some (.string x.s)
 c2 : w.cell? ⟨b, o + 2, none⟩ = some (.string x.y)
 c3 : w.cell? ⟨b, o + 3, none⟩ = some (.int .i64 x.vk)
 c4 : w.cell? ⟨b, o + 4, none⟩ = some (.int .i64 x.vn)
 c5 : w.cell? ⟨b, o + 5, none⟩ = some (.int .i64 x.ln)
theorem EvAt.only {S : List Nat} {w w' : World} {b o : Nat} {x : Ev6} (h : EvAt w b o x) (ho : Only S w w') (hb : b < w.heap.size) (hs : b ∉ S) : EvAt w' b o x :=
 ⟨(ho.cell (p := ⟨b, o, none⟩) hb hs).trans h.c0, (ho.cell (p := ⟨b, o + 1, none⟩) hb hs).trans h.c1, (ho.cell (p := ⟨b, o + 2, none⟩) hb hs).trans h.c2, (ho.cell (p := ⟨b, o + 3, none⟩) hb hs).trans h.c3,
  (ho.cell (p := ⟨b, o + 4, none⟩) hb hs).trans h.c4, (ho.cell (p := ⟨b, o + 5, none⟩) hb hs).trans h.c5⟩
theorem row_ev {w : World} {B : Nat} {A : Option Addr} {l : List Ev6} (h : Row w B A (logC l)) {k : Nat} {x : Ev6} (hk : l[k]? = some x) : ∃ b off, A = some ⟨b, off, none⟩ ∧ b < B ∧ b < w.heap.size ∧ EvAt w b (off + k * 6) x := by
 have hlt := (List.getElem?_eq_some_iff.1 hk).1;obtain ⟨b, off, rfl, h1, h2, hc⟩ := h.open_ (k := k * 6) (by rw [logC_len]; omega);have g := logC_get l k x hk;refine ⟨b, off, rfl, h1, h2, ⟨?_, ?_, ?_, ?_, ?_, ?_⟩⟩
 ·exact hc (k * 6) _ (g 0 (by omega))
 ·rw [Nat.add_assoc]; exact hc _ _ (g 1 (by omega))
 ·rw [Nat.add_assoc]; exact hc _ _ (g 2 (by omega))
 ·rw [Nat.add_assoc]; exact hc _ _ (g 3 (by omega))
 ·rw [Nat.add_assoc]; exact hc _ _ (g 4 (by omega))
 ·rw [Nat.add_assoc]; exact hc _ _ (g 5 (by omega))
end Go.Proofs.YtbiclliooidkjaaGreatDoor
namespace Go.Proofs.YtbiclliooidkjaaGreatDoor
open Go.Lib
def kOk (k : Int) : Bool := decide (1 ≤ k ∧ k ≤ 6)
def kN (k : Int) : Int := if 1 ≤ k ∧ k ≤ 6 then k else 0
def kW (k : Int) : ByteArray := if k = 1 then ⟨#[98, 101, 103, 105, 110]⟩ else if k = 2 then ⟨#[114, 101, 97, 100]⟩ else if k = 3 then ⟨#[119, 114, 105, 116, 101]⟩ else if k = 4 then ⟨#[111, 107]⟩ else if k = 5 then ⟨#[102, 97, 105, 108]⟩ else if k = 6 then ⟨#[105, 110, 102, 111]⟩ else ⟨#[]⟩
def kO (k : Int) : Bool := decide (k = 2 ∨ k = 3)
def wK (s : ByteArray) : Int := if s = ⟨#[98, 101, 103, 105, 110]⟩ then 1 else if s = ⟨#[114, 101, 97, 100]⟩ then 2 else if s = ⟨#[119, 114, 105, 116, 101]⟩ then 3 else if s = ⟨#[111, 107]⟩ then 4 else if s = ⟨#[102, 97, 105, 108]⟩ then 5 else if s = ⟨#[105, 110, 102, 111]⟩ then 6 else 0
theorem kN_cases (k : Int) : (k = 1) ∨ (k = 2) ∨ (k = 3) ∨ (k = 4) ∨ (k = 5) ∨ (k = 6) ∨ (kN k = 0 ∧ kOk k = false ∧ kO k = false ∧ kW k = ⟨#[]⟩ ∧ k ≠ 1 ∧ k ≠ 2 ∧ k ≠ 3 ∧ k ≠ 4 ∧ k ≠ 5 ∧ k ≠ 6) := by
 by_cases h : 1 ≤ k ∧ k ≤ 6
 ·omega
 ·have h1 : k ≠ 1 := by omega
  have h2 : k ≠ 2 := by omega
  have h3 : k ≠ 3 := by omega
  have h4 : k ≠ 4 := by omega
  have h5 : k ≠ 5 := by omega
  have h6 : k ≠ 6 := by omega
  iterate 6 right
  refine ⟨if_neg h, decide_eq_false h, decide_eq_false (by omega), ?_, h1, h2, h3, h4, h5, h6⟩;unfold kW;rw [if_neg h1, if_neg h2, if_neg h3, if_neg h4, if_neg h5, if_neg h6]
theorem wK_cases (s : ByteArray) : (s = ⟨#[98, 101, 103, 105, 110]⟩ ∧ wK s = 1) ∨ (s = ⟨#[114, 101, 97, 100]⟩ ∧ wK s = 2) ∨ (s = ⟨#[119, 114, 105, 116, 101]⟩ ∧ wK s = 3) ∨ (s = ⟨#[111, 107]⟩ ∧ wK s = 4) ∨ (s = ⟨#[102, 97, 105, 108]⟩ ∧ wK s = 5) ∨ (s = ⟨#[105, 110, 102, 111]⟩ ∧ wK s = 6) ∨ (wK s = 0 ∧ s ≠ ⟨#[98, 101, 103, 105, 110]⟩ ∧ s ≠ ⟨#[114, 101, 97, 100]⟩ ∧ s ≠ ⟨#[119, 114, 105, 116, 101]⟩ ∧ s ≠ ⟨#[111, 107]⟩ ∧ s ≠ ⟨#[102, 97, 105, 108]⟩ ∧ s ≠ ⟨#[105, 110, 102, 111]⟩) := by
 unfold wK
 by_cases h1 : s = ⟨#[98, 101, 103, 105, 110]⟩
 ·subst h1; left; exact ⟨rfl, by decide⟩
 by_cases h2 : s = ⟨#[114, 101, 97, 100]⟩
 ·subst h2; right; left; exact ⟨rfl, by decide⟩
 by_cases h3 : s = ⟨#[119, 114, 105, 116, 101]⟩
 ·subst h3; right; right; left; exact ⟨rfl, by decide⟩
 by_cases h4 : s = ⟨#[111, 107]⟩
 ·subst h4; right; right; right; left; exact ⟨rfl, by decide⟩
 by_cases h5 : s = ⟨#[102, 97, 105, 108]⟩
 ·subst h5; right; right; right; right; left; exact ⟨rfl, by decide⟩
 by_cases h6 : s = ⟨#[105, 110, 102, 111]⟩
 ·subst h6; right; right; right; right; right; left; exact ⟨rfl, by decide⟩
 iterate 6 right
 exact ⟨by rw [if_neg h1, if_neg h2, if_neg h3, if_neg h4, if_neg h5, if_neg h6], h1, h2, h3, h4, h5, h6⟩
theorem ev_ne {s : ByteArray} {l : List UInt8} (h : s ≠ ⟨l.toArray⟩) : (s.toList == l) = false ∧ (l == s.toList) = false := by
 constructor
 all_goals
  rw [beq_eq_false_iff_ne, Lib.toList_data];intro e
 ·exact h (by_inj (e.trans List.toList_toArray.symm))
 ·exact h (by_inj (e.symm.trans List.toList_toArray.symm))
def verbC : List Value := [.int .i64 1, .string ⟨#[98, 101, 103, 105, 110]⟩, .bool false, .int .i64 2, .string ⟨#[114, 101, 97, 100]⟩, .bool true, .int .i64 3, .string ⟨#[119, 114, 105, 116, 101]⟩, .bool true, .int .i64 4, .string ⟨#[111, 107]⟩, .bool false, .int .i64 5, .string ⟨#[102, 97, 105, 108]⟩, .bool false, .int .i64 6, .string ⟨#[105, 110, 102, 111]⟩, .bool false]
def verbV : Value := .agg #[.int .i64 1, .string ⟨#[98, 101, 103, 105, 110]⟩, .bool false, .int .i64 2, .string ⟨#[114, 101, 97, 100]⟩, .bool true, .int .i64 3, .string ⟨#[119, 114, 105, 116, 101]⟩, .bool true, .int .i64 4, .string ⟨#[111, 107]⟩, .bool false, .int .i64 5, .string ⟨#[102, 97, 105, 108]⟩, .bool false, .int .i64 6, .string ⟨#[105, 110, 102, 111]⟩, .bool false]
def Verbs (w : World) : Prop := 2 < w.heap.size ∧ ∀ (i : Nat) (u : Value), verbC[i]? = some u → w.cell? ⟨2, i, none⟩ = some u
theorem Verbs.only {w w' : World} (h : Verbs w) (ho : Only [] w w') : Verbs w' :=
 ⟨Nat.lt_of_lt_of_le h.1 ho.size, fun i u hu => (ho.cell (p := ⟨2, i, none⟩) h.1 (by simp)).trans (h.2 i u hu)⟩
theorem verb_i0 (w : World) : (Instr.index 153 verbV (.int .i64 0)).run Tryz.prog w = .ok (.agg #[.int .i64 1, .string (kW 1), .bool (kO 1)]) w := by kernel_rfl
theorem verb_i1 (w : World) : (Instr.index 153 verbV (.int .i64 1)).run Tryz.prog w = .ok (.agg #[.int .i64 2, .string (kW 2), .bool (kO 2)]) w := by kernel_rfl
theorem verb_i2 (w : World) : (Instr.index 153 verbV (.int .i64 2)).run Tryz.prog w = .ok (.agg #[.int .i64 3, .string (kW 3), .bool (kO 3)]) w := by kernel_rfl
theorem verb_i3 (w : World) : (Instr.index 153 verbV (.int .i64 3)).run Tryz.prog w = .ok (.agg #[.int .i64 4, .string (kW 4), .bool (kO 4)]) w := by kernel_rfl
theorem verb_i4 (w : World) : (Instr.index 153 verbV (.int .i64 4)).run Tryz.prog w = .ok (.agg #[.int .i64 5, .string (kW 5), .bool (kO 5)]) w := by kernel_rfl
theorem verb_i5 (w : World) : (Instr.index 153 verbV (.int .i64 5)).run Tryz.prog w = .ok (.agg #[.int .i64 6, .string (kW 6), .bool (kO 6)]) w := by kernel_rfl
theorem verb_idx (j : Nat) (hj : j < 6) (w : World) : (Instr.index 153 verbV (.int .i64 (j : Int))).run Tryz.prog w = .ok (.agg #[.int .i64 ((j : Int) + 1), .string (kW ((j : Int) + 1)), .bool (kO ((j : Int) + 1))]) w := by
 have h : j = 0 ∨ j = 1 ∨ j = 2 ∨ j = 3 ∨ j = 4 ∨ j = 5 := by omega
 rcases h with rfl | rfl | rfl | rfl | rfl | rfl
 ·exact verb_i0 w
 ·exact verb_i1 w
 ·exact verb_i2 w
 ·exact verb_i3 w
 ·exact verb_i4 w
 ·exact verb_i5 w
end Go.Proofs.YtbiclliooidkjaaGreatDoor
