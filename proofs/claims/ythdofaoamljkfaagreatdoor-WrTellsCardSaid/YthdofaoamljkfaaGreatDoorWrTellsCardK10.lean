/- Parts. -/
import Derived.Test.YthdofaoamljkfaaGreatDoorWrTellsCardK9
import Derived.RangeFuncNested
import Derived.RangeFuncBound
import Derived.RangeFuncCalls
import Derived.RangeFuncLeaves
import Derived.RangeFuncBox
import Derived.Shelf.Abstract
import Derived.Shelf.RegionOpen
import Derived.OwnWalkIn
import Derived.TacticsInMore
import Derived.LoopNIn
import Derived.LoopIn
import Derived.Deep.MidRow
import Derived.Laws.ResultCell
import Derived.Laws.IdiomCopy
set_option maxRecDepth 10000
set_option maxHeartbeats 16000000
set_option linter.unusedVariables false
set_option linter.unusedSimpArgs false
namespace Go.Proofs.YthdofaoamljkfaaGreatDoor
open Go.RowKit
open Go.Lib hiding intOf
attribute [local go_sem ↓] Go.wp_at_zero Go.wp_at_succ
def opB (n1 : Nat) (x : Op4) : Bool := decide (0 ≤ x.key ∧ x.key < (n1 : Int)) && (mayB x.vk x.vn && (!x.wr || decide (x.vk = 1)))
def keysL (l : List Tx) : List Int := l.flatMap fun t => t.ops.map Op4.key
def opsB (h : Hst) : Bool := h.l.all (fun t => t.ops.all (opB h.ks.length)) && useB h.ks.length (keysL h.l)
theorem keysL_take {l : List Tx} {k : Nat} {t : Tx} (h : l[k]? = some t) : keysL (l.take (k + 1)) = keysL (l.take k) ++ t.ops.map Op4.key := by
 unfold keysL;rw [List.take_add_one, h];simp
theorem keysL_le : ∀ (l : List Tx), (∀ t ∈ l, t.ops.length ≤ 1000) → (keysL l).length ≤ l.length * 1000
 | [], _ => Nat.le_refl _
 | t :: l, h => by
  have h1 := keysL_le l (fun x hx => h x (List.mem_cons_of_mem _ hx));have h2 := h t List.mem_cons_self;unfold keysL at h1 ⊢;rw [List.flatMap_cons, List.length_append, List.length_map, List.length_cons];omega
theorem ops_no {h : Hst} {k j : Nat} {t : Tx} {x : Op4} (hk : h.l[k]? = some t) (hj : t.ops[j]? = some x) (hb : opB h.ks.length x = false) : opsB h = false := by
 unfold opsB;have : h.l.all (fun t => t.ops.all (opB h.ks.length)) = false := by
  rw [List.all_eq_false];refine ⟨t, List.mem_of_getElem? hk, ?_⟩;have : t.ops.all (opB h.ks.length) = false := by
   rw [List.all_eq_false];exact ⟨x, List.mem_of_getElem? hj, by rw [hb]; simp⟩
  rw [this];simp
 rw [this]
 rfl
theorem ops_any (A0 A1 A2 : Option Addr) (n0 n1 n2 c0 c1 c2 B : Nat) (h : Hst) (w : World) (hg : HAt w B A0 A1 A2 h) (hn1 : h.ks.length = n1) (hn2 : h.l.length = n2) (h40 : n1 ≤ 40) (hM : n2 ≤ 1000) (hno : ∀ t ∈ h.l, t.ops.length ≤ 1000) :
  Calls Tryz.prog 60 #[hval A0 A1 A2 n0 n1 n2 c0 c1 c2] w fun e w' => e = .returned (.bool (opsB h)) ∧ Only [] w w' := by
 unfold hval;have HMAY := Hd (fun vk vn w' => vmay_any vk vn w');have HG := Hd hg.r2;have HN1 := Hd hn1;have HN2 := Hd hn2;have HNO := Hd hno;have HO := Hd ((Only.refl [] w).alloc (.cells #[.slice A0 n0 c0, .slice A1 n1 c1, .slice A2 n2 c2] 25));clear hg;obtain ⟨r, hr⟩ : ∃ r, r = opsB h := ⟨_, rfl⟩;rw [← hr];have HR := Hd hr;have HB1 := Hd ((Blk.made w 25 #[.slice A0 n0 c0, .slice A1 n1 c1, .slice A2 n2 c2]).alloc (.cells (cntC 40 []) 113));have HU1 := Hd (Blk.made (w.alloc (.cells #[.slice A0 n0 c0, .slice A1 n1 c1, .slice A2 n2 c2] 25)) 113 (cntC 40 []));have HO1 := Hd (HO.out.alloc (.cells (cntC 40 []) 113));rw [World.size_alloc] at HU1;clear hr hn1 hn2 hno HO;go_enter Tryz.func60, Tryz.ntmps60;go_wp2_with fail
 go_loopw [11] (fun iv wr => ∃ k : Nat, iv = .int .i64 k ∧ k ≤ n2 ∧ Hid ((h.l.take k).all (fun t => t.ops.all (opB n1)) = true) ∧ Hid (Blk wr w.heap.size 25 #[.slice A0 n0 c0, .slice A1 n1 c1, .slice A2 n2 c2]) ∧ Hid (Blk wr (w.heap.size + 1) 113 (cntC 40 (keysL (h.l.take k)))) ∧ Hid (Only [] w wr)) (fun iv _ => n2 - (intOf iv).toNat)
 case atStart => exact ⟨0, rfl, by omega, Hd (by simp), HB1, HU1, HO1⟩
 case round =>
  obtain ⟨k, rfl, hk, hall, hB, hU, hO⟩ := hrel;have hsz := hO.out.size
  by_cases hlt : k < n2
  ·obtain ⟨x, hx⟩ : ∃ x, h.l[k]? = some x := ⟨_, List.getElem?_eq_getElem (by rw [HN2.out]; exact hlt)⟩;obtain ⟨b, off, A', cp, rfl, -, hbw, hT, hOk⟩ := HG.out.at_ hx;obtain ⟨a0, a1, a2⟩ := hT.only hO.out hbw (by simp);have HX := Hd hx;have hm1 := HNO.out x (List.mem_of_getElem? hx);have HKT := Hd (keysL_take hx);have hkl : (keysL (h.l.take k)).length ≤ 1000000 := by
    have h1 := keysL_le (h.l.take k) (fun t ht => HNO.out t (List.mem_of_mem_take ht));rw [List.length_take] at h1;omega
   have HALLN : Hid (x.ops.all (opB n1) = true → ((h.l.take (k + 1)).all (fun t => t.ops.all (opB n1)) = true)) := Hd (fun hxx => takeTx_all hall.out hx hxx);have HROW := Hd hOk.row;have HBADX : Hid (∀ (j : Nat) y, x.ops[j]? = some y → opB n1 y = false → r = false) := Hd (fun j y hj hb => by rw [HR.out]; exact ops_no hx hj (by rw [HN1.out]; exact hb));obtain ⟨s, f, ops⟩ := x;dsimp only at a0 a1 a2 hm1 HKT HALLN HROW HBADX;generalize hm : ops.length = m at *;have HMM := Hd hm;have h01 : (k : Int) < (n2 : Int) := by omega
   have hk0 : (0 : Int) ≤ (k : Int) := Int.natCast_nonneg _;have hwk : IntKind.i64.wrap ((k : Int) + 1) = (k : Int) + 1 := IntWalk.i64_in _ (by omega);have hbr : b < wr.heap.size := by omega
   generalize hK0 : keysL (h.l.take k) = K0 at *;clear hT hOk hx hm hall HX hK0;go_upto_region 5 with (fail)
   have O2 : Only [] wr (wr.alloc (.cells #[.int .i64 s, .int .i64 f, .slice A' m cp] 47)) := (Only.refl [] wr).alloc _;have bT := Blk.made wr 47 #[.int .i64 s, .int .i64 f, .slice A' m cp];have HB2 := Hd (O2.blk hB.out (by simp));have HU2 := Hd (O2.blk hU.out (by simp));have HO2 := Hd (hO.out.trans O2);clear a0 a1 a2 O2 hB hU hO;generalize (wr.alloc (.cells #[.int .i64 s, .int .i64 f, .slice A' m cp] 47)) = w2 at *;generalize wr.heap.size = gt at *;have lT := bT.lt;have t2 := bT.at_ 2;simp at t2;clear bT;go_wp2_with fail
   go_loopw [18] (fun iv wr => ∃ j : Nat, iv = .int .i64 j ∧ j ≤ m ∧ Hid ((ops.take j).all (opB n1) = true) ∧ Hid (Blk wr w.heap.size 25 #[.slice A0 n0 c0, .slice A1 n1 c1, .slice (some ⟨b, off, none⟩) n2 c2]) ∧ Hid (Blk wr (w.heap.size + 1) 113 (cntC 40 (K0 ++ (ops.take j).map Op4.key))) ∧ Hid (Only [] w wr)) (fun iv _ => m - (intOf iv).toNat)
   case atStart => exact ⟨0, rfl, by omega, Hd (by simp), HB2, by simpa using HU2, HO2⟩
   case round =>
    obtain ⟨j, rfl, hj, hall, hB, hU, hO⟩ := hrel;clear HB2 HU2 HO2 t2 lT;have hsz2 := hO.out.size
    by_cases hlt2 : j < m
    ·obtain ⟨y, hy⟩ : ∃ y, ops[j]? = some y := ⟨_, List.getElem?_eq_getElem (by rw [HMM.out]; exact hlt2)⟩;obtain ⟨b', off', rfl, -, hbw', hP⟩ := row_op HROW.out hy;obtain ⟨p0, p1, p2, p3⟩ := hP.only hO.out hbw' (by simp);have HALN : Hid (opB n1 y = true → (ops.take (j + 1)).all (opB n1) = true) := Hd (fun h => takeTx_all hall.out hy h);have HBAD : Hid (opB n1 y = false → r = false) := Hd (HBADX.out j y hy);have HTK : Hid ((ops.take (j + 1)).map Op4.key = (ops.take j).map Op4.key ++ [y.key]) := Hd (by rw [List.take_add_one, hy]; simp);obtain ⟨yw, yk, yv, yn⟩ := y;dsimp only at p0 p1 p2 p3 HTK;have h01 : (j : Int) < (m : Int) := by omega
     have hj0 : (0 : Int) ≤ (j : Int) := Int.natCast_nonneg _;have hwj : IntKind.i64.wrap ((j : Int) + 1) = (j : Int) + 1 := IntWalk.i64_in _ (by omega);have hbr' : b' < wr.heap.size := by omega
     clear hP hy hall;go_upto_region 8 with (fail)
     have O2 : Only [] wr (wr.alloc (.cells #[.bool yw, .int .i64 yk, .int .i64 yv, .int .i64 yn] 70)) := (Only.refl [] wr).alloc _;have bO := Blk.made wr 70 #[.bool yw, .int .i64 yk, .int .i64 yv, .int .i64 yn];have HB2 := Hd (O2.blk hB.out (by simp));have HU2 := Hd (O2.blk hU.out (by simp));have HO2 := Hd (hO.out.trans O2);clear p0 p1 p2 p3 O2 hB hU hO;generalize (wr.alloc (.cells #[.bool yw, .int .i64 yk, .int .i64 yv, .int .i64 yn] 70)) = w2' at *;have hgo : w.heap.size + 1 < wr.heap.size ∨ True := .inr trivial;generalize wr.heap.size = go at *;have HBO := Hd bO;have lO := bO.lt;have o0 := bO.at_ 0;have o1 := bO.at_ 1;have o2 := bO.at_ 2;have o3 := bO.at_ 3;have lB := HB2.out.lt;have b1 := HB2.out.at_ 1;simp at o0 o1 o2 o3 b1;clear bO;have hcase : (yk < 0 ∧ opB n1 ⟨yw, yk, yv, yn⟩ = false) ∨ (decide (yk < 0) = false ∧ (n1 : Int) ≤ yk ∧ opB n1 ⟨yw, yk, yv, yn⟩ = false) ∨ ∃ i : Nat, yk = (i : Int) ∧ i < n1 ∧ opB n1 ⟨yw, yk, yv, yn⟩ = (mayB yv yn && (!yw || decide (yv = 1))) := by
      unfold opB;dsimp only
      by_cases q1 : yk < 0
      ·exact .inl ⟨q1, by rw [decide_eq_false (by omega)]; rfl⟩
      ·by_cases q2 : (n1 : Int) ≤ yk
       ·exact .inr (.inl ⟨decide_eq_false q1, q2, by rw [decide_eq_false (by omega)]; rfl⟩)
       ·exact .inr (.inr ⟨yk.toNat, by omega, by omega, by rw [decide_eq_true (show 0 ≤ yk ∧ yk < (n1 : Int) by omega)]; rfl⟩)
     rcases hcase with ⟨q1, q⟩ | ⟨q1, q2, q⟩ | ⟨i, rfl, hi, q⟩
     ·obtain rfl := HBAD.out q;clear q;go_wp2
      go_ret
      exact ⟨rfl, HO2.out⟩
     ·obtain rfl := HBAD.out q;clear q;go_wp2
      go_ret
      exact ⟨rfl, HO2.out⟩
     ·have HF := Hd (HMAY.out yv yn w2');have q1 : decide ((i : Int) < 0) = false := by simp
      have q2 : decide ((n1 : Int) ≤ (i : Int)) = false := by simp; omega
      have q5 : (0 : Int) ≤ (i : Int) := by omega
      have q6 : (i : Int) < 40 := by omega
      cases hmy : mayB yv yn with
      | false =>
       rw [hmy] at HF q;obtain rfl := HBAD.out q;clear q hmy;go_wp2_with fail
       refine (HF.out).mono ?_;rintro e w3 ⟨rfl, O3⟩;have HO3 := Hd (HO2.out.trans O3);clear O3;go_wp2
       go_ret
       exact ⟨rfl, HO3.out⟩
      | true =>
       rw [hmy] at HF q;have hc : (K0 ++ (ops.take j).map Op4.key).countP (fun s => decide (s = (i : Int))) ≤ 2000000 := by
        have := List.countP_le_length (p := fun s => decide (s = (i : Int))) (l := K0 ++ (ops.take j).map Op4.key);rw [List.length_append, List.length_map, List.length_take] at this;omega
       have HCS := Hd (cntC_snoc 40 (K0 ++ (ops.take j).map Op4.key) i (by omega));have HCA := Hd (cntC_at 40 (K0 ++ (ops.take j).map Op4.key) i (by omega));generalize (K0 ++ (ops.take j).map Op4.key).countP (fun s => decide (s = (i : Int))) = ci at *;have hwc : IntKind.i64.wrap ((ci : Int) + 1) = (ci : Int) + 1 := IntWalk.i64_in _ (by omega);clear hmy
       cases yw with
       | true =>
        by_cases hv1 : yv = 1
        ·subst hv1;have HQ := Hd (HALN.out (by rw [q]; rfl));clear q;go_wp2_with fail
         refine (HF.out).mono ?_;rintro e w3 ⟨rfl, O3⟩;have HO3 := Hd (HO2.out.trans O3);have HB3 := Hd (O3.blk HB2.out (by simp));have HU3 := Hd (O3.blk HU2.out (by simp));have bO3 := O3.blk HBO.out (by simp);clear O3 lO o0 o1 o2 o3 lB b1;have lO := bO3.lt;have o0 := bO3.at_ 0;have o1 := bO3.at_ 1;have o2 := bO3.at_ 2;have lU := HU3.out.lt;have uj := (HU3.out.at_ i).trans HCA.out;have gj := HU3.out.free i;simp at o0 o1 o2;clear bO3;go_wp2
         go_roundw
         case rel =>
          refine ⟨j + 1, by go_num, by omega, HQ, Hd (HB3.out.far (by simp only; omega) _), Hd ?_, Hd (HO3.out.put (fun h => by simp only at h; omega) _)⟩;rw [HTK.out, ← List.append_assoc, HCS.out];exact HU3.out.put i _
         case measure => simp [intOf]; omega
        ·have hv1' : (yv == 1) = false := by simpa using hv1
         have hv1n : (yv != 1) = true := by simpa using hv1
         obtain rfl := HBAD.out (by rw [q, decide_eq_false hv1]; rfl);clear q hv1;go_wp2_with fail
         refine (HF.out).mono ?_;rintro e w3 ⟨rfl, O3⟩;have HO3 := Hd (HO2.out.trans O3);have bO3 := O3.blk HBO.out (by simp);clear O3 lO o0 o1 o2 o3 lB b1;have lO := bO3.lt;have o0 := bO3.at_ 0;have o2 := bO3.at_ 2;simp at o0 o2;clear bO3;go_wp2
         go_ret
         exact ⟨rfl, HO3.out⟩
       | false =>
        have HQ := Hd (HALN.out (by rw [q]; rfl));clear q;go_wp2_with fail
        refine (HF.out).mono ?_;rintro e w3 ⟨rfl, O3⟩;have HO3 := Hd (HO2.out.trans O3);have HB3 := Hd (O3.blk HB2.out (by simp));have HU3 := Hd (O3.blk HU2.out (by simp));have bO3 := O3.blk HBO.out (by simp);clear O3 lO o0 o1 o2 o3 lB b1;have lO := bO3.lt;have o0 := bO3.at_ 0;have o1 := bO3.at_ 1;have lU := HU3.out.lt;have uj := (HU3.out.at_ i).trans HCA.out;have gj := HU3.out.free i;simp at o0 o1;clear bO3;go_wp2
        go_roundw
        case rel =>
         refine ⟨j + 1, by go_num, by omega, HQ, Hd (HB3.out.far (by simp only; omega) _), Hd ?_, Hd (HO3.out.put (fun h => by simp only at h; omega) _)⟩;rw [HTK.out, ← List.append_assoc, HCS.out];exact HU3.out.put i _
        case measure => simp [intOf]; omega
    ·have hjm : j = m := by omega
     subst hjm;have hd2 : decide ((j : Int) < (j : Int)) = false := by simp
     have HQ : Hid ((h.l.take (k + 1)).all (fun t => t.ops.all (opB n1)) = true) := Hd (HALLN.out (by have := hall.out; rwa [List.take_of_length_le (by rw [HMM.out]; exact Nat.le_refl _)] at this));have HUN : Hid (Blk wr (w.heap.size + 1) 113 (cntC 40 (keysL (h.l.take (k + 1))))) := Hd (by
      have := hU.out;rw [List.take_of_length_le (by rw [HMM.out]; exact Nat.le_refl _)] at this;rw [HKT.out];exact this)
     clear hall hU;go_wp2
     go_roundw
     case rel => exact ⟨k + 1, by go_num, by omega, HQ, hB, HUN, hO⟩
     case measure => simp [intOf]; omega
  ·have hkn : k = n2 := by omega
   subst hkn;have hd2 : decide ((k : Int) < (k : Int)) = false := by simp
   have hU1 := hU.out;have hA1 := hall.out;rw [List.take_of_length_le (by rw [HN2.out]; exact Nat.le_refl _)] at hU1 hA1;have hrow := row_front hU1 n1;have hcz := cntL_zero 40 (keysL h.l) n1 h40;have HCI := Hd (contI_any (some ⟨w.heap.size + 1, 0, none⟩) n1 40 _ ((cntL 40 (keysL h.l)).take n1) 0 wr (by rw [List.length_take, cntL_len]; omega) (by omega) hrow);rw [hcz] at HCI;have HRR : Hid (r = ((List.range n1).all fun i : Nat => decide ((i : Int) ∈ keysL h.l))) := Hd (by
    rw [HR.out];unfold opsB useB;rw [HN1.out, hA1]
    rfl)
   have lB := hB.out.lt;have b1 := hB.out.at_ 1;simp at b1;have lU := hU.out.lt;have q5 : (0 : Int) ≤ (n1 : Int) := by omega
   have q6 : (n1 : Int) ≤ 40 := by omega
   clear hU1 hA1 hrow hcz hall hU HR;generalize ((List.range n1).all fun i : Nat => decide ((i : Int) ∈ keysL h.l)) = q at *;go_wp2_with fail
   refine (HCI.out).mono ?_;rintro e w3 ⟨rfl, rfl⟩;go_wp2
   go_ret
   exact ⟨by rw [HRR.out]; simp, hO.out⟩
def mayH (h : Hst) : Bool := namesB h.ss 20 && (namesB h.ks 40 && (txsB h && opsB h))
def errH (h : Hst) : Int := if mayH h = true then 0 else 4
structure HIn (w : World) (B : Nat) (A0 A1 A2 : Option Addr) (n0 n1 n2 : Nat) (h : Hst) : Prop where
 at_ : HAt w B A0 A1 A2 h
 n0 : h.ss.length = n0
 n1 : h.ks.length = n1
 n2 : h.l.length = n2
 sm : HSmall h
 u : UTabs w
theorem HIn.only {S : List Nat} {w w' : World} {B : Nat} {A0 A1 A2 : Option Addr} {n0 n1 n2 : Nat} {h : Hst} (g : HIn w B A0 A1 A2 n0 n1 n2 h) (ho : Only S w w') (hS : ∀ i ∈ S, B ≤ i) (hU : UTabs w') : HIn w' B A0 A1 A2 n0 n1 n2 h :=
 ⟨g.at_.only ho hS, g.n0, g.n1, g.n2, g.sm, hU⟩
theorem HIn.up {w : World} {B : Nat} {A0 A1 A2 : Option Addr} {n0 n1 n2 : Nat} {h : Hst} (g : HIn w B A0 A1 A2 n0 n1 n2 h) : HIn w w.heap.size A0 A1 A2 n0 n1 n2 h := ⟨g.at_.up, g.n0, g.n1, g.n2, g.sm, g.u⟩
theorem HIn.same {w w' : World} {B : Nat} {A0 A1 A2 : Option Addr} {n0 n1 n2 : Nat} {h : Hst} (g : HIn w B A0 A1 A2 n0 n1 n2 h) (ho : Only [] w w') : HIn w' B A0 A1 A2 n0 n1 n2 h :=
 g.only ho (fun _ h => by cases h) (g.u.only ho)
theorem mayH_no0 {h : Hst} (h0 : namesB h.ss 20 = false) : errH h = 4 := by unfold errH mayH; rw [h0]; rfl
theorem mayH_no1 {h : Hst} (h0 : namesB h.ss 20 = true) (h1 : namesB h.ks 40 = false) : errH h = 4 := by unfold errH mayH; rw [h0, h1]; rfl
theorem mayH_no2 {h : Hst} (h0 : namesB h.ss 20 = true) (h1 : namesB h.ks 40 = true) (h2 : txsB h = false) : errH h = 4 := by unfold errH mayH; rw [h0, h1, h2]; rfl
theorem mayH_no3 {h : Hst} (h0 : namesB h.ss 20 = true) (h1 : namesB h.ks 40 = true) (h2 : txsB h = true) (h3 : opsB h = false) : errH h = 4 := by unfold errH mayH; rw [h0, h1, h2, h3]; rfl
theorem mayH_yes {h : Hst} (h0 : namesB h.ss 20 = true) (h1 : namesB h.ks 40 = true) (h2 : txsB h = true) (h3 : opsB h = true) : errH h = 0 := by unfold errH mayH; rw [h0, h1, h2, h3]; rfl
theorem namesB_le {l : List ByteArray} {m : Nat} (h : namesB l m = true) : l.length ≤ m := by
 unfold namesB at h;simp at h;exact h.1
theorem hmay_any (A0 A1 A2 : Option Addr) (n0 n1 n2 c0 c1 c2 B : Nat) (h : Hst) (w : World) (hg : HIn w B A0 A1 A2 n0 n1 n2 h) :
  Calls Tryz.prog 39 #[hval A0 A1 A2 n0 n1 n2 c0 c1 c2] w fun e w' => e = .returned (.int .i64 (errH h)) ∧ Only [] w w' := by
 have HI := Hd hg;have HN0 := Hd (fun w' (O : Only [] w w') => names_any A0 n0 c0 B 20 h.ss w' hg.n0 (by have := hg.sm.ns; rw [hg.n0] at this; omega) hg.sm.s (hg.same O).at_.r0 (hg.same O).u);have HN1 := Hd (fun w' (O : Only [] w w') => names_any A1 n1 c1 B 40 h.ks w' hg.n1 (by have := hg.sm.nk; rw [hg.n1] at this; omega) hg.sm.k (hg.same O).at_.r1 (hg.same O).u);have HTX := Hd (fun (h0 : namesB h.ss 20 = true) w' (O : Only [] w w') => txs_any A0 A1 A2 n0 n1 n2 c0 c1 c2 B h w' (hg.same O).at_ hg.n0 hg.n2 (by have := namesB_le h0; rw [hg.n0] at this; exact this) (by have := hg.sm.nl; rw [hg.n2] at this; exact this));have HOP := Hd (fun (h0 : namesB h.ks 40 = true) w' (O : Only [] w w') => ops_any A0 A1 A2 n0 n1 n2 c0 c1 c2 B h w' (hg.same O).at_ hg.n1 hg.n2 (by have := namesB_le h0; rw [hg.n1] at this; exact this) (by have := hg.sm.nl; rw [hg.n2] at this; exact this) hg.sm.no);unfold hval at HTX HOP ⊢;have HO := Hd ((Only.refl [] w).alloc (.cells #[.slice A0 n0 c0, .slice A1 n1 c1, .slice A2 n2 c2] 25));have HB := Hd (Blk.made w 25 #[.slice A0 n0 c0, .slice A1 n1 c1, .slice A2 n2 c2]);clear hg;have F0 := Hd (HN0.out _ HO.out)
 cases h0 : namesB h.ss 20 with
 | false =>
  rw [h0] at F0;have HE := Hd (mayH_no0 h0);clear h0;go_enter Tryz.func39, Tryz.ntmps39;go_wp2_with fail
  refine (F0.out).mono ?_;rintro e w1 ⟨rfl, O1⟩;have HO1 := Hd (HO.out.trans O1);clear O1;go_wp2
  go_ret
  exact ⟨by rw [HE.out]; rfl, HO1.out⟩
 | true =>
  rw [h0] at F0;have HTX1 := Hd (HTX.out h0);have H0 := Hd h0;clear HTX h0;go_enter Tryz.func39, Tryz.ntmps39;go_wp2_with fail
  refine (F0.out).mono ?_;rintro e w1 ⟨rfl, O1⟩;have HO1 := Hd (HO.out.trans O1);have b1 := O1.blk HB.out (by simp);clear O1;have HB1 := Hd b1;have l1 := b1.lt;have x1 := b1.at_ 1;simp at x1;clear b1;have F1 := Hd (HN1.out _ HO1.out)
  cases h1 : namesB h.ks 40 with
  | false =>
   rw [h1] at F1;have HE := Hd (mayH_no1 H0.out h1);clear h1;go_wp2_with fail
   refine (F1.out).mono ?_;rintro e w2 ⟨rfl, O2⟩;have HO2 := Hd (HO1.out.trans O2);clear O2;go_wp2
   go_ret
   exact ⟨by rw [HE.out]; rfl, HO2.out⟩
  | true =>
   rw [h1] at F1;have HOP1 := Hd (HOP.out h1);have H1 := Hd h1;clear HOP h1;go_wp2_with fail
   refine (F1.out).mono ?_;rintro e w2 ⟨rfl, O2⟩;have HO2 := Hd (HO1.out.trans O2);have b2 := O2.blk HB1.out (by simp);clear O2 l1 x1;have HB2 := Hd b2;have l2 := b2.lt;have y0 := b2.at_ 0;have y1 := b2.at_ 1;have y2 := b2.at_ 2;simp at y0 y1 y2;clear b2;have F2 := Hd (HTX1.out _ HO2.out)
   cases h2 : txsB h with
   | false =>
    rw [h2] at F2;have HE := Hd (mayH_no2 H0.out H1.out h2);clear h2;go_wp2_with fail
    refine (F2.out).mono ?_;rintro e w3 ⟨rfl, O3⟩;have HO3 := Hd (HO2.out.trans O3);clear O3;go_wp2
    go_ret
    exact ⟨by rw [HE.out]; rfl, HO3.out⟩
   | true =>
    rw [h2] at F2;have H2 := Hd h2;clear h2;go_wp2_with fail
    refine (F2.out).mono ?_;rintro e w3 ⟨rfl, O3⟩;have HO3 := Hd (HO2.out.trans O3);have b3 := O3.blk HB2.out (by simp);clear O3 l2 y0 y1 y2;have l3 := b3.lt;have y0 := b3.at_ 0;have y1 := b3.at_ 1;have y2 := b3.at_ 2;simp at y0 y1 y2;clear b3;have F3 := Hd (HOP1.out _ HO3.out)
    cases h3 : opsB h with
    | false =>
     rw [h3] at F3;have HE := Hd (mayH_no3 H0.out H1.out H2.out h3);clear h3;go_wp2_with fail
     refine (F3.out).mono ?_;rintro e w4 ⟨rfl, O4⟩;have HO4 := Hd (HO3.out.trans O4);clear O4;go_wp2
     go_ret
     exact ⟨by rw [HE.out]; rfl, HO4.out⟩
    | true =>
     rw [h3] at F3;have HE := Hd (mayH_yes H0.out H1.out H2.out h3);clear h3;go_wp2_with fail
     refine (F3.out).mono ?_;rintro e w4 ⟨rfl, O4⟩;have HO4 := Hd (HO3.out.trans O4);clear O4;go_wp2
     go_ret
     exact ⟨by rw [HE.out]; rfl, HO4.out⟩
end Go.Proofs.YthdofaoamljkfaaGreatDoor
namespace Go.Proofs.YthdofaoamljkfaaGreatDoor
def whichL (p : Tx → Bool) (l : List Tx) : List Int := (l.zipIdx.filter fun x => p x.1).map fun x => (x.2 : Int)
theorem which_take {p : Tx → Bool} {l : List Tx} {k : Nat} {t : Tx} (h : l[k]? = some t) : whichL p (l.take (k + 1)) = whichL p (l.take k) ++ if p t = true then [(k : Int)] else [] := by
 have hk := (List.getElem?_eq_some_iff.1 h).1;unfold whichL;rw [List.take_add_one, h, List.zipIdx_append, List.filter_append, List.map_append, List.length_take, Nat.min_eq_left (Nat.le_of_lt hk)]
 by_cases hp : p t = true <;> simp [hp, List.zipIdx]
theorem which_le (p : Tx → Bool) (l : List Tx) : (whichL p l).length ≤ l.length := by
 unfold whichL;rw [List.length_map];exact Nat.le_trans (List.length_filter_le _ _) (by simp)
def txAtH (h : Hst) (a : Int) : Option Tx := if mayH h = true ∧ 0 ≤ a then h.l[a.toNat]? else none
def opAtH (h : Hst) (a b : Int) : Option (Tx × Op4) := (txAtH h a).bind fun t => if 0 ≤ b then (t.ops[b.toNat]?).map (fun o => (t, o)) else none
def ownO (h : Hst) (a b : Int) : Option (Int × Int) := (opAtH h a b).bind fun x => leftW x.2.key (x.1.ops.take b.toNat)
def outerB (h : Hst) (a b : Int) : Bool := match opAtH h a b with | some x => !x.2.wr && !(leftW x.2.key (x.1.ops.take b.toNat)).isSome | none => false
theorem txAt_no {h : Hst} {a : Int} (hm : mayH h = false) : txAtH h a = none := by unfold txAtH; rw [hm]; simp
theorem txAt_neg {h : Hst} {a : Int} (ha : a < 0) : txAtH h a = none := by unfold txAtH; rw [if_neg (by omega)]
theorem txAt_big {h : Hst} {a : Int} (ha : (h.l.length : Int) ≤ a) : txAtH h a = none := by
 unfold txAtH
 split
 ·exact List.getElem?_eq_none (by omega)
 ·rfl
theorem txAt_yes {h : Hst} {i : Nat} {t : Tx} (hm : mayH h = true) (ht : h.l[i]? = some t) : txAtH h (i : Int) = some t := by
 unfold txAtH;rw [if_pos ⟨hm, by omega⟩]
 simpa using ht
theorem opAt_none {h : Hst} {a b : Int} (ht : txAtH h a = none) : opAtH h a b = none := by unfold opAtH; rw [ht]; rfl
theorem opAt_neg {h : Hst} {a b : Int} (hb : b < 0) : opAtH h a b = none := by
 unfold opAtH
 cases txAtH h a with
 | none => rfl
 | some t => simp only [Option.bind_some]; rw [if_neg (by omega)]
theorem opAt_big {h : Hst} {a b : Int} {t : Tx} (ht : txAtH h a = some t) (hb : (t.ops.length : Int) ≤ b) : opAtH h a b = none := by
 unfold opAtH;rw [ht];simp only [Option.bind_some]
 split
 ·rw [List.getElem?_eq_none (by omega)]; rfl
 ·rfl
theorem opAt_yes {h : Hst} {a : Int} {j : Nat} {t : Tx} {o : Op4} (ht : txAtH h a = some t) (ho : t.ops[j]? = some o) : opAtH h a (j : Int) = some (t, o) := by
 unfold opAtH;rw [ht];simp only [Option.bind_some];rw [if_pos (by omega)];simp [ho]
theorem own_none {h : Hst} {a b : Int} (ho : opAtH h a b = none) : ownO h a b = none := by unfold ownO; rw [ho]; rfl
theorem own_some {h : Hst} {a b : Int} {t : Tx} {o : Op4} (ho : opAtH h a b = some (t, o)) : ownO h a b = leftW o.key (t.ops.take b.toNat) := by unfold ownO; rw [ho]; rfl
theorem outer_none {h : Hst} {a b : Int} (ho : opAtH h a b = none) : outerB h a b = false := by unfold outerB; rw [ho]
theorem outer_some {h : Hst} {a b : Int} {t : Tx} {o : Op4} (ho : opAtH h a b = some (t, o)) : outerB h a b = (!o.wr && !(leftW o.key (t.ops.take b.toNat)).isSome) := by unfold outerB; rw [ho]
def readO (h : Hst) (a b : Int) : Option (Tx × Op4) := (opAtH h a b).bind fun x => if x.2.wr = true then none else some x
theorem read_none {h : Hst} {a b : Int} (ho : opAtH h a b = none) : readO h a b = none := by unfold readO; rw [ho]; rfl
theorem read_write {h : Hst} {a b : Int} {x : Tx × Op4} (ho : opAtH h a b = some x) (hw : x.2.wr = true) : readO h a b = none := by unfold readO; rw [ho]; simp [hw]
theorem read_some {h : Hst} {a b : Int} {x : Tx × Op4} (ho : opAtH h a b = some x) (hw : x.2.wr = false) : readO h a b = some x := by unfold readO; rw [ho]; simp [hw]
def forT (a key : Int) (i : Nat) (t : Tx) : Option (Int × Int) := if (i : Int) = a ∨ t.f = 2 then none else leftW key t.ops
def fitsV (v u : Int × Int) : Bool := decide (v.1 = 2) || decide (v = u)
def fitsO (v : Int × Int) : Option (Int × Int) → Bool
 | some u => fitsV v u
 | none => false
def whoL (a key : Int) (v : Int × Int) (l : List Tx) : List Int := (l.zipIdx.filter fun x => fitsO v (forT a key x.2 x.1)).map fun x => (x.2 : Int)
def headW (v : Int × Int) : List Int := if v.1 = 1 then [] else [-1]
def wrOf (h : Hst) (a b : Int) : List Int :=
 match readO h a b with
 | some x => headW (x.2.vk, x.2.vn) ++ whoL a x.2.key (x.2.vk, x.2.vn) h.l
 | none => []
theorem wrOf_none {h : Hst} {a b : Int} (hr : readO h a b = none) : wrOf h a b = [] := by unfold wrOf; rw [hr]
theorem wrOf_some {h : Hst} {a b : Int} {t : Tx} {o : Op4} (hr : readO h a b = some (t, o)) : wrOf h a b = headW (o.vk, o.vn) ++ whoL a o.key (o.vk, o.vn) h.l := by unfold wrOf; rw [hr]
theorem whoL_take {a key : Int} {v : Int × Int} {l : List Tx} {k : Nat} {t : Tx} (h : l[k]? = some t) : whoL a key v (l.take (k + 1)) = whoL a key v (l.take k) ++ if fitsO v (forT a key k t) = true then [(k : Int)] else [] := by
 have hk := (List.getElem?_eq_some_iff.1 h).1;unfold whoL;rw [List.take_add_one, h, List.zipIdx_append, List.filter_append, List.map_append, List.length_take, Nat.min_eq_left (Nat.le_of_lt hk)]
 by_cases hp : fitsO v (forT a key k t) = true <;> simp [hp, List.zipIdx]
theorem whoL_le (a key : Int) (v : Int × Int) (l : List Tx) : (whoL a key v l).length ≤ l.length := by
 unfold whoL;rw [List.length_map];exact Nat.le_trans (List.length_filter_le _ _) (by simp)
theorem headW_le (v : Int × Int) : (headW v).length ≤ 1 := by unfold headW; split <;> simp
def hitN (key n : Int) (o : Op4) : Bool := o.wr && (decide (o.key = key) && decide (o.vn = n))
open Go.RowKit Go.Shelf
open Go.Lib hiding intOf
attribute [local go_sem] Oper.semAt_some
theorem OpAt.belowB {B : Nat} {w w' : World} {b o : Nat} {x : Op4} (h : OpAt w b o x) (ho : Below B w w') (hb : b < B) : OpAt w' b o x :=
 ⟨(ho.cell (p := ⟨b, o, none⟩) hb).trans h.c0, (ho.cell (p := ⟨b, o + 1, none⟩) hb).trans h.c1, (ho.cell (p := ⟨b, o + 2, none⟩) hb).trans h.c2, (ho.cell (p := ⟨b, o + 3, none⟩) hb).trans h.c3⟩
theorem TxAt.belowB {B : Nat} {w w' : World} {b o : Nat} {x : TxA} (h : TxAt w b o x) (ho : Below B w w') (hb : b < B) : TxAt w' b o x :=
 ⟨(ho.cell (p := ⟨b, o, none⟩) hb).trans h.c0, (ho.cell (p := ⟨b, o + 1, none⟩) hb).trans h.c1, (ho.cell (p := ⟨b, o + 2, none⟩) hb).trans h.c2⟩
theorem blk_own {β : Type} (B : Nat) (t : TypeId) (f : β → Array Value) : Own (fun s W => Blk W B t (f s)) := fun s X Y row hs hg hrow =>
 (hg.block B hs.lt (fun e' => by obtain ⟨o, ho, hc⟩ := hrow B e'.symm; rw [show X.heap[B]? = _ from hs] at ho; cases ho; cases hc)).trans hs
end Go.Proofs.YthdofaoamljkfaaGreatDoor
namespace Go.Proofs.YthdofaoamljkfaaGreatDoor
open Go.RowKit
section
variable {P : Program}
theorem results_row1 {fn : Func} {p : Tmp} {ty : TypeId} (h : fn.results = #[.cell p ty]) (tmps : Array Value) (w : World) (g : Nat) (t : TypeId) (cs : Array Value) (d : TypeDesc)
  (hp : tmps.getD p undef = .pointer (some ⟨g, 0, none⟩)) (hg : Blk w g t cs) (hu : P.underlying ty = some d) (hd : d.isRow = true) (hi : (P.info? ty).map (·.size) = some cs.size) :
  (results fn tmps).run P w = .ok (.agg cs) w :=
 results_cell_row h tmps w g t cs (0, 0) d hp hg hu (by cases d <;> simp_all) hi
theorem results_row2 {fn : Func} {p u : Tmp} {ty : TypeId} (h : fn.results = #[.cell p ty, .tmp u]) (tmps : Array Value) (w : World) (g : Nat) (t : TypeId) (cs : Array Value) (d : TypeDesc)
  (hp : tmps.getD p undef = .pointer (some ⟨g, 0, none⟩)) (hg : Blk w g t cs) (hu : P.underlying ty = some d) (hd : d.isRow = true) (hi : (P.info? ty).map (·.size) = some cs.size) :
  (results fn tmps).run P w = .ok (.tuple #[.agg cs, tmps.getD u undef]) w := by
 have hl := run_loadVar_row (P := P) w g t ty cs (0, 0) d hg hu (by cases d <;> simp_all) hi;rw [results_cell_tmp h, hp];simp [asAddr, hl, Result.andThen]
theorem results_row3 {fn : Func} {p u v : Tmp} {ty : TypeId} (h : fn.results = #[.cell p ty, .tmp u, .tmp v]) (tmps : Array Value) (w : World) (g : Nat) (t : TypeId) (cs : Array Value) (d : TypeDesc)
  (hp : tmps.getD p undef = .pointer (some ⟨g, 0, none⟩)) (hg : Blk w g t cs) (hu : P.underlying ty = some d) (hd : d.isRow = true) (hi : (P.info? ty).map (·.size) = some cs.size) :
  (results fn tmps).run P w = .ok (.tuple #[.agg cs, tmps.getD u undef, tmps.getD v undef]) w := by
 have hp' : tmps[p]?.getD undef = .pointer (some ⟨g, 0, none⟩) := by simpa using hp
 have hl := run_loadVar_row (P := P) w g t ty cs (0, 0) d hg hu (by cases d <;> simp_all) hi;simp only [results, h];simp [Sem.run_bind, Result.andThen, hp', asAddr, hl]
end
theorem Blk.there {w : World} {g : Nat} {t : TypeId} {cs : Array Value} (h : Blk w g t cs) : w.there g 0 cs.size := fun j hj => by
 rw [Nat.zero_add];exact ⟨by rw [h.at_ j]; simp [hj], h.free j⟩
theorem setCells_only (g : Nat) : ∀ (vs : List Value) (o : Nat) (S : List Nat) (w w' : World), Only S w w' → (g < w.heap.size → g ∈ S) → Only S w (w'.setCells g o vs)
 | [], _, _, _, _, h, _ => h
 | v :: vs, o, S, w, w', h, hg => setCells_only g vs (o + 1) S w _ (h.put (p := ⟨g, o, none⟩) hg v) hg
theorem Only.putAll {S : List Nat} {w w' : World} (h : Only S w w') {g : Nat} (hg : g < w.heap.size → g ∈ S) (vs : List Value) : Only S w (w'.setCells g 0 vs) := setCells_only g vs 0 S w w' h hg
theorem setCells_blk (g : Nat) (t : TypeId) : ∀ (vs : List Value) (o : Nat) (w : World) (cs : Array Value), Blk w g t cs → o + vs.length = cs.size → Blk (w.setCells g o vs) g t (cs.toList.take o ++ vs).toArray
 | [], o, w, cs, h, hl => by
  have e : (cs.toList.take o ++ []).toArray = cs := by
   rw [List.append_nil, List.take_of_length_le (by simp at hl ⊢; omega)]
  rw [e];exact h
 | v :: vs, o, w, cs, h, hl => by
  have h1 := h.put o v;have hl2 : o < cs.size := by simp at hl; omega
  have h2 := setCells_blk g t vs (o + 1) _ _ h1 (by simp at hl ⊢; omega);have e : (cs.setIfInBounds o v).toList.take (o + 1) ++ vs = cs.toList.take o ++ v :: vs := by
   rw [Array.toList_setIfInBounds, List.take_add_one, List.take_set_of_le (by omega)];simp [hl2]
  rw [e] at h2;exact h2
theorem Blk.putAll {w : World} {g : Nat} {t : TypeId} {cs : Array Value} (h : Blk w g t cs) (vs : List Value) (hl : vs.length = cs.size) : Blk (w.setCells g 0 vs) g t vs.toArray := by
 have := setCells_blk g t vs 0 w cs h (by simpa using hl)
 simpa using this
theorem Blk.range {w : World} {g : Nat} {t : TypeId} {cs : Array Value} (h : Blk w g t cs) : w.rangeAt g 0 cs.toList := fun j v hj => by
 rw [Nat.zero_add, h.at_ j]
 simpa using hj
theorem wp_store_blk {P : Program} {op : Oper} {a : Act} {w : World} {K : Act → World → Prop} {Q : Exit → Act → World → Prop} (ty : TypeId) (x y : Operand) (ho : op.op = .store ty x y)
  (g : Nat) (t : TypeId) (cs cells : Array Value) (hx : a.eval x = .pointer (some ⟨g, 0, none⟩)) (hy : a.eval y = .agg cells)
  (hb : Blk w g t cs) (hl : cells.size = cs.size) (hi : (P.info? ty).map (·.size) = some cells.size) (h1 : cells.all (·.oneCell') = true)
  (h : ∀ w', Blk w' g t cells → Only [g] w w' → K (a.put op.dst undef) w') : op.wp P a w K Q :=
 wp_store_mid ty x y ho g 0 cells hx hy (by rw [hl]; exact hb.there) hi h1 (h _ (by have := hb.putAll cells.toList (by simpa using hl); simpa using this) ((Only.refl [g] w).putAll (fun _ => by simp) _))
end Go.Proofs.YthdofaoamljkfaaGreatDoor
