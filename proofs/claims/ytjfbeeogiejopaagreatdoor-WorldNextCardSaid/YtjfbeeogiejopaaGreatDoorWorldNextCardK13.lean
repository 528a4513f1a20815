/- Parts. -/
import Derived.Test.YtjfbeeogiejopaaGreatDoorWorldNextCardK12
set_option maxRecDepth 10000
set_option maxHeartbeats 16000000
set_option linter.unusedVariables false
set_option linter.unusedSimpArgs false
namespace Go.Proofs.YtjfbeeogiejopaaGreatDoor
open Go.RowKit
open Go.Lib hiding intOf
attribute [local go_sem ↓] Go.wp_at_zero Go.wp_at_succ
def opB (n1 : Nat) (x : Op4) : Bool := decide (0 ≤ x.key ∧ x.key < (n1 : Int)) && (mayB x.vk x.vn && (!x.wr || decide (x.vk = 1)))
def keysL (l : List Tx) : List Int := l.flatMap fun t => t.ops.map Op4.key
def opsB (h : Hst) : Bool := h.l.all (fun t => t.ops.all (opB h.ks.length)) && useB h.ks.length (keysL h.l)
theorem keysL_take {l : List Tx} {k : Nat} {t : Tx} (h : l[k]? = some t) : keysL (l.take (k + 1)) = keysL (l.take k) ++ t.ops.map Op4.key := by
 unfold keysL;rw [List.take_add_one, h];simp
theorem keysL_le : ∀ (l : List Tx), (∀ t ∈ l, t.ops.length ≤ 1000) → (keysL l).length ≤ l.length * 1000
 | [], _ => Nat.le_refl _
 | t :: l, h => by
  have h1 := keysL_le l (fun x hx => h x (List.mem_cons_of_mem _ hx));have h2 := h t List.mem_cons_self;unfold keysL at h1 ⊢;rw [List.flatMap_cons, List.length_append, List.length_map, List.length_cons];omega
theorem ops_no {h : Hst} {k j : Nat} {t : Tx} {x : Op4} (hk : h.l[k]? = some t) (hj : t.ops[j]? = some x) (hb : opB h.ks.length x = false) : opsB h = false := by
 unfold opsB;have : h.l.all (fun t => t.ops.all (opB h.ks.length)) = false := by
  rw [List.all_eq_false];refine ⟨t, List.mem_of_getElem? hk, ?_⟩;have : t.ops.all (opB h.ks.length) = false := by
   rw [List.all_eq_false];exact ⟨x, List.mem_of_getElem? hj, by rw [hb]; simp⟩
  rw [this];simp
 rw [this]
 rfl
theorem ops_any (A0 A1 A2 : Option Addr) (n0 n1 n2 c0 c1 c2 B : Nat) (h : Hst) (w : World) (hg : HAt w B A0 A1 A2 h) (hn1 : h.ks.length = n1) (hn2 : h.l.length = n2) (h40 : n1 ≤ 40) (hM : n2 ≤ 1000) (hno : ∀ t ∈ h.l, t.ops.length ≤ 1000) :
  Calls Tryz.prog 79 #[hval A0 A1 A2 n0 n1 n2 c0 c1 c2] w fun e w' => e = .returned (.bool (opsB h)) ∧ Only [] w w' := by
 unfold hval;have HMAY := Hd (fun vk vn w' => vmay_any vk vn w');have HG := Hd hg.r2;have HN1 := Hd hn1;have HN2 := Hd hn2;have HNO := Hd hno;have HO := Hd ((Only.refl [] w).alloc (.cells #[.slice A0 n0 c0, .slice A1 n1 c1, .slice A2 n2 c2] 25));clear hg;obtain ⟨r, hr⟩ : ∃ r, r = opsB h := ⟨_, rfl⟩;rw [← hr];have HR := Hd hr;have HB1 := Hd ((Blk.made w 25 #[.slice A0 n0 c0, .slice A1 n1 c1, .slice A2 n2 c2]).alloc (.cells (cntC 40 []) 139));have HU1 := Hd (Blk.made (w.alloc (.cells #[.slice A0 n0 c0, .slice A1 n1 c1, .slice A2 n2 c2] 25)) 139 (cntC 40 []));have HO1 := Hd (HO.out.alloc (.cells (cntC 40 []) 139));rw [World.size_alloc] at HU1;clear hr hn1 hn2 hno HO;go_enter Tryz.func79, Tryz.ntmps79;go_wp2_with fail
 go_loopw [11] (fun iv wr => ∃ k : Nat, iv = .int .i64 k ∧ k ≤ n2 ∧ Hid ((h.l.take k).all (fun t => t.ops.all (opB n1)) = true) ∧ Hid (Blk wr w.heap.size 25 #[.slice A0 n0 c0, .slice A1 n1 c1, .slice A2 n2 c2]) ∧ Hid (Blk wr (w.heap.size + 1) 139 (cntC 40 (keysL (h.l.take k)))) ∧ Hid (Only [] w wr)) (fun iv _ => n2 - (intOf iv).toNat)
 case atStart => exact ⟨0, rfl, by omega, Hd (by simp), HB1, HU1, HO1⟩
 case round =>
  obtain ⟨k, rfl, hk, hall, hB, hU, hO⟩ := hrel;have hsz := hO.out.size
  by_cases hlt : k < n2
  ·obtain ⟨x, hx⟩ : ∃ x, h.l[k]? = some x := ⟨_, List.getElem?_eq_getElem (by rw [HN2.out]; exact hlt)⟩;obtain ⟨b, off, A', cp, rfl, -, hbw, hT, hOk⟩ := HG.out.at_ hx;obtain ⟨a0, a1, a2⟩ := hT.only hO.out hbw (by simp);have HX := Hd hx;have hm1 := HNO.out x (List.mem_of_getElem? hx);have HKT := Hd (keysL_take hx);have hkl : (keysL (h.l.take k)).length ≤ 1000000 := by
    have h1 := keysL_le (h.l.take k) (fun t ht => HNO.out t (List.mem_of_mem_take ht));rw [List.length_take] at h1;omega
   have HALLN : Hid (x.ops.all (opB n1) = true → ((h.l.take (k + 1)).all (fun t => t.ops.all (opB n1)) = true)) := Hd (fun hxx => takeTx_all hall.out hx hxx);have HROW := Hd hOk.row;have HBADX : Hid (∀ (j : Nat) y, x.ops[j]? = some y → opB n1 y = false → r = false) := Hd (fun j y hj hb => by rw [HR.out]; exact ops_no hx hj (by rw [HN1.out]; exact hb));obtain ⟨s, f, ops⟩ := x;dsimp only at a0 a1 a2 hm1 HKT HALLN HROW HBADX;generalize hm : ops.length = m at *;have HMM := Hd hm;have h01 : (k : Int) < (n2 : Int) := by omega
   have hk0 : (0 : Int) ≤ (k : Int) := Int.natCast_nonneg _;have hwk : IntKind.i64.wrap ((k : Int) + 1) = (k : Int) + 1 := IntWalk.i64_in _ (by omega);have hbr : b < wr.heap.size := by omega
   generalize hK0 : keysL (h.l.take k) = K0 at *;clear hT hOk hx hm hall HX hK0;go_upto_region 5 with (fail)
   have O2 : Only [] wr (wr.alloc (.cells #[.int .i64 s, .int .i64 f, .slice A' m cp] 46)) := (Only.refl [] wr).alloc _;have bT := Blk.made wr 46 #[.int .i64 s, .int .i64 f, .slice A' m cp];have HB2 := Hd (O2.blk hB.out (by simp));have HU2 := Hd (O2.blk hU.out (by simp));have HO2 := Hd (hO.out.trans O2);clear a0 a1 a2 O2 hB hU hO;generalize (wr.alloc (.cells #[.int .i64 s, .int .i64 f, .slice A' m cp] 46)) = w2 at *;generalize wr.heap.size = gt at *;have lT := bT.lt;have t2 := bT.at_ 2;simp at t2;clear bT;go_wp2_with fail
   go_loopw [18] (fun iv wr => ∃ j : Nat, iv = .int .i64 j ∧ j ≤ m ∧ Hid ((ops.take j).all (opB n1) = true) ∧ Hid (Blk wr w.heap.size 25 #[.slice A0 n0 c0, .slice A1 n1 c1, .slice (some ⟨b, off, none⟩) n2 c2]) ∧ Hid (Blk wr (w.heap.size + 1) 139 (cntC 40 (K0 ++ (ops.take j).map Op4.key))) ∧ Hid (Only [] w wr)) (fun iv _ => m - (intOf iv).toNat)
   case atStart => exact ⟨0, rfl, by omega, Hd (by simp), HB2, by simpa using HU2, HO2⟩
   case round =>
    obtain ⟨j, rfl, hj, hall, hB, hU, hO⟩ := hrel;clear HB2 HU2 HO2 t2 lT;have hsz2 := hO.out.size
    by_cases hlt2 : j < m
    ·obtain ⟨y, hy⟩ : ∃ y, ops[j]? = some y := ⟨_, List.getElem?_eq_getElem (by rw [HMM.out]; exact hlt2)⟩;obtain ⟨b', off', rfl, -, hbw', hP⟩ := row_op HROW.out hy;obtain ⟨p0, p1, p2, p3⟩ := hP.only hO.out hbw' (by simp);have HALN : Hid (opB n1 y = true → (ops.take (j + 1)).all (opB n1) = true) := Hd (fun h => takeTx_all hall.out hy h);have HBAD : Hid (opB n1 y = false → r = false) := Hd (HBADX.out j y hy);have HTK : Hid ((ops.take (j + 1)).map Op4.key = (ops.take j).map Op4.key ++ [y.key]) := Hd (by rw [List.take_add_one, hy]; simp);obtain ⟨yw, yk, yv, yn⟩ := y;dsimp only at p0 p1 p2 p3 HTK;have h01 : (j : Int) < (m : Int) := by omega
     have hj0 : (0 : Int) ≤ (j : Int) := Int.natCast_nonneg _;have hwj : IntKind.i64.wrap ((j : Int) + 1) = (j : Int) + 1 := IntWalk.i64_in _ (by omega);have hbr' : b' < wr.heap.size := by omega
     clear hP hy hall;go_upto_region 8 with (fail)
     have O2 : Only [] wr (wr.alloc (.cells #[.bool yw, .int .i64 yk, .int .i64 yv, .int .i64 yn] 48)) := (Only.refl [] wr).alloc _;have bO := Blk.made wr 48 #[.bool yw, .int .i64 yk, .int .i64 yv, .int .i64 yn];have HB2 := Hd (O2.blk hB.out (by simp));have HU2 := Hd (O2.blk hU.out (by simp));have HO2 := Hd (hO.out.trans O2);clear p0 p1 p2 p3 O2 hB hU hO;generalize (wr.alloc (.cells #[.bool yw, .int .i64 yk, .int .i64 yv, .int .i64 yn] 48)) = w2' at *;have hgo : w.heap.size + 1 < wr.heap.size ∨ True := .inr trivial;generalize wr.heap.size = go at *;have HBO := Hd bO;have lO := bO.lt;have o0 := bO.at_ 0;have o1 := bO.at_ 1;have o2 := bO.at_ 2;have o3 := bO.at_ 3;have lB := HB2.out.lt;have b1 := HB2.out.at_ 1;simp at o0 o1 o2 o3 b1;clear bO;have hcase : (yk < 0 ∧ opB n1 ⟨yw, yk, yv, yn⟩ = false) ∨ (decide (yk < 0) = false ∧ (n1 : Int) ≤ yk ∧ opB n1 ⟨yw, yk, yv, yn⟩ = false) ∨ ∃ i : Nat, yk = (i : Int) ∧ i < n1 ∧ opB n1 ⟨yw, yk, yv, yn⟩ = (mayB yv yn && (!yw || decide (yv = 1))) := by
      unfold opB;dsimp only
      by_cases q1 : yk < 0
      ·exact .inl ⟨q1, by rw [decide_eq_false (by omega)]; rfl⟩
      ·by_cases q2 : (n1 : Int) ≤ yk
       ·exact .inr (.inl ⟨decide_eq_false q1, q2, by rw [decide_eq_false (by omega)]; rfl⟩)
       ·exact .inr (.inr ⟨yk.toNat, by omega, by omega, by rw [decide_eq_true (show 0 ≤ yk ∧ yk < (n1 : Int) by omega)]; rfl⟩)
     rcases hcase with ⟨q1, q⟩ | ⟨q1, q2, q⟩ | ⟨i, rfl, hi, q⟩
     ·obtain rfl := HBAD.out q;clear q;go_wp2
      go_ret
      exact ⟨rfl, HO2.out⟩
     ·obtain rfl := HBAD.out q;clear q;go_wp2
      go_ret
      exact ⟨rfl, HO2.out⟩
     ·have HF := Hd (HMAY.out yv yn w2');have q1 : decide ((i : Int) < 0) = false := by simp
      have q2 : decide ((n1 : Int) ≤ (i : Int)) = false := by simp; omega
      have q5 : (0 : Int) ≤ (i : Int) := by omega
      have q6 : (i : Int) < 40 := by omega
      cases hmy : mayB yv yn with
      | false =>
       rw [hmy] at HF q;obtain rfl := HBAD.out q;clear q hmy;go_wp2_with fail
       refine (HF.out).mono ?_;rintro e w3 ⟨rfl, O3⟩;have HO3 := Hd (HO2.out.trans O3);clear O3;go_wp2
       go_ret
       exact ⟨rfl, HO3.out⟩
      | true =>
       rw [hmy] at HF q;have hc : (K0 ++ (ops.take j).map Op4.key).countP (fun s => decide (s = (i : Int))) ≤ 2000000 := by
        have := List.countP_le_length (p := fun s => decide (s = (i : Int))) (l := K0 ++ (ops.take j).map Op4.key);rw [List.length_append, List.length_map, List.length_take] at this;omega
       have HCS := Hd (cntC_snoc 40 (K0 ++ (ops.take j).map Op4.key) i (by omega));have HCA := Hd (cntC_at 40 (K0 ++ (ops.take j).map Op4.key) i (by omega));generalize (K0 ++ (ops.take j).map Op4.key).countP (fun s => decide (s = (i : Int))) = ci at *;have hwc : IntKind.i64.wrap ((ci : Int) + 1) = (ci : Int) + 1 := IntWalk.i64_in _ (by omega);clear hmy
       cases yw with
       | true =>
        by_cases hv1 : yv = 1
        ·subst hv1;have HQ := Hd (HALN.out (by rw [q]; rfl));clear q;go_wp2_with fail
         refine (HF.out).mono ?_;rintro e w3 ⟨rfl, O3⟩;have HO3 := Hd (HO2.out.trans O3);have HB3 := Hd (O3.blk HB2.out (by simp));have HU3 := Hd (O3.blk HU2.out (by simp));have bO3 := O3.blk HBO.out (by simp);clear O3 lO o0 o1 o2 o3 lB b1;have lO := bO3.lt;have o0 := bO3.at_ 0;have o1 := bO3.at_ 1;have o2 := bO3.at_ 2;have lU := HU3.out.lt;have uj := (HU3.out.at_ i).trans HCA.out;have gj := HU3.out.free i;simp at o0 o1 o2;clear bO3;go_wp2
         go_roundw
         case rel =>
          refine ⟨j + 1, by go_num, by omega, HQ, Hd (HB3.out.far (by simp only; omega) _), Hd ?_, Hd (HO3.out.put (fun h => by simp only at h; omega) _)⟩;rw [HTK.out, ← List.append_assoc, HCS.out];exact HU3.out.put i _
         case measure => simp [intOf]; omega
        ·have hv1' : (yv == 1) = false := by simpa using hv1
         have hv1n : (yv != 1) = true := by simpa using hv1
         obtain rfl := HBAD.out (by rw [q, decide_eq_false hv1]; rfl);clear q hv1;go_wp2_with fail
         refine (HF.out).mono ?_;rintro e w3 ⟨rfl, O3⟩;have HO3 := Hd (HO2.out.trans O3);have bO3 := O3.blk HBO.out (by simp);clear O3 lO o0 o1 o2 o3 lB b1;have lO := bO3.lt;have o0 := bO3.at_ 0;have o2 := bO3.at_ 2;simp at o0 o2;clear bO3;go_wp2
         go_ret
         exact ⟨rfl, HO3.out⟩
       | false =>
        have HQ := Hd (HALN.out (by rw [q]; rfl));clear q;go_wp2_with fail
        refine (HF.out).mono ?_;rintro e w3 ⟨rfl, O3⟩;have HO3 := Hd (HO2.out.trans O3);have HB3 := Hd (O3.blk HB2.out (by simp));have HU3 := Hd (O3.blk HU2.out (by simp));have bO3 := O3.blk HBO.out (by simp);clear O3 lO o0 o1 o2 o3 lB b1;have lO := bO3.lt;have o0 := bO3.at_ 0;have o1 := bO3.at_ 1;have lU := HU3.out.lt;have uj := (HU3.out.at_ i).trans HCA.out;have gj := HU3.out.free i;simp at o0 o1;clear bO3;go_wp2
        go_roundw
        case rel =>
         refine ⟨j + 1, by go_num, by omega, HQ, Hd (HB3.out.far (by simp only; omega) _), Hd ?_, Hd (HO3.out.put (fun h => by simp only at h; omega) _)⟩;rw [HTK.out, ← List.append_assoc, HCS.out];exact HU3.out.put i _
        case measure => simp [intOf]; omega
    ·have hjm : j = m := by omega
     subst hjm;have hd2 : decide ((j : Int) < (j : Int)) = false := by simp
     have HQ : Hid ((h.l.take (k + 1)).all (fun t => t.ops.all (opB n1)) = true) := Hd (HALLN.out (by have := hall.out; rwa [List.take_of_length_le (by rw [HMM.out]; exact Nat.le_refl _)] at this));have HUN : Hid (Blk wr (w.heap.size + 1) 139 (cntC 40 (keysL (h.l.take (k + 1))))) := Hd (by
      have := hU.out;rw [List.take_of_length_le (by rw [HMM.out]; exact Nat.le_refl _)] at this;rw [HKT.out];exact this)
     clear hall hU;go_wp2
     go_roundw
     case rel => exact ⟨k + 1, by go_num, by omega, HQ, hB, HUN, hO⟩
     case measure => simp [intOf]; omega
  ·have hkn : k = n2 := by omega
   subst hkn;have hd2 : decide ((k : Int) < (k : Int)) = false := by simp
   have hU1 := hU.out;have hA1 := hall.out;rw [List.take_of_length_le (by rw [HN2.out]; exact Nat.le_refl _)] at hU1 hA1;have hrow := row_front hU1 n1;have hcz := cntL_zero 40 (keysL h.l) n1 h40;have HCI := Hd (contI_any (some ⟨w.heap.size + 1, 0, none⟩) n1 40 _ ((cntL 40 (keysL h.l)).take n1) 0 wr (by rw [List.length_take, cntL_len]; omega) (by omega) hrow);rw [hcz] at HCI;have HRR : Hid (r = ((List.range n1).all fun i : Nat => decide ((i : Int) ∈ keysL h.l))) := Hd (by
    rw [HR.out];unfold opsB useB;rw [HN1.out, hA1]
    rfl)
   have lB := hB.out.lt;have b1 := hB.out.at_ 1;simp at b1;have lU := hU.out.lt;have q5 : (0 : Int) ≤ (n1 : Int) := by omega
   have q6 : (n1 : Int) ≤ 40 := by omega
   clear hU1 hA1 hrow hcz hall hU HR;generalize ((List.range n1).all fun i : Nat => decide ((i : Int) ∈ keysL h.l)) = q at *;go_wp2_with fail
   refine (HCI.out).mono ?_;rintro e w3 ⟨rfl, rfl⟩;go_wp2
   go_ret
   exact ⟨by rw [HRR.out]; simp, hO.out⟩
def mayH (h : Hst) : Bool := namesB h.ss 20 && (namesB h.ks 40 && (txsB h && opsB h))
def errH (h : Hst) : Int := if mayH h = true then 0 else 4
structure HIn (w : World) (B : Nat) (A0 A1 A2 : Option Addr) (n0 n1 n2 : Nat) (h : Hst) : Prop where
 at_ : HAt w B A0 A1 A2 h
 n0 : h.ss.length = n0
 n1 : h.ks.length = n1
 n2 : h.l.length = n2
 sm : HSmall h
 u : UTabs w
theorem HIn.only {S : List Nat} {w w' : World} {B : Nat} {A0 A1 A2 : Option Addr} {n0 n1 n2 : Nat} {h : Hst} (g : HIn w B A0 A1 A2 n0 n1 n2 h) (ho : Only S w w') (hS : ∀ i ∈ S, B ≤ i) (hU : UTabs w') : HIn w' B A0 A1 A2 n0 n1 n2 h :=
 ⟨g.at_.only ho hS, g.n0, g.n1, g.n2, g.sm, hU⟩
theorem HIn.up {w : World} {B : Nat} {A0 A1 A2 : Option Addr} {n0 n1 n2 : Nat} {h : Hst} (g : HIn w B A0 A1 A2 n0 n1 n2 h) : HIn w w.heap.size A0 A1 A2 n0 n1 n2 h := ⟨g.at_.up, g.n0, g.n1, g.n2, g.sm, g.u⟩
theorem HIn.same {w w' : World} {B : Nat} {A0 A1 A2 : Option Addr} {n0 n1 n2 : Nat} {h : Hst} (g : HIn w B A0 A1 A2 n0 n1 n2 h) (ho : Only [] w w') : HIn w' B A0 A1 A2 n0 n1 n2 h :=
 g.only ho (fun _ h => by cases h) (g.u.only ho)
theorem mayH_no0 {h : Hst} (h0 : namesB h.ss 20 = false) : errH h = 4 := by unfold errH mayH; rw [h0]; rfl
theorem mayH_no1 {h : Hst} (h0 : namesB h.ss 20 = true) (h1 : namesB h.ks 40 = false) : errH h = 4 := by unfold errH mayH; rw [h0, h1]; rfl
theorem mayH_no2 {h : Hst} (h0 : namesB h.ss 20 = true) (h1 : namesB h.ks 40 = true) (h2 : txsB h = false) : errH h = 4 := by unfold errH mayH; rw [h0, h1, h2]; rfl
theorem mayH_no3 {h : Hst} (h0 : namesB h.ss 20 = true) (h1 : namesB h.ks 40 = true) (h2 : txsB h = true) (h3 : opsB h = false) : errH h = 4 := by unfold errH mayH; rw [h0, h1, h2, h3]; rfl
theorem mayH_yes {h : Hst} (h0 : namesB h.ss 20 = true) (h1 : namesB h.ks 40 = true) (h2 : txsB h = true) (h3 : opsB h = true) : errH h = 0 := by unfold errH mayH; rw [h0, h1, h2, h3]; rfl
theorem namesB_le {l : List ByteArray} {m : Nat} (h : namesB l m = true) : l.length ≤ m := by
 unfold namesB at h;simp at h;exact h.1
theorem hmay_any (A0 A1 A2 : Option Addr) (n0 n1 n2 c0 c1 c2 B : Nat) (h : Hst) (w : World) (hg : HIn w B A0 A1 A2 n0 n1 n2 h) :
  Calls Tryz.prog 46 #[hval A0 A1 A2 n0 n1 n2 c0 c1 c2] w fun e w' => e = .returned (.int .i64 (errH h)) ∧ Only [] w w' := by
 have HI := Hd hg;have HN0 := Hd (fun w' (O : Only [] w w') => names_any A0 n0 c0 B 20 h.ss w' hg.n0 (by have := hg.sm.ns; rw [hg.n0] at this; omega) hg.sm.s (hg.same O).at_.r0 (hg.same O).u);have HN1 := Hd (fun w' (O : Only [] w w') => names_any A1 n1 c1 B 40 h.ks w' hg.n1 (by have := hg.sm.nk; rw [hg.n1] at this; omega) hg.sm.k (hg.same O).at_.r1 (hg.same O).u);have HTX := Hd (fun (h0 : namesB h.ss 20 = true) w' (O : Only [] w w') => txs_any A0 A1 A2 n0 n1 n2 c0 c1 c2 B h w' (hg.same O).at_ hg.n0 hg.n2 (by have := namesB_le h0; rw [hg.n0] at this; exact this) (by have := hg.sm.nl; rw [hg.n2] at this; exact this));have HOP := Hd (fun (h0 : namesB h.ks 40 = true) w' (O : Only [] w w') => ops_any A0 A1 A2 n0 n1 n2 c0 c1 c2 B h w' (hg.same O).at_ hg.n1 hg.n2 (by have := namesB_le h0; rw [hg.n1] at this; exact this) (by have := hg.sm.nl; rw [hg.n2] at this; exact this) hg.sm.no);unfold hval at HTX HOP ⊢;have HO := Hd ((Only.refl [] w).alloc (.cells #[.slice A0 n0 c0, .slice A1 n1 c1, .slice A2 n2 c2] 25));have HB := Hd (Blk.made w 25 #[.slice A0 n0 c0, .slice A1 n1 c1, .slice A2 n2 c2]);clear hg;have F0 := Hd (HN0.out _ HO.out)
 cases h0 : namesB h.ss 20 with
 | false =>
  rw [h0] at F0;have HE := Hd (mayH_no0 h0);clear h0;go_enter Tryz.func46, Tryz.ntmps46;go_wp2_with fail
  refine (F0.out).mono ?_;rintro e w1 ⟨rfl, O1⟩;have HO1 := Hd (HO.out.trans O1);clear O1;go_wp2
  go_ret
  exact ⟨by rw [HE.out]; rfl, HO1.out⟩
 | true =>
  rw [h0] at F0;have HTX1 := Hd (HTX.out h0);have H0 := Hd h0;clear HTX h0;go_enter Tryz.func46, Tryz.ntmps46;go_wp2_with fail
  refine (F0.out).mono ?_;rintro e w1 ⟨rfl, O1⟩;have HO1 := Hd (HO.out.trans O1);have b1 := O1.blk HB.out (by simp);clear O1;have HB1 := Hd b1;have l1 := b1.lt;have x1 := b1.at_ 1;simp at x1;clear b1;have F1 := Hd (HN1.out _ HO1.out)
  cases h1 : namesB h.ks 40 with
  | false =>
   rw [h1] at F1;have HE := Hd (mayH_no1 H0.out h1);clear h1;go_wp2_with fail
   refine (F1.out).mono ?_;rintro e w2 ⟨rfl, O2⟩;have HO2 := Hd (HO1.out.trans O2);clear O2;go_wp2
   go_ret
   exact ⟨by rw [HE.out]; rfl, HO2.out⟩
  | true =>
   rw [h1] at F1;have HOP1 := Hd (HOP.out h1);have H1 := Hd h1;clear HOP h1;go_wp2_with fail
   refine (F1.out).mono ?_;rintro e w2 ⟨rfl, O2⟩;have HO2 := Hd (HO1.out.trans O2);have b2 := O2.blk HB1.out (by simp);clear O2 l1 x1;have HB2 := Hd b2;have l2 := b2.lt;have y0 := b2.at_ 0;have y1 := b2.at_ 1;have y2 := b2.at_ 2;simp at y0 y1 y2;clear b2;have F2 := Hd (HTX1.out _ HO2.out)
   cases h2 : txsB h with
   | false =>
    rw [h2] at F2;have HE := Hd (mayH_no2 H0.out H1.out h2);clear h2;go_wp2_with fail
    refine (F2.out).mono ?_;rintro e w3 ⟨rfl, O3⟩;have HO3 := Hd (HO2.out.trans O3);clear O3;go_wp2
    go_ret
    exact ⟨by rw [HE.out]; rfl, HO3.out⟩
   | true =>
    rw [h2] at F2;have H2 := Hd h2;clear h2;go_wp2_with fail
    refine (F2.out).mono ?_;rintro e w3 ⟨rfl, O3⟩;have HO3 := Hd (HO2.out.trans O3);have b3 := O3.blk HB2.out (by simp);clear O3 l2 y0 y1 y2;have l3 := b3.lt;have y0 := b3.at_ 0;have y1 := b3.at_ 1;have y2 := b3.at_ 2;simp at y0 y1 y2;clear b3;have F3 := Hd (HOP1.out _ HO3.out)
    cases h3 : opsB h with
    | false =>
     rw [h3] at F3;have HE := Hd (mayH_no3 H0.out H1.out H2.out h3);clear h3;go_wp2_with fail
     refine (F3.out).mono ?_;rintro e w4 ⟨rfl, O4⟩;have HO4 := Hd (HO3.out.trans O4);clear O4;go_wp2
     go_ret
     exact ⟨by rw [HE.out]; rfl, HO4.out⟩
    | true =>
     rw [h3] at F3;have HE := Hd (mayH_yes H0.out H1.out H2.out h3);clear h3;go_wp2_with fail
     refine (F3.out).mono ?_;rintro e w4 ⟨rfl, O4⟩;have HO4 := Hd (HO3.out.trans O4);clear O4;go_wp2
     go_ret
     exact ⟨by rw [HE.out]; rfl, HO4.out⟩
end Go.Proofs.YtjfbeeogiejopaaGreatDoor
namespace Go.Proofs.YtjfbeeogiejopaaGreatDoor
def whichL (p : Tx → Bool) (l : List Tx) : List Int := (l.zipIdx.filter fun x => p x.1).map fun x => (x.2 : Int)
theorem which_take {p : Tx → Bool} {l : List Tx} {k : Nat} {t : Tx} (h : l[k]? = some t) : whichL p (l.take (k + 1)) = whichL p (l.take k) ++ if p t = true then [(k : Int)] else [] := by
 have hk := (List.getElem?_eq_some_iff.1 h).1;unfold whichL;rw [List.take_add_one, h, List.zipIdx_append, List.filter_append, List.map_append, List.length_take, Nat.min_eq_left (Nat.le_of_lt hk)]
 by_cases hp : p t = true <;> simp [hp, List.zipIdx]
theorem which_le (p : Tx → Bool) (l : List Tx) : (whichL p l).length ≤ l.length := by
 unfold whichL;rw [List.length_map];exact Nat.le_trans (List.length_filter_le _ _) (by simp)
def txAtH (h : Hst) (a : Int) : Option Tx := if mayH h = true ∧ 0 ≤ a then h.l[a.toNat]? else none
def opAtH (h : Hst) (a b : Int) : Option (Tx × Op4) := (txAtH h a).bind fun t => if 0 ≤ b then (t.ops[b.toNat]?).map (fun o => (t, o)) else none
def ownO (h : Hst) (a b : Int) : Option (Int × Int) := (opAtH h a b).bind fun x => leftW x.2.key (x.1.ops.take b.toNat)
theorem txAt_no {h : Hst} {a : Int} (hm : mayH h = false) : txAtH h a = none := by unfold txAtH; rw [hm]; simp
theorem txAt_neg {h : Hst} {a : Int} (ha : a < 0) : txAtH h a = none := by unfold txAtH; rw [if_neg (by omega)]
theorem txAt_big {h : Hst} {a : Int} (ha : (h.l.length : Int) ≤ a) : txAtH h a = none := by
 unfold txAtH
 split
 ·exact List.getElem?_eq_none (by omega)
 ·rfl
theorem txAt_yes {h : Hst} {i : Nat} {t : Tx} (hm : mayH h = true) (ht : h.l[i]? = some t) : txAtH h (i : Int) = some t := by
 unfold txAtH;rw [if_pos ⟨hm, by omega⟩]
 simpa using ht
theorem opAt_none {h : Hst} {a b : Int} (ht : txAtH h a = none) : opAtH h a b = none := by unfold opAtH; rw [ht]; rfl
theorem opAt_neg {h : Hst} {a b : Int} (hb : b < 0) : opAtH h a b = none := by
 unfold opAtH
 cases txAtH h a with
 | none => rfl
 | some t => simp only [Option.bind_some]; rw [if_neg (by omega)]
theorem opAt_big {h : Hst} {a b : Int} {t : Tx} (ht : txAtH h a = some t) (hb : (t.ops.length : Int) ≤ b) : opAtH h a b = none := by
 unfold opAtH;rw [ht];simp only [Option.bind_some]
 split
 ·rw [List.getElem?_eq_none (by omega)]; rfl
 ·rfl
theorem opAt_yes {h : Hst} {a : Int} {j : Nat} {t : Tx} {o : Op4} (ht : txAtH h a = some t) (ho : t.ops[j]? = some o) : opAtH h a (j : Int) = some (t, o) := by
 unfold opAtH;rw [ht];simp only [Option.bind_some];rw [if_pos (by omega)];simp [ho]
theorem own_none {h : Hst} {a b : Int} (ho : opAtH h a b = none) : ownO h a b = none := by unfold ownO; rw [ho]; rfl
theorem own_some {h : Hst} {a b : Int} {t : Tx} {o : Op4} (ho : opAtH h a b = some (t, o)) : ownO h a b = leftW o.key (t.ops.take b.toNat) := by unfold ownO; rw [ho]; rfl
open Go.RowKit
structure ExV (w w' : World) : Prop where
 only : Only [] w w'
 drawn : w.drawn ≤ w'.drawn
section
variable {w w' w'' : World}
theorem ExV.refl (w : World) : ExV w w := ⟨Only.refl [] w, Nat.le_refl _⟩
theorem ExV.trans (h : ExV w w') (k : ExV w' w'') : ExV w w'' := ⟨h.only.trans k.only, Nat.le_trans h.drawn k.drawn⟩
theorem ExV.alloc (h : ExV w w') (o : Obj) : ExV w (w'.alloc o) := ⟨h.only.alloc o, h.drawn⟩
theorem ExV.drewN (h : ExV w w') (n : Nat) : ExV w (w'.drewN n) := ⟨h.only.drewN n, Nat.le_trans h.drawn (by show w'.drawn ≤ w'.drawn + n; omega)⟩
theorem ExV.drew (h : ExV w w') : ExV w w'.drew := ⟨h.only.drew, Nat.le_trans h.drawn (by show w'.drawn ≤ w'.drawn + 1; omega)⟩
theorem ExV.put (h : ExV w w') {p : Addr} (hp : p.block < w.heap.size → p.block ∈ ([] : List Nat)) (u : Value) : ExV w (w'.setCell p u) := ⟨h.only.put hp u, h.drawn⟩
theorem ExV.blk {g : Nat} {t : TypeId} {cs : Array Value} (h : ExV w w') (hb : Blk w g t cs) (hg : g ∉ ([] : List Nat)) : Blk w' g t cs := h.only.blk hb hg
theorem ExV.size (h : ExV w w') : w.heap.size ≤ w'.heap.size := h.only.size
end
theorem ExV.grown {w w' : World} (h : ExV w w') : ∃ q os, w' = Go.Sort.grow (w.drewN q) os := by
 have hb : Below w.heap.size w w' := h.only.below (Nat.le_refl _) (by simp);refine ⟨w'.drawn - w.drawn, w'.heap.extract w.heap.size w'.heap.size, ?_⟩;have hd := h.drawn;obtain ⟨heap', tape', drawn', os', output'⟩ := w';have e1 : os' = w.os := hb.os;have e2 : tape' = w.tape := hb.tape;have e3 : output' = w.output := hb.output;have hs : w.heap.size ≤ heap'.size := hb.size;have hk' : ∀ k, k < w.heap.size → heap'[k]? = w.heap[k]? := hb.block;have hd' : w.drawn ≤ drawn' := hd;subst e1 e2 e3;have eh : heap' = w.heap ++ heap'.extract w.heap.size heap'.size := by
  apply Array.ext_getElem?
  intro k
  by_cases hk : k < w.heap.size
  ·rw [Array.getElem?_append_left hk]; exact hk' k hk
  ·rw [Array.getElem?_append_right (by omega), Array.getElem?_extract]
   by_cases hk2 : k < heap'.size
   ·rw [if_pos (by omega)]; congr 1; omega
   ·rw [if_neg (by omega), Array.getElem?_eq_none (by omega)]
 have ed : w.drawn + (drawn' - w.drawn) = drawn' := by omega
 simp only [Go.Sort.grow, World.drewN, ed]
 congr 1
def ifc (t n : Int) : Value :=
 if t = 0 then .nilIface else if t = 1 then .iface 2 (.int .i64 n) else if t = 2 then .iface 211 (.agg #[]) else if t = 3 then .iface 3 (.int .i64 n) else .iface 9 (.string ⟨#[120]⟩)
def bK (t : Int) : Int := if t = 1 then 1 else if t = 2 then 2 else 0
def bN (t n : Int) : Int := if t = 1 then n else 0
def bE (t : Int) : Int := if t = 0 ∨ t = 1 ∨ t = 2 then 0 else 15
theorem ta_i (n : Int) (w : World) : (Instr.typeAssert (.iface 2 (.int .i64 n)) 20 2 true).run Tryz.prog w = .ok (.tuple #[.int .i64 n, .bool true]) w := by kernel_rfl
theorem ta_il (v : Value) (w : World) : (Instr.typeAssert (.iface 211 v) 20 2 true).run Tryz.prog w = .ok (.tuple #[.int .i64 0, .bool false]) w := by kernel_rfl
theorem ta_ii (v : Value) (w : World) : (Instr.typeAssert (.iface 3 v) 20 2 true).run Tryz.prog w = .ok (.tuple #[.int .i64 0, .bool false]) w := by kernel_rfl
theorem ta_is (v : Value) (w : World) : (Instr.typeAssert (.iface 9 v) 20 2 true).run Tryz.prog w = .ok (.tuple #[.int .i64 0, .bool false]) w := by kernel_rfl
theorem ta_ll (w : World) : (Instr.typeAssert (.iface 211 (.agg #[])) 20 211 true).run Tryz.prog w = .ok (.tuple #[.agg #[], .bool true]) w := by kernel_rfl
theorem ta_li (v : Value) (w : World) : (Instr.typeAssert (.iface 3 v) 20 211 true).run Tryz.prog w = .ok (.tuple #[.agg #[], .bool false]) w := by kernel_rfl
theorem ta_ls (v : Value) (w : World) : (Instr.typeAssert (.iface 9 v) 20 211 true).run Tryz.prog w = .ok (.tuple #[.agg #[], .bool false]) w := by kernel_rfl
theorem back_0 (w : World) : Calls Tryz.prog 169 #[.nilIface] w fun e w' => e = .returned (.tuple #[.agg #[.int .i64 0, .int .i64 0], .int .i64 0]) ∧ ExV w w' := by
 go_enter Tryz.func169, Tryz.ntmps169;go_wp2
 exact bodyPost_ret (v := .tuple #[.agg #[.int .i64 0, .int .i64 0], .int .i64 0]) (by simp [results, Tryz.results169, go_sem]) rfl ⟨rfl, (ExV.refl _).alloc _⟩
theorem back_1 (n : Int) (w : World) : Calls Tryz.prog 169 #[.iface 2 (.int .i64 n)] w fun e w' => e = .returned (.tuple #[.agg #[.int .i64 1, .int .i64 n], .int .i64 0]) ∧ ExV w w' := by
 have h1 := ta_i n;go_enter Tryz.func169, Tryz.ntmps169;go_wp2
 exact bodyPost_ret (v := .tuple #[.agg #[.int .i64 1, .int .i64 n], .int .i64 0]) (by simp [results, Tryz.results169, go_sem]) rfl ⟨rfl, (ExV.refl _).alloc _⟩
theorem back_2 (w : World) : Calls Tryz.prog 169 #[.iface 211 (.agg #[])] w fun e w' => e = .returned (.tuple #[.agg #[.int .i64 2, .int .i64 0], .int .i64 0]) ∧ ExV w w' := by
 have h1 := ta_il (.agg #[]);have h2 := ta_ll;go_enter Tryz.func169, Tryz.ntmps169;go_wp2
 exact bodyPost_ret (v := .tuple #[.agg #[.int .i64 2, .int .i64 0], .int .i64 0]) (by simp [results, Tryz.results169, go_sem]) rfl ⟨rfl, ((ExV.refl _).alloc _).alloc _⟩
theorem back_3 (n : Int) (w : World) : Calls Tryz.prog 169 #[.iface 3 (.int .i64 n)] w fun e w' => e = .returned (.tuple #[.agg #[.int .i64 0, .int .i64 0], .int .i64 15]) ∧ ExV w w' := by
 have h1 := ta_ii (.int .i64 n);have h2 := ta_li (.int .i64 n);go_enter Tryz.func169, Tryz.ntmps169;go_wp2
 exact bodyPost_ret (v := .tuple #[.agg #[.int .i64 0, .int .i64 0], .int .i64 15]) (by simp [results, Tryz.results169, go_sem]) rfl ⟨rfl, (ExV.refl _).alloc _⟩
theorem back_4 (s : ByteArray) (w : World) : Calls Tryz.prog 169 #[.iface 9 (.string s)] w fun e w' => e = .returned (.tuple #[.agg #[.int .i64 0, .int .i64 0], .int .i64 15]) ∧ ExV w w' := by
 have h1 := ta_is (.string s);have h2 := ta_ls (.string s);go_enter Tryz.func169, Tryz.ntmps169;go_wp2
 exact bodyPost_ret (v := .tuple #[.agg #[.int .i64 0, .int .i64 0], .int .i64 15]) (by simp [results, Tryz.results169, go_sem]) rfl ⟨rfl, (ExV.refl _).alloc _⟩
theorem back_any (t n : Int) (w : World) : Calls Tryz.prog 169 #[ifc t n] w fun e w' => e = .returned (.tuple #[.agg #[.int .i64 (bK t), .int .i64 (bN t n)], .int .i64 (bE t)]) ∧ ExV w w' := by
 unfold ifc bK bN bE
 by_cases h0 : t = 0
 ·subst h0; exact back_0 w
 ·by_cases h1 : t = 1
  ·subst h1; exact back_1 n w
  ·by_cases h2 : t = 2
   ·subst h2; exact back_2 w
   ·by_cases h3 : t = 3
    ·subst h3; exact back_3 n w
    ·simp only [h0, h1, h2, h3, if_false, or_false]; exact back_4 _ w
theorem Back_any (t n : Int) (w : World) : Calls Tryz.prog 159 #[.agg #[ifc t n]] w fun e w' => e = .returned (.tuple #[.agg #[.int .i64 (bK t), .int .i64 (bN t n)], .int .i64 (bE t)]) ∧ ExV w w' := by
 have hc := fun w => back_any t n w;generalize ifc t n = v at *;generalize bK t = k at *;generalize bN t n = m at *;generalize bE t = x at *;have HC := Hd hc;clear hc;go_enter Tryz.func159, Tryz.ntmps159;go_wp2_with fail
 refine (HC.out _).mono ?_;rintro e w1 ⟨rfl, O1⟩;have hb : Blk w1 (w.heap.size + 1) 38 #[.int .i64 0, .int .i64 0] := by
  refine O1.blk ?_ (by simp);have := Blk.made (w.alloc (.cells #[v] 185)) 38 #[.int .i64 0, .int .i64 0]
  simpa using this
 have hlt := hb.lt;have c0 := hb.at_ 0;have c1 := hb.at_ 1;have f0 := hb.free 0;have f1 := hb.free 1;have HO := Hd O1;simp at c0 c1;clear hb O1;go_wp2
 exact bodyPost_ret (v := .tuple #[.agg #[.int .i64 k, .int .i64 m], .int .i64 x]) (by simp [results, Tryz.results159, go_sem, c0, c1]) rfl ⟨rfl, ((((ExV.refl _).alloc _).alloc _).trans HO.out).put (by simp) _ |>.put (by simp) _⟩
def oT (k : Int) : Int := if k = 1 then 1 else if k = 2 then 2 else 0
theorem Of_any (k n : Int) (w : World) : Calls Tryz.prog 138 #[.agg #[.int .i64 k, .int .i64 n]] w fun e w' => e = .returned (.agg #[ifc (oT k) n]) ∧ ExV w w' := by
 unfold oT ifc
 by_cases h1 : k = 1
 ·subst h1;go_enter Tryz.func138, Tryz.ntmps138;go_wp2
  exact bodyPost_ret (v := .agg #[.iface 2 (.int .i64 n)]) (by simp [results, Tryz.results138, go_sem]) rfl ⟨rfl, ((ExV.refl _).alloc _).alloc _⟩
 ·by_cases h2 : k = 2
  ·subst h2;go_enter Tryz.func138, Tryz.ntmps138;go_wp2
   exact bodyPost_ret (v := .agg #[.iface 211 (.agg #[])]) (by simp [results, Tryz.results138, go_sem]) rfl ⟨rfl, ((ExV.refl _).alloc _).alloc _⟩
  ·simp only [h1, h2, if_false, if_true];have h1' : (k == 1) = false := by simp [h1]
   have h2' : (k == 2) = false := by simp [h2]
   clear h1 h2;go_enter Tryz.func138, Tryz.ntmps138;go_wp2
   exact bodyPost_ret (v := .agg #[.nilIface]) (by simp [results, Tryz.results138, go_sem]) rfl ⟨rfl, ((ExV.refl _).alloc _).alloc _⟩
theorem rank_any (k : Int) (w : World) (h0 : 0 ≤ k) (h2 : k ≤ 2) : Calls Tryz.prog 160 #[.int .i64 k] w fun e w' => e = .returned (.int .i64 k) ∧ w = w' := by
 by_cases h : k = 0
 ·subst h;go_enter Tryz.func160, Tryz.ntmps160;go_wp2
  go_ret
  exact ⟨rfl, rfl⟩
 ·by_cases h1 : k = 1
  ·subst h1;go_enter Tryz.func160, Tryz.ntmps160;go_wp2
   go_ret
   exact ⟨rfl, rfl⟩
  ·obtain rfl : k = 2 := by omega
   go_enter Tryz.func160, Tryz.ntmps160;go_wp2
   go_ret
   exact ⟨rfl, rfl⟩
def lessBV (k m k' m' : Int) : Bool := if k = k' then decide (k = 1 ∧ m < m') else decide (k < k')
def cK (k : Int) : Int := if k = 1 then 1 else if k = 2 then 2 else 0
def cN (k n : Int) : Int := if k = 1 then n else 0
theorem made2 (w : World) (t : TypeId) (a b : Int) : Blk (w.alloc (.cells #[.int .i64 a, .int .i64 b] t)) w.heap.size t #[.int .i64 a, .int .i64 b] := Blk.made _ _ _
theorem ret_bool' {a b : Bool} (h : a = b) : Ending.returned (.bool a) = .returned (.bool b) := by rw [h]
theorem bKN_bd (t n : Int) : 0 ≤ bK t ∧ bK t ≤ 2 ∧ (bK t ≠ 1 → bN t n = 0) := by
 unfold bK bN
 by_cases h1 : t = 1
 ·simp [h1]
 ·by_cases h2 : t = 2 <;> simp [h1, h2]
theorem quiet_left {P : Program} {f : FuncId} {args : Array Value} {w : World} {n : Nat} {v : Value}
  (h : Calls P f args (w.drewN n) fun e w' => e = .returned v ∧ w.drewN n = w') : Calls P f args (w.drewN n) fun e w'' => e = .returned v ∧ ∃ m, w'' = w.drewN m :=
 h.mono fun _ _ ⟨he, hm⟩ => ⟨he, n, hm.symm⟩
theorem Less_any (t n t' n' : Int) (w : World) : Calls Tryz.prog 137 #[.agg #[ifc t n], .agg #[ifc t' n']] w fun e w' => e = .returned (.bool (decide (bE t = 0) && decide (bE t' = 0) && lessBV (bK t) (bN t n) (bK t') (bN t' n'))) ∧ ExV w w' := by
 have hc := fun w => Back_any t n w;have hd := fun w => Back_any t' n' w;obtain ⟨hk1, hk2, hm⟩ : 0 ≤ bK t ∧ bK t ≤ 2 ∧ (bK t ≠ 1 → bN t n = 0) := bKN_bd _ _;obtain ⟨hk1', hk2', hm'⟩ : 0 ≤ bK t' ∧ bK t' ≤ 2 ∧ (bK t' ≠ 1 → bN t' n' = 0) := bKN_bd _ _;have HM := Hd hm;have HM' := Hd hm';clear hm hm';generalize ifc t n = v at *;generalize bK t = k at *;generalize bN t n = m at *;generalize bE t = x at *;generalize ifc t' n' = v' at *;generalize bK t' = k' at *;generalize bN t' n' = m' at *;generalize bE t' = x' at *;have HC := Hd hc;have HD := Hd hd;clear hc hd;go_enter Tryz.func137, Tryz.ntmps137;go_wp2_with fail
 refine (HC.out _).mono ?_;rintro e w1 ⟨rfl, O1⟩;have b1 : Blk w1 (w.heap.size + 1) 185 #[v'] := by
  refine O1.blk ?_ (by simp);have := Blk.made (w.alloc (.cells #[v] 185)) 185 #[v']
  simpa using this
 have c1 := b1.at_ 0;have l1 := b1.lt;have HO := Hd (((ExV.refl w).alloc (.cells #[v] 185)).alloc (.cells #[v'] 185) |>.trans O1);simp at c1;clear b1 O1;go_wp2_with fail
 refine (HD.out _).mono ?_;rintro e w2 ⟨rfl, O2⟩;have b2 : Blk w2 w1.heap.size 38 #[.int .i64 k, .int .i64 m] := O2.blk (made2 _ _ _ _) (by simp);have HP := Hd (((HO.out.alloc (.cells #[.int .i64 k, .int .i64 m] 38))).trans O2);have l2 := b2.lt;have c20 := b2.at_ 0;have c21 := b2.at_ 1;simp at c20 c21;clear b2 O2 c1;have hr1 := fun w => rank_any k w hk1 hk2;have hr2 := fun w => rank_any k' w hk1' hk2';have HR1 := Hd hr1;have HR2 := Hd hr2;clear hr1 hr2
 by_cases hx : x = 0
 ·have hx' : (x != 0) = false := by simp [hx]
  have HX := Hd hx
  by_cases hy : x' = 0
  ·have hy' : (x' != 0) = false := by simp [hy]
   have HY := Hd hy;clear hx hy
   by_cases hk : k = k'
   ·subst hk;go_wp2
    go_ret
    refine ⟨ret_bool' ?_, HP.out.alloc _⟩;rw [HX.out, HY.out];unfold lessBV
    by_cases h1 : k = 1
    ·simp [h1]
    ·simp [h1, HM.out h1, HM'.out h1]
   ·have hk' : (k != k') = true := by simp [hk]
    have HK := Hd hk;clear hk;go_wp2_with fail
    go_quiet (first | (go_at_call_of 160 (Value.int .i64 k); exact quiet_left (HR1.out _)) | (go_at_call 160; exact quiet_left (HR2.out _)))
    go_wp2
    go_ret
    refine ⟨ret_bool' ?_, (HP.out.alloc _).drewN _⟩;rw [HX.out, HY.out];unfold lessBV;rw [if_neg HK.out];simp
  ·have hy' : (x' != 0) = true := by simp [hy]
   have HY := Hd hy;clear hx hy;go_wp2
   go_ret
   refine ⟨ret_bool' ?_, HP.out.alloc _⟩;simp [HX.out, HY.out]
 ·have hx' : (x != 0) = true := by simp [hx]
  have HX := Hd hx;clear hx;go_wp2
  go_ret
  refine ⟨ret_bool' ?_, HP.out.alloc _⟩;simp [HX.out]
theorem of_words (k n : Int) : bK (oT k) = cK k ∧ bN (oT k) n = cN k n ∧ bE (oT k) = 0 := by
 unfold oT bK cK bN cN bE
 by_cases h1 : k = 1
 ·simp [h1]
 ·by_cases h2 : k = 2 <;> simp [h1, h2]
theorem may_anyV (k n : Int) (w : World) : Calls Tryz.prog 94 #[.agg #[.int .i64 k, .int .i64 n]] w fun e w' => e = .returned (.bool (mayB k n)) ∧ ExV w w' := by
 unfold mayB
 by_cases h1 : k = 1
 ·subst h1;go_enter Tryz.func94, Tryz.ntmps94;go_wp2
  go_ret
  exact ⟨by simp, (ExV.refl _).alloc _⟩
 ·have h1' : (k == 1) = false := by simp [h1]
  have H1 := Hd h1;clear h1
  by_cases h0 : k = 0
  ·subst h0;go_enter Tryz.func94, Tryz.ntmps94;go_wp2
   go_ret
   exact ⟨ret_boolv (by simp; try (rw [Bool.eq_iff_iff]; simp)), (ExV.refl _).alloc _⟩
  ·have h0' : (k == 0) = false := by simp [h0]
   have H0 := Hd h0;clear h0
   by_cases h2 : k = 2
   ·subst h2;go_enter Tryz.func94, Tryz.ntmps94;go_wp2
    go_ret
    exact ⟨ret_boolv (by simp; try (rw [Bool.eq_iff_iff]; simp)), (ExV.refl _).alloc _⟩
   ·have h2' : (k == 2) = false := by simp [h2]
    have H2 := Hd h2;clear h2;go_enter Tryz.func94, Tryz.ntmps94;go_wp2
    go_ret
    exact ⟨ret_boolv (by simp [H0.out, H1.out, H2.out]), (ExV.refl _).alloc _⟩
theorem cless_of (k n k' n' : Int) (w : World) : Calls Tryz.prog 137 #[.agg #[ifc (oT k) n], .agg #[ifc (oT k') n']] w fun e w' => e = .returned (.bool (lessBV (cK k) (cN k n) (cK k') (cN k' n'))) ∧ ExV w w' := by
 have h := Less_any (oT k) n (oT k') n' w;obtain ⟨e1, e2, e3⟩ := of_words k n;obtain ⟨f1, f2, f3⟩ := of_words k' n';rw [e1, e2, e3, f1, f2, f3] at h
 simpa using h
def lessV (a b : Int × Int) : Bool := mayB a.1 a.2 && mayB b.1 b.2 && lessBV (cK a.1) (cN a.1 a.2) (cK b.1) (cN b.1 b.2)
def cmpV (a b : Int × Int) : Int := if lessV a b = true then -1 else if lessV b a = true then 1 else 0
theorem vless_ex (a b : Int × Int) (w : World) : Calls Tryz.prog 113 #[.agg #[.int .i64 a.1, .int .i64 a.2], .agg #[.int .i64 b.1, .int .i64 b.2]] w fun e w' => e = .returned (.bool (lessV a b)) ∧ ExV w w' := by
 obtain ⟨k, n⟩ := a;obtain ⟨k', n'⟩ := b;have hma := fun w => may_anyV k n w;have hmb := fun w => may_anyV k' n' w;have hoa := fun w => Of_any k n w;have hob := fun w => Of_any k' n' w;have hl := fun w => cless_of k n k' n' w;have hr : lessV (k, n) (k', n') = (mayB k n && mayB k' n' && lessBV (cK k) (cN k n) (cK k') (cN k' n')) := rfl;rw [hr];clear hr;dsimp only;generalize mayB k n = va at *;generalize mayB k' n' = vb at *;generalize lessBV (cK k) (cN k n) (cK k') (cN k' n') = lb at *;generalize ifc (oT k) n = ca at *;generalize ifc (oT k') n' = cb at *;have HMA := Hd hma;have HMB := Hd hmb;have HOA := Hd hoa;have HOB := Hd hob;have HL := Hd hl;clear hma hmb hoa hob hl;go_enter Tryz.func113, Tryz.ntmps113;go_wp2_with fail
 have bA := (made2 w 38 k n).alloc (.cells #[.int .i64 k', .int .i64 n'] 38);have bB := made2 (w.alloc (.cells #[.int .i64 k, .int .i64 n] 38)) 38 k' n';simp only [World.size_alloc] at bB;have HP := Hd (((ExV.refl w).alloc (.cells #[.int .i64 k, .int .i64 n] 38)).alloc (.cells #[.int .i64 k', .int .i64 n'] 38));generalize (w.alloc (.cells #[.int .i64 k, .int .i64 n] 38)).alloc (.cells #[.int .i64 k', .int .i64 n'] 38) = w1 at *;have lA := bA.lt;have lB := bB.lt;have a0 := bA.at_ 0;have a1 := bA.at_ 1;have b0 := bB.at_ 0;have b1 := bB.at_ 1;simp at a0 a1 b0 b1;clear bA bB
 cases va with
 | false =>
  refine rgo (F := [⟨[], [], fun w' => ExV w1 w'⟩]) (th1 ((ExV.refl w1).drew)) ?_;refine trd (i := 0) (v := ?_) 0 ?_ ?_;rotate_left
  ·(intro wq hSw; have hqa0 := (hSw.only.cell (p := ⟨w.heap.size, 0, none⟩) lA (by simp)).trans a0; have hqa1 := (hSw.only.cell (p := ⟨w.heap.size, 1, none⟩) lA (by simp)).trans a1; have hqb0 := (hSw.only.cell (p := ⟨w.heap.size + 1, 0, none⟩) lB (by simp)).trans b0; have hqb1 := (hSw.only.cell (p := ⟨w.heap.size + 1, 1, none⟩) lB (by simp)).trans b1; clear hSw; go_simp; try with_reducible rfl)
  (try simp only [tdz]);refine tst (i := 1) fun K hK => ?_;go_simp;refine (HMA.out _).mono ?_;rintro e wX1 ⟨rfl, OX1⟩;refine kOut hK (((ExV.refl w1).drew).trans OX1) (h := ?_);clear hK K;refine tQ 2 (h := tiq 3 (h := tiq 4 (h := tQ 5 (h := tQ 6 (h := tiq 7 (h := tiq 8 (h := tiq 9 (h := tiq 10 (h := tiq 11 (h := tQ 12 (h := tQ 13 (h := ?_))))))))))));refine tdn ?_;go_wp2
  go_ret
  exact ⟨rfl, HP.out.trans (((ExV.refl w1).drew).trans OX1)⟩
 | true =>
  cases vb with
  | false =>
   refine rgo (F := [⟨[], [], fun w' => ExV w1 w'⟩]) (th1 ((ExV.refl w1).drew)) ?_;refine trd (i := 0) (v := ?_) 0 ?_ ?_;rotate_left
   ·(intro wq hSw; have hqa0 := (hSw.only.cell (p := ⟨w.heap.size, 0, none⟩) lA (by simp)).trans a0; have hqa1 := (hSw.only.cell (p := ⟨w.heap.size, 1, none⟩) lA (by simp)).trans a1; have hqb0 := (hSw.only.cell (p := ⟨w.heap.size + 1, 0, none⟩) lB (by simp)).trans b0; have hqb1 := (hSw.only.cell (p := ⟨w.heap.size + 1, 1, none⟩) lB (by simp)).trans b1; clear hSw; go_simp; try with_reducible rfl)
   (try simp only [tdz]);refine tst (i := 1) fun K hK => ?_;go_simp;refine (HMA.out _).mono ?_;rintro e wX1 ⟨rfl, OX1⟩;refine kOut hK (((ExV.refl w1).drew).trans OX1) (h := ?_);clear hK K;refine tQ 2 (h := ?_);refine trd (i := 3) (v := ?_) 0 ?_ ?_;rotate_left
   ·(intro wq hSw; have hqa0 := (hSw.only.cell (p := ⟨w.heap.size, 0, none⟩) lA (by simp)).trans a0; have hqa1 := (hSw.only.cell (p := ⟨w.heap.size, 1, none⟩) lA (by simp)).trans a1; have hqb0 := (hSw.only.cell (p := ⟨w.heap.size + 1, 0, none⟩) lB (by simp)).trans b0; have hqb1 := (hSw.only.cell (p := ⟨w.heap.size + 1, 1, none⟩) lB (by simp)).trans b1; clear hSw; go_simp; try with_reducible rfl)
   (try simp only [tdz]);refine tst (i := 4) fun K hK => ?_;go_simp;refine (HMB.out _).mono ?_;rintro e wX2 ⟨rfl, OX2⟩;refine kOut hK ((((ExV.refl w1).drew).trans OX1).trans OX2) (h := ?_);clear hK K;refine tQ 5 (h := tQ 6 (h := tiq 7 (h := tiq 8 (h := tiq 9 (h := tiq 10 (h := tiq 11 (h := tQ 12 (h := tQ 13 (h := ?_)))))))));refine tdn ?_;go_wp2
   go_ret
   exact ⟨rfl, HP.out.trans ((((ExV.refl w1).drew).trans OX1).trans OX2)⟩
  | true =>
   refine rgo (F := [⟨[], [], fun w' => ExV w1 w'⟩]) (th1 ((ExV.refl w1).drew)) ?_;refine trd (i := 0) (v := ?_) 0 ?_ ?_;rotate_left
   ·(intro wq hSw; have hqa0 := (hSw.only.cell (p := ⟨w.heap.size, 0, none⟩) lA (by simp)).trans a0; have hqa1 := (hSw.only.cell (p := ⟨w.heap.size, 1, none⟩) lA (by simp)).trans a1; have hqb0 := (hSw.only.cell (p := ⟨w.heap.size + 1, 0, none⟩) lB (by simp)).trans b0; have hqb1 := (hSw.only.cell (p := ⟨w.heap.size + 1, 1, none⟩) lB (by simp)).trans b1; clear hSw; go_simp; try with_reducible rfl)
   (try simp only [tdz]);refine tst (i := 1) fun K hK => ?_;go_simp;refine (HMA.out _).mono ?_;rintro e wX1 ⟨rfl, OX1⟩;refine kOut hK (((ExV.refl w1).drew).trans OX1) (h := ?_);clear hK K;refine tQ 2 (h := ?_);refine trd (i := 3) (v := ?_) 0 ?_ ?_;rotate_left
   ·(intro wq hSw; have hqa0 := (hSw.only.cell (p := ⟨w.heap.size, 0, none⟩) lA (by simp)).trans a0; have hqa1 := (hSw.only.cell (p := ⟨w.heap.size, 1, none⟩) lA (by simp)).trans a1; have hqb0 := (hSw.only.cell (p := ⟨w.heap.size + 1, 0, none⟩) lB (by simp)).trans b0; have hqb1 := (hSw.only.cell (p := ⟨w.heap.size + 1, 1, none⟩) lB (by simp)).trans b1; clear hSw; go_simp; try with_reducible rfl)
   (try simp only [tdz]);refine tst (i := 4) fun K hK => ?_;go_simp;refine (HMB.out _).mono ?_;rintro e wX2 ⟨rfl, OX2⟩;refine kOut hK ((((ExV.refl w1).drew).trans OX1).trans OX2) (h := ?_);clear hK K;refine tQ 5 (h := tQ 6 (h := ?_));refine trd (i := 7) (v := ?_) 0 ?_ ?_;rotate_left
   ·(intro wq hSw; have hqa0 := (hSw.only.cell (p := ⟨w.heap.size, 0, none⟩) lA (by simp)).trans a0; have hqa1 := (hSw.only.cell (p := ⟨w.heap.size, 1, none⟩) lA (by simp)).trans a1; have hqb0 := (hSw.only.cell (p := ⟨w.heap.size + 1, 0, none⟩) lB (by simp)).trans b0; have hqb1 := (hSw.only.cell (p := ⟨w.heap.size + 1, 1, none⟩) lB (by simp)).trans b1; clear hSw; go_simp; try with_reducible rfl)
   (try simp only [tdz]);refine trd (i := 9) (v := ?_) 0 ?_ ?_;rotate_left
   ·(intro wq hSw; have hqa0 := (hSw.only.cell (p := ⟨w.heap.size, 0, none⟩) lA (by simp)).trans a0; have hqa1 := (hSw.only.cell (p := ⟨w.heap.size, 1, none⟩) lA (by simp)).trans a1; have hqb0 := (hSw.only.cell (p := ⟨w.heap.size + 1, 0, none⟩) lB (by simp)).trans b0; have hqb1 := (hSw.only.cell (p := ⟨w.heap.size + 1, 1, none⟩) lB (by simp)).trans b1; clear hSw; go_simp; try with_reducible rfl)
   (try simp only [tdz]);refine tst (i := 8) fun K hK => ?_;go_simp;refine (HOA.out _).mono ?_;rintro e wX3 ⟨rfl, OX3⟩;refine kOut hK (((((ExV.refl w1).drew).trans OX1).trans OX2).trans OX3) (h := ?_);clear hK K;refine tst (i := 10) fun K hK => ?_;go_simp;refine (HOB.out _).mono ?_;rintro e wX4 ⟨rfl, OX4⟩;refine kOut hK ((((((ExV.refl w1).drew).trans OX1).trans OX2).trans OX3).trans OX4) (h := ?_);clear hK K;refine tst (i := 11) fun K hK => ?_;go_simp;refine (HL.out _).mono ?_;rintro e wX5 ⟨rfl, OX5⟩;refine kOut hK (((((((ExV.refl w1).drew).trans OX1).trans OX2).trans OX3).trans OX4).trans OX5) (h := ?_);clear hK K;refine tQ 12 (h := tQ 13 (h := ?_));refine tdn ?_;go_wp2
   go_ret
   exact ⟨rfl, HP.out.trans (((((((ExV.refl w1).drew).trans OX1).trans OX2).trans OX3).trans OX4).trans OX5)⟩
theorem vcompare_ex (a b : Int × Int) (w : World) : Calls Tryz.prog 96 #[.agg #[.int .i64 a.1, .int .i64 a.2], .agg #[.int .i64 b.1, .int .i64 b.2]] w fun e w' => e = .returned (.int .i64 (cmpV a b)) ∧ ExV w w' := by
 have h1 := fun w => vless_ex a b w;have h2 := fun w => vless_ex b a w;unfold cmpV;generalize lessV a b = x at *;generalize lessV b a = y at *;obtain ⟨k, n⟩ := a;obtain ⟨k', n'⟩ := b;dsimp only at *;have H1 := Hd h1;have H2 := Hd h2;clear h1 h2;go_enter Tryz.func96, Tryz.ntmps96;go_wp2_with fail
 refine (H1.out _).mono ?_;rintro e w2 ⟨rfl, O2⟩;have bA := O2.blk ((made2 w 38 k n).alloc (.cells #[.int .i64 k', .int .i64 n'] 38)) (by simp);have bB := O2.blk (made2 (w.alloc (.cells #[.int .i64 k, .int .i64 n] 38)) 38 k' n') (by simp);simp only [World.size_alloc] at bB;have HP := Hd ((((ExV.refl w).alloc (.cells #[.int .i64 k, .int .i64 n] 38)).alloc (.cells #[.int .i64 k', .int .i64 n'] 38)).trans O2);have lA := bA.lt;have lB := bB.lt;have a0 := bA.at_ 0;have a1 := bA.at_ 1;have b0 := bB.at_ 0;have b1 := bB.at_ 1;simp at a0 a1 b0 b1;clear bA bB O2
 cases x with
 | true =>
  go_wp2
  go_ret
  exact ⟨rfl, HP.out⟩
 | false =>
  go_wp2_with fail
  refine (H2.out _).mono ?_;rintro e w3 ⟨rfl, O3⟩;have HQ := Hd (HP.out.trans O3);clear O3 a0 a1 b0 b1 lA lB
  cases y with
  | true =>
   go_wp2
   go_ret
   exact ⟨rfl, HQ.out⟩
  | false =>
   go_wp2
   go_ret
   exact ⟨rfl, HQ.out⟩
end Go.Proofs.YtjfbeeogiejopaaGreatDoor
