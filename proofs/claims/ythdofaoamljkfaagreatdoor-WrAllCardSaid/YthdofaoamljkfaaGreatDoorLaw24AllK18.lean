/- Parts. -/
import Derived.Test.YthdofaoamljkfaaGreatDoorLaw24AllK16
set_option maxRecDepth 10000
set_option maxHeartbeats 16000000
set_option linter.unusedVariables false
set_option linter.unusedSimpArgs false
namespace Go.Proofs.YthdofaoamljkfaaGreatDoor
open Go.RowKit
open Go.Lib hiding intOf
structure Rows2 (w : World) (base : Nat) (V : Value) (xs : List SlI) (C : List (List Int)) : Prop where
 row : w.ownsRow base 26 1 V xs.length (xs.map siC)
 ls : xs.map (fun x => x.l) = C
 own : ∀ x ∈ xs, w.ownsRow base 3 1 (siC x) x.l.length (x.l.map (Value.int .i64))
theorem Rows2.same {w w' : World} {base : Nat} {V : Value} {xs : List SlI} {C : List (List Int)} (h : Rows2 w base V xs C) (o : Only [] w w') : Rows2 w' base V xs C :=
 ⟨own_only h.row o (by simp), h.ls, fun x hx => own_only (h.own x hx) o (by simp)⟩
theorem Rows2.nil (w : World) (base : Nat) : Rows2 w base (.slice none 0 0) [] [] := ⟨World.ownsRow_nil _ _ _ _, rfl, fun x hx => by cases hx⟩
theorem Rows2.len {w : World} {base : Nat} {V : Value} {xs : List SlI} {C : List (List Int)} (h : Rows2 w base V xs C) : xs.length = C.length := by rw [← h.ls, List.length_map]
theorem Rows2.at_ {w : World} {base : Nat} {V : Value} {xs : List SlI} {C : List (List Int)} (h : Rows2 w base V xs C) {k : Nat} {c : List Int} (hk : C[k]? = some c) : ∃ A cp, xs[k]? = some ⟨c, A, cp⟩ ∧ w.ownsRow base 3 1 (.slice A c.length cp) c.length (c.map (Value.int .i64)) := by
 rw [← h.ls, List.getElem?_map] at hk
 cases hx : xs[k]? with
 | none => rw [hx] at hk; cases hk
 | some x =>
  rw [hx] at hk;obtain rfl : x.l = c := Option.some.inj hk;exact ⟨x.A, x.cp, rfl, h.own x (List.mem_of_getElem? hx)⟩
theorem Rows2.cell {w : World} {base : Nat} {A : Option Addr} {n cp : Nat} {xs : List SlI} {C : List (List Int)} (h : Rows2 w base (.slice A n cp) xs C) {k : Nat} {c : List Int} (hk : C[k]? = some c) :
  ∃ b off Ak ck, A = some ⟨b, off, none⟩ ∧ b < w.heap.size ∧ w.cell? ⟨b, off + k, none⟩ = some (.slice Ak c.length ck) ∧ w.ownsRow base 3 1 (.slice Ak c.length ck) c.length (c.map (Value.int .i64)) := by
 obtain ⟨Ak, ck, hx, ho⟩ := h.at_ hk;obtain ⟨A', c', e, -, -, -, hr⟩ := own_row h.row;injection e with e1 e2 e3;subst e1;have hkl := (List.getElem?_eq_some_iff.1 hx).1;obtain ⟨b, off, rfl, -, hb, hc⟩ := hr.open_ (k := k) (by rw [List.length_map]; exact hkl);exact ⟨b, off, Ak, ck, rfl, hb, by rw [hc k _ (by rw [List.getElem?_map, hx]; rfl)]; rfl, ho⟩
theorem Rows2.val {w : World} {base : Nat} {V : Value} {xs : List SlI} {C : List (List Int)} (h : Rows2 w base V xs C) : ∃ A cp, V = .slice A C.length cp := by
 obtain ⟨A, c, e, -⟩ := own_row h.row;exact ⟨A, c, by rw [e, h.len]⟩
theorem Rows2.max {w : World} {base : Nat} {V : Value} {xs : List SlI} {C : List (List Int)} (h : Rows2 w base V xs C) : C.length ≤ maxLen := by
 obtain ⟨A, c, e, h1, h2, -⟩ := own_row h.row;rw [← h.len];omega
theorem wrOf_few (h : Hst) (a b : Int) : (wrOf h a b).length ≤ h.l.length + 1 := by
 cases hr : readO h a b with
 | none => rw [wrOf_none hr]; simp
 | some x =>
  obtain ⟨t, o⟩ := x;rw [wrOf_some hr, List.length_append];have h1 := headW_le (o.vk, o.vn);have h2 := whoL_le a o.key (o.vk, o.vn) h.l;omega
theorem choL_few {h : Hst} {c : List Int} (hc : c ∈ choL h) : c.length ≤ h.l.length + 1 := by
 unfold choL at hc;obtain ⟨p, -, rfl⟩ := List.mem_map.1 hc;exact wrOf_few h p.1 p.2
def isMap (h : Hst) (m : List Int) : Bool := wholeB h && (decide (m.length = (choL h).length) && isI (choL h) m)
def emptyB (l : List Int) : Bool := decide (l.length = 0)
def firstR (h : Hst) : List Int × Int := if wholeB h = true then (if (choL h).any emptyB = true then ([], 3) else (headsL 0 (choL h), 0)) else ([], 4)
def nextR (h : Hst) (m : List Int) : Option (List Int) := if isMap h m = true then upL 0 (choL h) m else none
def cntR (h : Hst) : Nat := if wholeB h = true then cntM (choL h) else 0
theorem any_empty {c : List (List Int)} : c.any emptyB = true ↔ ∃ vs ∈ c, vs = [] := by
 rw [List.any_eq_true];unfold emptyB
 constructor
 ·rintro ⟨v, hv, h⟩; exact ⟨v, hv, List.eq_nil_of_length_eq_zero (by simpa using h)⟩
 ·rintro ⟨v, hv, h⟩; exact ⟨v, hv, by simp [h]⟩
theorem cntM_take {c : List (List Int)} {k : Nat} {l : List Int} (h : c[k]? = some l) : cntM (c.take (k + 1)) = min (cntM (c.take k) * l.length) 1000000 := by
 rw [List.take_add_one, h, Option.toList_some, cntM_snoc]
end Go.Proofs.YthdofaoamljkfaaGreatDoor
namespace Go.Proofs.YthdofaoamljkfaaGreatDoor
def idxO {α : Type} (q : α → Bool) (l : List α) : Int := match l.findIdx? q with | some i => (i : Int) | none => -1
theorem idxO_some {α : Type} {q : α → Bool} {l : List α} {k : Nat} {x : α} (hk : l[k]? = some x) (hq : q x = true) (hn : ∀ j y, j < k → l[j]? = some y → q y = false) : idxO q l = k := by
 unfold idxO;have : l.findIdx? q = some k := by
  rw [List.findIdx?_eq_some_iff_getElem];obtain ⟨h1, h2⟩ := List.getElem?_eq_some_iff.1 hk;refine ⟨h1, by rw [h2]; exact hq, fun j hj => ?_⟩;have := hn j _ hj (List.getElem?_eq_getElem (by omega))
  simpa using this
 rw [this]
theorem idxO_none {α : Type} {q : α → Bool} {l : List α} (hn : ∀ (j : Nat) y, l[j]? = some y → q y = false) : idxO q l = -1 := by
 unfold idxO;have : l.findIdx? q = none := by
  rw [List.findIdx?_eq_none_iff];intro y hy;obtain ⟨j, hj⟩ := List.mem_iff_getElem?.1 hy;exact hn j y hj
 rw [this]
theorem idxO_any {α : Type} (q : α → Bool) (l : List α) : decide (0 ≤ idxO q l) = l.any q := by
 unfold idxO
 cases h : l.findIdx? q with
 | none =>
  rw [List.findIdx?_eq_none_iff] at h;have : l.any q = false := by
   rw [List.any_eq_false];intro x hx;simp [h x hx]
  rw [this]
  rfl
 | some i =>
  rw [List.findIdx?_eq_some_iff_getElem] at h;obtain ⟨h1, h2, -⟩ := h;rw [List.any_eq_true.2 ⟨l[i], List.getElem_mem h1, h2⟩];simp
open Go.RowKit
open Go.Lib hiding intOf
attribute [local go_sem ↓] Go.wp_at_zero Go.wp_at_succ
def lostB (o : Op4) : Bool := decide (o.vk = 2)
def unkB (t : Tx) : Bool := decide (t.f = 3) || t.ops.any lostB
theorem unk_known (t : Tx) : knownT t = !unkB t := by
 unfold knownT unkB;rw [Bool.not_or]
 congr 1
 ·simp
 ·induction t.ops with
  | nil => rfl
  | cons o l ih => rw [List.all_cons, List.any_cons, ih, Bool.not_or]; congr 1; simp [lostB]
theorem whole_unk (h : Hst) : wholeB h = (mayH h && !h.l.any unkB) := by
 unfold wholeB
 congr 1
 induction h.l with
 | nil => rfl
 | cons t l ih => rw [List.all_cons, List.any_cons, ih, unk_known, Bool.not_or]
theorem lostone_any (o : Op4) (w : World) : Calls Tryz.prog 63 #[.agg #[.bool o.wr, .int .i64 o.key, .int .i64 o.vk, .int .i64 o.vn]] w fun e w' => e = .returned (.bool (lostB o)) ∧ Only [] w w' := by
 obtain ⟨yw, yk, yv, yn⟩ := o;unfold lostB;dsimp only;have HB : (yv == 2) = decide (yv = 2) := by by_cases h : yv = 2 <;> simp [h]
 have HO := Hd ((Only.refl [] w).alloc (.cells #[.bool yw, .int .i64 yk, .int .i64 yv, .int .i64 yn] 70));generalize decide (yv = 2) = r at *;go_enter Tryz.func63, Tryz.ntmps63;go_wp2
 go_ret
 exact ⟨by first | rfl | (rw [HB]; rfl) | (rw [← HB]; rfl), HO.out⟩
theorem lostIdx_any (A : Option Addr) (n c B : Nat) (ops : List Op4) (w : World) (hg : Row w B A (opC ops)) (hn : ops.length = n) (hM : n ≤ 1000) :
  Calls Tryz.prog 81 #[.slice A n c, .func (.func 63) #[] #[]] w fun e w' => e = .returned (.int .i64 (idxO lostB ops)) ∧ Only [] w w' := by
 have HG := Hd hg;have HN := Hd hn;clear hg hn;go_enter Tryz.func81, Tryz.ntmps81;go_wp2_with fail
 go_loopw [8] (fun iv wr => ∃ j : Nat, iv = .int .i64 j ∧ j ≤ n ∧ Hid (∀ j' y, j' < j → ops[j']? = some y → lostB y = false) ∧ Hid (Only [] w wr)) (fun iv _ => n - (intOf iv).toNat)
 case atStart => exact ⟨0, rfl, by omega, Hd (fun j y h => by omega), Hd (Only.refl _ _)⟩
 case round =>
  obtain ⟨j, rfl, hj, hno, hO⟩ := hrel;have hsz := hO.out.size
  by_cases hlt : j < n
  ·obtain ⟨y, hy⟩ : ∃ y, ops[j]? = some y := ⟨_, List.getElem?_eq_getElem (by rw [HN.out]; exact hlt)⟩;obtain ⟨b, off, rfl, -, hbw, hP⟩ := row_op HG.out hy;obtain ⟨p0, p1, p2, p3⟩ := hP.only hO.out hbw (by simp);have HH := Hd (lostone_any y wr);have HY := Hd hy;obtain ⟨yw, yk, yv, yn⟩ := y;dsimp only at p0 p1 p2 p3 HH;have h01 : (j : Int) < (n : Int) := by omega
   have hj0 : (0 : Int) ≤ (j : Int) := Int.natCast_nonneg _;have hwj : IntKind.i64.wrap ((j : Int) + 1) = (j : Int) + 1 := IntWalk.i64_in _ (by omega);have hbr : b < wr.heap.size := by omega
   clear hP hy
   cases hq : lostB ⟨yw, yk, yv, yn⟩ with
   | true =>
    have HI := Hd (idxO_some HY.out hq hno.out);rw [hq] at HH;clear hq;go_wp2_with fail
    refine (HH.out).mono ?_;rintro e w2 ⟨rfl, O2⟩;have HO2 := Hd (hO.out.trans O2);clear O2;go_wp2
    go_ret
    exact ⟨by rw [HI.out]; rfl, HO2.out⟩
   | false =>
    have HQ := Hd hq;rw [hq] at HH;clear hq;go_wp2_with fail
    refine (HH.out).mono ?_;rintro e w2 ⟨rfl, O2⟩;have HO2 := Hd (hO.out.trans O2);clear O2;go_wp2
    go_roundw
    case rel =>
     refine ⟨j + 1, by go_num, by omega, Hd (fun j' y' hj' hy' => ?_), HO2⟩
     by_cases h : j' < j
     ·exact hno.out j' y' h hy'
     ·obtain rfl : j' = j := by omega
      rw [HY.out] at hy';obtain rfl := Option.some.inj hy';exact HQ.out
    case measure => simp [intOf]; omega
  ·have hjn : j = n := by omega
   subst hjn;have hd : decide ((j : Int) < (j : Int)) = false := by simp
   have HI : Hid (idxO lostB ops = -1) := Hd (idxO_none fun j' y hy => hno.out j' y (by rw [← HN.out]; exact (List.getElem?_eq_some_iff.1 hy).1) hy);go_wp2
   go_ret
   exact ⟨by rw [HI.out]; rfl, hO.out⟩
theorem lostHas_any (A : Option Addr) (n c B : Nat) (ops : List Op4) (w : World) (hg : Row w B A (opC ops)) (hn : ops.length = n) (hM : n ≤ 1000) :
  Calls Tryz.prog 62 #[.slice A n c, .func (.func 63) #[] #[]] w fun e w' => e = .returned (.bool (ops.any lostB)) ∧ Only [] w w' := by
 have HI := Hd (lostIdx_any A n c B ops w hg hn hM);have HA := Hd (idxO_any lostB ops);clear hg hn;generalize idxO lostB ops = x at *;generalize ops.any lostB = r at *;go_enter Tryz.func62, Tryz.ntmps62;go_wp2_with fail
 refine (HI.out).mono ?_;rintro e w2 ⟨rfl, O2⟩;have HO2 := Hd O2;clear O2;go_wp2
 go_ret
 exact ⟨by rw [← HA.out]; rfl, HO2.out⟩
theorem unknown_any (s f : Int) (A : Option Addr) (m cp B : Nat) (ops : List Op4) (w : World) (hg : Row w B A (opC ops)) (hn : ops.length = m) (hM : m ≤ 1000) :
  Calls Tryz.prog 41 #[.agg #[.int .i64 s, .int .i64 f, .slice A m cp]] w fun e w' => e = .returned (.bool (unkB ⟨s, f, ops⟩)) ∧ Only [] w w' := by
 unfold unkB;dsimp only;have HO := Hd ((Only.refl [] w).alloc (.cells #[.int .i64 s, .int .i64 f, .slice A m cp] 47));have HCF := Hd (lostHas_any A m cp B ops _ (hg.only HO.out (by simp)) hn hM);generalize ops.any lostB = r at *;clear hg hn
 by_cases hf : f = 3
 ·subst hf;go_enter Tryz.func41, Tryz.ntmps41;go_wp2
  go_ret
  exact ⟨rfl, HO.out⟩
 ·have h1 : (f == 3) = false := by simpa using hf
  rw [decide_eq_false hf, Bool.false_or];go_enter Tryz.func41, Tryz.ntmps41;go_wp2_with fail
  refine (HCF.out).mono ?_;rintro e w2 ⟨rfl, O2⟩;have HO2 := Hd (HO.out.trans O2);clear O2;go_wp2
  go_ret
  exact ⟨rfl, HO2.out⟩
theorem unkIdx_any (A : Option Addr) (n c B : Nat) (l : List Tx) (w : World) (hg : LRow w B A l) (hn : l.length = n) (hM : n ≤ 1000) (hno : ∀ t ∈ l, t.ops.length ≤ 1000) :
  Calls Tryz.prog 61 #[.slice A n c, .func (.func 41) #[] #[]] w fun e w' => e = .returned (.int .i64 (idxO unkB l)) ∧ Only [] w w' := by
 have HG := Hd hg;have HN := Hd hn;have HNO := Hd hno;clear hg hn hno;go_enter Tryz.func61, Tryz.ntmps61;go_wp2_with fail
 go_loopw [8] (fun iv wr => ∃ j : Nat, iv = .int .i64 j ∧ j ≤ n ∧ Hid (∀ j' y, j' < j → l[j']? = some y → unkB y = false) ∧ Hid (Only [] w wr)) (fun iv _ => n - (intOf iv).toNat)
 case atStart => exact ⟨0, rfl, by omega, Hd (fun j y h => by omega), Hd (Only.refl _ _)⟩
 case round =>
  obtain ⟨j, rfl, hj, hno, hO⟩ := hrel;have hsz := hO.out.size
  by_cases hlt : j < n
  ·obtain ⟨y, hy⟩ : ∃ y, l[j]? = some y := ⟨_, List.getElem?_eq_getElem (by rw [HN.out]; exact hlt)⟩;obtain ⟨b, off, A', cp, rfl, -, hbw, hT, hOk⟩ := HG.out.at_ hy;obtain ⟨p0, p1, p2⟩ := hT.only hO.out hbw (by simp);have hm1 := HNO.out y (List.mem_of_getElem? hy);have HROW := Hd (hOk.row.only hO.out (by simp));have HY := Hd hy;obtain ⟨s, f, ops⟩ := y;dsimp only at p0 p1 p2 HROW hm1;have HH := Hd (unknown_any s f A' ops.length cp B ops wr HROW.out rfl hm1);generalize hmm : ops.length = m at *;have h01 : (j : Int) < (n : Int) := by omega
   have hj0 : (0 : Int) ≤ (j : Int) := Int.natCast_nonneg _;have hwj : IntKind.i64.wrap ((j : Int) + 1) = (j : Int) + 1 := IntWalk.i64_in _ (by omega);have hbr : b < wr.heap.size := by omega
   clear hT hOk hy
   cases hq : unkB ⟨s, f, ops⟩ with
   | true =>
    have HI := Hd (idxO_some HY.out hq hno.out);rw [hq] at HH;clear hq;go_wp2_with fail
    refine (HH.out).mono ?_;rintro e w2 ⟨rfl, O2⟩;have HO2 := Hd (hO.out.trans O2);clear O2;go_wp2
    go_ret
    exact ⟨by rw [HI.out]; rfl, HO2.out⟩
   | false =>
    have HQ := Hd hq;rw [hq] at HH;clear hq;go_wp2_with fail
    refine (HH.out).mono ?_;rintro e w2 ⟨rfl, O2⟩;have HO2 := Hd (hO.out.trans O2);clear O2;go_wp2
    go_roundw
    case rel =>
     refine ⟨j + 1, by go_num, by omega, Hd (fun j' y' hj' hy' => ?_), HO2⟩
     by_cases h : j' < j
     ·exact hno.out j' y' h hy'
     ·obtain rfl : j' = j := by omega
      rw [HY.out] at hy';obtain rfl := Option.some.inj hy';exact HQ.out
    case measure => simp [intOf]; omega
  ·have hjn : j = n := by omega
   subst hjn;have hd : decide ((j : Int) < (j : Int)) = false := by simp
   have HI : Hid (idxO unkB l = -1) := Hd (idxO_none fun j' y hy => hno.out j' y (by rw [← HN.out]; exact (List.getElem?_eq_some_iff.1 hy).1) hy);go_wp2
   go_ret
   exact ⟨by rw [HI.out]; rfl, hO.out⟩
theorem unkHas_any (A : Option Addr) (n c B : Nat) (l : List Tx) (w : World) (hg : LRow w B A l) (hn : l.length = n) (hM : n ≤ 1000) (hno : ∀ t ∈ l, t.ops.length ≤ 1000) :
  Calls Tryz.prog 40 #[.slice A n c, .func (.func 41) #[] #[]] w fun e w' => e = .returned (.bool (l.any unkB)) ∧ Only [] w w' := by
 have HI := Hd (unkIdx_any A n c B l w hg hn hM hno);have HA := Hd (idxO_any unkB l);clear hg hn;generalize idxO unkB l = x at *;generalize l.any unkB = r at *;go_enter Tryz.func40, Tryz.ntmps40;go_wp2_with fail
 refine (HI.out).mono ?_;rintro e w2 ⟨rfl, O2⟩;have HO2 := Hd O2;clear O2;go_wp2
 go_ret
 exact ⟨by rw [← HA.out]; rfl, HO2.out⟩
end Go.Proofs.YthdofaoamljkfaaGreatDoor
namespace Go.Proofs.YthdofaoamljkfaaGreatDoor

open Go.RowKit
theorem rmay_any (k n : Int) (w : World) : Calls Tryz.prog 72 #[.agg #[.int .i64 k, .int .i64 n]] w fun e w' => e = .returned (.bool (mayB k n)) ∧ Only [] w w' := by
 unfold mayB
 by_cases h1 : k = 1
 ·subst h1;go_enter Tryz.func72, Tryz.ntmps72;go_wp2
  go_ret
  exact ⟨by simp, (Only.refl _ _).alloc _⟩
 ·have h1' : (k == 1) = false := by simp [h1]
  have H1 := Hd h1;clear h1
  by_cases h0 : k = 0
  ·subst h0;go_enter Tryz.func72, Tryz.ntmps72;go_wp2
   go_ret
   exact ⟨ret_boolv (by simp; try (rw [Bool.eq_iff_iff]; simp)), (Only.refl _ _).alloc _⟩
  ·have h0' : (k == 0) = false := by simp [h0]
   have H0 := Hd h0;clear h0
   by_cases h2 : k = 2
   ·subst h2;go_enter Tryz.func72, Tryz.ntmps72;go_wp2
    go_ret
    exact ⟨ret_boolv (by simp; try (rw [Bool.eq_iff_iff]; simp)), (Only.refl _ _).alloc _⟩
   ·have h2' : (k == 2) = false := by simp [h2]
    have H2 := Hd h2;clear h2;go_enter Tryz.func72, Tryz.ntmps72;go_wp2
    go_ret
    exact ⟨ret_boolv (by simp [H0.out, H1.out, H2.out]), (Only.refl _ _).alloc _⟩
def markC (n : Nat) (l : List Int) : Array Value := ((List.range n).map fun i : Nat => Value.bool (decide ((i : Int) ∈ l))).toArray
theorem markC_size (n : Nat) (l : List Int) : (markC n l).size = n := by simp [markC]
theorem markC_at (n : Nat) (l : List Int) (i : Nat) (hi : i < n) : (markC n l)[i]? = some (.bool (decide ((i : Int) ∈ l))) := by simp [markC, hi]
theorem markC_snoc (n : Nat) (l : List Int) (i : Nat) (hi : i < n) : markC n (l ++ [(i : Int)]) = (markC n l).setIfInBounds i (.bool true) := by
 apply Array.ext_getElem?
 intro j
 by_cases hj : j < n
 ·rw [markC_at _ _ _ hj, Array.getElem?_setIfInBounds]
  by_cases hij : i = j
  ·subst hij;rw [if_pos rfl, if_pos (by rw [markC_size]; exact hi)];simp
  ·rw [if_neg hij, markC_at _ _ _ hj];have : (j : Int) ∈ l ++ [(i : Int)] ↔ (j : Int) ∈ l := by
    simp;omega
   simp [this]
 ·rw [Array.getElem?_eq_none (by rw [markC_size]; omega), Array.getElem?_eq_none (by simp [markC_size]; omega)]
theorem made_mark (n : Nat) : madeCells #[.bool false] n = markC n [] := by
 apply Array.ext_getElem?
 intro j
 by_cases hj : j < n <;> simp [madeCells, markC, Nat.mod_one, hj]
theorem info_bool : (Tryz.prog.info? 4).map (fun i => (i.zero, i.size, i.bytes)) = some (some (.bool false), 1, 1) := by kernel_rfl
open Go.Lib hiding intOf
attribute [local go_sem ↓] Go.wp_at_zero Go.wp_at_succ
def txOps (n0 n1 : Nat) (t : Tx) : Bool := txB n0 t && t.ops.all (opB n1)
theorem rops_any (A0 A1 A2 : Option Addr) (n0 n1 n2 c0 c1 c2 B : Nat) (s f : Int) (ops : List Op4) (A' : Option Addr) (m cp : Nat) (gu cu : Nat) (K0 : List Int) (w : World) (hrow : Row w B A' (opC ops)) (hm : ops.length = m) (hmm : m ≤ 1000) (hU : Blk w gu 4 (markC n1 K0)) (hB : B ≤ gu) (h40 : n1 ≤ 1000) :
  Calls Tryz.prog 48 #[hval A0 A1 A2 n0 n1 n2 c0 c1 c2, .agg #[.int .i64 s, .int .i64 f, .slice A' m cp], .slice (some ⟨gu, 0, none⟩) n1 cu] w fun e w' => e = .returned (.bool (txOps n0 n1 ⟨s, f, ops⟩)) ∧
   Only [gu] w w' ∧ (txOps n0 n1 ⟨s, f, ops⟩ = true → Blk w' gu 4 (markC n1 (K0 ++ ops.map Op4.key))) := by
 unfold hval;have HMAY := Hd (fun vk vn w' => rmay_any vk vn w');have HROW := Hd hrow;have HMM := Hd hm;have hgu := hU.lt;have W1 : Only [gu] w ((w.alloc (.cells #[.slice A0 n0 c0, .slice A1 n1 c1, .slice A2 n2 c2] 25)).alloc (.cells #[.int .i64 s, .int .i64 f, .slice A' m cp] 47)) := ((Only.refl _ w).alloc _).alloc _;have HO := Hd W1;have HBH := Hd ((Blk.made w 25 #[.slice A0 n0 c0, .slice A1 n1 c1, .slice A2 n2 c2]).alloc (.cells #[.int .i64 s, .int .i64 f, .slice A' m cp] 47));have HBT := Hd (Blk.made (w.alloc (.cells #[.slice A0 n0 c0, .slice A1 n1 c1, .slice A2 n2 c2] 25)) 47 #[.int .i64 s, .int .i64 f, .slice A' m cp]);have HU := Hd ((hU.alloc (.cells #[.slice A0 n0 c0, .slice A1 n1 c1, .slice A2 n2 c2] 25)).alloc (.cells #[.int .i64 s, .int .i64 f, .slice A' m cp] 47));rw [World.size_alloc] at HBT;obtain ⟨r, hr⟩ : ∃ r, r = txOps n0 n1 ⟨s, f, ops⟩ := ⟨_, rfl⟩;rw [← hr];have HR := Hd hr;clear hr hrow W1 hU hm;have hcase : (s < 0 ∧ txB n0 ⟨s, f, ops⟩ = false) ∨ (decide (s < 0) = false ∧ (n0 : Int) ≤ s ∧ txB n0 ⟨s, f, ops⟩ = false) ∨ (decide (s < 0) = false ∧ decide ((n0 : Int) ≤ s) = false ∧ f < 1 ∧ txB n0 ⟨s, f, ops⟩ = false) ∨
   (decide (s < 0) = false ∧ decide ((n0 : Int) ≤ s) = false ∧ decide (f < 1) = false ∧ 3 < f ∧ txB n0 ⟨s, f, ops⟩ = false) ∨
   (decide (s < 0) = false ∧ decide ((n0 : Int) ≤ s) = false ∧ decide (f < 1) = false ∧ decide (3 < f) = false ∧ decide ((20 : Int) < (m : Int)) = true ∧ txB n0 ⟨s, f, ops⟩ = false) ∨
   (decide (s < 0) = false ∧ decide ((n0 : Int) ≤ s) = false ∧ decide (f < 1) = false ∧ decide (3 < f) = false ∧ decide ((20 : Int) < (m : Int)) = false ∧ txB n0 ⟨s, f, ops⟩ = true) := by
  unfold txB fateB;dsimp only;rw [HMM.out]
  by_cases q1 : s < 0
  ·exact .inl ⟨q1, by rw [decide_eq_false (by omega)]; rfl⟩
  ·by_cases q2 : (n0 : Int) ≤ s
   ·exact .inr (.inl ⟨decide_eq_false q1, q2, by rw [decide_eq_false (by omega)]; rfl⟩)
   ·by_cases q3 : f < 1
    ·exact .inr (.inr (.inl ⟨decide_eq_false q1, decide_eq_false q2, q3, by rw [decide_eq_false (show ¬ (1 ≤ f ∧ f ≤ 3) by omega)]; simp⟩))
    ·by_cases q4 : 3 < f
     ·exact .inr (.inr (.inr (.inl ⟨decide_eq_false q1, decide_eq_false q2, decide_eq_false q3, q4, by rw [decide_eq_false (show ¬ (1 ≤ f ∧ f ≤ 3) by omega)]; simp⟩)))
     ·by_cases q5 : 20 < m
      ·exact .inr (.inr (.inr (.inr (.inl ⟨decide_eq_false q1, decide_eq_false q2, decide_eq_false q3, decide_eq_false q4, decide_eq_true (by omega), by rw [decide_eq_false (show ¬ m ≤ 20 by omega)]; simp⟩))))
      ·exact .inr (.inr (.inr (.inr (.inr ⟨decide_eq_false q1, decide_eq_false q2, decide_eq_false q3, decide_eq_false q4, decide_eq_false (by omega), by rw [decide_eq_true (show 0 ≤ s ∧ s < (n0 : Int) by omega), decide_eq_true (show 1 ≤ f ∧ f ≤ 3 by omega), decide_eq_true (show m ≤ 20 by omega)]; rfl⟩))))
 have bad : txB n0 ⟨s, f, ops⟩ = false → r = false := fun hb => by rw [HR.out]; unfold txOps; rw [hb]; rfl
 rcases hcase with ⟨q1, q⟩ | ⟨q1, q2, q⟩ | ⟨q1, q2, q3, q⟩ | ⟨q1, q2, q3, q4, q⟩ | ⟨q1, q2, q3, q4, q5, q⟩ | ⟨q1, q2, q3, q4, q5, q⟩
 ·obtain rfl := bad q;clear bad q;go_enter Tryz.func48, Tryz.ntmps48;go_wp2
  go_ret
  first | exact ⟨rfl, HO.out⟩ | exact ⟨rfl, HO.out, by simp⟩
 ·obtain rfl := bad q;clear bad q;go_enter Tryz.func48, Tryz.ntmps48;go_wp2
  go_ret
  first | exact ⟨rfl, HO.out⟩ | exact ⟨rfl, HO.out, by simp⟩
 ·obtain rfl := bad q;clear bad q;go_enter Tryz.func48, Tryz.ntmps48;go_wp2
  go_ret
  first | exact ⟨rfl, HO.out⟩ | exact ⟨rfl, HO.out, by simp⟩
 ·obtain rfl := bad q;clear bad q;go_enter Tryz.func48, Tryz.ntmps48;go_wp2
  go_ret
  first | exact ⟨rfl, HO.out⟩ | exact ⟨rfl, HO.out, by simp⟩
 ·obtain rfl := bad q;clear bad q;go_enter Tryz.func48, Tryz.ntmps48;go_wp2
  go_ret
  first | exact ⟨rfl, HO.out⟩ | exact ⟨rfl, HO.out, by simp⟩
 ·have HRR : Hid (r = ops.all (opB n1)) := Hd (by rw [HR.out]; unfold txOps; rw [q]; rfl);have HBADX : Hid (∀ (j : Nat) y, ops[j]? = some y → opB n1 y = false → r = false) := Hd (fun j y hj hb => by
   rw [HRR.out, List.all_eq_false];exact ⟨y, List.mem_of_getElem? hj, by rw [hb]; simp⟩)
  clear bad q HR;go_enter Tryz.func48, Tryz.ntmps48;go_wp2_with fail
  clear q1 q2 q3 q4 q5
  go_loopw [7] (fun iv wr => ∃ j : Nat, iv = .int .i64 j ∧ j ≤ m ∧ Hid ((ops.take j).all (opB n1) = true) ∧ Hid (Blk wr w.heap.size 25 #[.slice A0 n0 c0, .slice A1 n1 c1, .slice A2 n2 c2]) ∧ Hid (Blk wr (w.heap.size + 1) 47 #[.int .i64 s, .int .i64 f, .slice A' m cp]) ∧ Hid (Blk wr gu 4 (markC n1 (K0 ++ (ops.take j).map Op4.key))) ∧ Hid (Only [gu] w wr)) (fun iv _ => m - (intOf iv).toNat)
  case atStart => exact ⟨0, rfl, by omega, Hd (by simp), HBH, HBT, by simpa using HU, HO⟩
  case round =>
   obtain ⟨j, rfl, hj, hall, hBH, hBT, hU, hO⟩ := hrel;clear HBH HBT HU HO;have hsz2 := hO.out.size;have lT := hBT.out.lt;have t2 := hBT.out.at_ 2;simp at t2
   by_cases hlt2 : j < m
   ·obtain ⟨y, hy⟩ : ∃ y, ops[j]? = some y := ⟨_, List.getElem?_eq_getElem (by rw [HMM.out]; exact hlt2)⟩;obtain ⟨b', off', rfl, hbB, hbw', hP⟩ := row_op HROW.out hy;obtain ⟨p0, p1, p2, p3⟩ := hP.only hO.out hbw' (by simp; omega);have HALN : Hid (opB n1 y = true → (ops.take (j + 1)).all (opB n1) = true) := Hd (fun h => takeTx_all hall.out hy h);have HBAD : Hid (opB n1 y = false → r = false) := Hd (HBADX.out j y hy);have HTK : Hid ((ops.take (j + 1)).map Op4.key = (ops.take j).map Op4.key ++ [y.key]) := Hd (by rw [List.take_add_one, hy]; simp);obtain ⟨yw, yk, yv, yn⟩ := y;dsimp only at p0 p1 p2 p3 HTK;have h01 : (j : Int) < (m : Int) := by omega
    have hj0 : (0 : Int) ≤ (j : Int) := Int.natCast_nonneg _;have hwj : IntKind.i64.wrap ((j : Int) + 1) = (j : Int) + 1 := IntWalk.i64_in _ (by omega);have hbr' : b' < wr.heap.size := by omega
    clear hP hy hall;go_upto_region 7 with (fail)
    have O2 : Only [] wr (wr.alloc (.cells #[.bool yw, .int .i64 yk, .int .i64 yv, .int .i64 yn] 70)) := (Only.refl [] wr).alloc _;have bO := Blk.made wr 70 #[.bool yw, .int .i64 yk, .int .i64 yv, .int .i64 yn];have HB2 := Hd (O2.blk hBH.out (by simp));have HT2 := Hd (O2.blk hBT.out (by simp));have HU2 := Hd (O2.blk hU.out (by simp));have HO2 := Hd (hO.out.trans (O2.wide (fun _ h => by cases h)));clear p0 p1 p2 p3 O2 hBH hBT hU hO lT t2;generalize (wr.alloc (.cells #[.bool yw, .int .i64 yk, .int .i64 yv, .int .i64 yn] 70)) = w2' at *;generalize wr.heap.size = go at *;have HBO := Hd bO;have lO := bO.lt;have o0 := bO.at_ 0;have o1 := bO.at_ 1;have o2 := bO.at_ 2;have o3 := bO.at_ 3;have lB := HB2.out.lt;have b1 := HB2.out.at_ 1;simp at o0 o1 o2 o3 b1;clear bO;have hcase : (yk < 0 ∧ opB n1 ⟨yw, yk, yv, yn⟩ = false) ∨ (decide (yk < 0) = false ∧ (n1 : Int) ≤ yk ∧ opB n1 ⟨yw, yk, yv, yn⟩ = false) ∨ ∃ i : Nat, yk = (i : Int) ∧ i < n1 ∧ opB n1 ⟨yw, yk, yv, yn⟩ = (mayB yv yn && (!yw || decide (yv = 1))) := by
     unfold opB;dsimp only
     by_cases q1 : yk < 0
     ·exact .inl ⟨q1, by rw [decide_eq_false (by omega)]; rfl⟩
     ·by_cases q2 : (n1 : Int) ≤ yk
      ·exact .inr (.inl ⟨decide_eq_false q1, q2, by rw [decide_eq_false (by omega)]; rfl⟩)
      ·exact .inr (.inr ⟨yk.toNat, by omega, by omega, by rw [decide_eq_true (show 0 ≤ yk ∧ yk < (n1 : Int) by omega)]; rfl⟩)
    rcases hcase with ⟨q1, q⟩ | ⟨q1, q2, q⟩ | ⟨i, rfl, hi, q⟩
    ·obtain rfl := HBAD.out q;clear q;go_wp2
     go_ret
     first | exact ⟨rfl, HO2.out⟩ | exact ⟨rfl, HO2.out, by simp⟩
    ·obtain rfl := HBAD.out q;clear q;go_wp2
     go_ret
     first | exact ⟨rfl, HO2.out⟩ | exact ⟨rfl, HO2.out, by simp⟩
    ·have HF := Hd (HMAY.out yv yn w2');have q1 : decide ((i : Int) < 0) = false := by simp
     have q2 : decide ((n1 : Int) ≤ (i : Int)) = false := by simp; omega
     have q5 : (0 : Int) ≤ (i : Int) := by omega
     have q6 : (i : Int) < (n1 : Int) := by omega
     cases hmy : mayB yv yn with
     | false =>
      rw [hmy] at HF q;obtain rfl := HBAD.out q;clear q hmy;go_wp2_with fail
      refine (HF.out).mono ?_;rintro e w3 ⟨rfl, O3⟩;have HO3 := Hd (HO2.out.trans (O3.wide (fun _ h => by cases h)));clear O3;go_wp2
      go_ret
      first | exact ⟨rfl, HO3.out⟩ | exact ⟨rfl, HO3.out, by simp⟩
     | true =>
      rw [hmy] at HF q;have HCS := Hd (markC_snoc n1 (K0 ++ (ops.take j).map Op4.key) i (by omega));have HCA := Hd (markC_at n1 (K0 ++ (ops.take j).map Op4.key) i (by omega));generalize decide ((i : Int) ∈ K0 ++ (ops.take j).map Op4.key) = ci at *;clear hmy;have good : Hid ((ops.take (j + 1)).all (opB n1) = true) → ∀ w3, Only [] w2' w3 → Hid (Blk (w3.setCell ⟨gu, i, none⟩ (.bool true)) gu 4 (markC n1 (K0 ++ (ops.take (j + 1)).map Op4.key))) ∧ Hid (Only [gu] w (w3.setCell ⟨gu, i, none⟩ (.bool true))) ∧
        Hid (Blk (w3.setCell ⟨gu, i, none⟩ (.bool true)) w.heap.size 25 #[.slice A0 n0 c0, .slice A1 n1 c1, .slice A2 n2 c2]) ∧ Hid (Blk (w3.setCell ⟨gu, i, none⟩ (.bool true)) (w.heap.size + 1) 47 #[.int .i64 s, .int .i64 f, .slice (some ⟨b', off', none⟩) m cp]) := fun _ w3 O3 => by
       refine ⟨Hd ?_, Hd ((HO2.out.trans (O3.wide (fun _ h => by cases h))).put (fun _ => by simp) _), Hd ((O3.blk HB2.out (by simp)).far (by simp only; omega) _), Hd ((O3.blk HT2.out (by simp)).far (by simp only; omega) _)⟩;rw [HTK.out, ← List.append_assoc, HCS.out];exact (O3.blk HU2.out (by simp)).put i _
      have HGOOD := Hd good;clear good
      cases yw with
      | true =>
       by_cases hv1 : yv = 1
       ·subst hv1;have HQ := Hd (HALN.out (by rw [q]; rfl));clear q;go_wp2_with fail
        refine (HF.out).mono ?_;rintro e w3 ⟨rfl, O3⟩;have HP := HGOOD.out HQ w3 O3;have bO3 := O3.blk HBO.out (by simp);have bU3 := O3.blk HU2.out (by simp);clear O3 lO o0 o1 o2 o3 lB b1;have lO := bO3.lt;have o0 := bO3.at_ 0;have o1 := bO3.at_ 1;have o2 := bO3.at_ 2;have lU := bU3.lt;have uj := (bU3.at_ i).trans HCA.out;have gj := bU3.free i;simp at o0 o1 o2;clear bO3 bU3;go_wp2
        go_roundw
        case rel => exact ⟨j + 1, by go_num, by omega, HQ, HP.2.2.1, HP.2.2.2, HP.1, HP.2.1⟩
        case measure => simp [intOf]; omega
       ·have hv1' : (yv == 1) = false := by simpa using hv1
        have hv1n : (yv != 1) = true := by simpa using hv1
        obtain rfl := HBAD.out (by rw [q, decide_eq_false hv1]; rfl);clear q hv1;go_wp2_with fail
        refine (HF.out).mono ?_;rintro e w3 ⟨rfl, O3⟩;have HO3 := Hd (HO2.out.trans (O3.wide (fun _ h => by cases h)));have bO3 := O3.blk HBO.out (by simp);clear O3 lO o0 o1 o2 o3 lB b1;have lO := bO3.lt;have o0 := bO3.at_ 0;have o2 := bO3.at_ 2;simp at o0 o2;clear bO3;go_wp2
        go_ret
        first | exact ⟨rfl, HO3.out⟩ | exact ⟨rfl, HO3.out, by simp⟩
      | false =>
       have HQ := Hd (HALN.out (by rw [q]; rfl));clear q;go_wp2_with fail
       refine (HF.out).mono ?_;rintro e w3 ⟨rfl, O3⟩;have HP := HGOOD.out HQ w3 O3;have bO3 := O3.blk HBO.out (by simp);have bU3 := O3.blk HU2.out (by simp);clear O3 lO o0 o1 o2 o3 lB b1;have lO := bO3.lt;have o0 := bO3.at_ 0;have o1 := bO3.at_ 1;have lU := bU3.lt;have uj := (bU3.at_ i).trans HCA.out;have gj := bU3.free i;simp at o0 o1;clear bO3 bU3;go_wp2
       go_roundw
       case rel => exact ⟨j + 1, by go_num, by omega, HQ, HP.2.2.1, HP.2.2.2, HP.1, HP.2.1⟩
       case measure => simp [intOf]; omega
   ·have hjm : j = m := by omega
    subst hjm;have hd2 : decide ((j : Int) < (j : Int)) = false := by simp
    have ht : ops.take j = ops := List.take_of_length_le (by rw [HMM.out]; exact Nat.le_refl _);have hA := hall.out;have hUU := hU.out;rw [ht] at hA hUU;obtain rfl : r = true := by rw [HRR.out, hA]
    have HUU := Hd hUU;clear hall hU hA hUU ht;go_wp2
    go_ret
    first | exact ⟨rfl, hO.out, HUU.out⟩ | exact ⟨rfl, hO.out, fun _ => HUU.out⟩
end Go.Proofs.YthdofaoamljkfaaGreatDoor
