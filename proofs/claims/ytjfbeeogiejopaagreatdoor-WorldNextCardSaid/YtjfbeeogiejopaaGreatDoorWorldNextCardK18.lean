/- Parts. -/
import Derived.Test.YtjfbeeogiejopaaGreatDoorWorldNextCardK17
import Derived.Deep.Cut
set_option maxRecDepth 10000
set_option maxHeartbeats 16000000
set_option linter.unusedVariables false
set_option linter.unusedSimpArgs false
namespace Go.Proofs.YtjfbeeogiejopaaGreatDoor
open Go.RowKit
open Go.Lib hiding intOf
theorem few_first (A0 A1 A2 : Option Addr) (c0 c1 c2 : Nat) (h : Hst) (w : World) (hg : HAt w w.heap.size A0 A1 A2 h) (hm0 : h.ss.length ≤ maxLen) (hm1 : h.ks.length ≤ maxLen) (hm2 : h.l.length ≤ maxLen)
  (hz0 : ∀ z ∈ h.ss, z.size ≤ maxLen) (hz1 : ∀ z ∈ h.ks, z.size ≤ maxLen) (hT : UTabs w) :
  Calls Tryz.prog 9 #[.agg #[.slice A0 h.ss.length c0, .slice A1 h.ks.length c1, .slice A2 h.l.length c2]] w fun e w' => ∃ A0' A1' A2' c0' c1' c2', (e = .returned (.agg #[.slice A0' (fewH h).ss.length c0', .slice A1' (fewH h).ks.length c1', .slice A2' (fewH h).l.length c2']) ∧ HIn w' w'.heap.size A0' A1' A2' (fewH h).ss.length (fewH h).ks.length (fewH h).l.length (fewH h)) ∧ Only [] w w' := by
 unfold maxLen at *;refine (few11_any A0 A1 A2 _ _ _ c0 c1 c2 w.heap.size h w hg rfl rfl rfl (by omega) (by omega) (by omega) (fun z hz => by have := hz0 z hz; omega) (fun z hz => by have := hz1 z hz; omega)).mono ?_;rintro e w' ⟨A0', A1', A2', c0', c1', c2', ⟨rfl, hA⟩, O⟩;exact ⟨A0', A1', A2', c0', c1', c2', ⟨rfl, ⟨hA, rfl, rfl, rfl, few_small h, hT.only O⟩⟩, O⟩
theorem few_in (A0 A1 A2 : Option Addr) (n0 n1 n2 c0 c1 c2 B : Nat) (h : Hst) (w : World) (hg : HIn w B A0 A1 A2 n0 n1 n2 h) (hf : fewH h = h) :
  Calls Tryz.prog 9 #[.agg #[.slice A0 n0 c0, .slice A1 n1 c1, .slice A2 n2 c2]] w fun e w' => ∃ A0' A1' A2' c0' c1' c2', (e = .returned (.agg #[.slice A0' n0 c0', .slice A1' n1 c1', .slice A2' n2 c2']) ∧ HIn w' w'.heap.size A0' A1' A2' n0 n1 n2 h) ∧ Only [] w w' := by
 have a0 := hg.sm.ns;have a1 := hg.sm.nk;have a2 := hg.sm.nl;have e0 := hg.n0;have e1 := hg.n1;have e2 := hg.n2;refine (few11_any A0 A1 A2 n0 n1 n2 c0 c1 c2 B h w hg.at_ e0 e1 e2 (by omega) (by omega) (by omega) (fun z hz => by have := hg.sm.s z hz; omega) (fun z hz => by have := hg.sm.k z hz; omega)).mono ?_;rintro e w' ⟨A0', A1', A2', c0', c1', c2', ⟨rfl, hA⟩, O⟩;rw [hf] at hA;refine ⟨A0', A1', A2', c0', c1', c2', ⟨?_, ⟨hA, e0, e1, e2, hg.sm, hg.u.only O⟩⟩, O⟩;unfold hval;rw [hf, e0, e1, e2]
theorem row_past {w w' : World} {B : Nat} {A : Option Addr} {xs : List Value} {g : Nat} {t : TypeId} {cs : Array Value} (h : Row w B A xs) (hb : Blk w g t cs) (hne : ∀ u : Value, xs[0]? = some u → ∀ j : Nat, cs[j]? ≠ some u) (ho : Only [g] w w') : Row w' w'.heap.size A xs := by
 rcases h with rfl | ⟨b, off, rfl, h1, h2, hc⟩
 ·exact .inl rfl
 ·cases xs with
  | nil => exact .inl rfl
  | cons u xs =>
   have h0 := hc 0 u rfl;have hbg : b ≠ g := fun e => by
    subst e;rw [hb.at_] at h0;exact hne u rfl _ h0
   have := ho.size;exact .inr ⟨b, off, rfl, by omega, by omega, fun j v hv => (ho.cell (p := ⟨b, off + j, none⟩) (by show b < _; omega) (by simp [hbg])).trans (hc j v hv)⟩
theorem HIn.past {w w' : World} {B : Nat} {A0 A1 A2 : Option Addr} {n0 n1 n2 : Nat} {h : Hst} {g : Nat} {t : TypeId} {a0 a1 a2 : Option Addr} {k0 k1 k2 e0 e1 e2 : Nat} (hI : HIn w B A0 A1 A2 n0 n1 n2 h) (hb : Blk w g t #[.slice a0 k0 e0, .slice a1 k1 e1, .slice a2 k2 e2]) (ho : Only [g] w w') (hU : UTabs w') :
  HIn w' w'.heap.size A0 A1 A2 n0 n1 n2 h := by
 have key : ∀ (u : Value), (∀ a n c, u ≠ .slice a n c) → ∀ j : Nat, (#[Value.slice a0 k0 e0, .slice a1 k1 e1, .slice a2 k2 e2] : Array Value)[j]? ≠ some u := by
  intro u hu j hj
  match j with
  | 0 => simp at hj; exact hu _ _ _ hj.symm
  | 1 => simp at hj; exact hu _ _ _ hj.symm
  | 2 => simp at hj; exact hu _ _ _ hj.symm
  | j + 3 => simp at hj
 obtain ⟨⟨r0, r1, ⟨xs, hx, r2, hxs⟩⟩, q0, q1, q2, q3, -⟩ := hI;have ks : ∀ l : List ByteArray, ∀ u : Value, (strs l)[0]? = some u → ∀ a n c, u ≠ .slice a n c := by
  intro l u hu a n c e;subst e
  cases l <;> simp [strs] at hu
 refine ⟨⟨row_past r0 hb (fun u hu => key u (ks _ u hu)) ho, row_past r1 hb (fun u hu => key u (ks _ u hu)) ho, ⟨xs, hx, row_past r2 hb (fun u hu => key u ?_) ho, fun x hx => ⟨row_past (hxs x hx).row hb (fun u hu => key u ?_) ho, (hxs x hx).le, (hxs x hx).cap⟩⟩⟩, q0, q1, q2, q3, hU⟩
 ·intro a n c e;subst e
  cases xs <;> simp [txC, TxA.c] at hu
 ·intro a n c e;subst e
  cases hxo : x.t.ops with
  | nil => rw [hxo] at hu; simp [opC] at hu
  | cons y l => rw [hxo] at hu; simp [opC, Op4.c] at hu
end Go.Proofs.YtjfbeeogiejopaaGreatDoor
namespace Go.Proofs.YtjfbeeogiejopaaGreatDoor
open Go.RowKit

open Go.Lib hiding intOf
attribute [local go_sem ↓] Go.wp_at_zero Go.wp_at_succ

end Go.Proofs.YtjfbeeogiejopaaGreatDoor
namespace Go.Proofs.YtjfbeeogiejopaaGreatDoor
theorem zipIdx_get {α : Type} {l : List α} {k : Nat} {y : α × Nat} : l.zipIdx[k]? = some y ↔ ∃ x, l[k]? = some x ∧ y = (x, k) := by
 rw [List.getElem?_zipIdx]
 cases l[k]? with
 | none => simp
 | some x => simp [eq_comm]
theorem leftL_mem {a key : Int} {v : V2} {l : List Tx} (h : v ∈ leftL a key l) : ∃ (k : Nat) (t : Tx), l[k]? = some t ∧ forT a key k t = some v := by
 unfold leftL at h;obtain ⟨x, hx, hv⟩ := List.mem_filterMap.1 h;obtain ⟨k, hk⟩ := List.mem_iff_getElem?.1 hx;obtain ⟨t, ht, rfl⟩ := zipIdx_get.1 hk;exact ⟨k, t, ht, hv⟩
theorem sortV_le (l : List (Int × Int)) : (sortV l).length ≤ l.length :=
 nodup_len _ _ ((List.nodup_iff_pairwise_ne.2 ((sortV_vals l).1.1.imp (fun {a b} hab e => by rw [e, lessV_irr] at hab; cases hab)))) (fun x hx => (((sortV_vals l).2 x).1 hx).1)
structure Wld where
 c : List Bool
 l : List V2

/-! ### Which transactions are asked for, by rank -/
theorem which_upto {p : Tx → Bool} {l : List Tx} : ∀ k, k ≤ l.length → ∀ (q : Nat) (z : Int), (whichL p (l.take k))[q]? = some z → ∃ (i : Nat) (t : Tx), z = (i : Int) ∧ i < k ∧ l[i]? = some t ∧ p t = true ∧ (whichL p (l.take i)).length = q := by
 intro k
 induction k with
 | zero => intro _ q z h; simp [whichL] at h
 | succ k ih =>
  intro hk q z h;obtain ⟨t, ht⟩ : ∃ t, l[k]? = some t := ⟨_, List.getElem?_eq_getElem (by omega)⟩;rw [which_take ht] at h
  by_cases hq : q < (whichL p (l.take k)).length
  ·rw [List.getElem?_append_left hq] at h;obtain ⟨i, t', h1, h2, h3⟩ := ih (by omega) q z h;exact ⟨i, t', h1, by omega, h3⟩
  ·rw [List.getElem?_append_right (by omega)] at h
   by_cases hp : p t = true
   ·rw [if_pos hp] at h;have h0 : q - (whichL p (l.take k)).length = 0 := by
     cases hd : q - (whichL p (l.take k)).length with
     | zero => rfl
     | succ d => rw [hd] at h; simp at h
    rw [h0] at h;simp at h;exact ⟨k, t, h.symm, by omega, ht, hp, by omega⟩
   ·rw [if_neg hp] at h;simp at h
theorem which_get {p : Tx → Bool} {l : List Tx} {q : Nat} {z : Int} (h : (whichL p l)[q]? = some z) : ∃ (i : Nat) (t : Tx), z = (i : Int) ∧ l[i]? = some t ∧ p t = true ∧ (whichL p (l.take i)).length = q := by
 rw [← List.take_length (l := l)] at h;obtain ⟨i, t, h1, -, h2⟩ := which_upto _ (Nat.le_refl _) q z h;exact ⟨i, t, h1, h2⟩
theorem which_mono (p : Tx → Bool) (l : List Tx) (i : Nat) : ∀ d, (whichL p (l.take i)).length ≤ (whichL p (l.take (i + d))).length
 | 0 => Nat.le_refl _
 | d + 1 => by
  refine Nat.le_trans (which_mono p l i d) ?_
  cases h : l[i + d]? with
  | none =>
   have := List.getElem?_eq_none_iff.1 h;rw [List.take_of_length_le (by omega), List.take_of_length_le (by omega)];exact Nat.le_refl _
  | some t =>
   rw [← Nat.add_assoc, which_take h, List.length_append];omega
theorem which_rank {p : Tx → Bool} {l : List Tx} {i j : Nat} {t : Tx} (h : l[i]? = some t) (hp : p t = true) (hij : i < j) : (whichL p (l.take i)).length < (whichL p (l.take j)).length := by
 have h1 := which_mono p l (i + 1) (j - (i + 1));rw [show i + 1 + (j - (i + 1)) = j by omega, which_take h, if_pos hp, List.length_append] at h1;simp at h1;omega
theorem which_rank_lt {p : Tx → Bool} {l : List Tx} {i : Nat} {t : Tx} (h : l[i]? = some t) (hp : p t = true) : (whichL p (l.take i)).length < (whichL p l).length := by
 have := which_rank h hp (List.getElem?_eq_some_iff.1 h).1
 rwa [List.take_length] at this

/-! ### Who committed -/
def infoB (t : Tx) : Bool := decide (t.f = 3)
def rankL (l : List Tx) (i : Nat) : Nat := (whichL infoB (l.take i)).length
def comB (l : List Tx) (c : List Bool) (i : Nat) (t : Tx) : Bool := if t.f = 3 then c.getD (rankL l i) false else decide (t.f = 1)
def comL (l : List Tx) (c : List Bool) : List Bool := l.zipIdx.map fun x => comB l c x.2 x.1
def comQ (q : Nat) (l : List Tx) (c : List Bool) : List Bool := l.zipIdx.map fun x => if x.1.f = 3 ∧ rankL l x.2 < q then c.getD (rankL l x.2) false else decide (x.1.f = 1)
theorem comL_len (l : List Tx) (c : List Bool) : (comL l c).length = l.length := by simp [comL]
theorem comQ_len (q : Nat) (l : List Tx) (c : List Bool) : (comQ q l c).length = l.length := by simp [comQ]
theorem comL_get {l : List Tx} {c : List Bool} {i : Nat} {t : Tx} (h : l[i]? = some t) : (comL l c)[i]? = some (comB l c i t) := by
 unfold comL;rw [List.getElem?_map, List.getElem?_zipIdx, h];simp
theorem comQ_get {q : Nat} {l : List Tx} {c : List Bool} {i : Nat} {t : Tx} (h : l[i]? = some t) : (comQ q l c)[i]? = some (if t.f = 3 ∧ rankL l i < q then c.getD (rankL l i) false else decide (t.f = 1)) := by
 unfold comQ;rw [List.getElem?_map, List.getElem?_zipIdx, h];simp
theorem comQ_zero (l : List Tx) (c : List Bool) : comQ 0 l c = l.map fun t => decide (t.f = 1) := by
 unfold comQ;refine List.ext_getElem? fun i => ?_;rw [List.getElem?_map, List.getElem?_map, List.getElem?_zipIdx]
 cases l[i]? with
 | none => rfl
 | some t => simp
theorem comQ_all (l : List Tx) (c : List Bool) : comQ (whichL infoB l).length l c = comL l c := by
 refine List.ext_getElem? fun i => ?_
 cases h : l[i]? with
 | none => rw [List.getElem?_eq_none (by rw [comQ_len]; exact List.getElem?_eq_none_iff.1 h), List.getElem?_eq_none (by rw [comL_len]; exact List.getElem?_eq_none_iff.1 h)]
 | some t =>
  rw [comQ_get h, comL_get h];unfold comB
  by_cases hf : t.f = 3
  ·rw [if_pos ⟨hf, which_rank_lt h (by simp [infoB, hf])⟩, if_pos hf]
  ·rw [if_neg (fun e => hf e.1), if_neg hf]
theorem comQ_step {q : Nat} {l : List Tx} {c : List Bool} {i : Nat} {t : Tx} (h : l[i]? = some t) (hp : infoB t = true) (hr : rankL l i = q) : comQ (q + 1) l c = (comQ q l c).set i (c.getD q false) := by
 have hi := (List.getElem?_eq_some_iff.1 h).1;refine List.ext_getElem? fun k => ?_;rw [List.getElem?_set]
 split
 ·rename_i e
  subst e;rw [if_pos (by rw [comQ_len]; exact hi), comQ_get h, if_pos ⟨by simpa [infoB] using hp, by omega⟩, hr]
 ·rename_i e
  cases hk : l[k]? with
  | none => rw [List.getElem?_eq_none (by rw [comQ_len]; exact List.getElem?_eq_none_iff.1 hk), List.getElem?_eq_none (by rw [comQ_len]; exact List.getElem?_eq_none_iff.1 hk)]
  | some u =>
   rw [comQ_get hk, comQ_get hk]
   by_cases hu : u.f = 3
   ·have hne : rankL l k ≠ q := by
     intro hq;rcases Nat.lt_or_ge i k with hik | hik
     ·have := which_rank (p := infoB) h hp hik;unfold rankL at hr hq;omega
     ·have := which_rank (p := infoB) (i := k) (j := i) hk (by simp [infoB, hu]) (by omega);unfold rankL at hr hq;omega
    by_cases hq : rankL l k < q
    ·rw [if_pos ⟨hu, by omega⟩, if_pos ⟨hu, hq⟩]
    ·rw [if_neg (by omega), if_neg (by omega)]
   ·rw [if_neg (fun e => hu e.1), if_neg (fun e => hu e.1)]

/-! ### What is tried -/
def lostX (l : List Tx) : List Pl := (plsL l).filter fun x => decide (x.2.2.vk = 2)
theorem lostP_eq (l : List Tx) : lostP (plsL l) = (lostX l).map fun x => ((x.1 : Int), (x.2.1 : Int)) := rfl
theorem pls_mem {l : List Tx} {x : Pl} (h : x ∈ plsL l) : ∃ t, l[x.1]? = some t ∧ t.ops[x.2.1]? = some x.2.2 := by
 unfold plsL at h;obtain ⟨y, hy, hx⟩ := List.mem_flatMap.1 h;obtain ⟨k, hk⟩ := List.mem_iff_getElem?.1 hy;obtain ⟨t, ht, rfl⟩ := zipIdx_get.1 hk;unfold plsT at hx;obtain ⟨z, hz, rfl⟩ := List.mem_map.1 hx;obtain ⟨j, hj⟩ := List.mem_iff_getElem?.1 hz;obtain ⟨o, ho, rfl⟩ := zipIdx_get.1 hj;exact ⟨t, ht, ho⟩
def triesO (h : Hst) (i : Nat) (t : Tx) (j : Nat) (o : Op4) (b : Bool) : List V2 :=
 if b = true then
  match leftW o.key (t.ops.take j) with
  | some v => [v, (1, (freshN h.l o.key : Int))]
  | none => sortV (valsO (i : Int) o.key h.l) ++ [(1, (freshN h.l o.key : Int))]
 else [(0, 0)]
def triesX (h : Hst) (b : Bool) (x : Pl) : List V2 :=
 match h.l[x.1]? with
 | some t => triesO h x.1 t x.2.1 x.2.2 b
 | none => []
def atB (l : List Bool) (i : Nat) : Bool := l.getD i false
def allT (h : Hst) (c : List Bool) : List (List V2) := (lostX h.l).map fun x => triesX h (atB (comL h.l c) x.1) x
theorem allT_len (h : Hst) (c : List Bool) : (allT h c).length = (lostX h.l).length := by simp [allT]
def okV (v : V2) : Bool := decide (v.1 = 1) || (decide (v.1 = 0) && decide (v.2 = 0))
def mayW (h : Hst) (w : Wld) : Bool := mayH h && (decide (w.c.length = (whichL infoB h.l).length) && (decide (w.l.length = (lostX h.l).length) && w.l.all okV))

/-! ### Counting up -/
section
variable {α : Type} [BEq α]
def nextOf (vs : List α) (x : α) : Option α := vs[vs.idxOf x + 1]?
def upL (d : α) : List (List α) → List α → Option (List α)
 | vs :: r, x :: xs =>
  match upL d r xs with
  | some ys => some (x :: ys)
  | none => (nextOf vs x).map fun y => y :: r.map fun us => us.headD d
 | _, _ => none
def headsL (d : α) (vals : List (List α)) : List α := vals.map fun us => us.headD d
variable {d : α}
theorem upL_cons {vs : List α} {r : List (List α)} {x : α} {xs : List α} : upL d (vs :: r) (x :: xs) = match upL d r xs with
  | some ys => some (x :: ys)
  | none => (nextOf vs x).map fun y => y :: headsL d r := rfl
theorem upL_pre : ∀ {v1 v2 : List (List α)} {l1 l2 ys : List α}, v1.length = l1.length → upL d v2 l2 = some ys → upL d (v1 ++ v2) (l1 ++ l2) = some (l1 ++ ys)
 | [], v2, [], l2, ys, _, h => h
 | vs :: v1, v2, x :: l1, l2, ys, hl, h => by
  have := upL_pre (v1 := v1) (l1 := l1) (by simpa using hl) h;rw [List.cons_append, List.cons_append, upL_cons, this]
  rfl
 | [], v2, x :: l1, l2, ys, hl, h => by simp at hl
 | vs :: v1, v2, [], l2, ys, hl, h => by simp at hl
theorem drop_cons {β : Type} {l : List β} {i : Nat} {x : β} (h : l[i]? = some x) : l.drop i = x :: l.drop (i + 1) := by
 obtain ⟨hi, rfl⟩ := List.getElem?_eq_some_iff.1 h;exact List.drop_eq_getElem_cons hi
theorem upL_at {vals : List (List α)} {l : List α} {i : Nat} {vs : List α} {x y : α} (hv : vals[i]? = some vs) (hx : l[i]? = some x) (hn : upL d (vals.drop (i + 1)) (l.drop (i + 1)) = none) (hy : nextOf vs x = some y) :
  upL d vals l = some (l.take i ++ y :: headsL d (vals.drop (i + 1))) := by
 have h1 : upL d (vals.drop i) (l.drop i) = some (y :: headsL d (vals.drop (i + 1))) := by
  rw [drop_cons hv, drop_cons hx, upL_cons, hn, hy]
  rfl
 have hi := (List.getElem?_eq_some_iff.1 hv).1;have hj := (List.getElem?_eq_some_iff.1 hx).1;have := upL_pre (d := d) (v1 := vals.take i) (l1 := l.take i) (by rw [List.length_take, List.length_take]; omega) h1
 rwa [List.take_append_drop, List.take_append_drop] at this
theorem upL_on {vals : List (List α)} {l : List α} {i : Nat} {vs : List α} {x : α} (hv : vals[i]? = some vs) (hx : l[i]? = some x) (hn : upL d (vals.drop (i + 1)) (l.drop (i + 1)) = none) (hy : nextOf vs x = none) :
  upL d (vals.drop i) (l.drop i) = none := by
 rw [drop_cons hv, drop_cons hx, upL_cons, hn, hy]
 rfl
theorem upL_end {vals : List (List α)} {l : List α} {n : Nat} (h1 : vals.length ≤ n) : upL d (vals.drop n) (l.drop n) = none := by
 rw [List.drop_of_length_le h1]
 rfl
end
open Go.RowKit
open Go.Lib hiding intOf
attribute [local go_sem ↓] Go.wp_at_zero Go.wp_at_succ
theorem isinfo_any (s f : Int) (A : Option Addr) (m c : Nat) (w : World) :
  Calls Tryz.prog 85 #[.agg #[.int .i64 s, .int .i64 f, .slice A m c]] w fun e w' => e = .returned (.bool (decide (f = 3))) ∧ Only [] w w' := by
 by_cases h : f = 3
 ·subst h;go_enter Tryz.func85, Tryz.ntmps85;go_wp2
  go_ret
  exact ⟨rfl, (Only.refl _ _).alloc _⟩
 ·have h1 : (f == 3) = false := by simpa using h
  have h2 : Hid (decide (f = 3) = false) := Hd (decide_eq_false h);clear h;go_enter Tryz.func85, Tryz.ntmps85;go_wp2
  go_ret
  exact ⟨by rw [h2.out]; rfl, (Only.refl _ _).alloc _⟩
theorem whichI_any (A0 A1 A2 : Option Addr) (n0 n1 n2 c0 c1 c2 B : Nat) (h : Hst) (w : World) (hg : LRow w B A2 h.l) (hn2 : h.l.length = n2) (hM : n2 ≤ 1000) :
  Calls Tryz.prog 84 #[hval A0 A1 A2 n0 n1 n2 c0 c1 c2, .func (.func 85) #[] #[]] w fun e w' =>
   ∃ V, (e = .returned V ∧ w'.ownsRow w.heap.size 3 1 V (whichL (fun t => decide (t.f = 3)) h.l).length ((whichL (fun t => decide (t.f = 3)) h.l).map (Value.int .i64))) ∧ Only [] w w' := by
 unfold hval;have HIS := Hd (fun s f A m c w' => isinfo_any s f A m c w');obtain ⟨i0, hi, hz0, hz1, hz2⟩ := info_parts info_int;have HG := Hd hg;have HN2 := Hd hn2;have HO := Hd ((Only.refl [] w).alloc (.cells #[.slice A0 n0 c0, .slice A1 n1 c1, .slice A2 n2 c2] 25));clear hg hn2;obtain ⟨q, hq⟩ : ∃ q : Tx → Bool, q = fun t => decide (t.f = 3) := ⟨_, rfl⟩;rw [← hq];have HQ := Hd hq;clear hq;go_enter Tryz.func84, Tryz.ntmps84;go_wp2_with fail
 go_loopw [5, 11] (fun V iv wr => ∃ k : Nat, iv = .int .i64 k ∧ k ≤ n2 ∧ Hid (wr.ownsRow w.heap.size 3 1 V (whichL q (h.l.take k)).length ((whichL q (h.l.take k)).map (Value.int .i64))) ∧ Hid (Only [] w wr)) (fun _ iv _ => n2 - (intOf iv).toNat)
 case atStart => exact ⟨0, rfl, by omega, Hd ⟨rfl, .inl ⟨rfl, rfl⟩⟩, HO⟩
 case round =>
  obtain ⟨k, rfl, hk, hV, hO⟩ := hrel;have hsz := hO.out.size
  by_cases hlt : k < n2
  ·obtain ⟨x, hx⟩ : ∃ x, h.l[k]? = some x := ⟨_, List.getElem?_eq_getElem (by rw [HN2.out]; exact hlt)⟩;obtain ⟨b, off, A', cp, rfl, -, hbw, hT, hOk⟩ := HG.out.at_ hx;obtain ⟨a0, a1, a2⟩ := hT.only hO.out hbw (by simp);have HWT := Hd (which_take (p := q) hx);have hwl := which_le q (h.l.take k);rw [List.length_take] at hwl;obtain ⟨s, f, ops⟩ := x;dsimp only at a0 a1 a2;generalize hm : ops.length = m at *;have h01 : (k : Int) < (n2 : Int) := by omega
   have hk0 : (0 : Int) ≤ (k : Int) := Int.natCast_nonneg _;have hwk : IntKind.i64.wrap ((k : Int) + 1) = (k : Int) + 1 := IntWalk.i64_in _ (by omega);have hbr : b < wr.heap.size := by omega
   have HQX : Hid (q ⟨s, f, ops⟩ = decide (f = 3)) := Hd (by rw [HQ.out]);clear hT hOk hx hm;go_upto_region 5 with (fail)
   have O2 : Only [] wr (wr.alloc (.cells #[.int .i64 s, .int .i64 f, .slice A' m cp] 46)) := (Only.refl [] wr).alloc _;have bT := Blk.made wr 46 #[.int .i64 s, .int .i64 f, .slice A' m cp];have HV2 := Hd (own_only hV.out O2 (by simp));have HO2 := Hd (hO.out.trans O2);clear a0 a1 a2 O2 hV hO;generalize (wr.alloc (.cells #[.int .i64 s, .int .i64 f, .slice A' m cp] 46)) = w2 at *;generalize wr.heap.size = gt at *;have lT := bT.lt;have t0 := bT.at_ 0;have t1 := bT.at_ 1;have t2 := bT.at_ 2;simp at t0 t1 t2;clear bT;have HF := Hd (HIS.out s f A' m cp w2)
   cases hf : decide (f = 3) with
   | false =>
    rw [hf] at HF HQX;have HE : Hid (whichL q (h.l.take (k + 1)) = whichL q (h.l.take k)) := Hd (by rw [HWT.out, HQX.out]; simp);clear hf;go_wp2_with fail
    refine (HF.out).mono ?_;rintro e w3 ⟨rfl, O3⟩;have HV3 := Hd (own_only HV2.out O3 (by simp));have HO3 := Hd (HO2.out.trans O3);clear O3;go_wp2
    go_roundw
    case rel => exact ⟨k + 1, by go_num, by omega, Hd (by rw [HE.out]; exact HV3.out), HO3⟩
    case measure => simp [intOf]; omega
   | true =>
    rw [hf] at HF HQX;have HE : Hid (whichL q (h.l.take (k + 1)) = whichL q (h.l.take k) ++ [(k : Int)]) := Hd (by rw [HWT.out, HQX.out]; simp);clear hf;go_wp2_with fail
    refine (HF.out).mono ?_;rintro e w3 ⟨rfl, O3⟩;have HV3 := Hd (own_only HV2.out O3 (by simp));have HO3 := Hd (HO2.out.trans O3);clear O3;go_wp2_with (at_builtin; refine wpList_append_row _ rfl (.tmp 19) (.tmp 21) _ rfl w.heap.size 3 i0 _ 1 8 Tryz.underlying30 hi hz0 hz1 hz2 rfl (by omega) _ _ _ rfl (own_only HV3.out ((Only.refl [] _).alloc _) (by simp)) (w3.heap.size + 1) (some ⟨w3.heap.size, 0, none⟩) 1 1 [.int .i64 (k : Int)] rfl rfl (row_lit w3 3 #[.int .i64 (k : Int)]) (by simp [Value.oneCell']) (by unfold maxLen; omega) (by omega) (by have := HO3.out.size; simp; omega) ?_; intro v4 w4 hown4 hgrow hat)
    have REL : w4.ownsRow w.heap.size 3 1 v4 (whichL q (h.l.take (k + 1))).length ((whichL q (h.l.take (k + 1))).map (Value.int .i64)) ∧ Only [] w w4 := by
     refine ⟨?_, (HO3.out.alloc _).step (only_grown hgrow) (own_new HV3.out)⟩;rw [HE.out]
     simpa using hown4
    have HREL := Hd REL;clear REL hown4;go_wp2
    go_roundw
    case rel => first | exact ⟨k + 1, by go_num, by omega, Hd HREL.out.1, Hd HREL.out.2⟩ | exact ⟨_, ⟨k + 1, by go_num, by omega, Hd HREL.out.1, Hd HREL.out.2⟩, rfl⟩
    case measure => simp [intOf]; omega
  ·have hkn : k = n2 := by omega
   subst hkn;have hd2 : decide ((k : Int) < (k : Int)) = false := by simp
   have HVV : Hid (wr.ownsRow w.heap.size 3 1 u5 (whichL q h.l).length ((whichL q h.l).map (Value.int .i64))) := Hd (by
    have := hV.out
    rwa [List.take_of_length_le (by rw [HN2.out]; exact Nat.le_refl _)] at this)
   clear hV;go_wp2
   go_ret
   exact ⟨_, ⟨rfl, HVV.out⟩, hO.out⟩

end Go.Proofs.YtjfbeeogiejopaaGreatDoor
namespace Go.Proofs.YtjfbeeogiejopaaGreatDoor
open Go.RowKit Go.Shelf
open Go.Lib hiding intOf
attribute [local go_sem] Oper.semAt_some
theorem cell_two_new (w : World) (x y : Value) (t : TypeId) : ∀ j u, [x, y][j]? = some u → (w.alloc (.cells #[x, y] t)).cell? ((⟨w.heap.size, 0, none⟩ : Addr).add j) = some u := by
 intro j u hj;have e : (⟨w.heap.size, 0, none⟩ : Addr).add j = ⟨w.heap.size, j, none⟩ := by
  unfold Addr.add
  split
  ·rename_i h; subst h; rfl
  ·simp
 rw [e, (Blk.made w t #[x, y]).at_ j]
 simpa using hj
set_option maxRecDepth 100000 in
theorem lost_in (F : Fence) (n : Nat) (hf0 : F.fn 58) (hf1 : F.fn 80) (hf2 : F.fn 106) (hro : F.round = none) (hn : 4 ≤ n) (A0 A1 A2 : Option Addr) (n0 n1 n2 c0 c1 c2 : Nat) (h : Hst) (w : World)
  (hg : LRow w w.heap.size A2 h.l) (hn2 : h.l.length = n2) (hM : n2 ≤ 1000) (hno : ∀ t ∈ h.l, t.ops.length ≤ 1000) :
  CallsIn F n Tryz.prog 58 #[.agg #[.slice A0 n0 c0, .slice A1 n1 c1, .slice A2 n2 c2]] w fun e W' => ∃ v, e = .returned v ∧ W'.ownsRow w.heap.size 27 2 v (lostP (plsL h.l)).length (placeC (lostP (plsL h.l))) ∧ Below w.heap.size w W' := by
 have h1 : 1 ≤ n := by omega
 obtain ⟨i0, hi, hz0, hz1, hz2⟩ := info_parts info_place;refine callsIn_of_wp_marks Tryz.func58 rfl hf0 ?_ hro;simp only [Tryz.ntmps58, List.size_toArray, List.length_cons, List.length_nil, Nat.reduceAdd, Nat.reduceSub, Array.replicate_succ, Array.replicate_zero, List.push_toArray, List.append_toArray, List.nil_append, List.cons_append]
 gi_wp2_with (gi_at_call 80; refine (ops_in F (n - 1) hf1 hro _ _ _ _ _ _ _ _ _ _).mono ?_; rintro e w' ⟨rfl, rfl⟩)
 have bL := (Boxed.new (w.alloc (.cells #[.slice A0 n0 c0, .slice A1 n1 c1, .slice A2 n2 c2] 25)) 79 (.slice none 0 0)).alloc (.cells #[.slice A0 n0 c0, .slice A1 n1 c1, .slice A2 n2 c2] 25);have bN := Blk.made ((w.alloc (.cells #[.slice A0 n0 c0, .slice A1 n1 c1, .slice A2 n2 c2] 25)).alloc (.cells #[.slice none 0 0] 79)) 25 #[.slice A0 n0 c0, .slice A1 n1 c1, .slice A2 n2 c2];simp only [World.size_alloc] at bL bN;have hB0 : Below w.heap.size w (((w.alloc (.cells #[.slice A0 n0 c0, .slice A1 n1 c1, .slice A2 n2 c2] 25)).alloc (.cells #[.slice none 0 0] 79)).alloc (.cells #[.slice A0 n0 c0, .slice A1 n1 c1, .slice A2 n2 c2] 25)) := (((Below.refl _ w).alloc (Nat.le_refl _) _).alloc (by simp) _).alloc (by simp; omega) _;have hsz : (((w.alloc (.cells #[.slice A0 n0 c0, .slice A1 n1 c1, .slice A2 n2 c2] 25)).alloc (.cells #[.slice none 0 0] 79)).alloc (.cells #[.slice A0 n0 c0, .slice A1 n1 c1, .slice A2 n2 c2] 25)).heap.size = w.heap.size + 3 := by simp
 obtain ⟨W0, hW0⟩ : ∃ W0, (((w.alloc (.cells #[.slice A0 n0 c0, .slice A1 n1 c1, .slice A2 n2 c2] 25)).alloc (.cells #[.slice none 0 0] 79)).alloc (.cells #[.slice A0 n0 c0, .slice A1 n1 c1, .slice A2 n2 c2] 25)) = W0 := ⟨_, rfl⟩;rw [hW0] at bL bN hB0 hsz ⊢;clear hW0;have hg0 : LRow W0 w.heap.size A2 h.l := hg.only (Only.of_below hB0 []) (fun _ h => by cases h);refine wpIn_rangeFunc_ownH hro h1 (gf := 106) (lb := #[.pointer (some ⟨w.heap.size + 1 + 1, 0, none⟩)]) rfl hf2 (enters_of Tryz.func106 (by kernel_rfl) rfl)
  (ops_stops F (n - 1) hf2 hro (by omega) (w.heap.size + 1 + 1) w.heap.size A2 n2 c2 h W0 (by omega) (by omega) (bN.at_ 2) hg0 hn2 hM hno) belowK_t (belowK_b (by omega)) (Below.refl _ _) (fun _ => rfl)
  (fun pre W => (∃ v, Boxed W (w.heap.size + 1) 79 v ∧ W.ownsRow w.heap.size 27 2 v (lostP pre).length (placeC (lostP pre)) ∧ True) ∧ Below w.heap.size w W)
  (fun _ _ _ => False)
  (OwnFrom.and (Own.from (holdsRow_own w.heap.size (w.heap.size + 1) 79 27 2 (fun pre => (lostP pre).length) (fun pre => placeC (lostP pre)) (fun _ _ => True)) _) (ownFrom_below (Nat.le_refl _) (by omega)))
  (fun _ _ _ _ _ hs _ _ => hs)
  ⟨⟨_, bL, World.ownsRow_nil _ _ _ _, trivial⟩, hB0⟩
  (fun x a' W => ∃ B1 B2, (Blk W B1 27 #[.int .i64 (x.1 : Int), .int .i64 (x.2.1 : Int)] ∧ Blk W B2 48 #[.bool x.2.2.wr, .int .i64 x.2.2.key, .int .i64 x.2.2.vk, .int .i64 x.2.2.vn]) ∧
   a' = { tmps := #[.agg #[.slice A0 n0 c0, .slice A1 n1 c1, .slice A2 n2 c2], .pointer (some ⟨w.heap.size, 0, none⟩), .slice none 0 0, .pointer (some ⟨w.heap.size + 1, 0, none⟩), .pointer (some ⟨B1, 0, none⟩), .pointer (some ⟨B2, 0, none⟩),
    .agg #[.slice A0 n0 c0, .slice A1 n1 c1, .slice A2 n2 c2], .func (.func 106) #[] #[.pointer (some ⟨w.heap.size + 1 + 1, 0, none⟩)], .agg #[.int .i64 (x.1 : Int), .int .i64 (x.2.1 : Int)], .agg #[.bool x.2.2.wr, .int .i64 x.2.2.key, .int .i64 x.2.2.vk, .int .i64 x.2.2.vn], undef, undef, undef, undef, undef, undef, undef, undef, undef], defers := [] })
  (fun x a' _ X Y row hs hg hr => by
   obtain ⟨B1, B2, ⟨b1, b2⟩, e⟩ := hs;exact ⟨B1, B2, ⟨blk_own B1 _ (fun (_ : Unit) => _) () X Y row b1 hg (fun r e => (hr r e).2), blk_own B2 _ (fun (_ : Unit) => _) () X Y row b2 hg (fun r e => (hr r e).2)⟩, e⟩)
  ?assign ?body ?done ?stop
 case assign =>
  rintro l pre x W K ⟨⟨v, hv, hrow, -⟩, hB1⟩ hK;unfold plC
  gi_wp2
  refine hK _ _ (((KeepsOthers.alloc _ _).trans (KeepsOthers.alloc _ _)).from _) (((Below.refl _ W).alloc hB1.size _).alloc (by have := hB1.size; simp; omega) _) ⟨⟨v, (hv.alloc _).alloc _, ?_, trivial⟩, (hB1.alloc hB1.size _).alloc (by have := hB1.size; simp; omega) _⟩
   ⟨W.heap.size, W.heap.size + 1, ⟨(Blk.made W _ _).alloc _, by have := Blk.made (W.alloc (.cells #[.int .i64 (x.1 : Int), .int .i64 (x.2.1 : Int)] 27)) 48 #[.bool x.2.2.wr, .int .i64 x.2.2.key, .int .i64 x.2.2.vk, .int .i64 x.2.2.vn]; simpa using this⟩, rfl⟩
  exact own_only hrow (((Only.refl [] W).alloc _).alloc _) (by simp)
 case body =>
  rintro l pre ⟨pi, pj, ⟨yw, yk, yv, yn⟩⟩ a' W hl ⟨r, hr⟩ ⟨⟨v, hv, hrow, -⟩, hB⟩ ⟨B1, B2, ⟨bP, bO⟩, rfl⟩ hlt;have hc := hv.cell;dsimp only at bP bO;have p0 := bP.at_ 0;have p1 := bP.at_ 1;have o2 := bO.at_ 2;have lP := bP.lt;have lO := bO.lt;simp at p0 p1 o2;have hpl := lostP_le pre
  by_cases hk : yv = 2
  ·subst hk
   gi_wp2_with (gi_at_builtin; refine wpListIn_append_own _ rfl _ _ 79 rfl w.heap.size 27 i0 (.agg #[.int .i64 0, .int .i64 0]) 2 16 Tryz.underlying79 hi hz0 hz1 hz2 rfl (by decide) _ _ _ rfl (hrow.alloc _) ⟨W.heap.size, 0, none⟩ 1 1 [.int .i64 (pi : Int), .int .i64 (pj : Int)] rfl rfl (cell_two_new _ _ _ _) (by intro u hu; simp at hu; rcases hu with rfl | rfl <;> rfl) (by unfold maxLen; omega) (by omega) (by have := hB.size; simp; omega) ?_; intro v' w1 hown' hgrow _; obtain ⟨g', cap', rfl⟩ := ownsRow_succ hown'; obtain ⟨hv1, hv2, hr2, hk2, hb2⟩ := hv.appended (by decide) hrow hB.size (by omega) hown' hgrow; have hc1 := hv1.cell; have hf1 := hv1.frozen)
   exact ⟨hk2.from _, hb2, ⟨_, hv2, by rw [lostP_hit pre (by rfl), placeC_append]; simpa [placeC] using hr2, trivial⟩, hB.trans hb2⟩
  ·have hk1 : (yv == 2) = false := by simpa using hk
   gi_wp2
   exact ⟨KeepsFrom.refl _ _, Below.refl _ _, ⟨v, hv, by rw [lostP_miss pre (by exact hk)]; exact hrow, trivial⟩, hB⟩
 case done =>
  rintro D ys W hD rfl ⟨⟨v, hv, hrow, -⟩, hB⟩ hK;have hc := hv.cell
  gi_wp2
  refine ⟨by simp, .inl ⟨_, _, rfl, run_takeDeferred hK, ?_⟩⟩;exact ⟨_, results_tmp rfl _ _ _, v, rfl, ownsRow_putObj hrow _ hK rfl, hB.trans (belowK_b (w := w) (Nat.le_refl _) W D _ _ (by omega) hK rfl rfl)⟩
 case stop =>
  rintro D c pre W _ _ h _;exact h.elim
theorem klost_any (A0 A1 A2 : Option Addr) (n0 n1 n2 c0 c1 c2 B : Nat) (h : Hst) (w : World) (hg : LRow w B A2 h.l) (hn2 : h.l.length = n2) (hM : n2 ≤ 1000) (hno : ∀ t ∈ h.l, t.ops.length ≤ 1000) :
  Calls Tryz.prog 58 #[hval A0 A1 A2 n0 n1 n2 c0 c1 c2] w fun e W' => ∃ V, (e = .returned V ∧ W'.ownsRow w.heap.size 27 2 V (lostP (plsL h.l)).length (placeC (lostP (plsL h.l)))) ∧ Only [] w W' :=
 (callsIn_wide.1 (lost_in Fence.wide 6 trivial trivial trivial rfl (by omega) A0 A1 A2 n0 n1 n2 c0 c1 c2 h w hg.up hn2 hM hno)).mono fun e W' ⟨v, he, ho, hb⟩ => ⟨v, ⟨he, ho⟩, Only.of_below hb []⟩
end Go.Proofs.YtjfbeeogiejopaaGreatDoor
namespace Go.Proofs.YtjfbeeogiejopaaGreatDoor
open Go.RowKit
open Go.Lib hiding intOf
attribute [local go_sem ↓] Go.wp_at_zero Go.wp_at_succ
theorem kinfos_any (A0 A1 A2 : Option Addr) (n0 n1 n2 c0 c1 c2 B : Nat) (h : Hst) (w : World) (hg : LRow w B A2 h.l) (hn2 : h.l.length = n2) (hM : n2 ≤ 1000) :
  Calls Tryz.prog 57 #[hval A0 A1 A2 n0 n1 n2 c0 c1 c2] w fun e w' =>
   ∃ A c, (e = .returned (.slice A (whichL (fun t => decide (t.f = 3)) h.l).length c) ∧ Row w' w'.heap.size A ((whichL (fun t => decide (t.f = 3)) h.l).map (Value.int .i64))) ∧ Only [] w w' := by
 have HX := Hd (fun w' (O : Only [] w w') => whichI_any A0 A1 A2 n0 n1 n2 c0 c1 c2 B h w' (hg.only O (fun _ h => by cases h)) hn2 hM);unfold hval at HX ⊢;clear hg hn2;have O1 : Only [] w (w.alloc (.cells #[.slice A0 n0 c0, .slice A1 n1 c1, .slice A2 n2 c2] 25)) := (Only.refl [] w).alloc _;have HF := Hd (HX.out _ O1);have HO1 := Hd O1;clear O1;generalize (whichL (fun t => decide (t.f = 3)) h.l) = L at *;go_enter Tryz.func57, Tryz.ntmps57;go_wp2_with fail
 refine (HF.out).mono ?_;rintro e w3 ⟨V, ⟨rfl, hV⟩, O3⟩;have HO3 := Hd (HO1.out.trans O3);obtain ⟨A, c, rfl, -, -, -, hR⟩ := own_row hV;have HR := Hd hR;clear O3 hV hR;go_wp2
 go_ret
 exact ⟨_, _, ⟨rfl, HR.out⟩, HO3.out⟩
theorem info_bl : (Tryz.prog.info? 4).map (fun i => (i.zero, i.size, i.bytes)) = some (some (.bool false), 1, 1) := by kernel_rfl
def boolsC (l : List Bool) : Array Value := (l.map Value.bool).toArray
theorem boolsC_size (l : List Bool) : (boolsC l).size = l.length := by simp [boolsC]
theorem boolsC_at {l : List Bool} {i : Nat} {b : Bool} (h : l[i]? = some b) : (boolsC l)[i]? = some (.bool b) := by simp [boolsC, h]
theorem boolsC_set (l : List Bool) (i : Nat) (b : Bool) : (boolsC l).setIfInBounds i (.bool b) = boolsC (l.set i b) := by
 simp [boolsC, List.map_set]
theorem made_bools (n : Nat) : madeCells #[.bool false] n = boolsC (List.replicate n false) := by
 apply Array.ext_getElem?
 intro j
 by_cases hj : j < n <;> simp [madeCells, boolsC, Nat.mod_one, hj]
theorem make_bools (n : Nat) (hn : n ≤ 1000) (w : World) : (Instr.makeSlice 49 (.int .i64 (n : Int)) (.int .i64 (n : Int))).run Tryz.prog w = .ok (.slice (some ⟨w.heap.size, 0, none⟩) n n) (w.alloc (.cells (boolsC (List.replicate n false)) 4)) := by
 obtain ⟨i0, hi, hz0, hz1, hz2⟩ := info_parts info_bl;have := run_make (P := Tryz.prog) w 49 4 i0 _ Tryz.underlying49 hi hz0 .i64 .i64 (n : Int) (n : Int) (by omega) (by omega) (by rw [hz2]; omega) (by omega);rw [this, hz1];simp [made_bools, Value.cells]
theorem row_bools {w : World} {g : Nat} {t : TypeId} {l : List Bool} (h : Blk w g t (boolsC l)) : Row w w.heap.size (some ⟨g, 0, none⟩) (l.map Value.bool) := by
 refine .inr ⟨g, 0, rfl, h.lt, Nat.le_refl _, fun j u hu => ?_⟩;rw [Nat.zero_add, h.at_ j]
 simpa [boolsC] using hu
theorem own_bools {w : World} {g n B : Nat} {l : List Bool} (h : Blk w g 4 (boolsC l)) (hl : l.length = n) (hn : n ≤ 1000) (hB : B ≤ g) : w.ownsRow B 4 1 (.slice (some ⟨g, 0, none⟩) n n) n (l.map Value.bool) := by
 refine ⟨by rw [List.length_map, hl, Nat.mul_one], .inr ⟨g, n, boolsC l, rfl, hB, h, Nat.le_refl _, by unfold maxLen; omega, by rw [boolsC_size, hl, Nat.mul_one], ?_⟩⟩;unfold boolsC;rw [Nat.mul_one, ← hl]
 show List.take l.length (l.map Value.bool) = _
 rw [List.take_of_length_le (by rw [List.length_map]; exact Nat.le_refl _)]
theorem boolsC_no (l : List Int) (L : List Bool) : ∀ u : Value, (l.map (Value.int .i64))[0]? = some u → ∀ j : Nat, (boolsC L)[j]? ≠ some u := by
 intro u hu j hj;unfold boolsC at hj;rw [List.getElem?_map] at hu;rw [List.getElem?_toArray, List.getElem?_map] at hj
 cases h0 : l[0]? with
 | none => simp [h0] at hu
 | some z =>
  cases h1 : L[j]? with
  | none => simp [h1] at hj
  | some b =>
   simp [h0] at hu;simp [h1] at hj;rw [← hj] at hu
   cases hu
theorem wcommitted_any (A0 A1 A2 Ac : Option Addr) (n0 n1 n2 nc c0 c1 c2 cc B Bc : Nat) (h : Hst) (c : List Bool) (w : World) (hg : HIn w B A0 A1 A2 n0 n1 n2 h) (hc : Row w Bc Ac (c.map Value.bool)) (hcl : c.length = nc) (hci : (whichL infoB h.l).length = nc) :
  Calls Tryz.prog 55 #[hval A0 A1 A2 n0 n1 n2 c0 c1 c2, .slice Ac nc cc] w fun e w' => ∃ V, (e = .returned V ∧ w'.ownsRow w.heap.size 4 1 V n2 ((comL h.l c).map Value.bool)) ∧ Only [] w w' := by
 have HL := Hd hg.at_.r2;have HN2 := Hd hg.n2;have hn2 : n2 ≤ 1000 := by have := hg.sm.nl; rw [hg.n2] at this; exact this
 have HKI := Hd (fun w' (O : Only [] w w') => kinfos_any A0 A1 A2 n0 n1 n2 c0 c1 c2 B h w' (hg.same O).at_.r2 hg.n2 hn2);have HCR := Hd hc;have HCL := Hd hcl;have HCI := Hd hci;have hmk := make_bools n2 hn2;have hncle : nc ≤ n2 := by rw [← hci, ← HN2.out]; exact which_le _ _
 unfold hval at HKI ⊢;clear hg hc hcl hci;have HO1 := Hd (((Only.refl [] w).alloc (.cells #[.slice A0 n0 c0, .slice A1 n1 c1, .slice A2 n2 c2] 25)).alloc (.cells (boolsC (List.replicate n2 false)) 4));have HB1 := Hd ((Blk.made w 25 #[.slice A0 n0 c0, .slice A1 n1 c1, .slice A2 n2 c2]).alloc (.cells (boolsC (List.replicate n2 false)) 4));have HX1 := Hd (Blk.made (w.alloc (.cells #[.slice A0 n0 c0, .slice A1 n1 c1, .slice A2 n2 c2] 25)) 4 (boolsC (List.replicate n2 false)));simp only [World.size_alloc] at HX1;go_enter Tryz.func55, Tryz.ntmps55;go_upto_region 2 with (fail)
 generalize ((w.alloc (.cells #[.slice A0 n0 c0, .slice A1 n1 c1, .slice A2 n2 c2] 25)).alloc (.cells (boolsC (List.replicate n2 false)) 4)) = w1 at *;generalize hgb : w.heap.size + 1 = gb at *;generalize hgg : w.heap.size = g at *;have lB := HB1.out.lt;have y2 := HB1.out.at_ 2;simp at y2;clear hmk;go_wp2_with fail
 go_loopw [17] (fun iv wr => ∃ (k : Nat) (L : List Bool), iv = .int .i64 (k : Int) ∧ k ≤ n2 ∧ Hid (L.length = n2 ∧ ∀ i, i < k → L[i]? = (h.l[i]?).map fun t => decide (t.f = 1)) ∧ Hid (Blk wr gb 4 (boolsC L)) ∧ Hid (Blk wr g 25 #[.slice A0 n0 c0, .slice A1 n1 c1, .slice A2 n2 c2]) ∧ Hid (Only [] w wr)) (fun iv _ => n2 - (intOf iv).toNat)
 case atStart => exact ⟨0, _, rfl, by omega, Hd ⟨by simp, fun i hi => by omega⟩, HX1, HB1, HO1⟩
 case round =>
  obtain ⟨k, L, rfl, hk, hL, hX, hB, hO⟩ := hrel;clear HX1 HB1 HO1 lB y2
  by_cases hlt : k < n2
  ·obtain ⟨x, hx⟩ : ∃ x, h.l[k]? = some x := ⟨_, List.getElem?_eq_getElem (by rw [HN2.out]; exact hlt)⟩;obtain ⟨bl, off, A', cp, rfl, -, hbw, hT, -⟩ := HL.out.at_ hx;obtain ⟨a0, a1, a2⟩ := hT.only hO.out (by omega) (by simp);have hbr : bl < wr.heap.size := by have := hO.out.size; omega
   have h01 : (k : Int) < (n2 : Int) := by omega
   have hk0 : (0 : Int) ≤ (k : Int) := Int.natCast_nonneg _;have hwk : IntKind.i64.wrap ((k : Int) + 1) = (k : Int) + 1 := IntWalk.i64_in _ (by omega);have HXF : Hid (decide (x.f = 1) = (x.f == 1)) := Hd rfl;obtain ⟨v0, hv0⟩ : ∃ v0, L[k]? = some v0 := ⟨_, List.getElem?_eq_getElem (by rw [hL.out.1]; exact hlt)⟩;have HX0 := Hd hx;obtain ⟨s, f, ops⟩ := x;dsimp only at a0 a1 a2 HXF;generalize ops.length = m at *;clear hT hx;go_upto_region 5 with (fail)
   have O2 : Only [] wr (wr.alloc (.cells #[.int .i64 s, .int .i64 f, .slice A' m cp] 46)) := (Only.refl [] wr).alloc _;have HT2 := Hd (Blk.made wr 46 #[.int .i64 s, .int .i64 f, .slice A' m cp]);have HX2 := Hd (O2.blk hX.out (by simp));have HB2 := Hd (O2.blk hB.out (by simp));have HO2 := Hd (hO.out.trans O2);clear O2 a0 a1 a2 hX hB hO hbr;generalize (wr.alloc (.cells #[.int .i64 s, .int .i64 f, .slice A' m cp] 46)) = w2 at *;generalize wr.heap.size = gt at *;have lT := HT2.out.lt;have t1 := HT2.out.at_ 1;have lX := HX2.out.lt;have x0 := (HX2.out.at_ k).trans (boolsC_at hv0);have fx0 := HX2.out.free k;simp at t1;generalize hbb : (f == 1) = bb at *;go_wp2
   have HX3 : Hid (Blk (w2.setCell ⟨gb, k, none⟩ (.bool bb)) gb 4 (boolsC (L.set k bb))) := Hd (by rw [← boolsC_set]; exact HX2.out.put k (.bool bb));have O3 : Only [gb] w2 (w2.setCell ⟨gb, k, none⟩ (.bool bb)) := (Only.refl [gb] w2).put (fun _ => by simp) _;have HB3 := Hd (O3.blk HB2.out (by simp; omega));have HO3 := Hd (HO2.out.step O3 (fun i hi hl => by simp at hi; omega));have HL3 : Hid ((L.set k bb).length = n2 ∧ ∀ i, i < k + 1 → (L.set k bb)[i]? = (h.l[i]?).map fun t => decide (t.f = 1)) := Hd ⟨by rw [List.length_set]; exact hL.out.1, fun i hi => by
    rw [List.getElem?_set]
    split
    ·rename_i e
     subst e;rw [if_pos (by rw [hL.out.1]; exact hlt), HX0.out]
     show some bb = some (decide (f = 1))
     rw [HXF.out]
    ·exact hL.out.2 i (by omega)⟩
   go_roundw
   case rel => exact ⟨k + 1, _, by go_num, by omega, HL3, HX3, HB3, HO3⟩
   case measure => simp [intOf]; omega
  ·have hkn : k = n2 := by omega
   subst hkn;have hd2 : decide ((k : Int) < (k : Int)) = false := by simp
   have hLe : L = comQ 0 h.l c := by
    rw [comQ_zero];refine List.ext_getElem? fun i => ?_;rw [List.getElem?_map]
    by_cases hi : i < k
    ·exact hL.out.2 i hi
    ·rw [List.getElem?_eq_none (by rw [hL.out.1]; omega), List.getElem?_eq_none (by rw [HN2.out]; omega)]
     rfl
   subst hLe;obtain ⟨wo, hwo⟩ : ∃ wo : World, wo = wr := ⟨_, rfl⟩;subst hwo;have lB := hB.out.lt;have y0 := hB.out.at_ 0;have y1 := hB.out.at_ 1;have y2 := hB.out.at_ 2;simp at y0 y1 y2;clear hL;go_wp2_with fail
   refine (HKI.out _ hO.out).mono ?_;rintro e w4 ⟨A4, c4, ⟨rfl, hr4⟩, O4⟩;rw [show (whichL (fun t : Tx => decide (t.f = 3)) h.l).length = nc from HCI.out];have HR4 := Hd hr4;have HX4 := Hd (O4.blk hX.out (by simp));have HO4 := Hd (hO.out.trans O4);clear hr4 O4 lB y0 y1 y2 hB hX hO HKI;go_wp2_with fail
   go_loopw [32] (fun qv wr => ∃ q : Nat, qv = .int .i64 (q : Int) ∧ q ≤ nc ∧ Hid (Blk wr gb 4 (boolsC (comQ q h.l c))) ∧ Hid (Row wr wr.heap.size A4 ((whichL (fun t : Tx => decide (t.f = 3)) h.l).map (Value.int .i64))) ∧ Hid (Only [] w wr)) (fun qv _ => nc - (intOf qv).toNat)
   case atStart => exact ⟨0, rfl, by omega, HX4, HR4, HO4⟩
   case round =>
    obtain ⟨q, rfl, hq, hX, hR, hO⟩ := hrel;clear HX4 HR4 HO4
    by_cases hlt2 : q < nc
    ·obtain ⟨z, hz⟩ : ∃ z, (whichL infoB h.l)[q]? = some z := ⟨_, List.getElem?_eq_getElem (by rw [HCI.out]; exact hlt2)⟩;obtain ⟨i, t, rfl, ht, hp, hrk⟩ := which_get hz;have hi2 : i < k := by rw [← HN2.out]; exact (List.getElem?_eq_some_iff.1 ht).1
     have HST := Hd (comQ_step (q := q) (c := c) ht hp hrk);have HRP := Hd (fun w' (O : Only [gb] wr w') => row_past hR.out hX.out (boolsC_no _ _) O);obtain ⟨b4, o4, rfl, hbb4, hbr4, hc4⟩ := hR.out.open_ (k := q) (by rw [List.length_map]; show q < (whichL infoB h.l).length; rw [HCI.out]; exact hlt2);have z0 := hc4 q _ (by rw [List.getElem?_map]; show ((whichL infoB h.l)[q]?).map _ = _; rw [hz]; rfl);obtain ⟨bb, hbb⟩ : ∃ bb, c[q]? = some bb := ⟨_, List.getElem?_eq_getElem (by rw [HCL.out]; exact hlt2)⟩;obtain ⟨b5, o5, rfl, hb5, hbr5, hc5⟩ := (HCR.out.only hO.out (by simp)).open_ (k := q) (by rw [List.length_map, HCL.out]; exact hlt2);have q0 := hc5 q _ (by rw [List.getElem?_map, hbb]; rfl);obtain ⟨v0, hv0⟩ : ∃ v0, (comQ q h.l c)[i]? = some v0 := ⟨_, List.getElem?_eq_getElem (by rw [comQ_len, HN2.out]; exact hi2)⟩;have x0 := (hX.out.at_ i).trans (boolsC_at hv0);have fx0 := hX.out.free i;have lX := hX.out.lt;have HGD : Hid (c.getD q false = bb) := Hd (by simp [hbb]);have h02 : (q : Int) < (nc : Int) := by omega
     have hq0 : (0 : Int) ≤ (q : Int) := Int.natCast_nonneg _;have hwq : IntKind.i64.wrap ((q : Int) + 1) = (q : Int) + 1 := IntWalk.i64_in _ (by omega);have hi0 : (0 : Int) ≤ (i : Int) := Int.natCast_nonneg _;have hi3 : (i : Int) < (k : Int) := by omega
     clear hz ht hp hrk hc4 hbb hc5 hv0;go_wp2
     have HX3 : Hid (Blk (wr.setCell ⟨gb, i, none⟩ (.bool bb)) gb 4 (boolsC (comQ (q + 1) h.l c))) := Hd (by rw [HST.out, HGD.out, ← boolsC_set]; exact hX.out.put i (.bool bb));have O3 : Only [gb] wr (wr.setCell ⟨gb, i, none⟩ (.bool bb)) := (Only.refl [gb] wr).put (fun _ => by simp) _;have HRR := Hd (HRP.out _ O3);have HO3 := Hd (hO.out.step O3 (fun i hi hl => by simp at hi; omega));go_roundw
     case rel => exact ⟨q + 1, by go_num, by omega, HX3, HRR, HO3⟩
     case measure => simp [intOf]; omega
    ·have hqn : q = nc := by omega
     subst hqn;have hd3 : decide ((q : Int) < (q : Int)) = false := by simp
     have HXE : Hid (Blk wr gb 4 (boolsC (comL h.l c))) := Hd (by rw [← comQ_all, HCI.out]; exact hX.out);go_wp2
     go_ret
     exact ⟨_, ⟨rfl, own_bools HXE.out (by rw [comL_len]; exact HN2.out) hn2 (by omega)⟩, hO.out⟩
end Go.Proofs.YtjfbeeogiejopaaGreatDoor
