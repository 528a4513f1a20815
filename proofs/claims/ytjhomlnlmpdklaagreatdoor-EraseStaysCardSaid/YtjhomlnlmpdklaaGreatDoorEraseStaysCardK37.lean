/- With every op kept a history that may be stays as it is. Mathematics. Ops with their places; which reads were lost. Mathematics. What is without lost reads may be, has none, and stays so; where its ops stand. Mathematics. Ops compared in one step. Unlike texts; firsts of like lists. Whether two lists of texts, or of ops, are the same: the document's Texts and SameOps. Whether two histories are the same. Contracts of the reference of layer 5. Rows of marks. -/
import Derived.Test.YtjhomlnlmpdklaaGreatDoorEraseStaysCardK31
import Derived.Test.YtjhomlnlmpdklaaGreatDoorEraseStaysCardK14
import Derived.Test.YtjhomlnlmpdklaaGreatDoorEraseStaysCardK36
import Derived.Laws.StructEq
import Derived.Test.YtjhomlnlmpdklaaGreatDoorEraseStaysCardK3
import Derived.Lib.Strings
import Derived.Deep.QuietTactic
import Derived.BigQuiet
import Derived.Test.YtjhomlnlmpdklaaGreatDoorEraseStaysCardK6
set_option linter.unusedVariables false
set_option linter.unusedSimpArgs false
namespace Go.Proofs.YtjhomlnlmpdklaaGreatDoor
theorem may_opsB {h : Hst} (hm : mayH h = true) : opsB h = true := by
 unfold mayH at hm
 simp only [Bool.and_eq_true] at hm
 exact hm.2.2.2
theorem used_anyOp {h : Hst} (hm : mayH h = true) {i : Nat} (hi : i < h.ks.length) : usedK anyOp h.l (i : Int) = true := by
 have h1 := may_opsB hm
 unfold opsB useB at h1
 simp only [Bool.and_eq_true] at h1
 have h2 := List.all_eq_true.1 h1.2 i (List.mem_range.2 hi)
 have h3 : (i : Int) ∈ keysL h.l := by simpa using h2
 unfold keysL at h3
 obtain ⟨t, ht, h4⟩ := List.mem_flatMap.1 h3
 obtain ⟨o, ho, h5⟩ := List.mem_map.1 h4
 rw [← h5]
 exact used_of ht ho rfl
theorem numK_anyOp {h : Hst} (hm : mayH h = true) {i : Nat} (hi : i ≤ h.ks.length) : numK anyOp h.l i = i := by
 unfold numK
 rw [List.filter_eq_self.2 (fun k hk => used_anyOp hm (by have := List.mem_range.1 hk; omega)), List.length_range]
theorem keptK_anyOp {h : Hst} (hm : mayH h = true) : keptK anyOp h.l h.ks = h.ks := by
 unfold keptK
 rw [List.filter_eq_self.2 (fun x hx => used_anyOp hm (by
  obtain ⟨a, i⟩ := x
  have h1 := List.mem_zipIdx hx
  simp at h1
  omega))]
 simp
theorem keptT_anyOp {h : Hst} (hm : mayH h = true) {t : Tx} (ht : t ∈ h.l) : keptT anyOp h.l t = t := by
 have h1 := may_opsB hm
 unfold opsB at h1
 simp only [Bool.and_eq_true] at h1
 have h2 := List.all_eq_true.1 h1.1 t ht
 have h3 : keptO anyOp h.l t.ops = t.ops := by
  unfold keptO
  rw [show t.ops.filter anyOp = t.ops from List.filter_eq_self.2 (fun _ _ => rfl)]
  conv => rhs; rw [← List.map_id t.ops]
  refine List.map_congr_left fun o ho => ?_
  have h4 := List.all_eq_true.1 h2 o ho
  unfold opB at h4
  simp only [Bool.and_eq_true, decide_eq_true_eq] at h4
  unfold keyTo
  rw [numK_anyOp hm (by omega)]
  have : ((o.key.toNat : Nat) : Int) = o.key := by omega
  rw [this]
  rfl
 unfold keptT
 rw [h3]
theorem keptH_anyOp {h : Hst} (hm : mayH h = true) : keptH anyOp h = h := by
 unfold keptH
 rw [keptK_anyOp hm]
 have : h.l.map (keptT anyOp h.l) = h.l := by
  conv => rhs; rw [← List.map_id h.l]
  exact List.map_congr_left fun t ht => keptT_anyOp hm ht
 rw [this]
end Go.Proofs.YtjhomlnlmpdklaaGreatDoor

set_option linter.unusedVariables false
set_option linter.unusedSimpArgs false
namespace Go.Proofs.YtjhomlnlmpdklaaGreatDoor
/-- An op with its place. -/
abbrev Pl := Nat × Nat × Op4
def plsT (i : Nat) (l : List Op4) : List Pl := l.zipIdx.map fun x => (i, x.2, x.1)
def plsL (l : List Tx) : List Pl := l.zipIdx.flatMap fun x => plsT x.2 x.1.ops
theorem plsT_take {i : Nat} {l : List Op4} {j : Nat} {x : Op4} (h : l[j]? = some x) : plsT i (l.take (j + 1)) = plsT i (l.take j) ++ [(i, j, x)] := by
 have hj := (List.getElem?_eq_some_iff.1 h).1
 unfold plsT
 rw [List.take_add_one, h, List.zipIdx_append, List.map_append, List.length_take, Nat.min_eq_left (Nat.le_of_lt hj)]
 simp [List.zipIdx]
theorem plsL_take {l : List Tx} {k : Nat} {t : Tx} (h : l[k]? = some t) : plsL (l.take (k + 1)) = plsL (l.take k) ++ plsT k t.ops := by
 have hk := (List.getElem?_eq_some_iff.1 h).1
 unfold plsL
 rw [List.take_add_one, h, List.zipIdx_append, List.flatMap_append, List.length_take, Nat.min_eq_left (Nat.le_of_lt hk)]
 simp [List.zipIdx]
theorem plsT_len (i : Nat) (l : List Op4) : (plsT i l).length = l.length := by simp [plsT]
theorem plsL_len : ∀ (l : List Tx), (∀ t ∈ l, t.ops.length ≤ 1000) → (plsL l).length ≤ l.length * 1000 := by
 intro l
 unfold plsL
 generalize 0 = s
 induction l generalizing s with
 | nil => intro _; simp
 | cons t l ih =>
  intro h
  have h1 := ih (s + 1) (fun x hx => h x (List.mem_cons_of_mem _ hx))
  have h2 := h t List.mem_cons_self
  rw [List.zipIdx_cons, List.flatMap_cons, List.length_append, plsT_len, List.length_cons]
  show t.ops.length + _ ≤ _
  omega
def placeC (l : List (Int × Int)) : List Value := l.flatMap fun e => [.int .i64 e.1, .int .i64 e.2]
theorem placeC_append (l k : List (Int × Int)) : placeC (l ++ k) = placeC l ++ placeC k := by simp [placeC]
def lostP (ps : List Pl) : List (Int × Int) := (ps.filter fun x => decide (x.2.2.vk = 2)).map fun x => ((x.1 : Int), (x.2.1 : Int))
theorem lostP_hit (pre : List Pl) {x : Pl} (h : x.2.2.vk = 2) : lostP (pre ++ [x]) = lostP pre ++ [((x.1 : Int), (x.2.1 : Int))] := by simp [lostP, h]
theorem lostP_miss (pre : List Pl) {x : Pl} (h : ¬ x.2.2.vk = 2) : lostP (pre ++ [x]) = lostP pre := by simp [lostP, h]
theorem lostP_le (pre : List Pl) : (lostP pre).length ≤ pre.length := by
 unfold lostP
 rw [List.length_map]
 exact List.length_filter_le _ _
theorem info_place : (Tryz.prog.info? 27).map (fun i => (i.zero, i.size, i.bytes)) = some (some (.agg #[.int .i64 0, .int .i64 0]), 2, 16) := by kernel_rfl
end Go.Proofs.YtjhomlnlmpdklaaGreatDoor

set_option linter.unusedVariables false
set_option linter.unusedSimpArgs false
namespace Go.Proofs.YtjhomlnlmpdklaaGreatDoor
theorem any_same {α : Type} {p q : α → Bool} : ∀ {l : List α}, (∀ x ∈ l, p x = q x) → l.any p = l.any q
 | [], _ => rfl
 | x :: l, h => by
  rw [List.any_cons, List.any_cons, h x List.mem_cons_self, any_same fun y hy => h y (List.mem_cons_of_mem _ hy)]
theorem used_same {p q : Op4 → Bool} {l : List Tx} (h : ∀ t ∈ l, ∀ o ∈ t.ops, p o = q o) (i : Int) : usedK p l i = usedK q l i := by
 unfold usedK
 refine any_same fun t ht => ?_
 unfold txUse
 refine any_same fun o ho => ?_
 unfold opUse
 rw [h t ht o ho]
theorem kept_same {p q : Op4 → Bool} {h : Hst} (hs : ∀ t ∈ h.l, ∀ o ∈ t.ops, p o = q o) : keptH p h = keptH q h := by
 have hu : usedK p h.l = usedK q h.l := funext fun i => used_same hs i
 have hn : numK p h.l = numK q h.l := funext fun i => by unfold numK; rw [hu]
 unfold keptH keptK
 rw [hu]
 congr 1
 refine List.map_congr_left fun t ht => ?_
 unfold keptT keptO keyTo
 rw [hn, List.filter_congr (fun o ho => hs t ht o ho)]
theorem kept_ops {p : Op4 → Bool} {h : Hst} {t : Tx} (ht : t ∈ (keptH p h).l) : ∃ t0 ∈ h.l, t = keptT p h.l t0 := by
 obtain ⟨t0, h0, rfl⟩ := List.mem_map.1 ht
 exact ⟨t0, h0, rfl⟩
theorem kept_op {p : Op4 → Bool} {l : List Tx} {ops : List Op4} {o : Op4} (ho : o ∈ keptO p l ops) : ∃ o0 ∈ ops, p o0 = true ∧ o = keyTo p l o0 := by
 obtain ⟨o0, h0, rfl⟩ := List.mem_map.1 ho
 obtain ⟨h1, h2⟩ := List.mem_filter.1 h0
 exact ⟨o0, h1, h2, rfl⟩
theorem kept_none {h : Hst} {t : Tx} (ht : t ∈ (keptH notLost h).l) {o : Op4} (ho : o ∈ t.ops) : ¬ o.vk = 2 := by
 obtain ⟨t0, -, rfl⟩ := kept_ops ht
 obtain ⟨o0, -, h2, rfl⟩ := kept_op ho
 unfold notLost at h2
 simpa [keyTo] using h2
theorem keptK_sub (p : Op4 → Bool) (l : List Tx) (ks : List ByteArray) : (keptK p l ks).Sublist ks := by
 unfold keptK
 have h1 := (List.filter_sublist (l := ks.zipIdx) (p := fun x => usedK p l (x.2 : Int))).map Prod.fst
 rwa [show ks.zipIdx.map Prod.fst = ks by simp] at h1
theorem tab_sub {l k : List ByteArray} (hs : l.Sublist k) (h : tabB k = true) : tabB l = true := by
 unfold tabB at h ⊢
 rw [Bool.and_eq_true] at h ⊢
 refine ⟨List.all_eq_true.2 fun x hx => List.all_eq_true.1 h.1 x (hs.subset hx), of_rising _ ((rising_of _ h.2).sublist hs)⟩
theorem numK_mono (p : Op4 → Bool) (l : List Tx) {i j : Nat} (h : i ≤ j) : numK p l i ≤ numK p l j := by
  induction j with
  | zero => have : i = 0 := by omega
            rw [this]; exact Nat.le_refl _
  | succ j ih =>
    rw [numK_succ]
    rcases Nat.lt_or_ge i (j + 1) with h1 | h1
    · have := ih (by omega)
      omega
    · have : i = j + 1 := by omega
      subst this
      rw [← numK_succ]
      exact Nat.le_refl _
theorem numK_lt {p : Op4 → Bool} {l : List Tx} {i j : Nat} (h : i < j) (hu : usedK p l (i : Int) = true) : numK p l i < numK p l j := by
 have h1 := numK_mono p l (show i + 1 ≤ j by omega)
 rw [numK_succ, if_pos hu] at h1
 omega
theorem numK_onto {p : Op4 → Bool} {l : List Tx} {n i : Nat} (h : i < numK p l n) : ∃ k, k < n ∧ usedK p l (k : Int) = true ∧ numK p l k = i := by
 induction n with
 | zero => simp [numK] at h
 | succ n ih =>
  rw [numK_succ] at h
  by_cases h1 : i < numK p l n
  ·obtain ⟨k, h2, h3, h4⟩ := ih h1
   exact ⟨k, by omega, h3, h4⟩
  ·cases hu : usedK p l (n : Int) with
   | false => rw [hu] at h; simp at h; omega
   | true => rw [hu] at h; simp at h; exact ⟨n, by omega, hu, by omega⟩
theorem keptK_all (p : Op4 → Bool) (l : List Tx) (ks : List ByteArray) : (keptK p l ks).length = numK p l ks.length := by
 have h1 := keptK_len p l ks ks.length (Nat.le_refl _)
 rwa [List.take_length] at h1
theorem kept_may {p : Op4 → Bool} {h : Hst} (hm : mayH h = true) : mayH (keptH p h) = true := by
 unfold mayH at hm ⊢
 simp only [Bool.and_eq_true] at hm ⊢
 obtain ⟨h0, h1, h2, h3⟩ := hm
 refine ⟨h0, ?_, ?_, ?_⟩
 ·unfold namesB at h1 ⊢
  simp only [Bool.and_eq_true, decide_eq_true_eq] at h1 ⊢
  have hs := keptK_sub p h.l h.ks
  exact ⟨Nat.le_trans hs.length_le h1.1, tab_sub hs h1.2⟩
 ·unfold txsB at h2 ⊢
  simp only [Bool.and_eq_true, decide_eq_true_eq] at h2 ⊢
  obtain ⟨ha, hb, hc⟩ := h2
  refine ⟨by simpa [keptH] using ha, List.all_eq_true.2 fun t ht => ?_, ?_⟩
  ·obtain ⟨t0, ht0, rfl⟩ := kept_ops ht
   have hb0 := List.all_eq_true.1 hb t0 ht0
   unfold txB at hb0 ⊢
   simp only [Bool.and_eq_true, decide_eq_true_eq] at hb0 ⊢
   have := keptO_len p h.l t0.ops
   exact ⟨hb0.1, hb0.2.1, Nat.le_trans this hb0.2.2⟩
  ·have e : (keptH p h).l.map Tx.s = h.l.map Tx.s := by
    unfold keptH
    rw [List.map_map]
    rfl
   rw [e]
   exact hc
 ·unfold opsB at h3 ⊢
  simp only [Bool.and_eq_true] at h3 ⊢
  obtain ⟨ha, hb⟩ := h3
  have hkl : (keptH p h).ks.length = numK p h.l h.ks.length := keptK_all p h.l h.ks
  refine ⟨List.all_eq_true.2 fun t ht => List.all_eq_true.2 fun o ho => ?_, ?_⟩
  ·obtain ⟨t0, ht0, rfl⟩ := kept_ops ht
   obtain ⟨o0, ho0, hp, rfl⟩ := kept_op ho
   have h4 := List.all_eq_true.1 (List.all_eq_true.1 ha t0 ht0) o0 ho0
   unfold opB at h4 ⊢
   simp only [Bool.and_eq_true, decide_eq_true_eq] at h4 ⊢
   obtain ⟨⟨k0, k1⟩, h5⟩ := h4
   have hu : usedK p h.l ((o0.key.toNat : Nat) : Int) = true := by
    rw [show ((o0.key.toNat : Nat) : Int) = o0.key by omega]
    exact used_of ht0 ho0 hp
   have h6 : numK p h.l o0.key.toNat < numK p h.l h.ks.length := numK_lt (by omega) hu
   refine ⟨⟨?_, ?_⟩, h5⟩
   ·show (0 : Int) ≤ (numK p h.l o0.key.toNat : Int)
    omega
   ·show (numK p h.l o0.key.toNat : Int) < _
    rw [hkl]
    omega
  ·unfold useB
   refine List.all_eq_true.2 fun i hi => ?_
   have hi' := List.mem_range.1 hi
   rw [hkl] at hi'
   obtain ⟨k, hk, hu, hn⟩ := numK_onto hi'
   unfold usedK at hu
   obtain ⟨t, ht, hu⟩ := List.any_eq_true.1 hu
   unfold txUse at hu
   obtain ⟨o, ho, hu⟩ := List.any_eq_true.1 hu
   unfold opUse at hu
   simp only [Bool.and_eq_true, decide_eq_true_eq] at hu
   rw [decide_eq_true_eq]
   unfold keysL
   refine List.mem_flatMap.2 ⟨keptT p h.l t, List.mem_map.2 ⟨t, ht, rfl⟩, List.mem_map.2 ⟨keyTo p h.l o, List.mem_map.2 ⟨o, List.mem_filter.2 ⟨ho, hu.2⟩, rfl⟩, ?_⟩⟩
   show (numK p h.l o.key.toNat : Int) = (i : Int)
   rw [hu.1, show ((k : Int)).toNat = k by omega, hn]
theorem kept_small {p : Op4 → Bool} {h : Hst} (hs : HSmall h) : HSmall (keptH p h) where
 s := hs.s
 k := fun x hx => hs.k x ((keptK_sub p h.l h.ks).subset hx)
 ns := hs.ns
 nk := Nat.le_trans (keptK_sub p h.l h.ks).length_le hs.nk
 nl := by
  have := hs.nl
  simpa [keptH] using this
 no := fun t ht => by
  obtain ⟨t0, ht0, rfl⟩ := kept_ops ht
  exact Nat.le_trans (keptO_len p h.l t0.ops) (hs.no t0 ht0)
/-- What has no lost reads stays as it is. -/
theorem kept_stays {h : Hst} (hm : mayH h = true) : keptH notLost (keptH notLost h) = keptH notLost h := by
 rw [kept_same (q := anyOp) (h := keptH notLost h) (fun t ht o ho => by
  have := kept_none ht ho
  unfold notLost anyOp
  simpa using this)]
 exact keptH_anyOp (kept_may hm)
theorem kept_lost (h : Hst) : lostP (plsL (keptH notLost h).l) = [] := by
 unfold lostP
 rw [List.filter_eq_nil_iff.2 (fun x hx => ?_)]
 ·rfl
 ·unfold plsL plsT at hx
  obtain ⟨y, hy, hx⟩ := List.mem_flatMap.1 hx
  obtain ⟨z, hz, rfl⟩ := List.mem_map.1 hx
  obtain ⟨y1, y2⟩ := y
  obtain ⟨z1, z2⟩ := z
  have h1 := List.mem_zipIdx hy
  have h2 := List.mem_zipIdx hz
  simp at h1 h2
  have h3 : y1 ∈ (keptH notLost h).l := by rw [h1.2]; exact List.getElem_mem _
  have h4 : z1 ∈ y1.ops := by rw [h2.2]; exact List.getElem_mem _
  have := kept_none h3 h4
  simpa using this
theorem filter_at {p : Op4 → Bool} {ops : List Op4} {j : Nat} {o : Op4} (h : ops[j]? = some o) (hp : p o = true) : (ops.filter p)[((ops.take j).filter p).length]? = some o := by
 have h1 : ops = ops.take j ++ o :: ops.drop (j + 1) := by
  obtain ⟨hj, rfl⟩ := List.getElem?_eq_some_iff.1 h
  rw [List.getElem_cons_drop, List.take_append_drop]
 conv => lhs; arg 1; rw [h1]
 rw [List.filter_append, List.filter_cons_of_pos hp, List.getElem?_append_right (Nat.le_refl _)]
 simp
theorem kept_at {l : List Tx} {ops : List Op4} {j : Nat} {o : Op4} (h : ops[j]? = some o) (hp : ¬ o.vk = 2) : (keptO notLost l ops)[notL (ops.take j)]? = some (keyTo notLost l o) := by
 unfold keptO notL
 rw [List.getElem?_map, filter_at h (by unfold notLost; simpa using hp)]
 rfl
end Go.Proofs.YtjhomlnlmpdklaaGreatDoor

set_option linter.unusedVariables false
set_option linter.unusedSimpArgs false
namespace Go.Proofs.YtjhomlnlmpdklaaGreatDoor
open Go.RowKit

deriving instance DecidableEq for Op4, Tx, Hst
def neqOp (xw : Bool) (xk xv xn : Int) (yw : Bool) (yk yv yn : Int) : Bool := !(decide (Op4.mk xw xk xv xn = Op4.mk yw yk yv yn))
theorem run_neq_op4 (xw yw : Bool) (xk xv xn yk yv yn : Int) (w : World) :
  (binOp .neq 46 (.agg #[.bool xw, .int .i64 xk, .int .i64 xv, .int .i64 xn]) (.agg #[.bool yw, .int .i64 yk, .int .i64 yv, .int .i64 yn])).run Tryz.prog w = .ok (.bool (neqOp xw xk xv xn yw yk yv yn)) w := by
 unfold neqOp
 by_cases h0 : xw = yw
 ·subst h0
  by_cases h1 : xk = yk
  ·subst h1
   by_cases h2 : xv = yv
   ·subst h2
    by_cases h3 : xn = yn
    ·subst h3
     go_simp
    ·have e : (xn == yn) = false := by simpa using h3
     rw [decide_eq_false (by simpa using h3)]
     go_simp
   ·have e : (xv == yv) = false := by simpa using h2
    rw [decide_eq_false (by intro e; injection e; contradiction)]
    go_simp
  ·have e : (xk == yk) = false := by simpa using h1
   rw [decide_eq_false (by intro e; injection e; contradiction)]
   go_simp
 ·have e : (xw == yw) = false := by simpa using h0
  rw [decide_eq_false (by intro e; injection e; contradiction)]
  go_simp
end Go.Proofs.YtjhomlnlmpdklaaGreatDoor

set_option linter.unusedVariables false
set_option linter.unusedSimpArgs false
namespace Go.Proofs.YtjhomlnlmpdklaaGreatDoor
theorem textb_ne {x y : ByteArray} (h : ¬ x = y) : ¬ x.toList = y.toList := fun e => h (by
 rw [Lib.toList_data, Lib.toList_data] at e
 obtain ⟨⟨x⟩⟩ := x
 obtain ⟨⟨y⟩⟩ := y
 simpa using e)
theorem takeG_eq {α : Type} {xs ys : List α} {k : Nat} {x y : α} (h : xs.take k = ys.take k) (hx : xs[k]? = some x) (hy : ys[k]? = some y) : (xs.take (k + 1) = ys.take (k + 1)) ↔ x = y := by
 rw [List.take_add_one, List.take_add_one, hx, hy, h]
 simp
end Go.Proofs.YtjhomlnlmpdklaaGreatDoor

set_option linter.unusedVariables false
set_option linter.unusedSimpArgs false
namespace Go.Proofs.YtjhomlnlmpdklaaGreatDoor
open Go.RowKit
open Go.Lib hiding intOf
attribute [local go_sem ↓] Go.wp_at_zero Go.wp_at_succ
attribute [local go_sem ↓] run_neq_op4
set_option maxHeartbeats 2000000 in
theorem rtexts_any (A A' : Option Addr) (n m c d : Nat) (xs ys : List ByteArray) (w : World) (B B' : Nat) (hA : Row w B A (strs xs)) (hA' : Row w B' A' (strs ys)) (hn : xs.length = n) (hm : ys.length = m) (hnm : n ≤ 1000000) (hmm : m ≤ 1000000) :
  Calls Tryz.prog 46 #[.slice A n c, .slice A' m d] w fun e w' => e = .returned (.bool (decide (xs = ys))) ∧ ∃ k, w.drewN k = w' := by
 have HA := Lib.hid hA
 have HA' := Lib.hid hA'
 have HN := Lib.hid hn
 have HM := Lib.hid hm
 clear hA hA' hn hm
 by_cases hlen : n = m
 ·subst hlen
  go_enter Tryz.func46, Tryz.ntmps46
  go_wp2_with fail
  go_loopw [5] (fun i wr => ∃ k q : Nat, i = .int .i64 k ∧ k ≤ n ∧ Hid (xs.take k = ys.take k) ∧ Hid (wr = w.drewN q)) (fun i _ => n - (intOf i).toNat)
  case atStart => exact ⟨0, 0, rfl, by omega, rfl, rfl⟩
  case round =>
   obtain ⟨k, q, rfl, hk, hsame, hw⟩ := hrel
   have hxl := HN.out
   have hyl := HM.out
   by_cases hlt : k < n
   ·obtain ⟨x, hx⟩ : ∃ x, xs[k]? = some x := ⟨_, List.getElem?_eq_getElem (by omega)⟩
    obtain ⟨y, hy⟩ : ∃ y, ys[k]? = some y := ⟨_, List.getElem?_eq_getElem (by omega)⟩
    have HX := Lib.hid hx
    have HY := Lib.hid hy
    obtain ⟨b, off, rfl, -, hbw, hc⟩ := HA.out.open_ (k := k) (by rw [strs, List.length_map, HN.out]; exact hlt)
    obtain ⟨b', off', rfl, -, hbw', hc'⟩ := HA'.out.open_ (k := k) (by rw [strs, List.length_map, HM.out]; exact hlt)
    have hcx : wr.cell? ⟨b, off + k, none⟩ = some (.string x) := by rw [hw.out]; exact hc k _ (by rw [strs, List.getElem?_map, hx]; rfl)
    have hcy : wr.cell? ⟨b', off' + k, none⟩ = some (.string y) := by rw [hw.out]; exact hc' k _ (by rw [strs, List.getElem?_map, hy]; rfl)
    clear hc hc' 
    have hk0 : (0 : Int) ≤ (k : Int) := Int.natCast_nonneg _
    have hk1 : (k : Int) < (n : Int) := by omega
    clear hx hy hxl hyl
    by_cases hxy : x = y
    ·have hb : (x.toList == y.toList) = true := by simp [hxy]
     have HXY := Lib.hid hxy
     clear hxy
     go_wp2_with fail
     go_quiet (fail)
     go_wp2
     go_roundw
     case rel =>
      refine ⟨k + 1, q + nq, by go_num, by omega, (takeG_eq hsame.out HX.out HY.out).2 HXY.out, ?_⟩
      show _ = _
      rw [hw.out, World.drewN_drewN]
     case measure => simp [intOf]; omega
    ·have hb := textb_ne hxy
     have hb2 : (x.toList == y.toList) = false := by simpa using hb
     clear hb
     have HXY := Lib.hid hxy
     clear hxy
     go_wp2_with fail
     go_quiet (fail)
     go_wp2
     go_ret
     refine ⟨?_, q + nq, ?_⟩
     ·have : xs ≠ ys := fun e => HXY.out (by
       have h1 := HX.out
       have h2 := HY.out
       rw [e] at h1
       rw [h1] at h2
       exact Option.some.inj h2)
      simp [this]
     ·rw [hw.out, World.drewN_drewN]
   ·have hge : n ≤ k := by omega
    clear hxl hyl
    go_wp2
    go_ret
    refine ⟨?_, q, hw.out.symm⟩
    have h1 := hsame.out
    have h2 := HN.out
    have h3 := HM.out
    rw [List.take_of_length_le (by omega), List.take_of_length_le (by omega)] at h1
    simp [h1]
 ·have hb : ((n : Int) != (m : Int)) = true := by simp; omega
  have hne : xs ≠ ys := fun e => hlen (by rw [← HN.out, ← HM.out, e])
  have HNE := Lib.hid hne
  clear hlen hne
  go_enter Tryz.func46, Tryz.ntmps46
  go_wp2
  go_ret
  exact ⟨by simp [HNE.out], 0, rfl⟩
set_option maxHeartbeats 2000000 in
theorem rsameops_any (A A' : Option Addr) (n m c d : Nat) (xs ys : List Op4) (w : World) (B B' : Nat) (hA : Row w B A (opC xs)) (hA' : Row w B' A' (opC ys)) (hn : xs.length = n) (hm : ys.length = m) (hnm : n ≤ 1000000) (hmm : m ≤ 1000000) :
  Calls Tryz.prog 47 #[.slice A n c, .slice A' m d] w fun e w' => e = .returned (.bool (decide (xs = ys))) ∧ ∃ k, w.drewN k = w' := by
 have HA := Lib.hid hA
 have HA' := Lib.hid hA'
 have HN := Lib.hid hn
 have HM := Lib.hid hm
 clear hA hA' hn hm
 by_cases hlen : n = m
 ·subst hlen
  go_enter Tryz.func47, Tryz.ntmps47
  go_wp2_with fail
  go_loopw [5] (fun i wr => ∃ k q : Nat, i = .int .i64 k ∧ k ≤ n ∧ Hid (xs.take k = ys.take k) ∧ Hid (wr = w.drewN q)) (fun i _ => n - (intOf i).toNat)
  case atStart => exact ⟨0, 0, rfl, by omega, rfl, rfl⟩
  case round =>
   obtain ⟨k, q, rfl, hk, hsame, hw⟩ := hrel
   have hxl := HN.out
   have hyl := HM.out
   by_cases hlt : k < n
   ·obtain ⟨x, hx⟩ : ∃ x, xs[k]? = some x := ⟨_, List.getElem?_eq_getElem (by omega)⟩
    obtain ⟨y, hy⟩ : ∃ y, ys[k]? = some y := ⟨_, List.getElem?_eq_getElem (by omega)⟩
    have HX := Lib.hid hx
    have HY := Lib.hid hy
    obtain ⟨b, off, rfl, -, hbw, h1⟩ := row_op HA.out hx
    obtain ⟨b', off', rfl, -, hbw', h2⟩ := row_op HA'.out hy
    obtain ⟨a0, a1, a2, a3⟩ := (show OpAt wr b (off + k * 4) x by rw [hw.out]; exact h1.only ((Only.refl [] w).drewN q) hbw (by simp))
    obtain ⟨d0, d1, d2, d3⟩ := (show OpAt wr b' (off' + k * 4) y by rw [hw.out]; exact h2.only ((Only.refl [] w).drewN q) hbw' (by simp))
    obtain ⟨xw, xk, xv, xn⟩ := x
    obtain ⟨yw, yk, yv, yn⟩ := y
    dsimp only at a0 a1 a2 a3 d0 d1 d2 d3
    clear h1 h2
    have hk0 : (0 : Int) ≤ (k : Int) := Int.natCast_nonneg _
    have hk1 : (k : Int) < (n : Int) := by omega
    clear hx hy hxl hyl
    by_cases hxy : Op4.mk xw xk xv xn = Op4.mk yw yk yv yn
    ·have hb : neqOp xw xk xv xn yw yk yv yn = false := by unfold neqOp; rw [decide_eq_true hxy]; rfl
     have HXY := Lib.hid hxy
     clear hxy
     go_wp2_with fail
     go_quiet (fail)
     go_wp2
     go_roundw
     case rel =>
      refine ⟨k + 1, q + nq, by go_num, by omega, (takeG_eq hsame.out HX.out HY.out).2 HXY.out, ?_⟩
      show _ = _
      rw [hw.out, World.drewN_drewN]
     case measure => simp [intOf]; omega
    ·have hb : neqOp xw xk xv xn yw yk yv yn = true := by unfold neqOp; rw [decide_eq_false hxy]; rfl
     have HXY := Lib.hid hxy
     clear hxy
     go_wp2_with fail
     go_quiet (fail)
     go_wp2
     go_ret
     refine ⟨?_, q + nq, ?_⟩
     ·have : xs ≠ ys := fun e => HXY.out (by
       have h1 := HX.out
       have h2 := HY.out
       rw [e] at h1
       rw [h1] at h2
       exact Option.some.inj h2)
      simp [this]
     ·rw [hw.out, World.drewN_drewN]
   ·have hge : n ≤ k := by omega
    clear hxl hyl
    go_wp2
    go_ret
    refine ⟨?_, q, hw.out.symm⟩
    have h1 := hsame.out
    have h2 := HN.out
    have h3 := HM.out
    rw [List.take_of_length_le (by omega), List.take_of_length_le (by omega)] at h1
    simp [h1]
 ·have hb : ((n : Int) != (m : Int)) = true := by simp; omega
  have hne : xs ≠ ys := fun e => hlen (by rw [← HN.out, ← HM.out, e])
  have HNE := Lib.hid hne
  clear hlen hne
  go_enter Tryz.func47, Tryz.ntmps47
  go_wp2
  go_ret
  exact ⟨by simp [HNE.out], 0, rfl⟩
end Go.Proofs.YtjhomlnlmpdklaaGreatDoor

set_option linter.unusedVariables false
set_option linter.unusedSimpArgs false
namespace Go.Proofs.YtjhomlnlmpdklaaGreatDoor
open Go.RowKit
def eqH (g h : Hst) : Bool := decide (g.ss = h.ss) && (decide (g.ks = h.ks) && decide (g.l = h.l))
end Go.Proofs.YtjhomlnlmpdklaaGreatDoor

set_option linter.unusedVariables false
set_option linter.unusedSimpArgs false
namespace Go.Proofs.YtjhomlnlmpdklaaGreatDoor
open Go.RowKit
set_option maxHeartbeats 400000 in
theorem rmay_any (k n : Int) (w : World) : Calls Tryz.prog 58 #[.agg #[.int .i64 k, .int .i64 n]] w fun e w' => e = .returned (.bool (mayB k n)) ∧ Only [] w w' := by
 unfold mayB
 by_cases h1 : k = 1
 ·subst h1
  go_enter Tryz.func58, Tryz.ntmps58
  go_wp2
  go_ret
  exact ⟨by simp, (Only.refl _ _).alloc _⟩
 ·have h1' : (k == 1) = false := by simp [h1]
  have H1 := Lib.hid h1
  clear h1
  by_cases h0 : k = 0
  ·subst h0
   go_enter Tryz.func58, Tryz.ntmps58
   go_wp2
   go_ret
   exact ⟨ret_boolv (by simp; try (rw [Bool.eq_iff_iff]; simp)), (Only.refl _ _).alloc _⟩
  ·have h0' : (k == 0) = false := by simp [h0]
   have H0 := Lib.hid h0
   clear h0
   by_cases h2 : k = 2
   ·subst h2
    go_enter Tryz.func58, Tryz.ntmps58
    go_wp2
    go_ret
    exact ⟨ret_boolv (by simp; try (rw [Bool.eq_iff_iff]; simp)), (Only.refl _ _).alloc _⟩
   ·have h2' : (k == 2) = false := by simp [h2]
    have H2 := Lib.hid h2
    clear h2
    go_enter Tryz.func58, Tryz.ntmps58
    go_wp2
    go_ret
    exact ⟨ret_boolv (by simp [H0.out, H1.out, H2.out]), (Only.refl _ _).alloc _⟩
end Go.Proofs.YtjhomlnlmpdklaaGreatDoor

set_option linter.unusedVariables false
set_option linter.unusedSimpArgs false
namespace Go.Proofs.YtjhomlnlmpdklaaGreatDoor
open Go.RowKit
def markC (n : Nat) (l : List Int) : Array Value := ((List.range n).map fun i : Nat => Value.bool (decide ((i : Int) ∈ l))).toArray
theorem markC_size (n : Nat) (l : List Int) : (markC n l).size = n := by simp [markC]
theorem markC_at (n : Nat) (l : List Int) (i : Nat) (hi : i < n) : (markC n l)[i]? = some (.bool (decide ((i : Int) ∈ l))) := by simp [markC, hi]
theorem markC_snoc (n : Nat) (l : List Int) (i : Nat) (hi : i < n) : markC n (l ++ [(i : Int)]) = (markC n l).setIfInBounds i (.bool true) := by
 apply Array.ext_getElem?
 intro j
 by_cases hj : j < n
 ·rw [markC_at _ _ _ hj, Array.getElem?_setIfInBounds]
  by_cases hij : i = j
  ·subst hij
   rw [if_pos rfl, if_pos (by rw [markC_size]; exact hi)]
   simp
  ·rw [if_neg hij, markC_at _ _ _ hj]
   have : (j : Int) ∈ l ++ [(i : Int)] ↔ (j : Int) ∈ l := by
    simp
    omega
   simp [this]
 ·rw [Array.getElem?_eq_none (by rw [markC_size]; omega), Array.getElem?_eq_none (by simp [markC_size]; omega)]
theorem made_mark (n : Nat) : madeCells #[.bool false] n = markC n [] := by
 apply Array.ext_getElem?
 intro j
 by_cases hj : j < n <;> simp [madeCells, markC, Nat.mod_one, hj]
theorem info_bool : (Tryz.prog.info? 4).map (fun i => (i.zero, i.size, i.bytes)) = some (some (.bool false), 1, 1) := by kernel_rfl
end Go.Proofs.YtjhomlnlmpdklaaGreatDoor
