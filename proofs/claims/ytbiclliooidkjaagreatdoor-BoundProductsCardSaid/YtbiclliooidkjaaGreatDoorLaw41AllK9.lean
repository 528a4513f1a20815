/- Parts. -/
import Derived.Test.YtbiclliooidkjaaGreatDoorLaw41AllK8
set_option maxRecDepth 10000
set_option maxHeartbeats 16000000
set_option linter.unusedVariables false
set_option linter.unusedSimpArgs false
namespace Go.Proofs.YtbiclliooidkjaaGreatDoor
open Go.RowKit
open Go.Lib hiding intOf
attribute [local go_sem ↓] Go.wp_at_zero Go.wp_at_succ
def mayH (h : Hst) : Bool := namesB h.ss 20 && (namesB h.ks 40 && (txsB h && opsB h))
def errH (h : Hst) : Int := if mayH h = true then 0 else 4
structure HIn (w : World) (B : Nat) (A0 A1 A2 : Option Addr) (n0 n1 n2 : Nat) (h : Hst) : Prop where
 at_ : HAt w B A0 A1 A2 h
 n0 : h.ss.length = n0
 n1 : h.ks.length = n1
 n2 : h.l.length = n2
 sm : HSmall h
 u : UTabs w
theorem HIn.only {S : List Nat} {w w' : World} {B : Nat} {A0 A1 A2 : Option Addr} {n0 n1 n2 : Nat} {h : Hst} (g : HIn w B A0 A1 A2 n0 n1 n2 h) (ho : Only S w w') (hS : ∀ i ∈ S, B ≤ i) (hU : UTabs w') : HIn w' B A0 A1 A2 n0 n1 n2 h :=
 ⟨g.at_.only ho hS, g.n0, g.n1, g.n2, g.sm, hU⟩
theorem HIn.up {w : World} {B : Nat} {A0 A1 A2 : Option Addr} {n0 n1 n2 : Nat} {h : Hst} (g : HIn w B A0 A1 A2 n0 n1 n2 h) : HIn w w.heap.size A0 A1 A2 n0 n1 n2 h := ⟨g.at_.up, g.n0, g.n1, g.n2, g.sm, g.u⟩
theorem HIn.same {w w' : World} {B : Nat} {A0 A1 A2 : Option Addr} {n0 n1 n2 : Nat} {h : Hst} (g : HIn w B A0 A1 A2 n0 n1 n2 h) (ho : Only [] w w') : HIn w' B A0 A1 A2 n0 n1 n2 h :=
 g.only ho (fun _ h => by cases h) (g.u.only ho)
theorem mayH_no0 {h : Hst} (h0 : namesB h.ss 20 = false) : errH h = 4 := by unfold errH mayH; rw [h0]; rfl
theorem mayH_no1 {h : Hst} (h0 : namesB h.ss 20 = true) (h1 : namesB h.ks 40 = false) : errH h = 4 := by unfold errH mayH; rw [h0, h1]; rfl
theorem mayH_no2 {h : Hst} (h0 : namesB h.ss 20 = true) (h1 : namesB h.ks 40 = true) (h2 : txsB h = false) : errH h = 4 := by unfold errH mayH; rw [h0, h1, h2]; rfl
theorem mayH_no3 {h : Hst} (h0 : namesB h.ss 20 = true) (h1 : namesB h.ks 40 = true) (h2 : txsB h = true) (h3 : opsB h = false) : errH h = 4 := by unfold errH mayH; rw [h0, h1, h2, h3]; rfl
theorem mayH_yes {h : Hst} (h0 : namesB h.ss 20 = true) (h1 : namesB h.ks 40 = true) (h2 : txsB h = true) (h3 : opsB h = true) : errH h = 0 := by unfold errH mayH; rw [h0, h1, h2, h3]; rfl
theorem namesB_le {l : List ByteArray} {m : Nat} (h : namesB l m = true) : l.length ≤ m := by
 unfold namesB at h;simp at h;exact h.1
theorem hmay_any (A0 A1 A2 : Option Addr) (n0 n1 n2 c0 c1 c2 B : Nat) (h : Hst) (w : World) (hg : HIn w B A0 A1 A2 n0 n1 n2 h) :
  Calls Tryz.prog 26 #[hval A0 A1 A2 n0 n1 n2 c0 c1 c2] w fun e w' => e = .returned (.int .i64 (errH h)) ∧ Only [] w w' := by
 have HI := Hd hg;have HN0 := Hd (fun w' (O : Only [] w w') => names_any A0 n0 c0 B 20 h.ss w' hg.n0 (by have := hg.sm.ns; rw [hg.n0] at this; omega) hg.sm.s (hg.same O).at_.r0 (hg.same O).u);have HN1 := Hd (fun w' (O : Only [] w w') => names_any A1 n1 c1 B 40 h.ks w' hg.n1 (by have := hg.sm.nk; rw [hg.n1] at this; omega) hg.sm.k (hg.same O).at_.r1 (hg.same O).u);have HTX := Hd (fun (h0 : namesB h.ss 20 = true) w' (O : Only [] w w') => txs_any A0 A1 A2 n0 n1 n2 c0 c1 c2 B h w' (hg.same O).at_ hg.n0 hg.n2 (by have := namesB_le h0; rw [hg.n0] at this; exact this) (by have := hg.sm.nl; rw [hg.n2] at this; exact this));have HOP := Hd (fun (h0 : namesB h.ks 40 = true) w' (O : Only [] w w') => ops_any A0 A1 A2 n0 n1 n2 c0 c1 c2 B h w' (hg.same O).at_ hg.n1 hg.n2 (by have := namesB_le h0; rw [hg.n1] at this; exact this) (by have := hg.sm.nl; rw [hg.n2] at this; exact this) hg.sm.no);unfold hval at HTX HOP ⊢;have HO := Hd ((Only.refl [] w).alloc (.cells #[.slice A0 n0 c0, .slice A1 n1 c1, .slice A2 n2 c2] 25));have HB := Hd (Blk.made w 25 #[.slice A0 n0 c0, .slice A1 n1 c1, .slice A2 n2 c2]);clear hg;have F0 := Hd (HN0.out _ HO.out)
 cases h0 : namesB h.ss 20 with
 | false =>
  rw [h0] at F0;have HE := Hd (mayH_no0 h0);clear h0;go_enter Tryz.func26, Tryz.ntmps26;go_wp2_with fail
  refine (F0.out).mono ?_;rintro e w1 ⟨rfl, O1⟩;have HO1 := Hd (HO.out.trans O1);clear O1;go_wp2
  go_ret
  exact ⟨by rw [HE.out]; rfl, HO1.out⟩
 | true =>
  rw [h0] at F0;have HTX1 := Hd (HTX.out h0);have H0 := Hd h0;clear HTX h0;go_enter Tryz.func26, Tryz.ntmps26;go_wp2_with fail
  refine (F0.out).mono ?_;rintro e w1 ⟨rfl, O1⟩;have HO1 := Hd (HO.out.trans O1);have b1 := O1.blk HB.out (by simp);clear O1;have HB1 := Hd b1;have l1 := b1.lt;have x1 := b1.at_ 1;simp at x1;clear b1;have F1 := Hd (HN1.out _ HO1.out)
  cases h1 : namesB h.ks 40 with
  | false =>
   rw [h1] at F1;have HE := Hd (mayH_no1 H0.out h1);clear h1;go_wp2_with fail
   refine (F1.out).mono ?_;rintro e w2 ⟨rfl, O2⟩;have HO2 := Hd (HO1.out.trans O2);clear O2;go_wp2
   go_ret
   exact ⟨by rw [HE.out]; rfl, HO2.out⟩
  | true =>
   rw [h1] at F1;have HOP1 := Hd (HOP.out h1);have H1 := Hd h1;clear HOP h1;go_wp2_with fail
   refine (F1.out).mono ?_;rintro e w2 ⟨rfl, O2⟩;have HO2 := Hd (HO1.out.trans O2);have b2 := O2.blk HB1.out (by simp);clear O2 l1 x1;have HB2 := Hd b2;have l2 := b2.lt;have y0 := b2.at_ 0;have y1 := b2.at_ 1;have y2 := b2.at_ 2;simp at y0 y1 y2;clear b2;have F2 := Hd (HTX1.out _ HO2.out)
   cases h2 : txsB h with
   | false =>
    rw [h2] at F2;have HE := Hd (mayH_no2 H0.out H1.out h2);clear h2;go_wp2_with fail
    refine (F2.out).mono ?_;rintro e w3 ⟨rfl, O3⟩;have HO3 := Hd (HO2.out.trans O3);clear O3;go_wp2
    go_ret
    exact ⟨by rw [HE.out]; rfl, HO3.out⟩
   | true =>
    rw [h2] at F2;have H2 := Hd h2;clear h2;go_wp2_with fail
    refine (F2.out).mono ?_;rintro e w3 ⟨rfl, O3⟩;have HO3 := Hd (HO2.out.trans O3);have b3 := O3.blk HB2.out (by simp);clear O3 l2 y0 y1 y2;have l3 := b3.lt;have y0 := b3.at_ 0;have y1 := b3.at_ 1;have y2 := b3.at_ 2;simp at y0 y1 y2;clear b3;have F3 := Hd (HOP1.out _ HO3.out)
    cases h3 : opsB h with
    | false =>
     rw [h3] at F3;have HE := Hd (mayH_no3 H0.out H1.out H2.out h3);clear h3;go_wp2_with fail
     refine (F3.out).mono ?_;rintro e w4 ⟨rfl, O4⟩;have HO4 := Hd (HO3.out.trans O4);clear O4;go_wp2
     go_ret
     exact ⟨by rw [HE.out]; rfl, HO4.out⟩
    | true =>
     rw [h3] at F3;have HE := Hd (mayH_yes H0.out H1.out H2.out h3);clear h3;go_wp2_with fail
     refine (F3.out).mono ?_;rintro e w4 ⟨rfl, O4⟩;have HO4 := Hd (HO3.out.trans O4);clear O4;go_wp2
     go_ret
     exact ⟨by rw [HE.out]; rfl, HO4.out⟩
end Go.Proofs.YtbiclliooidkjaaGreatDoor
namespace Go.Proofs.YtbiclliooidkjaaGreatDoor
def opUse (p : Op4 → Bool) (i : Int) (o : Op4) : Bool := decide (o.key = i) && p o
def txUse (p : Op4 → Bool) (i : Int) (t : Tx) : Bool := t.ops.any (opUse p i)
def usedK (p : Op4 → Bool) (l : List Tx) (i : Int) : Bool := l.any (txUse p i)
def numK (p : Op4 → Bool) (l : List Tx) (i : Nat) : Nat := ((List.range i).filter fun k : Nat => usedK p l (k : Int)).length
def keptK (p : Op4 → Bool) (l : List Tx) (ks : List ByteArray) : List ByteArray := (ks.zipIdx.filter fun x => usedK p l (x.2 : Int)).map Prod.fst
def keyTo (p : Op4 → Bool) (l : List Tx) (o : Op4) : Op4 := { o with key := (numK p l o.key.toNat : Int) }
def keptO (p : Op4 → Bool) (l : List Tx) (ops : List Op4) : List Op4 := (ops.filter p).map (keyTo p l)
def keptT (p : Op4 → Bool) (l : List Tx) (t : Tx) : Tx := { t with ops := keptO p l t.ops }
def keptH (p : Op4 → Bool) (h : Hst) : Hst := ⟨h.ss, keptK p h.l h.ks, h.l.map (keptT p h.l)⟩
theorem numK_succ (p : Op4 → Bool) (l : List Tx) (i : Nat) : numK p l (i + 1) = numK p l i + if usedK p l (i : Int) = true then 1 else 0 := by
 unfold numK;rw [List.range_succ, List.filter_append, List.length_append]
 cases h : usedK p l (i : Int) <;> simp [h]
theorem numK_le (p : Op4 → Bool) (l : List Tx) (i : Nat) : numK p l i ≤ i := by
 unfold numK;exact Nat.le_trans (List.length_filter_le _ _) (by simp)
theorem keptK_take {p : Op4 → Bool} {l : List Tx} {ks : List ByteArray} {i : Nat} {s : ByteArray} (h : ks[i]? = some s) :
  keptK p l (ks.take (i + 1)) = keptK p l (ks.take i) ++ if usedK p l (i : Int) = true then [s] else [] := by
 have hk := (List.getElem?_eq_some_iff.1 h).1;unfold keptK;rw [List.take_add_one, h, List.zipIdx_append, List.filter_append, List.map_append, List.length_take, Nat.min_eq_left (Nat.le_of_lt hk)]
 cases hp : usedK p l (i : Int) <;> simp [hp, List.zipIdx]
theorem keptK_len (p : Op4 → Bool) (l : List Tx) (ks : List ByteArray) (i : Nat) (hi : i ≤ ks.length) : (keptK p l (ks.take i)).length = numK p l i := by
 induction i with
 | zero => rfl
 | succ i ih =>
  obtain ⟨s, hs⟩ : ∃ s, ks[i]? = some s := ⟨_, List.getElem?_eq_getElem (by omega)⟩;rw [keptK_take hs, List.length_append, ih (by omega), numK_succ]
  cases usedK p l (i : Int) <;> simp
theorem keptO_take {p : Op4 → Bool} {l : List Tx} {ops : List Op4} {j : Nat} {o : Op4} (h : ops[j]? = some o) :
  keptO p l (ops.take (j + 1)) = keptO p l (ops.take j) ++ if p o = true then [keyTo p l o] else [] := by
 unfold keptO;rw [List.take_add_one, h, List.filter_append, List.map_append]
 cases hp : p o <;> simp [hp]
theorem keptO_len (p : Op4 → Bool) (l : List Tx) (ops : List Op4) : (keptO p l ops).length ≤ ops.length := by
 unfold keptO;rw [List.length_map];exact List.length_filter_le _ _
theorem used_of {p : Op4 → Bool} {l : List Tx} {t : Tx} {o : Op4} (ht : t ∈ l) (ho : o ∈ t.ops) (hp : p o = true) : usedK p l o.key = true :=
 List.any_eq_true.2 ⟨t, ht, List.any_eq_true.2 ⟨o, ho, by unfold opUse; simp [hp]⟩⟩
def idxO {α : Type} (q : α → Bool) (l : List α) : Int := match l.findIdx? q with | some i => (i : Int) | none => -1
theorem idxO_some {α : Type} {q : α → Bool} {l : List α} {k : Nat} {x : α} (hk : l[k]? = some x) (hq : q x = true) (hn : ∀ j y, j < k → l[j]? = some y → q y = false) : idxO q l = k := by
 unfold idxO;have : l.findIdx? q = some k := by
  rw [List.findIdx?_eq_some_iff_getElem];obtain ⟨h1, h2⟩ := List.getElem?_eq_some_iff.1 hk;refine ⟨h1, by rw [h2]; exact hq, fun j hj => ?_⟩;have := hn j _ hj (List.getElem?_eq_getElem (by omega))
  simpa using this
 rw [this]
theorem idxO_none {α : Type} {q : α → Bool} {l : List α} (hn : ∀ (j : Nat) y, l[j]? = some y → q y = false) : idxO q l = -1 := by
 unfold idxO;have : l.findIdx? q = none := by
  rw [List.findIdx?_eq_none_iff];intro y hy;obtain ⟨j, hj⟩ := List.mem_iff_getElem?.1 hy;exact hn j y hj
 rw [this]
theorem idxO_any {α : Type} (q : α → Bool) (l : List α) : decide (0 ≤ idxO q l) = l.any q := by
 unfold idxO
 cases h : l.findIdx? q with
 | none =>
  rw [List.findIdx?_eq_none_iff] at h;have : l.any q = false := by
   rw [List.any_eq_false];intro x hx;simp [h x hx]
  rw [this]
  rfl
 | some i =>
  rw [List.findIdx?_eq_some_iff_getElem] at h;obtain ⟨h1, h2, -⟩ := h;rw [List.any_eq_true.2 ⟨l[i], List.getElem_mem h1, h2⟩];simp
end Go.Proofs.YtbiclliooidkjaaGreatDoor
