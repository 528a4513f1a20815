/- Parts. -/
import Derived.Maps.OwnOps
import Derived.Test.YtghimogdeijgdaaGreatDoorLaw17AllK34
set_option maxRecDepth 10000
set_option maxHeartbeats 16000000
set_option linter.unusedVariables false
set_option linter.unusedSimpArgs false
namespace Go.Proofs.YtghimogdeijgdaaGreatDoor
theorem fillT_take {l : List Tx} {k : Nat} {t : Tx} (h : l[k]? = some t) (cs : List Bool) (vs : List V2) : fillT (l.take (k + 1)) cs vs = fillT (l.take k) cs vs ++ [⟨t.s, if cs.getD k false = true then 1 else 2, fillO t.ops (vs.drop (lostT (l.take k)))⟩] := by
 have hk := (List.getElem?_eq_some_iff.1 h).1;rw [take_one h, fillT_snoc, List.length_take, Nat.min_eq_left (Nat.le_of_lt hk)]
theorem lostT_take {l : List Tx} {k : Nat} {t : Tx} (h : l[k]? = some t) : lostT (l.take (k + 1)) = lostT (l.take k) + lostN t.ops := by
 rw [take_one h, lostT_append];simp [lostT]
theorem lostN_take {l : List Op4} {j : Nat} {o : Op4} (h : l[j]? = some o) : lostN (l.take (j + 1)) = lostN (l.take j) + (if o.vk = 2 then 1 else 0) := by
 rw [take_one h, lostN_append, lostN_cons]
 rfl
theorem lostT_take_le (l : List Tx) (k : Nat) : lostT (l.take k) ≤ lostT l := by
 have := lostT_append (l.take k) (l.drop k);rw [List.take_append_drop] at this;omega
theorem lostN_take_le (l : List Op4) (k : Nat) : lostN (l.take k) ≤ lostN l := by
 have := lostN_append (l.take k) (l.drop k);rw [List.take_append_drop] at this;omega
theorem lostw_in {l : List Tx} {k : Nat} {t : Tx} (h : l[k]? = some t) {j : Nat} {o : Op4} (ho : t.ops[j]? = some o) (e : o.vk = 2) : lostT (l.take k) + lostN (t.ops.take j) < lostT l := by
 have h1 := lostT_take h;have h2 := lostT_take_le l (k + 1);have h3 := lostN_take ho;rw [if_pos e] at h3;have h4 := lostN_take_le t.ops (j + 1);omega
def stO (l : List Op4) (us : List V2) (j : Nat) : List Op4 := fillO (l.take j) us ++ l.drop j
theorem stO_zero (l : List Op4) (us : List V2) : stO l us 0 = l := by
 unfold stO;rw [List.take_zero, List.drop_zero]
 rfl
theorem stO_all (l : List Op4) (us : List V2) {j : Nat} (h : l.length ≤ j) : stO l us j = fillO l us := by
 unfold stO;rw [List.take_of_length_le h, List.drop_of_length_le h, List.append_nil]
theorem stO_len (l : List Op4) (us : List V2) (j : Nat) : (stO l us j).length = l.length := by
 unfold stO;rw [List.length_append, fillO_len, List.length_take, List.length_drop];omega
theorem drop_one_cons {α : Type} {l : List α} {j : Nat} {o : α} (h : l[j]? = some o) : l.drop j = o :: l.drop (j + 1) := by
 obtain ⟨hi, rfl⟩ := List.getElem?_eq_some_iff.1 h;exact List.drop_eq_getElem_cons hi
theorem stO_get {l : List Op4} (us : List V2) {j : Nat} {o : Op4} (h : l[j]? = some o) : (stO l us j)[j]? = some o := by
 have hk := (List.getElem?_eq_some_iff.1 h).1;have hl : (fillO (l.take j) us).length = j := by rw [fillO_len, List.length_take]; omega
 unfold stO;rw [List.getElem?_append_right (by omega), hl, Nat.sub_self, drop_one_cons h]
 rfl
theorem stO_hit {l : List Op4} (us : List V2) {j : Nat} {o : Op4} (h : l[j]? = some o) (e : o.vk = 2) :
  stO l us (j + 1) = (stO l us j).set j { o with vk := (us.getD (lostN (l.take j)) (0, 0)).1, vn := (us.getD (lostN (l.take j)) (0, 0)).2 } := by
 have hk := (List.getElem?_eq_some_iff.1 h).1;have hl : (fillO (l.take j) us).length = j := by rw [fillO_len, List.length_take]; omega
 have hd : (us.drop (lostN (l.take j))).headD (0, 0) = us.getD (lostN (l.take j)) (0, 0) := by
  rw [List.headD_eq_head?_getD, List.head?_drop, List.getD_eq_getElem?_getD]
 unfold stO;rw [take_one h, fillO_snoc, List.set_append_right _ _ (by omega), hl, Nat.sub_self, drop_one_cons h, fillO, if_pos e, hd, List.append_assoc]
 rfl
theorem stO_miss {l : List Op4} (us : List V2) {j : Nat} {o : Op4} (h : l[j]? = some o) (e : o.vk ≠ 2) : stO l us (j + 1) = stO l us j := by
 unfold stO;rw [take_one h, fillO_snoc, drop_one_cons h, fillO, if_neg e, List.append_assoc]
 rfl
theorem getD_drop {α : Type} (vs : List α) (a b : Nat) (d : α) : (vs.drop a).getD b d = vs.getD (a + b) d := by
 rw [List.getD_eq_getElem?_getD, List.getD_eq_getElem?_getD, List.getElem?_drop]

open Go.RowKit
open Go.Lib hiding intOf
attribute [local go_sem ↓] Go.wp_at_zero Go.wp_at_succ
structure Caught (w : World) (k : FuncId) (i : Int) (g9 g3 : Nat) : Prop where
 c9 : w.cell? ⟨g9, 0, none⟩ = some (.int .i64 i)
 c3 : w.cell? ⟨g3, 0, none⟩ = some (.func (.func k) #[] #[])
 l9 : g9 < w.heap.size
 l3 : g3 < w.heap.size
theorem Caught.only {w w' : World} {k : FuncId} {i : Int} {g9 g3 : Nat} (h : Caught w k i g9 g3) (O : Only [] w w') : Caught w' k i g9 g3 :=
 ⟨(O.cell (p := ⟨g9, 0, none⟩) h.l9 (by simp)).trans h.c9, (O.cell (p := ⟨g3, 0, none⟩) h.l3 (by simp)).trans h.c3, Nat.lt_of_lt_of_le h.l9 O.size, Nat.lt_of_lt_of_le h.l3 O.size⟩

end Go.Proofs.YtghimogdeijgdaaGreatDoor
namespace Go.Proofs.YtghimogdeijgdaaGreatDoor
open Go.RowKit
structure OR where
 e : TypeId
 sz : Nat
 v : Value
 n : Nat
 xs : List Value
def OR.ok (w : World) (base : Nat) (r : OR) : Prop := w.ownsRow base r.e r.sz r.v r.n r.xs
structure ORs (w : World) (base : Nat) (L : List OR) : Prop where
 all : ∀ (i : Nat) (r : OR), L[i]? = some r → r.ok w base
 ap : ∀ (i j : Nat) (r s : OR), L[i]? = some r → L[j]? = some s → i ≠ j → ∀ g, r.v.ownBlock = some g → s.v.ownBlock ≠ some g
def ownB (L : List OR) : List Nat := L.flatMap fun r => r.v.ownBlock.toList
theorem ownB_mem {L : List OR} {g : Nat} : g ∈ ownB L ↔ ∃ (i : Nat) (r : OR), L[i]? = some r ∧ r.v.ownBlock = some g := by
 unfold ownB;rw [List.mem_flatMap]
 constructor
 ·rintro ⟨r, hr, hg⟩;obtain ⟨i, hi⟩ := List.mem_iff_getElem?.1 hr;exact ⟨i, r, hi, by simpa using hg⟩
 ·rintro ⟨i, r, hi, hg⟩;exact ⟨r, List.mem_of_getElem? hi, by simp [hg]⟩
section
variable {w w' : World} {base : Nat} {L : List OR}
theorem ORs.only {S : List Nat} (h : ORs w base L) (O : Only S w w') (hS : ∀ g ∈ ownB L, g ∉ S) : ORs w' base L :=
 ⟨fun i r hr => own_only (h.all i r hr) O (fun g hg => hS g (ownB_mem.2 ⟨i, r, hr, hg⟩)), h.ap⟩
theorem ORs.same (h : ORs w base L) (O : Only [] w w') : ORs w' base L := h.only O (by simp)
theorem ORs.ge (h : ORs w base L) : ∀ g ∈ ownB L, base ≤ g ∧ g < w.heap.size := fun g hg => by
 obtain ⟨i, r, hi, hr⟩ := ownB_mem.1 hg;exact (h.all i r hi).lt g hr
theorem ORs.upd {i : Nat} {r r' : OR} (h : ORs w base L) (hi : L[i]? = some r) (O : Only r.v.ownBlock.toList w w') (hr : r'.ok w' base) (hv : r'.v.ownBlock = r.v.ownBlock ∨ ∀ g, r'.v.ownBlock = some g → w.heap.size ≤ g) : ORs w' base (L.set i r') := by
 have hil := (List.getElem?_eq_some_iff.1 hi).1;have key : ∀ (j : Nat) (s : OR), L[j]? = some s → j ≠ i → ∀ g, r'.v.ownBlock = some g → s.v.ownBlock ≠ some g := fun j s hs hji g hg hsg => by
  rcases hv with e | e
  ·rw [e] at hg;exact h.ap i j r s hi hs (Ne.symm hji) g hg hsg
  ·have h1 := e g hg;have h2 := (h.all j s hs).lt g hsg;omega
 refine ⟨fun j s hs => ?_, fun j k s t hs ht hjk g hg htg => ?_⟩
 ·rw [List.getElem?_set] at hs
  by_cases hij : i = j
  ·rw [if_pos hij, if_pos hil] at hs;obtain rfl := Option.some.inj hs;exact hr
  ·rw [if_neg hij] at hs;exact own_only (h.all j s hs) O (fun g hg hm => h.ap j i s r hs hi (Ne.symm hij) g hg (by simpa using hm))
 ·rw [List.getElem?_set] at hs ht
  by_cases hij : i = j
  ·rw [if_pos hij, if_pos hil] at hs;obtain rfl := Option.some.inj hs;rw [if_neg (by omega)] at ht;exact key k t ht (by omega) g hg htg
  ·rw [if_neg hij] at hs
   by_cases hik : i = k
   ·rw [if_pos hik, if_pos hil] at ht;obtain rfl := Option.some.inj ht;exact key j s hs (by omega) g htg hg
   ·rw [if_neg hik] at ht;exact h.ap j k s t hs ht hjk g hg htg
theorem ORs.push {r' : OR} (h : ORs w base L) (hr : r'.ok w base) (hv : r'.v.ownBlock = none) : ORs w base (L ++ [r']) := by
 have hat : ∀ (j : Nat) (s : OR), (L ++ [r'])[j]? = some s → L[j]? = some s ∨ s = r' := fun j s hs => by
  rcases Nat.lt_or_ge j L.length with hl | hl
  ·rw [List.getElem?_append_left hl] at hs;exact .inl hs
  ·rw [List.getElem?_append_right hl] at hs
   cases hd : j - L.length with
   | zero => rw [hd] at hs; simp at hs; exact .inr hs.symm
   | succ k => rw [hd] at hs; simp at hs
 refine ⟨fun j s hs => ?_, fun j k s t hs ht hjk g hg htg => ?_⟩
 ·rcases hat j s hs with h1 | rfl
  ·exact h.all j s h1
  ·exact hr
 ·rcases hat j s hs with h1 | rfl
  ·rcases hat k t ht with h2 | rfl
   ·exact h.ap j k s t h1 h2 hjk g hg htg
   ·rw [hv] at htg; cases htg
  ·rw [hv] at hg; cases hg
theorem ORs.cell {i g j : Nat} {r : OR} {xs : List Value} (h : ORs w base L) (hi : L[i]? = some r) (hg : r.v.ownBlock = some g) (hj : j < r.xs.length) (u : Value) (hx : r.xs.set j u = xs) :
  ORs (w.setCell ⟨g, j, none⟩ u) base (L.set i ⟨r.e, r.sz, r.v, r.n, xs⟩) :=
 h.upd (r' := ⟨r.e, r.sz, r.v, r.n, xs⟩) hi ((Only.refl _ w).put (p := ⟨g, j, none⟩) (fun _ => by simp [hg]) u) (by subst hx; exact own_set (h.all i r hi) hg hj u) (.inl rfl)
end
open Go.Lib hiding intOf
def fnC (k : FuncId) : Array Value := #[.func (.func k) #[] #[]]
def zeroH : Array Value := #[.slice none 0 0, .slice none 0 0, .slice none 0 0]
structure EK (w0 w : World) (k : FuncId) (hc : Array Value) (g0 g1 g2 gG b : Nat) (cs : Array Value) (L : List OR) (nn : Nat) (D : DataW Unit) : Prop where
 bh : Blk w g0 25 hc
 bf : Blk w g1 73 (fnC k)
 br : Blk w g2 25 zeroH
 bg : Blk w gG 25 cs
 rows : ORs w w0.heap.size L
 map : w.ownsMap Tryz.prog 3 (plainElem Tryz.prog 3) b nn D
 o : Only [] w0 w
 d01 : g0 < g1
 d12 : g1 < g2
 d2G : g2 < gG
 base : w0.heap.size ≤ g0
 bb : w0.heap.size ≤ b
 ty : ∀ r ∈ L, r.e ≠ 25 ∧ r.e ≠ 73
section
variable {w0 w w' : World} {k : FuncId} {hc cs : Array Value} {g0 g1 g2 gG b nn : Nat} {L : List OR} {D : DataW Unit}
theorem EK.same (h : EK w0 w k hc g0 g1 g2 gG b cs L nn D) (O : Only [] w w') : EK w0 w' k hc g0 g1 g2 gG b cs L nn D where
 bh := O.blk h.bh (by simp)
 bf := O.blk h.bf (by simp)
 br := O.blk h.br (by simp)
 bg := O.blk h.bg (by simp)
 rows := h.rows.same O
 map := map_only h.map O (by simp)
 o := h.o.trans O
 d01 := h.d01
 d12 := h.d12
 d2G := h.d2G
 base := h.base
 bb := h.bb
 ty := h.ty
theorem EK.upd {i : Nat} {r r' : OR} (h : EK w0 w k hc g0 g1 g2 gG b cs L nn D) (hi : L[i]? = some r) (O : Only r.v.ownBlock.toList w w') (hr : r'.ok w' w0.heap.size) (he : r'.e = r.e)
  (hv : r'.v.ownBlock = r.v.ownBlock ∨ ∀ g, r'.v.ownBlock = some g → w.heap.size ≤ g) : EK w0 w' k hc g0 g1 g2 gG b cs (L.set i r') nn D where
 bh := O.blk h.bh (own_apart (h.rows.all i r hi) h.bh (h.ty r (List.mem_of_getElem? hi)).1)
 bf := O.blk h.bf (own_apart (h.rows.all i r hi) h.bf (h.ty r (List.mem_of_getElem? hi)).2)
 br := O.blk h.br (own_apart (h.rows.all i r hi) h.br (h.ty r (List.mem_of_getElem? hi)).1)
 bg := O.blk h.bg (own_apart (h.rows.all i r hi) h.bg (h.ty r (List.mem_of_getElem? hi)).1)
 rows := h.rows.upd hi O hr hv
 map := map_only h.map O (map_not_own h.map (h.rows.all i r hi))
 o := h.o.step O (fun j hj hl => by
  have := (h.rows.all i r hi).lt j (by simpa using hj);omega)
 d01 := h.d01
 d12 := h.d12
 d2G := h.d2G
 base := h.base
 bb := h.bb
 ty := fun s hs => by
  rcases List.mem_or_eq_of_mem_set hs with h1 | rfl
  ·exact h.ty s h1
  ·rw [he]; exact h.ty r (List.mem_of_getElem? hi)
theorem EK.push {r' : OR} (h : EK w0 w k hc g0 g1 g2 gG b cs L nn D) (hr : r'.ok w w0.heap.size) (hv : r'.v.ownBlock = none) (ht : r'.e ≠ 25 ∧ r'.e ≠ 73) : EK w0 w k hc g0 g1 g2 gG b cs (L ++ [r']) nn D :=
  { h with
    rows := h.rows.push hr hv
    ty := fun s hs => by
      rcases List.mem_append.1 hs with h1 | h1
      · exact h.ty s h1
      · simp at h1; subst h1; exact ht }
theorem EK.notG (h : EK w0 w k hc g0 g1 g2 gG b cs L nn D) : ∀ g ∈ ownB L, g ∉ [gG] := fun g hg hm => by
 simp at hm;subst hm;obtain ⟨i, r, hi, hr⟩ := ownB_mem.1 hg;exact own_apart (h.rows.all i r hi) h.bg (h.ty r (List.mem_of_getElem? hi)).1 (by simp [hr])
theorem EK.setG (h : EK w0 w k hc g0 g1 g2 gG b cs L nn D) (j : Nat) (u : Value) : EK w0 (w.setCell ⟨gG, j, none⟩ u) k hc g0 g1 g2 gG b (cs.setIfInBounds j u) L nn D where
 bh := h.bh.far (p := ⟨gG, j, none⟩) (by have := h.d01; have := h.d12; have := h.d2G; show g0 ≠ gG; omega) u
 bf := h.bf.far (p := ⟨gG, j, none⟩) (by have := h.d12; have := h.d2G; show g1 ≠ gG; omega) u
 br := h.br.far (p := ⟨gG, j, none⟩) (by have := h.d2G; show g2 ≠ gG; omega) u
 bg := h.bg.put j u
 rows := h.rows.only ((Only.refl [gG] w).put (p := ⟨gG, j, none⟩) (fun _ => by simp) u) h.notG
 map := map_only h.map ((Only.refl [gG] w).put (p := ⟨gG, j, none⟩) (fun _ => by simp) u) (by have := map_not_blk h.map h.bg; simp; omega)
 o := h.o.step ((Only.refl [gG] w).put (p := ⟨gG, j, none⟩) (fun _ => by simp) u) (fun i hi hl => by
  have := h.d01; have := h.d12; have := h.d2G; have := h.base;simp at hi;omega)
 d01 := h.d01
 d12 := h.d12
 d2G := h.d2G
 base := h.base
 bb := h.bb
 ty := h.ty
theorem EK.grow {i : Nat} {r : OR} {v' : Value} {n' : Nat} {xs' : List Value} (h : EK w0 w k hc g0 g1 g2 gG b cs L nn D) (hi : L[i]? = some r) (hgrow : w.grownBy w' r.v.ownBlock) (hown : w'.ownsRow w0.heap.size r.e r.sz v' n' xs')
  (hat : v'.ownBlock = r.v.ownBlock ∨ v'.ownBlock = some w.heap.size) : EK w0 w' k hc g0 g1 g2 gG b cs (L.set i ⟨r.e, r.sz, v', n', xs'⟩) nn D :=
 h.upd (r' := ⟨r.e, r.sz, v', n', xs'⟩) hi (only_grown hgrow) hown rfl (hat.imp id fun e g hg => by rw [e] at hg; cases hg; exact Nat.le_refl _)
theorem EK.setFree {g : Nat} {t : TypeId} {cs' : Array Value} (h : EK w0 w k hc g0 g1 g2 gG b cs L nn D) (hb : Blk w g t cs') (ht : t ≠ 25 ∧ t ≠ 73) (hL : g ∉ ownB L) (hg : w0.heap.size ≤ g) (j : Nat) (u : Value) :
    EK w0 (w.setCell ⟨g, j, none⟩ u) k hc g0 g1 g2 gG b cs L nn D :=
  have O : Only [g] w (w.setCell ⟨g, j, none⟩ u) := (Only.refl [g] w).put (p := ⟨g, j, none⟩) (fun _ => by simp) u
  { bh := h.bh.far (p := ⟨g, j, none⟩) (h.bh.apart hb (Ne.symm ht.1)) u
    bf := h.bf.far (p := ⟨g, j, none⟩) (h.bf.apart hb (Ne.symm ht.2)) u
    br := h.br.far (p := ⟨g, j, none⟩) (h.br.apart hb (Ne.symm ht.1)) u
    bg := h.bg.far (p := ⟨g, j, none⟩) (h.bg.apart hb (Ne.symm ht.1)) u
    rows := h.rows.only O (fun x hx hm => by simp at hm; subst hm; exact hL hx)
    map := map_only h.map O (by have := map_not_blk h.map hb; simp; omega)
    o := h.o.step O (fun i hi hl => by simp at hi; omega)
    d01 := h.d01
    d12 := h.d12
    d2G := h.d2G
    base := h.base
    bb := h.bb
    ty := h.ty }
theorem EK.last {r : OR} (h : EK w0 w k hc g0 g1 g2 gG b cs (L ++ [r]) nn D) : w.ownsRow w0.heap.size r.e r.sz r.v r.n r.xs := h.rows.all L.length r (by simp)
end
attribute [local go_sem ↓] Go.wp_at_zero Go.wp_at_succ
def rS (V : Value) (zs : List ByteArray) : OR := ⟨9, 1, V, zs.length, strs zs⟩
def rT (V : Value) (xs : List TxA) : OR := ⟨48, 3, V, xs.length, txC xs⟩
def eRow (x : TxA) : OR := ⟨55, 4, .slice x.A x.t.ops.length x.cp, x.t.ops.length, opC x.t.ops⟩
theorem EK.rowsR {w0 w w' : World} {k : FuncId} {hc cs : Array Value} {g0 g1 g2 gG b nn : Nat} {L : List OR} {D : DataW Unit} (h : EK w0 w k hc g0 g1 g2 gG b cs L nn D) (O : Only [g2] w w') : ORs w' w0.heap.size L :=
 h.rows.only O (fun g hg hm => by
  simp at hm;subst hm;obtain ⟨i, r, hi, hr⟩ := ownB_mem.1 hg;exact own_apart (h.rows.all i r hi) h.br (h.ty r (List.mem_of_getElem? hi)).1 (by simp [hr]))
def HNew (n : Nat) (w : World) (A0 A1 A2 : Option Addr) (h : Hst) : Prop := ∀ (S : List Nat) (w' : World), (∀ i ∈ S, i < n) → Only S w w' → HAt w' w'.heap.size A0 A1 A2 h
theorem HNew.at_ {n : Nat} {w : World} {A0 A1 A2 : Option Addr} {h : Hst} (g : HNew n w A0 A1 A2 h) : HAt w w.heap.size A0 A1 A2 h := g [] w (by simp) (Only.refl [] w)
theorem HNew.step {n m : Nat} {S : List Nat} {w w' : World} {A0 A1 A2 : Option Addr} {h : Hst} (g : HNew n w A0 A1 A2 h) (O : Only S w w') (hS : ∀ i ∈ S, i < n) (hm : m ≤ n) : HNew m w' A0 A1 A2 h := fun T w'' hT k =>
 g (S ++ T) w'' (fun i hi => by
  rcases List.mem_append.1 hi with h1 | h1
  ·exact hS i h1
  ·have := hT i h1; omega) ((O.wide (T := S ++ T) (fun i hi _ => List.mem_append.2 (.inl hi))).step k (fun i hi _ => List.mem_append.2 (.inr hi)))
theorem rows_done {w : World} {base : Nat} {AS Ak At : Option Addr} {ns nk nt cS ck ct : Nat} {ss ks : List ByteArray} {xs : List TxA}
  (R : ORs w base ([rS (.slice AS ns cS) ss, rS (.slice Ak nk ck) ks, rT (.slice At nt ct) xs] ++ xs.map eRow)) (hcp : ∀ x ∈ xs, x.t.ops.length ≤ x.cp ∧ x.cp ≤ maxLen) :
  HAt w w.heap.size AS Ak At ⟨ss, ks, xs.map TxA.t⟩ := by
 obtain ⟨a0, b0, e0, -, -, -, r0⟩ := own_row (R.all 0 _ rfl);obtain ⟨a1, b1, e1, -, -, -, r1⟩ := own_row (R.all 1 _ rfl);obtain ⟨a2, b2, e2, -, -, -, r2⟩ := own_row (R.all 2 _ rfl);obtain rfl : AS = a0 := by
  have : Value.slice AS ns cS = .slice a0 ss.length b0 := e0;injection this
 obtain rfl : Ak = a1 := by
  have : Value.slice Ak nk ck = .slice a1 ks.length b1 := e1;injection this
 obtain rfl : At = a2 := by
  have : Value.slice At nt ct = .slice a2 xs.length b2 := e2;injection this
 refine ⟨r0, r1, xs, rfl, r2, fun x hx => ?_⟩;obtain ⟨i, hi⟩ := List.mem_iff_getElem?.1 hx;obtain ⟨a3, b3, e3, -, -, -, r3⟩ := own_row (R.all (3 + i) (eRow x) (by
  rw [List.getElem?_append_right (by simp)];simp [hi]))
 obtain ⟨h1, h2⟩ := hcp x hx;refine ⟨?_, h1, h2⟩;have e4 : Value.slice x.A x.t.ops.length x.cp = .slice a3 x.t.ops.length b3 := e3;injection e4 with e5;rw [e5];exact r3
end Go.Proofs.YtghimogdeijgdaaGreatDoor
namespace Go.Proofs.YtghimogdeijgdaaGreatDoor

open Go.RowKit
open Go.Lib hiding intOf
attribute [local go_sem ↓] Go.wp_at_zero Go.wp_at_succ

end Go.Proofs.YtghimogdeijgdaaGreatDoor
namespace Go.Proofs.YtghimogdeijgdaaGreatDoor

open Go.RowKit
open Go.Lib hiding intOf
structure RK (w0 w : World) (hc : Array Value) (g0 g1 gG : Nat) (cs : Array Value) (L : List OR) : Prop where
 bh : Blk w g0 25 hc
 br : Blk w g1 25 zeroH
 bg : Blk w gG 25 cs
 rows : ORs w w0.heap.size L
 o : Only [] w0 w
 d01 : g0 < g1
 d1G : g1 < gG
 base : w0.heap.size ≤ g0
 ty : ∀ r ∈ L, r.e ≠ 25
section
variable {w0 w w' : World} {hc cs : Array Value} {g0 g1 gG : Nat} {L : List OR}
theorem RK.same (h : RK w0 w hc g0 g1 gG cs L) (O : Only [] w w') : RK w0 w' hc g0 g1 gG cs L where
 bh := O.blk h.bh (by simp)
 br := O.blk h.br (by simp)
 bg := O.blk h.bg (by simp)
 rows := h.rows.same O
 o := h.o.trans O
 d01 := h.d01
 d1G := h.d1G
 base := h.base
 ty := h.ty
theorem RK.upd {i : Nat} {r r' : OR} (h : RK w0 w hc g0 g1 gG cs L) (hi : L[i]? = some r) (O : Only r.v.ownBlock.toList w w') (hr : r'.ok w' w0.heap.size) (he : r'.e = r.e)
  (hv : r'.v.ownBlock = r.v.ownBlock ∨ ∀ g, r'.v.ownBlock = some g → w.heap.size ≤ g) : RK w0 w' hc g0 g1 gG cs (L.set i r') where
 bh := O.blk h.bh (own_apart (h.rows.all i r hi) h.bh (h.ty r (List.mem_of_getElem? hi)))
 br := O.blk h.br (own_apart (h.rows.all i r hi) h.br (h.ty r (List.mem_of_getElem? hi)))
 bg := O.blk h.bg (own_apart (h.rows.all i r hi) h.bg (h.ty r (List.mem_of_getElem? hi)))
 rows := h.rows.upd hi O hr hv
 o := h.o.step O (fun j hj hl => by
  have := (h.rows.all i r hi).lt j (by simpa using hj);omega)
 d01 := h.d01
 d1G := h.d1G
 base := h.base
 ty := fun s hs => by
  rcases List.mem_or_eq_of_mem_set hs with h1 | rfl
  ·exact h.ty s h1
  ·rw [he]; exact h.ty r (List.mem_of_getElem? hi)
theorem RK.push {r' : OR} (h : RK w0 w hc g0 g1 gG cs L) (hr : r'.ok w w0.heap.size) (hv : r'.v.ownBlock = none) (ht : r'.e ≠ 25) : RK w0 w hc g0 g1 gG cs (L ++ [r']) :=
  { h with
    rows := h.rows.push hr hv
    ty := fun s hs => by
      rcases List.mem_append.1 hs with h1 | h1
      · exact h.ty s h1
      · simp at h1; subst h1; exact ht }
theorem RK.notG (h : RK w0 w hc g0 g1 gG cs L) : ∀ g ∈ ownB L, g ∉ [gG] := fun g hg hm => by
 simp at hm;subst hm;obtain ⟨i, r, hi, hr⟩ := ownB_mem.1 hg;exact own_apart (h.rows.all i r hi) h.bg (h.ty r (List.mem_of_getElem? hi)) (by simp [hr])
theorem RK.setG (h : RK w0 w hc g0 g1 gG cs L) (j : Nat) (u : Value) : RK w0 (w.setCell ⟨gG, j, none⟩ u) hc g0 g1 gG (cs.setIfInBounds j u) L where
 bh := h.bh.far (p := ⟨gG, j, none⟩) (by have := h.d01; have := h.d1G; show g0 ≠ gG; omega) u
 br := h.br.far (p := ⟨gG, j, none⟩) (by have := h.d1G; show g1 ≠ gG; omega) u
 bg := h.bg.put j u
 rows := h.rows.only ((Only.refl [gG] w).put (p := ⟨gG, j, none⟩) (fun _ => by simp) u) h.notG
 o := h.o.step ((Only.refl [gG] w).put (p := ⟨gG, j, none⟩) (fun _ => by simp) u) (fun i hi hl => by
  have := h.d01; have := h.d1G; have := h.base;simp at hi;omega)
 d01 := h.d01
 d1G := h.d1G
 base := h.base
 ty := h.ty
theorem RK.grow {i : Nat} {r : OR} {v' : Value} {n' : Nat} {xs' : List Value} (h : RK w0 w hc g0 g1 gG cs L) (hi : L[i]? = some r) (hgrow : w.grownBy w' r.v.ownBlock) (hown : w'.ownsRow w0.heap.size r.e r.sz v' n' xs')
  (hat : v'.ownBlock = r.v.ownBlock ∨ v'.ownBlock = some w.heap.size) : RK w0 w' hc g0 g1 gG cs (L.set i ⟨r.e, r.sz, v', n', xs'⟩) :=
 h.upd (r' := ⟨r.e, r.sz, v', n', xs'⟩) hi (only_grown hgrow) hown rfl (hat.imp id fun e g hg => by rw [e] at hg; cases hg; exact Nat.le_refl _)
theorem RK.setFree {g : Nat} {t : TypeId} {cs' : Array Value} (h : RK w0 w hc g0 g1 gG cs L) (hb : Blk w g t cs') (ht : t ≠ 25) (hL : g ∉ ownB L) (hg : w0.heap.size ≤ g) (j : Nat) (u : Value) :
    RK w0 (w.setCell ⟨g, j, none⟩ u) hc g0 g1 gG cs L :=
  have O : Only [g] w (w.setCell ⟨g, j, none⟩ u) := (Only.refl [g] w).put (p := ⟨g, j, none⟩) (fun _ => by simp) u
  { bh := h.bh.far (p := ⟨g, j, none⟩) (h.bh.apart hb (Ne.symm ht)) u
    br := h.br.far (p := ⟨g, j, none⟩) (h.br.apart hb (Ne.symm ht)) u
    bg := h.bg.far (p := ⟨g, j, none⟩) (h.bg.apart hb (Ne.symm ht)) u
    rows := h.rows.only O (fun x hx hm => by simp at hm; subst hm; exact hL hx)
    o := h.o.step O (fun i hi hl => by simp at hi; omega)
    d01 := h.d01
    d1G := h.d1G
    base := h.base
    ty := h.ty }
theorem RK.last {r : OR} (h : RK w0 w hc g0 g1 gG cs (L ++ [r])) : w.ownsRow w0.heap.size r.e r.sz r.v r.n r.xs := h.rows.all L.length r (by simp)
theorem RK.free_of {g : Nat} {t : TypeId} {cs' : Array Value} (h : RK w0 w hc g0 g1 gG cs L) (hb : Blk w g t cs') (hq : ∀ r ∈ L, r.e = t → r.v.ownBlock ≠ some g) : g ∉ ownB L := fun hg => by
 obtain ⟨i, r, hi, hr⟩ := ownB_mem.1 hg
 by_cases ht : r.e = t
 ·exact hq r (List.mem_of_getElem? hi) ht hr
 ·exact own_apart (h.rows.all i r hi) hb ht (by simp [hr])
theorem RK.out {base' : Nat} (h : RK w0 w hc g0 g1 gG cs L) : ∀ g ∈ ownB L, g < w.heap.size := fun g hg => (h.rows.ge g hg).2
end
theorem ORs.tail {w : World} {base : Nat} {r : OR} {L : List OR} (h : ORs w base (r :: L)) : ORs w base L :=
 ⟨fun i s hi => h.all (i + 1) s (by simpa using hi), fun i j s t hs ht hij => h.ap (i + 1) (j + 1) s t (by simpa using hs) (by simpa using ht) (by omega)⟩
theorem RK.rowsR {w0 w w' : World} {hc cs : Array Value} {g0 g1 gG : Nat} {L : List OR} (h : RK w0 w hc g0 g1 gG cs L) (O : Only [g1] w w') : ORs w' w0.heap.size L :=
 h.rows.only O (fun g hg hm => by
  simp at hm;subst hm;obtain ⟨i, r, hi, hr⟩ := ownB_mem.1 hg;exact own_apart (h.rows.all i r hi) h.br (h.ty r (List.mem_of_getElem? hi)) (by simp [hr]))
def rBo (V : Value) (zs : List Bool) : OR := ⟨4, 1, V, zs.length, zs.map Value.bool⟩
def rO (V : Value) (ops : List Op4) : OR := ⟨55, 4, V, ops.length, opC ops⟩
theorem ors_three {w : World} {base : Nat} {a b c : OR} (ha : a.ok w base) (hb : b.ok w base) (hc : c.ok w base) (hab : ∀ g, a.v.ownBlock = some g → b.v.ownBlock ≠ some g) (hac : ∀ g, a.v.ownBlock = some g → c.v.ownBlock ≠ some g) (hbc : ∀ g, b.v.ownBlock = some g → c.v.ownBlock ≠ some g) : ORs w base [a, b, c] :=
 ⟨fun i r hr => by
  rcases i with _ | _ | _ | i
  ·simp at hr; subst hr; exact ha
  ·simp at hr; subst hr; exact hb
  ·simp at hr; subst hr; exact hc
  ·simp at hr, fun i j r s hr hs hij g hg e => by
  rcases i with _ | _ | _ | i <;> rcases j with _ | _ | _ | j <;> simp at hr hs hij <;> subst hr hs
  ·exact hab g hg e
  ·exact hac g hg e
  ·exact hab g e hg
  ·exact hbc g hg e
  ·exact hac g e hg
  ·exact hbc g e hg⟩
theorem RK.fresh {w0 w w' : World} {hc cs : Array Value} {g0 g1 gG : Nat} {L : List OR} {r : OR} (h : RK w0 w hc g0 g1 gG cs L) (O : Only [] w w') (hr : r.ok w' w0.heap.size) (ht : r.e ≠ 25) (hv : ∀ g, r.v.ownBlock = some g → w.heap.size ≤ g) : RK w0 w' hc g0 g1 gG cs (L ++ [r]) := by
 have h1 := (h.push (r' := ⟨r.e, r.sz, .slice none 0 0, 0, []⟩) (World.ownsRow_nil _ _ _ _) rfl ht).upd (i := L.length) (r := ⟨r.e, r.sz, .slice none 0 0, 0, []⟩) (r' := r) (by simp) O hr rfl (.inr hv)
 simpa using h1
structure RTx (w0 w : World) (hc : Array Value) (g0 g1 gG : Nat) (cs : Array Value) (L : List OR) (gt gw : Nat) (tc wc : Array Value) : Prop where
 k : RK w0 w hc g0 g1 gG cs L
 t : Blk w gt 48 tc
 x : Blk w gw 29 wc
 q : ∀ r ∈ L, r.e = 48 → r.v.ownBlock ≠ some gt
 y : ∀ r ∈ L, r.e ≠ 29
 b : w0.heap.size ≤ gt
section
variable {w0 w w' : World} {hc cs tc wc : Array Value} {g0 g1 gG gt gw : Nat} {L : List OR}
theorem RTx.same (h : RTx w0 w hc g0 g1 gG cs L gt gw tc wc) (O : Only [] w w') : RTx w0 w' hc g0 g1 gG cs L gt gw tc wc :=
 ⟨h.k.same O, O.blk h.t (by simp), O.blk h.x (by simp), h.q, h.y, h.b⟩
theorem RTx.setT (h : RTx w0 w hc g0 g1 gG cs L gt gw tc wc) (j : Nat) (u : Value) : RTx w0 (w.setCell ⟨gt, j, none⟩ u) hc g0 g1 gG cs L gt gw (tc.setIfInBounds j u) wc :=
 ⟨h.k.setFree h.t (by decide) (h.k.free_of h.t h.q) h.b j u, h.t.put j u, h.x.far (p := ⟨gt, j, none⟩) (h.x.apart h.t (by decide)) u, h.q, h.y, h.b⟩
theorem RTx.upd {i : Nat} {r r' : OR} (h : RTx w0 w hc g0 g1 gG cs L gt gw tc wc) (hi : L[i]? = some r) (O : Only r.v.ownBlock.toList w w') (hr : r'.ok w' w0.heap.size) (he : r'.e = r.e)
  (hv : r'.v.ownBlock = r.v.ownBlock ∨ ∀ g, r'.v.ownBlock = some g → w.heap.size ≤ g) : RTx w0 w' hc g0 g1 gG cs (L.set i r') gt gw tc wc := by
 have hm := List.mem_of_getElem? hi;refine ⟨h.k.upd hi O hr he hv, O.blk h.t ?_, O.blk h.x (own_apart (h.k.rows.all i r hi) h.x (h.y r hm)), fun s hs hse => ?_, fun s hs => ?_, h.b⟩
 ·by_cases e : r.e = 48
  ·intro hg;exact h.q r hm e (by simpa using hg)
  ·exact own_apart (h.k.rows.all i r hi) h.t e
 ·rcases List.mem_or_eq_of_mem_set hs with h1 | rfl
  ·exact h.q s h1 hse
  ·rcases hv with e | e
   ·rw [e];exact h.q r hm (he ▸ hse)
   ·intro hg;have := e gt hg;have := h.t.lt;omega
 ·rcases List.mem_or_eq_of_mem_set hs with h1 | rfl
  ·exact h.y s h1
  ·rw [he]; exact h.y r hm
theorem RTx.updLast {r r' : OR} (h : RTx w0 w hc g0 g1 gG cs (L ++ [r]) gt gw tc wc) (O : Only r.v.ownBlock.toList w w') (hr : r'.ok w' w0.heap.size) (he : r'.e = r.e)
  (hv : r'.v.ownBlock = r.v.ownBlock ∨ ∀ g, r'.v.ownBlock = some g → w.heap.size ≤ g) : RTx w0 w' hc g0 g1 gG cs (L ++ [r']) gt gw tc wc := by
 have h1 := h.upd (i := L.length) (r := r) (r' := r') (by simp) O hr he hv
 simpa using h1
theorem RTx.fresh {r : OR} (h : RTx w0 w hc g0 g1 gG cs L gt gw tc wc) (O : Only [] w w') (hr : r.ok w' w0.heap.size) (h1 : r.e ≠ 25) (h2 : r.e ≠ 29) (hv : ∀ g, r.v.ownBlock = some g → w.heap.size ≤ g) : RTx w0 w' hc g0 g1 gG cs (L ++ [r]) gt gw tc wc :=
 ⟨h.k.fresh O hr h1 hv, O.blk h.t (by simp), O.blk h.x (by simp), fun s hs hse hg => by
  rcases List.mem_append.1 hs with h3 | h3
  ·exact h.q s h3 hse hg
  ·simp at h3;subst h3;have := hv gt hg;have := h.t.lt;omega, fun s hs => by
  rcases List.mem_append.1 hs with h3 | h3
  ·exact h.y s h3
  ·simp at h3;subst h3;exact h2, h.b⟩
theorem RTx.grow {i : Nat} {r : OR} {v' : Value} {n' : Nat} {xs' : List Value} (h : RTx w0 w hc g0 g1 gG cs L gt gw tc wc) (hi : L[i]? = some r) (hgrow : w.grownBy w' r.v.ownBlock) (hown : w'.ownsRow w0.heap.size r.e r.sz v' n' xs')
  (hat : v'.ownBlock = r.v.ownBlock ∨ v'.ownBlock = some w.heap.size) : RTx w0 w' hc g0 g1 gG cs (L.set i ⟨r.e, r.sz, v', n', xs'⟩) gt gw tc wc :=
 h.upd (r' := ⟨r.e, r.sz, v', n', xs'⟩) hi (only_grown hgrow) hown rfl (hat.imp id fun e g hg => by rw [e] at hg; cases hg; exact Nat.le_refl _)
theorem RTx.setG (h : RTx w0 w hc g0 g1 gG cs L gt gw tc wc) (j : Nat) (u : Value) : RTx w0 (w.setCell ⟨gG, j, none⟩ u) hc g0 g1 gG (cs.setIfInBounds j u) L gt gw tc wc :=
 ⟨h.k.setG j u, h.t.far (p := ⟨gG, j, none⟩) (h.t.apart h.k.bg (by decide)) u, h.x.far (p := ⟨gG, j, none⟩) (h.x.apart h.k.bg (by decide)) u, h.q, h.y, h.b⟩
theorem RTx.begin_ {w1 : World} {tc : Array Value} (h : RK w0 w hc g0 g1 gG cs L) (hx : Blk w gw 29 wc) (hy : ∀ r ∈ L, r.e ≠ 29) (O : Only [] w w1) (ht : Blk w1 gt 48 tc) (hg : w.heap.size ≤ gt) : RTx w0 w1 hc g0 g1 gG cs L gt gw tc wc :=
 ⟨h.same O, ht, O.blk hx (by simp), fun r hr _ he => by
  obtain ⟨i, hi⟩ := List.mem_iff_getElem?.1 hr;have := h.out (base' := 0) gt (ownB_mem.2 ⟨i, r, hi, he⟩);omega, hy, by have := h.o.size; omega⟩
theorem RTx.row {i : Nat} {r s : OR} (h : RTx w0 w hc g0 g1 gG cs (L ++ [s]) gt gw tc wc) (hi : L[i]? = some r) : r.ok w w0.heap.size :=
 h.k.rows.all i r (by rw [List.getElem?_append_left (List.getElem?_eq_some_iff.1 hi).1]; exact hi)
theorem RTx.ops {A : Option Addr} {m c : Nat} {l : List Op4} (h : RTx w0 w hc g0 g1 gG cs (L ++ [rO (.slice A m c) l]) gt gw tc wc) (hl : l.length = m) : w.ownsRow w0.heap.size 55 4 (.slice A m c) m (opC l) := by
 have h1 := h.k.last;unfold rO at h1;dsimp only at h1
 rwa [hl] at h1
theorem RTx.setV {ob m c j : Nat} {l : List Op4} {o : Op4} (h : RTx w0 w hc g0 g1 gG cs (L ++ [rO (.slice (some ⟨ob, 0, none⟩) m c) l]) gt gw tc wc) (hl : l.length = m) (ho : l[j]? = some o) (vk vn : Int) :
  RTx w0 (w.setCells ob (j * 4 + 2) [.int .i64 vk, .int .i64 vn]) hc g0 g1 gG cs (L ++ [rO (.slice (some ⟨ob, 0, none⟩) m c) (l.set j ⟨o.wr, o.key, vk, vn⟩)]) gt gw tc wc := by
 have hj := (List.getElem?_eq_some_iff.1 ho).1;have hO := h.ops hl;have h1 := own_set2 hO rfl (o := j * 4 + 2) (by rw [opC_len]; omega) (.int .i64 vk) (.int .i64 vn);rw [opC_setV ho] at h1;refine h.updLast (setCells_only ob _ _ _ _ _ (Only.refl _ _) (fun _ => by simp [rO, Value.ownBlock])) ?_ rfl (.inl rfl);unfold OR.ok rO;dsimp only;rw [List.length_set, hl];exact h1
end
theorem own_head {w : World} {base : Nat} {e : TypeId} {size n c : Nat} {A : Option Addr} {xs : List Value} (h : w.ownsRow base e size (.slice A n c) n xs) (hn : 0 < n) : ∃ g, A = some ⟨g, 0, none⟩ ∧ base ≤ g ∧ g < w.heap.size := by
 obtain ⟨-, ⟨h1, h2⟩ | ⟨g, cap, cur, h1, h2, h3, -⟩⟩ := h
 ·omega
 ·injection h1 with h1 _ _;exact ⟨g, h1, h2, Blk.lt h3⟩
end Go.Proofs.YtghimogdeijgdaaGreatDoor
