/- Parts. -/
import Derived.Test.YtbiclliooidkjaaGreatDoorLaw41AllK15
import Derived.Maps.OwnOps
set_option maxRecDepth 10000
set_option maxHeartbeats 16000000
set_option linter.unusedVariables false
set_option linter.unusedSimpArgs false
namespace Go.Proofs.YtbiclliooidkjaaGreatDoor
open Go.RowKit
open Go.Lib hiding intOf
def fnC (k : FuncId) : Array Value := #[.func (.func k) #[] #[]]
def zeroH : Array Value := #[.slice none 0 0, .slice none 0 0, .slice none 0 0]
structure EK (w0 w : World) (k : FuncId) (hc : Array Value) (g0 g1 g2 gG b : Nat) (cs : Array Value) (L : List OR) (nn : Nat) (D : DataW Unit) : Prop where
 bh : Blk w g0 25 hc
 bf : Blk w g1 58 (fnC k)
 br : Blk w g2 25 zeroH
 bg : Blk w gG 25 cs
 rows : ORs w w0.heap.size L
 map : w.ownsMap Tryz.prog 3 (plainElem Tryz.prog 3) b nn D
 o : Only [] w0 w
 d01 : g0 < g1
 d12 : g1 < g2
 d2G : g2 < gG
 base : w0.heap.size ≤ g0
 bb : w0.heap.size ≤ b
 ty : ∀ r ∈ L, r.e ≠ 25 ∧ r.e ≠ 58
section
variable {w0 w w' : World} {k : FuncId} {hc cs : Array Value} {g0 g1 g2 gG b nn : Nat} {L : List OR} {D : DataW Unit}
theorem EK.same (h : EK w0 w k hc g0 g1 g2 gG b cs L nn D) (O : Only [] w w') : EK w0 w' k hc g0 g1 g2 gG b cs L nn D where
 bh := O.blk h.bh (by simp)
 bf := O.blk h.bf (by simp)
 br := O.blk h.br (by simp)
 bg := O.blk h.bg (by simp)
 rows := h.rows.same O
 map := map_only h.map O (by simp)
 o := h.o.trans O
 d01 := h.d01
 d12 := h.d12
 d2G := h.d2G
 base := h.base
 bb := h.bb
 ty := h.ty
theorem EK.upd {i : Nat} {r r' : OR} (h : EK w0 w k hc g0 g1 g2 gG b cs L nn D) (hi : L[i]? = some r) (O : Only r.v.ownBlock.toList w w') (hr : r'.ok w' w0.heap.size) (he : r'.e = r.e)
  (hv : r'.v.ownBlock = r.v.ownBlock ∨ ∀ g, r'.v.ownBlock = some g → w.heap.size ≤ g) : EK w0 w' k hc g0 g1 g2 gG b cs (L.set i r') nn D where
 bh := O.blk h.bh (own_apart (h.rows.all i r hi) h.bh (h.ty r (List.mem_of_getElem? hi)).1)
 bf := O.blk h.bf (own_apart (h.rows.all i r hi) h.bf (h.ty r (List.mem_of_getElem? hi)).2)
 br := O.blk h.br (own_apart (h.rows.all i r hi) h.br (h.ty r (List.mem_of_getElem? hi)).1)
 bg := O.blk h.bg (own_apart (h.rows.all i r hi) h.bg (h.ty r (List.mem_of_getElem? hi)).1)
 rows := h.rows.upd hi O hr hv
 map := map_only h.map O (map_not_own h.map (h.rows.all i r hi))
 o := h.o.step O (fun j hj hl => by
  have := (h.rows.all i r hi).lt j (by simpa using hj);omega)
 d01 := h.d01
 d12 := h.d12
 d2G := h.d2G
 base := h.base
 bb := h.bb
 ty := fun s hs => by
  rcases List.mem_or_eq_of_mem_set hs with h1 | rfl
  ·exact h.ty s h1
  ·rw [he]; exact h.ty r (List.mem_of_getElem? hi)
theorem EK.push {r' : OR} (h : EK w0 w k hc g0 g1 g2 gG b cs L nn D) (hr : r'.ok w w0.heap.size) (hv : r'.v.ownBlock = none) (ht : r'.e ≠ 25 ∧ r'.e ≠ 58) : EK w0 w k hc g0 g1 g2 gG b cs (L ++ [r']) nn D :=
  { h with
    rows := h.rows.push hr hv
    ty := fun s hs => by
      rcases List.mem_append.1 hs with h1 | h1
      · exact h.ty s h1
      · simp at h1; subst h1; exact ht }
theorem EK.notG (h : EK w0 w k hc g0 g1 g2 gG b cs L nn D) : ∀ g ∈ ownB L, g ∉ [gG] := fun g hg hm => by
 simp at hm;subst hm;obtain ⟨i, r, hi, hr⟩ := ownB_mem.1 hg;exact own_apart (h.rows.all i r hi) h.bg (h.ty r (List.mem_of_getElem? hi)).1 (by simp [hr])
theorem EK.setG (h : EK w0 w k hc g0 g1 g2 gG b cs L nn D) (j : Nat) (u : Value) : EK w0 (w.setCell ⟨gG, j, none⟩ u) k hc g0 g1 g2 gG b (cs.setIfInBounds j u) L nn D where
 bh := h.bh.far (p := ⟨gG, j, none⟩) (by have := h.d01; have := h.d12; have := h.d2G; show g0 ≠ gG; omega) u
 bf := h.bf.far (p := ⟨gG, j, none⟩) (by have := h.d12; have := h.d2G; show g1 ≠ gG; omega) u
 br := h.br.far (p := ⟨gG, j, none⟩) (by have := h.d2G; show g2 ≠ gG; omega) u
 bg := h.bg.put j u
 rows := h.rows.only ((Only.refl [gG] w).put (p := ⟨gG, j, none⟩) (fun _ => by simp) u) h.notG
 map := map_only h.map ((Only.refl [gG] w).put (p := ⟨gG, j, none⟩) (fun _ => by simp) u) (by have := map_not_blk h.map h.bg; simp; omega)
 o := h.o.step ((Only.refl [gG] w).put (p := ⟨gG, j, none⟩) (fun _ => by simp) u) (fun i hi hl => by
  have := h.d01; have := h.d12; have := h.d2G; have := h.base;simp at hi;omega)
 d01 := h.d01
 d12 := h.d12
 d2G := h.d2G
 base := h.base
 bb := h.bb
 ty := h.ty
theorem EK.mapped {nn' : Nat} {D' : DataW Unit} (h : EK w0 w k hc g0 g1 g2 gG b cs L nn D) (hm : w'.ownsMap Tryz.prog 3 (plainElem Tryz.prog 3) b nn' D') (hg : w.grownBy w' (some b)) : EK w0 w' k hc g0 g1 g2 gG b cs L nn' D' :=
  have O : Only [b] w w' := Only.of_grown hg (fun g e _ => by cases e; simp)
  have hb : ∀ g t cs, Blk w g t cs → g ∉ [b] := fun g t cs hB => by have := map_not_blk h.map hB; simpa using this
  { bh := O.blk h.bh (hb _ _ _ h.bh)
    bf := O.blk h.bf (hb _ _ _ h.bf)
    br := O.blk h.br (hb _ _ _ h.br)
    bg := O.blk h.bg (hb _ _ _ h.bg)
    rows := h.rows.only O (fun g hg' hm' => by
      simp at hm'
      subst hm'
      obtain ⟨i, r, hi, hr⟩ := ownB_mem.1 hg'
      exact map_not_own h.map (h.rows.all i r hi) (by simp [hr]))
    map := hm
    o := h.o.step O (fun i hi hl => by have := h.bb; simp at hi; omega)
    d01 := h.d01
    d12 := h.d12
    d2G := h.d2G
    base := h.base
    bb := h.bb
    ty := h.ty }
theorem EK.grow {i : Nat} {r : OR} {v' : Value} {n' : Nat} {xs' : List Value} (h : EK w0 w k hc g0 g1 g2 gG b cs L nn D) (hi : L[i]? = some r) (hgrow : w.grownBy w' r.v.ownBlock) (hown : w'.ownsRow w0.heap.size r.e r.sz v' n' xs')
  (hat : v'.ownBlock = r.v.ownBlock ∨ v'.ownBlock = some w.heap.size) : EK w0 w' k hc g0 g1 g2 gG b cs (L.set i ⟨r.e, r.sz, v', n', xs'⟩) nn D :=
 h.upd (r' := ⟨r.e, r.sz, v', n', xs'⟩) hi (only_grown hgrow) hown rfl (hat.imp id fun e g hg => by rw [e] at hg; cases hg; exact Nat.le_refl _)
theorem EK.growLast {r : OR} {v' : Value} {n' : Nat} {xs' : List Value} (h : EK w0 w k hc g0 g1 g2 gG b cs (L ++ [r]) nn D) (hgrow : w.grownBy w' r.v.ownBlock) (hown : w'.ownsRow w0.heap.size r.e r.sz v' n' xs')
  (hat : v'.ownBlock = r.v.ownBlock ∨ v'.ownBlock = some w.heap.size) : EK w0 w' k hc g0 g1 g2 gG b cs (L ++ [⟨r.e, r.sz, v', n', xs'⟩]) nn D := by
 have h1 := h.grow (i := L.length) (r := r) (by simp) hgrow hown hat;have e : (L ++ [r]).set L.length ⟨r.e, r.sz, v', n', xs'⟩ = L ++ [⟨r.e, r.sz, v', n', xs'⟩] := by simp
 rwa [e] at h1
theorem EK.setFree {g : Nat} {t : TypeId} {cs' : Array Value} (h : EK w0 w k hc g0 g1 g2 gG b cs L nn D) (hb : Blk w g t cs') (ht : t ≠ 25 ∧ t ≠ 58) (hL : g ∉ ownB L) (hg : w0.heap.size ≤ g) (j : Nat) (u : Value) :
    EK w0 (w.setCell ⟨g, j, none⟩ u) k hc g0 g1 g2 gG b cs L nn D :=
  have O : Only [g] w (w.setCell ⟨g, j, none⟩ u) := (Only.refl [g] w).put (p := ⟨g, j, none⟩) (fun _ => by simp) u
  { bh := h.bh.far (p := ⟨g, j, none⟩) (h.bh.apart hb (Ne.symm ht.1)) u
    bf := h.bf.far (p := ⟨g, j, none⟩) (h.bf.apart hb (Ne.symm ht.2)) u
    br := h.br.far (p := ⟨g, j, none⟩) (h.br.apart hb (Ne.symm ht.1)) u
    bg := h.bg.far (p := ⟨g, j, none⟩) (h.bg.apart hb (Ne.symm ht.1)) u
    rows := h.rows.only O (fun x hx hm => by simp at hm; subst hm; exact hL hx)
    map := map_only h.map O (by have := map_not_blk h.map hb; simp; omega)
    o := h.o.step O (fun i hi hl => by simp at hi; omega)
    d01 := h.d01
    d12 := h.d12
    d2G := h.d2G
    base := h.base
    bb := h.bb
    ty := h.ty }
theorem EK.last {r : OR} (h : EK w0 w k hc g0 g1 g2 gG b cs (L ++ [r]) nn D) : w.ownsRow w0.heap.size r.e r.sz r.v r.n r.xs := h.rows.all L.length r (by simp)
end
structure Nums (p : Op4 → Bool) (l : List Tx) (D : DataW Unit) (i : Nat) : Prop where
 im : Maps.IsMap D
 at_ : ∀ j : Nat, j < i → usedK p l (j : Int) = true → D.atKey (.int .i64 (j : Int)) (.lit (.int .i64 0)) = .lit (.int .i64 (numK p l j : Int))
end Go.Proofs.YtbiclliooidkjaaGreatDoor
namespace Go.Proofs.YtbiclliooidkjaaGreatDoor
def hitO (key : Int) (o : Op4) : Bool := o.wr && decide (o.key = key)
def leftW (key : Int) (l : List Op4) : Option (Int × Int) := l.foldl (fun acc o => if hitO key o = true then some (o.vk, o.vn) else acc) none
def leftV (key : Int) (l : List Op4) : Int × Int := (leftW key l).getD (0, 0)
theorem leftW_snoc (key : Int) (l : List Op4) (o : Op4) : leftW key (l ++ [o]) = if hitO key o = true then some (o.vk, o.vn) else leftW key l := by
 unfold leftW;rw [List.foldl_append]
 rfl
theorem leftW_take {key : Int} {l : List Op4} {i : Nat} {o : Op4} (h : l[i]? = some o) : leftW key (l.take (i + 1)) = if hitO key o = true then some (o.vk, o.vn) else leftW key (l.take i) := by
 rw [List.take_add_one, h];exact leftW_snoc key _ o
theorem leftW_app (key : Int) (l : List Op4) : ∀ (m : List Op4), (∀ o ∈ m, hitO key o = false) → leftW key (l ++ m) = leftW key l := by
 intro m
 induction m generalizing l with
 | nil => intro _; rw [List.append_nil]
 | cons o m ih =>
  intro h;rw [show l ++ o :: m = (l ++ [o]) ++ m by simp, ih (l ++ [o]) (fun x hx => h x (List.mem_cons_of_mem _ hx)), leftW_snoc, h o List.mem_cons_self];simp
theorem leftW_miss {key : Int} {l : List Op4} (hr : ∀ x ∈ l, hitO key x = false) : leftW key l = none := by
 have := leftW_app key [] l hr
 rwa [List.nil_append] at this
def optV (o : Option (Int × Int)) : Value := .agg #[.int .i64 (o.getD (0, 0)).1, .int .i64 (o.getD (0, 0)).2]
def optT (o : Option (Int × Int)) : Value := .tuple #[optV o, .bool o.isSome]
def whichL (p : Tx → Bool) (l : List Tx) : List Int := (l.zipIdx.filter fun x => p x.1).map fun x => (x.2 : Int)
theorem which_take {p : Tx → Bool} {l : List Tx} {k : Nat} {t : Tx} (h : l[k]? = some t) : whichL p (l.take (k + 1)) = whichL p (l.take k) ++ if p t = true then [(k : Int)] else [] := by
 have hk := (List.getElem?_eq_some_iff.1 h).1;unfold whichL;rw [List.take_add_one, h, List.zipIdx_append, List.filter_append, List.map_append, List.length_take, Nat.min_eq_left (Nat.le_of_lt hk)]
 by_cases hp : p t = true <;> simp [hp, List.zipIdx]
theorem which_le (p : Tx → Bool) (l : List Tx) : (whichL p l).length ≤ l.length := by
 unfold whichL;rw [List.length_map];exact Nat.le_trans (List.length_filter_le _ _) (by simp)
def writesB (key : Int) (t : Tx) : Bool := (leftW key t.ops).isSome && !decide (t.f = 2)
def wrtH (h : Hst) (key : Int) : List Int := if mayH h = true then whichL (writesB key) h.l else []
open Go.RowKit
open Go.Lib hiding intOf
attribute [local go_sem ↓] Go.wp_at_zero Go.wp_at_succ
theorem errH_yes {h : Hst} (hm : mayH h = true) : errH h = 0 := by unfold errH; rw [hm]; rfl
theorem errH_not {h : Hst} (hm : mayH h = false) : errH h = 4 := by unfold errH; rw [hm]; rfl
end Go.Proofs.YtbiclliooidkjaaGreatDoor
namespace Go.Proofs.YtbiclliooidkjaaGreatDoor
open Go.RowKit
open Go.Lib hiding intOf
def short11 (s : ByteArray) : ByteArray := s.extract 0 (min s.size 100)
theorem short11_size (s : ByteArray) : (short11 s).size ≤ 100 := by
 unfold short11;rw [ByteArray.size_extract];omega
theorem short11_same {s : ByteArray} (h : s.size ≤ 100) : short11 s = s := by
 unfold short11;rw [Nat.min_eq_left h];exact by_inj (by rw [by_extract, List.drop_zero, List.take_of_length_le (by rw [by_length]; exact Nat.le_refl _)])
def fewTx (t : Tx) : Tx := { t with ops := t.ops.take 25 }
def fewH (h : Hst) : Hst := ⟨(h.ss.take 25).map short11, (h.ks.take 45).map short11, (h.l.take 45).map fewTx⟩
theorem few_names (l : List ByteArray) (n : Nat) : (((l.take n).map short11).take n).map short11 = (l.take n).map short11 := by
 rw [List.take_of_length_le (by rw [List.length_map, List.length_take]; omega)]
 conv => rhs; rw [← List.map_id ((l.take n).map short11)]
 refine List.map_congr_left fun z hz => ?_;obtain ⟨y, -, rfl⟩ := List.mem_map.1 hz;exact short11_same (short11_size y)
theorem few_few (h : Hst) : fewH (fewH h) = fewH h := by
 unfold fewH;rw [few_names, few_names]
 congr 1
 dsimp only;rw [List.take_of_length_le (by rw [List.length_map, List.length_take]; omega)]
 conv => rhs; rw [← List.map_id ((h.l.take 45).map fewTx)]
 refine List.map_congr_left fun z hz => ?_;obtain ⟨y, -, rfl⟩ := List.mem_map.1 hz;unfold fewTx;dsimp only;rw [List.take_of_length_le (by rw [List.length_take]; omega)]
 rfl
theorem few_small (h : Hst) : HSmall (fewH h) where
 s := fun x hx => by
  obtain ⟨y, -, rfl⟩ := List.mem_map.1 hx;have := short11_size y;omega
 k := fun x hx => by
  obtain ⟨y, -, rfl⟩ := List.mem_map.1 hx;have := short11_size y;omega
 ns := by unfold fewH; dsimp only; rw [List.length_map, List.length_take]; omega
 nk := by unfold fewH; dsimp only; rw [List.length_map, List.length_take]; omega
 nl := by unfold fewH; dsimp only; rw [List.length_map, List.length_take]; omega
 no := fun t ht => by
  obtain ⟨y, -, rfl⟩ := List.mem_map.1 ht;unfold fewTx;dsimp only;rw [List.length_take];omega
end Go.Proofs.YtbiclliooidkjaaGreatDoor
