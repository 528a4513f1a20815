/- Parts. -/
import Derived.Test.YtbiclliooidkjaaGreatDoorLaw41AllK24
set_option maxRecDepth 10000
set_option maxHeartbeats 16000000
set_option linter.unusedVariables false
set_option linter.unusedSimpArgs false
namespace Go.Proofs.YtbiclliooidkjaaGreatDoor
open Go.RowKit
open Go.Lib hiding intOf
attribute [local go_sem ↓] Go.wp_at_zero Go.wp_at_succ
theorem wmost_any (A0 A1 A2 : Option Addr) (n0 n1 n2 c0 c1 c2 B : Nat) (h : Hst) (w : World) (hg : HIn w B A0 A1 A2 n0 n1 n2 h) :
  Calls Tryz.prog 13 #[hval A0 A1 A2 n0 n1 n2 c0 c1 c2] w fun e w' => e = .returned (.int .i64 (mostH h : Int)) ∧ Only [] w w' := by
 have HF := Hd (fun w' (O : Only [] w w') => hmay_any A0 A1 A2 n0 n1 n2 c0 c1 c2 B h w' (hg.same O));have HL := Hd hg.at_.r2;have HN1 := Hd hg.n1;have HN2 := Hd hg.n2;have HNO := Hd hg.sm.no;have hn1 : n1 ≤ 1000 := by have := hg.sm.nk; rw [hg.n1] at this; exact this
 have hn2 : n2 ≤ 1000 := by have := hg.sm.nl; rw [hg.n2] at this; exact this
 unfold hval at HF ⊢;clear hg;have HO1 := Hd ((Only.refl [] w).alloc (.cells #[.slice A0 n0 c0, .slice A1 n1 c1, .slice A2 n2 c2] 25));have HB1 := Hd (Blk.made w 25 #[.slice A0 n0 c0, .slice A1 n1 c1, .slice A2 n2 c2]);go_enter Tryz.func13, Tryz.ntmps13;go_upto_region 1 with (fail)
 generalize (w.alloc (.cells #[.slice A0 n0 c0, .slice A1 n1 c1, .slice A2 n2 c2] 25)) = w1 at *;generalize hgg : w.heap.size = g at *;have lB := HB1.out.lt;have y0 := HB1.out.at_ 0;have y1 := HB1.out.at_ 1;have y2 := HB1.out.at_ 2;simp at y0 y1 y2
 cases hm : mayH h with
 | false =>
  rw [errH_not hm] at HF;have HE : Hid (mostH h = 0) := Hd (by unfold mostH; rw [hm]; rfl);clear hm;go_wp2_with fail
  refine (HF.out _ HO1.out).mono ?_;rintro e w2 ⟨rfl, O2⟩;have HO2 := Hd (HO1.out.trans O2);clear O2 HF;go_wp2
  go_ret
  exact ⟨by rw [HE.out]; rfl, HO2.out⟩
 | true =>
  rw [errH_yes hm] at HF;have HE : Hid (mostH h = mostN h.l n1) := Hd (by unfold mostH; rw [hm, if_pos rfl, HN1.out]);clear hm;go_wp2_with fail
  refine (HF.out _ HO1.out).mono ?_;rintro e w2 ⟨rfl, O2⟩;have HO2 := Hd (HO1.out.trans O2);have HB2 := Hd (O2.blk HB1.out (by simp));clear O2 HF HO1 HB1 lB y0 y1 y2;have lB := HB2.out.lt;have y1 := HB2.out.at_ 1;simp at y1;go_wp2_with fail
  go_loopw [3, 16] (fun mv iv wr => ∃ k : Nat, iv = .int .i64 (k : Int) ∧ k ≤ n1 ∧ mv = .int .i64 (mostN h.l k : Int) ∧ Hid (Blk wr g 25 #[.slice A0 n0 c0, .slice A1 n1 c1, .slice A2 n2 c2]) ∧ Hid (Only [] w wr)) (fun _ iv _ => n1 - (intOf iv).toNat)
  case atStart => exact ⟨0, rfl, by omega, rfl, HB2, HO2⟩
  case round =>
   obtain ⟨k, rfl, hk, rfl, hB, hO⟩ := hrel;obtain ⟨wo, hwo⟩ : ∃ wo : World, wo = wr := ⟨_, rfl⟩;subst hwo;clear HB2 HO2 lB y1
   by_cases hlt : k < n1
   ·have h01 : (k : Int) < (n1 : Int) := by omega
    have hk0 : (0 : Int) ≤ (k : Int) := Int.natCast_nonneg _;have hwk : IntKind.i64.wrap ((k : Int) + 1) = (k : Int) + 1 := IntWalk.i64_in _ (by omega);have HMX : Hid (mostN h.l (k + 1) = max (mostN h.l k) (manyW h.l (k : Int))) := Hd rfl;have hmk := mostN_le h.l k;rw [HN2.out] at hmk;generalize mostN h.l k = mk at *;have lB := hB.out.lt;have y2 := hB.out.at_ 2;simp at y2;go_wp2_with fail
    go_loopw [5, 22] (fun nv jv wr => ∃ j : Nat, jv = .int .i64 (j : Int) ∧ j ≤ n2 ∧ nv = .int .i64 (manyW (h.l.take j) (k : Int) : Int) ∧ Hid (Only [] wo wr)) (fun _ jv _ => n2 - (intOf jv).toNat)
    case atStart => exact ⟨0, rfl, by omega, rfl, Hd (Only.refl [] wo)⟩
    case round =>
     obtain ⟨j, rfl, hj, rfl, hOi⟩ := hrel;clear lB y2
     by_cases hlt2 : j < n2
     ·obtain ⟨x, hx⟩ : ∃ x, h.l[j]? = some x := ⟨_, List.getElem?_eq_getElem (by rw [HN2.out]; exact hlt2)⟩;have OW := hO.out.trans hOi.out;obtain ⟨bl, off, A', cp, rfl, -, hbw, hT, hOk⟩ := HL.out.at_ hx;obtain ⟨a0, a1, a2⟩ := hT.only OW hbw (by simp);have HWT := Hd (manyW_take (key := (k : Int)) hx);have hml := manyW_le (h.l.take j) (k : Int);rw [List.length_take] at hml;have hxo := HNO.out x (List.mem_of_getElem? hx);have hrow := hOk.row;have HROW := Hd (fun w' (O : Only [] w w') => left_any A' x.ops.length cp B x.ops (k : Int) w' (hrow.only O (by simp)) rfl hxo);have hbr : bl < wr.heap.size := by have := OW.size; omega
      have h02 : (j : Int) < (n2 : Int) := by omega
      have hj0 : (0 : Int) ≤ (j : Int) := Int.natCast_nonneg _;have hwj : IntKind.i64.wrap ((j : Int) + 1) = (j : Int) + 1 := IntWalk.i64_in _ (by omega);generalize manyW (h.l.take j) (k : Int) = q at *;have hwq : IntKind.i64.wrap ((q : Int) + 1) = (q : Int) + 1 := IntWalk.i64_in _ (by omega);have HWB : Hid (writesB (k : Int) x = ((leftW (k : Int) x.ops).isSome && !decide (x.f = 2))) := Hd rfl;have HOW := Hd OW;obtain ⟨s, f, ops⟩ := x;dsimp only at *;generalize leftW (k : Int) ops = v at *;generalize hwb : writesB (k : Int) ⟨s, f, ops⟩ = wb at *;generalize ops.length = m at *;clear hT hOk hx hrow hxo OW hwb;go_upto_region 11 with (fail)
      have O3 : Only [] wr (wr.alloc (.cells #[.int .i64 s, .int .i64 f, .slice A' m cp] 39)) := (Only.refl [] wr).alloc _;have HT3 := Hd (Blk.made wr 39 #[.int .i64 s, .int .i64 f, .slice A' m cp]);have HO3 := Hd (hOi.out.trans O3);have HO3w := Hd (HOW.out.trans O3);clear O3 a0 a1 a2 hOi HOW hbr;generalize (wr.alloc (.cells #[.int .i64 s, .int .i64 f, .slice A' m cp] 39)) = w3 at *;generalize wr.heap.size = gt at *;have lT := HT3.out.lt;have t2 := HT3.out.at_ 2;simp at t2;go_wp2_with fail
      refine (HROW.out _ HO3w.out).mono ?_;rintro e w4 ⟨rfl, O4⟩;have HO4 := Hd (HO3.out.trans O4);have HT4 := Hd (O4.blk HT3.out (by simp));unfold optT optV;clear O4 HROW HO3 HT3 HO3w lT t2;generalize (v.getD (0, 0)).1 = v1 at *;generalize (v.getD (0, 0)).2 = v2 at *;generalize v.isSome = vb at *;go_upto_region 12 with (fail)
      have HO5 := Hd (HO4.out.alloc (.cells #[.int .i64 v1, .int .i64 v2] 48));have HT5 := Hd (HT4.out.alloc (.cells #[.int .i64 v1, .int .i64 v2] 48));clear HO4 HT4;generalize (w4.alloc (.cells #[.int .i64 v1, .int .i64 v2] 48)) = w5 at *;have lT := HT5.out.lt;have t1 := HT5.out.at_ 1;simp at t1
      cases vb with
      | false =>
       have HE2 : Hid (manyW (h.l.take (j + 1)) (k : Int) = q) := Hd (by rw [HWT.out, HWB.out]; simp);clear HWT HWB;go_wp2
       go_roundw
       case rel => exact ⟨j + 1, by go_num, by omega, by rw [HE2.out], HO5⟩
       case measure => simp [intOf]; omega
      | true =>
       by_cases hf : f = 2
       ·have d1 : (f != 2) = false := by simp [hf]
        have HE2 : Hid (manyW (h.l.take (j + 1)) (k : Int) = q) := Hd (by rw [HWT.out, HWB.out]; simp [hf]);clear HWT HWB hf;go_wp2
        go_roundw
        case rel => exact ⟨j + 1, by go_num, by omega, by rw [HE2.out], HO5⟩
        case measure => simp [intOf]; omega
       ·have d1 : (f != 2) = true := by simp [hf]
        have HE2 : Hid (manyW (h.l.take (j + 1)) (k : Int) = q + 1) := Hd (by rw [HWT.out, HWB.out]; simp [hf]);clear HWT HWB hf;go_wp2
        go_roundw
        case rel => exact ⟨j + 1, by go_num, by omega, by rw [HE2.out]; simp, HO5⟩
        case measure => simp [intOf]; omega
     ·have hjn : j = n2 := by omega
      subst hjn;have hd2 : decide ((j : Int) < (j : Int)) = false := by simp
      have HME : Hid (manyW (h.l.take j) (k : Int) = manyW h.l (k : Int)) := Hd (by rw [List.take_of_length_le (by rw [HN2.out]; exact Nat.le_refl _)]);rw [HME.out];have hml := manyW_le h.l (k : Int);rw [HN2.out] at hml;generalize manyW h.l (k : Int) = q at *;have hmax : max (mk : Int) (q : Int) = ((max mk q : Nat) : Int) := by omega
      go_wp2
      go_roundw
      case rel => exact ⟨k + 1, by go_num, by omega, by rw [HMX.out], Hd (hOi.out.blk hB.out (by simp)), Hd (hO.out.trans hOi.out)⟩
      case measure => simp [intOf]; omega
   ·have hkn : k = n1 := by omega
    subst hkn;have hd2 : decide ((k : Int) < (k : Int)) = false := by simp
    go_wp2
    go_ret
    exact ⟨by rw [HE.out]; rfl, hO.out⟩
end Go.Proofs.YtbiclliooidkjaaGreatDoor
namespace Go.Proofs.YtbiclliooidkjaaGreatDoor
open Go.RowKit
open Go.Lib hiding intOf
structure RK (w0 w : World) (hc : Array Value) (g0 g1 gG : Nat) (cs : Array Value) (L : List OR) : Prop where
 bh : Blk w g0 25 hc
 br : Blk w g1 25 zeroH
 bg : Blk w gG 25 cs
 rows : ORs w w0.heap.size L
 o : Only [] w0 w
 d01 : g0 < g1
 d1G : g1 < gG
 base : w0.heap.size ≤ g0
 ty : ∀ r ∈ L, r.e ≠ 25
section
variable {w0 w w' : World} {hc cs : Array Value} {g0 g1 gG : Nat} {L : List OR}
theorem RK.same (h : RK w0 w hc g0 g1 gG cs L) (O : Only [] w w') : RK w0 w' hc g0 g1 gG cs L where
 bh := O.blk h.bh (by simp)
 br := O.blk h.br (by simp)
 bg := O.blk h.bg (by simp)
 rows := h.rows.same O
 o := h.o.trans O
 d01 := h.d01
 d1G := h.d1G
 base := h.base
 ty := h.ty
theorem RK.upd {i : Nat} {r r' : OR} (h : RK w0 w hc g0 g1 gG cs L) (hi : L[i]? = some r) (O : Only r.v.ownBlock.toList w w') (hr : r'.ok w' w0.heap.size) (he : r'.e = r.e)
  (hv : r'.v.ownBlock = r.v.ownBlock ∨ ∀ g, r'.v.ownBlock = some g → w.heap.size ≤ g) : RK w0 w' hc g0 g1 gG cs (L.set i r') where
 bh := O.blk h.bh (own_apart (h.rows.all i r hi) h.bh (h.ty r (List.mem_of_getElem? hi)))
 br := O.blk h.br (own_apart (h.rows.all i r hi) h.br (h.ty r (List.mem_of_getElem? hi)))
 bg := O.blk h.bg (own_apart (h.rows.all i r hi) h.bg (h.ty r (List.mem_of_getElem? hi)))
 rows := h.rows.upd hi O hr hv
 o := h.o.step O (fun j hj hl => by
  have := (h.rows.all i r hi).lt j (by simpa using hj);omega)
 d01 := h.d01
 d1G := h.d1G
 base := h.base
 ty := fun s hs => by
  rcases List.mem_or_eq_of_mem_set hs with h1 | rfl
  ·exact h.ty s h1
  ·rw [he]; exact h.ty r (List.mem_of_getElem? hi)
theorem RK.push {r' : OR} (h : RK w0 w hc g0 g1 gG cs L) (hr : r'.ok w w0.heap.size) (hv : r'.v.ownBlock = none) (ht : r'.e ≠ 25) : RK w0 w hc g0 g1 gG cs (L ++ [r']) :=
  { h with
    rows := h.rows.push hr hv
    ty := fun s hs => by
      rcases List.mem_append.1 hs with h1 | h1
      · exact h.ty s h1
      · simp at h1; subst h1; exact ht }
theorem RK.notG (h : RK w0 w hc g0 g1 gG cs L) : ∀ g ∈ ownB L, g ∉ [gG] := fun g hg hm => by
 simp at hm;subst hm;obtain ⟨i, r, hi, hr⟩ := ownB_mem.1 hg;exact own_apart (h.rows.all i r hi) h.bg (h.ty r (List.mem_of_getElem? hi)) (by simp [hr])
theorem RK.setG (h : RK w0 w hc g0 g1 gG cs L) (j : Nat) (u : Value) : RK w0 (w.setCell ⟨gG, j, none⟩ u) hc g0 g1 gG (cs.setIfInBounds j u) L where
 bh := h.bh.far (p := ⟨gG, j, none⟩) (by have := h.d01; have := h.d1G; show g0 ≠ gG; omega) u
 br := h.br.far (p := ⟨gG, j, none⟩) (by have := h.d1G; show g1 ≠ gG; omega) u
 bg := h.bg.put j u
 rows := h.rows.only ((Only.refl [gG] w).put (p := ⟨gG, j, none⟩) (fun _ => by simp) u) h.notG
 o := h.o.step ((Only.refl [gG] w).put (p := ⟨gG, j, none⟩) (fun _ => by simp) u) (fun i hi hl => by
  have := h.d01; have := h.d1G; have := h.base;simp at hi;omega)
 d01 := h.d01
 d1G := h.d1G
 base := h.base
 ty := h.ty
theorem RK.grow {i : Nat} {r : OR} {v' : Value} {n' : Nat} {xs' : List Value} (h : RK w0 w hc g0 g1 gG cs L) (hi : L[i]? = some r) (hgrow : w.grownBy w' r.v.ownBlock) (hown : w'.ownsRow w0.heap.size r.e r.sz v' n' xs')
  (hat : v'.ownBlock = r.v.ownBlock ∨ v'.ownBlock = some w.heap.size) : RK w0 w' hc g0 g1 gG cs (L.set i ⟨r.e, r.sz, v', n', xs'⟩) :=
 h.upd (r' := ⟨r.e, r.sz, v', n', xs'⟩) hi (only_grown hgrow) hown rfl (hat.imp id fun e g hg => by rw [e] at hg; cases hg; exact Nat.le_refl _)
theorem RK.growLast {r : OR} {v' : Value} {n' : Nat} {xs' : List Value} (h : RK w0 w hc g0 g1 gG cs (L ++ [r])) (hgrow : w.grownBy w' r.v.ownBlock) (hown : w'.ownsRow w0.heap.size r.e r.sz v' n' xs')
  (hat : v'.ownBlock = r.v.ownBlock ∨ v'.ownBlock = some w.heap.size) : RK w0 w' hc g0 g1 gG cs (L ++ [⟨r.e, r.sz, v', n', xs'⟩]) := by
 have h1 := h.grow (i := L.length) (r := r) (by simp) hgrow hown hat;have e : (L ++ [r]).set L.length ⟨r.e, r.sz, v', n', xs'⟩ = L ++ [⟨r.e, r.sz, v', n', xs'⟩] := by simp
 rwa [e] at h1
theorem RK.setFree {g : Nat} {t : TypeId} {cs' : Array Value} (h : RK w0 w hc g0 g1 gG cs L) (hb : Blk w g t cs') (ht : t ≠ 25) (hL : g ∉ ownB L) (hg : w0.heap.size ≤ g) (j : Nat) (u : Value) :
    RK w0 (w.setCell ⟨g, j, none⟩ u) hc g0 g1 gG cs L :=
  have O : Only [g] w (w.setCell ⟨g, j, none⟩ u) := (Only.refl [g] w).put (p := ⟨g, j, none⟩) (fun _ => by simp) u
  { bh := h.bh.far (p := ⟨g, j, none⟩) (h.bh.apart hb (Ne.symm ht)) u
    br := h.br.far (p := ⟨g, j, none⟩) (h.br.apart hb (Ne.symm ht)) u
    bg := h.bg.far (p := ⟨g, j, none⟩) (h.bg.apart hb (Ne.symm ht)) u
    rows := h.rows.only O (fun x hx hm => by simp at hm; subst hm; exact hL hx)
    o := h.o.step O (fun i hi hl => by simp at hi; omega)
    d01 := h.d01
    d1G := h.d1G
    base := h.base
    ty := h.ty }
theorem RK.last {r : OR} (h : RK w0 w hc g0 g1 gG cs (L ++ [r])) : w.ownsRow w0.heap.size r.e r.sz r.v r.n r.xs := h.rows.all L.length r (by simp)
theorem RK.free_of {g : Nat} {t : TypeId} {cs' : Array Value} (h : RK w0 w hc g0 g1 gG cs L) (hb : Blk w g t cs') (hq : ∀ r ∈ L, r.e = t → r.v.ownBlock ≠ some g) : g ∉ ownB L := fun hg => by
 obtain ⟨i, r, hi, hr⟩ := ownB_mem.1 hg
 by_cases ht : r.e = t
 ·exact hq r (List.mem_of_getElem? hi) ht hr
 ·exact own_apart (h.rows.all i r hi) hb ht (by simp [hr])
theorem RK.out {base' : Nat} (h : RK w0 w hc g0 g1 gG cs L) : ∀ g ∈ ownB L, g < w.heap.size := fun g hg => (h.rows.ge g hg).2
end
theorem ORs.tail {w : World} {base : Nat} {r : OR} {L : List OR} (h : ORs w base (r :: L)) : ORs w base L :=
 ⟨fun i s hi => h.all (i + 1) s (by simpa using hi), fun i j s t hs ht hij => h.ap (i + 1) (j + 1) s t (by simpa using hs) (by simpa using ht) (by omega)⟩
theorem RK.rowsR {w0 w w' : World} {hc cs : Array Value} {g0 g1 gG : Nat} {L : List OR} (h : RK w0 w hc g0 g1 gG cs L) (O : Only [g1] w w') : ORs w' w0.heap.size L :=
 h.rows.only O (fun g hg hm => by
  simp at hm;subst hm;obtain ⟨i, r, hi, hr⟩ := ownB_mem.1 hg;exact own_apart (h.rows.all i r hi) h.br (h.ty r (List.mem_of_getElem? hi)) (by simp [hr]))
def rI (V : Value) (zs : List Int) : OR := ⟨3, 1, V, zs.length, zs.map (Value.int .i64)⟩
def toL (l : List Tx) (k : Nat) : List Int := (List.range k).map fun i => (numK notLost l i : Int)
theorem toL_succ (l : List Tx) (k : Nat) : toL l (k + 1) = toL l k ++ [(numK notLost l k : Int)] := by unfold toL; rw [List.range_succ]; simp
theorem toL_get (l : List Tx) {k i : Nat} (h : i < k) : (toL l k)[i]? = some (numK notLost l i : Int) := by unfold toL; simp [h]
theorem used_take {p : Op4 → Bool} {l : List Tx} {q : Nat} {t : Tx} (h : l[q]? = some t) (i : Int) : usedK p (l.take (q + 1)) i = (usedK p (l.take q) i || txUse p i t) := by
 unfold usedK;rw [List.take_add_one, h, List.any_append];simp
theorem use_take {p : Op4 → Bool} {ops : List Op4} {j : Nat} {o : Op4} (h : ops[j]? = some o) (i : Int) : (ops.take (j + 1)).any (opUse p i) = ((ops.take j).any (opUse p i) || opUse p i o) := by
 rw [List.take_add_one, h, List.any_append];simp
end Go.Proofs.YtbiclliooidkjaaGreatDoor
