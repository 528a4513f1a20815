/- The document's Lost: where reads stand that were lost. Few of a history that has few parts already; the contracts of law 11, said of a history that lies there. What the document's erase holds while it goes through a history: Raw's blocks and rows. The document's erase: Raw. The document's erase: By. EraseOf: the walk. -/
import Derived.Test.YtjhomlnlmpdklaaGreatDoorEraseStaysCardK37
import Derived.Test.YtjhomlnlmpdklaaGreatDoorEraseStaysCardK31
import Derived.BigQuiet
import Derived.Test.YtjhomlnlmpdklaaGreatDoorEraseStaysCardK33
import Derived.Test.YtjhomlnlmpdklaaGreatDoorEraseStaysCardK32
import Derived.Test.YtjhomlnlmpdklaaGreatDoorEraseStaysCardK19
import Derived.Test.YtjhomlnlmpdklaaGreatDoorEraseStaysCardK34
import Derived.Test.YtjhomlnlmpdklaaGreatDoorEraseStaysCardK26
import Derived.Test.YtjhomlnlmpdklaaGreatDoorEraseStaysCardK10
import Derived.Test.YtjhomlnlmpdklaaGreatDoorEraseStaysCardK35
import Derived.Test.YtjhomlnlmpdklaaGreatDoorEraseStaysCardK45
import Derived.Test.YtjhomlnlmpdklaaGreatDoorEraseStaysCardK46
set_option linter.unusedVariables false
set_option linter.unusedSimpArgs false
namespace Go.Proofs.YtjhomlnlmpdklaaGreatDoor
open Go.RowKit
open Go.Lib hiding intOf
attribute [local go_sem ↓] Go.wp_at_zero Go.wp_at_succ
set_option maxRecDepth 10000 in
set_option maxHeartbeats 4000000 in
theorem rlost_any (A0 A1 A2 : Option Addr) (n0 n1 n2 c0 c1 c2 B : Nat) (h : Hst) (w : World) (hg : LRow w B A2 h.l) (hn2 : h.l.length = n2) (hM : n2 ≤ 1000) (hno : ∀ t ∈ h.l, t.ops.length ≤ 1000) :
  Calls Tryz.prog 31 #[hval A0 A1 A2 n0 n1 n2 c0 c1 c2] w fun e w' =>
   ∃ A c, (e = .returned (.slice A (lostP (plsL h.l)).length c) ∧ Row w' w'.heap.size A (placeC (lostP (plsL h.l)))) ∧ Only [] w w' := by
 unfold hval
 obtain ⟨i0, hi, hz0, hz1, hz2⟩ := info_parts info_place
 have HG := Lib.hid hg
 have HN2 := Lib.hid hn2
 have HNO := Lib.hid hno
 have HO := Lib.hid (((Only.refl [] w).alloc (.cells #[.slice A0 n0 c0, .slice A1 n1 c1, .slice A2 n2 c2] 25)).alloc (.cells #[] 27))
 have HB := Lib.hid ((Blk.made w 25 #[.slice A0 n0 c0, .slice A1 n1 c1, .slice A2 n2 c2]).alloc (.cells #[] 27))
 have HV := Lib.hid (World.ownsRow_lit (w.alloc (.cells #[.slice A0 n0 c0, .slice A1 n1 c1, .slice A2 n2 c2] 25)) (e := 27) (size := 2) #[] 0 (Nat.le_refl _) (by unfold maxLen; omega) rfl)
 rw [World.size_alloc] at HV
 clear hg hn2 hno
 go_enter Tryz.func31, Tryz.ntmps31
 go_wp2_with fail
 go_loopw [3, 4] (fun V iv wr => ∃ k : Nat, iv = .int .i64 k ∧ k ≤ n2 ∧ Hid (wr.ownsRow (w.heap.size + 1) 27 2 V (lostP (plsL (h.l.take k))).length (placeC (lostP (plsL (h.l.take k))))) ∧ Hid (Blk wr w.heap.size 25 #[.slice A0 n0 c0, .slice A1 n1 c1, .slice A2 n2 c2]) ∧ Hid (Only [] w wr)) (fun _ iv _ => n2 - (intOf iv).toNat)
 case atStart => exact ⟨0, rfl, by omega, HV, HB, HO⟩
 case round =>
  obtain ⟨k, rfl, hk, hV, hB, hO⟩ := hrel
  clear HV HB HO
  by_cases hlt : k < n2
  ·obtain ⟨x, hx⟩ : ∃ x, h.l[k]? = some x := ⟨_, List.getElem?_eq_getElem (by rw [HN2.out]; exact hlt)⟩
   obtain ⟨b, off, A', cp, rfl, -, hbw, hT, hOk⟩ := HG.out.at_ hx
   have HT := Lib.hid hT
   have HPT := Lib.hid (plsL_take hx)
   have hpl := plsL_len (h.l.take k) (fun t ht => HNO.out t (List.mem_of_mem_take ht))
   rw [List.length_take] at hpl
   have hm1 := HNO.out x (List.mem_of_getElem? hx)
   have HROW := Lib.hid hOk.row
   obtain ⟨s, f, ops⟩ := x
   dsimp only at HT HPT hm1 HROW
   generalize hm : ops.length = m at *
   have HMM := Lib.hid hm
   have h01 : (k : Int) < (n2 : Int) := by omega
   have hk0 : (0 : Int) ≤ (k : Int) := Int.natCast_nonneg _
   have hwk : IntKind.i64.wrap ((k : Int) + 1) = (k : Int) + 1 := IntWalk.i64_in _ (by omega)
   have hV' : Hid (wr.ownsRow (w.heap.size + 1) 27 2 u3 (lostP (plsL (h.l.take k) ++ plsT k (ops.take 0))).length (placeC (lostP (plsL (h.l.take k) ++ plsT k (ops.take 0))))) := by simpa [plsT] using hV
   have hB' := hB
   have hO' := hO
   clear hT hOk hx hm hV
   have lB := hB'.out.lt
   have b2 := hB'.out.at_ 2
   simp at b2
   go_wp2_with fail
   clear lB b2 hB hO
   go_loopw [3, 5] (fun V iv wr => ∃ j : Nat, iv = .int .i64 j ∧ j ≤ m ∧ Hid (wr.ownsRow (w.heap.size + 1) 27 2 V (lostP (plsL (h.l.take k) ++ plsT k (ops.take j))).length (placeC (lostP (plsL (h.l.take k) ++ plsT k (ops.take j))))) ∧ Hid (Blk wr w.heap.size 25 #[.slice A0 n0 c0, .slice A1 n1 c1, .slice (some ⟨b, off, none⟩) n2 c2]) ∧ Hid (Only [] w wr)) (fun _ iv _ => m - (intOf iv).toNat)
   case atStart => exact ⟨0, rfl, by omega, hV', hB', hO'⟩
   case round =>
    obtain ⟨j, rfl, hj, hV, hB, hO⟩ := hrel
    clear hV' hB' hO'
    have hsz := hO.out.size
    have lB := hB.out.lt
    have b2 := hB.out.at_ 2
    simp at b2
    obtain ⟨a0, a1, a2⟩ := HT.out.only hO.out hbw (by simp)
    dsimp only at a2
    rw [HMM.out] at a2
    have hbr : b < wr.heap.size := by omega
    clear a0 a1
    by_cases hlt2 : j < m
    ·obtain ⟨y, hy⟩ : ∃ y, ops[j]? = some y := ⟨_, List.getElem?_eq_getElem (by rw [HMM.out]; exact hlt2)⟩
     obtain ⟨b', off', rfl, -, hbw', hP⟩ := row_op HROW.out hy
     obtain ⟨p0, p1, p2, p3⟩ := hP.only hO.out hbw' (by simp)
     have HTT := Lib.hid (plsT_take (i := k) hy)
     have hll := lostP_le (plsL (h.l.take k) ++ plsT k (ops.take j))
     rw [List.length_append, plsT_len, List.length_take] at hll
     obtain ⟨yw, yk, yv, yn⟩ := y
     dsimp only at p0 p1 p2 p3
     have h02 : (j : Int) < (m : Int) := by omega
     have hj0 : (0 : Int) ≤ (j : Int) := Int.natCast_nonneg _
     have hwj : IntKind.i64.wrap ((j : Int) + 1) = (j : Int) + 1 := IntWalk.i64_in _ (by omega)
     have hbr' : b' < wr.heap.size := by omega
     clear hP hy p0 p1 p3
     by_cases hv2 : yv = 2
     ·have HE : Hid (lostP (plsL (h.l.take k) ++ plsT k (ops.take (j + 1))) = lostP (plsL (h.l.take k) ++ plsT k (ops.take j)) ++ [((k : Int), (j : Int))]) := Lib.hid (by
       rw [HTT.out, ← List.append_assoc, lostP_hit _ (by exact hv2)])
      subst hv2
      go_wp2_with (at_builtin; refine wpList_append_row _ rfl (.tmp 37) (.tmp 41) _ rfl (w.heap.size + 1) 27 i0 _ 2 16 Tryz.underlying56 hi hz0 hz1 hz2 rfl (by omega) _ _ _ rfl (own_only hV.out ((Only.refl [] _).alloc _) (by simp)) (wr.heap.size + 1) (some ⟨wr.heap.size, 0, none⟩) 1 1 [.int .i64 (k : Int), .int .i64 (j : Int)] rfl rfl (row_lit wr 27 #[.int .i64 (k : Int), .int .i64 (j : Int)]) (by intro u hu; simp at hu; rcases hu with rfl | rfl <;> rfl) (by unfold maxLen; omega) (by omega) (by simp; omega) ?_; intro v4 w4 hown4 hgrow hat)
      have hb1 := hB.out.alloc (.cells #[.int .i64 (k : Int), .int .i64 (j : Int)] 27)
      have hv1 := own_only hV.out ((Only.refl [] wr).alloc (.cells #[.int .i64 (k : Int), .int .i64 (j : Int)] 27)) (by simp)
      have REL : w4.ownsRow (w.heap.size + 1) 27 2 v4 (lostP (plsL (h.l.take k) ++ plsT k (ops.take (j + 1)))).length (placeC (lostP (plsL (h.l.take k) ++ plsT k (ops.take (j + 1))))) ∧ Blk w4 w.heap.size 25 #[.slice A0 n0 c0, .slice A1 n1 c1, .slice (some ⟨b, off, none⟩) n2 c2] ∧ Only [] w w4 := by
       refine ⟨?_, (only_grown hgrow).blk hb1 (own_apart hv1 hb1 (by decide)), (hO.out.alloc _).step (only_grown hgrow) (fun i hi hl => own_new hV.out (S := []) i hi (by omega))⟩
       rw [HE.out, placeC_append]
       simpa [placeC] using hown4
      have HREL := Lib.hid REL
      clear REL hown4 lB b2 a2 p2 hb1 hv1
      go_wp2
      go_roundw
      case rel => first | exact ⟨j + 1, by go_num, by omega, Lib.hid HREL.out.1, Lib.hid HREL.out.2.1, Lib.hid HREL.out.2.2⟩ | exact ⟨_, ⟨j + 1, by go_num, by omega, Lib.hid HREL.out.1, Lib.hid HREL.out.2.1, Lib.hid HREL.out.2.2⟩, rfl⟩
      case measure => simp [intOf]; omega
     ·have HE : Hid (lostP (plsL (h.l.take k) ++ plsT k (ops.take (j + 1))) = lostP (plsL (h.l.take k) ++ plsT k (ops.take j))) := Lib.hid (by
       rw [HTT.out, ← List.append_assoc, lostP_miss _ (by exact hv2)])
      have hf1 : (yv == 2) = false := by simpa using hv2
      clear hv2
      go_wp2
      go_roundw
      case rel => exact ⟨j + 1, by go_num, by omega, Lib.hid (by rw [HE.out]; exact hV.out), hB, hO⟩
      case measure => simp [intOf]; omega
    ·have hjm : j = m := by omega
     subst hjm
     have hd3 : decide ((j : Int) < (j : Int)) = false := by simp
     have hVE : Hid (wr.ownsRow (w.heap.size + 1) 27 2 u3 (lostP (plsL (h.l.take (k + 1)))).length (placeC (lostP (plsL (h.l.take (k + 1)))))) := Lib.hid (by
      have := hV.out
      rw [show ops.take j = ops from List.take_of_length_le (by rw [HMM.out]; exact Nat.le_refl _)] at this
      rw [HPT.out]
      exact this)
     clear hV
     go_wp2
     go_roundw
     case rel => exact ⟨k + 1, by go_num, by omega, hVE, hB, hO⟩
     case measure => simp [intOf]; omega
  ·have hkn : k = n2 := by omega
   subst hkn
   have lB := hB.out.lt
   have b2 := hB.out.at_ 2
   simp at b2
   have hd2 : decide ((k : Int) < (k : Int)) = false := by simp
   have hVV := hV.out
   rw [List.take_of_length_le (by rw [HN2.out]; exact Nat.le_refl _)] at hVV
   obtain ⟨A, c, rfl, -, -, -, hR⟩ := own_row hVV
   have HR := Lib.hid hR
   clear hV hVV hR
   go_wp2
   go_ret
   first | exact ⟨⟨_, ⟨_, rfl⟩, HR.out⟩, hO.out⟩ | exact ⟨_, _, ⟨rfl, HR.out⟩, hO.out⟩
end Go.Proofs.YtjhomlnlmpdklaaGreatDoor

set_option linter.unusedVariables false
set_option linter.unusedSimpArgs false
namespace Go.Proofs.YtjhomlnlmpdklaaGreatDoor
open Go.RowKit
open Go.Lib hiding intOf
/-- Few of what came in. -/
theorem few_first (A0 A1 A2 : Option Addr) (c0 c1 c2 : Nat) (h : Hst) (w : World) (hg : HAt w w.heap.size A0 A1 A2 h) (hm0 : h.ss.length ≤ maxLen) (hm1 : h.ks.length ≤ maxLen) (hm2 : h.l.length ≤ maxLen)
  (hz0 : ∀ z ∈ h.ss, z.size ≤ maxLen) (hz1 : ∀ z ∈ h.ks, z.size ≤ maxLen) (hT : UTabs w) :
  Calls Tryz.prog 9 #[.agg #[.slice A0 h.ss.length c0, .slice A1 h.ks.length c1, .slice A2 h.l.length c2]] w fun e w' => ∃ A0' A1' A2' c0' c1' c2', (e = .returned (.agg #[.slice A0' (fewH h).ss.length c0', .slice A1' (fewH h).ks.length c1', .slice A2' (fewH h).l.length c2']) ∧ HIn w' w'.heap.size A0' A1' A2' (fewH h).ss.length (fewH h).ks.length (fewH h).l.length (fewH h)) ∧ Only [] w w' := by
 unfold maxLen at *
 refine (few11_any A0 A1 A2 _ _ _ c0 c1 c2 w.heap.size h w hg rfl rfl rfl (by omega) (by omega) (by omega) (fun z hz => by have := hz0 z hz; omega) (fun z hz => by have := hz1 z hz; omega)).mono ?_
 rintro e w' ⟨A0', A1', A2', c0', c1', c2', ⟨rfl, hA⟩, O⟩
 exact ⟨A0', A1', A2', c0', c1', c2', ⟨rfl, ⟨hA, rfl, rfl, rfl, few_small h, hT.only O⟩⟩, O⟩
/-- A row does not lie in a block that holds nothing like its first cell. -/
theorem row_past {w w' : World} {B : Nat} {A : Option Addr} {xs : List Value} {g : Nat} {t : TypeId} {cs : Array Value} (h : Row w B A xs) (hb : Blk w g t cs) (hne : ∀ u : Value, xs[0]? = some u → ∀ j : Nat, cs[j]? ≠ some u) (ho : Only [g] w w') : Row w' w'.heap.size A xs := by
 rcases h with rfl | ⟨b, off, rfl, h1, h2, hc⟩
 ·exact .inl rfl
 ·cases xs with
  | nil => exact .inl rfl
  | cons u xs =>
   have h0 := hc 0 u rfl
   have hbg : b ≠ g := fun e => by
    subst e
    rw [hb.at_] at h0
    exact hne u rfl _ h0
   have := ho.size
   exact .inr ⟨b, off, rfl, by omega, by omega, fun j v hv => (ho.cell (p := ⟨b, off + j, none⟩) (by show b < _; omega) (by simp [hbg])).trans (hc j v hv)⟩
theorem HIn.past {w w' : World} {B : Nat} {A0 A1 A2 : Option Addr} {n0 n1 n2 : Nat} {h : Hst} {g : Nat} {t : TypeId} {a0 a1 a2 : Option Addr} {k0 k1 k2 e0 e1 e2 : Nat} (hI : HIn w B A0 A1 A2 n0 n1 n2 h) (hb : Blk w g t #[.slice a0 k0 e0, .slice a1 k1 e1, .slice a2 k2 e2]) (ho : Only [g] w w') (hU : UTabs w') :
  HIn w' w'.heap.size A0 A1 A2 n0 n1 n2 h := by
 have key : ∀ (u : Value), (∀ a n c, u ≠ .slice a n c) → ∀ j : Nat, (#[Value.slice a0 k0 e0, .slice a1 k1 e1, .slice a2 k2 e2] : Array Value)[j]? ≠ some u := by
  intro u hu j hj
  match j with
  | 0 => simp at hj; exact hu _ _ _ hj.symm
  | 1 => simp at hj; exact hu _ _ _ hj.symm
  | 2 => simp at hj; exact hu _ _ _ hj.symm
  | j + 3 => simp at hj
 obtain ⟨⟨r0, r1, ⟨xs, hx, r2, hxs⟩⟩, q0, q1, q2, q3, -⟩ := hI
 have ks : ∀ l : List ByteArray, ∀ u : Value, (strs l)[0]? = some u → ∀ a n c, u ≠ .slice a n c := by
  intro l u hu a n c e
  subst e
  cases l <;> simp [strs] at hu
 refine ⟨⟨row_past r0 hb (fun u hu => key u (ks _ u hu)) ho, row_past r1 hb (fun u hu => key u (ks _ u hu)) ho, ⟨xs, hx, row_past r2 hb (fun u hu => key u ?_) ho, fun x hx => ⟨row_past (hxs x hx).row hb (fun u hu => key u ?_) ho, (hxs x hx).le, (hxs x hx).cap⟩⟩⟩, q0, q1, q2, q3, hU⟩
 ·intro a n c e
  subst e
  cases xs <;> simp [txC, TxA.c] at hu
 ·intro a n c e
  subst e
  cases hxo : x.t.ops with
  | nil => rw [hxo] at hu; simp [opC] at hu
  | cons y l => rw [hxo] at hu; simp [opC, Op4.c] at hu
end Go.Proofs.YtjhomlnlmpdklaaGreatDoor

set_option linter.unusedVariables false
set_option linter.unusedSimpArgs false
namespace Go.Proofs.YtjhomlnlmpdklaaGreatDoor
open Go.RowKit
open Go.Lib hiding intOf
structure RK (w0 w : World) (hc : Array Value) (g0 g1 gG : Nat) (cs : Array Value) (L : List OR) : Prop where
 bh : Blk w g0 25 hc
 br : Blk w g1 25 zeroH
 bg : Blk w gG 25 cs
 rows : ORs w w0.heap.size L
 o : Only [] w0 w
 d01 : g0 < g1
 d1G : g1 < gG
 base : w0.heap.size ≤ g0
 ty : ∀ r ∈ L, r.e ≠ 25
section
variable {w0 w w' : World} {hc cs : Array Value} {g0 g1 gG : Nat} {L : List OR}
theorem RK.same (h : RK w0 w hc g0 g1 gG cs L) (O : Only [] w w') : RK w0 w' hc g0 g1 gG cs L where
 bh := O.blk h.bh (by simp)
 br := O.blk h.br (by simp)
 bg := O.blk h.bg (by simp)
 rows := h.rows.same O
 o := h.o.trans O
 d01 := h.d01
 d1G := h.d1G
 base := h.base
 ty := h.ty
theorem RK.upd {i : Nat} {r r' : OR} (h : RK w0 w hc g0 g1 gG cs L) (hi : L[i]? = some r) (O : Only r.v.ownBlock.toList w w') (hr : r'.ok w' w0.heap.size) (he : r'.e = r.e)
  (hv : r'.v.ownBlock = r.v.ownBlock ∨ ∀ g, r'.v.ownBlock = some g → w.heap.size ≤ g) : RK w0 w' hc g0 g1 gG cs (L.set i r') where
 bh := O.blk h.bh (own_apart (h.rows.all i r hi) h.bh (h.ty r (List.mem_of_getElem? hi)))
 br := O.blk h.br (own_apart (h.rows.all i r hi) h.br (h.ty r (List.mem_of_getElem? hi)))
 bg := O.blk h.bg (own_apart (h.rows.all i r hi) h.bg (h.ty r (List.mem_of_getElem? hi)))
 rows := h.rows.upd hi O hr hv
 o := h.o.step O (fun j hj hl => by
  have := (h.rows.all i r hi).lt j (by simpa using hj)
  omega)
 d01 := h.d01
 d1G := h.d1G
 base := h.base
 ty := fun s hs => by
  rcases List.mem_or_eq_of_mem_set hs with h1 | rfl
  ·exact h.ty s h1
  ·rw [he]; exact h.ty r (List.mem_of_getElem? hi)
theorem RK.push {r' : OR} (h : RK w0 w hc g0 g1 gG cs L) (hr : r'.ok w w0.heap.size) (hv : r'.v.ownBlock = none) (ht : r'.e ≠ 25) : RK w0 w hc g0 g1 gG cs (L ++ [r']) :=
  { h with
    rows := h.rows.push hr hv
    ty := fun s hs => by
      rcases List.mem_append.1 hs with h1 | h1
      · exact h.ty s h1
      · simp at h1; subst h1; exact ht }
theorem RK.notG (h : RK w0 w hc g0 g1 gG cs L) : ∀ g ∈ ownB L, g ∉ [gG] := fun g hg hm => by
 simp at hm
 subst hm
 obtain ⟨i, r, hi, hr⟩ := ownB_mem.1 hg
 exact own_apart (h.rows.all i r hi) h.bg (h.ty r (List.mem_of_getElem? hi)) (by simp [hr])
theorem RK.setG (h : RK w0 w hc g0 g1 gG cs L) (j : Nat) (u : Value) : RK w0 (w.setCell ⟨gG, j, none⟩ u) hc g0 g1 gG (cs.setIfInBounds j u) L where
 bh := h.bh.far (p := ⟨gG, j, none⟩) (by have := h.d01; have := h.d1G; show g0 ≠ gG; omega) u
 br := h.br.far (p := ⟨gG, j, none⟩) (by have := h.d1G; show g1 ≠ gG; omega) u
 bg := h.bg.put j u
 rows := h.rows.only ((Only.refl [gG] w).put (p := ⟨gG, j, none⟩) (fun _ => by simp) u) h.notG
 o := h.o.step ((Only.refl [gG] w).put (p := ⟨gG, j, none⟩) (fun _ => by simp) u) (fun i hi hl => by
  have := h.d01; have := h.d1G; have := h.base
  simp at hi
  omega)
 d01 := h.d01
 d1G := h.d1G
 base := h.base
 ty := h.ty
theorem RK.grow {i : Nat} {r : OR} {v' : Value} {n' : Nat} {xs' : List Value} (h : RK w0 w hc g0 g1 gG cs L) (hi : L[i]? = some r) (hgrow : w.grownBy w' r.v.ownBlock) (hown : w'.ownsRow w0.heap.size r.e r.sz v' n' xs')
  (hat : v'.ownBlock = r.v.ownBlock ∨ v'.ownBlock = some w.heap.size) : RK w0 w' hc g0 g1 gG cs (L.set i ⟨r.e, r.sz, v', n', xs'⟩) :=
 h.upd (r' := ⟨r.e, r.sz, v', n', xs'⟩) hi (only_grown hgrow) hown rfl (hat.imp id fun e g hg => by rw [e] at hg; cases hg; exact Nat.le_refl _)
theorem RK.growLast {r : OR} {v' : Value} {n' : Nat} {xs' : List Value} (h : RK w0 w hc g0 g1 gG cs (L ++ [r])) (hgrow : w.grownBy w' r.v.ownBlock) (hown : w'.ownsRow w0.heap.size r.e r.sz v' n' xs')
  (hat : v'.ownBlock = r.v.ownBlock ∨ v'.ownBlock = some w.heap.size) : RK w0 w' hc g0 g1 gG cs (L ++ [⟨r.e, r.sz, v', n', xs'⟩]) := by
 have h1 := h.grow (i := L.length) (r := r) (by simp) hgrow hown hat
 have e : (L ++ [r]).set L.length ⟨r.e, r.sz, v', n', xs'⟩ = L ++ [⟨r.e, r.sz, v', n', xs'⟩] := by simp
 rwa [e] at h1
theorem RK.setFree {g : Nat} {t : TypeId} {cs' : Array Value} (h : RK w0 w hc g0 g1 gG cs L) (hb : Blk w g t cs') (ht : t ≠ 25) (hL : g ∉ ownB L) (hg : w0.heap.size ≤ g) (j : Nat) (u : Value) :
    RK w0 (w.setCell ⟨g, j, none⟩ u) hc g0 g1 gG cs L :=
  have O : Only [g] w (w.setCell ⟨g, j, none⟩ u) := (Only.refl [g] w).put (p := ⟨g, j, none⟩) (fun _ => by simp) u
  { bh := h.bh.far (p := ⟨g, j, none⟩) (h.bh.apart hb (Ne.symm ht)) u
    br := h.br.far (p := ⟨g, j, none⟩) (h.br.apart hb (Ne.symm ht)) u
    bg := h.bg.far (p := ⟨g, j, none⟩) (h.bg.apart hb (Ne.symm ht)) u
    rows := h.rows.only O (fun x hx hm => by simp at hm; subst hm; exact hL hx)
    o := h.o.step O (fun i hi hl => by simp at hi; omega)
    d01 := h.d01
    d1G := h.d1G
    base := h.base
    ty := h.ty }
theorem RK.last {r : OR} (h : RK w0 w hc g0 g1 gG cs (L ++ [r])) : w.ownsRow w0.heap.size r.e r.sz r.v r.n r.xs := h.rows.all L.length r (by simp)
theorem RK.out {base' : Nat} (h : RK w0 w hc g0 g1 gG cs L) : ∀ g ∈ ownB L, g < w.heap.size := fun g hg => (h.rows.ge g hg).2
end
theorem ORs.tail {w : World} {base : Nat} {r : OR} {L : List OR} (h : ORs w base (r :: L)) : ORs w base L :=
 ⟨fun i s hi => h.all (i + 1) s (by simpa using hi), fun i j s t hs ht hij => h.ap (i + 1) (j + 1) s t (by simpa using hs) (by simpa using ht) (by omega)⟩
theorem RK.rowsR {w0 w w' : World} {hc cs : Array Value} {g0 g1 gG : Nat} {L : List OR} (h : RK w0 w hc g0 g1 gG cs L) (O : Only [g1] w w') : ORs w' w0.heap.size L :=
 h.rows.only O (fun g hg hm => by
  simp at hm
  subst hm
  obtain ⟨i, r, hi, hr⟩ := ownB_mem.1 hg
  exact own_apart (h.rows.all i r hi) h.br (h.ty r (List.mem_of_getElem? hi)) (by simp [hr]))
end Go.Proofs.YtjhomlnlmpdklaaGreatDoor

set_option linter.unusedVariables false
set_option linter.unusedSimpArgs false
namespace Go.Proofs.YtjhomlnlmpdklaaGreatDoor
open Go.RowKit
open Go.Lib hiding intOf
attribute [local go_sem ↓] Go.wp_at_zero Go.wp_at_succ
end Go.Proofs.YtjhomlnlmpdklaaGreatDoor

set_option linter.unusedVariables false
set_option linter.unusedSimpArgs false
namespace Go.Proofs.YtjhomlnlmpdklaaGreatDoor
open Go.RowKit
open Go.Lib hiding intOf
attribute [local go_sem ↓] Go.wp_at_zero Go.wp_at_succ
end Go.Proofs.YtjhomlnlmpdklaaGreatDoor

set_option linter.unusedVariables false
set_option linter.unusedSimpArgs false
namespace Go.Proofs.YtjhomlnlmpdklaaGreatDoor
open Go.RowKit
open Go.Lib hiding intOf
attribute [local go_sem ↓] Go.wp_at_zero Go.wp_at_succ
theorem eqH_same (g : Hst) : eqH g g = true := by unfold eqH; simp
end Go.Proofs.YtjhomlnlmpdklaaGreatDoor
