/- Parts. -/
import Derived.Test.YtghimogdeijgdaaGreatDoorLaw17AllK34
set_option maxRecDepth 10000
set_option maxHeartbeats 16000000
set_option linter.unusedVariables false
set_option linter.unusedSimpArgs false
namespace Go.Proofs.YtghimogdeijgdaaGreatDoor
open Go.RowKit
open Go.Lib hiding intOf
theorem few_first (A0 A1 A2 : Option Addr) (c0 c1 c2 : Nat) (h : Hst) (w : World) (hg : HAt w w.heap.size A0 A1 A2 h) (hm0 : h.ss.length ≤ maxLen) (hm1 : h.ks.length ≤ maxLen) (hm2 : h.l.length ≤ maxLen)
  (hz0 : ∀ z ∈ h.ss, z.size ≤ maxLen) (hz1 : ∀ z ∈ h.ks, z.size ≤ maxLen) (hT : UTabs w) :
  Calls Tryz.prog 6 #[.agg #[.slice A0 h.ss.length c0, .slice A1 h.ks.length c1, .slice A2 h.l.length c2]] w fun e w' => ∃ A0' A1' A2' c0' c1' c2', (e = .returned (.agg #[.slice A0' (fewH h).ss.length c0', .slice A1' (fewH h).ks.length c1', .slice A2' (fewH h).l.length c2']) ∧ HIn w' w'.heap.size A0' A1' A2' (fewH h).ss.length (fewH h).ks.length (fewH h).l.length (fewH h)) ∧ Only [] w w' := by
 unfold maxLen at *;refine (few11_any A0 A1 A2 _ _ _ c0 c1 c2 w.heap.size h w hg rfl rfl rfl (by omega) (by omega) (by omega) (fun z hz => by have := hz0 z hz; omega) (fun z hz => by have := hz1 z hz; omega)).mono ?_;rintro e w' ⟨A0', A1', A2', c0', c1', c2', ⟨rfl, hA⟩, O⟩;exact ⟨A0', A1', A2', c0', c1', c2', ⟨rfl, ⟨hA, rfl, rfl, rfl, few_small h, hT.only O⟩⟩, O⟩
theorem few_in (A0 A1 A2 : Option Addr) (n0 n1 n2 c0 c1 c2 B : Nat) (h : Hst) (w : World) (hg : HIn w B A0 A1 A2 n0 n1 n2 h) (hf : fewH h = h) :
  Calls Tryz.prog 6 #[.agg #[.slice A0 n0 c0, .slice A1 n1 c1, .slice A2 n2 c2]] w fun e w' => ∃ A0' A1' A2' c0' c1' c2', (e = .returned (.agg #[.slice A0' n0 c0', .slice A1' n1 c1', .slice A2' n2 c2']) ∧ HIn w' w'.heap.size A0' A1' A2' n0 n1 n2 h) ∧ Only [] w w' := by
 have a0 := hg.sm.ns;have a1 := hg.sm.nk;have a2 := hg.sm.nl;have e0 := hg.n0;have e1 := hg.n1;have e2 := hg.n2;refine (few11_any A0 A1 A2 n0 n1 n2 c0 c1 c2 B h w hg.at_ e0 e1 e2 (by omega) (by omega) (by omega) (fun z hz => by have := hg.sm.s z hz; omega) (fun z hz => by have := hg.sm.k z hz; omega)).mono ?_;rintro e w' ⟨A0', A1', A2', c0', c1', c2', ⟨rfl, hA⟩, O⟩;rw [hf] at hA;refine ⟨A0', A1', A2', c0', c1', c2', ⟨?_, ⟨hA, e0, e1, e2, hg.sm, hg.u.only O⟩⟩, O⟩;unfold hval;rw [hf, e0, e1, e2]
theorem row_past {w w' : World} {B : Nat} {A : Option Addr} {xs : List Value} {g : Nat} {t : TypeId} {cs : Array Value} (h : Row w B A xs) (hb : Blk w g t cs) (hne : ∀ u : Value, xs[0]? = some u → ∀ j : Nat, cs[j]? ≠ some u) (ho : Only [g] w w') : Row w' w'.heap.size A xs := by
 rcases h with rfl | ⟨b, off, rfl, h1, h2, hc⟩
 ·exact .inl rfl
 ·cases xs with
  | nil => exact .inl rfl
  | cons u xs =>
   have h0 := hc 0 u rfl;have hbg : b ≠ g := fun e => by
    subst e;rw [hb.at_] at h0;exact hne u rfl _ h0
   have := ho.size;exact .inr ⟨b, off, rfl, by omega, by omega, fun j v hv => (ho.cell (p := ⟨b, off + j, none⟩) (by show b < _; omega) (by simp [hbg])).trans (hc j v hv)⟩
theorem HIn.past {w w' : World} {B : Nat} {A0 A1 A2 : Option Addr} {n0 n1 n2 : Nat} {h : Hst} {g : Nat} {t : TypeId} {a0 a1 a2 : Option Addr} {k0 k1 k2 e0 e1 e2 : Nat} (hI : HIn w B A0 A1 A2 n0 n1 n2 h) (hb : Blk w g t #[.slice a0 k0 e0, .slice a1 k1 e1, .slice a2 k2 e2]) (ho : Only [g] w w') (hU : UTabs w') :
  HIn w' w'.heap.size A0 A1 A2 n0 n1 n2 h := by
 have key : ∀ (u : Value), (∀ a n c, u ≠ .slice a n c) → ∀ j : Nat, (#[Value.slice a0 k0 e0, .slice a1 k1 e1, .slice a2 k2 e2] : Array Value)[j]? ≠ some u := by
  intro u hu j hj
  match j with
  | 0 => simp at hj; exact hu _ _ _ hj.symm
  | 1 => simp at hj; exact hu _ _ _ hj.symm
  | 2 => simp at hj; exact hu _ _ _ hj.symm
  | j + 3 => simp at hj
 obtain ⟨⟨r0, r1, ⟨xs, hx, r2, hxs⟩⟩, q0, q1, q2, q3, -⟩ := hI;have ks : ∀ l : List ByteArray, ∀ u : Value, (strs l)[0]? = some u → ∀ a n c, u ≠ .slice a n c := by
  intro l u hu a n c e;subst e
  cases l <;> simp [strs] at hu
 refine ⟨⟨row_past r0 hb (fun u hu => key u (ks _ u hu)) ho, row_past r1 hb (fun u hu => key u (ks _ u hu)) ho, ⟨xs, hx, row_past r2 hb (fun u hu => key u ?_) ho, fun x hx => ⟨row_past (hxs x hx).row hb (fun u hu => key u ?_) ho, (hxs x hx).le, (hxs x hx).cap⟩⟩⟩, q0, q1, q2, q3, hU⟩
 ·intro a n c e;subst e
  cases xs <;> simp [txC, TxA.c] at hu
 ·intro a n c e;subst e
  cases hxo : x.t.ops with
  | nil => rw [hxo] at hu; simp [opC] at hu
  | cons y l => rw [hxo] at hu; simp [opC, Op4.c] at hu
end Go.Proofs.YtghimogdeijgdaaGreatDoor
namespace Go.Proofs.YtghimogdeijgdaaGreatDoor
open Go.RowKit
theorem take_eq_of {xs ys : List Int} {k : Nat} {x y : Int} (h : xs.take k = ys.take k) (hx : xs[k]? = some x) (hy : ys[k]? = some y) : (xs.take (k + 1) = ys.take (k + 1)) ↔ x = y := by
 rw [List.take_add_one, List.take_add_one, hx, hy, h];simp
theorem sameInts_any (A A' : Option Addr) (n m c d : Nat) (xs ys : List Int) (w : World) (B B' : Nat) (hA : Row w B A (xs.map (Value.int .i64))) (hA' : Row w B' A' (ys.map (Value.int .i64)))
  (hn : xs.length = n) (hm : ys.length = m) (hnm : n ≤ 9223372036854775807) (hmm : m ≤ 9223372036854775807) :
  Calls Tryz.prog 18 #[.slice A n c, .slice A' m d] w fun e w' => e = .returned (.bool (decide (xs = ys))) ∧ ∃ k, w.drewN k = w' := by
 have HA := Hd hA;have HA' := Hd hA';have HN := Hd hn;have HM := Hd hm;clear hA hA' hn hm
 by_cases hlen : n = m
 ·subst hlen;go_enter Tryz.func18, Tryz.ntmps18;go_wp2_with fail
  go_loopw [5] (fun i wr => ∃ k q : Nat, i = .int .i64 k ∧ k ≤ n ∧ Hid (xs.take k = ys.take k) ∧ Hid (wr = w.drewN q)) (fun i _ => n - (intOf i).toNat)
  case atStart => exact ⟨0, 0, rfl, by omega, rfl, rfl⟩
  case round =>
   obtain ⟨k, q, rfl, hk, hsame, hw⟩ := hrel;have hxl := HN.out;have hyl := HM.out
   by_cases hlt : k < n
   ·obtain ⟨b, off, rfl, -, hbw, hc⟩ := HA.out.open_ (k := k) (by simpa using (by omega : k < xs.length));obtain ⟨b', off', rfl, -, hbw', hc'⟩ := HA'.out.open_ (k := k) (by simpa using (by omega : k < ys.length));obtain ⟨x, hx⟩ : ∃ x, xs[k]? = some x := ⟨_, List.getElem?_eq_getElem (by omega)⟩;obtain ⟨y, hy⟩ : ∃ y, ys[k]? = some y := ⟨_, List.getElem?_eq_getElem (by omega)⟩;have hcx : wr.cell? ⟨b, off + k, none⟩ = some (.int .i64 x) := by rw [hw.out]; exact hc k _ (by simp [hx])
    have hcy : wr.cell? ⟨b', off' + k, none⟩ = some (.int .i64 y) := by rw [hw.out]; exact hc' k _ (by simp [hy])
    have hk0 : (0 : Int) ≤ (k : Int) := Int.natCast_nonneg _;have hk1 : (k : Int) < (n : Int) := by omega
    have HX := Hd hx;have HY := Hd hy;clear hx hy hc hc' hxl hyl;go_wp2_with fail
    go_quiet (fail)
    by_cases hxy : x = y
    ·have hb : (x != y) = false := by simp [hxy]
     have HXY := Hd hxy;clear hxy;go_wp2
     go_roundw
     case rel =>
      refine ⟨k + 1, q + nq, by go_num, by omega, (take_eq_of hsame.out HX.out HY.out).2 HXY.out, ?_⟩
      show _ = _
      rw [hw.out, World.drewN_drewN]
     case measure => simp [intOf]; omega
    ·have hb : (x != y) = true := by simp [hxy]
     have HXY := Hd hxy;clear hxy;go_wp2
     go_ret
     refine ⟨?_, q + nq, ?_⟩
     ·have : xs ≠ ys := fun e => HXY.out (by
       have h1 := HX.out;have h2 := HY.out;rw [e] at h1;rw [h1] at h2;exact Option.some.inj h2)
      simp [this]
     ·rw [hw.out, World.drewN_drewN]
   ·have hge : n ≤ k := by omega
    clear hxl hyl;go_wp2
    go_ret
    refine ⟨?_, q, hw.out.symm⟩;have h1 := hsame.out;have h2 := HN.out;have h3 := HM.out;rw [List.take_of_length_le (by omega), List.take_of_length_le (by omega)] at h1;simp [h1]
 ·have hb : ((n : Int) != (m : Int)) = true := by simp; omega
  have hne : xs ≠ ys := fun e => hlen (by rw [← HN.out, ← HM.out, e]);have HNE := Hd hne;clear hlen hne;go_enter Tryz.func18, Tryz.ntmps18;go_wp2
  go_ret
  exact ⟨by simp [HNE.out], 0, rfl⟩
open Go.Lib hiding intOf
attribute [local go_sem ↓] Go.wp_at_zero Go.wp_at_succ

theorem info_bl : (Tryz.prog.info? 4).map (fun i => (i.zero, i.size, i.bytes)) = some (some (.bool false), 1, 1) := by kernel_rfl
def boolsC (l : List Bool) : Array Value := (l.map Value.bool).toArray
theorem boolsC_size (l : List Bool) : (boolsC l).size = l.length := by simp [boolsC]
theorem boolsC_at {l : List Bool} {i : Nat} {b : Bool} (h : l[i]? = some b) : (boolsC l)[i]? = some (.bool b) := by simp [boolsC, h]
theorem boolsC_set (l : List Bool) (i : Nat) (b : Bool) : (boolsC l).setIfInBounds i (.bool b) = boolsC (l.set i b) := by
 simp [boolsC, List.map_set]
theorem made_bools (n : Nat) : madeCells #[.bool false] n = boolsC (List.replicate n false) := by
 apply Array.ext_getElem?
 intro j
 by_cases hj : j < n <;> simp [madeCells, boolsC, Nat.mod_one, hj]
theorem make_bools (n : Nat) (hn : n ≤ 1000) (w : World) : (Instr.makeSlice 26 (.int .i64 (n : Int)) (.int .i64 (n : Int))).run Tryz.prog w = .ok (.slice (some ⟨w.heap.size, 0, none⟩) n n) (w.alloc (.cells (boolsC (List.replicate n false)) 4)) := by
 obtain ⟨i0, hi, hz0, hz1, hz2⟩ := info_parts info_bl;have := run_make (P := Tryz.prog) w 26 4 i0 _ Tryz.underlying26 hi hz0 .i64 .i64 (n : Int) (n : Int) (by omega) (by omega) (by rw [hz2]; omega) (by omega);rw [this, hz1];simp [made_bools, Value.cells]
theorem own_bools {w : World} {g n B : Nat} {l : List Bool} (h : Blk w g 4 (boolsC l)) (hl : l.length = n) (hn : n ≤ 1000) (hB : B ≤ g) : w.ownsRow B 4 1 (.slice (some ⟨g, 0, none⟩) n n) n (l.map Value.bool) := by
 refine ⟨by rw [List.length_map, hl, Nat.mul_one], .inr ⟨g, n, boolsC l, rfl, hB, h, Nat.le_refl _, by unfold maxLen; omega, by rw [boolsC_size, hl, Nat.mul_one], ?_⟩⟩;unfold boolsC;rw [Nat.mul_one, ← hl]
 show List.take l.length (l.map Value.bool) = _
 rw [List.take_of_length_le (by rw [List.length_map]; exact Nat.le_refl _)]
theorem boolsC_no (l : List Int) (L : List Bool) : ∀ u : Value, (l.map (Value.int .i64))[0]? = some u → ∀ j : Nat, (boolsC L)[j]? ≠ some u := by
 intro u hu j hj;unfold boolsC at hj;rw [List.getElem?_map] at hu;rw [List.getElem?_toArray, List.getElem?_map] at hj
 cases h0 : l[0]? with
 | none => simp [h0] at hu
 | some z =>
  cases h1 : L[j]? with
  | none => simp [h1] at hj
  | some b =>
   simp [h0] at hu;simp [h1] at hj;rw [← hj] at hu
   cases hu
theorem wcommitted_any (A0 A1 A2 Ac : Option Addr) (n0 n1 n2 nc c0 c1 c2 cc B Bc : Nat) (h : Hst) (c : List Bool) (w : World) (hg : HIn w B A0 A1 A2 n0 n1 n2 h) (hc : Row w Bc Ac (c.map Value.bool)) (hcl : c.length = nc) (hci : (whichL infoB h.l).length = nc) :
  Calls Tryz.prog 45 #[hval A0 A1 A2 n0 n1 n2 c0 c1 c2, .slice Ac nc cc] w fun e w' => ∃ V, (e = .returned V ∧ w'.ownsRow w.heap.size 4 1 V n2 ((comL h.l c).map Value.bool)) ∧ Only [] w w' := by
 have HL := Hd hg.at_.r2;have HN2 := Hd hg.n2;have hn2 : n2 ≤ 1000 := by have := hg.sm.nl; rw [hg.n2] at this; exact this
 have HKI := Hd (fun w' (O : Only [] w w') => kinfos_any A0 A1 A2 n0 n1 n2 c0 c1 c2 B h w' (hg.same O).at_.r2 hg.n2 hn2);have HCR := Hd hc;have HCL := Hd hcl;have HCI := Hd hci;have hmk := make_bools n2 hn2;have hncle : nc ≤ n2 := by rw [← hci, ← HN2.out]; exact which_le _ _
 unfold hval at HKI ⊢;clear hg hc hcl hci;have HO1 := Hd (((Only.refl [] w).alloc (.cells #[.slice A0 n0 c0, .slice A1 n1 c1, .slice A2 n2 c2] 25)).alloc (.cells (boolsC (List.replicate n2 false)) 4));have HB1 := Hd ((Blk.made w 25 #[.slice A0 n0 c0, .slice A1 n1 c1, .slice A2 n2 c2]).alloc (.cells (boolsC (List.replicate n2 false)) 4));have HX1 := Hd (Blk.made (w.alloc (.cells #[.slice A0 n0 c0, .slice A1 n1 c1, .slice A2 n2 c2] 25)) 4 (boolsC (List.replicate n2 false)));simp only [World.size_alloc] at HX1;go_enter Tryz.func45, Tryz.ntmps45;go_upto_region 2 with (fail)
 generalize ((w.alloc (.cells #[.slice A0 n0 c0, .slice A1 n1 c1, .slice A2 n2 c2] 25)).alloc (.cells (boolsC (List.replicate n2 false)) 4)) = w1 at *;generalize hgb : w.heap.size + 1 = gb at *;generalize hgg : w.heap.size = g at *;have lB := HB1.out.lt;have y2 := HB1.out.at_ 2;simp at y2;clear hmk;go_wp2_with fail
 go_loopw [17] (fun iv wr => ∃ (k : Nat) (L : List Bool), iv = .int .i64 (k : Int) ∧ k ≤ n2 ∧ Hid (L.length = n2 ∧ ∀ i, i < k → L[i]? = (h.l[i]?).map fun t => decide (t.f = 1)) ∧ Hid (Blk wr gb 4 (boolsC L)) ∧ Hid (Blk wr g 25 #[.slice A0 n0 c0, .slice A1 n1 c1, .slice A2 n2 c2]) ∧ Hid (Only [] w wr)) (fun iv _ => n2 - (intOf iv).toNat)
 case atStart => exact ⟨0, _, rfl, by omega, Hd ⟨by simp, fun i hi => by omega⟩, HX1, HB1, HO1⟩
 case round =>
  obtain ⟨k, L, rfl, hk, hL, hX, hB, hO⟩ := hrel;clear HX1 HB1 HO1 lB y2
  by_cases hlt : k < n2
  ·obtain ⟨x, hx⟩ : ∃ x, h.l[k]? = some x := ⟨_, List.getElem?_eq_getElem (by rw [HN2.out]; exact hlt)⟩;obtain ⟨bl, off, A', cp, rfl, -, hbw, hT, -⟩ := HL.out.at_ hx;obtain ⟨a0, a1, a2⟩ := hT.only hO.out (by omega) (by simp);have hbr : bl < wr.heap.size := by have := hO.out.size; omega
   have h01 : (k : Int) < (n2 : Int) := by omega
   have hk0 : (0 : Int) ≤ (k : Int) := Int.natCast_nonneg _;have hwk : IntKind.i64.wrap ((k : Int) + 1) = (k : Int) + 1 := IntWalk.i64_in _ (by omega);have HXF : Hid (decide (x.f = 1) = (x.f == 1)) := Hd rfl;obtain ⟨v0, hv0⟩ : ∃ v0, L[k]? = some v0 := ⟨_, List.getElem?_eq_getElem (by rw [hL.out.1]; exact hlt)⟩;have HX0 := Hd hx;obtain ⟨s, f, ops⟩ := x;dsimp only at a0 a1 a2 HXF;generalize ops.length = m at *;clear hT hx;go_upto_region 5 with (fail)
   have O2 : Only [] wr (wr.alloc (.cells #[.int .i64 s, .int .i64 f, .slice A' m cp] 48)) := (Only.refl [] wr).alloc _;have HT2 := Hd (Blk.made wr 48 #[.int .i64 s, .int .i64 f, .slice A' m cp]);have HX2 := Hd (O2.blk hX.out (by simp));have HB2 := Hd (O2.blk hB.out (by simp));have HO2 := Hd (hO.out.trans O2);clear O2 a0 a1 a2 hX hB hO hbr;generalize (wr.alloc (.cells #[.int .i64 s, .int .i64 f, .slice A' m cp] 48)) = w2 at *;generalize wr.heap.size = gt at *;have lT := HT2.out.lt;have t1 := HT2.out.at_ 1;have lX := HX2.out.lt;have x0 := (HX2.out.at_ k).trans (boolsC_at hv0);have fx0 := HX2.out.free k;simp at t1;generalize hbb : (f == 1) = bb at *;go_wp2
   have HX3 : Hid (Blk (w2.setCell ⟨gb, k, none⟩ (.bool bb)) gb 4 (boolsC (L.set k bb))) := Hd (by rw [← boolsC_set]; exact HX2.out.put k (.bool bb));have O3 : Only [gb] w2 (w2.setCell ⟨gb, k, none⟩ (.bool bb)) := (Only.refl [gb] w2).put (fun _ => by simp) _;have HB3 := Hd (O3.blk HB2.out (by simp; omega));have HO3 := Hd (HO2.out.step O3 (fun i hi hl => by simp at hi; omega));have HL3 : Hid ((L.set k bb).length = n2 ∧ ∀ i, i < k + 1 → (L.set k bb)[i]? = (h.l[i]?).map fun t => decide (t.f = 1)) := Hd ⟨by rw [List.length_set]; exact hL.out.1, fun i hi => by
    rw [List.getElem?_set]
    split
    ·rename_i e
     subst e;rw [if_pos (by rw [hL.out.1]; exact hlt), HX0.out]
     show some bb = some (decide (f = 1))
     rw [HXF.out]
    ·exact hL.out.2 i (by omega)⟩
   go_roundw
   case rel => exact ⟨k + 1, _, by go_num, by omega, HL3, HX3, HB3, HO3⟩
   case measure => simp [intOf]; omega
  ·have hkn : k = n2 := by omega
   subst hkn;have hd2 : decide ((k : Int) < (k : Int)) = false := by simp
   have hLe : L = comQ 0 h.l c := by
    rw [comQ_zero];refine List.ext_getElem? fun i => ?_;rw [List.getElem?_map]
    by_cases hi : i < k
    ·exact hL.out.2 i hi
    ·rw [List.getElem?_eq_none (by rw [hL.out.1]; omega), List.getElem?_eq_none (by rw [HN2.out]; omega)]
     rfl
   subst hLe;obtain ⟨wo, hwo⟩ : ∃ wo : World, wo = wr := ⟨_, rfl⟩;subst hwo;have lB := hB.out.lt;have y0 := hB.out.at_ 0;have y1 := hB.out.at_ 1;have y2 := hB.out.at_ 2;simp at y0 y1 y2;clear hL;go_wp2_with fail
   refine (HKI.out _ hO.out).mono ?_;rintro e w4 ⟨A4, c4, ⟨rfl, hr4⟩, O4⟩;rw [show (whichL (fun t : Tx => decide (t.f = 3)) h.l).length = nc from HCI.out];have HR4 := Hd hr4;have HX4 := Hd (O4.blk hX.out (by simp));have HO4 := Hd (hO.out.trans O4);clear hr4 O4 lB y0 y1 y2 hB hX hO HKI;go_wp2_with fail
   go_loopw [32] (fun qv wr => ∃ q : Nat, qv = .int .i64 (q : Int) ∧ q ≤ nc ∧ Hid (Blk wr gb 4 (boolsC (comQ q h.l c))) ∧ Hid (Row wr wr.heap.size A4 ((whichL (fun t : Tx => decide (t.f = 3)) h.l).map (Value.int .i64))) ∧ Hid (Only [] w wr)) (fun qv _ => nc - (intOf qv).toNat)
   case atStart => exact ⟨0, rfl, by omega, HX4, HR4, HO4⟩
   case round =>
    obtain ⟨q, rfl, hq, hX, hR, hO⟩ := hrel;clear HX4 HR4 HO4
    by_cases hlt2 : q < nc
    ·obtain ⟨z, hz⟩ : ∃ z, (whichL infoB h.l)[q]? = some z := ⟨_, List.getElem?_eq_getElem (by rw [HCI.out]; exact hlt2)⟩;obtain ⟨i, t, rfl, ht, hp, hrk⟩ := which_get hz;have hi2 : i < k := by rw [← HN2.out]; exact (List.getElem?_eq_some_iff.1 ht).1
     have HST := Hd (comQ_step (q := q) (c := c) ht hp hrk);have HRP := Hd (fun w' (O : Only [gb] wr w') => row_past hR.out hX.out (boolsC_no _ _) O);obtain ⟨b4, o4, rfl, hbb4, hbr4, hc4⟩ := hR.out.open_ (k := q) (by rw [List.length_map]; show q < (whichL infoB h.l).length; rw [HCI.out]; exact hlt2);have z0 := hc4 q _ (by rw [List.getElem?_map]; show ((whichL infoB h.l)[q]?).map _ = _; rw [hz]; rfl);obtain ⟨bb, hbb⟩ : ∃ bb, c[q]? = some bb := ⟨_, List.getElem?_eq_getElem (by rw [HCL.out]; exact hlt2)⟩;obtain ⟨b5, o5, rfl, hb5, hbr5, hc5⟩ := (HCR.out.only hO.out (by simp)).open_ (k := q) (by rw [List.length_map, HCL.out]; exact hlt2);have q0 := hc5 q _ (by rw [List.getElem?_map, hbb]; rfl);obtain ⟨v0, hv0⟩ : ∃ v0, (comQ q h.l c)[i]? = some v0 := ⟨_, List.getElem?_eq_getElem (by rw [comQ_len, HN2.out]; exact hi2)⟩;have x0 := (hX.out.at_ i).trans (boolsC_at hv0);have fx0 := hX.out.free i;have lX := hX.out.lt;have HGD : Hid (c.getD q false = bb) := Hd (by simp [hbb]);have h02 : (q : Int) < (nc : Int) := by omega
     have hq0 : (0 : Int) ≤ (q : Int) := Int.natCast_nonneg _;have hwq : IntKind.i64.wrap ((q : Int) + 1) = (q : Int) + 1 := IntWalk.i64_in _ (by omega);have hi0 : (0 : Int) ≤ (i : Int) := Int.natCast_nonneg _;have hi3 : (i : Int) < (k : Int) := by omega
     clear hz ht hp hrk hc4 hbb hc5 hv0;go_wp2
     have HX3 : Hid (Blk (wr.setCell ⟨gb, i, none⟩ (.bool bb)) gb 4 (boolsC (comQ (q + 1) h.l c))) := Hd (by rw [HST.out, HGD.out, ← boolsC_set]; exact hX.out.put i (.bool bb));have O3 : Only [gb] wr (wr.setCell ⟨gb, i, none⟩ (.bool bb)) := (Only.refl [gb] wr).put (fun _ => by simp) _;have HRR := Hd (HRP.out _ O3);have HO3 := Hd (hO.out.step O3 (fun i hi hl => by simp at hi; omega));go_roundw
     case rel => exact ⟨q + 1, by go_num, by omega, HX3, HRR, HO3⟩
     case measure => simp [intOf]; omega
    ·have hqn : q = nc := by omega
     subst hqn;have hd3 : decide ((q : Int) < (q : Int)) = false := by simp
     have HXE : Hid (Blk wr gb 4 (boolsC (comL h.l c))) := Hd (by rw [← comQ_all, HCI.out]; exact hX.out);go_wp2
     go_ret
     exact ⟨_, ⟨rfl, own_bools HXE.out (by rw [comL_len]; exact HN2.out) hn2 (by omega)⟩, hO.out⟩





structure SlA where
 l : List V2
 A : Option Addr
 cp : Nat
def slC (x : SlA) : Value := .slice x.A x.l.length x.cp
def VVown (w : World) (B : Nat) (xs : List SlA) : Prop := ∀ x ∈ xs, w.ownsRow B 53 2 (slC x) x.l.length (edgeC x.l)
theorem VVown.only {w w' : World} {B : Nat} {xs : List SlA} {S : List Nat} (h : VVown w B xs) (ho : Only S w w') (hS : ∀ x ∈ xs, ∀ g, (slC x).ownBlock = some g → g ∉ S) : VVown w' B xs :=
 fun x hx => own_only (h x hx) ho (hS x hx)
theorem VVown.same {w w' : World} {B : Nat} {xs : List SlA} (h : VVown w B xs) (ho : Only [] w w') : VVown w' B xs := h.only ho (fun _ _ _ _ => by simp)
theorem mayone_any (v : V2) (w : World) : Calls Tryz.prog 44 #[agV v] w fun e w' => e = .returned (.bool (!okV v)) ∧ Only [] w w' := by
 obtain ⟨v1, v2⟩ := v;unfold agV;dsimp only;have HO := Hd ((Only.refl [] w).alloc (.cells #[.int .i64 v1, .int .i64 v2] 53));have hcase : (v1 = 1 ∧ okV (v1, v2) = true) ∨ (v1 ≠ 1 ∧ (v1 == 1) = false ∧ ((v1 = 0 ∧ v2 = 0 ∧ okV (v1, v2) = true) ∨ (okV (v1, v2) = false ∧ ((v1 == 0) = false ∨ ((v1 == 0) = true ∧ (v2 == 0) = false))))) := by
  unfold okV
  by_cases h1 : v1 = 1
  ·exact .inl ⟨h1, by simp [h1]⟩
  ·refine .inr ⟨h1, by simp [h1], ?_⟩
   by_cases h0 : v1 = 0
   ·by_cases h2 : v2 = 0
    ·exact .inl ⟨h0, h2, by simp [h0, h2]⟩
    ·exact .inr ⟨by simp [h0, h2], .inr ⟨by simp [h0], by simp [h2]⟩⟩
   ·exact .inr ⟨by simp [h0, h1], .inl (by simp [h0])⟩
 rcases hcase with ⟨rfl, ho⟩ | ⟨h1, hb, ⟨rfl, rfl, ho⟩ | ⟨ho, hb0 | ⟨hb0, hb1⟩⟩⟩
 all_goals
  rw [ho];have HH := Hd ho;clear ho;go_enter Tryz.func44, Tryz.ntmps44;go_wp2
  go_ret
  first | exact ⟨rfl, HO.out⟩ | exact ⟨by show Ending.returned (Value.bool (v1 != 1)) = Ending.returned (Value.bool true); rw [show (v1 != 1) = true by simp [bne, hb]], HO.out⟩
theorem anyE_take {l : List V2} {k : Nat} {v : V2} (h : l[k]? = some v) : (l.take (k + 1)).any (fun v => !okV v) = ((l.take k).any (fun v => !okV v) || !okV v) := by
 rw [List.take_add_one, h, List.any_append];simp
theorem anyE_true {l : List V2} {k : Nat} {v : V2} (h : l[k]? = some v) (hv : okV v = false) : l.any (fun v => !okV v) = true := by
 rw [List.any_eq_true];exact ⟨v, List.mem_of_getElem? h, by rw [hv]; rfl⟩
theorem indexf_any (A : Option Addr) (m c B : Nat) (l : List V2) (w : World) (hg : Row w B A (edgeC l)) (hm : l.length = m) (hM : m ≤ 100000) :
  Calls Tryz.prog 62 #[.slice A m c, .func (.func 44) #[] #[]] w fun e w' => ∃ r : Int, (e = .returned (.int .i64 r) ∧ decide (0 ≤ r) = l.any (fun v => !okV v)) ∧ Only [] w w' := by
 have HG := Hd hg;have HM := Hd hm;have HY := Hd (fun v w' => mayone_any v w');clear hg hm;go_enter Tryz.func62, Tryz.ntmps62;go_wp2_with fail
 go_loopw [8] (fun iv wr => ∃ k : Nat, iv = .int .i64 (k : Int) ∧ k ≤ m ∧ Hid ((l.take k).any (fun v => !okV v) = false) ∧ Hid (Only [] w wr)) (fun iv _ => m - (intOf iv).toNat)
 case atStart => exact ⟨0, rfl, by omega, Hd rfl, Hd (Only.refl [] w)⟩
 case round =>
  obtain ⟨k, rfl, hk, hn, hO⟩ := hrel
  by_cases hlt : k < m
  ·obtain ⟨u, hu⟩ : ∃ u, l[k]? = some u := ⟨_, List.getElem?_eq_getElem (by rw [HM.out]; exact hlt)⟩;obtain ⟨b, off, rfl, hbB, hbw, hc⟩ := (HG.out.only hO.out (by simp)).open_ (k := k * 2) (by rw [edgeC_len, HM.out]; omega);have hE := edgeC_get l k u hu;have c0 := hc _ _ hE.1;have c1 := hc _ _ hE.2;rw [← Nat.add_assoc] at c1;have h01 : (k : Int) < (m : Int) := by omega
   have hk0 : (0 : Int) ≤ (k : Int) := Int.natCast_nonneg _;have hwk : IntKind.i64.wrap ((k : Int) + 1) = (k : Int) + 1 := IntWalk.i64_in _ (by omega);have HTK := Hd (anyE_take hu);have HTT := Hd (fun h => anyE_true hu h);have HYU := Hd (fun w' => HY.out u w');obtain ⟨d, hd⟩ : ∃ d, d = okV u := ⟨_, rfl⟩;rw [← hd] at HTK HTT HYU;unfold agV at HYU;obtain ⟨u1, u2⟩ := u;dsimp only at *;clear hc hE hu hd;go_wp2_with fail
   refine (HYU.out _).mono ?_;rintro e w2 ⟨rfl, O2⟩;have HO2 := Hd (hO.out.trans O2);clear O2 hO c0 c1 HYU
   cases d with
   | true =>
    have HN := Hd (HTK.out.trans (by rw [hn.out]));clear HTK HTT hn;go_wp2
    go_roundw
    case rel => exact ⟨k + 1, by go_num, by omega, HN, HO2⟩
    case measure => simp [intOf]; omega
   | false =>
    have HE := Hd (HTT.out rfl);clear HTK HTT hn;go_wp2
    go_ret
    exact ⟨(k : Int), ⟨rfl, by rw [HE.out]; simp⟩, HO2.out⟩
  ·have hkm : k = m := by omega
   subst hkm;have hd2 : decide ((k : Int) < (k : Int)) = false := by simp
   rw [List.take_of_length_le (by rw [HM.out]; omega)] at hn;go_wp2
   go_ret
   exact ⟨-1, ⟨rfl, by rw [hn.out]; rfl⟩, hO.out⟩
theorem containsf_any (A : Option Addr) (m c B : Nat) (l : List V2) (w : World) (hg : Row w B A (edgeC l)) (hm : l.length = m) (hM : m ≤ 100000) :
  Calls Tryz.prog 43 #[.slice A m c, .func (.func 44) #[] #[]] w fun e w' => e = .returned (.bool (l.any (fun v => !okV v))) ∧ Only [] w w' := by
 have HX := Hd (fun w' (O : Only [] w w') => indexf_any A m c B l w' (hg.only O (by simp)) hm hM);generalize l.any (fun v => !okV v) = q at *;clear hg hm;go_enter Tryz.func43, Tryz.ntmps43;go_wp2_with fail
 refine (HX.out _ (Only.refl [] w)).mono ?_;rintro e w2 ⟨r, ⟨rfl, hr⟩, O2⟩;have HR := Hd hr;have HO := Hd O2;clear hr O2 HX;go_wp2
 go_ret
 exact ⟨by rw [← HR.out]; rfl, HO.out⟩
theorem mayW_a {h : Hst} {x : Wld} (hm : mayH h = false) : mayW h x = false := by unfold mayW; rw [hm]; rfl
theorem mayW_b {h : Hst} {x : Wld} (hm : x.c.length ≠ (whichL infoB h.l).length) : mayW h x = false := by unfold mayW; rw [decide_eq_false hm, Bool.false_and, Bool.and_false]
theorem mayW_c {h : Hst} {x : Wld} (hm : x.l.length ≠ (lostX h.l).length) : mayW h x = false := by unfold mayW; rw [decide_eq_false hm, Bool.false_and, Bool.and_false, Bool.and_false]
theorem mayW_d {h : Hst} {x : Wld} (hm : mayH h = true) (h1 : x.c.length = (whichL infoB h.l).length) (h2 : x.l.length = (lostX h.l).length) : mayW h x = !(x.l.any (fun v => !okV v)) := by
 unfold mayW;rw [hm, decide_eq_true h1, decide_eq_true h2, Bool.true_and, Bool.true_and, Bool.true_and]
 induction x.l with
 | nil => rfl
 | cons v l ih => rw [List.all_cons, List.any_cons, ih]; simp
theorem wmay_any (A0 A1 A2 Ac Al : Option Addr) (n0 n1 n2 nc nl c0 c1 c2 cc cl B Bl : Nat) (h : Hst) (x : Wld) (w : World) (hg : HIn w B A0 A1 A2 n0 n1 n2 h) (hl : Row w Bl Al (edgeC x.l)) (hcl : x.c.length = nc) (hll : x.l.length = nl) (hM : nl ≤ 100000) :
  Calls Tryz.prog 23 #[hval A0 A1 A2 n0 n1 n2 c0 c1 c2, .agg #[.slice Ac nc cc, .slice Al nl cl]] w fun e w' => e = .returned (.bool (mayW h x)) ∧ Only [] w w' := by
 have HMY := Hd (fun w' (O : Only [] w w') => hmay_any A0 A1 A2 n0 n1 n2 c0 c1 c2 B h w' (hg.same O));have HIN := Hd (fun w' (O : Only [] w w') => kinfos_any A0 A1 A2 n0 n1 n2 c0 c1 c2 B h w' (hg.same O).at_.r2 hg.n2 (by have := hg.sm.nl; rw [hg.n2] at this; exact this));have HLS := Hd (fun w' (O : Only [] w w') => klost_any A0 A1 A2 n0 n1 n2 c0 c1 c2 B h w' (hg.same O).at_.r2 hg.n2 (by have := hg.sm.nl; rw [hg.n2] at this; exact this) hg.sm.no);have HCF := Hd (fun w' (O : Only [] w w') => containsf_any Al nl cl Bl x.l w' (hl.only O (by simp)) hll hM);rw [lostP_eq] at HLS;have HA := Hd (fun hm => mayW_a (h := h) (x := x) hm);have HB := Hd (fun hm => mayW_b (h := h) (x := x) hm);have HC := Hd (fun hm => mayW_c (h := h) (x := x) hm);have HD := Hd (fun hm h1 h2 => mayW_d (h := h) (x := x) hm h1 h2);rw [hcl] at HB HD;rw [hll] at HC HD;rw [List.length_map] at HLS;unfold infoB at HB HD;obtain ⟨ni, hni⟩ : ∃ ni, (whichL (fun t : Tx => decide (t.f = 3)) h.l).length = ni := ⟨_, rfl⟩;obtain ⟨no, hno⟩ : ∃ no, (lostX h.l).length = no := ⟨_, rfl⟩;rw [hni] at HB HD HIN;rw [hno] at HC HD HLS;generalize mayW h x = q at *;generalize x.l.any (fun v => !okV v) = qq at *;unfold hval at *;clear hg hl hcl hll hni hno;have HO1 := Hd (((Only.refl [] w).alloc (.cells #[.slice A0 n0 c0, .slice A1 n1 c1, .slice A2 n2 c2] 25)).alloc (.cells #[.slice Ac nc cc, .slice Al nl cl] 29));have HB1 := Hd ((Blk.made w 25 #[.slice A0 n0 c0, .slice A1 n1 c1, .slice A2 n2 c2]).alloc (.cells #[.slice Ac nc cc, .slice Al nl cl] 29));have HW1 := Hd (Blk.made (w.alloc (.cells #[.slice A0 n0 c0, .slice A1 n1 c1, .slice A2 n2 c2] 25)) 29 #[.slice Ac nc cc, .slice Al nl cl]);simp only [World.size_alloc] at HW1
 cases hm : mayH h with
 | false =>
  have HE := Hd (HA.out hm);rw [errH_not hm] at HMY;clear HA HB HC HD HIN HLS HCF hm;go_enter Tryz.func23, Tryz.ntmps23;go_upto_region 1 with (fail)
  generalize ((w.alloc (.cells #[.slice A0 n0 c0, .slice A1 n1 c1, .slice A2 n2 c2] 25)).alloc (.cells #[.slice Ac nc cc, .slice Al nl cl] 29)) = w1 at *;generalize w.heap.size = g at *;refine rg1 [] [] w1 ?_;have OW : Only [] w1 w1.drew := (Only.refl [] w1).drew;generalize w1.drew = wz at *;refine trd (i := 0) (v := ?_) 0 ?_ ?_;rotate_left
  ·(intro wq hSw; obtain ⟨lb_H, y0, y1, y2⟩ := Bk3 (hSw.blk HB1.out (by simp)); simp at y0 y1 y2; obtain ⟨lb_W, x0, x1⟩ := Bk2 (hSw.blk HW1.out (by simp)); simp at x0 x1; clear hSw; go_simp; try with_reducible rfl)
  (try simp only [tdz]);refine tst (i := 1) fun K hK => ?_;go_simp;refine (HMY.out _ (HO1.out.trans OW)).mono ?_;rintro e wa ⟨rfl, Oa⟩;have OW1 := OW.trans Oa;clear Oa;refine kOut hK (OW1) (h := ?_);clear hK K;refine tQ 2 (h := tQ 3 (h := tiq 4 (h := tiq 5 (h := tiq 6 (h := tiq 7 (h := tiq 8 (h := tiq 9 (h := tiq 10 (h := tQ 11 (h := tQ 12 (h := tiq 13 (h := tiq 14 (h := tiq 15 (h := tiq 16 (h := tiq 17 (h := tiq 18 (h := tiq 19 (h := tQ 20 (h := tQ 21 (h := tiq 22 (h := tiq 23 (h := tiq 24 (h := tiq 25 (h := tQ 26 (h := tQ 27 (h := ?_))))))))))))))))))))))))));refine tdn ?_;have HO2 := Hd (HO1.out.trans OW1);go_wp2
  go_ret
  exact ⟨by rw [HE.out]; rfl, HO2.out⟩
 | true =>
  rw [errH_yes hm] at HMY;have HDD := Hd (fun h1 h2 => HD.out hm h1 h2);clear HA HD hm
  by_cases hc : nc = ni
  ·subst hc
   by_cases hl : nl = no
   ·subst hl;have HE := Hd (HDD.out rfl rfl);clear HDD HB HC;go_enter Tryz.func23, Tryz.ntmps23;go_upto_region 1 with (fail)
    generalize ((w.alloc (.cells #[.slice A0 n0 c0, .slice A1 n1 c1, .slice A2 n2 c2] 25)).alloc (.cells #[.slice Ac nc cc, .slice Al nl cl] 29)) = w1 at *;generalize w.heap.size = g at *;have RD0 := Hd fun wq (hSw : Only [] w1 wq) => aI (Bk3 (hSw.blk HB1.out (by simp))) (Bk2 (hSw.blk HW1.out (by simp)));refine rg1 [] [] w1 ?_;have OW : Only [] w1 w1.drew := (Only.refl [] w1).drew;generalize w1.drew = wz at *;refine trq 0 0 RD0 (h := ?_);refine tst (i := 1) fun K hK => ?_;go_simp;refine (HMY.out _ (HO1.out.trans OW)).mono ?_;rintro e wa ⟨rfl, Oa⟩;have OW1 := OW.trans Oa;clear Oa;refine kOut hK (OW1) (h := ?_);clear hK K;refine tQ 2 (h := tQ 3 (h := tQ 4 (h := trq 5 0 RD0 (h := tQ 6 (h := trq 7 0 RD0 (h := ?_))))));refine tst (i := 8) fun K hK => ?_;go_simp;refine (HIN.out _ (HO1.out.trans OW1)).mono ?_;rintro e wb ⟨Ai, ci, ⟨rfl, -⟩, Ob⟩;have OW2 := OW1.trans Ob;clear Ob;refine kOut hK (OW2) (h := ?_);clear hK K;refine tQ 9 (h := tQ 10 (h := tQ 11 (h := tQ 12 (h := tQ 13 (h := trq 14 0 RD0 (h := tQ 15 (h := trq 16 0 RD0 (h := ?_))))))));refine tst (i := 17) fun K hK => ?_;go_simp;refine (HLS.out _ (HO1.out.trans OW2)).mono ?_;rintro e wc ⟨VL, ⟨rfl, hl3⟩, Oc⟩;obtain ⟨AL, cL, rfl, -, -, -, -⟩ := own_row hl3;have OW3 := OW2.trans Oc;clear Oc hl3;refine kOut hK (OW3) (h := ?_);clear hK K;refine tQ 18 (h := tQ 19 (h := tQ 20 (h := tQ 21 (h := tQ 22 (h := trq 23 0 RD0 (h := ?_))))));refine tst (i := 24) fun K hK => ?_;go_simp;refine (HCF.out _ (HO1.out.trans OW3)).mono ?_;rintro e wd ⟨rfl, Od⟩;have OW4 := OW3.trans Od;clear Od;refine kOut hK (OW4) (h := ?_);clear hK K;refine tQ 25 (h := tQ 26 (h := tQ 27 (h := ?_)));refine tdn ?_;have HO2 := Hd (HO1.out.trans OW4);go_wp2
    go_ret
    exact ⟨by rw [HE.out]; rfl, HO2.out⟩
   ·have HE := Hd (HC.out hl);have hne : ((nl : Int) == (no : Int)) = false := by simp; omega
    have hne2 : (nl == no) = false := by simp; omega
    have hne3 : decide (nl = no) = false := by simp; omega
    clear HDD HB HC HCF hl;go_enter Tryz.func23, Tryz.ntmps23;go_upto_region 1 with (fail)
    generalize ((w.alloc (.cells #[.slice A0 n0 c0, .slice A1 n1 c1, .slice A2 n2 c2] 25)).alloc (.cells #[.slice Ac nc cc, .slice Al nl cl] 29)) = w1 at *;generalize w.heap.size = g at *;have RD0 := Hd fun wq (hSw : Only [] w1 wq) => aI (Bk3 (hSw.blk HB1.out (by simp))) (Bk2 (hSw.blk HW1.out (by simp)));refine rg1 [] [] w1 ?_;have OW : Only [] w1 w1.drew := (Only.refl [] w1).drew;generalize w1.drew = wz at *;refine trq 0 0 RD0 (h := ?_);refine tst (i := 1) fun K hK => ?_;go_simp;refine (HMY.out _ (HO1.out.trans OW)).mono ?_;rintro e wa ⟨rfl, Oa⟩;have OW1 := OW.trans Oa;clear Oa;refine kOut hK (OW1) (h := ?_);clear hK K;refine tQ 2 (h := tQ 3 (h := tQ 4 (h := trq 5 0 RD0 (h := tQ 6 (h := trq 7 0 RD0 (h := ?_))))));refine tst (i := 8) fun K hK => ?_;go_simp;refine (HIN.out _ (HO1.out.trans OW1)).mono ?_;rintro e wb ⟨Ai, ci, ⟨rfl, -⟩, Ob⟩;have OW2 := OW1.trans Ob;clear Ob;refine kOut hK (OW2) (h := ?_);clear hK K;refine tQ 9 (h := tQ 10 (h := tQ 11 (h := tQ 12 (h := tQ 13 (h := trq 14 0 RD0 (h := tQ 15 (h := trq 16 0 RD0 (h := ?_))))))));refine tst (i := 17) fun K hK => ?_;go_simp;refine (HLS.out _ (HO1.out.trans OW2)).mono ?_;rintro e wc ⟨VL, ⟨rfl, hl3⟩, Oc⟩;obtain ⟨AL, cL, rfl, -, -, -, -⟩ := own_row hl3;have OW3 := OW2.trans Oc;clear Oc hl3;refine kOut hK (OW3) (h := ?_);clear hK K;refine tQ 18 (h := tQ 19 (h := tQ 20 (h := tQ 21 (h := tiq 22 (h := tiq 23 (h := tiq 24 (h := tiq 25 (h := tQ 26 (h := tQ 27 (h := ?_))))))))));refine tdn ?_;have HO2 := Hd (HO1.out.trans OW3);go_wp2
    go_ret
    exact ⟨by rw [HE.out]; rfl, HO2.out⟩
  ·have HE := Hd (HB.out hc);have hne : ((nc : Int) == (ni : Int)) = false := by simp; omega
   have hne2 : (nc == ni) = false := by simp; omega
   have hne3 : decide (nc = ni) = false := by simp; omega
   clear HDD HB HC HCF HLS hc;go_enter Tryz.func23, Tryz.ntmps23;go_upto_region 1 with (fail)
   generalize ((w.alloc (.cells #[.slice A0 n0 c0, .slice A1 n1 c1, .slice A2 n2 c2] 25)).alloc (.cells #[.slice Ac nc cc, .slice Al nl cl] 29)) = w1 at *;generalize w.heap.size = g at *;have RD0 := Hd fun wq (hSw : Only [] w1 wq) => aI (Bk3 (hSw.blk HB1.out (by simp))) (Bk2 (hSw.blk HW1.out (by simp)));refine rg1 [] [] w1 ?_;have OW : Only [] w1 w1.drew := (Only.refl [] w1).drew;generalize w1.drew = wz at *;refine trq 0 0 RD0 (h := ?_);refine tst (i := 1) fun K hK => ?_;go_simp;refine (HMY.out _ (HO1.out.trans OW)).mono ?_;rintro e wa ⟨rfl, Oa⟩;have OW1 := OW.trans Oa;clear Oa;refine kOut hK (OW1) (h := ?_);clear hK K;refine tQ 2 (h := tQ 3 (h := tQ 4 (h := trq 5 0 RD0 (h := tQ 6 (h := trq 7 0 RD0 (h := ?_))))));refine tst (i := 8) fun K hK => ?_;go_simp;refine (HIN.out _ (HO1.out.trans OW1)).mono ?_;rintro e wb ⟨Ai, ci, ⟨rfl, -⟩, Ob⟩;have OW2 := OW1.trans Ob;clear Ob;refine kOut hK (OW2) (h := ?_);clear hK K;refine tQ 9 (h := tQ 10 (h := tQ 11 (h := tQ 12 (h := tiq 13 (h := tiq 14 (h := tiq 15 (h := tiq 16 (h := tiq 17 (h := tiq 18 (h := tiq 19 (h := tQ 20 (h := tQ 21 (h := tiq 22 (h := tiq 23 (h := tiq 24 (h := tiq 25 (h := tQ 26 (h := tQ 27 (h := ?_)))))))))))))))))));refine tdn ?_;have HO2 := Hd (HO1.out.trans OW2);go_wp2
   go_ret
   exact ⟨by rw [HE.out]; rfl, HO2.out⟩
end Go.Proofs.YtghimogdeijgdaaGreatDoor
