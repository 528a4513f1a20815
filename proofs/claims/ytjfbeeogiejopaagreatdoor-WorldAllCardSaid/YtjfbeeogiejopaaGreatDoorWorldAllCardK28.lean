/- Parts. -/
import Derived.Test.YtjfbeeogiejopaaGreatDoorWorldAllCardK27
import Derived.Test.YtjfbeeogiejopaaGreatDoorWorldAllCardK12
import Derived.Test.YtjfbeeogiejopaaGreatDoorWorldAllCardK6
import Derived.Test.YtjfbeeogiejopaaGreatDoorWorldAllCardK24
import Derived.Test.YtjfbeeogiejopaaGreatDoorWorldAllCardK2
import Derived.Lib.SliceRun
import Derived.Test.YtjfbeeogiejopaaGreatDoorWorldAllCardK21
set_option maxRecDepth 10000
set_option maxHeartbeats 16000000
set_option linter.unusedVariables false
set_option linter.unusedSimpArgs false
namespace Go.Proofs.YtjfbeeogiejopaaGreatDoor
open Go.RowKit
open Go.Lib hiding intOf
attribute [local go_sem ↓] Go.wp_at_zero Go.wp_at_succ
theorem info_bl : (Tryz.prog.info? 4).map (fun i => (i.zero, i.size, i.bytes)) = some (some (.bool false), 1, 1) := by kernel_rfl
def boolsC (l : List Bool) : Array Value := (l.map Value.bool).toArray
theorem boolsC_size (l : List Bool) : (boolsC l).size = l.length := by simp [boolsC]
theorem boolsC_at {l : List Bool} {i : Nat} {b : Bool} (h : l[i]? = some b) : (boolsC l)[i]? = some (.bool b) := by simp [boolsC, h]
theorem boolsC_set (l : List Bool) (i : Nat) (b : Bool) : (boolsC l).setIfInBounds i (.bool b) = boolsC (l.set i b) := by
 simp [boolsC, List.map_set]
theorem made_bools (n : Nat) : madeCells #[.bool false] n = boolsC (List.replicate n false) := by
 apply Array.ext_getElem?
 intro j
 by_cases hj : j < n <;> simp [madeCells, boolsC, Nat.mod_one, hj]
theorem make_bools (n : Nat) (hn : n ≤ 1000) (w : World) : (Instr.makeSlice 49 (.int .i64 (n : Int)) (.int .i64 (n : Int))).run Tryz.prog w = .ok (.slice (some ⟨w.heap.size, 0, none⟩) n n) (w.alloc (.cells (boolsC (List.replicate n false)) 4)) := by
 obtain ⟨i0, hi, hz0, hz1, hz2⟩ := info_parts info_bl;have := run_make (P := Tryz.prog) w 49 4 i0 _ Tryz.underlying49 hi hz0 .i64 .i64 (n : Int) (n : Int) (by omega) (by omega) (by rw [hz2]; omega) (by omega);rw [this, hz1];simp [made_bools, Value.cells]
theorem row_bools {w : World} {g : Nat} {t : TypeId} {l : List Bool} (h : Blk w g t (boolsC l)) : Row w w.heap.size (some ⟨g, 0, none⟩) (l.map Value.bool) := by
 refine .inr ⟨g, 0, rfl, h.lt, Nat.le_refl _, fun j u hu => ?_⟩;rw [Nat.zero_add, h.at_ j]
 simpa [boolsC] using hu
theorem own_bools {w : World} {g n B : Nat} {l : List Bool} (h : Blk w g 4 (boolsC l)) (hl : l.length = n) (hn : n ≤ 1000) (hB : B ≤ g) : w.ownsRow B 4 1 (.slice (some ⟨g, 0, none⟩) n n) n (l.map Value.bool) := by
 refine ⟨by rw [List.length_map, hl, Nat.mul_one], .inr ⟨g, n, boolsC l, rfl, hB, h, Nat.le_refl _, by unfold maxLen; omega, by rw [boolsC_size, hl, Nat.mul_one], ?_⟩⟩;unfold boolsC;rw [Nat.mul_one, ← hl]
 show List.take l.length (l.map Value.bool) = _
 rw [List.take_of_length_le (by rw [List.length_map]; exact Nat.le_refl _)]
theorem boolsC_no (l : List Int) (L : List Bool) : ∀ u : Value, (l.map (Value.int .i64))[0]? = some u → ∀ j : Nat, (boolsC L)[j]? ≠ some u := by
 intro u hu j hj;unfold boolsC at hj;rw [List.getElem?_map] at hu;rw [List.getElem?_toArray, List.getElem?_map] at hj
 cases h0 : l[0]? with
 | none => simp [h0] at hu
 | some z =>
  cases h1 : L[j]? with
  | none => simp [h1] at hj
  | some b =>
   simp [h0] at hu;simp [h1] at hj;rw [← hj] at hu
   cases hu
theorem wcommitted_any (A0 A1 A2 Ac : Option Addr) (n0 n1 n2 nc c0 c1 c2 cc B Bc : Nat) (h : Hst) (c : List Bool) (w : World) (hg : HIn w B A0 A1 A2 n0 n1 n2 h) (hc : Row w Bc Ac (c.map Value.bool)) (hcl : c.length = nc) (hci : (whichL infoB h.l).length = nc) :
  Calls Tryz.prog 55 #[hval A0 A1 A2 n0 n1 n2 c0 c1 c2, .slice Ac nc cc] w fun e w' => ∃ V, (e = .returned V ∧ w'.ownsRow w.heap.size 4 1 V n2 ((comL h.l c).map Value.bool)) ∧ Only [] w w' := by
 have HL := Hd hg.at_.r2;have HN2 := Hd hg.n2;have hn2 : n2 ≤ 1000 := by have := hg.sm.nl; rw [hg.n2] at this; exact this
 have HKI := Hd (fun w' (O : Only [] w w') => kinfos_any A0 A1 A2 n0 n1 n2 c0 c1 c2 B h w' (hg.same O).at_.r2 hg.n2 hn2);have HCR := Hd hc;have HCL := Hd hcl;have HCI := Hd hci;have hmk := make_bools n2 hn2;have hncle : nc ≤ n2 := by rw [← hci, ← HN2.out]; exact which_le _ _
 unfold hval at HKI ⊢;clear hg hc hcl hci;have HO1 := Hd (((Only.refl [] w).alloc (.cells #[.slice A0 n0 c0, .slice A1 n1 c1, .slice A2 n2 c2] 25)).alloc (.cells (boolsC (List.replicate n2 false)) 4));have HB1 := Hd ((Blk.made w 25 #[.slice A0 n0 c0, .slice A1 n1 c1, .slice A2 n2 c2]).alloc (.cells (boolsC (List.replicate n2 false)) 4));have HX1 := Hd (Blk.made (w.alloc (.cells #[.slice A0 n0 c0, .slice A1 n1 c1, .slice A2 n2 c2] 25)) 4 (boolsC (List.replicate n2 false)));simp only [World.size_alloc] at HX1;go_enter Tryz.func55, Tryz.ntmps55;go_upto_region 2 with (fail)
 generalize ((w.alloc (.cells #[.slice A0 n0 c0, .slice A1 n1 c1, .slice A2 n2 c2] 25)).alloc (.cells (boolsC (List.replicate n2 false)) 4)) = w1 at *;generalize hgb : w.heap.size + 1 = gb at *;generalize hgg : w.heap.size = g at *;have lB := HB1.out.lt;have y2 := HB1.out.at_ 2;simp at y2;clear hmk;go_wp2_with fail
 go_loopw [17] (fun iv wr => ∃ (k : Nat) (L : List Bool), iv = .int .i64 (k : Int) ∧ k ≤ n2 ∧ Hid (L.length = n2 ∧ ∀ i, i < k → L[i]? = (h.l[i]?).map fun t => decide (t.f = 1)) ∧ Hid (Blk wr gb 4 (boolsC L)) ∧ Hid (Blk wr g 25 #[.slice A0 n0 c0, .slice A1 n1 c1, .slice A2 n2 c2]) ∧ Hid (Only [] w wr)) (fun iv _ => n2 - (intOf iv).toNat)
 case atStart => exact ⟨0, _, rfl, by omega, Hd ⟨by simp, fun i hi => by omega⟩, HX1, HB1, HO1⟩
 case round =>
  obtain ⟨k, L, rfl, hk, hL, hX, hB, hO⟩ := hrel;clear HX1 HB1 HO1 lB y2
  by_cases hlt : k < n2
  ·obtain ⟨x, hx⟩ : ∃ x, h.l[k]? = some x := ⟨_, List.getElem?_eq_getElem (by rw [HN2.out]; exact hlt)⟩;obtain ⟨bl, off, A', cp, rfl, -, hbw, hT, -⟩ := HL.out.at_ hx;obtain ⟨a0, a1, a2⟩ := hT.only hO.out (by omega) (by simp);have hbr : bl < wr.heap.size := by have := hO.out.size; omega
   have h01 : (k : Int) < (n2 : Int) := by omega
   have hk0 : (0 : Int) ≤ (k : Int) := Int.natCast_nonneg _;have hwk : IntKind.i64.wrap ((k : Int) + 1) = (k : Int) + 1 := IntWalk.i64_in _ (by omega);have HXF : Hid (decide (x.f = 1) = (x.f == 1)) := Hd rfl;obtain ⟨v0, hv0⟩ : ∃ v0, L[k]? = some v0 := ⟨_, List.getElem?_eq_getElem (by rw [hL.out.1]; exact hlt)⟩;have HX0 := Hd hx;obtain ⟨s, f, ops⟩ := x;dsimp only at a0 a1 a2 HXF;generalize ops.length = m at *;clear hT hx;go_upto_region 5 with (fail)
   have O2 : Only [] wr (wr.alloc (.cells #[.int .i64 s, .int .i64 f, .slice A' m cp] 46)) := (Only.refl [] wr).alloc _;have HT2 := Hd (Blk.made wr 46 #[.int .i64 s, .int .i64 f, .slice A' m cp]);have HX2 := Hd (O2.blk hX.out (by simp));have HB2 := Hd (O2.blk hB.out (by simp));have HO2 := Hd (hO.out.trans O2);clear O2 a0 a1 a2 hX hB hO hbr;generalize (wr.alloc (.cells #[.int .i64 s, .int .i64 f, .slice A' m cp] 46)) = w2 at *;generalize wr.heap.size = gt at *;have lT := HT2.out.lt;have t1 := HT2.out.at_ 1;have lX := HX2.out.lt;have x0 := (HX2.out.at_ k).trans (boolsC_at hv0);have fx0 := HX2.out.free k;simp at t1;generalize hbb : (f == 1) = bb at *;go_wp2
   have HX3 : Hid (Blk (w2.setCell ⟨gb, k, none⟩ (.bool bb)) gb 4 (boolsC (L.set k bb))) := Hd (by rw [← boolsC_set]; exact HX2.out.put k (.bool bb));have O3 : Only [gb] w2 (w2.setCell ⟨gb, k, none⟩ (.bool bb)) := (Only.refl [gb] w2).put (fun _ => by simp) _;have HB3 := Hd (O3.blk HB2.out (by simp; omega));have HO3 := Hd (HO2.out.step O3 (fun i hi hl => by simp at hi; omega));have HL3 : Hid ((L.set k bb).length = n2 ∧ ∀ i, i < k + 1 → (L.set k bb)[i]? = (h.l[i]?).map fun t => decide (t.f = 1)) := Hd ⟨by rw [List.length_set]; exact hL.out.1, fun i hi => by
    rw [List.getElem?_set]
    split
    ·rename_i e
     subst e;rw [if_pos (by rw [hL.out.1]; exact hlt), HX0.out]
     show some bb = some (decide (f = 1))
     rw [HXF.out]
    ·exact hL.out.2 i (by omega)⟩
   go_roundw
   case rel => exact ⟨k + 1, _, by go_num, by omega, HL3, HX3, HB3, HO3⟩
   case measure => simp [intOf]; omega
  ·have hkn : k = n2 := by omega
   subst hkn;have hd2 : decide ((k : Int) < (k : Int)) = false := by simp
   have hLe : L = comQ 0 h.l c := by
    rw [comQ_zero];refine List.ext_getElem? fun i => ?_;rw [List.getElem?_map]
    by_cases hi : i < k
    ·exact hL.out.2 i hi
    ·rw [List.getElem?_eq_none (by rw [hL.out.1]; omega), List.getElem?_eq_none (by rw [HN2.out]; omega)]
     rfl
   subst hLe;obtain ⟨wo, hwo⟩ : ∃ wo : World, wo = wr := ⟨_, rfl⟩;subst hwo;have lB := hB.out.lt;have y0 := hB.out.at_ 0;have y1 := hB.out.at_ 1;have y2 := hB.out.at_ 2;simp at y0 y1 y2;clear hL;go_wp2_with fail
   refine (HKI.out _ hO.out).mono ?_;rintro e w4 ⟨A4, c4, ⟨rfl, hr4⟩, O4⟩;rw [show (whichL (fun t : Tx => decide (t.f = 3)) h.l).length = nc from HCI.out];have HR4 := Hd hr4;have HX4 := Hd (O4.blk hX.out (by simp));have HO4 := Hd (hO.out.trans O4);clear hr4 O4 lB y0 y1 y2 hB hX hO HKI;go_wp2_with fail
   go_loopw [32] (fun qv wr => ∃ q : Nat, qv = .int .i64 (q : Int) ∧ q ≤ nc ∧ Hid (Blk wr gb 4 (boolsC (comQ q h.l c))) ∧ Hid (Row wr wr.heap.size A4 ((whichL (fun t : Tx => decide (t.f = 3)) h.l).map (Value.int .i64))) ∧ Hid (Only [] w wr)) (fun qv _ => nc - (intOf qv).toNat)
   case atStart => exact ⟨0, rfl, by omega, HX4, HR4, HO4⟩
   case round =>
    obtain ⟨q, rfl, hq, hX, hR, hO⟩ := hrel;clear HX4 HR4 HO4
    by_cases hlt2 : q < nc
    ·obtain ⟨z, hz⟩ : ∃ z, (whichL infoB h.l)[q]? = some z := ⟨_, List.getElem?_eq_getElem (by rw [HCI.out]; exact hlt2)⟩;obtain ⟨i, t, rfl, ht, hp, hrk⟩ := which_get hz;have hi2 : i < k := by rw [← HN2.out]; exact (List.getElem?_eq_some_iff.1 ht).1
     have HST := Hd (comQ_step (q := q) (c := c) ht hp hrk);have HRP := Hd (fun w' (O : Only [gb] wr w') => row_past hR.out hX.out (boolsC_no _ _) O);obtain ⟨b4, o4, rfl, hbb4, hbr4, hc4⟩ := hR.out.open_ (k := q) (by rw [List.length_map]; show q < (whichL infoB h.l).length; rw [HCI.out]; exact hlt2);have z0 := hc4 q _ (by rw [List.getElem?_map]; show ((whichL infoB h.l)[q]?).map _ = _; rw [hz]; rfl);obtain ⟨bb, hbb⟩ : ∃ bb, c[q]? = some bb := ⟨_, List.getElem?_eq_getElem (by rw [HCL.out]; exact hlt2)⟩;obtain ⟨b5, o5, rfl, hb5, hbr5, hc5⟩ := (HCR.out.only hO.out (by simp)).open_ (k := q) (by rw [List.length_map, HCL.out]; exact hlt2);have q0 := hc5 q _ (by rw [List.getElem?_map, hbb]; rfl);obtain ⟨v0, hv0⟩ : ∃ v0, (comQ q h.l c)[i]? = some v0 := ⟨_, List.getElem?_eq_getElem (by rw [comQ_len, HN2.out]; exact hi2)⟩;have x0 := (hX.out.at_ i).trans (boolsC_at hv0);have fx0 := hX.out.free i;have lX := hX.out.lt;have HGD : Hid (c.getD q false = bb) := Hd (by simp [hbb]);have h02 : (q : Int) < (nc : Int) := by omega
     have hq0 : (0 : Int) ≤ (q : Int) := Int.natCast_nonneg _;have hwq : IntKind.i64.wrap ((q : Int) + 1) = (q : Int) + 1 := IntWalk.i64_in _ (by omega);have hi0 : (0 : Int) ≤ (i : Int) := Int.natCast_nonneg _;have hi3 : (i : Int) < (k : Int) := by omega
     clear hz ht hp hrk hc4 hbb hc5 hv0;go_wp2
     have HX3 : Hid (Blk (wr.setCell ⟨gb, i, none⟩ (.bool bb)) gb 4 (boolsC (comQ (q + 1) h.l c))) := Hd (by rw [HST.out, HGD.out, ← boolsC_set]; exact hX.out.put i (.bool bb));have O3 : Only [gb] wr (wr.setCell ⟨gb, i, none⟩ (.bool bb)) := (Only.refl [gb] wr).put (fun _ => by simp) _;have HRR := Hd (HRP.out _ O3);have HO3 := Hd (hO.out.step O3 (fun i hi hl => by simp at hi; omega));go_roundw
     case rel => exact ⟨q + 1, by go_num, by omega, HX3, HRR, HO3⟩
     case measure => simp [intOf]; omega
    ·have hqn : q = nc := by omega
     subst hqn;have hd3 : decide ((q : Int) < (q : Int)) = false := by simp
     have HXE : Hid (Blk wr gb 4 (boolsC (comL h.l c))) := Hd (by rw [← comQ_all, HCI.out]; exact hX.out);go_wp2
     go_ret
     exact ⟨_, ⟨rfl, own_bools HXE.out (by rw [comL_len]; exact HN2.out) hn2 (by omega)⟩, hO.out⟩
def idxE {α : Type} [BEq α] (l : List α) (x : α) : Int := if l.idxOf x < l.length then (l.idxOf x : Int) else -1
theorem idxE_at {α : Type} [BEq α] [LawfulBEq α] {l : List α} {x : α} {k : Nat} (h : l[k]? = some x) (hn : ∀ j, j < k → ∀ y, l[j]? = some y → y ≠ x) : idxE l x = (k : Int) := by
 have hk := (List.getElem?_eq_some_iff.1 h).1;have hm : x ∈ l := List.mem_of_getElem? h;have hlt := List.idxOf_lt_length_of_mem hm;have hx := List.getElem_idxOf hlt;have e : l.idxOf x = k := by
  rcases Nat.lt_trichotomy (l.idxOf x) k with h1 | h1 | h1
  ·exact absurd hx (hn _ h1 _ (List.getElem?_eq_getElem hlt))
  ·exact h1
  ·have h2 := List.not_of_lt_findIdx (p := (· == x)) (xs := l) h1;obtain ⟨_, h3⟩ := List.getElem?_eq_some_iff.1 h;simp [h3] at h2
 unfold idxE;rw [if_pos hlt, e]
theorem idxE_none {α : Type} [BEq α] [LawfulBEq α] {l : List α} {x : α} (hn : ∀ j, j < l.length → ∀ y, l[j]? = some y → y ≠ x) : idxE l x = -1 := by
 unfold idxE;rw [if_neg];intro h;exact hn _ h _ (List.getElem?_eq_getElem h) (List.getElem_idxOf h)
theorem idxE_mem {α : Type} [BEq α] [LawfulBEq α] [DecidableEq α] (l : List α) (x : α) : decide (0 ≤ idxE l x) = decide (x ∈ l) := by
 unfold idxE
 by_cases h : x ∈ l
 ·rw [if_pos (List.idxOf_lt_length_of_mem h)];simp [h]
 ·rw [if_neg (fun e => h (by have h2 := List.getElem_mem e; rwa [List.getElem_idxOf e] at h2))];simp [h]
theorem vindex_any (A : Option Addr) (m c B : Nat) (vs : List V2) (v : V2) (w : World) (hg : Row w B A (edgeC vs)) (hm : vs.length = m) (hM : m ≤ 100000) :
  Calls Tryz.prog 91 #[.slice A m c, agV v] w fun e w' => e = .returned (.int .i64 (idxE vs v)) ∧ Only [] w w' := by
 obtain ⟨v1, v2⟩ := v;unfold agV;dsimp only;have HG := Hd hg;have HM := Hd hm;have HO1 := Hd ((Only.refl [] w).alloc (.cells #[.int .i64 v1, .int .i64 v2] 38));have HB1 := Hd (Blk.made w 38 #[.int .i64 v1, .int .i64 v2]);clear hg hm;go_enter Tryz.func91, Tryz.ntmps91;go_upto_region 1 with (fail)
 generalize (w.alloc (.cells #[.int .i64 v1, .int .i64 v2] 38)) = w1 at *;generalize hgg : w.heap.size = g at *;go_wp2_with fail
 go_loopw [8] (fun iv wr => ∃ k : Nat, iv = .int .i64 (k : Int) ∧ k ≤ m ∧ Hid (∀ j, j < k → ∀ y, vs[j]? = some y → y ≠ (v1, v2)) ∧ Hid (Blk wr g 38 #[.int .i64 v1, .int .i64 v2]) ∧ Hid (Only [] w wr)) (fun iv _ => m - (intOf iv).toNat)
 case atStart => exact ⟨0, rfl, by omega, Hd (fun j hj => by omega), HB1, HO1⟩
 case round =>
  obtain ⟨k, rfl, hk, hn, hB, hO⟩ := hrel;clear HB1 HO1
  by_cases hlt : k < m
  ·obtain ⟨u, hu⟩ : ∃ u, vs[k]? = some u := ⟨_, List.getElem?_eq_getElem (by rw [HM.out]; exact hlt)⟩;obtain ⟨b, off, rfl, hbB, hbw, hc⟩ := (HG.out.only hO.out (by simp)).open_ (k := k * 2) (by rw [edgeC_len, HM.out]; omega);have hE := edgeC_get vs k u hu;have HC0 := Hd (hc _ _ hE.1);have HC1 := Hd (hc _ _ hE.2);rw [← Nat.add_assoc] at HC1;have h01 : (k : Int) < (m : Int) := by omega
   have hk0 : (0 : Int) ≤ (k : Int) := Int.natCast_nonneg _;have hwk : IntKind.i64.wrap ((k : Int) + 1) = (k : Int) + 1 := IntWalk.i64_in _ (by omega);have HU := Hd hu;obtain ⟨u1, u2⟩ := u;dsimp only at HC0 HC1;clear hc hE hu;go_upto_region 4 with (fail)
   have hcase : (v1 = u1 ∧ v2 = u2) ∨ (¬ (v1 = u1 ∧ v2 = u2) ∧ ((v1 == u1) = false ∨ ((v1 == u1) = true ∧ (v2 == u2) = false))) := by
    by_cases e0 : v1 = u1
    ·by_cases e1 : v2 = u2
     ·exact .inl ⟨e0, e1⟩
     ·exact .inr ⟨fun h => e1 h.2, .inr ⟨by simp [e0], by simp [e1]⟩⟩
    ·exact .inr ⟨fun h => e0 h.1, .inl (by simp [e0])⟩
   rcases hcase with ⟨rfl, rfl⟩ | ⟨hne, hcase⟩
   ·have HE := Hd (idxE_at HU.out hn.out);have RD0 := Hd fun wq (hSw : Only [] wr wq) => And.intro (Bk2 (hSw.blk hB.out (by simp))) (And.intro ((hSw.cell (p := ⟨b, off + k * 2, none⟩) hbw (by simp)).trans HC0.out) ((hSw.cell (p := ⟨b, off + k * 2 + 1, none⟩) hbw (by simp)).trans HC1.out));refine wp_region_noPanic ?_;refine wp_region_timed (F := [⟨[], [], fun w' => Only [] wr w'⟩]) (by kernel_rfl) (th1 ((Only.refl [] wr).drew)) ?_;have OW : Only [] wr wr.drew := (Only.refl [] wr).drew;generalize wr.drew = wz at *;refine trd (i := 0) (v := ?_) 0 ?_ ?_;rotate_left
    ·(intro wq q; obtain ⟨⟨lb_B, y0, y1⟩, c0, c1⟩ := RD0.out wq q; simp at y0 y1; clear q; go_simp; try with_reducible rfl)
    (try simp only [tdz]);refine tp (i := 1) ?_;(try simp only [tdz]);refine tp (i := 2) ?_;(try simp only [tdz]);refine tp (i := 3) ?_;(try simp only [tdz]);refine trd (i := 4) (v := ?_) 0 ?_ ?_;rotate_left
    ·(intro wq q; obtain ⟨⟨lb_B, y0, y1⟩, c0, c1⟩ := RD0.out wq q; simp at y0 y1; clear q; go_simp; try with_reducible rfl)
    (try simp only [tdz]);refine tp (i := 5) ?_;(try simp only [tdz]);refine timed_done (by kernel_rfl) ?_ _;refine NoPanic.normal ?_;have HOZ := Hd (hO.out.trans OW);clear OW hB hn HC0 HC1;go_wp2
    go_ret
    exact ⟨by rw [HE.out]; rfl, HOZ.out⟩
   ·have HN : Hid (∀ j, j < k + 1 → ∀ y, vs[j]? = some y → y ≠ (v1, v2)) := Hd (fun j hj y hy => by
     by_cases e : j = k
     ·subst e;rw [HU.out] at hy
      cases hy
      exact fun h => hne ⟨(congrArg Prod.fst h).symm, (congrArg Prod.snd h).symm⟩
     ·exact hn.out j (by omega) y hy)
    clear hne;rcases hcase with hb0 | ⟨hb0, hb1⟩
    ·skip;have RD0 := Hd fun wq (hSw : Only [] wr wq) => And.intro (Bk2 (hSw.blk hB.out (by simp))) (And.intro ((hSw.cell (p := ⟨b, off + k * 2, none⟩) hbw (by simp)).trans HC0.out) ((hSw.cell (p := ⟨b, off + k * 2 + 1, none⟩) hbw (by simp)).trans HC1.out));refine wp_region_noPanic ?_;refine wp_region_timed (F := [⟨[], [], fun w' => Only [] wr w'⟩]) (by kernel_rfl) (th1 ((Only.refl [] wr).drew)) ?_;have OW : Only [] wr wr.drew := (Only.refl [] wr).drew;generalize wr.drew = wz at *;refine trd (i := 0) (v := ?_) 0 ?_ ?_;rotate_left
     ·(intro wq q; obtain ⟨⟨lb_B, y0, y1⟩, c0, c1⟩ := RD0.out wq q; simp at y0 y1; clear q; go_simp; try with_reducible rfl)
     (try simp only [tdz]);refine tp (i := 1) ?_;(try simp only [tdz]);refine tp (i := 2) ?_;(try simp only [tdz]);refine tp (i := 3) ?_;(try simp only [tdz]);refine trd (i := 4) (v := ?_) 0 ?_ ?_;rotate_left
     ·(intro wq q; obtain ⟨⟨lb_B, y0, y1⟩, c0, c1⟩ := RD0.out wq q; simp at y0 y1; clear q; go_simp; try with_reducible rfl)
     (try simp only [tdz]);refine tp (i := 5) ?_;(try simp only [tdz]);refine timed_done (by kernel_rfl) ?_ _;refine NoPanic.normal ?_;have HOZ := Hd (hO.out.trans OW);have HBZ := Hd (OW.blk hB.out (by simp));clear OW hB hn HC0 HC1 hO;go_wp2
     go_roundw
     case rel => exact ⟨k + 1, by go_num, by omega, HN, HBZ, HOZ⟩
     case measure => simp [intOf]; omega
    ·skip;have RD0 := Hd fun wq (hSw : Only [] wr wq) => And.intro (Bk2 (hSw.blk hB.out (by simp))) (And.intro ((hSw.cell (p := ⟨b, off + k * 2, none⟩) hbw (by simp)).trans HC0.out) ((hSw.cell (p := ⟨b, off + k * 2 + 1, none⟩) hbw (by simp)).trans HC1.out));refine wp_region_noPanic ?_;refine wp_region_timed (F := [⟨[], [], fun w' => Only [] wr w'⟩]) (by kernel_rfl) (th1 ((Only.refl [] wr).drew)) ?_;have OW : Only [] wr wr.drew := (Only.refl [] wr).drew;generalize wr.drew = wz at *;refine trd (i := 0) (v := ?_) 0 ?_ ?_;rotate_left
     ·(intro wq q; obtain ⟨⟨lb_B, y0, y1⟩, c0, c1⟩ := RD0.out wq q; simp at y0 y1; clear q; go_simp; try with_reducible rfl)
     (try simp only [tdz]);refine tp (i := 1) ?_;(try simp only [tdz]);refine tp (i := 2) ?_;(try simp only [tdz]);refine tp (i := 3) ?_;(try simp only [tdz]);refine trd (i := 4) (v := ?_) 0 ?_ ?_;rotate_left
     ·(intro wq q; obtain ⟨⟨lb_B, y0, y1⟩, c0, c1⟩ := RD0.out wq q; simp at y0 y1; clear q; go_simp; try with_reducible rfl)
     (try simp only [tdz]);refine tp (i := 5) ?_;(try simp only [tdz]);refine timed_done (by kernel_rfl) ?_ _;refine NoPanic.normal ?_;have HOZ := Hd (hO.out.trans OW);have HBZ := Hd (OW.blk hB.out (by simp));clear OW hB hn HC0 HC1 hO;go_wp2
     go_roundw
     case rel => exact ⟨k + 1, by go_num, by omega, HN, HBZ, HOZ⟩
     case measure => simp [intOf]; omega
  ·have hkm : k = m := by omega
   subst hkm;have hd2 : decide ((k : Int) < (k : Int)) = false := by simp
   have HE := Hd (idxE_none (fun j hj => hn.out j (by rw [← HM.out]; exact hj)));go_wp2
   go_ret
   exact ⟨by rw [HE.out]; rfl, hO.out⟩
theorem vcontains_any (A : Option Addr) (m c B : Nat) (vs : List V2) (v : V2) (w : World) (hg : Row w B A (edgeC vs)) (hm : vs.length = m) (hM : m ≤ 100000) :
  Calls Tryz.prog 89 #[.slice A m c, agV v] w fun e w' => e = .returned (.bool (decide (v ∈ vs))) ∧ Only [] w w' := by
 have HX := Hd (fun w' (O : Only [] w w') => vindex_any A m c B vs v w' (hg.only O (by simp)) hm hM);obtain ⟨v1, v2⟩ := v;have HE := Hd (idxE_mem vs (v1, v2));unfold agV at *;dsimp only at *;have HO1 := Hd ((Only.refl [] w).alloc (.cells #[.int .i64 v1, .int .i64 v2] 38));have HB1 := Hd (Blk.made w 38 #[.int .i64 v1, .int .i64 v2]);clear hg hm;generalize idxE vs (v1, v2) = q at *;go_enter Tryz.func89, Tryz.ntmps89;go_upto_region 1 with (fail)
 generalize (w.alloc (.cells #[.int .i64 v1, .int .i64 v2] 38)) = w1 at *;generalize w.heap.size = g at *;have lB := HB1.out.lt;have y0 := HB1.out.at_ 0;have y1 := HB1.out.at_ 1;simp at y0 y1;go_wp2_with fail
 refine (HX.out _ HO1.out).mono ?_;rintro e w2 ⟨rfl, O2⟩;have HO2 := Hd (HO1.out.trans O2);clear O2 HO1 HB1 HX lB y0 y1;go_wp2
 go_ret
 exact ⟨by rw [← HE.out]; rfl, HO2.out⟩
theorem one_bools (l : List Bool) : ∀ u ∈ l.map Value.bool, u.oneCell' = true := by
 intro u hu;obtain ⟨b, -, rfl⟩ := List.mem_map.1 hu
 rfl
theorem one_vals (l : List V2) : ∀ u ∈ edgeC l, u.oneCell' = true := by
 intro u hu;obtain ⟨x, -, hx⟩ := List.mem_flatMap.1 hu;simp at hx;rcases hx with rfl | rfl <;> rfl
theorem vclone_any (A : Option Addr) (m c B : Nat) (xs : List V2) (w : World) (hg : Row w B A (edgeC xs)) (hm : xs.length = m) (hM : m ≤ 100000) (hc : A = none → m = 0 ∧ c = 0) :
  Calls Tryz.prog 90 #[.slice A m c] w fun e w' => ∃ V, (e = .returned V ∧ w'.ownsRow w.heap.size 38 2 V m (edgeC xs)) ∧ Only [] w w' := by
 obtain ⟨i0, hi, hz0, hz1, hz2⟩ := info_parts info_val;have hnil := fun (w : World) (a : Option Addr) (n c : Nat) => Go.Lib.run_eql_slice_nil (P := Tryz.prog) w _ _ a n c 0 0 Tryz.underlying33;have HG := Hd hg;have HM := Hd hm;clear hg hm
 cases A with
 | none =>
  obtain ⟨rfl, rfl⟩ := hc rfl;have hx : xs = [] := List.eq_nil_of_length_eq_zero HM.out;subst hx;go_enter Tryz.func90, Tryz.ntmps90;go_wp2
  go_ret
  exact ⟨⟨_, rfl, World.ownsRow_nil _ _ _ _⟩, Only.refl [] w⟩
 | some a =>
  clear hc;go_enter Tryz.func90, Tryz.ntmps90;go_wp2_with (at_builtin; refine wpList_append_row _ rfl (.tmp 5) (.tmp 6) 33 rfl w.heap.size 38 i0 _ 2 16 Tryz.underlying33 hi hz0 hz1 hz2 rfl (by omega) (.slice (some ⟨w.heap.size, 0, none⟩) 0 0) 0 [] rfl (World.ownsRow_lit w (e := 38) (size := 2) #[] 0 (Nat.le_refl _) (by unfold maxLen; omega) rfl) _ (some a) m c (edgeC xs) rfl (by rw [edgeC_len, HM.out]) (HG.out.only ((Only.refl [] w).alloc (.cells #[] 38)) (by simp)) (one_vals xs) (by unfold maxLen; omega) (by omega) (by simp) ?_; intro V9 w9 hown hgrow hat)
  have HV := Hd hown;have HO := Hd (((Only.refl [] w).alloc (.cells #[] 38)).step (only_grown hgrow) (fun i hi hl => by have h2 : i = w.heap.size := (by simp [Value.ownBlock] at hi; exact hi); omega));rw [Nat.zero_add, List.nil_append] at HV;clear hown hgrow hat;go_wp2
  go_ret
  exact ⟨_, ⟨rfl, HV.out⟩, HO.out⟩
theorem bclone_any (A : Option Addr) (m c B : Nat) (xs : List Bool) (w : World) (hg : Row w B A (xs.map Value.bool)) (hm : xs.length = m) (hM : m ≤ 100000) (hc : A = none → m = 0 ∧ c = 0) :
  Calls Tryz.prog 66 #[.slice A m c] w fun e w' => ∃ V, (e = .returned V ∧ w'.ownsRow w.heap.size 4 1 V m (xs.map Value.bool)) ∧ Only [] w w' := by
 obtain ⟨i0, hi, hz0, hz1, hz2⟩ := info_parts info_bl;have hnil := fun (w : World) (a : Option Addr) (n c : Nat) => Go.Lib.run_eql_slice_nil (P := Tryz.prog) w _ _ a n c 0 0 Tryz.underlying49;have HG := Hd hg;have HM := Hd hm;clear hg hm
 cases A with
 | none =>
  obtain ⟨rfl, rfl⟩ := hc rfl;have hx : xs = [] := List.eq_nil_of_length_eq_zero HM.out;subst hx;go_enter Tryz.func66, Tryz.ntmps66;go_wp2
  go_ret
  exact ⟨⟨_, rfl, World.ownsRow_nil _ _ _ _⟩, Only.refl [] w⟩
 | some a =>
  clear hc;go_enter Tryz.func66, Tryz.ntmps66;go_wp2_with (at_builtin; refine wpList_append_row _ rfl (.tmp 5) (.tmp 6) 49 rfl w.heap.size 4 i0 _ 1 1 Tryz.underlying49 hi hz0 hz1 hz2 rfl (by omega) (.slice (some ⟨w.heap.size, 0, none⟩) 0 0) 0 [] rfl (World.ownsRow_lit w (e := 4) (size := 1) #[] 0 (Nat.le_refl _) (by unfold maxLen; omega) rfl) _ (some a) m c (xs.map Value.bool) rfl (by rw [List.length_map, HM.out, Nat.mul_one]) (HG.out.only ((Only.refl [] w).alloc (.cells #[] 4)) (by simp)) (one_bools xs) (by unfold maxLen; omega) (by omega) (by simp) ?_; intro V9 w9 hown hgrow hat)
  have HV := Hd hown;have HO := Hd (((Only.refl [] w).alloc (.cells #[] 4)).step (only_grown hgrow) (fun i hi hl => by have h2 : i = w.heap.size := (by simp [Value.ownBlock] at hi; exact hi); omega));rw [Nat.zero_add, List.nil_append] at HV;clear hown hgrow hat;go_wp2
  go_ret
  exact ⟨_, ⟨rfl, HV.out⟩, HO.out⟩
theorem bindex_any (A : Option Addr) (m c B : Nat) (vs : List Bool) (v : Bool) (w : World) (hg : Row w B A (vs.map Value.bool)) (hm : vs.length = m) (hM : m ≤ 100000) :
  Calls Tryz.prog 92 #[.slice A m c, .bool v] w fun e w' => e = .returned (.int .i64 (idxE vs v)) ∧ Only [] w w' := by
 have HG := Hd hg;have HM := Hd hm;clear hg hm;go_enter Tryz.func92, Tryz.ntmps92;go_wp2_with fail
 go_loopw [8] (fun iv wr => ∃ k : Nat, iv = .int .i64 (k : Int) ∧ k ≤ m ∧ Hid (∀ j, j < k → ∀ y, vs[j]? = some y → y ≠ v) ∧ Hid (Only [] w wr)) (fun iv _ => m - (intOf iv).toNat)
 case atStart => exact ⟨0, rfl, by omega, Hd (fun j hj => by omega), Hd (Only.refl [] w)⟩
 case round =>
  obtain ⟨k, rfl, hk, hn, hO⟩ := hrel
  by_cases hlt : k < m
  ·obtain ⟨u, hu⟩ : ∃ u, vs[k]? = some u := ⟨_, List.getElem?_eq_getElem (by rw [HM.out]; exact hlt)⟩;obtain ⟨b, off, rfl, hbB, hbw, hc⟩ := (HG.out.only hO.out (by simp)).open_ (k := k) (by rw [List.length_map, HM.out]; omega);have c0 := hc k _ (by rw [List.getElem?_map, hu]; rfl);have h01 : (k : Int) < (m : Int) := by omega
   have hk0 : (0 : Int) ≤ (k : Int) := Int.natCast_nonneg _;have hwk : IntKind.i64.wrap ((k : Int) + 1) = (k : Int) + 1 := IntWalk.i64_in _ (by omega)
   by_cases he : v = u
   ·subst he;have HE := Hd (idxE_at hu hn.out);have hb0 : (v == v) = true := by simp
    clear hc hu;go_wp2
    go_ret
    exact ⟨by rw [HE.out]; rfl, hO.out⟩
   ·have HN : Hid (∀ j, j < k + 1 → ∀ y, vs[j]? = some y → y ≠ v) := Hd (fun j hj y hy => by
     by_cases e : j = k
     ·subst e;rw [hu] at hy
      cases hy
      exact fun h => he h.symm
     ·exact hn.out j (by omega) y hy)
    have hb0 : (v == u) = false := by simpa using he
    clear hc hu he hn;go_wp2
    go_roundw
    case rel => exact ⟨k + 1, by go_num, by omega, HN, hO⟩
    case measure => simp [intOf]; omega
  ·have hkm : k = m := by omega
   subst hkm;have hd2 : decide ((k : Int) < (k : Int)) = false := by simp
   have HE := Hd (idxE_none (fun j hj => hn.out j (by rw [← HM.out]; exact hj)));go_wp2
   go_ret
   exact ⟨by rw [HE.out]; rfl, hO.out⟩
theorem kown_any (A : Option Addr) (m c B j : Nat) (ops : List Op4) (o : Op4) (w : World) (hg : Row w B A (opC ops)) (hm : ops.length = m) (hM : m ≤ 1000) (hmc : m ≤ c) (hc : c ≤ maxLen) (hj : ops[j]? = some o) :
  Calls Tryz.prog 93 #[.slice A m c, .int .i64 (j : Int)] w fun e w' => e = .returned (optT (leftW o.key (ops.take j))) ∧ Only [] w w' := by
 have hjl := (List.getElem?_eq_some_iff.1 hj).1;have HL := Hd (fun (A' : Option Addr) w' (O : Only [] w w') (hA : A' = A) => left_any A' j c B (ops.take j) o.key w' (by rw [hA, opC_take]; exact (hg.only O (fun _ h => by cases h)).take _) (by rw [List.length_take]; omega) (by omega));obtain ⟨b, off, rfl, hb, hbw, hP⟩ := row_op hg hj;have p1 := hP.c1;have hj0 : (0 : Int) ≤ (j : Int) := Int.natCast_nonneg _;have hjm : (j : Int) < (m : Int) := by omega
 have hjc : (j : Int) ≤ (c : Int) := by omega
 clear hg hP hj;generalize leftW o.key (ops.take j) = v at *;generalize o.key = ok at *;have HB := Hd (Blk.made w 38 #[.int .i64 0, .int .i64 0]);have HO := Hd ((Only.refl [] w).alloc (.cells #[.int .i64 0, .int .i64 0] 38));go_enter Tryz.func93, Tryz.ntmps93;go_wp2_with fail
 generalize (w.alloc (.cells #[.int .i64 0, .int .i64 0] 38)) = w1 at *;generalize hgr : w.heap.size = gr at *;have hsz := HO.out.size;have p1' := (HO.out.cell (p := ⟨b, off + j * 4 + 1, none⟩) (hgr ▸ hbw) (by simp)).trans p1;have hbw1 : b < w1.heap.size := by omega
 have HP1 := Hd p1';clear p1 p1';refine wp_region_noPanic ?_;refine wp_region_timed (F := [⟨[], [], fun w' => Only [gr] w1 w'⟩]) (by kernel_rfl) (th1 ((Only.refl [gr] w1).drew)) ?_;refine tp (i := 0) ?_;(try simp only [tdz]);refine tp (i := 1) ?_;(try simp only [tdz]);refine tp (i := 2) ?_;(try simp only [tdz]);refine tp (i := 3) ?_;(try simp only [tdz]);refine tp (i := 4) ?_;(try simp only [tdz]);refine tp (i := 5) ?_;(try simp only [tdz]);refine tp (i := 6) ?_;(try simp only [tdz]);refine trd (i := 7) (v := ?_) 0 ?_ ?_;rotate_left
 ·(intro wq hSw; have p1 := (hSw.cell (p := ⟨b, off + j * 4 + 1, none⟩) hbw1 (by simp; omega)).trans HP1.out; clear hSw; go_simp; try with_reducible rfl)
 (try simp only [tdz]);refine tst (i := 8) fun K hK => ?_;go_simp;refine (HL.out _ _ (HO.out.trans (Only.refl [] w1).drew) rfl).mono ?_;rintro e w2 ⟨rfl, O2⟩;unfold optT optV;have HB2 := Hd (O2.blk (HB.out.drew) (by simp));have O2 := O2.wide (T := [gr]) (fun i hi => by cases hi);refine hK.out _ _ (th1 (((Only.refl [gr] w1).drew).trans O2)) ?_;clear hK K;(try simp only [tdz]);refine tp (i := 9) ?_;(try simp only [tdz]);refine tp (i := 10) ?_;(try simp only [tdz]);refine tst (i := 11) fun K hK => ?_;refine wp_store_blk 38 (.tmp 4) (.tmp 15) rfl gr 38 _ #[.int .i64 (v.getD (0, 0)).1, .int .i64 (v.getD (0, 0)).2] rfl rfl HB2.out rfl (by kernel_rfl) (by kernel_rfl) ?_;intro w3 hb3 o3;have HB3 := Hd hb3;refine hK.out _ _ (th1 ((((Only.refl [gr] w1).drew).trans O2).trans o3)) ?_;clear hK K;(try simp only [tdz]);refine tp (i := 12) ?_;(try simp only [tdz]);refine timed_done (by kernel_rfl) ?_ _;refine NoPanic.normal ?_;have HNW := Hd ( ((((Only.refl [gr] w1).drew).trans O2).trans o3));go_wp2
 refine bodyPost_ret (results_row2 Tryz.results93 _ _ gr 38 #[.int .i64 (v.getD (0, 0)).1, .int .i64 (v.getD (0, 0)).2] _ rfl HB3.out Tryz.underlying38 rfl (by kernel_rfl)) rfl ?_;exact ⟨rfl, HO.out.step HNW.out (fun i hi hl => by simp at hi; omega)⟩
def firstX (t : Tx) (j : Nat) (o : Op4) (b : Bool) : V2 := if b = true then (leftW o.key (t.ops.take j)).getD (0, 0) else (0, 0)
theorem kfirst_any (A0 A1 A2 : Option Addr) (n0 n1 n2 c0 c1 c2 B : Nat) (h : Hst) (i j : Nat) (t : Tx) (o : Op4) (b : Bool) (w : World) (hg : HIn w B A0 A1 A2 n0 n1 n2 h) (hx : h.l[i]? = some t) (ho : t.ops[j]? = some o) :
  Calls Tryz.prog 88 #[hval A0 A1 A2 n0 n1 n2 c0 c1 c2, .agg #[.int .i64 (i : Int), .int .i64 (j : Int)], .bool b] w fun e w' => e = .returned (agV (firstX t j o b)) ∧ Only [] w w' := by
 have hn2 : n2 ≤ 1000 := by have := hg.sm.nl; rw [hg.n2] at this; exact this
 have hno := hg.sm.no t (List.mem_of_getElem? hx);obtain ⟨bl, off, A', cp, rfl, -, hbw, hT, hOk⟩ := hg.at_.r2.at_ hx;have hi2 : i < n2 := by rw [← hg.n2]; exact (List.getElem?_eq_some_iff.1 hx).1
 have hjm := (List.getElem?_eq_some_iff.1 ho).1;have HKO := Hd (fun w' (O : Only [] w w') => kown_any A' _ cp B j t.ops o w' (hOk.row.only O (by simp)) rfl hno hOk.le hOk.cap ho);have HTC := Hd hT.c2;dsimp only at HTC;unfold firstX;generalize t.ops.length = m at *;generalize leftW o.key (t.ops.take j) = v at *;have hi0 : (0 : Int) ≤ (i : Int) := by omega
 have hj0 : (0 : Int) ≤ (j : Int) := by omega
 have hi2' : (i : Int) < (n2 : Int) := by omega
 unfold hval;clear hg hx ho hOk hT;have HO1 := Hd ((((Only.refl [] w).alloc (.cells #[.slice A0 n0 c0, .slice A1 n1 c1, .slice (some ⟨bl, off, none⟩) n2 c2] 25)).alloc (.cells #[.int .i64 (i : Int), .int .i64 (j : Int)] 27)).alloc (.cells #[.int .i64 0, .int .i64 0] 38));have HB1 := Hd (((Blk.made w 25 #[.slice A0 n0 c0, .slice A1 n1 c1, .slice (some ⟨bl, off, none⟩) n2 c2]).alloc (.cells #[.int .i64 (i : Int), .int .i64 (j : Int)] 27)).alloc (.cells #[.int .i64 0, .int .i64 0] 38));have HP1 := Hd ((Blk.made (w.alloc (.cells #[.slice A0 n0 c0, .slice A1 n1 c1, .slice (some ⟨bl, off, none⟩) n2 c2] 25)) 27 #[.int .i64 (i : Int), .int .i64 (j : Int)]).alloc (.cells #[.int .i64 0, .int .i64 0] 38));have HR1 := Hd (Blk.made ((w.alloc (.cells #[.slice A0 n0 c0, .slice A1 n1 c1, .slice (some ⟨bl, off, none⟩) n2 c2] 25)).alloc (.cells #[.int .i64 (i : Int), .int .i64 (j : Int)] 27)) 38 #[.int .i64 0, .int .i64 0]);simp only [World.size_alloc] at HP1 HR1
 cases b with
 | false =>
  clear HKO HTC;go_enter Tryz.func88, Tryz.ntmps88;go_upto_region 1 with (fail)
  generalize (((w.alloc (.cells #[.slice A0 n0 c0, .slice A1 n1 c1, .slice (some ⟨bl, off, none⟩) n2 c2] 25)).alloc (.cells #[.int .i64 (i : Int), .int .i64 (j : Int)] 27)).alloc (.cells #[.int .i64 0, .int .i64 0] 38)) = w1 at *;generalize hgr : w.heap.size + 1 + 1 = gr at *;go_wp2_with (refine wpList_store_blk rfl 38 (.tmp 6) (.tmp 11) rfl gr 38 _ #[.int .i64 0, .int .i64 0] rfl rfl HR1.out rfl (by kernel_rfl) (by kernel_rfl) ?_; intro w9 b9 o9; have HB9 := Hd b9; have HN9 := Hd o9; clear b9 o9)
  refine bodyPost_ret (results_row1 Tryz.results88 _ _ gr 38 #[.int .i64 0, .int .i64 0] _ rfl HB9.out Tryz.underlying38 rfl (by kernel_rfl)) rfl ?_;exact ⟨rfl, HO1.out.step HN9.out (fun i hi hl => by simp at hi; omega)⟩
 | true =>
  go_enter Tryz.func88, Tryz.ntmps88;go_upto_region 1 with (fail)
  generalize (((w.alloc (.cells #[.slice A0 n0 c0, .slice A1 n1 c1, .slice (some ⟨bl, off, none⟩) n2 c2] 25)).alloc (.cells #[.int .i64 (i : Int), .int .i64 (j : Int)] 27)).alloc (.cells #[.int .i64 0, .int .i64 0] 38)) = w1 at *;generalize hgr : w.heap.size + 1 + 1 = gr at *;generalize hgp : w.heap.size + 1 = gp at *;generalize hgg : w.heap.size = g at *;have hbr : bl < w1.heap.size := by have := HO1.out.size; omega
  have HTC1 := Hd ((HO1.out.cell (p := ⟨bl, off + i * 3 + 2, none⟩) (by show bl < _; omega) (by simp)).trans HTC.out);go_upto_region 3 with (fail)
  have RD0 := Hd fun wq (hSw : Only [] w1 wq) => And.intro (Bk3 (hSw.blk HB1.out (by simp))) (And.intro (Bk2 (hSw.blk HP1.out (by simp))) ((hSw.cell (p := ⟨bl, off + i * 3 + 2, none⟩) hbr (by simp)).trans HTC1.out));refine wp_region_noPanic ?_;refine wp_region_timed (F := [⟨[], [], fun w' => Only [] w1 w'⟩]) (by kernel_rfl) (th1 ((Only.refl [] w1).drew)) ?_;have OW : Only [] w1 w1.drew := (Only.refl [] w1).drew;generalize hwz : w1.drew = wz at *;clear hwz;refine tp (i := 0) ?_;(try simp only [tdz]);refine trd (i := 1) (v := ?_) 0 ?_ ?_;rotate_left
  ·(intro wq q; obtain ⟨⟨lb_H, y0, y1, y2⟩, ⟨lb_P, p0, p1⟩, t2⟩ := RD0.out wq q; simp at y0 y1 y2; simp at p0 p1; clear q; go_simp; try with_reducible rfl)
  (try simp only [tdz]);refine tp (i := 2) ?_;(try simp only [tdz]);refine trd (i := 3) (v := ?_) 0 ?_ ?_;rotate_left
  ·(intro wq q; obtain ⟨⟨lb_H, y0, y1, y2⟩, ⟨lb_P, p0, p1⟩, t2⟩ := RD0.out wq q; simp at y0 y1 y2; simp at p0 p1; clear q; go_simp; try with_reducible rfl)
  (try simp only [tdz]);refine tp (i := 4) ?_;(try simp only [tdz]);refine tp (i := 5) ?_;(try simp only [tdz]);refine trd (i := 6) (v := ?_) 0 ?_ ?_;rotate_left
  ·(intro wq q; obtain ⟨⟨lb_H, y0, y1, y2⟩, ⟨lb_P, p0, p1⟩, t2⟩ := RD0.out wq q; simp at y0 y1 y2; simp at p0 p1; clear q; go_simp; try with_reducible rfl)
  (try simp only [tdz]);refine tp (i := 7) ?_;(try simp only [tdz]);refine trd (i := 8) (v := ?_) 0 ?_ ?_;rotate_left
  ·(intro wq q; obtain ⟨⟨lb_H, y0, y1, y2⟩, ⟨lb_P, p0, p1⟩, t2⟩ := RD0.out wq q; simp at y0 y1 y2; simp at p0 p1; clear q; go_simp; try with_reducible rfl)
  try simp only [tdz]
  apply cut_1_0 (fun w gv => (Only [] w1 w) ∧ (True) ∧ (Blk w gv 38 #[.int .i64 0, .int .i64 0]) ∧ (w1.heap.size ≤ gv))
  intro HST9_13
  apply cut_1_0 (fun w gv => (Only [] w1 w) ∧ (True) ∧ (Blk w gv 38 #[.int .i64 0, .int .i64 0]) ∧ (w1.heap.size ≤ gv))
  intro HST13
  apply cut_0_0 (fun w  => (Only [] w1 w) ∧ (True))
  intro HST9
  ·skip;refine timed_forks (l := [9, 13]) (by kernel_rfl) (by simp) (fork_cons ⟨_, rfl, fun K hK => ?_⟩ (fork_cons ⟨_, rfl, fun K hK => ?_⟩ (fork_nil)))
   ·go_simp;refine (HKO.out _ (HO1.out.trans OW)).mono ?_;rintro e w3 ⟨rfl, O3⟩;unfold optT optV;have OW1 := OW.trans O3;have OS := O3;refine hK.out _ _ (th1 (OW1)) ?_;clear hK K;(try simp only [tdz]);refine tp (i := 10) ?_;(try simp only [tdz]);refine tp (i := 11) ?_;(try simp only [tdz]);refine tp (i := 12) ?_;(try simp only [tdz]);exact HST9 w3  ⟨OW1, trivial⟩
   ·go_simp;have OW1 := OW.alloc (.cells #[.int .i64 0, .int .i64 0] 38);have OS : Only [] wz (wz.alloc (.cells #[.int .i64 0, .int .i64 0] 38)) := (Only.refl [] wz).alloc (.cells #[.int .i64 0, .int .i64 0] 38);have BV := Blk.made wz 38 #[.int .i64 0, .int .i64 0];have HGV : w1.heap.size ≤ wz.heap.size := OW.size;generalize wz.alloc (.cells #[.int .i64 0, .int .i64 0] 38) = w1 at *;generalize wz.heap.size = gv at *;refine hK.out _ _ (th1 (OW1)) ?_;clear hK K;(try simp only [tdz]);exact HST13 w1 gv ⟨OW1, trivial, BV, HGV⟩
  ·skip;intro wz  ⟨OW, HTT⟩;refine tst (i := 13) fun K hK => ?_;go_simp;have OW1 := OW.alloc (.cells #[.int .i64 0, .int .i64 0] 38);have OS : Only [] wz (wz.alloc (.cells #[.int .i64 0, .int .i64 0] 38)) := (Only.refl [] wz).alloc (.cells #[.int .i64 0, .int .i64 0] 38);have BV := Blk.made wz 38 #[.int .i64 0, .int .i64 0];have HGV : w1.heap.size ≤ wz.heap.size := OW.size;generalize wz.alloc (.cells #[.int .i64 0, .int .i64 0] 38) = w1 at *;generalize wz.heap.size = gv at *;refine hK.out _ _ (th1 (OW1)) ?_;clear hK K;(try simp only [tdz]);exact HST9_13 w1 gv ⟨OW1, trivial, BV, HGV⟩
  ·skip;intro wz gv ⟨OW, HTT, BV, HGV⟩;refine tst (i := 9) fun K hK => ?_;go_simp;refine (HKO.out _ (HO1.out.trans OW)).mono ?_;rintro e w3 ⟨rfl, O3⟩;unfold optT optV;have OW1 := OW.trans O3;have OS := O3;have BV1 := OS.blk BV (by simp);refine hK.out _ _ (th1 (OW1)) ?_;clear hK K;(try simp only [tdz]);refine tp (i := 10) ?_;(try simp only [tdz]);refine tp (i := 11) ?_;(try simp only [tdz]);refine tp (i := 12) ?_;(try simp only [tdz]);exact HST9_13 w3 gv ⟨OW1, trivial, BV1, HGV⟩
  -- behind all of the crowd
  intro wz gv ⟨OW, HTT, BV, HGV⟩;refine tst (i := 14) fun K hK => ?_;refine wp_store_blk 38 (.tmp 7) (.tmp 23) rfl gv 38 _ #[.int .i64 (v.getD (0, 0)).1, .int .i64 (v.getD (0, 0)).2] rfl rfl BV rfl (by kernel_rfl) (by kernel_rfl) ?_;intro w9 b9 o9;have HV9b := Hd b9;have OW9 := OW.step o9 (fun i hi hl => by simp at hi; omega);clear o9 b9;refine hK.out _ _ (th1 (OW9)) ?_;clear hK K;(try simp only [tdz]);refine tp (i := 15) ?_;(try simp only [tdz]);refine timed_done (by kernel_rfl) ?_ _;refine NoPanic.normal ?_;have HW9 := Hd OW9;have HO9 := Hd (HO1.out.trans HW9.out);have HR9 := Hd (HW9.out.blk HR1.out (by simp));have lV := HV9b.out.lt;have u0 := HV9b.out.at_ 0;have u1 := HV9b.out.at_ 1;simp at u0 u1;clear HB1 HP1 HR1 HKO HTC HTC1 HO1 HW9;generalize hxv : v.getD (0, 0) = x at *;have HXV := Hd hxv;clear hxv;obtain ⟨x1, x2⟩ := x;dsimp only at *;go_wp2_with (refine wpList_store_blk rfl 38 (.tmp 6) (.tmp 25) rfl gr 38 _ #[.int .i64 x1, .int .i64 x2] rfl rfl HR9.out rfl (by kernel_rfl) (by kernel_rfl) ?_; intro w10 b10 o10; have HB10 := Hd b10; have HN10 := Hd o10; clear b10 o10)
  refine bodyPost_ret (results_row1 Tryz.results88 _ _ gr 38 #[.int .i64 x1, .int .i64 x2] _ rfl HB10.out Tryz.underlying38 rfl (by kernel_rfl)) rfl ?_;exact ⟨by show _ = Ending.returned (agV (v.getD (0, 0))); rw [HXV.out]; rfl, HO9.out.step HN10.out (fun i hi hl => by simp at hi; omega)⟩
end Go.Proofs.YtjfbeeogiejopaaGreatDoor
