/- Parts. -/
import Derived.Test.YtoojabllolnhnaaDoorLaw22AllK37
import Derived.Test.YtoojabllolnhnaaDoorLaw22AllK25
set_option maxRecDepth 10000
set_option maxHeartbeats 16000000
set_option linter.unusedVariables false
set_option linter.unusedSimpArgs false
namespace Go.Proofs.YtoojabllolnhnaaDoor
open Go.RowKit
attribute [local go_sem ↓] Go.wp_at_zero Go.wp_at_succ
def extTo (n : Nat) (l : List (Int × Int)) (k : Nat) (S : List Int) (a : Nat) : Nat := (((List.range a).filter fun a : Nat => freeB l S (a : Int)).map fun a : Nat => extT n l k (S ++ [(a : Int)])).sum
theorem extTo_succ (n : Nat) (l : List (Int × Int)) (k : Nat) (S : List Int) (a : Nat) : extTo n l k S (a + 1) = extTo n l k S a + if freeB l S (a : Int) = true then extT n l k (S ++ [(a : Int)]) else 0 := by
 unfold extTo;rw [List.range_succ, List.filter_append, List.map_append, List.sum_append]
 congr 1
 cases h : freeB l S (a : Int) <;> simp [h]
theorem markC_drop (n : Nat) (K : List Int) (i : Nat) (h : (i : Int) ∉ K) : (markC n (K ++ [(i : Int)])).setIfInBounds i (.bool false) = markC n K := by
 apply Array.ext_getElem?
 intro j;rw [Array.getElem?_setIfInBounds]
 by_cases hj : j < n
 ·rw [markC_at _ _ _ hj, markC_at _ _ _ hj]
  by_cases hij : i = j
  ·subst hij;rw [if_pos rfl, if_pos (by rw [markC_size]; exact hj), decide_eq_false h]
  ·rw [if_neg hij];have : (j : Int) ∈ K ++ [(i : Int)] ↔ (j : Int) ∈ K := by
    simp;omega
   simp [this]
 ·have h1 : (markC n (K ++ [(i : Int)]))[j]? = none := Array.getElem?_eq_none (by rw [markC_size]; omega);rw [h1, Array.getElem?_eq_none (show (markC n K).size ≤ j by rw [markC_size]; omega)]
  by_cases e : i = j
  ·rw [if_pos e, if_neg (by rw [markC_size]; omega)]
  ·rw [if_neg e]
theorem cap_min2 (a b : Nat) : (if (1000000 : Int) < ((capT a : Nat) : Int) + ((capT b : Nat) : Int) then (1000000 : Int) else ((capT a : Nat) : Int) + ((capT b : Nat) : Int)) = ((capT (a + b) : Nat) : Int) := by
 unfold capT
 split <;> omega
theorem cap_le2 (a : Nat) : capT a ≤ 1000000 := by unfold capT; omega
theorem rcount22_rec (n b : Nat) (A : Option Addr) (m c B : Nat) (l : List (Int × Int)) (hl : l.length = m) (hm : m ≤ 100000) (hn : n ≤ 500) (wf : WfE n l) (hBb : B ≤ b) : ∀ (k : Nat), k ≤ 500 → ∀ (K : List Int) (w : World), Row w B A (edgeC l) → Blk w b 4 (markC n K) →
  Calls Tryd.prog 26 #[.int .i64 (n : Int), .slice (some ⟨b, 0, none⟩) n n, .int .i64 (k : Int), .slice A m c] w fun e w' => (e = .returned (.int .i64 ((capT (extT n l k K) : Nat) : Int)) ∧ Blk w' b 4 (markC n K)) ∧ Only [b] w w'
 | 0, _, K, w, hr, hb => by
  go_enter Tryd.func26, Tryd.ntmps26;go_wp2
  go_ret
  exact ⟨⟨rfl, hb⟩, Only.refl _ _⟩
 | k + 1, hk, K, w, hr, hb => by
  have IH := Hd (rcount22_rec n b A m c B l hl hm hn wf hBb k (by omega));have HR := Hd hr;have HB := Hd hb;have HL := Hd hl;have HWF := Hd wf;have HEX : Hid (extT n l (k + 1) K = extTo n l k K n) := Hd rfl;obtain ⟨R, hR⟩ : ∃ R, R = extT n l (k + 1) K := ⟨_, rfl⟩;rw [← hR] at HEX ⊢;have hk1 : (((k + 1 : Nat) : Int) == 0) = false := by simp; omega
  have hkw : IntKind.i64.wrap (((k + 1 : Nat) : Int) - 1) = (k : Int) := by rw [IntWalk.i64_in _ (by omega)]; omega
  obtain ⟨k1, hk1'⟩ : ∃ k1, k1 = k + 1 := ⟨_, rfl⟩;rw [← hk1'] at hk1 hkw ⊢;have hk2 : (k1 == 0) = false := by simp; omega
  have hk3 : decide (k1 = 0) = false := decide_eq_false (by omega);clear hr hb hl wf hR hk1';go_enter Tryd.func26, Tryd.ntmps26;go_wp2_with fail
  go_loopw [9, 10] (fun ov av wr => ∃ a : Nat, ov = .int .i64 ((capT (extTo n l k K a) : Nat) : Int) ∧ av = .int .i64 (a : Int) ∧ a ≤ n ∧ Hid (Blk wr b 4 (markC n K)) ∧ Hid (Only [b] w wr)) (fun _ av _ => n - (intOf av).toNat)
  case atStart => exact ⟨0, rfl, rfl, by omega, HB, Hd (Only.refl _ _)⟩
  case round =>
   obtain ⟨a, rfl, rfl, ha, hB, hO⟩ := hrel
   by_cases hlt : a < n
   ·have hR1 := HR.out.only hO.out (by simp; omega);have HF := Hd (rfree_any n a b A m c B l K wr hR1 HL.out hm HWF.out hlt hB.out);have HS := Hd (extTo_succ n l k K a);have h01 : (a : Int) < (n : Int) := by omega
    have ha0 : (0 : Int) ≤ (a : Int) := Int.natCast_nonneg _;have hwa : IntKind.i64.wrap ((a : Int) + 1) = (a : Int) + 1 := IntWalk.i64_in _ (by omega);have HR1 := Hd hR1;clear hR1
    cases hf : freeB l K (a : Int) with
    | false =>
     rw [hf] at HF HS;simp only [Bool.false_eq_true, if_false, Nat.add_zero] at HS;clear hf;obtain ⟨x, hx⟩ : ∃ x, x = extTo n l k K a := ⟨_, rfl⟩;rw [← hx] at HS ⊢;clear hx;go_wp2_with fail
     refine (HF.out).mono ?_;rintro e w6 ⟨rfl, rfl⟩;go_wp2
     go_roundw
     case rel => exact ⟨a + 1, by rw [HS.out], by go_num, by omega, hB, hO⟩
     case measure => simp [intOf]; omega
    | true =>
     have hK := (free_iff.1 hf).1;rw [hf] at HF HS;rw [if_pos rfl] at HS;clear hf;obtain ⟨x, hx⟩ : ∃ x, x = extTo n l k K a := ⟨_, rfl⟩;rw [← hx] at HS ⊢;obtain ⟨y, hy⟩ : ∃ y, y = extT n l k (K ++ [(a : Int)]) := ⟨_, rfl⟩;rw [← hy] at HS;have HY := Hd hy;have hmin := cap_min2 x y;have hxl := cap_le2 x;have hyl := cap_le2 y;obtain ⟨z, hz⟩ : ∃ z, z = capT (x + y) := ⟨_, rfl⟩;rw [← hz] at hmin;have HZ := Hd hz;generalize capT x = cx at *;obtain ⟨cy, hcy⟩ : ∃ cy, cy = capT y := ⟨_, rfl⟩;rw [← hcy] at hmin hyl;have HCY := Hd hcy;have hwz : IntKind.i64.wrap ((cx : Int) + (cy : Int)) = (cx : Int) + (cy : Int) := IntWalk.i64_in _ (by omega);have HNK := Hd hK;have k0 := (hB.out.at_ a).trans (markC_at n K a hlt);have f0 := hB.out.free a;have lb := hB.out.lt;clear hx hy hz hcy hK;go_wp2_with fail
     refine (HF.out).mono ?_;rintro e w6 ⟨rfl, rfl⟩;go_upto_region 9 with (fail)
     have HB8 : Hid (Blk (wr.setCell ⟨b, a, none⟩ (.bool true)) b 4 (markC n (K ++ [(a : Int)]))) := Hd (by rw [markC_snoc n K a hlt]; exact hB.out.put _ _);have O8 : Only [b] wr (wr.setCell ⟨b, a, none⟩ (.bool true)) := (Only.refl [b] wr).put (p := ⟨b, a, none⟩) (fun _ => by simp) _;have HO8 := Hd (hO.out.trans O8);have HR8 := Hd (HR1.out.only O8 (by simp; omega));clear k0 f0 lb hB hO O8 HF;generalize (wr.setCell ⟨b, a, none⟩ (.bool true)) = w8 at *;have HI8 := Hd (IH.out (K ++ [(a : Int)]) w8 HR8.out HB8.out);rw [← HY.out, ← HCY.out] at HI8;go_wp2_with fail
     refine (HI8.out).mono ?_;rintro e w9 ⟨⟨rfl, hb9⟩, O9⟩;have k0 := (hb9.at_ a).trans (markC_at n _ a hlt);have f0 := hb9.free a;have lb := hb9.lt;have HB9 := Hd hb9;have HO9 := Hd (HO8.out.trans O9);clear hb9 O9 HI8 HB8 HO8 HR8;go_wp2
     have HBZ : Hid (Blk (w9.setCell ⟨b, a, none⟩ (.bool false)) b 4 (markC n K)) := Hd (by rw [← markC_drop n K a HNK.out]; exact HB9.out.put _ _);have HOZ : Hid (Only [b] w (w9.setCell ⟨b, a, none⟩ (.bool false))) := Hd (HO9.out.put (p := ⟨b, a, none⟩) (fun _ => by simp) _);go_roundw
     case rel => exact ⟨a + 1, by rw [HS.out, ← HZ.out], by go_num, by omega, HBZ, HOZ⟩
     case measure => simp [intOf]; omega
   ·have han : a = n := by omega
    subst han;have hd2 : decide ((a : Int) < (a : Int)) = false := by simp
    go_wp2
    go_ret
    exact ⟨⟨by rw [HEX.out]; rfl, hB.out⟩, hO.out⟩
theorem rcount22_any (n : Nat) (A : Option Addr) (m c : Nat) (l : List (Int × Int)) (w : World) (hr : Row w w.heap.size A (edgeC l)) (hl : l.length = m) (hm : m ≤ 100000) (hn : n ≤ 500) (wf : WfE n l) :
  Calls Tryd.prog 18 #[.int .i64 (n : Int), .slice A m c] w fun e w' => e = .returned (.int .i64 ((capT (extT n l n []) : Nat) : Int)) ∧ Only [] w w' := by
 have hmk := fun W => make_marks n hn W;have O1 : Only [] w (w.alloc (.cells (markC n []) 4)) := (Only.refl [] w).alloc _;have HC := Hd (rcount22_rec n w.heap.size A m c w.heap.size l hl hm hn wf (Nat.le_refl _) n hn [] _ (hr.only O1 (by simp)) (Blk.made w 4 (markC n [])));have HO := Hd O1;clear hr hl wf O1;go_enter Tryd.func18, Tryd.ntmps18;go_wp2_with fail
 refine (HC.out).mono ?_;rintro e w2 ⟨⟨rfl, -⟩, O2⟩;have HO2 := Hd (HO.out.step O2 (fun i hi hl => by simp at hi; omega));clear O2 HC;go_wp2
 go_ret
 exact ⟨rfl, HO2.out⟩
end Go.Proofs.YtoojabllolnhnaaDoor
