/- Parts. -/
import Derived.Test.YtlnlppabeddclaaDoorLaw23AllK23
set_option maxRecDepth 10000
set_option maxHeartbeats 16000000
set_option linter.unusedVariables false
set_option linter.unusedSimpArgs false
namespace Go.Proofs.YtlnlppabeddclaaDoor
open Go.RowKit
attribute [local go_sem ↓] Go.wp_at_zero Go.wp_at_succ
theorem quiet_rng {P : Program} {f : FuncId} {args : Array Value} {w : World} {n : Nat} {v : Value}
  (h : Calls P f args (w.drewN n) fun e w' => e = .returned v ∧ w.drewN n = w') : Calls P f args (w.drewN n) fun e w'' => e = .returned v ∧ ∃ m, w'' = w.drewN m :=
 h.mono fun _ _ ⟨he, hm⟩ => ⟨he, n, hm.symm⟩
structure Asked (w : World) (a n x p1 p2 p3 b : Nat) (D : Nat → Int) (left : Int) : Prop where
 c1 : w.cell? ⟨p1, 0, none⟩ = some (.func (.func 22) #[] #[.pointer (some ⟨x, 0, none⟩)])
 c2 : w.cell? ⟨p2, 0, none⟩ = some (.slice (some ⟨b, 0, none⟩) n n)
 c3 : w.cell? ⟨p3, 0, none⟩ = some (.int .i64 left)
 cx : w.cell? ⟨x, 0, none⟩ = some (.int .i64 (a : Int))
 blk : Blk w b 3 (intsF n D)
 l1 : p1 < w.heap.size
 l2 : p2 < w.heap.size
 l3 : p3 < w.heap.size
 lx : x < w.heap.size
theorem Asked.same {w w' : World} {a n x p1 p2 p3 b : Nat} {D : Nat → Int} {left : Int} (h : Asked w a n x p1 p2 p3 b D left) (O : Only [] w w') : Asked w' a n x p1 p2 p3 b D left where
 c1 := (O.cell (p := ⟨p1, 0, none⟩) h.l1 (by simp)).trans h.c1
 c2 := (O.cell (p := ⟨p2, 0, none⟩) h.l2 (by simp)).trans h.c2
 c3 := (O.cell (p := ⟨p3, 0, none⟩) h.l3 (by simp)).trans h.c3
 cx := (O.cell (p := ⟨x, 0, none⟩) h.lx (by simp)).trans h.cx
 blk := O.blk h.blk (by simp)
 l1 := Nat.lt_of_lt_of_le h.l1 O.size
 l2 := Nat.lt_of_lt_of_le h.l2 O.size
 l3 := Nat.lt_of_lt_of_le h.l3 O.size
 lx := Nat.lt_of_lt_of_le h.lx O.size
theorem asks_any (a n x p1 p2 p3 b v : Nat) (D : Nat → Int) (left : Int) (w : World) (h : Asked w a n x p1 p2 p3 b D left) (hv : v < n) :
  Calls Tryd.prog 36 #[.int .i64 (v : Int), .pointer (some ⟨p1, 0, none⟩), .pointer (some ⟨p2, 0, none⟩), .pointer (some ⟨p3, 0, none⟩)] w fun e w' => e = .returned (.bool (decide (a ≤ v) && decide (D v = left))) ∧ ∃ d, w.drewN d = w' := by
 have HC := Hd (fun k => counts_any x a (v : Int) (w.drewN k) h.cx h.lx);have e1 := h.c1;have e2 := h.c2;have e3 := h.c3;have e4 := (h.blk.at_ v).trans (intsF_at D hv);have l1 := h.l1;have l2 := h.l2;have l3 := h.l3;have l4 := h.blk.lt;have hv0 : (0 : Int) ≤ (v : Int) := Int.natCast_nonneg _;have hvn : (v : Int) < (n : Int) := by omega
 clear h
 by_cases hav : a ≤ v
 ·have hd : decide ((a : Int) ≤ (v : Int)) = true := by simp; omega
  rw [decide_eq_true hav, Bool.true_and];rw [hd] at HC;clear hd hav;go_enter Tryd.func36, Tryd.ntmps36;go_wp2_with fail
  go_quiet ((go_at_call 22; exact quiet_rng (HC.out _)))
  go_wp2
  go_ret
  exact ⟨rfl, _, rfl⟩
 ·have hd : decide ((a : Int) ≤ (v : Int)) = false := by simp; omega
  rw [decide_eq_false hav, Bool.false_and];rw [hd] at HC;clear hd hav;go_enter Tryd.func36, Tryd.ntmps36;go_wp2_with fail
  go_quiet ((go_at_call 22; exact quiet_rng (HC.out _)))
  go_wp2
  go_ret
  exact ⟨rfl, _, rfl⟩
theorem rindex_any (a n x p1 p2 p3 b i c : Nat) (D : Nat → Int) (left : Int) (A : Option Addr) (L : List Nat) (w : World) (h : Asked w a n x p1 p2 p3 b D left) (hL : ∀ v ∈ L, v < n) (hl : L.length ≤ 1000) (hr : Row w w.heap.size A (intsQ L))
  (hi : ∀ j v, j < i → L[j]? = some v → (decide (a ≤ v) && decide (D v = left)) = false) (hv : ∃ v, L[i]? = some v ∧ a ≤ v ∧ D v = left) :
  Calls Tryd.prog 35 #[.slice A L.length c, .func (.func 36) #[] #[.pointer (some ⟨p1, 0, none⟩), .pointer (some ⟨p2, 0, none⟩), .pointer (some ⟨p3, 0, none⟩)]] w fun e w' => e = .returned (.int .i64 (i : Int)) ∧ Only [] w w' := by
 obtain ⟨v1, hv1, hv2, hv3⟩ := hv;have hil : i < L.length := (List.getElem?_eq_some_iff.1 hv1).1;have HA := Hd (fun (v : Nat) (W : World) (O : Only [] w W) (hv : v < n) => asks_any a n x p1 p2 p3 b v D left W (h.same O) hv);have HRW := Hd hr;have HI := Hd hi;have HL := Hd hL;have HV := Hd hv1;have HG := Hd (show (decide (a ≤ v1) && decide (D v1 = left)) = true by simp [hv2, hv3]);obtain ⟨m, hm⟩ : ∃ m, m = L.length := ⟨_, rfl⟩;have HM := Hd hm;rw [← hm] at hl hil ⊢;clear h hr hi hL hv1 hv2 hv3 hm;go_enter Tryd.func35, Tryd.ntmps35;go_wp2_with fail
 go_loopw [8] (fun jv wr => ∃ j : Nat, jv = .int .i64 j ∧ j ≤ i ∧ Hid (Only [] w wr)) (fun jv _ => m - (intOf jv).toNat)
 case atStart => exact ⟨0, rfl, by omega, Hd (Only.refl _ _)⟩
 case round =>
  obtain ⟨j, rfl, hj, hO⟩ := hrel;have h01 : (j : Int) < (m : Int) := by omega
  have hj0 : (0 : Int) ≤ (j : Int) := Int.natCast_nonneg _;have hwj : IntKind.i64.wrap ((j : Int) + 1) = (j : Int) + 1 := IntWalk.i64_in _ (by omega);obtain ⟨v, hv⟩ : ∃ v, L[j]? = some v := ⟨_, List.getElem?_eq_getElem (by rw [← HM.out]; omega)⟩;have hRo := HRW.out.only hO.out (by simp);obtain ⟨br, off, rfl, -, hbw, hcell⟩ := hRo.open_ (k := j) (by unfold intsQ; rw [List.length_map, ← HM.out]; omega);have e0 := hcell j (.int .i64 (v : Int)) (by unfold intsQ; rw [List.getElem?_map, hv]; rfl);have HC := Hd (HA.out v wr hO.out (HL.out v (List.mem_of_getElem? hv)))
  by_cases hji : j < i
  ·rw [HI.out j v hji hv] at HC;clear hcell hRo hv;go_wp2_with fail
   refine (HC.out).mono ?_;rintro e w2 ⟨rfl, d, hd⟩;have HO2 : Hid (Only [] w w2) := Hd (by rw [← hd]; exact hO.out.trans ((Only.refl [] wr).drewN d));clear hd HC;go_wp2
   go_roundw
   case rel => first | exact ⟨j + 1, by go_num, by omega, HO2⟩ | exact ⟨_, ⟨j + 1, by go_num, by omega, HO2⟩, rfl⟩
   case measure => simp [intOf]; omega
  ·obtain rfl : j = i := by omega
   obtain rfl : v = v1 := Option.some.inj (hv.symm.trans HV.out);rw [HG.out] at HC;clear hcell hRo hv;go_wp2_with fail
   refine (HC.out).mono ?_;rintro e w2 ⟨rfl, d, hd⟩;have HO2 : Hid (Only [] w w2) := Hd (by rw [← hd]; exact hO.out.trans ((Only.refl [] wr).drewN d));clear hd HC;go_wp2
   go_ret
   exact ⟨rfl, HO2.out⟩
end Go.Proofs.YtlnlppabeddclaaDoor
namespace Go.Proofs.YtlnlppabeddclaaDoor
open Go.RowKit
theorem own_cell {w : World} {base : Nat} {e : TypeId} {size : Nat} {v : Value} {n : Nat} {xs : List Value} {g : Nat} (h : w.ownsRow base e size v n xs) (hg : v.ownBlock = some g) {j : Nat} {u : Value} (hj : xs[j]? = some u) :
  w.cell? ⟨g, j, none⟩ = some u ∧ w.frozen? ⟨g, j, none⟩ = false := by
 obtain ⟨cur, hb⟩ := own_blk h hg;have := h.cells hg j u hj;refine ⟨?_, hb.free j⟩;have e' : (⟨g, 0, none⟩ : Addr).add j = ⟨g, j, none⟩ := by
  unfold Addr.add
  split
  ·rename_i h; subst h; rfl
  ·simp
 rwa [e'] at this
end Go.Proofs.YtlnlppabeddclaaDoor
