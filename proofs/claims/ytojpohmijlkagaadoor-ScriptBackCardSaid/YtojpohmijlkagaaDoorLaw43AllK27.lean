/- Parts. -/
import Derived.Test.YtojpohmijlkagaaDoorLaw43AllK26
set_option maxRecDepth 10000
set_option maxHeartbeats 16000000
set_option linter.unusedVariables false
set_option linter.unusedSimpArgs false
namespace Go.Proofs.YtojpohmijlkagaaDoor
open Go.RowKit
open Go.Lib hiding intOf
attribute [local go_sem ↓] Go.wp_at_zero Go.wp_at_succ
def ex43a : ByteArray := ⟨#[98, 117, 100, 103, 101, 116, 32, 55, 32, 35, 32, 115, 111, 32, 109, 97, 110, 121, 10, 10, 99, 104, 101, 99, 107]⟩
def ex43b : ByteArray := ⟨#[99, 104, 101, 99, 107, 10, 98, 117, 100, 103, 101, 116, 32, 45, 49]⟩
def ex43c : ByteArray := ⟨#[108, 101, 118, 101, 108, 32, 114, 99]⟩
theorem ex43a_is : scrR ex43a = ([⟨1, 3, 7⟩, ⟨3, 4, 0⟩], 0, 0) := by decide +kernel
theorem ex43b_is : scrR ex43b = ([], 2, 2) := by decide +kernel
theorem ex43c_is : scrR ex43c = ([], 1, 5) := by decide +kernel
theorem small_rows {s : ByteArray} (h : s.size ≤ 65535) : ∀ l ∈ linesOf (by_ s), l.length ≤ 65535 := fun l hl => by
 have hb := by_length s;unfold linesOf at hl;have := cutL_mem (by_ s) [] l hl;simp at this;omega
set_option maxRecDepth 100000 in
theorem works43_any (w : World) (hT : UTabs w) (hM : MLen w) (hS : Scrs w) :
  Calls Tryd.prog 11 #[] w fun e w' => e = .returned (.bool true) ∧ Only [] w w' := by
 have HA := Hd (sparse43_any ex43a w (by decide) (small_rows (by decide)) hT hM hS);have HB := Hd (fun w' (O : Only [] w w') => sparse43_any ex43b w' (by decide) (small_rows (by decide)) (hT.only O) (hM.only O) (hS.only O));have HC := Hd (fun w' (O : Only [] w w') => sparse43_any ex43c w' (by decide) (small_rows (by decide)) (hT.only O) (hM.only O) (hS.only O));rw [ex43a_is] at HA;rw [ex43b_is] at HB;rw [ex43c_is] at HC;clear hT hM hS;go_enter Tryd.func11, Tryd.ntmps11;go_wp2_with fail
 refine (HA.out).mono ?_;rintro e w1 ⟨A1, c1, ⟨rfl, own1⟩, O1⟩;obtain ⟨A1', c1', e1, -, -, -, R1⟩ := own_row own1;injection e1 with e1 e2 e3;subst e1 e3;have HO1 := Hd O1;have HR1 := Hd R1;clear own1 O1 e2 R1;go_wp2_with fail
 refine (HB.out _ HO1.out).mono ?_;rintro e w2 ⟨A2, c2, ⟨rfl, -⟩, O2⟩;have HO2 := Hd (HO1.out.trans O2);have HR2 := Hd (HR1.out.only O2 (by simp));clear O2 HO1 HR1;go_wp2_with fail
 refine (HC.out _ HO2.out).mono ?_;rintro e w3 ⟨A3, c3, ⟨rfl, -⟩, O3⟩;have HO3 := Hd (HO2.out.trans O3);have R3 := HR2.out.only O3 (by simp);obtain ⟨b, off, rfl, -, hbw, x0, x1, x2⟩ := row_cmd R3 (k := 0) rfl;obtain ⟨b', off', e1, -, hbw', y0, y1, y2⟩ := row_cmd R3 (k := 1) rfl;injection e1 with e1;injection e1 with e1 e2;subst e1 e2;dsimp only at x0 x1 x2 y0 y1 y2;rw [Nat.zero_mul, Nat.add_zero] at x0 x1 x2;rw [Nat.one_mul] at y0 y1 y2;clear O3 HO2 HR2 R3 HA HB HC;go_wp2
 go_ret
 exact ⟨rfl, HO3.out⟩
def wordR (l : List ByteArray) (n : Int) : ByteArray := if 1 ≤ n ∧ n ≤ l.length then l.getD (n - 1).toNat ⟨#[]⟩ else ⟨#[]⟩
theorem wordR_lvl (n : Int) : wordR lvlL n = lvlT n := rfl
theorem wordR_pol (n : Int) : wordR polL n = polT n := rfl
theorem rword_any (A : Option Addr) (m c B : Nat) (l : List ByteArray) (n : Int) (w : World) (hg : Row w B A (strs l)) (hm : l.length = m) (hM : m ≤ 10) :
  Calls Tryd.prog 50 #[.slice A m c, .int .i64 n] w fun e w' => e = .returned (.string (wordR l n)) ∧ w = w' := by
 by_cases h1 : n < 1
 ·have e0 : wordR l n = ⟨#[]⟩ := by unfold wordR; rw [if_neg (by omega)]
  rw [e0];clear e0 hg hm;have hd : decide (n < 1) = true := by simpa using h1
  go_enter Tryd.func50, Tryd.ntmps50;go_wp2
  go_ret
  exact ⟨rfl, rfl⟩
 by_cases h2 : (m : Int) < n
 ·have e0 : wordR l n = ⟨#[]⟩ := by unfold wordR; rw [if_neg (by omega)]
  rw [e0];clear e0 hg hm;have hd1 : decide (n < 1) = false := by simpa using h1
  have hd : decide ((m : Int) < n) = true := by simpa using h2
  go_enter Tryd.func50, Tryd.ntmps50;go_wp2
  go_ret
  exact ⟨rfl, rfl⟩
 obtain ⟨k, rfl⟩ : ∃ k : Nat, n = (k : Int) + 1 := ⟨(n - 1).toNat, by omega⟩;have hk : k < m := by omega
 obtain ⟨x, hx⟩ : ∃ x, l[k]? = some x := ⟨_, List.getElem?_eq_getElem (by omega)⟩;have e0 : wordR l ((k : Int) + 1) = x := by
  unfold wordR;rw [if_pos (by omega), show ((k : Int) + 1 - 1).toNat = k by omega, List.getD_eq_getElem?_getD, hx]
  rfl
 obtain ⟨b, off, rfl, -, hbw, hcell⟩ := hg.open_ (k := k) (by rw [strs, List.length_map]; omega);have hc := hcell k (.string x) (by rw [strs, List.getElem?_map, hx]; rfl);rw [e0];have hd1 : decide ((k : Int) + 1 < 1) = false := by simp; omega
 have hd : decide ((m : Int) < (k : Int) + 1) = false := by simp; omega
 have hwk : IntKind.i64.wrap ((k : Int) + 1 - 1) = (k : Int) := by rw [IntWalk.i64_in _ (by omega)]; omega
 have h0k : (0 : Int) ≤ (k : Int) := Int.natCast_nonneg _;have hkm : (k : Int) < (m : Int) := by omega
 clear e0 hx hg hm hcell h1 h2;go_enter Tryd.func50, Tryd.ntmps50;go_wp2
 go_ret
 exact ⟨rfl, rfl⟩
theorem rlvl39_any (n : Int) (w : World) : Calls Tryd.prog 30 #[.int .i64 n] w fun e w' => e = .returned (.string (lvlT n)) ∧ Only [] w w' := by
 have HW := Hd (rword_any (some ⟨w.heap.size, 0, none⟩) 3 3 (w.heap.size + 1) lvlL n (w.alloc (.cells #[.string (lvlL.getD 0 ⟨#[]⟩), .string (lvlL.getD 1 ⟨#[]⟩), .string (lvlL.getD 2 ⟨#[]⟩)] 9)) (row_lit w 9 #[.string (lvlL.getD 0 ⟨#[]⟩), .string (lvlL.getD 1 ⟨#[]⟩), .string (lvlL.getD 2 ⟨#[]⟩)]) rfl (by omega));rw [wordR_lvl] at HW;have HO := Hd ((Only.refl [] w).alloc (.cells #[.string (lvlL.getD 0 ⟨#[]⟩), .string (lvlL.getD 1 ⟨#[]⟩), .string (lvlL.getD 2 ⟨#[]⟩)] 9));go_enter Tryd.func30, Tryd.ntmps30;go_wp2_with fail
 refine (HW.out).mono ?_;rintro e w2 ⟨rfl, rfl⟩;go_wp2
 go_ret
 exact ⟨rfl, HO.out⟩
theorem rpol39_any (n : Int) (w : World) : Calls Tryd.prog 31 #[.int .i64 n] w fun e w' => e = .returned (.string (polT n)) ∧ Only [] w w' := by
 have HW := Hd (rword_any (some ⟨w.heap.size, 0, none⟩) 2 2 (w.heap.size + 1) polL n (w.alloc (.cells #[.string (polL.getD 0 ⟨#[]⟩), .string (polL.getD 1 ⟨#[]⟩)] 9)) (row_lit w 9 #[.string (polL.getD 0 ⟨#[]⟩), .string (polL.getD 1 ⟨#[]⟩)]) rfl (by omega));rw [wordR_pol] at HW;have HO := Hd ((Only.refl [] w).alloc (.cells #[.string (polL.getD 0 ⟨#[]⟩), .string (polL.getD 1 ⟨#[]⟩)] 9));go_enter Tryd.func31, Tryd.ntmps31;go_wp2_with fail
 refine (HW.out).mono ?_;rintro e w2 ⟨rfl, rfl⟩;go_wp2
 go_ret
 exact ⟨rfl, HO.out⟩
end Go.Proofs.YtojpohmijlkagaaDoor
