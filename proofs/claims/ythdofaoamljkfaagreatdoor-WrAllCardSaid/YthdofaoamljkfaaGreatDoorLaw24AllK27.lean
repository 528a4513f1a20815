/- Parts. -/
import Derived.Test.YthdofaoamljkfaaGreatDoorLaw24AllK26
import Derived.Test.YthdofaoamljkfaaGreatDoorLaw24AllK25
import Derived.Lib.SlTrimSet
import Derived.Lib.IndexMore
import Derived.Lib.IndexBytes
import Derived.Lib.Join
import Derived.Shelf.Strings.Cut
import Derived.Shelf.Strings.Search3
set_option maxRecDepth 10000
set_option maxHeartbeats 16000000
set_option linter.unusedVariables false
set_option linter.unusedSimpArgs false
namespace Go.Proofs.YthdofaoamljkfaaGreatDoor
open Go.RowKit
theorem parse_text (s : ByteArray) (w : World) (h : s.size ≤ 9223372036854775807) (hd : digB s.data.toList = false) :
  Calls Tryz.prog 115 #[.string s] w fun e w' => e = .returned (.tuple #[.int .i64 (prN s.data.toList), .int .i64 (prE s.data.toList)]) ∧ w = w' := by
 have hc := digits_any s w h;rw [hd] at hc;have HC := Hd hc;have e1 : prE s.data.toList = 5 := by unfold prE; rw [if_pos hd]
 have e2 : prN s.data.toList = 0 := by unfold prN; rw [e1]; rfl
 rw [e1, e2];clear hc e1 e2 hd;go_enter Tryz.func115, Tryz.ntmps115;go_wp2_with fail
 refine HC.out.mono ?_;rintro e w' ⟨rfl, rfl⟩;go_wp2
 go_ret2
 exact ⟨rfl, rfl⟩
theorem parse_long (s : ByteArray) (w : World) (h : s.size ≤ 9223372036854775807) (hd : digB s.data.toList = true) (hl : 19 < (rest s.data.toList).length) :
  Calls Tryz.prog 115 #[.string s] w fun e w' => e = .returned (.tuple #[.int .i64 (prN s.data.toList), .int .i64 (prE s.data.toList)]) ∧ w = w' := by
 have hc := digits_any s w h;rw [hd] at hc;have HC := Hd hc;obtain ⟨e1, e2⟩ := prE_long hd hl;rw [e1, e2];clear hc e1 e2 hd;go_enter Tryz.func115, Tryz.ntmps115;go_wp2_with fail
 refine HC.out.mono ?_;rintro e w' ⟨rfl, rfl⟩;go_wp2_with fail
 refine (cut_dash s _ h).mono ?_;rintro e w' ⟨r, ⟨rfl, hr⟩, rfl⟩;rw [← hr, ← Lib.size_eq] at hl;clear hr;have hl' : (19 : Int) < r.size := by omega
 go_wp2
 go_ret2
 exact ⟨rfl, rfl⟩
theorem digit_at {t : List UInt8} {r : ByteArray} (hr : r.data.toList = t) (hall : t.all isDig = true) {k : Nat} (hk : k < r.size) : 48 ≤ r[k].toNat ∧ r[k].toNat ≤ 57 := by
 have := List.all_eq_true.1 hall r[k] (by rw [← hr, Array.mem_toList_iff]; exact Array.getElem_mem _);exact isDig_iff.1 this
theorem take_dig {t : List UInt8} (hall : t.all isDig = true) (k : Nat) : (t.take k).all isDig = true :=
 List.all_eq_true.2 fun x hx => List.all_eq_true.1 hall x (List.mem_of_mem_take hx)
theorem val_take_succ {r : ByteArray} {k : Nat} (hk : k < r.size) : val (r.data.toList.take (k + 1)) = val (r.data.toList.take k) * 10 + (r[k].toNat - 48) := by
 rw [List.take_succ_eq_append_getElem (by simpa using hk), val_snoc]
 rfl
theorem ret_pair {k : IntKind} {a b : Int} {x y : Int} (h : a = b) (h' : x = y) : Ending.returned (.tuple #[.int k a, .int .i64 x]) = .returned (.tuple #[.int k b, .int .i64 y]) := by rw [h, h']
theorem wrap_neg (v : Nat) (h : v ≤ 9223372036854775808) : wrap64 (IntKind.u64.wrap (-(v : Int))) = -(v : Int) := by
 unfold wrap64;simp only [IntKind.wrap, IntKind.bits, IntKind.signed];simp;omega
theorem parse_num (s : ByteArray) (w : World) (h : s.size ≤ 9223372036854775807) (hd : digB s.data.toList = true) (hl : (rest s.data.toList).length ≤ 19) :
  Calls Tryz.prog 115 #[.string s] w fun e w' => e = .returned (.tuple #[.int .i64 (prN s.data.toList), .int .i64 (prE s.data.toList)]) ∧ w = w' := by
 have hc := digits_any s w h;rw [hd] at hc;have HC := Hd hc;obtain ⟨_, hall, _⟩ := digB_parts hd;have HD := Hd hd;have HALL := Hd hall;clear hc hd hall;go_enter Tryz.func115, Tryz.ntmps115;go_wp2_with fail
 refine HC.out.mono ?_;rintro e w' ⟨rfl, rfl⟩;go_wp2_with fail
 refine (cut_dash s _ h).mono ?_;rintro e w' ⟨r, ⟨rfl, hr⟩, rfl⟩;have hl' : (r.size : Int) ≤ 19 := by rw [← hr, ← Lib.size_eq] at hl; omega
 have HR := Hd hr;clear hr hl;generalize hn : neg s.data.toList = n;have HN := Hd hn;clear hn;go_wp2
 go_loop [6, 21] (fun u j => ∃ k : Nat, k ≤ r.size ∧ j = .int .i64 k ∧ u = .int .u64 (val (r.data.toList.take k))) (fun _ j => r.size - (intOf j).toNat)
 case atStart => exact ⟨0, Nat.zero_le _, rfl, rfl⟩
 case round =>
  obtain ⟨k, hk, rfl, rfl⟩ := hrel
  by_cases hlt : k < r.size
  ·obtain ⟨hd1, hd2⟩ := digit_at HR.out HALL.out hlt;have hv : (val (r.data.toList.take k) : Int) ≤ 999999999999999999 := by
    have h1 := val_take_le r.data.toList k (by rw [HR.out]; exact take_dig HALL.out k);have h2 : 10 ^ k ≤ 10 ^ 18 := Nat.pow_le_pow_right (by decide) (by omega);omega
   have HS := Hd (val_take_succ hlt);generalize val (r.data.toList.take k) = v at *;go_wp2
   go_round
   case rel => exact ⟨k + 1, by omega, by go_num, by rw [HS.out]; congr 1; omega⟩
   case measure => simp [intOf]; omega
  ·have hv : val (r.data.toList.take k) = val (rest s.data.toList) := by rw [List.take_of_length_le (by rw [← Lib.size_eq]; omega), HR.out]
   rw [hv];have hb : (val (rest s.data.toList) : Int) ≤ 9999999999999999999 := by
    have h1 := val_bounds (rest s.data.toList) HALL.out;have h2 : 10 ^ (rest s.data.toList).length ≤ 10 ^ 19 := Nat.pow_le_pow_right (by decide) (by rw [← HR.out, ← Lib.size_eq]; omega);omega
   clear hv;generalize hV : val (rest s.data.toList) = v;have HV := Hd hV;clear hV;have HB := Hd hb;clear hb
   cases n with
   | true =>
    by_cases hle : (v : Int) ≤ 9223372036854775808
    ·have HF := Hd (pr_neg HD.out HN.out (by rw [HV.out]; omega));go_wp2
     go_ret2
     exact ⟨ret_pair (by rw [HF.out.2, HV.out]; exact wrap_neg v (by omega)) HF.out.1.symm, rfl⟩
    ·have hle' : (9223372036854775808 : Int) < v := by omega
     have HF := Hd (pr_neg_big HD.out HN.out (by rw [HV.out]; omega));go_wp2
     go_ret2
     exact ⟨ret_pair HF.out.2.symm HF.out.1.symm, rfl⟩
   | false =>
    by_cases hle : (v : Int) < 9223372036854775808
    ·have HF := Hd (pr_pos HD.out HN.out (by rw [HV.out]; omega));go_wp2
     go_ret2
     exact ⟨ret_pair (by rw [HF.out.2, HV.out]) HF.out.1.symm, rfl⟩
    ·have hle' : (9223372036854775808 : Int) ≤ v := by omega
     have HF := Hd (pr_pos_big HD.out HN.out (by rw [HV.out]; omega));go_wp2
     go_ret2
     exact ⟨ret_pair HF.out.2.symm HF.out.1.symm, rfl⟩
theorem parse_any (s : ByteArray) (w : World) (h : s.size ≤ 9223372036854775807) :
  Calls Tryz.prog 115 #[.string s] w fun e w' => e = .returned (.tuple #[.int .i64 (prN s.data.toList), .int .i64 (prE s.data.toList)]) ∧ w = w' := by
 cases hd : digB s.data.toList with
 | false => exact parse_text s w h hd
 | true =>
  rcases Nat.lt_or_ge 19 (rest s.data.toList).length with hl | hl
  ·exact parse_long s w h hd hl
  ·exact parse_num s w h hd hl
end Go.Proofs.YthdofaoamljkfaaGreatDoor
namespace Go.Proofs.YthdofaoamljkfaaGreatDoor
open Go.RowKit Go.ChangeShapes Go.WideShapes Go.ChangeAt Go.Joins Go.Deep
section
variable {H : Type} {enc : TypeId × Value → H} {P : Program} {w : World}
end
end Go.Proofs.YthdofaoamljkfaaGreatDoor
namespace Go.Proofs.YthdofaoamljkfaaGreatDoor
open Go.RowKit
theorem vparse_any (s : ByteArray) (w : World) (h : s.size ≤ 9223372036854775807) :
  Calls Tryz.prog 106 #[.string s] w fun e w' => e = .returned (.tuple #[.agg #[.int .i64 (pvK s.data.toList), .int .i64 (pvN s.data.toList)], .int .i64 (pvE s.data.toList)]) ∧ Only [] w w' := by
 unfold pvK pvN pvE
 by_cases h1 : s.data.toList = [110, 105, 108]
 ·rw [h1];have hs : (s.toList == [110, 105, 108]) = true := by rw [Lib.toList_data, h1]; rfl
  clear h1;go_enter Tryz.func106, Tryz.ntmps106;go_wp2
  exact bodyPost_ret (v := .tuple #[.agg #[.int .i64 0, .int .i64 0], .int .i64 0]) (by simp [results, Tryz.results106, go_sem]) rfl ⟨rfl, (Only.refl _ _).alloc _⟩
 ·have hs1 : (s.toList == [110, 105, 108]) = false := by rw [Lib.toList_data]; simpa using h1
  by_cases h2 : s.data.toList = [63]
  ·rw [h2];have hs2 : (s.toList == [63]) = true := by rw [Lib.toList_data, h2]; rfl
   clear h1 h2;go_enter Tryz.func106, Tryz.ntmps106;go_wp2
   exact bodyPost_ret (v := .tuple #[.agg #[.int .i64 2, .int .i64 0], .int .i64 0]) (by simp [results, Tryz.results106, go_sem]) rfl ⟨rfl, (Only.refl _ _).alloc _⟩
  ·have hs2 : (s.toList == [63]) = false := by rw [Lib.toList_data]; simpa using h2
   rw [if_neg h1, if_neg h2, if_neg h1, if_neg h2, if_neg h1, if_neg h2];have hp := fun w => parse_any s w h;generalize prN s.data.toList = n at *;generalize prE s.data.toList = x at *;have HP := Hd hp;clear hp h1 h2
   by_cases hx : x = 0
   ·rw [if_pos hx, if_pos hx];have hx' : (x != 0) = false := by simp [hx]
    have HX := Hd hx;clear hx;go_enter Tryz.func106, Tryz.ntmps106;go_wp2_with fail
    refine (HP.out _).mono ?_;rintro e w1 ⟨rfl, rfl⟩;go_wp2
    exact bodyPost_ret (v := .tuple #[.agg #[.int .i64 1, .int .i64 n], .int .i64 0]) (by simp [results, Tryz.results106, go_sem]) rfl ⟨by rw [HX.out], (Only.refl _ _).alloc _⟩
   ·rw [if_neg hx, if_neg hx];have hx' : (x != 0) = true := by simp [hx]
    clear hx;go_enter Tryz.func106, Tryz.ntmps106;go_wp2_with fail
    refine (HP.out _).mono ?_;rintro e w1 ⟨rfl, rfl⟩;go_wp2
    exact bodyPost_ret (v := .tuple #[.agg #[.int .i64 0, .int .i64 0], .int .i64 x]) (by simp [results, Tryz.results106, go_sem]) rfl ⟨rfl, (Only.refl _ _).alloc _⟩
attribute [local go_sem ↓] Go.wp_at_zero Go.wp_at_succ
theorem vwords_any (k : Int) (kw : ByteArray) (ko : Bool) (w : World) :
  Calls Tryz.prog 90 #[.agg #[.int .i64 k, .string kw, .bool ko]] w fun e w' => e = .returned (.int .i64 (if ko = true then 4 else 2)) ∧ Only [] w w' := by
 have HO := Hd ((Only.refl [] w).alloc (.cells #[.int .i64 k, .string kw, .bool ko] 122))
 cases ko <;>
 ·go_enter Tryz.func90, Tryz.ntmps90;go_wp2
  go_ret
  exact ⟨rfl, HO.out⟩
def opE (k : Int) (s : ByteArray) : Int := if pvE (by_ s) ≠ 0 then pvE (by_ s) else if k = 3 ∧ pvK (by_ s) = 2 then 5 else if k = 3 ∧ pvK (by_ s) = 0 then 11 else 0
def opK (k : Int) (s : ByteArray) : Int := if opE k s = 0 then pvK (by_ s) else 0
def opN (k : Int) (s : ByteArray) : Int := if opE k s = 0 then pvN (by_ s) else 0
theorem operand_any (k : Int) (s : ByteArray) (w : World) (hs : s.size ≤ 9223372036854775807) :
  Calls Tryz.prog 92 #[.int .i64 k, .string s] w fun e w' => e = .returned (.tuple #[.agg #[.int .i64 (opK k s), .int .i64 (opN k s)], .int .i64 (opE k s)]) ∧ Only [] w w' := by
 have HP := Hd (fun w' => vparse_any s w' hs);obtain ⟨pk, hpk⟩ : ∃ x, x = pvK s.data.toList := ⟨_, rfl⟩;obtain ⟨pn, hpn⟩ : ∃ x, x = pvN s.data.toList := ⟨_, rfl⟩;obtain ⟨pe, hpe⟩ : ∃ x, x = pvE s.data.toList := ⟨_, rfl⟩;rw [← hpk, ← hpn, ← hpe] at HP;have h1 : opE k s = if pe ≠ 0 then pe else if k = 3 ∧ pk = 2 then 5 else if k = 3 ∧ pk = 0 then 11 else 0 := by rw [hpe, hpk]; rfl
 have h2 : opK k s = if opE k s = 0 then pk else 0 := by rw [hpk]; rfl
 have h3 : opN k s = if opE k s = 0 then pn else 0 := by rw [hpn]; rfl
 clear hpk hpn hpe;generalize opE k s = oe at *;generalize opK k s = ok at *;generalize opN k s = on at *;have hcase : ((pe != 0) = true ∧ oe = pe ∧ ok = 0 ∧ on = 0) ∨ (pe = 0 ∧ k = 3 ∧ pk = 2 ∧ oe = 5 ∧ ok = 0 ∧ on = 0) ∨ (pe = 0 ∧ k = 3 ∧ pk = 0 ∧ oe = 11 ∧ ok = 0 ∧ on = 0) ∨
   (pe = 0 ∧ k = 3 ∧ (pk == 2) = false ∧ (pk == 0) = false ∧ oe = 0 ∧ ok = pk ∧ on = pn) ∨ (pe = 0 ∧ (k == 3) = false ∧ oe = 0 ∧ ok = pk ∧ on = pn) := by
  by_cases a : pe = 0
  ·by_cases b : k = 3
   ·by_cases c : pk = 2
    ·exact .inr (.inl ⟨a, b, c, by simp [h1, a, b, c], by simp [h2, h1, a, b, c], by simp [h3, h1, a, b, c]⟩)
    ·by_cases d : pk = 0
     ·exact .inr (.inr (.inl ⟨a, b, d, by simp [h1, a, b, d], by simp [h2, h1, a, b, d], by simp [h3, h1, a, b, d]⟩))
     ·exact .inr (.inr (.inr (.inl ⟨a, b, by simp [c], by simp [d], by simp [h1, a, c, d], by simp [h2, h1, a, c, d], by simp [h3, h1, a, c, d]⟩)))
   ·exact .inr (.inr (.inr (.inr ⟨a, by simp [b], by simp [h1, a, b], by simp [h2, h1, a, b], by simp [h3, h1, a, b]⟩)))
  ·exact .inl ⟨by simp [a], by simp [h1, a], by simp [h2, h1, a], by simp [h3, h1, a]⟩
 clear h1 h2 h3;have HO := Hd ((Only.refl [] w).alloc (.cells #[.int .i64 0, .int .i64 0] 68));have HB := Hd (Blk.made w 68 #[.int .i64 0, .int .i64 0]);rcases hcase with ⟨q1, rfl, rfl, rfl⟩ | ⟨rfl, rfl, rfl, rfl, rfl, rfl⟩ | ⟨rfl, rfl, rfl, rfl, rfl, rfl⟩ | ⟨rfl, rfl, q1, q2, rfl, rfl, rfl⟩ | ⟨rfl, q1, rfl, rfl, rfl⟩
 all_goals
  go_enter Tryz.func92, Tryz.ntmps92;go_wp2_with fail
  refine (HP.out _).mono ?_;rintro e w1 ⟨rfl, O1⟩;have bR := O1.blk HB.out (by simp);have HO1 := Hd (HO.out.trans O1);have lR := bR.lt;have f0 := bR.at_ 0;have f1 := bR.at_ 1;have g0 := bR.free 0;have g1 := bR.free 1;simp at f0 f1;have h0 := HO1.out.size;clear O1;go_wp2
 all_goals
  first
  | refine bodyPost_ret (results_row2 Tryz.results92 _ _ w.heap.size 68 #[.int .i64 ok, .int .i64 on] _ rfl (((bR.put 0 (.int .i64 ok)).put 1 (.int .i64 on)).alloc _) Tryz.underlying68 rfl (by kernel_rfl)) rfl ⟨rfl, ?_⟩
  | refine bodyPost_ret (results_row2 Tryz.results92 _ _ w.heap.size 68 #[.int .i64 0, .int .i64 0] _ rfl (((bR.put 0 (.int .i64 0)).put 1 (.int .i64 0)).alloc _) Tryz.underlying68 rfl (by kernel_rfl)) rfl ⟨rfl, ?_⟩
  repeat (first | exact HO1.out | refine Only.put ?_ (fun h => by simp only at h; omega) _ | refine Only.alloc ?_ _)
end Go.Proofs.YthdofaoamljkfaaGreatDoor
namespace Go.Proofs.YthdofaoamljkfaaGreatDoor
open Go.RowKit
open Go.Lib hiding intOf
attribute [local go_sem ↓] Go.wp_at_zero Go.wp_at_succ

end Go.Proofs.YthdofaoamljkfaaGreatDoor
namespace Go.Proofs.YthdofaoamljkfaaGreatDoor
open Go.RowKit
open Go.Lib hiding intOf
def blanks : List UInt8 := [9, 13, 32]
end Go.Proofs.YthdofaoamljkfaaGreatDoor
namespace Go.Proofs.YthdofaoamljkfaaGreatDoor
open Go.Lib hiding intOf
def blankB (b : UInt8) : Bool := blanks.contains b
theorem blankB_iff (b : UInt8) : blankB b = true ↔ (b.toNat = 9 ∨ b.toNat = 13 ∨ b.toNat = 32) := by
 simp only [blankB, blanks, List.contains_iff_mem, List.mem_cons, List.not_mem_nil, or_false]
 constructor
 ·rintro (rfl | rfl | rfl)
  ·exact .inl rfl
  ·exact .inr (.inl rfl)
  ·exact .inr (.inr rfl)
 ·rintro (h | h | h)
  ·exact .inl (UInt8.toNat_inj.1 h)
  ·exact .inr (.inl (UInt8.toNat_inj.1 h))
  ·exact .inr (.inr (UInt8.toNat_inj.1 h))
def closeW : Option Nat → Nat → List (Nat × Nat)
 | some f, i => [(f, i)]
 | none, _ => []
def spansO : List UInt8 → Nat → Option Nat → List (Nat × Nat)
 | [], _, _ => []
 | b :: l, i, fr => if blankB b = true then closeW fr i ++ spansO l (i + 1) none else spansO l (i + 1) (some (fr.getD i))
theorem spans_blank (b : UInt8) (l : List UInt8) (i : Nat) (fr : Option Nat) (h : blankB b = true) : spansO (b :: l) i fr = closeW fr i ++ spansO l (i + 1) none := by
 rw [spansO, if_pos h]
theorem spans_word (b : UInt8) (l : List UInt8) (i : Nat) (fr : Option Nat) (h : blankB b = false) : spansO (b :: l) i fr = spansO l (i + 1) (some (fr.getD i)) := by
 rw [spansO, if_neg (by rw [h]; simp)]
theorem spans_skip : ∀ (m rest : List UInt8) (i : Nat) (fr : Option Nat), m ≠ [] → (∀ b ∈ m, blankB b = false) → spansO (m ++ rest) i fr = spansO rest (i + m.length) (some (fr.getD i))
 | [b], rest, i, fr, _, h => by
  rw [List.cons_append, List.nil_append, spans_word _ _ _ _ (h b (List.mem_cons_self ..))]
  rfl
 | b :: c :: m, rest, i, fr, _, h => by
  rw [List.cons_append, spans_word _ _ _ _ (h b (List.mem_cons_self ..)), spans_skip (c :: m) rest (i + 1) _ (by simp) (fun x hx => h x (List.mem_cons_of_mem _ hx))];simp only [List.length_cons, Option.getD_some]
  congr 1
  omega
def aheadL (l : List UInt8) : List UInt8 := l.takeWhile fun b => b != 35
theorem ahead_cases : ∀ l : List UInt8, ((35 : UInt8) ∉ l ∧ aheadL l = l) ∨ ∃ rest, l = aheadL l ++ 35 :: rest ∧ (35 : UInt8) ∉ aheadL l
 | [] => .inl ⟨by simp, rfl⟩
 | b :: l => by
  by_cases hb : b = 35
  ·subst hb;exact .inr ⟨l, rfl, by simp [aheadL]⟩
  ·have ha : aheadL (b :: l) = b :: aheadL l := by
    unfold aheadL;rw [List.takeWhile_cons_of_pos (by simpa using hb)]
   rcases ahead_cases l with ⟨h1, h2⟩ | ⟨rest, h1, h2⟩
   ·left
    rw [ha, h2];exact ⟨by simp; exact ⟨fun h => hb h.symm, h1⟩, rfl⟩
   ·right
    refine ⟨rest, ?_, ?_⟩
    ·rw [ha, List.cons_append, ← h1]
    ·rw [ha];simp;exact ⟨fun h => hb h.symm, h2⟩
theorem ahead_len (l : List UInt8) : (aheadL l).length ≤ l.length := (List.takeWhile_sublist _).length_le
theorem ahead_take (l : List UInt8) : l.take (aheadL l).length = aheadL l := by
 rcases ahead_cases l with ⟨-, h⟩ | ⟨rest, h, -⟩
 ·rw [h, List.take_length]
 ·have h2 : l.take (aheadL l).length = (aheadL l ++ 35 :: rest).take (aheadL l).length := congrArg _ h;rw [h2, List.take_append_of_le_length (Nat.le_refl _), List.take_of_length_le (Nat.le_refl _)]
theorem ahead_valid {l : List UInt8} (h : validD l = true) : validD (aheadL l) = true := by
 rcases ahead_cases l with ⟨-, h1⟩ | ⟨rest, h1, -⟩
 ·rw [h1]; exact h
 ·rw [h1] at h;exact valid_pre 35 rest (by decide) _ _ (Nat.le_refl _) h
def codeL (l : List UInt8) : List UInt8 := aheadL l ++ [32]
theorem code_len (l : List UInt8) : (codeL l).length = (aheadL l).length + 1 := by simp [codeL]
theorem code_valid {l : List UInt8} (h : validD l = true) : validD (codeL l) = true := by
 unfold codeL;rw [valid_app _ (ahead_valid h)]
 rfl
theorem code_take (l : List UInt8) (k : Nat) (h : k ≤ (aheadL l).length) : (codeL l).take k = l.take k := by
 unfold codeL;rw [List.take_append_of_le_length h, ← ahead_take, List.take_take, Nat.min_eq_left h]
def wordsOf (l : List UInt8) : List (Nat × Nat) := spansO (codeL l) 0 none
theorem indexByte_none : ∀ {l : List UInt8} {c : UInt8}, c ∉ l → indexByte l c = -1
 | [], _, _ => rfl
 | b :: l, c, h => by
  have hb : (b == c) = false := by
   rw [beq_eq_false_iff_ne];rintro rfl;exact h (List.mem_cons_self ..)
  rw [indexByte, indexByte_none (fun hm => h (List.mem_cons_of_mem _ hm)), hb];simp
theorem indexByte_some : ∀ {a : List UInt8} {c : UInt8} (rest : List UInt8), c ∉ a → indexByte (a ++ c :: rest) c = a.length
 | [], c, rest, _ => by simp [indexByte]
 | b :: a, c, rest, h => by
  have hb : (b == c) = false := by
   rw [beq_eq_false_iff_ne];rintro rfl;exact h (List.mem_cons_self ..)
  have ih := indexByte_some rest (fun hm => h (List.mem_cons_of_mem _ hm));rw [List.cons_append, indexByte, ih, hb];have : ((a.length : Int) == -1) = false := by rw [beq_eq_false_iff_ne]; omega
  rw [this];simp
theorem contains_byte (l : List UInt8) (c : UInt8) : decide (0 ≤ indexByte l c) = l.contains c := by
 by_cases h : c ∈ l
 ·obtain ⟨a, rest, rfl, ha⟩ := List.append_of_mem h |> fun ⟨a, r, e⟩ => (List.eq_append_cons_of_mem h);rw [indexByte_some rest ha];simp
 ·rw [indexByte_none h];simp [h]
theorem cut_none {l : List UInt8} (h : (35 : UInt8) ∉ l) : Lib.cut l [35] = (l, [], false) := by
 unfold Lib.cut;rw [index_one, indexByte_none h, if_neg (by omega)]
theorem cut_some {l rest : List UInt8} (h : (35 : UInt8) ∉ l) : Lib.cut (l ++ 35 :: rest) [35] = (l, rest, true) := by
 unfold Lib.cut;rw [index_one, indexByte_some rest h, if_pos (by omega)];simp
def wordV (s : ByteArray) (p : Nat × Nat) : List Value := [.string (s.extract p.1 p.2), .int .i64 ((leads ((by_ s).take p.1) : Nat) + 1)]
def wordsV (s : ByteArray) (ps : List (Nat × Nat)) : List Value := ps.flatMap (wordV s)
theorem wordsV_len (s : ByteArray) (ps : List (Nat × Nat)) : (wordsV s ps).length = 2 * ps.length := by
 unfold wordsV;rw [List.length_flatMap]
 induction ps with
 | nil => rfl
 | cons p ps ih => simp only [List.map_cons, List.sum_cons, List.length_cons, ih]; simp [wordV]; omega
theorem wordsV_snoc (s : ByteArray) (ps : List (Nat × Nat)) (p : Nat × Nat) : wordsV s (ps ++ [p]) = wordsV s ps ++ wordV s p := by simp [wordsV]
theorem spans_len : ∀ (l : List UInt8) (i : Nat) (fr : Option Nat), (spansO l i fr).length ≤ l.length
 | [], _, _ => Nat.le_refl _
 | b :: l, i, fr => by
  by_cases h : blankB b = true
  ·rw [spans_blank _ _ _ _ h, List.length_append];have := spans_len l (i + 1) none
   cases fr <;> simp [closeW] <;> omega
  ·have := spans_len l (i + 1) (some (fr.getD i));rw [spans_word _ _ _ _ (by simpa using h)];simp; omega
end Go.Proofs.YthdofaoamljkfaaGreatDoor
namespace Go.Proofs.YthdofaoamljkfaaGreatDoor
open Go.RowKit
open Go.Lib hiding intOf
attribute [local go_sem ↓] Go.wp_at_zero Go.wp_at_succ
theorem runes_any (s : ByteArray) (w : World) (hs : s.size ≤ 9223372036854775807) (hT : UTabs w) :
  Calls Tryz.prog 99 #[.string s] w fun e w' => e = .returned (.tuple #[.int .i64 (if validD (by_ s) = true then (runeCount s : Int) else 0), .bool (validD (by_ s))]) ∧ Only [] w w' := by
 have HV := Hd (valid_any s w hs hT);have hle := runeCount_le s;obtain ⟨vb, hvb⟩ : ∃ vb, vb = validD (by_ s) := ⟨_, rfl⟩;rw [← hvb] at HV ⊢;clear hvb hT
 cases vb with
 | false =>
  rw [if_neg (by simp)];go_enter Tryz.func99, Tryz.ntmps99;go_wp2_with fail
  refine (HV.out).mono ?_;rintro e w1 ⟨rfl, hO⟩;go_wp2
  go_ret2
  exact ⟨rfl, hO⟩
 | true =>
  rw [if_pos rfl];obtain ⟨R, hR⟩ : ∃ R, R = runeCount s := ⟨_, rfl⟩;rw [← hR] at hle ⊢;have HRC : Hid (R = runeCountFrom s s.size 0) := Hd hR;clear hR;go_enter Tryz.func99, Tryz.ntmps99;go_wp2_with fail
  refine (HV.out).mono ?_;rintro e w1 ⟨rfl, hO⟩;have HO := Hd hO;clear hO HV;go_wp2
  go_loopw [4] (fun nn wr => ∃ (pos b k : Nat), nn = .int .i64 k ∧ pos ≤ s.size ∧ s.size ≤ pos + b ∧ k ≤ R ∧ Hid (runeCountFrom s b pos + k = R) ∧ Hid (wr.heap[w1.heap.size]? = some (.stringIter s pos)) ∧ Hid (Only [] w1 wr)) (fun _ wr => s.size - wr.iterPos w1.heap.size)
  case atStart => exact ⟨0, s.size, 0, rfl, by omega, by omega, by omega, Hd (by rw [HRC.out]; rfl), Hd (World.iter_heap w1 s 0), Hd ((Only.refl [] w1).alloc _)⟩
  case round =>
   obtain ⟨pos, b, k, rfl, hpos, hb, hkR, HC, HIT, HO1⟩ := hrel
   by_cases hp : pos < s.size
   ·have hnx : ∀ ty, (Instr.next (.pointer (some ⟨w1.heap.size, 0, none⟩)) true ty).run Tryz.prog wr = _ := fun ty => run_next_any_at wr w1.heap.size s pos ty HIT.out hp;have hwd := width_le s pos hp;have hip := iterPos_of HIT.out;have HIT2 := Hd (iterAt_heap wr w1.heap.size s pos (pos + (Utf8.decode s pos).2) HIT.out);have HO2 := Hd (only_iter HO1.out s (pos + (Utf8.decode s pos).2) (k := w1.heap.size) (fun h => by omega));have hip2 := iterPos_of HIT2.out;obtain ⟨b', rfl⟩ : ∃ b', b = b' + 1 := ⟨b - 1, by omega⟩;have hst : runeCountFrom s (b' + 1) pos = 1 + runeCountFrom s b' (pos + (Utf8.decode s pos).2) := by
     rw [runeCountFrom, if_pos hp]
    have hcc := HC.out;rw [hst] at hcc;have hk1 : k + 1 ≤ R := by omega
    have HC2 : Hid (runeCountFrom s b' (pos + (Utf8.decode s pos).2) + (k + 1) = R) := Hd (by omega);obtain ⟨wd, hwde⟩ : ∃ wd, wd = (Utf8.decode s pos).2 := ⟨_, rfl⟩;rw [← hwde] at hnx HIT2 HO2 hwd hip2 HC2;generalize (Utf8.decode s pos).1 = rn at *;clear hst hcc hwde HC HIT HO1;go_wp2
    go_roundw
    case rel => exact ⟨pos + wd, b', k + 1, by go_num, by omega, by omega, by omega, HC2, HIT2, HO2⟩
    case measure => rw [hip, hip2]; omega
   ·have hnx : ∀ ty, (Instr.next (.pointer (some ⟨w1.heap.size, 0, none⟩)) true ty).run Tryz.prog wr = _ := fun ty => run_next_end_at wr w1.heap.size s pos ty HIT.out hp;have hcc := HC.out;rw [runeCountFrom_end s b pos hp] at hcc;have hkR2 : k = R := by omega
    subst hkR2;clear hcc;go_wp2
    go_ret2
    exact ⟨rfl, HO.out.trans HO1.out⟩
end Go.Proofs.YthdofaoamljkfaaGreatDoor
namespace Go.Proofs
open Go.Shelf
def Tryz.laysCut_ren : Go.Shelf.Ren := ⟨fun | 145 => 101 | 220 => 114 | 219 => 120 | 217 => 124 | 225 => 125 | 224 => 126 | 267 => 127 | 266 => 131 | 314 => 132 | n => n, fun | 9 => 9 | 4 => 4 | 59 => 149 | 3 => 3 | 5 => 5 | 46 => 147 | 146 => 172 | 51 => 171 | n => n, fun | 1 => 3 | n => n⟩
theorem Tryz.laysCut : Go.Proofs.Lays.n145 Tryz.prog Tryz.laysCut_ren := {
 mixed := by kernel_rfl
 f145 := Tryz.func101.trans (congrArg some (by kernel_rfl))
 f217 := Tryz.func124.trans (congrArg some (by kernel_rfl))
 f219 := Tryz.func120.trans (congrArg some (by kernel_rfl))
 f220 := Tryz.func114.trans (congrArg some (by kernel_rfl))
 f224 := Tryz.func126.trans (congrArg some (by kernel_rfl))
 f225 := Tryz.func125.trans (congrArg some (by kernel_rfl))
 f266 := Tryz.func131.trans (congrArg some (by kernel_rfl))
 f267 := Tryz.func127.trans (congrArg some (by kernel_rfl))
 f314 := Tryz.func132.trans (congrArg some (by kernel_rfl))
 t3 := Tryz.underlying3
 a3 := Tryz.isAgg3
 z3 := Tryz.sizeOf3
 v3 := Tryz.zeroValue3
 t4 := Tryz.underlying4
 a4 := Tryz.isAgg4
 z4 := Tryz.sizeOf4
 v4 := Tryz.zeroValue4
 t5 := Tryz.underlying5
 a5 := Tryz.isAgg5
 z5 := Tryz.sizeOf5
 v5 := Tryz.zeroValue5
 t9 := Tryz.underlying9
 a9 := Tryz.isAgg9
 z9 := Tryz.sizeOf9
 v9 := Tryz.zeroValue9
 t46 := Tryz.underlying147
 a46 := Tryz.isAgg147
 z46 := Tryz.sizeOf147
 v46 := Tryz.zeroValue147
 t51 := Tryz.underlying171
 a51 := Tryz.isAgg171
 z51 := Tryz.sizeOf171
 v51 := Tryz.zeroValue171
 t59 := Tryz.underlying149
 a59 := Tryz.isAgg149
 z59 := Tryz.sizeOf149
 v59 := Tryz.zeroValue149
 t146 := Tryz.underlying172
 a146 := Tryz.isAgg172
 z146 := Tryz.sizeOf172
 v146 := Tryz.zeroValue172
 g1 := by kernel_rfl }
def Tryz.laysContains_ren : Go.Shelf.Ren := ⟨fun | 144 => 100 | 143 => 113 | 219 => 120 | 217 => 124 | 225 => 125 | 224 => 126 | 267 => 127 | 266 => 131 | 314 => 132 | n => n, fun | 9 => 9 | 4 => 4 | 3 => 3 | 5 => 5 | 46 => 147 | 146 => 172 | 51 => 171 | n => n, fun | 1 => 3 | n => n⟩
theorem Tryz.laysContains : Go.Proofs.Lays.n144 Tryz.prog Tryz.laysContains_ren := {
 mixed := by kernel_rfl
 f143 := Tryz.func113.trans (congrArg some (by kernel_rfl))
 f144 := Tryz.func100.trans (congrArg some (by kernel_rfl))
 f217 := Tryz.func124.trans (congrArg some (by kernel_rfl))
 f219 := Tryz.func120.trans (congrArg some (by kernel_rfl))
 f224 := Tryz.func126.trans (congrArg some (by kernel_rfl))
 f225 := Tryz.func125.trans (congrArg some (by kernel_rfl))
 f266 := Tryz.func131.trans (congrArg some (by kernel_rfl))
 f267 := Tryz.func127.trans (congrArg some (by kernel_rfl))
 f314 := Tryz.func132.trans (congrArg some (by kernel_rfl))
 t3 := Tryz.underlying3
 a3 := Tryz.isAgg3
 z3 := Tryz.sizeOf3
 v3 := Tryz.zeroValue3
 t4 := Tryz.underlying4
 a4 := Tryz.isAgg4
 z4 := Tryz.sizeOf4
 v4 := Tryz.zeroValue4
 t5 := Tryz.underlying5
 a5 := Tryz.isAgg5
 z5 := Tryz.sizeOf5
 v5 := Tryz.zeroValue5
 t9 := Tryz.underlying9
 a9 := Tryz.isAgg9
 z9 := Tryz.sizeOf9
 v9 := Tryz.zeroValue9
 t46 := Tryz.underlying147
 a46 := Tryz.isAgg147
 z46 := Tryz.sizeOf147
 v46 := Tryz.zeroValue147
 t51 := Tryz.underlying171
 a51 := Tryz.isAgg171
 z51 := Tryz.sizeOf171
 v51 := Tryz.zeroValue171
 t146 := Tryz.underlying172
 a146 := Tryz.isAgg172
 z146 := Tryz.sizeOf172
 v146 := Tryz.zeroValue172
 g1 := by kernel_rfl }
end Go.Proofs
