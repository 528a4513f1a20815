/- The number of a text: the package's Parse. Structs by value that came in. Contracts of the package value, and of the reference beside it: which values may be, their texts, and which value a text is. Columns: the mathematics. Trimmed texts: the mathematics. Words of a line: the mathematics. Contract of line.Runes. A contract of the library at this program: what it asks of the program, field by field. A contract of the library at this program: what it asks of the program, field by field. -/
import Derived.Test.YthaeomdpaadilaaGreatDoorShowParsesCardK20
import Derived.Test.YthaeomdpaadilaaGreatDoorShowParsesCardK1
import Derived.Lib.SmallJoins
import Derived.Test.YthaeomdpaadilaaGreatDoorShowParsesCardK6
import Derived.Test.YthaeomdpaadilaaGreatDoorShowParsesCardK2
import Derived.Lib.SlTrimSet
import Derived.Test.YthaeomdpaadilaaGreatDoorShowParsesCardK3
import Derived.Lib.IndexMore
import Derived.Lib.IndexBytes
import Derived.Test.YthaeomdpaadilaaGreatDoorProg
import Derived.Ground.NamesProg
import Derived.Shelf.Strings.Cut
import Derived.Shelf.Strings.Search3
set_option linter.unusedVariables false
set_option linter.unusedSimpArgs false
namespace Go.Proofs.YthaeomdpaadilaaGreatDoor
open Go.RowKit
set_option maxHeartbeats 400000 in
theorem parse_text (s : ByteArray) (w : World) (h : s.size ≤ 9223372036854775807) (hd : digB s.data.toList = false) :
  Calls Tryz.prog 112 #[.string s] w fun e w' => e = .returned (.tuple #[.int .i64 (prN s.data.toList), .int .i64 (prE s.data.toList)]) ∧ w = w' := by
 have hc := digits_any s w h
 rw [hd] at hc
 have HC := Lib.hid hc
 have e1 : prE s.data.toList = 5 := by unfold prE; rw [if_pos hd]
 have e2 : prN s.data.toList = 0 := by unfold prN; rw [e1]; rfl
 rw [e1, e2]
 clear hc e1 e2 hd
 go_enter Tryz.func112, Tryz.ntmps112
 go_wp2_with fail
 refine HC.out.mono ?_
 rintro e w' ⟨rfl, rfl⟩
 go_wp2
 go_ret2
 exact ⟨rfl, rfl⟩
set_option maxHeartbeats 400000 in
theorem parse_long (s : ByteArray) (w : World) (h : s.size ≤ 9223372036854775807) (hd : digB s.data.toList = true) (hl : 19 < (rest s.data.toList).length) :
  Calls Tryz.prog 112 #[.string s] w fun e w' => e = .returned (.tuple #[.int .i64 (prN s.data.toList), .int .i64 (prE s.data.toList)]) ∧ w = w' := by
 have hc := digits_any s w h
 rw [hd] at hc
 have HC := Lib.hid hc
 obtain ⟨e1, e2⟩ := prE_long hd hl
 rw [e1, e2]
 clear hc e1 e2 hd
 go_enter Tryz.func112, Tryz.ntmps112
 go_wp2_with fail
 refine HC.out.mono ?_
 rintro e w' ⟨rfl, rfl⟩
 go_wp2_with fail
 refine (cut_dash s _ h).mono ?_
 rintro e w' ⟨r, ⟨rfl, hr⟩, rfl⟩
 rw [← hr, ← Lib.size_eq] at hl
 clear hr
 have hl' : (19 : Int) < r.size := by omega
 go_wp2
 go_ret2
 exact ⟨rfl, rfl⟩
theorem digit_at {t : List UInt8} {r : ByteArray} (hr : r.data.toList = t) (hall : t.all isDig = true) {k : Nat} (hk : k < r.size) : 48 ≤ r[k].toNat ∧ r[k].toNat ≤ 57 := by
 have := List.all_eq_true.1 hall r[k] (by rw [← hr, Array.mem_toList_iff]; exact Array.getElem_mem _)
 exact isDig_iff.1 this
theorem take_dig {t : List UInt8} (hall : t.all isDig = true) (k : Nat) : (t.take k).all isDig = true :=
 List.all_eq_true.2 fun x hx => List.all_eq_true.1 hall x (List.mem_of_mem_take hx)
theorem val_take_succ {r : ByteArray} {k : Nat} (hk : k < r.size) : val (r.data.toList.take (k + 1)) = val (r.data.toList.take k) * 10 + (r[k].toNat - 48) := by
 rw [List.take_succ_eq_append_getElem (by simpa using hk), val_snoc]
 rfl
theorem ret_pair {k : IntKind} {a b : Int} {x y : Int} (h : a = b) (h' : x = y) : Ending.returned (.tuple #[.int k a, .int .i64 x]) = .returned (.tuple #[.int k b, .int .i64 y]) := by rw [h, h']
theorem wrap_neg (v : Nat) (h : v ≤ 9223372036854775808) : wrap64 (IntKind.u64.wrap (-(v : Int))) = -(v : Int) := by
 unfold wrap64
 simp only [IntKind.wrap, IntKind.bits, IntKind.signed]
 simp
 omega
set_option maxHeartbeats 400000 in
theorem parse_num (s : ByteArray) (w : World) (h : s.size ≤ 9223372036854775807) (hd : digB s.data.toList = true) (hl : (rest s.data.toList).length ≤ 19) :
  Calls Tryz.prog 112 #[.string s] w fun e w' => e = .returned (.tuple #[.int .i64 (prN s.data.toList), .int .i64 (prE s.data.toList)]) ∧ w = w' := by
 have hc := digits_any s w h
 rw [hd] at hc
 have HC := Lib.hid hc
 obtain ⟨_, hall, _⟩ := digB_parts hd
 have HD := Lib.hid hd
 have HALL := Lib.hid hall
 clear hc hd hall
 go_enter Tryz.func112, Tryz.ntmps112
 go_wp2_with fail
 refine HC.out.mono ?_
 rintro e w' ⟨rfl, rfl⟩
 go_wp2_with fail
 refine (cut_dash s _ h).mono ?_
 rintro e w' ⟨r, ⟨rfl, hr⟩, rfl⟩
 have hl' : (r.size : Int) ≤ 19 := by rw [← hr, ← Lib.size_eq] at hl; omega
 have HR := Lib.hid hr
 clear hr hl
 generalize hn : neg s.data.toList = n
 have HN := Lib.hid hn
 clear hn
 go_wp2
 go_loop [6, 21] (fun u j => ∃ k : Nat, k ≤ r.size ∧ j = .int .i64 k ∧ u = .int .u64 (val (r.data.toList.take k))) (fun _ j => r.size - (intOf j).toNat)
 case atStart => exact ⟨0, Nat.zero_le _, rfl, rfl⟩
 case round =>
  obtain ⟨k, hk, rfl, rfl⟩ := hrel
  by_cases hlt : k < r.size
  ·obtain ⟨hd1, hd2⟩ := digit_at HR.out HALL.out hlt
   have hv : (val (r.data.toList.take k) : Int) ≤ 999999999999999999 := by
    have h1 := val_take_le r.data.toList k (by rw [HR.out]; exact take_dig HALL.out k)
    have h2 : 10 ^ k ≤ 10 ^ 18 := Nat.pow_le_pow_right (by decide) (by omega)
    omega
   have HS := Lib.hid (val_take_succ hlt)
   generalize val (r.data.toList.take k) = v at *
   go_wp2
   go_round
   case rel => exact ⟨k + 1, by omega, by go_num, by rw [HS.out]; congr 1; omega⟩
   case measure => simp [intOf]; omega
  ·have hv : val (r.data.toList.take k) = val (rest s.data.toList) := by rw [List.take_of_length_le (by rw [← Lib.size_eq]; omega), HR.out]
   rw [hv]
   have hb : (val (rest s.data.toList) : Int) ≤ 9999999999999999999 := by
    have h1 := val_bounds (rest s.data.toList) HALL.out
    have h2 : 10 ^ (rest s.data.toList).length ≤ 10 ^ 19 := Nat.pow_le_pow_right (by decide) (by rw [← HR.out, ← Lib.size_eq]; omega)
    omega
   clear hv
   generalize hV : val (rest s.data.toList) = v
   have HV := Lib.hid hV
   clear hV
   have HB := Lib.hid hb
   clear hb
   cases n with
   | true =>
    by_cases hle : (v : Int) ≤ 9223372036854775808
    ·have HF := Lib.hid (pr_neg HD.out HN.out (by rw [HV.out]; omega))
     go_wp2
     go_ret2
     exact ⟨ret_pair (by rw [HF.out.2, HV.out]; exact wrap_neg v (by omega)) HF.out.1.symm, rfl⟩
    ·have hle' : (9223372036854775808 : Int) < v := by omega
     have HF := Lib.hid (pr_neg_big HD.out HN.out (by rw [HV.out]; omega))
     go_wp2
     go_ret2
     exact ⟨ret_pair HF.out.2.symm HF.out.1.symm, rfl⟩
   | false =>
    by_cases hle : (v : Int) < 9223372036854775808
    ·have HF := Lib.hid (pr_pos HD.out HN.out (by rw [HV.out]; omega))
     go_wp2
     go_ret2
     exact ⟨ret_pair (by rw [HF.out.2, HV.out]) HF.out.1.symm, rfl⟩
    ·have hle' : (9223372036854775808 : Int) ≤ v := by omega
     have HF := Lib.hid (pr_pos_big HD.out HN.out (by rw [HV.out]; omega))
     go_wp2
     go_ret2
     exact ⟨ret_pair HF.out.2.symm HF.out.1.symm, rfl⟩
theorem parse_any (s : ByteArray) (w : World) (h : s.size ≤ 9223372036854775807) :
  Calls Tryz.prog 112 #[.string s] w fun e w' => e = .returned (.tuple #[.int .i64 (prN s.data.toList), .int .i64 (prE s.data.toList)]) ∧ w = w' := by
 cases hd : digB s.data.toList with
 | false => exact parse_text s w h hd
 | true =>
  rcases Nat.lt_or_ge 19 (rest s.data.toList).length with hl | hl
  ·exact parse_long s w h hd hl
  ·exact parse_num s w h hd hl
end Go.Proofs.YthaeomdpaadilaaGreatDoor

set_option linter.unusedVariables false
set_option linter.unusedSimpArgs false
namespace Go.Proofs.YthaeomdpaadilaaGreatDoor
open Go.RowKit Go.ChangeShapes Go.WideShapes Go.ChangeAt Go.Joins Go.Deep
section
variable {H : Type} {enc : TypeId × Value → H} {P : Program} {w : World}
end
end Go.Proofs.YthaeomdpaadilaaGreatDoor

set_option linter.unusedVariables false
set_option linter.unusedSimpArgs false
namespace Go.Proofs.YthaeomdpaadilaaGreatDoor
open Go.RowKit
def vText (k n : Int) : List UInt8 := if mayB k n = true then (if k = 1 then Lib.itoa n else if k = 2 then [63] else [110, 105, 108]) else []
def vErr (k n : Int) : Int := if mayB k n = true then 0 else 4
def pvK (l : List UInt8) : Int := if l = [110, 105, 108] then 0 else if l = [63] then 2 else if prE l = 0 then 1 else 0
def pvN (l : List UInt8) : Int := if l = [110, 105, 108] then 0 else if l = [63] then 0 else if prE l = 0 then prN l else 0
def pvE (l : List UInt8) : Int := if l = [110, 105, 108] then 0 else if l = [63] then 0 else prE l
theorem mayB_cases (k n : Int) : (mayB k n = false ∧ vText k n = [] ∧ vErr k n = 4) ∨ (mayB k n = true ∧ vErr k n = 0 ∧ k = 1 ∧ vText k n = Lib.itoa n) ∨ (mayB k n = true ∧ vErr k n = 0 ∧ k = 2 ∧ n = 0 ∧ vText k n = [63]) ∨ (mayB k n = true ∧ vErr k n = 0 ∧ k = 0 ∧ n = 0 ∧ vText k n = [110, 105, 108]) := by
 unfold vText vErr
 cases h : mayB k n with
 | false => simp
 | true =>
  unfold mayB at h
  simp at h
  rcases h with h | ⟨h | h, h'⟩ <;> simp [h] <;> assumption
set_option maxHeartbeats 800000 in
theorem vprint_any (k n : Int) (w : World) (h1 : -9223372036854775808 ≤ n) (h2 : n ≤ 9223372036854775807) :
    Calls Tryz.prog 63 #[.agg #[.int .i64 k, .int .i64 n]] w fun e w' => e = .returned (.tuple #[.string ⟨(vText k n).toArray⟩, .int .i64 (vErr k n)]) ∧ Only [] w w' := by
  have hm := fun w => vmay_any k n w
  have hp := fun w => print_any n w h1 h2
  have HM := Lib.hid hm
  have HP := Lib.hid hp
  clear hm hp
  rcases mayB_cases k n with ⟨a, b, c⟩ | ⟨a, b, rfl, c⟩ | ⟨a, b, rfl, rfl, c⟩ | ⟨a, b, rfl, rfl, c⟩
  all_goals
    rw [b, c]
    have HM' : ∀ w, Hid (Calls Tryz.prog 59 #[.agg #[.int .i64 _, .int .i64 _]] w fun e w' => e = .returned (.bool _) ∧ Only [] w w') := fun w => by
      have := HM.out w; rw [a] at this; exact this
    have HMH := Lib.hid HM'
    clear HM HM' a b c
    go_enter Tryz.func63, Tryz.ntmps63
    go_wp2_with fail
    refine (HMH.out _).out.mono ?_
    rintro e w1 ⟨rfl, O1⟩
    have b1 := O1.blk (Blk.made w 45 #[.int .i64 _, .int .i64 _]) (by simp)
    have c0 := b1.at_ 0
    have c1 := b1.at_ 1
    simp at c0 c1
    have HO := Lib.hid (((Only.refl [] w).alloc (.cells #[.int .i64 _, .int .i64 _] 45)).trans O1)
    clear b1 O1
    go_wp2_with fail
    first
      | (refine (HP.out _).mono ?_
         rintro e w2 ⟨rfl, O2⟩
         go_wp2
         go_ret2
         exact ⟨rfl, HO.out.trans O2⟩)
      | (go_ret2
         exact ⟨rfl, HO.out⟩)
set_option maxHeartbeats 800000 in
theorem vparse_any (s : ByteArray) (w : World) (h : s.size ≤ 9223372036854775807) :
  Calls Tryz.prog 97 #[.string s] w fun e w' => e = .returned (.tuple #[.agg #[.int .i64 (pvK s.data.toList), .int .i64 (pvN s.data.toList)], .int .i64 (pvE s.data.toList)]) ∧ Only [] w w' := by
 unfold pvK pvN pvE
 by_cases h1 : s.data.toList = [110, 105, 108]
 ·rw [h1]
  have hs : (s.toList == [110, 105, 108]) = true := by rw [Lib.toList_data, h1]; rfl
  clear h1
  go_enter Tryz.func97, Tryz.ntmps97
  go_wp2
  exact bodyPost_ret (v := .tuple #[.agg #[.int .i64 0, .int .i64 0], .int .i64 0]) (by simp [results, Tryz.results97, go_sem]) rfl ⟨rfl, (Only.refl _ _).alloc _⟩
 ·have hs1 : (s.toList == [110, 105, 108]) = false := by rw [Lib.toList_data]; simpa using h1
  by_cases h2 : s.data.toList = [63]
  ·rw [h2]
   have hs2 : (s.toList == [63]) = true := by rw [Lib.toList_data, h2]; rfl
   clear h1 h2
   go_enter Tryz.func97, Tryz.ntmps97
   go_wp2
   exact bodyPost_ret (v := .tuple #[.agg #[.int .i64 2, .int .i64 0], .int .i64 0]) (by simp [results, Tryz.results97, go_sem]) rfl ⟨rfl, (Only.refl _ _).alloc _⟩
  ·have hs2 : (s.toList == [63]) = false := by rw [Lib.toList_data]; simpa using h2
   rw [if_neg h1, if_neg h2, if_neg h1, if_neg h2, if_neg h1, if_neg h2]
   have hp := fun w => parse_any s w h
   generalize prN s.data.toList = n at *
   generalize prE s.data.toList = x at *
   have HP := Lib.hid hp
   clear hp h1 h2
   by_cases hx : x = 0
   ·rw [if_pos hx, if_pos hx]
    have hx' : (x != 0) = false := by simp [hx]
    have HX := Lib.hid hx
    clear hx
    go_enter Tryz.func97, Tryz.ntmps97
    go_wp2_with fail
    refine (HP.out _).mono ?_
    rintro e w1 ⟨rfl, rfl⟩
    go_wp2
    exact bodyPost_ret (v := .tuple #[.agg #[.int .i64 1, .int .i64 n], .int .i64 0]) (by simp [results, Tryz.results97, go_sem]) rfl ⟨by rw [HX.out], (Only.refl _ _).alloc _⟩
   ·rw [if_neg hx, if_neg hx]
    have hx' : (x != 0) = true := by simp [hx]
    clear hx
    go_enter Tryz.func97, Tryz.ntmps97
    go_wp2_with fail
    refine (HP.out _).mono ?_
    rintro e w1 ⟨rfl, rfl⟩
    go_wp2
    exact bodyPost_ret (v := .tuple #[.agg #[.int .i64 0, .int .i64 0], .int .i64 x]) (by simp [results, Tryz.results97, go_sem]) rfl ⟨rfl, (Only.refl _ _).alloc _⟩
end Go.Proofs.YthaeomdpaadilaaGreatDoor

set_option linter.unusedVariables false
set_option linter.unusedSimpArgs false
namespace Go.Proofs.YthaeomdpaadilaaGreatDoor
open Go.RowKit
open Go.Lib hiding intOf
attribute [local go_sem ↓] Go.wp_at_zero Go.wp_at_succ
def colFrom (s : ByteArray) (a : Int) : Nat → Nat → Nat
 | 0, _ => 0
 | f + 1, pos => if pos < s.size ∧ (pos : Int) < a then 1 + colFrom s a f (pos + (Utf8.decode s pos).2) else 0
def colOf (s : ByteArray) (a : Int) : Nat := if validD (by_ s) = true then colFrom s a s.size 0 else 0
theorem colFrom_le (s : ByteArray) (a : Int) : ∀ f pos, colFrom s a f pos ≤ f
 | 0, _ => Nat.le_refl _
 | f + 1, pos => by
  have := colFrom_le s a f (pos + (Utf8.decode s pos).2)
  unfold colFrom
  split <;> omega
theorem colFrom_stop (s : ByteArray) (a : Int) (f pos : Nat) (h : ¬ (pos < s.size ∧ (pos : Int) < a)) : colFrom s a f pos = 0 := by
 cases f with
 | zero => rfl
 | succ f => rw [colFrom, if_neg h]
end Go.Proofs.YthaeomdpaadilaaGreatDoor

set_option linter.unusedVariables false
set_option linter.unusedSimpArgs false
namespace Go.Proofs.YthaeomdpaadilaaGreatDoor
open Go.RowKit
open Go.Lib hiding intOf
def blanks : List UInt8 := [9, 13, 32]
end Go.Proofs.YthaeomdpaadilaaGreatDoor

set_option linter.unusedVariables false
set_option linter.unusedSimpArgs false
namespace Go.Proofs.YthaeomdpaadilaaGreatDoor
open Go.Lib hiding intOf
def blankB (b : UInt8) : Bool := blanks.contains b
theorem blankB_iff (b : UInt8) : blankB b = true ↔ (b.toNat = 9 ∨ b.toNat = 13 ∨ b.toNat = 32) := by
 simp only [blankB, blanks, List.contains_iff_mem, List.mem_cons, List.not_mem_nil, or_false]
 constructor
 ·rintro (rfl | rfl | rfl)
  ·exact .inl rfl
  ·exact .inr (.inl rfl)
  ·exact .inr (.inr rfl)
 ·rintro (h | h | h)
  ·exact .inl (UInt8.toNat_inj.1 h)
  ·exact .inr (.inl (UInt8.toNat_inj.1 h))
  ·exact .inr (.inr (UInt8.toNat_inj.1 h))
def closeW : Option Nat → Nat → List (Nat × Nat)
 | some f, i => [(f, i)]
 | none, _ => []
/-- The words of what is left, each from where it begins up to where it ends; a word ends ahead of a blank. -/
def spansO : List UInt8 → Nat → Option Nat → List (Nat × Nat)
 | [], _, _ => []
 | b :: l, i, fr => if blankB b = true then closeW fr i ++ spansO l (i + 1) none else spansO l (i + 1) (some (fr.getD i))
theorem spans_blank (b : UInt8) (l : List UInt8) (i : Nat) (fr : Option Nat) (h : blankB b = true) : spansO (b :: l) i fr = closeW fr i ++ spansO l (i + 1) none := by
 rw [spansO, if_pos h]
theorem spans_word (b : UInt8) (l : List UInt8) (i : Nat) (fr : Option Nat) (h : blankB b = false) : spansO (b :: l) i fr = spansO l (i + 1) (some (fr.getD i)) := by
 rw [spansO, if_neg (by rw [h]; simp)]
theorem spans_skip : ∀ (m rest : List UInt8) (i : Nat) (fr : Option Nat), m ≠ [] → (∀ b ∈ m, blankB b = false) → spansO (m ++ rest) i fr = spansO rest (i + m.length) (some (fr.getD i))
 | [b], rest, i, fr, _, h => by
  rw [List.cons_append, List.nil_append, spans_word _ _ _ _ (h b (List.mem_cons_self ..))]
  rfl
 | b :: c :: m, rest, i, fr, _, h => by
  rw [List.cons_append, spans_word _ _ _ _ (h b (List.mem_cons_self ..)), spans_skip (c :: m) rest (i + 1) _ (by simp) (fun x hx => h x (List.mem_cons_of_mem _ hx))]
  simp only [List.length_cons, Option.getD_some]
  congr 1
  omega
def aheadL (l : List UInt8) : List UInt8 := l.takeWhile fun b => b != 35
theorem ahead_cases : ∀ l : List UInt8, ((35 : UInt8) ∉ l ∧ aheadL l = l) ∨ ∃ rest, l = aheadL l ++ 35 :: rest ∧ (35 : UInt8) ∉ aheadL l
 | [] => .inl ⟨by simp, rfl⟩
 | b :: l => by
  by_cases hb : b = 35
  ·subst hb
   exact .inr ⟨l, rfl, by simp [aheadL]⟩
  ·have ha : aheadL (b :: l) = b :: aheadL l := by
    unfold aheadL
    rw [List.takeWhile_cons_of_pos (by simpa using hb)]
   rcases ahead_cases l with ⟨h1, h2⟩ | ⟨rest, h1, h2⟩
   ·left
    rw [ha, h2]
    exact ⟨by simp; exact ⟨fun h => hb h.symm, h1⟩, rfl⟩
   ·right
    refine ⟨rest, ?_, ?_⟩
    ·rw [ha, List.cons_append, ← h1]
    ·rw [ha]
     simp
     exact ⟨fun h => hb h.symm, h2⟩
theorem ahead_len (l : List UInt8) : (aheadL l).length ≤ l.length := (List.takeWhile_sublist _).length_le
theorem ahead_take (l : List UInt8) : l.take (aheadL l).length = aheadL l := by
 rcases ahead_cases l with ⟨-, h⟩ | ⟨rest, h, -⟩
 ·rw [h, List.take_length]
 ·have h2 : l.take (aheadL l).length = (aheadL l ++ 35 :: rest).take (aheadL l).length := congrArg _ h
  rw [h2, List.take_append_of_le_length (Nat.le_refl _), List.take_of_length_le (Nat.le_refl _)]
theorem ahead_valid {l : List UInt8} (h : validD l = true) : validD (aheadL l) = true := by
 rcases ahead_cases l with ⟨-, h1⟩ | ⟨rest, h1, -⟩
 ·rw [h1]; exact h
 ·rw [h1] at h
  exact valid_pre 35 rest (by decide) _ _ (Nat.le_refl _) h
/-- What the words are read from: what stands ahead of the remark, and a blank. -/
def codeL (l : List UInt8) : List UInt8 := aheadL l ++ [32]
theorem code_len (l : List UInt8) : (codeL l).length = (aheadL l).length + 1 := by simp [codeL]
theorem code_valid {l : List UInt8} (h : validD l = true) : validD (codeL l) = true := by
 unfold codeL
 rw [valid_app _ (ahead_valid h)]
 rfl
theorem code_take (l : List UInt8) (k : Nat) (h : k ≤ (aheadL l).length) : (codeL l).take k = l.take k := by
 unfold codeL
 rw [List.take_append_of_le_length h, ← ahead_take, List.take_take, Nat.min_eq_left h]
def wordsOf (l : List UInt8) : List (Nat × Nat) := spansO (codeL l) 0 none
theorem indexByte_none : ∀ {l : List UInt8} {c : UInt8}, c ∉ l → indexByte l c = -1
 | [], _, _ => rfl
 | b :: l, c, h => by
  have hb : (b == c) = false := by
   rw [beq_eq_false_iff_ne]
   rintro rfl
   exact h (List.mem_cons_self ..)
  rw [indexByte, indexByte_none (fun hm => h (List.mem_cons_of_mem _ hm)), hb]
  simp
theorem indexByte_some : ∀ {a : List UInt8} {c : UInt8} (rest : List UInt8), c ∉ a → indexByte (a ++ c :: rest) c = a.length
 | [], c, rest, _ => by simp [indexByte]
 | b :: a, c, rest, h => by
  have hb : (b == c) = false := by
   rw [beq_eq_false_iff_ne]
   rintro rfl
   exact h (List.mem_cons_self ..)
  have ih := indexByte_some rest (fun hm => h (List.mem_cons_of_mem _ hm))
  rw [List.cons_append, indexByte, ih, hb]
  have : ((a.length : Int) == -1) = false := by rw [beq_eq_false_iff_ne]; omega
  rw [this]
  simp
theorem contains_byte (l : List UInt8) (c : UInt8) : decide (0 ≤ indexByte l c) = l.contains c := by
 by_cases h : c ∈ l
 ·obtain ⟨a, rest, rfl, ha⟩ := List.append_of_mem h |> fun ⟨a, r, e⟩ => (List.eq_append_cons_of_mem h)
  rw [indexByte_some rest ha]
  simp
 ·rw [indexByte_none h]
  simp [h]
theorem cut_none {l : List UInt8} (h : (35 : UInt8) ∉ l) : Lib.cut l [35] = (l, [], false) := by
 unfold Lib.cut
 rw [index_one, indexByte_none h, if_neg (by omega)]
theorem cut_some {l rest : List UInt8} (h : (35 : UInt8) ∉ l) : Lib.cut (l ++ 35 :: rest) [35] = (l, rest, true) := by
 unfold Lib.cut
 rw [index_one, indexByte_some rest h, if_pos (by omega)]
 simp
/-- A word as its cells: what it says, and where it stands. -/
def wordV (s : ByteArray) (p : Nat × Nat) : List Value := [.string (s.extract p.1 p.2), .int .i64 ((leads ((by_ s).take p.1) : Nat) + 1)]
def wordsV (s : ByteArray) (ps : List (Nat × Nat)) : List Value := ps.flatMap (wordV s)
theorem wordsV_len (s : ByteArray) (ps : List (Nat × Nat)) : (wordsV s ps).length = 2 * ps.length := by
 unfold wordsV
 rw [List.length_flatMap]
 induction ps with
 | nil => rfl
 | cons p ps ih => simp only [List.map_cons, List.sum_cons, List.length_cons, ih]; simp [wordV]; omega
theorem wordsV_snoc (s : ByteArray) (ps : List (Nat × Nat)) (p : Nat × Nat) : wordsV s (ps ++ [p]) = wordsV s ps ++ wordV s p := by simp [wordsV]
theorem spans_len : ∀ (l : List UInt8) (i : Nat) (fr : Option Nat), (spansO l i fr).length ≤ l.length
 | [], _, _ => Nat.le_refl _
 | b :: l, i, fr => by
  by_cases h : blankB b = true
  ·rw [spans_blank _ _ _ _ h, List.length_append]
   have := spans_len l (i + 1) none
   cases fr <;> simp [closeW] <;> omega
  ·have := spans_len l (i + 1) (some (fr.getD i))
   rw [spans_word _ _ _ _ (by simpa using h)]
   simp; omega
/-- How many runes stand ahead of a byte of a valid text. -/
theorem colFrom_leads (s : ByteArray) (a : Nat) : ∀ (f pos : Nat), s.size ≤ pos + f → validD ((by_ s).drop pos) = true → colFrom s a f pos = leads (((by_ s).take a).drop pos)
 | f, pos, hf, hv => by
  by_cases h : pos < s.size ∧ (pos : Int) < (a : Int)
  ·cases f with
   | zero => omega
   | succ f =>
    rcases valid_cases hv with he | ⟨m, rest, r, he, hm, hr⟩
    ·have := congrArg List.length he
     rw [List.length_drop, by_length] at this
     simp at this
     omega
    ·have hd : Utf8.decode s pos = (r, m.length) := by rw [← decL_at, he, hm.dec]
     have hrest : (by_ s).drop (pos + m.length) = rest := by rw [← List.drop_drop, he, List.drop_left]
     rw [colFrom, if_pos h, hd]
     dsimp only
     rw [colFrom_leads s a f (pos + m.length) (by have := hm.len; omega) (by rw [hrest]; exact hr)]
     rw [List.drop_take, List.drop_take, he, hrest, List.take_append, leads_app, leads_rune hm _ (by omega)]
     congr 3
     omega
  ·rw [colFrom_stop s a f pos h]
   have : ((by_ s).take a).drop pos = [] := List.drop_of_length_le (by rw [List.length_take, by_length]; omega)
   rw [this]
   rfl
theorem col_leads (s : ByteArray) (a : Nat) (hv : validD (by_ s) = true) : colOf s a = leads ((by_ s).take a) := by
 unfold colOf
 rw [if_pos hv, colFrom_leads s a s.size 0 (by omega) hv]
 rfl
end Go.Proofs.YthaeomdpaadilaaGreatDoor

set_option linter.unusedVariables false
set_option linter.unusedSimpArgs false
namespace Go.Proofs.YthaeomdpaadilaaGreatDoor
open Go.RowKit
open Go.Lib hiding intOf
attribute [local go_sem ↓] Go.wp_at_zero Go.wp_at_succ
set_option maxHeartbeats 2000000 in
theorem runes_any (s : ByteArray) (w : World) (hs : s.size ≤ 9223372036854775807) (hT : UTabs w) :
  Calls Tryz.prog 93 #[.string s] w fun e w' => e = .returned (.tuple #[.int .i64 (if validD (by_ s) = true then (runeCount s : Int) else 0), .bool (validD (by_ s))]) ∧ Only [] w w' := by
 have HV := Lib.hid (valid_any s w hs hT)
 have hle := runeCount_le s
 obtain ⟨vb, hvb⟩ : ∃ vb, vb = validD (by_ s) := ⟨_, rfl⟩
 rw [← hvb] at HV ⊢
 clear hvb hT
 cases vb with
 | false =>
  rw [if_neg (by simp)]
  go_enter Tryz.func93, Tryz.ntmps93
  go_wp2_with fail
  refine (HV.out).mono ?_
  rintro e w1 ⟨rfl, hO⟩
  go_wp2
  go_ret2
  exact ⟨rfl, hO⟩
 | true =>
  rw [if_pos rfl]
  obtain ⟨R, hR⟩ : ∃ R, R = runeCount s := ⟨_, rfl⟩
  rw [← hR] at hle ⊢
  have HRC : Hid (R = runeCountFrom s s.size 0) := Lib.hid hR
  clear hR
  go_enter Tryz.func93, Tryz.ntmps93
  go_wp2_with fail
  refine (HV.out).mono ?_
  rintro e w1 ⟨rfl, hO⟩
  have HO := Lib.hid hO
  clear hO HV
  go_wp2
  go_loopw [4] (fun nn wr => ∃ (pos b k : Nat), nn = .int .i64 k ∧ pos ≤ s.size ∧ s.size ≤ pos + b ∧ k ≤ R ∧ Hid (runeCountFrom s b pos + k = R) ∧ Hid (wr.heap[w1.heap.size]? = some (.stringIter s pos)) ∧ Hid (Only [] w1 wr)) (fun _ wr => s.size - wr.iterPos w1.heap.size)
  case atStart => exact ⟨0, s.size, 0, rfl, by omega, by omega, by omega, Lib.hid (by rw [HRC.out]; rfl), Lib.hid (World.iter_heap w1 s 0), Lib.hid ((Only.refl [] w1).alloc _)⟩
  case round =>
   obtain ⟨pos, b, k, rfl, hpos, hb, hkR, HC, HIT, HO1⟩ := hrel
   by_cases hp : pos < s.size
   ·have hnx : ∀ ty, (Instr.next (.pointer (some ⟨w1.heap.size, 0, none⟩)) true ty).run Tryz.prog wr = _ := fun ty => run_next_any_at wr w1.heap.size s pos ty HIT.out hp
    have hwd := width_le s pos hp
    have hip := iterPos_of HIT.out
    have HIT2 := Lib.hid (iterAt_heap wr w1.heap.size s pos (pos + (Utf8.decode s pos).2) HIT.out)
    have HO2 := Lib.hid (only_iter HO1.out s (pos + (Utf8.decode s pos).2) (k := w1.heap.size) (fun h => by omega))
    have hip2 := iterPos_of HIT2.out
    obtain ⟨b', rfl⟩ : ∃ b', b = b' + 1 := ⟨b - 1, by omega⟩
    have hst : runeCountFrom s (b' + 1) pos = 1 + runeCountFrom s b' (pos + (Utf8.decode s pos).2) := by
     rw [runeCountFrom, if_pos hp]
    have hcc := HC.out
    rw [hst] at hcc
    have hk1 : k + 1 ≤ R := by omega
    have HC2 : Hid (runeCountFrom s b' (pos + (Utf8.decode s pos).2) + (k + 1) = R) := Lib.hid (by omega)
    obtain ⟨wd, hwde⟩ : ∃ wd, wd = (Utf8.decode s pos).2 := ⟨_, rfl⟩
    rw [← hwde] at hnx HIT2 HO2 hwd hip2 HC2
    generalize (Utf8.decode s pos).1 = rn at *
    clear hst hcc hwde HC HIT HO1
    go_wp2
    go_roundw
    case rel => exact ⟨pos + wd, b', k + 1, by go_num, by omega, by omega, by omega, HC2, HIT2, HO2⟩
    case measure => rw [hip, hip2]; omega
   ·have hnx : ∀ ty, (Instr.next (.pointer (some ⟨w1.heap.size, 0, none⟩)) true ty).run Tryz.prog wr = _ := fun ty => run_next_end_at wr w1.heap.size s pos ty HIT.out hp
    have hcc := HC.out
    rw [runeCountFrom_end s b pos hp] at hcc
    have hkR2 : k = R := by omega
    subst hkR2
    clear hcc
    go_wp2
    go_ret2
    exact ⟨rfl, HO.out.trans HO1.out⟩
end Go.Proofs.YthaeomdpaadilaaGreatDoor

namespace Go.Proofs
open Go.Shelf
def Tryz.laysCut_ren : Go.Shelf.Ren := ⟨fun | 145 => 95 | 220 => 111 | 219 => 118 | 217 => 123 | 225 => 124 | 224 => 125 | 267 => 126 | 266 => 130 | 314 => 131 | n => n, fun | 9 => 9 | 4 => 4 | 59 => 146 | 3 => 3 | 5 => 5 | 46 => 145 | 146 => 171 | 51 => 170 | n => n, fun | 1 => 3 | n => n⟩
theorem Tryz.laysCut : Go.Proofs.Lays.n145 Tryz.prog Tryz.laysCut_ren := {
 mixed := by kernel_rfl
 f145 := Tryz.func95.trans (congrArg some (by kernel_rfl))
 f217 := Tryz.func123.trans (congrArg some (by kernel_rfl))
 f219 := Tryz.func118.trans (congrArg some (by kernel_rfl))
 f220 := Tryz.func111.trans (congrArg some (by kernel_rfl))
 f224 := Tryz.func125.trans (congrArg some (by kernel_rfl))
 f225 := Tryz.func124.trans (congrArg some (by kernel_rfl))
 f266 := Tryz.func130.trans (congrArg some (by kernel_rfl))
 f267 := Tryz.func126.trans (congrArg some (by kernel_rfl))
 f314 := Tryz.func131.trans (congrArg some (by kernel_rfl))
 t3 := Tryz.underlying3
 a3 := Tryz.isAgg3
 z3 := Tryz.sizeOf3
 v3 := Tryz.zeroValue3
 t4 := Tryz.underlying4
 a4 := Tryz.isAgg4
 z4 := Tryz.sizeOf4
 v4 := Tryz.zeroValue4
 t5 := Tryz.underlying5
 a5 := Tryz.isAgg5
 z5 := Tryz.sizeOf5
 v5 := Tryz.zeroValue5
 t9 := Tryz.underlying9
 a9 := Tryz.isAgg9
 z9 := Tryz.sizeOf9
 v9 := Tryz.zeroValue9
 t46 := Tryz.underlying145
 a46 := Tryz.isAgg145
 z46 := Tryz.sizeOf145
 v46 := Tryz.zeroValue145
 t51 := Tryz.underlying170
 a51 := Tryz.isAgg170
 z51 := Tryz.sizeOf170
 v51 := Tryz.zeroValue170
 t59 := Tryz.underlying146
 a59 := Tryz.isAgg146
 z59 := Tryz.sizeOf146
 v59 := Tryz.zeroValue146
 t146 := Tryz.underlying171
 a146 := Tryz.isAgg171
 z146 := Tryz.sizeOf171
 v146 := Tryz.zeroValue171
 g1 := by kernel_rfl }
end Go.Proofs

namespace Go.Proofs
open Go.Shelf
def Tryz.laysContains_ren : Go.Shelf.Ren := ⟨fun | 144 => 94 | 143 => 110 | 219 => 118 | 217 => 123 | 225 => 124 | 224 => 125 | 267 => 126 | 266 => 130 | 314 => 131 | n => n, fun | 9 => 9 | 4 => 4 | 3 => 3 | 5 => 5 | 46 => 145 | 146 => 171 | 51 => 170 | n => n, fun | 1 => 3 | n => n⟩
theorem Tryz.laysContains : Go.Proofs.Lays.n144 Tryz.prog Tryz.laysContains_ren := {
 mixed := by kernel_rfl
 f143 := Tryz.func110.trans (congrArg some (by kernel_rfl))
 f144 := Tryz.func94.trans (congrArg some (by kernel_rfl))
 f217 := Tryz.func123.trans (congrArg some (by kernel_rfl))
 f219 := Tryz.func118.trans (congrArg some (by kernel_rfl))
 f224 := Tryz.func125.trans (congrArg some (by kernel_rfl))
 f225 := Tryz.func124.trans (congrArg some (by kernel_rfl))
 f266 := Tryz.func130.trans (congrArg some (by kernel_rfl))
 f267 := Tryz.func126.trans (congrArg some (by kernel_rfl))
 f314 := Tryz.func131.trans (congrArg some (by kernel_rfl))
 t3 := Tryz.underlying3
 a3 := Tryz.isAgg3
 z3 := Tryz.sizeOf3
 v3 := Tryz.zeroValue3
 t4 := Tryz.underlying4
 a4 := Tryz.isAgg4
 z4 := Tryz.sizeOf4
 v4 := Tryz.zeroValue4
 t5 := Tryz.underlying5
 a5 := Tryz.isAgg5
 z5 := Tryz.sizeOf5
 v5 := Tryz.zeroValue5
 t9 := Tryz.underlying9
 a9 := Tryz.isAgg9
 z9 := Tryz.sizeOf9
 v9 := Tryz.zeroValue9
 t46 := Tryz.underlying145
 a46 := Tryz.isAgg145
 z46 := Tryz.sizeOf145
 v46 := Tryz.zeroValue145
 t51 := Tryz.underlying170
 a51 := Tryz.isAgg170
 z51 := Tryz.sizeOf170
 v51 := Tryz.zeroValue170
 t146 := Tryz.underlying171
 a146 := Tryz.isAgg171
 z146 := Tryz.sizeOf171
 v146 := Tryz.zeroValue171
 g1 := by kernel_rfl }
end Go.Proofs
