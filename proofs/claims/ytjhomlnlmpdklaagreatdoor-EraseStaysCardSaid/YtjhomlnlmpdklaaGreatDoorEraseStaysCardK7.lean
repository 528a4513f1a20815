/- The number of a text: the package's Parse. Structs by value that came in. Contracts of the package value: Parse. Contracts of the package event: words, operand. Columns: the mathematics. Trimmed texts: the mathematics. -/
import Derived.Test.YtjhomlnlmpdklaaGreatDoorEraseStaysCardK6
import Derived.Test.YtjhomlnlmpdklaaGreatDoorEraseStaysCardK3
import Derived.Lib.SmallJoins
import Derived.Test.YtjhomlnlmpdklaaGreatDoorEraseStaysCardK2
import Derived.Test.YtjhomlnlmpdklaaGreatDoorEraseStaysCardK5
import Derived.Lib.SlTrimSet
set_option linter.unusedVariables false
set_option linter.unusedSimpArgs false
namespace Go.Proofs.YtjhomlnlmpdklaaGreatDoor
open Go.RowKit
set_option maxHeartbeats 400000 in
theorem parse_text (s : ByteArray) (w : World) (h : s.size ≤ 9223372036854775807) (hd : digB s.data.toList = false) :
  Calls Tryz.prog 110 #[.string s] w fun e w' => e = .returned (.tuple #[.int .i64 (prN s.data.toList), .int .i64 (prE s.data.toList)]) ∧ w = w' := by
 have hc := digits_any s w h
 rw [hd] at hc
 have HC := Lib.hid hc
 have e1 : prE s.data.toList = 5 := by unfold prE; rw [if_pos hd]
 have e2 : prN s.data.toList = 0 := by unfold prN; rw [e1]; rfl
 rw [e1, e2]
 clear hc e1 e2 hd
 go_enter Tryz.func110, Tryz.ntmps110
 go_wp2_with fail
 refine HC.out.mono ?_
 rintro e w' ⟨rfl, rfl⟩
 go_wp2
 go_ret2
 exact ⟨rfl, rfl⟩
set_option maxHeartbeats 400000 in
theorem parse_long (s : ByteArray) (w : World) (h : s.size ≤ 9223372036854775807) (hd : digB s.data.toList = true) (hl : 19 < (rest s.data.toList).length) :
  Calls Tryz.prog 110 #[.string s] w fun e w' => e = .returned (.tuple #[.int .i64 (prN s.data.toList), .int .i64 (prE s.data.toList)]) ∧ w = w' := by
 have hc := digits_any s w h
 rw [hd] at hc
 have HC := Lib.hid hc
 obtain ⟨e1, e2⟩ := prE_long hd hl
 rw [e1, e2]
 clear hc e1 e2 hd
 go_enter Tryz.func110, Tryz.ntmps110
 go_wp2_with fail
 refine HC.out.mono ?_
 rintro e w' ⟨rfl, rfl⟩
 go_wp2_with fail
 refine (cut_dash s _ h).mono ?_
 rintro e w' ⟨r, ⟨rfl, hr⟩, rfl⟩
 rw [← hr, ← Lib.size_eq] at hl
 clear hr
 have hl' : (19 : Int) < r.size := by omega
 go_wp2
 go_ret2
 exact ⟨rfl, rfl⟩
theorem digit_at {t : List UInt8} {r : ByteArray} (hr : r.data.toList = t) (hall : t.all isDig = true) {k : Nat} (hk : k < r.size) : 48 ≤ r[k].toNat ∧ r[k].toNat ≤ 57 := by
 have := List.all_eq_true.1 hall r[k] (by rw [← hr, Array.mem_toList_iff]; exact Array.getElem_mem _)
 exact isDig_iff.1 this
theorem take_dig {t : List UInt8} (hall : t.all isDig = true) (k : Nat) : (t.take k).all isDig = true :=
 List.all_eq_true.2 fun x hx => List.all_eq_true.1 hall x (List.mem_of_mem_take hx)
theorem val_take_succ {r : ByteArray} {k : Nat} (hk : k < r.size) : val (r.data.toList.take (k + 1)) = val (r.data.toList.take k) * 10 + (r[k].toNat - 48) := by
 rw [List.take_succ_eq_append_getElem (by simpa using hk), val_snoc]
 rfl
theorem ret_pair {k : IntKind} {a b : Int} {x y : Int} (h : a = b) (h' : x = y) : Ending.returned (.tuple #[.int k a, .int .i64 x]) = .returned (.tuple #[.int k b, .int .i64 y]) := by rw [h, h']
theorem wrap_neg (v : Nat) (h : v ≤ 9223372036854775808) : wrap64 (IntKind.u64.wrap (-(v : Int))) = -(v : Int) := by
 unfold wrap64
 simp only [IntKind.wrap, IntKind.bits, IntKind.signed]
 simp
 omega
set_option maxHeartbeats 400000 in
theorem parse_num (s : ByteArray) (w : World) (h : s.size ≤ 9223372036854775807) (hd : digB s.data.toList = true) (hl : (rest s.data.toList).length ≤ 19) :
  Calls Tryz.prog 110 #[.string s] w fun e w' => e = .returned (.tuple #[.int .i64 (prN s.data.toList), .int .i64 (prE s.data.toList)]) ∧ w = w' := by
 have hc := digits_any s w h
 rw [hd] at hc
 have HC := Lib.hid hc
 obtain ⟨_, hall, _⟩ := digB_parts hd
 have HD := Lib.hid hd
 have HALL := Lib.hid hall
 clear hc hd hall
 go_enter Tryz.func110, Tryz.ntmps110
 go_wp2_with fail
 refine HC.out.mono ?_
 rintro e w' ⟨rfl, rfl⟩
 go_wp2_with fail
 refine (cut_dash s _ h).mono ?_
 rintro e w' ⟨r, ⟨rfl, hr⟩, rfl⟩
 have hl' : (r.size : Int) ≤ 19 := by rw [← hr, ← Lib.size_eq] at hl; omega
 have HR := Lib.hid hr
 clear hr hl
 generalize hn : neg s.data.toList = n
 have HN := Lib.hid hn
 clear hn
 go_wp2
 go_loop [6, 21] (fun u j => ∃ k : Nat, k ≤ r.size ∧ j = .int .i64 k ∧ u = .int .u64 (val (r.data.toList.take k))) (fun _ j => r.size - (intOf j).toNat)
 case atStart => exact ⟨0, Nat.zero_le _, rfl, rfl⟩
 case round =>
  obtain ⟨k, hk, rfl, rfl⟩ := hrel
  by_cases hlt : k < r.size
  ·obtain ⟨hd1, hd2⟩ := digit_at HR.out HALL.out hlt
   have hv : (val (r.data.toList.take k) : Int) ≤ 999999999999999999 := by
    have h1 := val_take_le r.data.toList k (by rw [HR.out]; exact take_dig HALL.out k)
    have h2 : 10 ^ k ≤ 10 ^ 18 := Nat.pow_le_pow_right (by decide) (by omega)
    omega
   have HS := Lib.hid (val_take_succ hlt)
   generalize val (r.data.toList.take k) = v at *
   go_wp2
   go_round
   case rel => exact ⟨k + 1, by omega, by go_num, by rw [HS.out]; congr 1; omega⟩
   case measure => simp [intOf]; omega
  ·have hv : val (r.data.toList.take k) = val (rest s.data.toList) := by rw [List.take_of_length_le (by rw [← Lib.size_eq]; omega), HR.out]
   rw [hv]
   have hb : (val (rest s.data.toList) : Int) ≤ 9999999999999999999 := by
    have h1 := val_bounds (rest s.data.toList) HALL.out
    have h2 : 10 ^ (rest s.data.toList).length ≤ 10 ^ 19 := Nat.pow_le_pow_right (by decide) (by rw [← HR.out, ← Lib.size_eq]; omega)
    omega
   clear hv
   generalize hV : val (rest s.data.toList) = v
   have HV := Lib.hid hV
   clear hV
   have HB := Lib.hid hb
   clear hb
   cases n with
   | true =>
    by_cases hle : (v : Int) ≤ 9223372036854775808
    ·have HF := Lib.hid (pr_neg HD.out HN.out (by rw [HV.out]; omega))
     go_wp2
     go_ret2
     exact ⟨ret_pair (by rw [HF.out.2, HV.out]; exact wrap_neg v (by omega)) HF.out.1.symm, rfl⟩
    ·have hle' : (9223372036854775808 : Int) < v := by omega
     have HF := Lib.hid (pr_neg_big HD.out HN.out (by rw [HV.out]; omega))
     go_wp2
     go_ret2
     exact ⟨ret_pair HF.out.2.symm HF.out.1.symm, rfl⟩
   | false =>
    by_cases hle : (v : Int) < 9223372036854775808
    ·have HF := Lib.hid (pr_pos HD.out HN.out (by rw [HV.out]; omega))
     go_wp2
     go_ret2
     exact ⟨ret_pair (by rw [HF.out.2, HV.out]) HF.out.1.symm, rfl⟩
    ·have hle' : (9223372036854775808 : Int) ≤ v := by omega
     have HF := Lib.hid (pr_pos_big HD.out HN.out (by rw [HV.out]; omega))
     go_wp2
     go_ret2
     exact ⟨ret_pair HF.out.2.symm HF.out.1.symm, rfl⟩
theorem parse_any (s : ByteArray) (w : World) (h : s.size ≤ 9223372036854775807) :
  Calls Tryz.prog 110 #[.string s] w fun e w' => e = .returned (.tuple #[.int .i64 (prN s.data.toList), .int .i64 (prE s.data.toList)]) ∧ w = w' := by
 cases hd : digB s.data.toList with
 | false => exact parse_text s w h hd
 | true =>
  rcases Nat.lt_or_ge 19 (rest s.data.toList).length with hl | hl
  ·exact parse_long s w h hd hl
  ·exact parse_num s w h hd hl
end Go.Proofs.YtjhomlnlmpdklaaGreatDoor

set_option linter.unusedVariables false
set_option linter.unusedSimpArgs false
namespace Go.Proofs.YtjhomlnlmpdklaaGreatDoor
open Go.RowKit Go.ChangeShapes Go.WideShapes Go.ChangeAt Go.Joins Go.Deep
section
variable {H : Type} {enc : TypeId × Value → H} {P : Program} {w : World}
end
end Go.Proofs.YtjhomlnlmpdklaaGreatDoor

set_option linter.unusedVariables false
set_option linter.unusedSimpArgs false
namespace Go.Proofs.YtjhomlnlmpdklaaGreatDoor
open Go.RowKit
set_option maxHeartbeats 800000 in
theorem vparse_any (s : ByteArray) (w : World) (h : s.size ≤ 9223372036854775807) :
  Calls Tryz.prog 101 #[.string s] w fun e w' => e = .returned (.tuple #[.agg #[.int .i64 (pvK s.data.toList), .int .i64 (pvN s.data.toList)], .int .i64 (pvE s.data.toList)]) ∧ Only [] w w' := by
 unfold pvK pvN pvE
 by_cases h1 : s.data.toList = [110, 105, 108]
 ·rw [h1]
  have hs : (s.toList == [110, 105, 108]) = true := by rw [Lib.toList_data, h1]; rfl
  clear h1
  go_enter Tryz.func101, Tryz.ntmps101
  go_wp2
  exact bodyPost_ret (v := .tuple #[.agg #[.int .i64 0, .int .i64 0], .int .i64 0]) (by simp [results, Tryz.results101, go_sem]) rfl ⟨rfl, (Only.refl _ _).alloc _⟩
 ·have hs1 : (s.toList == [110, 105, 108]) = false := by rw [Lib.toList_data]; simpa using h1
  by_cases h2 : s.data.toList = [63]
  ·rw [h2]
   have hs2 : (s.toList == [63]) = true := by rw [Lib.toList_data, h2]; rfl
   clear h1 h2
   go_enter Tryz.func101, Tryz.ntmps101
   go_wp2
   exact bodyPost_ret (v := .tuple #[.agg #[.int .i64 2, .int .i64 0], .int .i64 0]) (by simp [results, Tryz.results101, go_sem]) rfl ⟨rfl, (Only.refl _ _).alloc _⟩
  ·have hs2 : (s.toList == [63]) = false := by rw [Lib.toList_data]; simpa using h2
   rw [if_neg h1, if_neg h2, if_neg h1, if_neg h2, if_neg h1, if_neg h2]
   have hp := fun w => parse_any s w h
   generalize prN s.data.toList = n at *
   generalize prE s.data.toList = x at *
   have HP := Lib.hid hp
   clear hp h1 h2
   by_cases hx : x = 0
   ·rw [if_pos hx, if_pos hx]
    have hx' : (x != 0) = false := by simp [hx]
    have HX := Lib.hid hx
    clear hx
    go_enter Tryz.func101, Tryz.ntmps101
    go_wp2_with fail
    refine (HP.out _).mono ?_
    rintro e w1 ⟨rfl, rfl⟩
    go_wp2
    exact bodyPost_ret (v := .tuple #[.agg #[.int .i64 1, .int .i64 n], .int .i64 0]) (by simp [results, Tryz.results101, go_sem]) rfl ⟨by rw [HX.out], (Only.refl _ _).alloc _⟩
   ·rw [if_neg hx, if_neg hx]
    have hx' : (x != 0) = true := by simp [hx]
    clear hx
    go_enter Tryz.func101, Tryz.ntmps101
    go_wp2_with fail
    refine (HP.out _).mono ?_
    rintro e w1 ⟨rfl, rfl⟩
    go_wp2
    exact bodyPost_ret (v := .tuple #[.agg #[.int .i64 0, .int .i64 0], .int .i64 x]) (by simp [results, Tryz.results101, go_sem]) rfl ⟨rfl, (Only.refl _ _).alloc _⟩
end Go.Proofs.YtjhomlnlmpdklaaGreatDoor

set_option linter.unusedVariables false
set_option linter.unusedSimpArgs false
namespace Go.Proofs.YtjhomlnlmpdklaaGreatDoor
open Go.RowKit
attribute [local go_sem ↓] Go.wp_at_zero Go.wp_at_succ
theorem vwords_any (k : Int) (kw : ByteArray) (ko : Bool) (w : World) :
  Calls Tryz.prog 82 #[.agg #[.int .i64 k, .string kw, .bool ko]] w fun e w' => e = .returned (.int .i64 (if ko = true then 4 else 2)) ∧ Only [] w w' := by
 have HO := Lib.hid ((Only.refl [] w).alloc (.cells #[.int .i64 k, .string kw, .bool ko] 114))
 cases ko <;>
 ·go_enter Tryz.func82, Tryz.ntmps82
  go_wp2
  go_ret
  exact ⟨rfl, HO.out⟩
/-- What an operation's value is: its kind, its number, or an error. -/
def opE (k : Int) (s : ByteArray) : Int := if pvE (by_ s) ≠ 0 then pvE (by_ s) else if k = 3 ∧ pvK (by_ s) = 2 then 5 else if k = 3 ∧ pvK (by_ s) = 0 then 11 else 0
def opK (k : Int) (s : ByteArray) : Int := if opE k s = 0 then pvK (by_ s) else 0
def opN (k : Int) (s : ByteArray) : Int := if opE k s = 0 then pvN (by_ s) else 0
set_option maxRecDepth 10000 in
set_option maxHeartbeats 2000000 in
theorem operand_any (k : Int) (s : ByteArray) (w : World) (hs : s.size ≤ 9223372036854775807) :
  Calls Tryz.prog 84 #[.int .i64 k, .string s] w fun e w' => e = .returned (.tuple #[.agg #[.int .i64 (opK k s), .int .i64 (opN k s)], .int .i64 (opE k s)]) ∧ Only [] w w' := by
 have HP := Lib.hid (fun w' => vparse_any s w' hs)
 obtain ⟨pk, hpk⟩ : ∃ x, x = pvK s.data.toList := ⟨_, rfl⟩
 obtain ⟨pn, hpn⟩ : ∃ x, x = pvN s.data.toList := ⟨_, rfl⟩
 obtain ⟨pe, hpe⟩ : ∃ x, x = pvE s.data.toList := ⟨_, rfl⟩
 rw [← hpk, ← hpn, ← hpe] at HP
 have h1 : opE k s = if pe ≠ 0 then pe else if k = 3 ∧ pk = 2 then 5 else if k = 3 ∧ pk = 0 then 11 else 0 := by rw [hpe, hpk]; rfl
 have h2 : opK k s = if opE k s = 0 then pk else 0 := by rw [hpk]; rfl
 have h3 : opN k s = if opE k s = 0 then pn else 0 := by rw [hpn]; rfl
 clear hpk hpn hpe
 generalize opE k s = oe at *
 generalize opK k s = ok at *
 generalize opN k s = on at *
 have hcase : ((pe != 0) = true ∧ oe = pe ∧ ok = 0 ∧ on = 0) ∨ (pe = 0 ∧ k = 3 ∧ pk = 2 ∧ oe = 5 ∧ ok = 0 ∧ on = 0) ∨ (pe = 0 ∧ k = 3 ∧ pk = 0 ∧ oe = 11 ∧ ok = 0 ∧ on = 0) ∨
   (pe = 0 ∧ k = 3 ∧ (pk == 2) = false ∧ (pk == 0) = false ∧ oe = 0 ∧ ok = pk ∧ on = pn) ∨ (pe = 0 ∧ (k == 3) = false ∧ oe = 0 ∧ ok = pk ∧ on = pn) := by
  by_cases a : pe = 0
  ·by_cases b : k = 3
   ·by_cases c : pk = 2
    ·exact .inr (.inl ⟨a, b, c, by simp [h1, a, b, c], by simp [h2, h1, a, b, c], by simp [h3, h1, a, b, c]⟩)
    ·by_cases d : pk = 0
     ·exact .inr (.inr (.inl ⟨a, b, d, by simp [h1, a, b, d], by simp [h2, h1, a, b, d], by simp [h3, h1, a, b, d]⟩))
     ·exact .inr (.inr (.inr (.inl ⟨a, b, by simp [c], by simp [d], by simp [h1, a, c, d], by simp [h2, h1, a, c, d], by simp [h3, h1, a, c, d]⟩)))
   ·exact .inr (.inr (.inr (.inr ⟨a, by simp [b], by simp [h1, a, b], by simp [h2, h1, a, b], by simp [h3, h1, a, b]⟩)))
  ·exact .inl ⟨by simp [a], by simp [h1, a], by simp [h2, h1, a], by simp [h3, h1, a]⟩
 clear h1 h2 h3
 have HO := Lib.hid ((Only.refl [] w).alloc (.cells #[.int .i64 0, .int .i64 0] 30))
 have HB := Lib.hid (Blk.made w 30 #[.int .i64 0, .int .i64 0])
 rcases hcase with ⟨q1, rfl, rfl, rfl⟩ | ⟨rfl, rfl, rfl, rfl, rfl, rfl⟩ | ⟨rfl, rfl, rfl, rfl, rfl, rfl⟩ | ⟨rfl, rfl, q1, q2, rfl, rfl, rfl⟩ | ⟨rfl, q1, rfl, rfl, rfl⟩
 all_goals
  go_enter Tryz.func84, Tryz.ntmps84
  go_wp2_with fail
  refine (HP.out _).mono ?_
  rintro e w1 ⟨rfl, O1⟩
  have bR := O1.blk HB.out (by simp)
  have HO1 := Lib.hid (HO.out.trans O1)
  have lR := bR.lt
  have f0 := bR.at_ 0
  have f1 := bR.at_ 1
  have g0 := bR.free 0
  have g1 := bR.free 1
  simp at f0 f1
  have h0 := HO1.out.size
  clear O1
  go_wp2
 all_goals
  first
  | refine bodyPost_ret (results_row2 Tryz.results84 _ _ w.heap.size 30 #[.int .i64 ok, .int .i64 on] _ rfl (((bR.put 0 (.int .i64 ok)).put 1 (.int .i64 on)).alloc _) Tryz.underlying30 rfl (by kernel_rfl)) rfl ⟨rfl, ?_⟩
  | refine bodyPost_ret (results_row2 Tryz.results84 _ _ w.heap.size 30 #[.int .i64 0, .int .i64 0] _ rfl (((bR.put 0 (.int .i64 0)).put 1 (.int .i64 0)).alloc _) Tryz.underlying30 rfl (by kernel_rfl)) rfl ⟨rfl, ?_⟩
  repeat (first | exact HO1.out | refine Only.put ?_ (fun h => by simp only at h; omega) _ | refine Only.alloc ?_ _)
end Go.Proofs.YtjhomlnlmpdklaaGreatDoor

set_option linter.unusedVariables false
set_option linter.unusedSimpArgs false
namespace Go.Proofs.YtjhomlnlmpdklaaGreatDoor
open Go.RowKit
open Go.Lib hiding intOf
attribute [local go_sem ↓] Go.wp_at_zero Go.wp_at_succ
end Go.Proofs.YtjhomlnlmpdklaaGreatDoor

set_option linter.unusedVariables false
set_option linter.unusedSimpArgs false
namespace Go.Proofs.YtjhomlnlmpdklaaGreatDoor
open Go.RowKit
open Go.Lib hiding intOf
def blanks : List UInt8 := [9, 13, 32]
end Go.Proofs.YtjhomlnlmpdklaaGreatDoor
