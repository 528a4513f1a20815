/- Parts. -/
import Derived.Test.YtojpohmijlkagaaDoorLaw43AllK17
import Derived.Test.YtojpohmijlkagaaDoorLaw43AllK18
set_option maxRecDepth 10000
set_option maxHeartbeats 16000000
set_option linter.unusedVariables false
set_option linter.unusedSimpArgs false
namespace Go.Proofs.YtojpohmijlkagaaDoor
open Go.RowKit
open Go.Lib hiding intOf
attribute [local go_sem ↓] Go.wp_at_zero Go.wp_at_succ
def wordsT : Value := .agg (strs kwL).toArray
structure Scrs (w : World) : Prop where
 l0 : 0 < w.heap.size
 l1 : 1 < w.heap.size
 l2 : 2 < w.heap.size
 c0 : ∀ (i : Nat) (u : Value), (strs kwL)[i]? = some u → w.cell? ⟨0, i, none⟩ = some u
 c1 : ∀ (i : Nat) (u : Value), (strs (⟨#[]⟩ :: lvlL))[i]? = some u → w.cell? ⟨1, i, none⟩ = some u
 c2 : ∀ (i : Nat) (u : Value), (strs (⟨#[]⟩ :: polL))[i]? = some u → w.cell? ⟨2, i, none⟩ = some u
theorem Scrs.only {w w' : World} (h : Scrs w) (o : Only [] w w') : Scrs w' :=
 ⟨Nat.lt_of_lt_of_le h.l0 o.size, Nat.lt_of_lt_of_le h.l1 o.size, Nat.lt_of_lt_of_le h.l2 o.size, fun i u hu => (o.cell (p := ⟨0, i, none⟩) h.l0 (by simp)).trans (h.c0 i u hu), fun i u hu => (o.cell (p := ⟨1, i, none⟩) h.l1 (by simp)).trans (h.c1 i u hu), fun i u hu => (o.cell (p := ⟨2, i, none⟩) h.l2 (by simp)).trans (h.c2 i u hu)⟩
theorem word_i0 (w : World) : (Instr.index 53 wordsT (.int .i64 0)).run Tryd.prog w = .ok (.string (kwL.getD 0 ⟨#[]⟩)) w := by kernel_rfl
theorem word_i1 (w : World) : (Instr.index 53 wordsT (.int .i64 1)).run Tryd.prog w = .ok (.string (kwL.getD 1 ⟨#[]⟩)) w := by kernel_rfl
theorem word_i2 (w : World) : (Instr.index 53 wordsT (.int .i64 2)).run Tryd.prog w = .ok (.string (kwL.getD 2 ⟨#[]⟩)) w := by kernel_rfl
theorem word_i3 (w : World) : (Instr.index 53 wordsT (.int .i64 3)).run Tryd.prog w = .ok (.string (kwL.getD 3 ⟨#[]⟩)) w := by kernel_rfl
theorem word_i4 (w : World) : (Instr.index 53 wordsT (.int .i64 4)).run Tryd.prog w = .ok (.string (kwL.getD 4 ⟨#[]⟩)) w := by kernel_rfl
theorem word_i5 (w : World) : (Instr.index 53 wordsT (.int .i64 5)).run Tryd.prog w = .ok (.string (kwL.getD 5 ⟨#[]⟩)) w := by kernel_rfl
theorem word_i6 (w : World) : (Instr.index 53 wordsT (.int .i64 6)).run Tryd.prog w = .ok (.string (kwL.getD 6 ⟨#[]⟩)) w := by kernel_rfl
theorem word_i7 (w : World) : (Instr.index 53 wordsT (.int .i64 7)).run Tryd.prog w = .ok (.string (kwL.getD 7 ⟨#[]⟩)) w := by kernel_rfl
theorem word_i8 (w : World) : (Instr.index 53 wordsT (.int .i64 8)).run Tryd.prog w = .ok (.string (kwL.getD 8 ⟨#[]⟩)) w := by kernel_rfl
theorem word_i9 (w : World) : (Instr.index 53 wordsT (.int .i64 9)).run Tryd.prog w = .ok (.string (kwL.getD 9 ⟨#[]⟩)) w := by kernel_rfl
theorem word_idx (j : Nat) (hj : j < 10) (w : World) : (Instr.index 53 wordsT (.int .i64 (j : Int))).run Tryd.prog w = .ok (.string (kwL.getD j ⟨#[]⟩)) w := by
 have h : j = 0 ∨ j = 1 ∨ j = 2 ∨ j = 3 ∨ j = 4 ∨ j = 5 ∨ j = 6 ∨ j = 7 ∨ j = 8 ∨ j = 9 := by omega
 rcases h with rfl | rfl | rfl | rfl | rfl | rfl | rfl | rfl | rfl | rfl
 ·exact word_i0 w
 ·exact word_i1 w
 ·exact word_i2 w
 ·exact word_i3 w
 ·exact word_i4 w
 ·exact word_i5 w
 ·exact word_i6 w
 ·exact word_i7 w
 ·exact word_i8 w
 ·exact word_i9 w
def lvlT (n : Int) : ByteArray := if 1 ≤ n ∧ n ≤ 3 then lvlL.getD (n - 1).toNat ⟨#[]⟩ else ⟨#[]⟩
def polT (n : Int) : ByteArray := if 1 ≤ n ∧ n ≤ 2 then polL.getD (n - 1).toNat ⟨#[]⟩ else ⟨#[]⟩
theorem tlevel_any (n : Int) (w : World) (h : Scrs w) : Calls Tryd.prog 33 #[.int .i64 n] w fun e w' => e = .returned (.string (lvlT n)) ∧ w = w' := by
 by_cases h1 : n < 0
 ·have e0 : lvlT n = ⟨#[]⟩ := by unfold lvlT; rw [if_neg (by omega)]
  rw [e0];clear e0;go_enter Tryd.func33, Tryd.ntmps33;go_wp2
  go_ret
  exact ⟨rfl, rfl⟩
 ·by_cases h2 : 4 ≤ n
  ·have e0 : lvlT n = ⟨#[]⟩ := by unfold lvlT; rw [if_neg (by omega)]
   rw [e0];clear e0;have d1 : decide (n < 0) = false := decide_eq_false h1;have d2 : decide (4 ≤ n) = true := decide_eq_true h2;clear h1 h2;go_enter Tryd.func33, Tryd.ntmps33;go_wp2
   go_ret
   exact ⟨rfl, rfl⟩
  ·have l1 := h.l1;have b0 := h.c1 0 _ rfl;have b1 := h.c1 1 _ rfl;have b2 := h.c1 2 _ rfl;have b3 := h.c1 3 _ rfl;have hn : n = 0 ∨ n = 1 ∨ n = 2 ∨ n = 3 := by omega
   clear h h1 h2;rcases hn with rfl | rfl | rfl | rfl
   all_goals
    go_enter Tryd.func33, Tryd.ntmps33;go_wp2
    go_ret
    exact ⟨rfl, rfl⟩
theorem tpolicy_any (n : Int) (w : World) (h : Scrs w) : Calls Tryd.prog 34 #[.int .i64 n] w fun e w' => e = .returned (.string (polT n)) ∧ w = w' := by
 by_cases h1 : n < 0
 ·have e0 : polT n = ⟨#[]⟩ := by unfold polT; rw [if_neg (by omega)]
  rw [e0];clear e0;go_enter Tryd.func34, Tryd.ntmps34;go_wp2
  go_ret
  exact ⟨rfl, rfl⟩
 ·by_cases h2 : 3 ≤ n
  ·have e0 : polT n = ⟨#[]⟩ := by unfold polT; rw [if_neg (by omega)]
   rw [e0];clear e0;have d1 : decide (n < 0) = false := decide_eq_false h1;have d2 : decide (3 ≤ n) = true := decide_eq_true h2;clear h1 h2;go_enter Tryd.func34, Tryd.ntmps34;go_wp2
   go_ret
   exact ⟨rfl, rfl⟩
  ·have l1 := h.l2;have b0 := h.c2 0 _ rfl;have b1 := h.c2 1 _ rfl;have b2 := h.c2 2 _ rfl;have hn : n = 0 ∨ n = 1 ∨ n = 2 := by omega
   clear h h1 h2;rcases hn with rfl | rfl | rfl
   all_goals
    go_enter Tryd.func34, Tryd.ntmps34;go_wp2
    go_ret
    exact ⟨rfl, rfl⟩
theorem bytes_off {s t : ByteArray} (h : s ≠ t) : (s.toList == t.toList) = false := by
 rw [beq_eq_false_iff_ne];intro e
 apply h
 rw [Lib.toList_data, Lib.toList_data] at e;obtain ⟨⟨x⟩⟩ := s;obtain ⟨⟨y⟩⟩ := t
 simpa using e
theorem findB_drop {s : ByteArray} {l : List ByteArray} {j : Nat} {x : ByteArray} (h : l[j]? = some x) : findB s (l.drop j) j = if x = s then some j else findB s (l.drop (j + 1)) (j + 1) := by
 obtain ⟨hi, rfl⟩ := List.getElem?_eq_some_iff.1 h;rw [List.drop_eq_getElem_cons hi, findB]
theorem named_lvl (s : ByteArray) (w : World) (hs : s.size ≤ 9223372036854775807) (hT : Scrs w) :
  Calls Tryd.prog 41 #[.func (.func 33) #[] #[], .int .i64 3, .string s] w fun e w' => e = .returned (.tuple #[.int .i64 (namedR lvlL s).1, .int .i64 (namedR lvlL s).2]) ∧ w = w' := by
 have HF : Hid (∀ (j : Nat) (x : ByteArray), lvlL[j]? = some x → Calls Tryd.prog 33 #[.int .i64 ((j : Int) + 1)] w fun e w' => e = .returned (.string x) ∧ w = w') := Hd (fun j x hx => by
  have h1 := tlevel_any ((j : Int) + 1) w hT;have h2 : lvlT ((j : Int) + 1) = x := by
   have hj := (List.getElem?_eq_some_iff.1 hx).1;have hj3 : j < 3 := hj;unfold lvlT;rw [if_pos (by omega), show ((j : Int) + 1 - 1).toNat = j by omega, List.getD_eq_getElem?_getD, hx]
   rfl
  rwa [h2] at h1)
 obtain ⟨⟨ra, rb⟩, hr⟩ : ∃ r, namedR lvlL s = r := ⟨_, rfl⟩;rw [hr];have HRR := Hd hr;have HM : Hid (lvlL.length = 3) := Hd rfl;dsimp only;clear hr hT;go_enter Tryd.func41, Tryd.ntmps41;go_wp2_with fail
 go_loopw [8] (fun iv wr => ∃ j : Nat, iv = .int .i64 ((j : Int) + 1) ∧ j ≤ 3 ∧ Hid (findB s lvlL 0 = findB s (lvlL.drop j) j) ∧ wr = w) (fun iv _ => 3 + 1 - (intOf iv).toNat)
 case atStart => exact ⟨0, rfl, by omega, Hd rfl, rfl⟩
 case round =>
  obtain ⟨j, rfl, hj, hq, rfl⟩ := hrel
  by_cases hlt : j < 3
  ·obtain ⟨x, hx⟩ : ∃ x, lvlL[j]? = some x := ⟨_, List.getElem?_eq_getElem (by rw [HM.out]; exact hlt)⟩;have HC := Hd (HF.out j x hx);have HD := Hd (findB_drop (s := s) (l := lvlL) hx);have h01 : (j : Int) + 1 ≤ 3 := by omega
   have hwj : IntKind.i64.wrap ((j : Int) + 1 + 1) = (j : Int) + 1 + 1 := IntWalk.i64_in _ (by omega);clear hx
   by_cases e : x = s
   ·have HE : Hid (findB s lvlL 0 = some j) := Hd (by rw [hq.out, HD.out, if_pos e]);subst e;have hb : (x.toList == x.toList) = true := by simp
    go_wp2_with fail
    refine (HC.out).mono ?_;rintro e w2 ⟨rfl, rfl⟩;go_wp2
    go_ret2
    have h9 := HRR.out;unfold namedR at h9;rw [HE.out] at h9;obtain ⟨rfl, rfl⟩ := Prod.mk.inj h9;exact ⟨rfl, rfl⟩
   ·have HE : Hid (findB s lvlL 0 = findB s (lvlL.drop (j + 1)) (j + 1)) := Hd (by rw [hq.out, HD.out, if_neg e]);have hb : (x.toList == s.toList) = false := bytes_off e;clear e;go_wp2_with fail
    refine (HC.out).mono ?_;rintro e w2 ⟨rfl, rfl⟩;go_wp2
    go_roundw
    case rel => first | exact ⟨j + 1, by go_num, by omega, HE, rfl⟩ | exact ⟨j + 1, by go_num, by omega, HE, trivial⟩
    case measure => simp [intOf]; omega
  ·have hjm : j = 3 := by omega
   subst hjm;have HE : Hid (findB s lvlL 0 = none) := Hd (by rw [hq.out, List.drop_of_length_le (by rw [HM.out]; exact Nat.le_refl _)]; rfl);go_wp2
   go_ret2
   have h9 := HRR.out;unfold namedR at h9;rw [HE.out] at h9;obtain ⟨rfl, rfl⟩ := Prod.mk.inj h9;exact ⟨rfl, rfl⟩
theorem named_pol (s : ByteArray) (w : World) (hs : s.size ≤ 9223372036854775807) (hT : Scrs w) :
  Calls Tryd.prog 41 #[.func (.func 34) #[] #[], .int .i64 2, .string s] w fun e w' => e = .returned (.tuple #[.int .i64 (namedR polL s).1, .int .i64 (namedR polL s).2]) ∧ w = w' := by
 have HF : Hid (∀ (j : Nat) (x : ByteArray), polL[j]? = some x → Calls Tryd.prog 34 #[.int .i64 ((j : Int) + 1)] w fun e w' => e = .returned (.string x) ∧ w = w') := Hd (fun j x hx => by
  have h1 := tpolicy_any ((j : Int) + 1) w hT;have h2 : polT ((j : Int) + 1) = x := by
   have hj := (List.getElem?_eq_some_iff.1 hx).1;have hj3 : j < 2 := hj;unfold polT;rw [if_pos (by omega), show ((j : Int) + 1 - 1).toNat = j by omega, List.getD_eq_getElem?_getD, hx]
   rfl
  rwa [h2] at h1)
 obtain ⟨⟨ra, rb⟩, hr⟩ : ∃ r, namedR polL s = r := ⟨_, rfl⟩;rw [hr];have HRR := Hd hr;have HM : Hid (polL.length = 2) := Hd rfl;dsimp only;clear hr hT;go_enter Tryd.func41, Tryd.ntmps41;go_wp2_with fail
 go_loopw [8] (fun iv wr => ∃ j : Nat, iv = .int .i64 ((j : Int) + 1) ∧ j ≤ 2 ∧ Hid (findB s polL 0 = findB s (polL.drop j) j) ∧ wr = w) (fun iv _ => 2 + 1 - (intOf iv).toNat)
 case atStart => exact ⟨0, rfl, by omega, Hd rfl, rfl⟩
 case round =>
  obtain ⟨j, rfl, hj, hq, rfl⟩ := hrel
  by_cases hlt : j < 2
  ·obtain ⟨x, hx⟩ : ∃ x, polL[j]? = some x := ⟨_, List.getElem?_eq_getElem (by rw [HM.out]; exact hlt)⟩;have HC := Hd (HF.out j x hx);have HD := Hd (findB_drop (s := s) (l := polL) hx);have h01 : (j : Int) + 1 ≤ 2 := by omega
   have hwj : IntKind.i64.wrap ((j : Int) + 1 + 1) = (j : Int) + 1 + 1 := IntWalk.i64_in _ (by omega);clear hx
   by_cases e : x = s
   ·have HE : Hid (findB s polL 0 = some j) := Hd (by rw [hq.out, HD.out, if_pos e]);subst e;have hb : (x.toList == x.toList) = true := by simp
    go_wp2_with fail
    refine (HC.out).mono ?_;rintro e w2 ⟨rfl, rfl⟩;go_wp2
    go_ret2
    have h9 := HRR.out;unfold namedR at h9;rw [HE.out] at h9;obtain ⟨rfl, rfl⟩ := Prod.mk.inj h9;exact ⟨rfl, rfl⟩
   ·have HE : Hid (findB s polL 0 = findB s (polL.drop (j + 1)) (j + 1)) := Hd (by rw [hq.out, HD.out, if_neg e]);have hb : (x.toList == s.toList) = false := bytes_off e;clear e;go_wp2_with fail
    refine (HC.out).mono ?_;rintro e w2 ⟨rfl, rfl⟩;go_wp2
    go_roundw
    case rel => first | exact ⟨j + 1, by go_num, by omega, HE, rfl⟩ | exact ⟨j + 1, by go_num, by omega, HE, trivial⟩
    case measure => simp [intOf]; omega
  ·have hjm : j = 2 := by omega
   subst hjm;have HE : Hid (findB s polL 0 = none) := Hd (by rw [hq.out, List.drop_of_length_le (by rw [HM.out]; exact Nat.le_refl _)]; rfl);go_wp2
   go_ret2
   have h9 := HRR.out;unfold namedR at h9;rw [HE.out] at h9;obtain ⟨rfl, rfl⟩ := Prod.mk.inj h9;exact ⟨rfl, rfl⟩
end Go.Proofs.YtojpohmijlkagaaDoor
