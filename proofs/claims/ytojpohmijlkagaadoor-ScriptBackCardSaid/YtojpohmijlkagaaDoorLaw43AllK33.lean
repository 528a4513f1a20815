/- Parts. -/
import Derived.Test.YtojpohmijlkagaaDoorLaw43AllK28
import Derived.Test.YtojpohmijlkagaaDoorLaw43AllK30
import Derived.Test.YtojpohmijlkagaaDoorLaw43AllK32
set_option maxRecDepth 10000
set_option maxHeartbeats 16000000
set_option linter.unusedVariables false
set_option linter.unusedSimpArgs false
namespace Go.Proofs.YtojpohmijlkagaaDoor
open Go.RowKit
open Go.Lib hiding intOf
attribute [local go_sem ↓] Go.wp_at_zero Go.wp_at_succ
theorem lvlT_at {j : Nat} {x : ByteArray} (hx : lvlL[j]? = some x) : lvlT ((j : Int) + 1) = x := by
 have hj3 : j < 3 := (List.getElem?_eq_some_iff.1 hx).1;unfold lvlT;rw [if_pos (by omega), show ((j : Int) + 1 - 1).toNat = j by omega, List.getD_eq_getElem?_getD, hx]
 rfl
theorem polT_at {j : Nat} {x : ByteArray} (hx : polL[j]? = some x) : polT ((j : Int) + 1) = x := by
 have hj3 : j < 2 := (List.getElem?_eq_some_iff.1 hx).1;unfold polT;rw [if_pos (by omega), show ((j : Int) + 1 - 1).toNat = j by omega, List.getD_eq_getElem?_getD, hx]
 rfl
theorem operR_one {kd : Int} (x : ByteArray) (h : ¬ 3 < kd) : operR kd [x] = if kd = 1 then namedR lvlL x else if kd = 2 then namedR polL x else if prE (by_ x) ≠ 0 then (0, prE (by_ x)) else if prN (by_ x) < 0 then (0, 2) else (prN (by_ x), 0) := by
 unfold operR;rw [if_neg h]
set_option maxRecDepth 100000 in
theorem rsecond_lvl (s : ByteArray) (w : World) (hs : s.size ≤ 9223372036854775807) :
  Calls Tryd.prog 46 #[.int .i64 1, .string s] w fun e w' => e = .returned (.tuple #[.int .i64 (namedR lvlL s).1, .int .i64 (namedR lvlL s).2]) ∧ Only [] w w' := by
 have HL := Hd (fun n w' => rlvl39_any n w');obtain ⟨⟨ra, rb⟩, hr⟩ : ∃ r, namedR lvlL s = r := ⟨_, rfl⟩;rw [hr];have HRR := Hd hr;have HM : Hid (lvlL.length = 3) := Hd rfl;dsimp only;clear hr;go_enter Tryd.func46, Tryd.ntmps46;go_wp2_with fail
 go_loopw [8] (fun iv wr => ∃ j : Nat, iv = .int .i64 ((j : Int) + 1) ∧ j ≤ 3 ∧ Hid (findB s lvlL 0 = findB s (lvlL.drop j) j) ∧ Hid (Only [] w wr)) (fun iv _ => 3 + 1 - (intOf iv).toNat)
 case atStart => exact ⟨0, rfl, by omega, Hd rfl, Hd (Only.refl _ _)⟩
 case round =>
  obtain ⟨j, rfl, hj, hq, hO⟩ := hrel
  by_cases hlt : j < 3
  ·obtain ⟨x, hx⟩ : ∃ x, lvlL[j]? = some x := ⟨_, List.getElem?_eq_getElem (by rw [HM.out]; exact hlt)⟩;have HC := Hd (HL.out ((j : Int) + 1) wr);rw [lvlT_at hx] at HC;have HD := Hd (findB_drop (s := s) (l := lvlL) hx);have h01 : (j : Int) + 1 < 4 := by omega
   have hwj : IntKind.i64.wrap ((j : Int) + 1 + 1) = (j : Int) + 1 + 1 := IntWalk.i64_in _ (by omega);clear hx
   by_cases e : x = s
   ·have HE : Hid (findB s lvlL 0 = some j) := Hd (by rw [hq.out, HD.out, if_pos e]);subst e;have hb : (x.toList == x.toList) = true := by simp
    go_wp2_with fail
    refine (HC.out).mono ?_;rintro e w2 ⟨rfl, O2⟩;have HO2 := Hd (hO.out.trans O2);clear O2;go_wp2
    go_ret2
    have h9 := HRR.out;unfold namedR at h9;rw [HE.out] at h9;obtain ⟨rfl, rfl⟩ := Prod.mk.inj h9;exact ⟨rfl, HO2.out⟩
   ·have HE : Hid (findB s lvlL 0 = findB s (lvlL.drop (j + 1)) (j + 1)) := Hd (by rw [hq.out, HD.out, if_neg e]);have hb : (x.toList == s.toList) = false := bytes_off e;clear e;go_wp2_with fail
    refine (HC.out).mono ?_;rintro e w2 ⟨rfl, O2⟩;have HO2 := Hd (hO.out.trans O2);clear O2;go_wp2
    go_roundw
    case rel => exact ⟨j + 1, by go_num, by omega, HE, HO2⟩
    case measure => simp [intOf]; omega
  ·have hjm : j = 3 := by omega
   subst hjm;have HE : Hid (findB s lvlL 0 = none) := Hd (by rw [hq.out, List.drop_of_length_le (by rw [HM.out]; exact Nat.le_refl _)]; rfl);go_wp2
   go_ret2
   have h9 := HRR.out;unfold namedR at h9;rw [HE.out] at h9;obtain ⟨rfl, rfl⟩ := Prod.mk.inj h9;exact ⟨rfl, hO.out⟩
set_option maxRecDepth 100000 in
theorem rsecond_pol (s : ByteArray) (w : World) (hs : s.size ≤ 9223372036854775807) :
  Calls Tryd.prog 46 #[.int .i64 2, .string s] w fun e w' => e = .returned (.tuple #[.int .i64 (namedR polL s).1, .int .i64 (namedR polL s).2]) ∧ Only [] w w' := by
 have HL := Hd (fun n w' => rpol39_any n w');obtain ⟨⟨ra, rb⟩, hr⟩ : ∃ r, namedR polL s = r := ⟨_, rfl⟩;rw [hr];have HRR := Hd hr;have HM : Hid (polL.length = 2) := Hd rfl;dsimp only;clear hr;go_enter Tryd.func46, Tryd.ntmps46;go_wp2_with fail
 go_loopw [8] (fun iv wr => ∃ j : Nat, iv = .int .i64 ((j : Int) + 1) ∧ j ≤ 3 ∧ Hid (findB s polL 0 = findB s (polL.drop j) j) ∧ Hid (Only [] w wr)) (fun iv _ => 3 + 1 - (intOf iv).toNat)
 case atStart => exact ⟨0, rfl, by omega, Hd rfl, Hd (Only.refl _ _)⟩
 case round =>
  obtain ⟨j, rfl, hj, hq, hO⟩ := hrel;have hwj : IntKind.i64.wrap ((j : Int) + 1 + 1) = (j : Int) + 1 + 1 := IntWalk.i64_in _ (by omega)
  by_cases hlt : j < 2
  ·obtain ⟨x, hx⟩ : ∃ x, polL[j]? = some x := ⟨_, List.getElem?_eq_getElem (by rw [HM.out]; exact hlt)⟩;have HC := Hd (HL.out ((j : Int) + 1) wr);rw [polT_at hx] at HC;have HD := Hd (findB_drop (s := s) (l := polL) hx);have h01 : (j : Int) + 1 < 4 := by omega
   have h02 : (j : Int) + 1 < 3 := by omega
   clear hx
   by_cases e : x = s
   ·have HE : Hid (findB s polL 0 = some j) := Hd (by rw [hq.out, HD.out, if_pos e]);subst e;have hb : (x.toList == x.toList) = true := by simp
    go_wp2_with fail
    refine (HC.out).mono ?_;rintro e w2 ⟨rfl, O2⟩;have HO2 := Hd (hO.out.trans O2);clear O2;go_wp2
    go_ret2
    have h9 := HRR.out;unfold namedR at h9;rw [HE.out] at h9;obtain ⟨rfl, rfl⟩ := Prod.mk.inj h9;exact ⟨rfl, HO2.out⟩
   ·have HE : Hid (findB s polL 0 = findB s (polL.drop (j + 1)) (j + 1)) := Hd (by rw [hq.out, HD.out, if_neg e]);have hb : (x.toList == s.toList) = false := bytes_off e;clear e;go_wp2_with fail
    refine (HC.out).mono ?_;rintro e w2 ⟨rfl, O2⟩;have HO2 := Hd (hO.out.trans O2);clear O2;go_wp2
    go_roundw
    case rel => exact ⟨j + 1, by go_num, by omega, HE, HO2⟩
    case measure => simp [intOf]; omega
  ·have HE : Hid (findB s polL 0 = none) := Hd (by rw [hq.out, List.drop_of_length_le (by rw [HM.out]; omega)]; rfl)
   by_cases hjm : j = 2
   ·subst hjm;go_wp2_with fail
    go_roundw
    case rel => exact ⟨3, by go_num, by omega, Hd (by rw [HE.out]; rfl), hO⟩
    case measure => simp [intOf]
   ·obtain rfl : j = 3 := by omega
    go_wp2
    go_ret2
    have h9 := HRR.out;unfold namedR at h9;rw [HE.out] at h9;obtain ⟨rfl, rfl⟩ := Prod.mk.inj h9;exact ⟨rfl, hO.out⟩
set_option maxRecDepth 100000 in
theorem rsecond_num (x : ByteArray) (w : World) (hs : x.size ≤ 70000) :
  Calls Tryd.prog 46 #[.int .i64 3, .string x] w fun e w' => e = .returned (.tuple #[.int .i64 (if prE (by_ x) ≠ 0 then ((0 : Int), prE (by_ x)) else if prN (by_ x) < 0 then (0, 2) else (prN (by_ x), 0)).1, .int .i64 (if prE (by_ x) ≠ 0 then ((0 : Int), prE (by_ x)) else if prN (by_ x) < 0 then (0, 2) else (prN (by_ x), 0)).2]) ∧ Only [] w w' := by
 have HD := Hd (rparse_any x w (by omega));rw [show x.data.toList = by_ x from rfl] at HD;have HO := Hd (Only.refl [] w);generalize prE (by_ x) = pe at *;generalize prN (by_ x) = pn at *
 by_cases e1 : pe = 0
 ·subst e1;rw [if_neg (by decide)]
  by_cases e2 : pn < 0
  ·rw [if_pos e2];go_enter Tryd.func46, Tryd.ntmps46;go_wp2_with fail
   refine (HD.out).mono ?_;rintro e w2 ⟨rfl, rfl⟩;go_wp2
   go_ret2
   exact ⟨rfl, HO.out⟩
  ·rw [if_neg e2];have d2 : decide (pn < 0) = false := decide_eq_false e2;clear e2;go_enter Tryd.func46, Tryd.ntmps46;go_wp2_with fail
   refine (HD.out).mono ?_;rintro e w2 ⟨rfl, rfl⟩;go_wp2
   go_ret2
   exact ⟨rfl, HO.out⟩
 ·rw [if_pos e1];have f1 : (pe == 0) = false := by simpa using e1
  have f2 : (pe != 0) = true := by simpa using e1
  clear e1;go_enter Tryd.func46, Tryd.ntmps46;go_wp2_with fail
  refine (HD.out).mono ?_;rintro e w2 ⟨rfl, rfl⟩;go_wp2
  go_ret2
  exact ⟨rfl, HO.out⟩
theorem rsecond_any (kd : Int) (x : ByteArray) (w : World) (h1 : 1 ≤ kd) (h3 : kd ≤ 3) (hs : x.size ≤ 70000) :
  Calls Tryd.prog 46 #[.int .i64 kd, .string x] w fun e w' => e = .returned (.tuple #[.int .i64 (operR kd [x]).1, .int .i64 (operR kd [x]).2]) ∧ Only [] w w' := by
 rw [operR_one x (by omega)];have : kd = 1 ∨ kd = 2 ∨ kd = 3 := by omega
 rcases this with rfl | rfl | rfl
 ·rw [if_pos rfl];exact rsecond_lvl x w (by omega)
 ·rw [if_neg (by decide), if_pos rfl];exact rsecond_pol x w (by omega)
 ·rw [if_neg (by decide), if_neg (by decide)];exact rsecond_num x w hs
end Go.Proofs.YtojpohmijlkagaaDoor
