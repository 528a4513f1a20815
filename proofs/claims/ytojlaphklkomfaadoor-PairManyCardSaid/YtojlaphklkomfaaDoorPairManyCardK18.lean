/- Which values may be: the package value's May. Contracts of the package event: May. -/
import Derived.Test.YtojlaphklkomfaaDoorPairManyCardK1
import Derived.Test.YtojlaphklkomfaaDoorPairManyCardK14
import Derived.Test.YtojlaphklkomfaaDoorPairManyCardK17
set_option linter.unusedVariables false
set_option linter.unusedSimpArgs false
namespace Go.Proofs.YtojlaphklkomfaaDoor
open Go.RowKit

def mayB (k n : Int) : Bool := decide (k = 1) || (decide (k = 0 ∨ k = 2) && decide (n = 0))

theorem ret_boolv {a b : Bool} (h : a = b) : Ending.returned (.bool a) = .returned (.bool b) := by rw [h]

set_option maxHeartbeats 400000 in
theorem vmay_any (k n : Int) (w : World) : Calls Tryd.prog 48 #[.agg #[.int .i64 k, .int .i64 n]] w fun e w' => e = .returned (.bool (mayB k n)) ∧ Only [] w w' := by
  unfold mayB
  by_cases h1 : k = 1
  · subst h1
    go_enter Tryd.func48, Tryd.ntmps48
    go_wp2
    go_ret
    exact ⟨by simp, (Only.refl _ _).alloc _⟩
  · have h1' : (k == 1) = false := by simp [h1]
    have H1 := Lib.hid h1
    clear h1
    by_cases h0 : k = 0
    · subst h0
      go_enter Tryd.func48, Tryd.ntmps48
      go_wp2
      go_ret
      exact ⟨ret_boolv (by simp; try (rw [Bool.eq_iff_iff]; simp)), (Only.refl _ _).alloc _⟩
    · have h0' : (k == 0) = false := by simp [h0]
      have H0 := Lib.hid h0
      clear h0
      by_cases h2 : k = 2
      · subst h2
        go_enter Tryd.func48, Tryd.ntmps48
        go_wp2
        go_ret
        exact ⟨ret_boolv (by simp; try (rw [Bool.eq_iff_iff]; simp)), (Only.refl _ _).alloc _⟩
      · have h2' : (k == 2) = false := by simp [h2]
        have H2 := Lib.hid h2
        clear h2
        go_enter Tryd.func48, Tryd.ntmps48
        go_wp2
        go_ret
        exact ⟨ret_boolv (by simp [H0.out, H1.out, H2.out]), (Only.refl _ _).alloc _⟩

end Go.Proofs.YtojlaphklkomfaaDoor

set_option linter.unusedVariables false
set_option linter.unusedSimpArgs false
namespace Go.Proofs.YtojlaphklkomfaaDoor
open Go.RowKit
open Go.Lib hiding intOf
attribute [local go_sem ↓] Go.wp_at_zero Go.wp_at_succ

/-- Whether an event may be. -/
def evOk (k : Int) (s y : ByteArray) (vk vn : Int) : Bool :=
  kOk k && isName s && (if kO k = true then (!(decide (k = 3) && decide (vk ≠ 1)) && (isName y && mayB vk vn)) else (decide (y = ⟨#[]⟩) && decide (vk = 0 ∧ vn = 0)))
def evA (k : Int) (s y : ByteArray) (vk vn ln : Int) : Array Value := #[.int .i64 k, .string s, .string y, .int .i64 vk, .int .i64 vn, .int .i64 ln]
def evV (k : Int) (s y : ByteArray) (vk vn ln : Int) : Value := .agg #[.int .i64 k, .string s, .string y, .int .i64 vk, .int .i64 vn, .int .i64 ln]

set_option maxRecDepth 10000 in
set_option maxHeartbeats 4000000 in
theorem evmay_any (k : Int) (s y : ByteArray) (vk vn ln : Int) (w : World) (hs : s.size ≤ 9223372036854775807) (hy : y.size ≤ 9223372036854775807) (hT : UTabs w) (hV : Verbs w) :
    Calls Tryd.prog 32 #[.agg #[.int .i64 k, .string s, .string y, .int .i64 vk, .int .i64 vn, .int .i64 ln]] w fun e w' => e = .returned (.bool (evOk k s y vk vn)) ∧ Only [] w w' := by
  obtain ⟨r, hr⟩ : ∃ r, r = evOk k s y vk vn := ⟨_, rfl⟩
  rw [← hr]
  have HK := Lib.hid (fun w' (hO : Only [] w w') => ofKind_any k w' (hV.only hO))
  have HS := Lib.hid (fun w' (hO : Only [] w w') => is_any s w' hs (hT.only hO))
  have HY := Lib.hid (fun w' (hO : Only [] w w') => is_any y w' hy (hT.only hO))
  have HM := Lib.hid (fun w' => vmay_any vk vn w')
  obtain ⟨kk, hkk⟩ : ∃ x, x = kN k := ⟨_, rfl⟩
  obtain ⟨kw, hkw⟩ : ∃ x, x = kW k := ⟨_, rfl⟩
  obtain ⟨ko, hko⟩ : ∃ x, x = kO k := ⟨_, rfl⟩
  obtain ⟨is, his⟩ : ∃ x, x = kOk k := ⟨_, rfl⟩
  obtain ⟨ns, hns⟩ : ∃ x, x = isName s := ⟨_, rfl⟩
  obtain ⟨ny, hny⟩ : ∃ x, x = isName y := ⟨_, rfl⟩
  obtain ⟨mv, hmv⟩ : ∃ x, x = mayB vk vn := ⟨_, rfl⟩
  unfold evOk at hr
  rw [← hko, ← his, ← hns, ← hny, ← hmv] at hr
  rw [← hkk, ← hkw, ← hko, ← his] at HK
  rw [← hns] at HS
  rw [← hny] at HY
  rw [← hmv] at HM
  have HR := Lib.hid hr
  have bE := Blk.made w 44 #[.int .i64 k, .string s, .string y, .int .i64 vk, .int .i64 vn, .int .i64 ln]
  have HO := Lib.hid ((Only.refl [] w).alloc (.cells #[.int .i64 k, .string s, .string y, .int .i64 vk, .int .i64 vn, .int .i64 ln] 44))
  have HE := Lib.hid bE
  clear hr hkk hkw hko his hns hny hmv hs hy hT hV bE
  go_enter Tryd.func32, Tryd.ntmps32
  go_wp2_with fail
  refine (HK.out _ HO.out).mono ?_
  rintro e w1 ⟨rfl, O1⟩
  have HO1 := Lib.hid ((HO.out.trans O1).alloc (.cells #[.int .i64 kk, .string kw, .bool ko] 85))
  have HE1 := Lib.hid ((O1.blk HE.out (by simp)).alloc (.cells #[.int .i64 kk, .string kw, .bool ko] 85))
  have HV1 := Lib.hid (Blk.made w1 85 #[.int .i64 kk, .string kw, .bool ko])
  have hw1 := HO1.out.size
  have e1 := (O1.blk HE.out (by simp)).at_ 1
  have l1 := (O1.blk HE.out (by simp)).lt
  simp at e1
  clear O1
  cases is with
  | false =>
    go_wp2
    go_ret
    exact ⟨by rw [HR.out]; rfl, HO1.out⟩
  | true =>
    go_wp2_with fail
    refine (HS.out _ HO1.out).mono ?_
    rintro e w2 ⟨rfl, O2⟩
    have HO2 := Lib.hid (HO1.out.trans O2)
    have bE2 := O2.blk HE1.out (by simp)
    have bV2 := O2.blk HV1.out (by simp)
    clear e1 l1 O2
    have lE := bE2.lt
    have lV := bV2.lt
    have f0 := bE2.at_ 0
    have f2 := bE2.at_ 2
    have f3 := bE2.at_ 3
    have f4 := bE2.at_ 4
    have v2 := bV2.at_ 2
    simp at f0 f2 f3 f4 v2
    cases ns with
    | false =>
      go_wp2
      go_ret
      exact ⟨by rw [HR.out]; rfl, HO2.out⟩
    | true =>
      cases ko with
      | false =>
        by_cases hy0 : y = ⟨#[]⟩
        · subst hy0
          by_cases h1 : vk = 0
          · subst h1
            by_cases h2 : vn = 0
            · subst h2
              go_wp2
              go_ret
              exact ⟨by rw [HR.out]; rfl, HO2.out⟩
            · have h2' : (vn == 0) = false := by simpa using h2
              have HX := Lib.hid h2
              clear h2
              go_wp2
              go_ret
              exact ⟨by rw [HR.out]; simp [HX.out], HO2.out⟩
          · have h1' : (vk == 0) = false := by simpa using h1
            have HX := Lib.hid h1
            clear h1
            go_wp2
            go_ret
            exact ⟨by rw [HR.out]; simp [HX.out], HO2.out⟩
        · have h0' : (y.toList == []) = false := (ev_ne (l := []) hy0).1
          have HX := Lib.hid hy0
          clear hy0
          go_wp2
          go_ret
          exact ⟨by rw [HR.out]; simp [HX.out], HO2.out⟩
      | true =>
        have HRK : Hid (r = (!(decide (k = 3) && decide (vk ≠ 1)) && (ny && mv))) := Lib.hid (by rw [HR.out]; simp)
        have hcase : (k = 3 ∧ (vk != 1) = true ∧ r = false) ∨ (k = 3 ∧ vk = 1 ∧ r = (ny && mv)) ∨ ((k == 3) = false ∧ r = (ny && mv)) := by
          rw [HRK.out]
          by_cases h3 : k = 3
          · by_cases h1 : vk = 1
            · exact .inr (.inl ⟨h3, h1, by simp [h3, h1]⟩)
            · exact .inl ⟨h3, by simp [h1], by simp [h3, h1]⟩
          · exact .inr (.inr ⟨by simp [h3], by simp [h3]⟩)
        clear HRK
        rcases hcase with ⟨rfl, q2, q3⟩ | ⟨rfl, rfl, q3⟩ | ⟨q1, q3⟩
        · have HQ := Lib.hid q3
          clear q3
          go_wp2
          go_ret
          exact ⟨by rw [HQ.out]; rfl, HO2.out⟩
        all_goals
          have HQ := Lib.hid q3
          clear q3
          go_wp2_with fail
          refine (HY.out _ HO2.out).mono ?_
          rintro e w3 ⟨rfl, O3⟩
          have HO3 := Lib.hid (HO2.out.trans O3)
          have bE3 := O3.blk bE2 (by simp)
          clear f0 f2 f3 f4 v2 lE lV O3
          have lE := bE3.lt
          have f3 := bE3.at_ 3
          have f4 := bE3.at_ 4
          simp at f3 f4
          cases ny with
          | false =>
            go_wp2
            go_ret
            exact ⟨by rw [HQ.out]; rfl, HO3.out⟩
          | true =>
            go_wp2_with fail
            refine (HM.out _).mono ?_
            rintro e w4 ⟨rfl, O4⟩
            have HO4 := Lib.hid (HO3.out.trans O4)
            clear O4
            go_wp2
            go_ret
            exact ⟨by rw [HQ.out]; rfl, HO4.out⟩

end Go.Proofs.YtojlaphklkomfaaDoor
