/- Contracts of utf8.ValidString and of line.Runes. Contracts of the package name: Is. Which values may be: the package value's May. Contracts of the package event: May. What the package pair makes of events: parts, the maker; and how they lie in memory. A contract of the library at this program: what it asks of the program, field by field. Contracts of the package name: Less. -/
import Derived.Test.YthaeomdpaadilaaGreatDoorShowParsesCardK2
import Derived.OwnWalk
import Derived.Test.YthaeomdpaadilaaGreatDoorShowParsesCardK5
import Derived.Test.YthaeomdpaadilaaGreatDoorShowParsesCardK1
import Derived.Test.YthaeomdpaadilaaGreatDoorShowParsesCardK4
import Derived.Maps.OwnSet
import Derived.Test.YthaeomdpaadilaaGreatDoorProg
import Derived.Ground.NamesProg
import Derived.Shelf.Unicode.DecodeAny
set_option linter.unusedVariables false
set_option linter.unusedSimpArgs false
namespace Go.Proofs.YthaeomdpaadilaaGreatDoor
open Go.RowKit
open Go.Lib hiding intOf
attribute [local go_sem ↓] Go.wp_at_zero Go.wp_at_succ
def UTabs (w : World) : Prop := Lib.Utf8Tabs (Tryz.laysValid_ren.g 3) (Tryz.laysValid_ren.g 4) w
theorem UTabs.only {w w' : World} (h : UTabs w) (ho : Only [] w w') : UTabs w' := Utf8Tabs_below h (ho.below (Nat.le_refl _) (by simp))
theorem valid_any (x : ByteArray) (w : World) (hs : x.size ≤ 9223372036854775807) (hT : UTabs w) :
  Calls Tryz.prog 68 #[.string x] w fun e w' => e = .returned (.bool (validD (by_ x))) ∧ Only [] w w' := by
 have h : Calls Tryz.prog 68 #[.string x] w _ := Any.utf8_ValidString Tryz.laysValid x w hs hT
 exact h.mono fun e w' ⟨h1, h2⟩ => ⟨h1, Only.of_below h2 []⟩
end Go.Proofs.YthaeomdpaadilaaGreatDoor

set_option linter.unusedVariables false
set_option linter.unusedSimpArgs false
namespace Go.Proofs.YthaeomdpaadilaaGreatDoor
open Go.RowKit
open Go.Lib hiding intOf
attribute [local go_sem ↓] Go.wp_at_zero Go.wp_at_succ
theorem runes_dec (a : ByteArray) (pos : Nat) (h : pos < a.size) : runesL ((by_ a).drop pos) = (Utf8.decode a pos).1 :: runesL ((by_ a).drop (pos + (Utf8.decode a pos).2)) := by
 rw [runes_step (by intro e; have := congrArg List.length e; rw [List.length_drop, by_length] at this; simp at this; omega), decL_at, List.drop_drop]
theorem size_ne {c : ByteArray} (h : c ≠ ⟨#[]⟩) : 0 < c.size := by
 rcases Nat.eq_zero_or_pos c.size with h0 | h0
 ·exfalso
  refine h (by_inj ?_)
  have : (by_ c).length = 0 := by rw [by_length, h0]
  rw [List.eq_nil_of_length_eq_zero this]
  rfl
 ·exact h0
set_option maxHeartbeats 4000000 in
theorem is_any (s : ByteArray) (w : World) (hs : s.size ≤ 9223372036854775807) (hT : UTabs w) :
  Calls Tryz.prog 61 #[.string s] w fun e w' => e = .returned (.bool (isName s)) ∧ Only [] w w' := by
 have HV := Lib.hid (valid_any s w hs hT)
 have HRS := Lib.hid (fun w' => reserved_any s w')
 have HMY := Lib.hid (fun r w' => may_any r w')
 have HDG := Lib.hid (fun r w' => digit_any r w')
 obtain ⟨R, hR⟩ : ∃ R, R = isName s := ⟨_, rfl⟩
 rw [← hR]
 unfold isName at hR
 obtain ⟨v, hv⟩ : ∃ v, v = validD (by_ s) := ⟨_, rfl⟩
 obtain ⟨x, hx⟩ : ∃ x, x = reservedL (by_ s) := ⟨_, rfl⟩
 rw [← hv] at HV hR
 rw [← hx] at HRS hR
 have HR := Lib.hid hR
 clear hR hT hv hx
 go_enter Tryz.func61, Tryz.ntmps61
 go_wp2_with fail
 refine (HV.out).mono ?_
 rintro e w1 ⟨rfl, hO1⟩
 have HO1 := Lib.hid hO1
 clear hO1
 cases v with
 | false =>
  have HF : Hid (R = false) := Lib.hid (by rw [HR.out]; simp)
  go_wp2
  go_ret
  exact ⟨by first | (rw [HF.out]; done) | (rw [HF.out]; rfl), HO1.out⟩
 | true =>
  go_wp2_with fail
  refine (HRS.out w1).mono ?_
  rintro e w1' ⟨rfl, rfl⟩
  cases x with
  | true =>
   have HF : Hid (R = false) := Lib.hid (by rw [HR.out]; simp)
   go_wp2
   go_ret
   exact ⟨by first | (rw [HF.out]; done) | (rw [HF.out]; rfl), HO1.out⟩
  | false =>
   have HR2 : Hid (R = nameL (runesL (by_ s))) := Lib.hid (by rw [HR.out]; simp)
   clear HR HV HRS
   have hO1s := HO1.out.size
   go_wp2
   go_loopw [3] (fun nv wr => ∃ (pos k : Nat) (pre : List Nat), nv = .int .i64 k ∧ pos ≤ s.size ∧ k ≤ 20 ∧ Hid (pre.length = k) ∧ Hid (OkPre pre) ∧ Hid (runesL (by_ s) = pre ++ runesL ((by_ s).drop pos)) ∧ Hid (wr.heap[w1.heap.size]? = some (.stringIter s pos)) ∧ Hid (Only [] w wr)) (fun _ wr => s.size - wr.iterPos w1.heap.size)
   case atStart => exact ⟨0, 0, [], rfl, by omega, by omega, Lib.hid rfl, Lib.hid okPre_nil, Lib.hid rfl, Lib.hid (World.iter_heap w1 s 0), Lib.hid (HO1.out.alloc _)⟩
   case round =>
    obtain ⟨pos, k, pre, rfl, hpos, hk, HK, HOK, HRU, HIT, HO⟩ := hrel
    by_cases hp : pos < s.size
    ·have hnx : ∀ ty, (Instr.next (.pointer (some ⟨w1.heap.size, 0, none⟩)) true ty).run Tryz.prog wr = _ := fun ty => run_next_any_at wr w1.heap.size s pos ty HIT.out hp
     have hwd := width_le s pos hp
     have hip := iterPos_of HIT.out
     have HST := Lib.hid (runes_dec s pos hp)
     obtain ⟨⟨r, wd⟩, hdec⟩ : ∃ d, d = Utf8.decode s pos := ⟨_, rfl⟩
     rw [← hdec] at hnx hwd HST
     dsimp only at hwd
     have HIT2 := Lib.hid (iterAt_heap wr w1.heap.size s pos (pos + wd) HIT.out)
     have hip2 := iterPos_of HIT2.out
     have HO2 := Lib.hid (only_iter HO.out s (pos + wd) (k := w1.heap.size) (fun h => by omega))
     have HM1 := Lib.hid (fun w' => HMY.out r w')
     have HD1 := Lib.hid (fun w' => HDG.out r w')
     have HN : Hid (R = nameL (pre ++ r :: runesL ((by_ s).drop (pos + wd)))) := Lib.hid (by rw [HR2.out, HRU.out, HST.out])
     obtain ⟨w3, hw3⟩ : ∃ w3, w3 = wr.iterAt w1.heap.size s (pos + wd) := ⟨_, rfl⟩
     rw [← hw3] at hnx HIT2 HO2 hip2
     obtain ⟨m, hm⟩ : ∃ m, m = mayR r := ⟨_, rfl⟩
     obtain ⟨d, hd⟩ : ∃ d, d = digitR r := ⟨_, rfl⟩
     rw [← hm] at HM1
     rw [← hd] at HD1
     have hwd1 := hwd.1
     have hwd2 := hwd.2
     have HMM := Lib.hid hm
     have HDD := Lib.hid hd
     have hwk : IntKind.i64.wrap ((k : Int) + 1) = (k : Int) + 1 := IntWalk.i64_in _ (by omega)
     clear hdec hw3 hwd HIT HO hm hd
     cases m with
     | false =>
      have HF : Hid (R = false) := Lib.hid (by rw [HN.out]; exact name_bad1 _ _ _ HMM.out.symm)
      go_wp2_with fail
      refine (HM1.out _).mono ?_
      rintro e w4 ⟨rfl, rfl⟩
      go_wp2
      go_ret
      exact ⟨by first | (rw [HF.out]; done) | (rw [HF.out]; rfl), HO2.out⟩
     | true =>
      by_cases hk0 : k = 0
      ·subst hk0
       have hpn : pre = [] := List.eq_nil_of_length_eq_zero HK.out
       subst hpn
       go_wp2_with fail
       refine (HM1.out _).mono ?_
       rintro e w4 ⟨rfl, rfl⟩
       cases d with
       | true =>
        have HF : Hid (R = false) := Lib.hid (by rw [HN.out]; exact name_bad2 _ _ HDD.out.symm)
        go_wp2_with fail
        refine (HD1.out _).mono ?_
        rintro e w4 ⟨rfl, rfl⟩
        go_wp2
        go_ret
        exact ⟨by first | (rw [HF.out]; done) | (rw [HF.out]; rfl), HO2.out⟩
       | false =>
        have HOK2 := Lib.hid (okPre_snoc HOK.out HMM.out.symm (fun _ => HDD.out.symm))
        have HRU2 : Hid (runesL (by_ s) = ([] ++ [r]) ++ runesL ((by_ s).drop (pos + wd))) := Lib.hid (by rw [HRU.out, HST.out]; simp)
        clear HN
        go_wp2_with fail
        refine (HD1.out _).mono ?_
        rintro e w4 ⟨rfl, rfl⟩
        go_wp2
        go_roundw
        case rel => exact ⟨pos + wd, 1, [] ++ [r], rfl, by omega, by omega, Lib.hid rfl, HOK2, HRU2, HIT2, HO2⟩
        case measure => rw [hip, hip2]; omega
      ·have hk1 : ((k : Int) == 0) = false := by simp; omega
       by_cases hk20 : k = 20
       ·subst hk20
        have HF : Hid (R = false) := Lib.hid (by rw [HN.out]; exact name_bad3 _ _ _ HK.out)
        go_wp2_with fail
        refine (HM1.out _).mono ?_
        rintro e w4 ⟨rfl, rfl⟩
        go_wp2
        go_ret
        exact ⟨by first | (rw [HF.out]; done) | (rw [HF.out]; rfl), HO2.out⟩
       ·have hk2 : ((k : Int) == 20) = false := by simp; omega
        have HOK2 := Lib.hid (okPre_snoc HOK.out HMM.out.symm (fun e => by exfalso; have := HK.out; rw [e] at this; simp at this; omega))
        have HRU2 : Hid (runesL (by_ s) = (pre ++ [r]) ++ runesL ((by_ s).drop (pos + wd))) := Lib.hid (by rw [HRU.out, HST.out]; simp)
        have HK2 : Hid ((pre ++ [r]).length = k + 1) := Lib.hid (by rw [List.length_append, HK.out]; rfl)
        clear HN
        go_wp2_with fail
        refine (HM1.out _).mono ?_
        rintro e w4 ⟨rfl, rfl⟩
        go_wp2
        go_roundw
        case rel => exact ⟨pos + wd, k + 1, pre ++ [r], by go_num, by omega, by omega, HK2, HOK2, HRU2, HIT2, HO2⟩
        case measure => rw [hip, hip2]; omega
    ·have hnx : ∀ ty, (Instr.next (.pointer (some ⟨w1.heap.size, 0, none⟩)) true ty).run Tryz.prog wr = _ := fun ty => run_next_end_at wr w1.heap.size s pos ty HIT.out hp
     have hl : (by_ s).drop pos = [] := List.drop_of_length_le (by rw [by_length]; omega)
     have HF : Hid (R = decide (0 < k)) := Lib.hid (by rw [HR2.out, HRU.out, hl, runes_nil, List.append_nil, okPre_name HOK.out (by rw [HK.out]; exact hk), HK.out])
     clear hl
     go_wp2
     go_ret
     exact ⟨by first | (rw [HF.out]; done) | (rw [HF.out]; rfl), HO.out⟩
end Go.Proofs.YthaeomdpaadilaaGreatDoor

set_option linter.unusedVariables false
set_option linter.unusedSimpArgs false
namespace Go.Proofs.YthaeomdpaadilaaGreatDoor
open Go.RowKit
def mayB (k n : Int) : Bool := decide (k = 1) || (decide (k = 0 ∨ k = 2) && decide (n = 0))
theorem ret_boolv {a b : Bool} (h : a = b) : Ending.returned (.bool a) = .returned (.bool b) := by rw [h]
set_option maxHeartbeats 400000 in
theorem vmay_any (k n : Int) (w : World) : Calls Tryz.prog 59 #[.agg #[.int .i64 k, .int .i64 n]] w fun e w' => e = .returned (.bool (mayB k n)) ∧ Only [] w w' := by
 unfold mayB
 by_cases h1 : k = 1
 ·subst h1
  go_enter Tryz.func59, Tryz.ntmps59
  go_wp2
  go_ret
  exact ⟨by simp, (Only.refl _ _).alloc _⟩
 ·have h1' : (k == 1) = false := by simp [h1]
  have H1 := Lib.hid h1
  clear h1
  by_cases h0 : k = 0
  ·subst h0
   go_enter Tryz.func59, Tryz.ntmps59
   go_wp2
   go_ret
   exact ⟨ret_boolv (by simp; try (rw [Bool.eq_iff_iff]; simp)), (Only.refl _ _).alloc _⟩
  ·have h0' : (k == 0) = false := by simp [h0]
   have H0 := Lib.hid h0
   clear h0
   by_cases h2 : k = 2
   ·subst h2
    go_enter Tryz.func59, Tryz.ntmps59
    go_wp2
    go_ret
    exact ⟨ret_boolv (by simp; try (rw [Bool.eq_iff_iff]; simp)), (Only.refl _ _).alloc _⟩
   ·have h2' : (k == 2) = false := by simp [h2]
    have H2 := Lib.hid h2
    clear h2
    go_enter Tryz.func59, Tryz.ntmps59
    go_wp2
    go_ret
    exact ⟨ret_boolv (by simp [H0.out, H1.out, H2.out]), (Only.refl _ _).alloc _⟩
end Go.Proofs.YthaeomdpaadilaaGreatDoor

set_option linter.unusedVariables false
set_option linter.unusedSimpArgs false
namespace Go.Proofs.YthaeomdpaadilaaGreatDoor
open Go.RowKit
open Go.Lib hiding intOf
attribute [local go_sem ↓] Go.wp_at_zero Go.wp_at_succ
/-- Whether an event may be. -/
def evOk (k : Int) (s y : ByteArray) (vk vn : Int) : Bool :=
 kOk k && isName s && (if kO k = true then (!(decide (k = 3) && decide (vk ≠ 1)) && (isName y && mayB vk vn)) else (decide (y = ⟨#[]⟩) && decide (vk = 0 ∧ vn = 0)))
set_option maxRecDepth 10000 in
set_option maxHeartbeats 4000000 in
theorem evmay_any (k : Int) (s y : ByteArray) (vk vn ln : Int) (w : World) (hs : s.size ≤ 9223372036854775807) (hy : y.size ≤ 9223372036854775807) (hT : UTabs w) (hV : Verbs w) :
  Calls Tryz.prog 34 #[.agg #[.int .i64 k, .string s, .string y, .int .i64 vk, .int .i64 vn, .int .i64 ln]] w fun e w' => e = .returned (.bool (evOk k s y vk vn)) ∧ Only [] w w' := by
 obtain ⟨r, hr⟩ : ∃ r, r = evOk k s y vk vn := ⟨_, rfl⟩
 rw [← hr]
 have HK := Lib.hid (fun w' (hO : Only [] w w') => ofKind_any k w' (hV.only hO))
 have HS := Lib.hid (fun w' (hO : Only [] w w') => is_any s w' hs (hT.only hO))
 have HY := Lib.hid (fun w' (hO : Only [] w w') => is_any y w' hy (hT.only hO))
 have HM := Lib.hid (fun w' => vmay_any vk vn w')
 obtain ⟨kk, hkk⟩ : ∃ x, x = kN k := ⟨_, rfl⟩
 obtain ⟨kw, hkw⟩ : ∃ x, x = kW k := ⟨_, rfl⟩
 obtain ⟨ko, hko⟩ : ∃ x, x = kO k := ⟨_, rfl⟩
 obtain ⟨is, his⟩ : ∃ x, x = kOk k := ⟨_, rfl⟩
 obtain ⟨ns, hns⟩ : ∃ x, x = isName s := ⟨_, rfl⟩
 obtain ⟨ny, hny⟩ : ∃ x, x = isName y := ⟨_, rfl⟩
 obtain ⟨mv, hmv⟩ : ∃ x, x = mayB vk vn := ⟨_, rfl⟩
 unfold evOk at hr
 rw [← hko, ← his, ← hns, ← hny, ← hmv] at hr
 rw [← hkk, ← hkw, ← hko, ← his] at HK
 rw [← hns] at HS
 rw [← hny] at HY
 rw [← hmv] at HM
 have HR := Lib.hid hr
 have bE := Blk.made w 47 #[.int .i64 k, .string s, .string y, .int .i64 vk, .int .i64 vn, .int .i64 ln]
 have HO := Lib.hid ((Only.refl [] w).alloc (.cells #[.int .i64 k, .string s, .string y, .int .i64 vk, .int .i64 vn, .int .i64 ln] 47))
 have HE := Lib.hid bE
 clear hr hkk hkw hko his hns hny hmv hs hy hT hV bE
 go_enter Tryz.func34, Tryz.ntmps34
 go_wp2_with fail
 refine (HK.out _ HO.out).mono ?_
 rintro e w1 ⟨rfl, O1⟩
 have HO1 := Lib.hid ((HO.out.trans O1).alloc (.cells #[.int .i64 kk, .string kw, .bool ko] 103))
 have HE1 := Lib.hid ((O1.blk HE.out (by simp)).alloc (.cells #[.int .i64 kk, .string kw, .bool ko] 103))
 have HV1 := Lib.hid (Blk.made w1 103 #[.int .i64 kk, .string kw, .bool ko])
 have hw1 := HO1.out.size
 have e1 := (O1.blk HE.out (by simp)).at_ 1
 have l1 := (O1.blk HE.out (by simp)).lt
 simp at e1
 clear O1
 cases is with
 | false =>
  go_wp2
  go_ret
  exact ⟨by rw [HR.out]; rfl, HO1.out⟩
 | true =>
  go_wp2_with fail
  refine (HS.out _ HO1.out).mono ?_
  rintro e w2 ⟨rfl, O2⟩
  have HO2 := Lib.hid (HO1.out.trans O2)
  have bE2 := O2.blk HE1.out (by simp)
  have bV2 := O2.blk HV1.out (by simp)
  clear e1 l1 O2
  have lE := bE2.lt
  have lV := bV2.lt
  have f0 := bE2.at_ 0
  have f2 := bE2.at_ 2
  have f3 := bE2.at_ 3
  have f4 := bE2.at_ 4
  have v2 := bV2.at_ 2
  simp at f0 f2 f3 f4 v2
  cases ns with
  | false =>
   go_wp2
   go_ret
   exact ⟨by rw [HR.out]; rfl, HO2.out⟩
  | true =>
   cases ko with
   | false =>
    by_cases hy0 : y = ⟨#[]⟩
    ·subst hy0
     by_cases h1 : vk = 0
     ·subst h1
      by_cases h2 : vn = 0
      ·subst h2
       go_wp2
       go_ret
       exact ⟨by rw [HR.out]; rfl, HO2.out⟩
      ·have h2' : (vn == 0) = false := by simpa using h2
       have HX := Lib.hid h2
       clear h2
       go_wp2
       go_ret
       exact ⟨by rw [HR.out]; simp [HX.out], HO2.out⟩
     ·have h1' : (vk == 0) = false := by simpa using h1
      have HX := Lib.hid h1
      clear h1
      go_wp2
      go_ret
      exact ⟨by rw [HR.out]; simp [HX.out], HO2.out⟩
    ·have h0' : (y.toList == []) = false := (ev_ne (l := []) hy0).1
     have HX := Lib.hid hy0
     clear hy0
     go_wp2
     go_ret
     exact ⟨by rw [HR.out]; simp [HX.out], HO2.out⟩
   | true =>
    have HRK : Hid (r = (!(decide (k = 3) && decide (vk ≠ 1)) && (ny && mv))) := Lib.hid (by rw [HR.out]; simp)
    have hcase : (k = 3 ∧ (vk != 1) = true ∧ r = false) ∨ (k = 3 ∧ vk = 1 ∧ r = (ny && mv)) ∨ ((k == 3) = false ∧ r = (ny && mv)) := by
     rw [HRK.out]
     by_cases h3 : k = 3
     ·by_cases h1 : vk = 1
      ·exact .inr (.inl ⟨h3, h1, by simp [h3, h1]⟩)
      ·exact .inl ⟨h3, by simp [h1], by simp [h3, h1]⟩
     ·exact .inr (.inr ⟨by simp [h3], by simp [h3]⟩)
    clear HRK
    rcases hcase with ⟨rfl, q2, q3⟩ | ⟨rfl, rfl, q3⟩ | ⟨q1, q3⟩
    ·have HQ := Lib.hid q3
     clear q3
     go_wp2
     go_ret
     exact ⟨by rw [HQ.out]; rfl, HO2.out⟩
    all_goals
     have HQ := Lib.hid q3
     clear q3
     go_wp2_with fail
     refine (HY.out _ HO2.out).mono ?_
     rintro e w3 ⟨rfl, O3⟩
     have HO3 := Lib.hid (HO2.out.trans O3)
     have bE3 := O3.blk bE2 (by simp)
     clear f0 f2 f3 f4 v2 lE lV O3
     have lE := bE3.lt
     have f3 := bE3.at_ 3
     have f4 := bE3.at_ 4
     simp at f3 f4
     cases ny with
     | false =>
      go_wp2
      go_ret
      exact ⟨by rw [HQ.out]; rfl, HO3.out⟩
     | true =>
      go_wp2_with fail
      refine (HM.out _).mono ?_
      rintro e w4 ⟨rfl, O4⟩
      have HO4 := Lib.hid (HO3.out.trans O4)
      clear O4
      go_wp2
      go_ret
      exact ⟨by rw [HQ.out]; rfl, HO4.out⟩
end Go.Proofs.YthaeomdpaadilaaGreatDoor

set_option linter.unusedVariables false
set_option linter.unusedSimpArgs false
namespace Go.Proofs.YthaeomdpaadilaaGreatDoor
open Go.RowKit
open Go.Lib hiding intOf
/-- A transaction as far as its events go. -/
structure Pt where
 s : ByteArray
 f : Int
 ln : Int
 ks : List ByteArray
 ops : List Op4
structure Mk where
 ps : List Pt
 ss : List ByteArray
 ks : List ByteArray
/-- The number of a session's open transaction. -/
def openI (ps : List Pt) (s : ByteArray) : Option Nat := ps.findIdx? fun p => decide (p.s = s) && decide (p.f = 0)
def withB (t : List ByteArray) (s : ByteArray) : List ByteArray := if 0 ≤ posB t s then t else sortB (t ++ [s])
def fateE (k : Int) : Int := if k = 4 then 1 else if k = 5 then 2 else 3
def beginE (m : Mk) (a : Ev6) : Int := if (withB m.ss a.s).length > 20 ∨ m.ps.length = 40 then 7 else 0
def beginM (m : Mk) (a : Ev6) : Mk := if (withB m.ss a.s).length > 20 ∨ m.ps.length = 40 then m else ⟨m.ps ++ [⟨a.s, 0, a.ln, [], []⟩], withB m.ss a.s, m.ks⟩
def addP (p : Pt) (a : Ev6) : Pt := { p with ks := p.ks ++ [a.y], ops := p.ops ++ [⟨decide (a.k = 3), 0, a.vk, a.vn⟩] }
def addE (m : Mk) (p : Pt) (a : Ev6) : Int := if p.ops.length = 20 ∨ (withB m.ks a.y).length > 40 then 7 else 0
def addM (m : Mk) (i : Nat) (p : Pt) (a : Ev6) : Mk := if p.ops.length = 20 ∨ (withB m.ks a.y).length > 40 then m else ⟨m.ps.set i (addP p a), m.ss, withB m.ks a.y⟩
def takeE (m : Mk) (a : Ev6) : Int :=
 if evOk a.k a.s a.y a.vk a.vn = false then 4 else
 match openI m.ps a.s with
 | some i => if a.k = 1 then 9 else if a.k = 2 ∨ a.k = 3 then (match m.ps[i]? with | some p => addE m p a | none => 0) else 0
 | none => if a.k = 1 then beginE m a else 10
def takeM (m : Mk) (a : Ev6) : Mk :=
 if evOk a.k a.s a.y a.vk a.vn = false then m else
 match openI m.ps a.s with
 | some i => if a.k = 1 then m else (match m.ps[i]? with | some p => if a.k = 2 ∨ a.k = 3 then addM m i p a else ⟨m.ps.set i { p with f := fateE a.k }, m.ss, m.ks⟩ | none => m)
 | none => if a.k = 1 then beginM m a else m
/-- The cells of a part. -/
structure PtA where
 p : Pt
 A : Option Addr
 c : Nat
 Z : Option Addr
 d : Nat
def PtA.c5 (x : PtA) : List Value := [.string x.p.s, .int .i64 x.p.f, .int .i64 x.p.ln, .slice x.A x.p.ks.length x.c, .slice x.Z x.p.ops.length x.d]
def ptC (l : List PtA) : List Value := l.flatMap PtA.c5
theorem ptC_len (l : List PtA) : (ptC l).length = l.length * 5 := flat_len _ 5 (fun _ => rfl) l
theorem ptC_get (l : List PtA) (i : Nat) (x : PtA) (h : l[i]? = some x) : ∀ j, j < 5 → (ptC l)[i * 5 + j]? = x.c5[j]? := flat_get _ 5 (fun _ => rfl) l i x h
theorem ptC_append (l k : List PtA) : ptC (l ++ k) = ptC l ++ ptC k := by simp [ptC]
theorem flat_set {α : Type} (f : α → List Value) (n : Nat) (h : ∀ x, (f x).length = n) : ∀ (l : List α) (i j : Nat) (x y : α) (u : Value), l[i]? = some x → j < n → f y = (f x).set j u → (l.flatMap f).set (i * n + j) u = (l.set i y).flatMap f
 | [], i, j, x, y, u, hx, _, _ => by simp at hx
 | z :: l, 0, j, x, y, u, hx, hj, hy => by
  simp at hx
  subst hx
  rw [List.set_cons_zero, List.flatMap_cons, List.flatMap_cons, hy, Nat.zero_mul, Nat.zero_add, List.set_append_left _ _ (by rw [h]; exact hj)]
 | z :: l, i + 1, j, x, y, u, hx, hj, hy => by
  have := flat_set f n h l i j x y u (by simpa using hx) hj hy
  rw [List.set_cons_succ, List.flatMap_cons, List.flatMap_cons, ← this, List.set_append_right _ _ (by rw [h, Nat.add_mul]; omega)]
  congr 2
  rw [h, Nat.add_mul]
  omega
theorem ptC_set (l : List PtA) (i j : Nat) (x y : PtA) (u : Value) (hx : l[i]? = some x) (hj : j < 5) (hy : y.c5 = x.c5.set j u) : (ptC l).set (i * 5 + j) u = ptC (l.set i y) := flat_set _ 5 (fun _ => rfl) l i j x y u hx hj hy
/-- A cell of a row of the call's own is written. -/
theorem own_set {w : World} {base : Nat} {e : TypeId} {size : Nat} {v : Value} {n : Nat} {xs : List Value} {g : Nat} (h : w.ownsRow base e size v n xs) (hg : v.ownBlock = some g) {j : Nat} (hj : j < xs.length) (u : Value) :
  (w.setCell ⟨g, j, none⟩ u).ownsRow base e size v n (xs.set j u) := by
 obtain ⟨h0, ⟨rfl, -⟩ | ⟨g', cap, cur, rfl, h1, h2, h3, h4, h5, h6⟩⟩ := h
 ·simp [Value.ownBlock] at hg
 ·obtain rfl : g' = g := by simpa [Value.ownBlock] using hg
  refine ⟨by simpa using h0, .inr ⟨g', cap, cur.setIfInBounds j u, rfl, h1, Blk.put h2 j u, h3, h4, by simpa using h5, ?_⟩⟩
  rw [Array.toList_setIfInBounds, ← h6]
  have hjl : j < n * size := by omega
  apply List.ext_getElem?
  intro k
  by_cases hk : k < n * size
  ·rw [List.getElem?_take_of_lt hk, List.getElem?_set, List.getElem?_set, List.getElem?_take_of_lt hk]
   have : (List.take (n * size) cur.toList).length = n * size := by rw [h6]; exact h0
   by_cases hjk : j = k
   ·subst hjk
    rw [if_pos rfl, if_pos rfl, if_pos (by have h9 := this; rw [List.length_take] at h9; omega), if_pos (by rw [this]; exact hk)]
   ·rw [if_neg hjk, if_neg hjk]
  ·rw [List.getElem?_eq_none (by rw [List.length_take]; omega), List.getElem?_eq_none (by rw [List.length_set, List.length_take]; omega)]
theorem own_cell {w : World} {base : Nat} {e : TypeId} {size : Nat} {v : Value} {n : Nat} {xs : List Value} {g : Nat} (h : w.ownsRow base e size v n xs) (hg : v.ownBlock = some g) {j : Nat} {u : Value} (hj : xs[j]? = some u) :
  w.cell? ⟨g, j, none⟩ = some u ∧ w.frozen? ⟨g, j, none⟩ = false := by
 obtain ⟨cur, hb⟩ := own_blk h hg
 have := h.cells hg j u hj
 refine ⟨?_, hb.free j⟩
 have e' : (⟨g, 0, none⟩ : Addr).add j = ⟨g, j, none⟩ := by
  unfold Addr.add
  split
  ·rename_i h; subst h; rfl
  ·simp
 rwa [e'] at this
end Go.Proofs.YthaeomdpaadilaaGreatDoor

namespace Go.Proofs
open Go.Shelf
def Tryz.laysDecode_ren : Go.Shelf.Ren := ⟨fun | 197 => 108 | 260 => 116 | n => n, fun | 9 => 9 | 21 => 21 | 3 => 3 | 4 => 4 | 5 => 5 | 105 => 157 | 119 => 141 | 0 => 0 | 46 => 145 | 139 => 144 | 138 => 143 | n => n, fun | 3 => 1 | 4 => 2 | n => n⟩
theorem Tryz.laysDecode : Go.Proofs.Lays.n197 Tryz.prog Tryz.laysDecode_ren := {
 mixed := by kernel_rfl
 f197 := Tryz.func108.trans (congrArg some (by kernel_rfl))
 f260 := Tryz.func116.trans (congrArg some (by kernel_rfl))
 t0 := Tryz.underlying0
 a0 := Tryz.isAgg0
 z0 := Tryz.sizeOf0
 v0 := Tryz.zeroValue0
 t3 := Tryz.underlying3
 a3 := Tryz.isAgg3
 z3 := Tryz.sizeOf3
 v3 := Tryz.zeroValue3
 t4 := Tryz.underlying4
 a4 := Tryz.isAgg4
 z4 := Tryz.sizeOf4
 v4 := Tryz.zeroValue4
 t5 := Tryz.underlying5
 a5 := Tryz.isAgg5
 z5 := Tryz.sizeOf5
 v5 := Tryz.zeroValue5
 t9 := Tryz.underlying9
 a9 := Tryz.isAgg9
 z9 := Tryz.sizeOf9
 v9 := Tryz.zeroValue9
 t21 := Tryz.underlying21
 a21 := Tryz.isAgg21
 z21 := Tryz.sizeOf21
 v21 := Tryz.zeroValue21
 t46 := Tryz.underlying145
 a46 := Tryz.isAgg145
 z46 := Tryz.sizeOf145
 v46 := Tryz.zeroValue145
 t105 := Tryz.underlying157
 a105 := Tryz.isAgg157
 z105 := Tryz.sizeOf157
 v105 := Tryz.zeroValue157
 t119 := Tryz.underlying141
 a119 := Tryz.isAgg141
 z119 := Tryz.sizeOf141
 t138 := Tryz.underlying143
 a138 := Tryz.isAgg143
 z138 := Tryz.sizeOf143
 v138 := Tryz.zeroValue143
 t139 := Tryz.underlying144
 a139 := Tryz.isAgg144
 z139 := Tryz.sizeOf144
 v139 := Tryz.zeroValue144
 g3 := by kernel_rfl
 g4 := by kernel_rfl }
end Go.Proofs

set_option linter.unusedVariables false
set_option linter.unusedSimpArgs false
namespace Go.Proofs.YthaeomdpaadilaaGreatDoor
open Go.RowKit
open Go.Lib hiding intOf
attribute [local go_sem ↓] Go.wp_at_zero Go.wp_at_succ
theorem decode_any (c : ByteArray) (w : World) (hT : UTabs w) :
  Calls Tryz.prog 108 #[.string c] w fun e w' => e = .returned (.tuple #[.int .i32 ((Lib.decodeGo c).1 : Nat), .int .i64 ((Lib.decodeGo c).2 : Nat)]) ∧ Only [] w w' := by
 have h : Calls Tryz.prog 108 #[.string c] w _ := Any.utf8_DecodeRuneInString Tryz.laysDecode c w hT
 exact h.mono fun e w' ⟨h1, h2⟩ => ⟨h1, Only.of_below h2 []⟩
theorem decode_none (w : World) (hT : UTabs w) :
  Calls Tryz.prog 108 #[.string ⟨#[]⟩] w fun e w' => e = .returned (.tuple #[.int .i32 65533, .int .i64 0]) ∧ Only [] w w' := decode_any ⟨#[]⟩ w hT
theorem decodeGo_some {c : ByteArray} (h : 0 < c.size) : Lib.decodeGo c = decodeL (by_ c) := by
 unfold Lib.decodeGo
 rw [if_neg (by omega), ← decL_at c 0, List.drop_zero]
set_option maxHeartbeats 4000000 in
theorem less_any (a b : ByteArray) (w : World) (ha : a.size ≤ 9223372036854775807) (hb : b.size ≤ 9223372036854775807) (hT : UTabs w) :
  Calls Tryz.prog 83 #[.string a, .string b] w fun e w' => e = .returned (.bool (lessL (runesL (by_ a)) (runesL (by_ b)))) ∧ Only [] w w' := by
 obtain ⟨R, hR⟩ : ∃ R, R = lessL (runesL (by_ a)) (runesL (by_ b)) := ⟨_, rfl⟩
 rw [← hR]
 have HD := Lib.hid (fun c (w' : World) (hO : Only [] w w') => decode_any c w' (hT.only hO))
 have HD0 := Lib.hid (fun (w' : World) (hO : Only [] w w') => decode_none w' (hT.only hO))
 have HR := Lib.hid hR
 clear hR hT
 go_enter Tryz.func83, Tryz.ntmps83
 go_wp2
 go_loopw [1] (fun bv wr => ∃ (pos : Nat) (c : ByteArray), bv = .string c ∧ pos ≤ a.size ∧ c.size ≤ 9223372036854775807 ∧ Hid (R = lessL (runesL ((by_ a).drop pos)) (runesL (by_ c))) ∧ Hid (wr.heap[w.heap.size]? = some (.stringIter a pos)) ∧ Hid (Only [] w wr)) (fun _ wr => a.size - wr.iterPos w.heap.size)
 case atStart => exact ⟨0, b, rfl, by omega, hb, Lib.hid (by rw [List.drop_zero]; exact HR.out), Lib.hid (World.iter_heap w a 0), Lib.hid ((Only.refl [] w).alloc _)⟩
 case round =>
  obtain ⟨pos, c, rfl, hpos, hc, HL, HIT, HO⟩ := hrel
  by_cases hp : pos < a.size
  ·have hnx : ∀ ty, (Instr.next (.pointer (some ⟨w.heap.size, 0, none⟩)) true ty).run Tryz.prog wr = _ := fun ty => run_next_any_at wr w.heap.size a pos ty HIT.out hp
   have hwd := width_le a pos hp
   have hip := iterPos_of HIT.out
   have HST := Lib.hid (runes_dec a pos hp)
   obtain ⟨⟨r, wd⟩, hdec⟩ : ∃ d, d = Utf8.decode a pos := ⟨_, rfl⟩
   rw [← hdec] at hnx hwd HST
   dsimp only at hwd
   have HIT2 := Lib.hid (iterAt_heap wr w.heap.size a pos (pos + wd) HIT.out)
   have HO2 := Lib.hid (only_iter HO.out a (pos + wd) (k := w.heap.size) (fun h => by omega))
   have hO2s := HO2.out.size
   have HD1 := Lib.hid (HD.out c _ HO2.out)
   obtain ⟨w3, hw3⟩ : ∃ w3, w3 = wr.iterAt w.heap.size a (pos + wd) := ⟨_, rfl⟩
   rw [← hw3] at hnx HIT2 HO2 hO2s HD1
   have hw0 : w.heap.size < w3.heap.size := (Array.getElem?_eq_some_iff.1 HIT2.out).1
   have hwd1 := hwd.1
   have hwd2 := hwd.2
   clear hdec hw3 hwd HIT HO
   by_cases hce : c = ⟨#[]⟩
   ·subst hce
    have HD1 := Lib.hid (HD0.out _ HO2.out)
    have HF : Hid (R = false) := Lib.hid (by rw [HL.out, HST.out]; rfl)
    clear HST HL hc
    go_wp2_with fail
    refine (HD1.out).mono ?_
    rintro e w4 ⟨rfl, hO4⟩
    have HO4 := Lib.hid (HO2.out.trans hO4)
    clear hO4
    go_wp2
    go_ret
    exact ⟨by first | (rw [HF.out]; done) | (rw [HF.out]; rfl), HO4.out⟩
   ·have hcs := size_ne hce
    have hne : by_ c ≠ [] := fun e => by
     have h0 : c.size = 0 := by rw [← by_length, e]; rfl
     omega
    have HST2 := Lib.hid (runes_step hne)
    have hk1 := dec_pos hne
    have hk2 : (decodeL (by_ c)).2 ≤ c.size := by rw [← by_length]; exact decodeL_le _ hne
    rw [decodeGo_some hcs] at HD1
    obtain ⟨⟨q, n⟩, hqn⟩ : ∃ d, d = decodeL (by_ c) := ⟨_, rfl⟩
    rw [← hqn] at HD1 HST2 hk1 hk2
    dsimp only at HD1 hk1 hk2
    have hn0 : ((n : Int) == 0) = false := by simp; omega
    clear hqn hne hce
    by_cases hrq : r = q
    ·subst hrq
     have hrr : ((r : Int) != (r : Int)) = false := by simp
     have hn1 : (0 : Int) ≤ (n : Int) := Int.natCast_nonneg _
     have hn2 : (n : Int) ≤ (c.size : Int) := by omega
     have HL2 : Hid (R = lessL (runesL ((by_ a).drop (pos + wd))) (runesL (by_ (c.extract n c.size)))) := Lib.hid (by
      rw [HL.out, HST.out, HST2.out, less_same, by_extract, ← by_length c, List.take_length])
     have hcs2 : (c.extract n c.size).size ≤ 9223372036854775807 := by
      rw [ByteArray.size_extract]
      omega
     have HCS2 := Lib.hid hcs2
     clear HL HST HST2 hcs2
     go_wp2_with fail
     refine (HD1.out).mono ?_
     rintro e w4 ⟨rfl, hO4⟩
     have HO4 := Lib.hid (HO2.out.trans hO4)
     have HIT4 := Lib.hid ((hO4.keeps w.heap.size hw0 (by simp)).trans HIT2.out)
     have hip2 := iterPos_of HIT4.out
     clear hO4
     go_wp2
     go_roundw
     case rel => exact ⟨pos + wd, _, rfl, by omega, HCS2.out, HL2, HIT4, HO4⟩
     case measure => rw [hip, hip2]; omega
    ·have hrr : ((r : Int) != (q : Int)) = true := by simp; omega
     have hn1 : (0 : Int) < (n : Int) := by omega
     have HF : Hid (R = decide (r < q)) := Lib.hid (by rw [HL.out, HST.out, HST2.out, less_unlike _ _ hrq])
     clear HL HST HST2
     go_wp2_with fail
     refine (HD1.out).mono ?_
     rintro e w4 ⟨rfl, hO4⟩
     have HO4 := Lib.hid (HO2.out.trans hO4)
     clear hO4
     go_wp2
     go_ret
     exact ⟨by first | (rw [HF.out]; done) | (rw [HF.out]; rfl), HO4.out⟩
  ·have hnx : ∀ ty, (Instr.next (.pointer (some ⟨w.heap.size, 0, none⟩)) true ty).run Tryz.prog wr = _ := fun ty => run_next_end_at wr w.heap.size a pos ty HIT.out hp
   have hl : (by_ a).drop pos = [] := List.drop_of_length_le (by rw [by_length]; omega)
   by_cases hce : c = ⟨#[]⟩
   ·subst hce
    have HF : Hid (R = false) := Lib.hid (by rw [HL.out, hl]; rfl)
    clear HL hl hc
    go_wp2
    go_ret
    exact ⟨by first | (rw [HF.out]; done) | (rw [HF.out]; rfl), HO.out⟩
   ·have hcs := size_ne hce
    have hne : by_ c ≠ [] := fun e => by
     have h0 : c.size = 0 := by rw [← by_length, e]; rfl
     omega
    have HF : Hid (R = true) := Lib.hid (by rw [HL.out, hl, runes_step hne]; rfl)
    have hcn : c.toList.isEmpty = false := by
     rw [Lib.toList_data]
     cases hb : c.data.toList with
     | nil => exact absurd hb hne
     | cons x t => rfl
    clear HL hl hc hne hcs hce
    go_wp2
    go_ret
    exact ⟨by first | (rw [HF.out]; done) | (rw [HF.out]; rfl), HO.out⟩
end Go.Proofs.YthaeomdpaadilaaGreatDoor
