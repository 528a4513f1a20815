/- Parts. -/
import Derived.Test.YtojlaphklkomfaaDoorPairMakesCardK8
import Derived.Test.YtojlaphklkomfaaDoorPairMakesCardK7
set_option maxRecDepth 10000
set_option maxHeartbeats 16000000
set_option linter.unusedVariables false
set_option linter.unusedSimpArgs false
namespace Go.Proofs.YtojlaphklkomfaaDoor
open Go.RowKit
open Go.Lib hiding intOf
attribute [local go_sem ↓] Go.wp_at_zero Go.wp_at_succ
def UTabs (w : World) : Prop := Lib.Utf8Tabs (Tryd.laysValid_ren.g 3) (Tryd.laysValid_ren.g 4) w
theorem UTabs.only {w w' : World} (h : UTabs w) (ho : Only [] w w') : UTabs w' := Utf8Tabs_below h (ho.below (Nat.le_refl _) (by simp))
theorem valid_any (x : ByteArray) (w : World) (hs : x.size ≤ 9223372036854775807) (hT : UTabs w) :
  Calls Tryd.prog 54 #[.string x] w fun e w' => e = .returned (.bool (validD (by_ x))) ∧ Only [] w w' := by
 have h : Calls Tryd.prog 54 #[.string x] w _ := Any.utf8_ValidString Tryd.laysValid x w hs hT;exact h.mono fun e w' ⟨h1, h2⟩ => ⟨h1, Only.of_below h2 []⟩
theorem runes_dec (a : ByteArray) (pos : Nat) (h : pos < a.size) : runesL ((by_ a).drop pos) = (Utf8.decode a pos).1 :: runesL ((by_ a).drop (pos + (Utf8.decode a pos).2)) := by
 rw [runes_step (by intro e; have := congrArg List.length e; rw [List.length_drop, by_length] at this; simp at this; omega), decL_at, List.drop_drop]
theorem size_ne {c : ByteArray} (h : c ≠ ⟨#[]⟩) : 0 < c.size := by
 rcases Nat.eq_zero_or_pos c.size with h0 | h0
 ·exfalso
  refine h (by_inj ?_);have : (by_ c).length = 0 := by rw [by_length, h0]
  rw [List.eq_nil_of_length_eq_zero this]
  rfl
 ·exact h0
theorem is_any (s : ByteArray) (w : World) (hs : s.size ≤ 9223372036854775807) (hT : UTabs w) :
  Calls Tryd.prog 43 #[.string s] w fun e w' => e = .returned (.bool (isName s)) ∧ Only [] w w' := by
 have HV := Hd (valid_any s w hs hT);have HRS := Hd (fun w' => reserved_any s w');have HMY := Hd (fun r w' => may_any r w');have HDG := Hd (fun r w' => digit_any r w');obtain ⟨R, hR⟩ : ∃ R, R = isName s := ⟨_, rfl⟩;rw [← hR];unfold isName at hR;obtain ⟨v, hv⟩ : ∃ v, v = validD (by_ s) := ⟨_, rfl⟩;obtain ⟨x, hx⟩ : ∃ x, x = reservedL (by_ s) := ⟨_, rfl⟩;rw [← hv] at HV hR;rw [← hx] at HRS hR;have HR := Hd hR;clear hR hT hv hx;go_enter Tryd.func43, Tryd.ntmps43;go_wp2_with fail
 refine (HV.out).mono ?_;rintro e w1 ⟨rfl, hO1⟩;have HO1 := Hd hO1;clear hO1
 cases v with
 | false =>
  have HF : Hid (R = false) := Hd (by rw [HR.out]; simp);go_wp2
  go_ret
  exact ⟨by first | (rw [HF.out]; done) | (rw [HF.out]; rfl), HO1.out⟩
 | true =>
  go_wp2_with fail
  refine (HRS.out w1).mono ?_;rintro e w1' ⟨rfl, rfl⟩
  cases x with
  | true =>
   have HF : Hid (R = false) := Hd (by rw [HR.out]; simp);go_wp2
   go_ret
   exact ⟨by first | (rw [HF.out]; done) | (rw [HF.out]; rfl), HO1.out⟩
  | false =>
   have HR2 : Hid (R = nameL (runesL (by_ s))) := Hd (by rw [HR.out]; simp);clear HR HV HRS;have hO1s := HO1.out.size;go_wp2
   go_loopw [3] (fun nv wr => ∃ (pos k : Nat) (pre : List Nat), nv = .int .i64 k ∧ pos ≤ s.size ∧ k ≤ 20 ∧ Hid (pre.length = k) ∧ Hid (OkPre pre) ∧ Hid (runesL (by_ s) = pre ++ runesL ((by_ s).drop pos)) ∧ Hid (wr.heap[w1.heap.size]? = some (.stringIter s pos)) ∧ Hid (Only [] w wr)) (fun _ wr => s.size - wr.iterPos w1.heap.size)
   case atStart => exact ⟨0, 0, [], rfl, by omega, by omega, Hd rfl, Hd okPre_nil, Hd rfl, Hd (World.iter_heap w1 s 0), Hd (HO1.out.alloc _)⟩
   case round =>
    obtain ⟨pos, k, pre, rfl, hpos, hk, HK, HOK, HRU, HIT, HO⟩ := hrel
    by_cases hp : pos < s.size
    ·have hnx : ∀ ty, (Instr.next (.pointer (some ⟨w1.heap.size, 0, none⟩)) true ty).run Tryd.prog wr = _ := fun ty => run_next_any_at wr w1.heap.size s pos ty HIT.out hp;have hwd := width_le s pos hp;have hip := iterPos_of HIT.out;have HST := Hd (runes_dec s pos hp);obtain ⟨⟨r, wd⟩, hdec⟩ : ∃ d, d = Utf8.decode s pos := ⟨_, rfl⟩;rw [← hdec] at hnx hwd HST;dsimp only at hwd;have HIT2 := Hd (iterAt_heap wr w1.heap.size s pos (pos + wd) HIT.out);have hip2 := iterPos_of HIT2.out;have HO2 := Hd (only_iter HO.out s (pos + wd) (k := w1.heap.size) (fun h => by omega));have HM1 := Hd (fun w' => HMY.out r w');have HD1 := Hd (fun w' => HDG.out r w');have HN : Hid (R = nameL (pre ++ r :: runesL ((by_ s).drop (pos + wd)))) := Hd (by rw [HR2.out, HRU.out, HST.out]);obtain ⟨w3, hw3⟩ : ∃ w3, w3 = wr.iterAt w1.heap.size s (pos + wd) := ⟨_, rfl⟩;rw [← hw3] at hnx HIT2 HO2 hip2;obtain ⟨m, hm⟩ : ∃ m, m = mayR r := ⟨_, rfl⟩;obtain ⟨d, hd⟩ : ∃ d, d = digitR r := ⟨_, rfl⟩;rw [← hm] at HM1;rw [← hd] at HD1;have hwd1 := hwd.1;have hwd2 := hwd.2;have HMM := Hd hm;have HDD := Hd hd;have hwk : IntKind.i64.wrap ((k : Int) + 1) = (k : Int) + 1 := IntWalk.i64_in _ (by omega);clear hdec hw3 hwd HIT HO hm hd
     cases m with
     | false =>
      have HF : Hid (R = false) := Hd (by rw [HN.out]; exact name_bad1 _ _ _ HMM.out.symm);go_wp2_with fail
      refine (HM1.out _).mono ?_;rintro e w4 ⟨rfl, rfl⟩;go_wp2
      go_ret
      exact ⟨by first | (rw [HF.out]; done) | (rw [HF.out]; rfl), HO2.out⟩
     | true =>
      by_cases hk0 : k = 0
      ·subst hk0;have hpn : pre = [] := List.eq_nil_of_length_eq_zero HK.out;subst hpn;go_wp2_with fail
       refine (HM1.out _).mono ?_;rintro e w4 ⟨rfl, rfl⟩
       cases d with
       | true =>
        have HF : Hid (R = false) := Hd (by rw [HN.out]; exact name_bad2 _ _ HDD.out.symm);go_wp2_with fail
        refine (HD1.out _).mono ?_;rintro e w4 ⟨rfl, rfl⟩;go_wp2
        go_ret
        exact ⟨by first | (rw [HF.out]; done) | (rw [HF.out]; rfl), HO2.out⟩
       | false =>
        have HOK2 := Hd (okPre_snoc HOK.out HMM.out.symm (fun _ => HDD.out.symm));have HRU2 : Hid (runesL (by_ s) = ([] ++ [r]) ++ runesL ((by_ s).drop (pos + wd))) := Hd (by rw [HRU.out, HST.out]; simp);clear HN;go_wp2_with fail
        refine (HD1.out _).mono ?_;rintro e w4 ⟨rfl, rfl⟩;go_wp2
        go_roundw
        case rel => exact ⟨pos + wd, 1, [] ++ [r], rfl, by omega, by omega, Hd rfl, HOK2, HRU2, HIT2, HO2⟩
        case measure => rw [hip, hip2]; omega
      ·have hk1 : ((k : Int) == 0) = false := by simp; omega
       by_cases hk20 : k = 20
       ·subst hk20;have HF : Hid (R = false) := Hd (by rw [HN.out]; exact name_bad3 _ _ _ HK.out);go_wp2_with fail
        refine (HM1.out _).mono ?_;rintro e w4 ⟨rfl, rfl⟩;go_wp2
        go_ret
        exact ⟨by first | (rw [HF.out]; done) | (rw [HF.out]; rfl), HO2.out⟩
       ·have hk2 : ((k : Int) == 20) = false := by simp; omega
        have HOK2 := Hd (okPre_snoc HOK.out HMM.out.symm (fun e => by exfalso; have := HK.out; rw [e] at this; simp at this; omega));have HRU2 : Hid (runesL (by_ s) = (pre ++ [r]) ++ runesL ((by_ s).drop (pos + wd))) := Hd (by rw [HRU.out, HST.out]; simp);have HK2 : Hid ((pre ++ [r]).length = k + 1) := Hd (by rw [List.length_append, HK.out]; rfl);clear HN;go_wp2_with fail
        refine (HM1.out _).mono ?_;rintro e w4 ⟨rfl, rfl⟩;go_wp2
        go_roundw
        case rel => exact ⟨pos + wd, k + 1, pre ++ [r], by go_num, by omega, by omega, HK2, HOK2, HRU2, HIT2, HO2⟩
        case measure => rw [hip, hip2]; omega
    ·have hnx : ∀ ty, (Instr.next (.pointer (some ⟨w1.heap.size, 0, none⟩)) true ty).run Tryd.prog wr = _ := fun ty => run_next_end_at wr w1.heap.size s pos ty HIT.out hp;have hl : (by_ s).drop pos = [] := List.drop_of_length_le (by rw [by_length]; omega);have HF : Hid (R = decide (0 < k)) := Hd (by rw [HR2.out, HRU.out, hl, runes_nil, List.append_nil, okPre_name HOK.out (by rw [HK.out]; exact hk), HK.out]);clear hl;go_wp2
     go_ret
     exact ⟨by first | (rw [HF.out]; done) | (rw [HF.out]; rfl), HO.out⟩
end Go.Proofs.YtojlaphklkomfaaDoor
namespace Go.Proofs.YtojlaphklkomfaaDoor
open Go.RowKit
def mayB (k n : Int) : Bool := decide (k = 1) || (decide (k = 0 ∨ k = 2) && decide (n = 0))
theorem ret_boolv {a b : Bool} (h : a = b) : Ending.returned (.bool a) = .returned (.bool b) := by rw [h]
theorem vmay_any (k n : Int) (w : World) : Calls Tryd.prog 48 #[.agg #[.int .i64 k, .int .i64 n]] w fun e w' => e = .returned (.bool (mayB k n)) ∧ Only [] w w' := by
 unfold mayB
 by_cases h1 : k = 1
 ·subst h1;go_enter Tryd.func48, Tryd.ntmps48;go_wp2
  go_ret
  exact ⟨by simp, (Only.refl _ _).alloc _⟩
 ·have h1' : (k == 1) = false := by simp [h1]
  have H1 := Hd h1;clear h1
  by_cases h0 : k = 0
  ·subst h0;go_enter Tryd.func48, Tryd.ntmps48;go_wp2
   go_ret
   exact ⟨ret_boolv (by simp; try (rw [Bool.eq_iff_iff]; simp)), (Only.refl _ _).alloc _⟩
  ·have h0' : (k == 0) = false := by simp [h0]
   have H0 := Hd h0;clear h0
   by_cases h2 : k = 2
   ·subst h2;go_enter Tryd.func48, Tryd.ntmps48;go_wp2
    go_ret
    exact ⟨ret_boolv (by simp; try (rw [Bool.eq_iff_iff]; simp)), (Only.refl _ _).alloc _⟩
   ·have h2' : (k == 2) = false := by simp [h2]
    have H2 := Hd h2;clear h2;go_enter Tryd.func48, Tryd.ntmps48;go_wp2
    go_ret
    exact ⟨ret_boolv (by simp [H0.out, H1.out, H2.out]), (Only.refl _ _).alloc _⟩
open Go.Lib hiding intOf
attribute [local go_sem ↓] Go.wp_at_zero Go.wp_at_succ
def evOk (k : Int) (s y : ByteArray) (vk vn : Int) : Bool :=
 kOk k && isName s && (if kO k = true then (!(decide (k = 3) && decide (vk ≠ 1)) && (isName y && mayB vk vn)) else (decide (y = ⟨#[]⟩) && decide (vk = 0 ∧ vn = 0)))
theorem evmay_any (k : Int) (s y : ByteArray) (vk vn ln : Int) (w : World) (hs : s.size ≤ 9223372036854775807) (hy : y.size ≤ 9223372036854775807) (hT : UTabs w) (hV : Verbs w) :
  Calls Tryd.prog 32 #[.agg #[.int .i64 k, .string s, .string y, .int .i64 vk, .int .i64 vn, .int .i64 ln]] w fun e w' => e = .returned (.bool (evOk k s y vk vn)) ∧ Only [] w w' := by
 obtain ⟨r, hr⟩ : ∃ r, r = evOk k s y vk vn := ⟨_, rfl⟩;rw [← hr];have HK := Hd (fun w' (hO : Only [] w w') => ofKind_any k w' (hV.only hO));have HS := Hd (fun w' (hO : Only [] w w') => is_any s w' hs (hT.only hO));have HY := Hd (fun w' (hO : Only [] w w') => is_any y w' hy (hT.only hO));have HM := Hd (fun w' => vmay_any vk vn w');obtain ⟨kk, hkk⟩ : ∃ x, x = kN k := ⟨_, rfl⟩;obtain ⟨kw, hkw⟩ : ∃ x, x = kW k := ⟨_, rfl⟩;obtain ⟨ko, hko⟩ : ∃ x, x = kO k := ⟨_, rfl⟩;obtain ⟨is, his⟩ : ∃ x, x = kOk k := ⟨_, rfl⟩;obtain ⟨ns, hns⟩ : ∃ x, x = isName s := ⟨_, rfl⟩;obtain ⟨ny, hny⟩ : ∃ x, x = isName y := ⟨_, rfl⟩;obtain ⟨mv, hmv⟩ : ∃ x, x = mayB vk vn := ⟨_, rfl⟩;unfold evOk at hr;rw [← hko, ← his, ← hns, ← hny, ← hmv] at hr;rw [← hkk, ← hkw, ← hko, ← his] at HK;rw [← hns] at HS;rw [← hny] at HY;rw [← hmv] at HM;have HR := Hd hr;have bE := Blk.made w 44 #[.int .i64 k, .string s, .string y, .int .i64 vk, .int .i64 vn, .int .i64 ln];have HO := Hd ((Only.refl [] w).alloc (.cells #[.int .i64 k, .string s, .string y, .int .i64 vk, .int .i64 vn, .int .i64 ln] 44));have HE := Hd bE;clear hr hkk hkw hko his hns hny hmv hs hy hT hV bE;go_enter Tryd.func32, Tryd.ntmps32;go_wp2_with fail
 refine (HK.out _ HO.out).mono ?_;rintro e w1 ⟨rfl, O1⟩;have HO1 := Hd ((HO.out.trans O1).alloc (.cells #[.int .i64 kk, .string kw, .bool ko] 85));have HE1 := Hd ((O1.blk HE.out (by simp)).alloc (.cells #[.int .i64 kk, .string kw, .bool ko] 85));have HV1 := Hd (Blk.made w1 85 #[.int .i64 kk, .string kw, .bool ko]);have hw1 := HO1.out.size;have e1 := (O1.blk HE.out (by simp)).at_ 1;have l1 := (O1.blk HE.out (by simp)).lt;simp at e1;clear O1
 cases is with
 | false =>
  go_wp2
  go_ret
  exact ⟨by rw [HR.out]; rfl, HO1.out⟩
 | true =>
  go_wp2_with fail
  refine (HS.out _ HO1.out).mono ?_;rintro e w2 ⟨rfl, O2⟩;have HO2 := Hd (HO1.out.trans O2);have bE2 := O2.blk HE1.out (by simp);have bV2 := O2.blk HV1.out (by simp);clear e1 l1 O2;have lE := bE2.lt;have lV := bV2.lt;have f0 := bE2.at_ 0;have f2 := bE2.at_ 2;have f3 := bE2.at_ 3;have f4 := bE2.at_ 4;have v2 := bV2.at_ 2;simp at f0 f2 f3 f4 v2
  cases ns with
  | false =>
   go_wp2
   go_ret
   exact ⟨by rw [HR.out]; rfl, HO2.out⟩
  | true =>
   cases ko with
   | false =>
    by_cases hy0 : y = ⟨#[]⟩
    ·subst hy0
     by_cases h1 : vk = 0
     ·subst h1
      by_cases h2 : vn = 0
      ·subst h2;go_wp2
       go_ret
       exact ⟨by rw [HR.out]; rfl, HO2.out⟩
      ·have h2' : (vn == 0) = false := by simpa using h2
       have HX := Hd h2;clear h2;go_wp2
       go_ret
       exact ⟨by rw [HR.out]; simp [HX.out], HO2.out⟩
     ·have h1' : (vk == 0) = false := by simpa using h1
      have HX := Hd h1;clear h1;go_wp2
      go_ret
      exact ⟨by rw [HR.out]; simp [HX.out], HO2.out⟩
    ·have h0' : (y.toList == []) = false := (ev_ne (l := []) hy0).1;have HX := Hd hy0;clear hy0;go_wp2
     go_ret
     exact ⟨by rw [HR.out]; simp [HX.out], HO2.out⟩
   | true =>
    have HRK : Hid (r = (!(decide (k = 3) && decide (vk ≠ 1)) && (ny && mv))) := Hd (by rw [HR.out]; simp);have hcase : (k = 3 ∧ (vk != 1) = true ∧ r = false) ∨ (k = 3 ∧ vk = 1 ∧ r = (ny && mv)) ∨ ((k == 3) = false ∧ r = (ny && mv)) := by
     rw [HRK.out]
     by_cases h3 : k = 3
     ·by_cases h1 : vk = 1
      ·exact .inr (.inl ⟨h3, h1, by simp [h3, h1]⟩)
      ·exact .inl ⟨h3, by simp [h1], by simp [h3, h1]⟩
     ·exact .inr (.inr ⟨by simp [h3], by simp [h3]⟩)
    clear HRK;rcases hcase with ⟨rfl, q2, q3⟩ | ⟨rfl, rfl, q3⟩ | ⟨q1, q3⟩
    ·have HQ := Hd q3;clear q3;go_wp2
     go_ret
     exact ⟨by rw [HQ.out]; rfl, HO2.out⟩
    all_goals
     have HQ := Hd q3;clear q3;go_wp2_with fail
     refine (HY.out _ HO2.out).mono ?_;rintro e w3 ⟨rfl, O3⟩;have HO3 := Hd (HO2.out.trans O3);have bE3 := O3.blk bE2 (by simp);clear f0 f2 f3 f4 v2 lE lV O3;have lE := bE3.lt;have f3 := bE3.at_ 3;have f4 := bE3.at_ 4;simp at f3 f4
     cases ny with
     | false =>
      go_wp2
      go_ret
      exact ⟨by rw [HQ.out]; rfl, HO3.out⟩
     | true =>
      go_wp2_with fail
      refine (HM.out _).mono ?_;rintro e w4 ⟨rfl, O4⟩;have HO4 := Hd (HO3.out.trans O4);clear O4;go_wp2
      go_ret
      exact ⟨by rw [HQ.out]; rfl, HO4.out⟩
end Go.Proofs.YtojlaphklkomfaaDoor
