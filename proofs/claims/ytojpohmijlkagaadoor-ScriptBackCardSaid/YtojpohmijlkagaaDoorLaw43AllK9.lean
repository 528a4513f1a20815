/- Parts. -/
import Derived.Test.YtojpohmijlkagaaDoorLaw43AllK8
import Derived.Test.YtojpohmijlkagaaDoorLaw43AllK7
import Derived.Lib.Strings
set_option maxRecDepth 10000
set_option maxHeartbeats 16000000
set_option linter.unusedVariables false
set_option linter.unusedSimpArgs false
namespace Go.Proofs.YtojpohmijlkagaaDoor
open Go.RowKit

theorem hasPrefix_any (s p : ByteArray) (w : World) (h : s.size ≤ 9223372036854775807) (hp : p.size ≤ 9223372036854775807) :
  Calls Tryd.prog 68 #[.string s, .string p] w fun e w' => e = .returned (.bool (Lib.hasPrefix s.data.toList p.data.toList)) ∧ w = w' := by
 go_enter Tryd.func68, Tryd.ntmps68
 by_cases hle : (p.size : Int) ≤ s.size
 all_goals
  go_wp2
  go_ret
  refine ⟨?_, rfl⟩;rw [← Lib.hasPrefix_raw];simp [hle];try omega
theorem cutPrefix_lite (s p : ByteArray) (w : World) (h : s.size ≤ 9223372036854775807) (hp : p.size ≤ 9223372036854775807) :
  Calls Tryd.prog 61 #[.string s, .string p] w fun e w' => e = .returned (.tuple #[.string ⟨(Lib.trimPrefix s.data.toList p.data.toList).toArray⟩, .bool (Lib.hasPrefix s.data.toList p.data.toList)]) ∧ w = w' := by
 have hc := hasPrefix_any s p w h hp
 cases hb : Lib.hasPrefix s.data.toList p.data.toList with
 | true =>
  rw [← Lib.hasPrefix_raw] at hb;simp only [Bool.and_eq_true, decide_eq_true_eq] at hb;have HT := Hd (Lib.trimPrefix_hit s p hb.1 hb.2);rw [← Lib.hasPrefix_raw] at hc;rw [show (decide (p.size ≤ s.size) && ((s.extract 0 p.size).toList == p.toList)) = true by simp [hb]] at hc;have HC := Hd hc;have hle : (p.size : Int) ≤ s.size := by have := hb.1; omega
  clear hb hc;go_enter Tryd.func61, Tryd.ntmps61;go_wp2_with fail
  refine HC.out.mono ?_;rintro e w' ⟨rfl, rfl⟩;go_wp2
  go_ret2
  rw [HT.out];exact ⟨rfl, rfl⟩
 | false =>
  have hb' := hb;rw [← Lib.hasPrefix_raw] at hb;have HT := Hd (Lib.trimPrefix_miss s p hb);rw [hb'] at hc;have HC := Hd hc;clear hb hc hb';go_enter Tryd.func61, Tryd.ntmps61;go_wp2_with fail
  refine HC.out.mono ?_;rintro e w' ⟨rfl, rfl⟩;go_wp2
  go_ret2
  rw [HT.out];exact ⟨rfl, rfl⟩
theorem cutPrefix_any (s p : ByteArray) (w : World) (h : s.size ≤ 9223372036854775807) (hp : p.size ≤ 9223372036854775807) :
  Calls Tryd.prog 55 #[.string s, .string p] w fun e w' => e = .returned (.tuple #[.string ⟨(Lib.trimPrefix s.data.toList p.data.toList).toArray⟩, .bool (Lib.hasPrefix s.data.toList p.data.toList)]) ∧ w = w' := by
 go_enter Tryd.func55, Tryd.ntmps55;go_wp2_with fail
 refine (cutPrefix_lite s p _ h hp).mono ?_;rintro e w' ⟨rfl, rfl⟩;go_wp2
 go_ret2
 exact ⟨rfl, rfl⟩
theorem hasPrefix_dash (l : List UInt8) : Lib.hasPrefix l [45] = neg l := by
 cases l with
 | nil => rfl
 | cons a t =>
  simp only [Lib.hasPrefix, neg, List.isPrefixOf, List.head?_cons];rw [Bool.eq_iff_iff];simp;exact eq_comm
theorem trimPrefix_dash (l : List UInt8) : Lib.trimPrefix l [45] = rest l := by
 unfold Lib.trimPrefix rest;rw [hasPrefix_dash]
 rfl
theorem cut_dash (s : ByteArray) (w : World) (h : s.size ≤ 9223372036854775807) :
  Calls Tryd.prog 55 #[.string s, .string ⟨#[45]⟩] w fun e w' => ∃ r : ByteArray, (e = .returned (.tuple #[.string r, .bool (neg s.data.toList)]) ∧ r.data.toList = rest s.data.toList) ∧ w = w' := by
 refine (cutPrefix_any s ⟨#[45]⟩ w h (by decide)).mono ?_;rintro e w' ⟨rfl, rfl⟩;rw [show (⟨#[45]⟩ : ByteArray).data.toList = [45] from rfl, hasPrefix_dash, trimPrefix_dash];exact ⟨_, ⟨rfl, rfl⟩, rfl⟩
theorem digB_of {l t : List UInt8} {n : Bool} (hr : t = rest l) (hn : n = neg l) (h0 : t ≠ []) (h1 : ¬ (t.head? = some 48 ∧ (n = true ∨ 1 < t.length))) : digB l = t.all isDig := by
 unfold digB;rw [← hr, ← hn];have e1 : t.isEmpty = false := by simpa using h0
 rw [e1];have e2 : (t.head? == some 48 && (n || decide (1 < t.length))) = false := by
  rw [Bool.eq_false_iff];intro h;simp only [Bool.and_eq_true, Bool.or_eq_true, decide_eq_true_eq, beq_iff_eq] at h;exact h1 h
 rw [e2];simp
theorem digB_empty {l : List UInt8} (h : rest l = []) : digB l = false := by unfold digB; simp [h]
theorem digB_zero {l : List UInt8} (h : (rest l).head? = some 48) (h2 : neg l = true ∨ 1 < (rest l).length) : digB l = false := by
 unfold digB;have : ((rest l).head? == some 48 && (neg l || decide (1 < (rest l).length))) = true := by
  rw [h]; rcases h2 with h2 | h2 <;> simp [h2]
 rw [this];simp
theorem all_take_succ {r : ByteArray} {k : Nat} (hk : k < r.size) (h : (r.data.toList.take k).all isDig = true) (h1 : 48 ≤ r[k].toNat) (h2 : r[k].toNat ≤ 57) : (r.data.toList.take (k + 1)).all isDig = true := by
 rw [List.take_succ_eq_append_getElem (by simpa using hk), List.all_append, h];simp only [List.all_cons, List.all_nil, Bool.and_true, Bool.true_and];exact isDig_iff.2 ⟨h1, h2⟩
theorem all_not {r : ByteArray} {k : Nat} (hk : k < r.size) (h : ¬ (48 ≤ r[k].toNat ∧ r[k].toNat ≤ 57)) : r.data.toList.all isDig = false := by
 rw [Bool.eq_false_iff];intro ha;have := List.all_eq_true.1 ha r[k] (by rw [Array.mem_toList_iff]; exact Array.getElem_mem _);exact h (isDig_iff.1 this)
theorem nonempty_words {r : ByteArray} (h : 0 < r.size) : r.toList.isEmpty = false ∧ ¬ r.toList = [] ∧ r.data.toList ≠ [] ∧ r.data.toList.head? = some r[0] := by
 have h1 : r.data.toList ≠ [] := fun e => by
  have : r.data.toList.length = 0 := by rw [e]; rfl
  rw [← Lib.size_eq] at this;omega
 refine ⟨?_, ?_, h1, ?_⟩
 ·rw [Lib.toList_data]; simpa using h1
 ·rw [Lib.toList_data]; exact h1
 ·rw [List.head?_eq_getElem?, List.getElem?_eq_getElem (by simpa using h)]
  rfl
theorem ret_bool {a b : Bool} (h : a = b) : Ending.returned (.bool a) = .returned (.bool b) := by rw [h]
theorem digits_any (s : ByteArray) (w : World) (h : s.size ≤ 9223372036854775807) :
    Calls Tryd.prog 54 #[.string s] w fun e w' => e = .returned (.bool (digB s.data.toList)) ∧ w = w' := by
  go_enter Tryd.func54, Tryd.ntmps54
  go_wp2_with fail
  refine (cut_dash s _ h).mono ?_
  rintro e w' ⟨r, ⟨rfl, hr⟩, rfl⟩
  have hsz : r.size ≤ 9223372036854775807 := by
    have h1 : r.data.toList.length ≤ s.data.toList.length := by rw [hr]; unfold rest; split <;> simp
    simp at h1
    have e1 : s.size = s.data.size := rfl
    have e2 : r.size = r.data.size := rfl
    omega
  have HR := Hd hr
  clear hr
  generalize hn : neg s.data.toList = n
  have HN := Hd hn
  clear hn
  rcases Nat.eq_zero_or_pos r.size with hz | hp
  · obtain rfl : r = ⟨#[]⟩ := by
      have : r.data = #[] := Array.eq_empty_of_size_eq_zero hz
      cases r; simp_all
    clear hz
    have he : (⟨#[]⟩ : ByteArray).toList = [] := by rw [Lib.toList_data]
    go_wp2
    go_ret
    exact ⟨ret_bool (digB_empty HR.out.symm).symm, rfl⟩
  · obtain ⟨he, hne, hd, hh⟩ := nonempty_words hp
    have HD := Hd hd
    have HH := Hd hh
    clear hd hh
    go_wp2
    · have h48 : (r[0].toNat : Int) = 48 := by assumption
      have hn : n = true := by assumption
      go_ret
      refine ⟨ret_bool ?_, rfl⟩
      have h0 : r[0] = 48 := UInt8.toNat.inj (by have : (48 : UInt8).toNat = 48 := rfl; omega)
      exact (digB_zero (by rw [← HR.out, HH.out, h0]) (.inl (by rw [HN.out, hn]))).symm
    · have h48 : (r[0].toNat : Int) = 48 := by assumption
      have hl : (1 : Int) < r.size := by assumption
      go_ret
      refine ⟨ret_bool ?_, rfl⟩
      have h0 : r[0] = 48 := UInt8.toNat.inj (by have : (48 : UInt8).toNat = 48 := rfl; omega)
      exact (digB_zero (by rw [← HR.out, HH.out, h0]) (.inr (by rw [← HR.out, ← Lib.size_eq]; omega))).symm
    all_goals
      have HB : Hid (digB s.data.toList = r.data.toList.all isDig) := by
        refine digB_of HR.out HN.out.symm HD.out ?_
        rintro ⟨h1, h2⟩
        rw [HH.out] at h1
        first
          | (have h48 : ¬ (r[0].toNat : Int) = 48 := by assumption
             simp only [Option.some.injEq] at h1
             rw [h1] at h48
             exact h48 rfl)
          | (have hl : (r.size : Int) ≤ 1 := by assumption
             have hn : ¬ n = true := by assumption
             rw [← Lib.size_eq] at h2
             rcases h2 with h2 | h2
             · exact hn h2
             · omega)
      go_loop [28] (fun j => ∃ k : Nat, k ≤ r.size ∧ j = .int .i64 k ∧ (r.data.toList.take k).all isDig = true) (fun j => r.size - (intOf j).toNat)
      case atStart => exact ⟨0, Nat.zero_le _, rfl, rfl⟩
      case round =>
        obtain ⟨k, hk, rfl, hall⟩ := hrel
        have HA := Hd hall
        clear hall
        by_cases hlt : k < r.size
        · by_cases hd1 : (r[k].toNat : Int) < 48
          · go_wp2
            go_ret
            exact ⟨ret_bool (by rw [HB.out]; exact (all_not hlt (by omega)).symm), rfl⟩
          · by_cases hd2 : (57 : Int) < r[k].toNat
            · go_wp2
              go_ret
              exact ⟨ret_bool (by rw [HB.out]; exact (all_not hlt (by omega)).symm), rfl⟩
            · have HS := Hd (all_take_succ hlt HA.out (by omega) (by omega))
              go_wp2
              go_round
              case rel => exact ⟨k + 1, by omega, by go_num, HS.out⟩
              case measure => simp [intOf]; omega
        · go_wp2
          go_ret
          refine ⟨ret_bool ?_, rfl⟩
          rw [HB.out, ← HA.out, List.take_of_length_le (by rw [← Lib.size_eq]; omega)]
theorem rest_extract {s : ByteArray} (hp : 0 < s.size) (h : s[0] = 45) : neg s.data.toList = true ∧ (s.extract 1 s.size).data.toList = rest s.data.toList ∧ (s.extract 1 s.size).size = s.size - 1 := by
 obtain ⟨_, _, _, hh⟩ := nonempty_words hp;have hn : neg s.data.toList = true := by unfold neg; rw [hh, h]; rfl
 refine ⟨hn, ?_, ?_⟩
 ·rw [Lib.extract_data];unfold rest;rw [if_pos hn, List.take_of_length_le];rw [List.length_drop, ← Lib.size_eq];omega
 ·rw [Lib.size_eq, Lib.extract_data, List.take_of_length_le] <;> simp [← Lib.size_eq]
theorem rest_same {s : ByteArray} (h : ∀ hp : 0 < s.size, s[0] ≠ 45) : neg s.data.toList = false ∧ rest s.data.toList = s.data.toList := by
 have hn : neg s.data.toList = false := by
  unfold neg;rcases Nat.eq_zero_or_pos s.size with hz | hp
  ·have : s.data.toList = [] := List.eq_nil_of_length_eq_zero (by rw [← Lib.size_eq]; exact hz);rw [this]; rfl
  ·obtain ⟨_, _, _, hh⟩ := nonempty_words hp;rw [hh]
   simpa using h hp
 exact ⟨hn, by unfold rest; rw [hn]; rfl⟩
end Go.Proofs.YtojpohmijlkagaaDoor
