/- The reference's look at a text: is it as a number's? The number of a text: the reference's Parse. Contracts of the reference of layer 5. -/
import Derived.Test.YthaeomdpaadilaaGreatDoorShowParsesCardK20
import Derived.Test.YthaeomdpaadilaaGreatDoorShowParsesCardK21
import Derived.Test.YthaeomdpaadilaaGreatDoorShowParsesCardK25
set_option linter.unusedVariables false
set_option linter.unusedSimpArgs false
namespace Go.Proofs.YthaeomdpaadilaaGreatDoor
open Go.RowKit
set_option maxHeartbeats 800000 in
theorem rdigits_neg (s : ByteArray) (w : World) (h : s.size ≤ 9223372036854775807) (hp : 0 < s.size) (h45 : (s[0].toNat : Int) = 45) :
    Calls Tryz.prog 115 #[.string s] w fun e w' => e = .returned (.bool (digB s.data.toList)) ∧ w = w' := by
  obtain ⟨hn, hr, hz⟩ := rest_extract hp (UInt8.toNat.inj (by have : (45 : UInt8).toNat = 45 := rfl; omega))
  have HN := Lib.hid hn
  have HR := Lib.hid hr
  have hz' : (s.extract 1 s.size).size ≤ 9223372036854775807 := by omega
  clear hn hr hz
  go_enter Tryz.func115, Tryz.ntmps115
  go_upto_region 4 with (fail)
  generalize s.extract 1 s.size = r at *
  rcases Nat.eq_zero_or_pos r.size with hz | hp
  · obtain rfl : r = ⟨#[]⟩ := by
      have : r.data = #[] := Array.eq_empty_of_size_eq_zero hz
      cases r; simp_all
    clear hz
    have he : (⟨#[]⟩ : ByteArray).toList = [] := by rw [Lib.toList_data]
    go_wp2
    go_ret
    exact ⟨ret_bool (digB_empty HR.out.symm).symm, rfl⟩
  · obtain ⟨he, hne, hd, hh⟩ := nonempty_words hp
    have HD := Lib.hid hd
    have HH := Lib.hid hh
    clear hd hh
    go_wp2
    · have hb : r.toList = [48] := eq_of_beq (by assumption : (r.toList == [48]) = true)
      go_ret
      refine ⟨ret_bool ?_, rfl⟩
      rw [Lib.toList_data, HR.out] at hb
      exact (digB_zero (by rw [hb]; rfl) (.inl HN.out)).symm
    · have h48 : (r[0].toNat : Int) = 48 := eq_of_beq (by assumption : ((r[0].toNat : Int) == 48) = true)
      go_ret
      refine ⟨ret_bool ?_, rfl⟩
      have h0 : r[0] = 48 := UInt8.toNat.inj (by have : (48 : UInt8).toNat = 48 := rfl; omega)
      exact (digB_zero (by rw [← HR.out, HH.out, h0]) (.inl HN.out)).symm
    all_goals
      have HB : Hid (digB s.data.toList = r.data.toList.all isDig) := by
        refine digB_of HR.out HN.out.symm HD.out ?_
        rintro ⟨h1, h2⟩
        rw [HH.out] at h1
        have h0 : r[0] = 48 := by simpa using h1
        have h48 : (r[0].toNat : Int) = 48 := by rw [h0]; rfl
        first
          | (have hl : (r.size : Int) ≤ 1 := by assumption
             refine absurd ?_ (by simpa using (by assumption : (r.toList == [48]) = false) : ¬ r.toList = [48])
             rw [Lib.toList_data]
             have h1' : r.data.toList.length = 1 := by rw [← Lib.size_eq]; omega
             match hx : r.data.toList, h1' with
             | [a], _ =>
               have := HH.out
               rw [hx, h0] at this
               simpa using this)
          | (have hx : ¬ (r[0].toNat : Int) = 48 := by simpa using (by assumption : ((r[0].toNat : Int) == 48) = false)
             exact hx h48)
      go_loop [4] (fun j => ∃ k : Nat, k ≤ r.size ∧ j = .int .i64 k ∧ (r.data.toList.take k).all isDig = true) (fun j => r.size - (intOf j).toNat)
      case atStart => exact ⟨0, Nat.zero_le _, rfl, rfl⟩
      case round =>
        obtain ⟨k, hk, rfl, hall⟩ := hrel
        have HA := Lib.hid hall
        clear hall
        by_cases hlt : k < r.size
        · by_cases hd1 : (r[k].toNat : Int) < 48
          · go_wp2
            go_ret
            exact ⟨ret_bool (by rw [HB.out]; exact (all_not hlt (by omega)).symm), rfl⟩
          · by_cases hd2 : (57 : Int) < r[k].toNat
            · go_wp2
              go_ret
              exact ⟨ret_bool (by rw [HB.out]; exact (all_not hlt (by omega)).symm), rfl⟩
            · have HS := Lib.hid (all_take_succ hlt HA.out (by omega) (by omega))
              go_wp2
              go_round
              case rel => exact ⟨k + 1, by omega, by go_num, HS.out⟩
              case measure => simp [intOf]; omega
        · go_wp2
          go_ret
          refine ⟨ret_bool ?_, rfl⟩
          rw [HB.out, ← HA.out, List.take_of_length_le (by rw [← Lib.size_eq]; omega)]
set_option maxHeartbeats 800000 in
theorem rdigits_pos (r : ByteArray) (w : World) (h : r.size ≤ 9223372036854775807) (h45 : ∀ hp : 0 < r.size, ¬ (r[0].toNat : Int) = 45) :
    Calls Tryz.prog 115 #[.string r] w fun e w' => e = .returned (.bool (digB r.data.toList)) ∧ w = w' := by
  obtain ⟨hn, hr⟩ := rest_same (s := r) (fun hp e => h45 hp (by rw [e]; rfl))
  have HN := Lib.hid hn
  have HR := Lib.hid hr
  clear hn hr
  rcases Nat.eq_zero_or_pos r.size with hz | hp
  · obtain rfl : r = ⟨#[]⟩ := by
      have : r.data = #[] := Array.eq_empty_of_size_eq_zero hz
      cases r; simp_all
    clear hz h45
    have he : (⟨#[]⟩ : ByteArray).toList = [] := by rw [Lib.toList_data]
    go_enter Tryz.func115, Tryz.ntmps115
    go_wp2
    go_ret
    exact ⟨ret_bool (digB_empty HR.out).symm, rfl⟩
  · obtain ⟨he, hne, hd, hh⟩ := nonempty_words hp
    have HD := Lib.hid hd
    have HH := Lib.hid hh
    clear hd hh
    have h4 := h45 hp
    clear h45
    go_enter Tryz.func115, Tryz.ntmps115
    go_wp2
    · have h48 : (r[0].toNat : Int) = 48 := eq_of_beq (by assumption : ((r[0].toNat : Int) == 48) = true)
      have hl : (1 : Int) < r.size := by assumption
      go_ret
      refine ⟨ret_bool ?_, rfl⟩
      have h0 : r[0] = 48 := UInt8.toNat.inj (by have : (48 : UInt8).toNat = 48 := rfl; omega)
      exact (digB_zero (by rw [HR.out, HH.out, h0]) (.inr (by rw [HR.out, ← Lib.size_eq]; omega))).symm
    all_goals
      have HB : Hid (digB r.data.toList = r.data.toList.all isDig) := by
        refine digB_of HR.out.symm HN.out.symm HD.out ?_
        rintro ⟨h1, h2⟩
        rw [HH.out] at h1
        have h0 : r[0] = 48 := by simpa using h1
        have h48 : (r[0].toNat : Int) = 48 := by rw [h0]; rfl
        first
          | (have hl : (r.size : Int) ≤ 1 := by assumption
             rw [← Lib.size_eq] at h2
             rcases h2 with h2 | h2
             · cases h2
             · omega)
          | (have hx : ¬ (r[0].toNat : Int) = 48 := by simpa using (by assumption : ((r[0].toNat : Int) == 48) = false)
             exact hx h48)
      go_loop [4] (fun j => ∃ k : Nat, k ≤ r.size ∧ j = .int .i64 k ∧ (r.data.toList.take k).all isDig = true) (fun j => r.size - (intOf j).toNat)
      case atStart => exact ⟨0, Nat.zero_le _, rfl, rfl⟩
      case round =>
        obtain ⟨k, hk, rfl, hall⟩ := hrel
        have HA := Lib.hid hall
        clear hall
        by_cases hlt : k < r.size
        · by_cases hd1 : (r[k].toNat : Int) < 48
          · go_wp2
            go_ret
            exact ⟨ret_bool (by rw [HB.out]; exact (all_not hlt (by omega)).symm), rfl⟩
          · by_cases hd2 : (57 : Int) < r[k].toNat
            · go_wp2
              go_ret
              exact ⟨ret_bool (by rw [HB.out]; exact (all_not hlt (by omega)).symm), rfl⟩
            · have HS := Lib.hid (all_take_succ hlt HA.out (by omega) (by omega))
              go_wp2
              go_round
              case rel => exact ⟨k + 1, by omega, by go_num, HS.out⟩
              case measure => simp [intOf]; omega
        · go_wp2
          go_ret
          refine ⟨ret_bool ?_, rfl⟩
          rw [HB.out, ← HA.out, List.take_of_length_le (by rw [← Lib.size_eq]; omega)]
theorem rdigits_any (s : ByteArray) (w : World) (h : s.size ≤ 9223372036854775807) :
  Calls Tryz.prog 115 #[.string s] w fun e w' => e = .returned (.bool (digB s.data.toList)) ∧ w = w' := by
 by_cases hp : 0 < s.size
 ·by_cases h45 : (s[0].toNat : Int) = 45
  ·exact rdigits_neg s w h hp h45
  ·exact rdigits_pos s w h (fun _ => h45)
 ·exact rdigits_pos s w h (fun hp' => absurd hp' hp)
end Go.Proofs.YthaeomdpaadilaaGreatDoor

set_option linter.unusedVariables false
set_option linter.unusedSimpArgs false
namespace Go.Proofs.YthaeomdpaadilaaGreatDoor
open Go.RowKit
set_option maxHeartbeats 400000 in
theorem rparse_text (s : ByteArray) (w : World) (h : s.size ≤ 9223372036854775807) (hd : digB s.data.toList = false) :
  Calls Tryz.prog 105 #[.string s] w fun e w' => e = .returned (.tuple #[.int .i64 (prN s.data.toList), .int .i64 (prE s.data.toList)]) ∧ w = w' := by
 have hc := rdigits_any s w h
 rw [hd] at hc
 have HC := Lib.hid hc
 have e1 : prE s.data.toList = 5 := by unfold prE; rw [if_pos hd]
 have e2 : prN s.data.toList = 0 := by unfold prN; rw [e1]; rfl
 rw [e1, e2]
 clear hc e1 e2 hd
 go_enter Tryz.func105, Tryz.ntmps105
 go_wp2_with fail
 refine HC.out.mono ?_
 rintro e w' ⟨rfl, rfl⟩
 go_wp2
 go_ret2
 exact ⟨rfl, rfl⟩
theorem val_drop_succ {s : ByteArray} {off k : Nat} (ho : off ≤ k) (hk : k < s.size) :
  val ((s.data.toList.drop off).take (k + 1 - off)) = val ((s.data.toList.drop off).take (k - off)) * 10 + (s[k].toNat - 48) := by
 have hl : k - off < (s.data.toList.drop off).length := by rw [List.length_drop, ← Lib.size_eq]; omega
 rw [show k + 1 - off = (k - off) + 1 by omega, List.take_succ_eq_append_getElem hl, val_snoc]
 congr 3
 rw [List.getElem_drop]
 simp only [show off + (k - off) = k by omega]
 rfl
theorem take_ge (l : List UInt8) (k : Nat) : val (l.take k) ≤ val l := by
 have := val_append_ge (l.take k) (l.drop k)
 rwa [List.take_append_drop] at this
theorem digit_off {s : ByteArray} {off k : Nat} (hall : (s.data.toList.drop off).all isDig = true) (ho : off ≤ k) (hk : k < s.size) : 48 ≤ s[k].toNat ∧ s[k].toNat ≤ 57 := by
 have hl : k - off < (s.data.toList.drop off).length := by rw [List.length_drop, ← Lib.size_eq]; omega
 have := List.all_eq_true.1 hall _ (List.getElem_mem hl)
 rw [List.getElem_drop] at this
 simp only [show off + (k - off) = k by omega] at this
 exact isDig_iff.1 this
set_option maxHeartbeats 800000 in
theorem rparse_neg (s : ByteArray) (w : World) (h : s.size ≤ 9223372036854775807) (hd : digB s.data.toList = true) (hn : neg s.data.toList = true) :
  Calls Tryz.prog 105 #[.string s] w fun e w' => e = .returned (.tuple #[.int .i64 (prN s.data.toList), .int .i64 (prE s.data.toList)]) ∧ w = w' := by
 have hc := rdigits_any s w h
 rw [hd] at hc
 have HC := Lib.hid hc
 obtain ⟨hne, hall, _⟩ := digB_parts hd
 have hr : rest s.data.toList = s.data.toList.drop 1 := by unfold rest; rw [hn]; rfl
 have hl := neg_rest hn
 have hp : 0 < s.size := by
  rw [Lib.size_eq, hl]; simp
 have h45 : ((s[0].toNat : Int) == 45) = true := by
  obtain ⟨_, _, _, hh⟩ := nonempty_words hp
  unfold neg at hn
  rw [hh] at hn
  have : s[0] = 45 := by simpa using hn
  rw [this]
  rfl
 clear hl
 have HD := Lib.hid hd
 have HN := Lib.hid hn
 have HR := Lib.hid hr
 rw [hr] at hall
 have HALL := Lib.hid hall
 clear hc hd hall hn hr hne
 go_enter Tryz.func105, Tryz.ntmps105
 go_wp2_with fail
 refine HC.out.mono ?_
 rintro e w' ⟨rfl, rfl⟩
 go_wp2
 go_loop [5, 6] (fun j x => ∃ (k : Nat) (m : Int), 1 ≤ k ∧ k ≤ s.size ∧ j = .int .i64 k ∧ x = .int .i64 m ∧ m = -(val ((s.data.toList.drop 1).take (k - 1)) : Int) ∧ -9223372036854775808 ≤ m) (fun j _ => s.size - (intOf j).toNat)
 case atStart => exact ⟨1, 0, Nat.le_refl _, by omega, rfl, rfl, by simp [val], by omega⟩
 case round =>
  obtain ⟨k, m, hko, hk, rfl, rfl, hm, hlo⟩ := hrel
  have HM := Lib.hid hm
  have hm0 : m ≤ 0 := by omega
  clear hm
  by_cases hlt : k < s.size
  ·obtain ⟨hd1, hd2⟩ := digit_off HALL.out hko hlt
   have HS := Lib.hid (val_drop_succ hko hlt)
   have HT := Lib.hid (take_ge (s.data.toList.drop 1) (k + 1 - 1))
   have big : m * 10 - (s[k].toNat - 48) < -9223372036854775808 → prE s.data.toList = 8 ∧ prN s.data.toList = 0 := fun hb => by
    have h1 := HM.out
    have h2 := HS.out
    have h3 := HT.out
    have hv : 9223372036854775808 < val (rest s.data.toList) := by rw [HR.out]; omega
    exact pr_neg_big HD.out HN.out hv
   have BIG := Lib.hid big
   clear big
   by_cases hA : m < -922337203685477580
   ·go_wp2
    go_ret2
    obtain ⟨b1, b2⟩ := BIG.out (by omega)
    exact ⟨ret_pair b2.symm b1.symm, rfl⟩
   ·by_cases hB : m = -922337203685477580
    ·have HB := Lib.hid hB
     have hB' : (m == -922337203685477580) = true := by simp [hB]
     clear hB
     by_cases hD : (8 : Int) < s[k].toNat - 48
     ·go_wp2
      go_ret2
      obtain ⟨b1, b2⟩ := BIG.out (by have := HB.out; omega)
      exact ⟨ret_pair b2.symm b1.symm, rfl⟩
     ·have hn1 : -9223372036854775808 ≤ 10 * m - (s[k].toNat - 48) := by have := HB.out; omega
      go_wp2
      go_round
      case rel => exact ⟨k + 1, 10 * m - (s[k].toNat - 48), by omega, by omega, by go_num, rfl, by have h1 := HM.out; have h2 := HS.out; omega, by omega⟩
      case measure => simp [intOf]; omega
    ·have hB' : (m == -922337203685477580) = false := by simp [hB]
     have hn1 : -9223372036854775808 ≤ 10 * m - (s[k].toNat - 48) := by omega
     clear hB
     go_wp2
     go_round
     case rel => exact ⟨k + 1, 10 * m - (s[k].toNat - 48), by omega, by omega, by go_num, rfl, by have h1 := HM.out; have h2 := HS.out; omega, by omega⟩
     case measure => simp [intOf]; omega
  ·have hv : Hid (m = -(val (rest s.data.toList) : Int)) := by
    show m = _
    rw [HM.out, HR.out, List.take_of_length_le (by rw [List.length_drop, ← Lib.size_eq]; omega)]
   have HF := Lib.hid (pr_neg HD.out HN.out (by have := hv.out; omega))
   go_wp2
   go_ret2
   exact ⟨ret_pair (by rw [HF.out.2]; exact hv.out) HF.out.1.symm, rfl⟩
set_option maxHeartbeats 800000 in
theorem rparse_pos (s : ByteArray) (w : World) (h : s.size ≤ 9223372036854775807) (hd : digB s.data.toList = true) (hn : neg s.data.toList = false) :
  Calls Tryz.prog 105 #[.string s] w fun e w' => e = .returned (.tuple #[.int .i64 (prN s.data.toList), .int .i64 (prE s.data.toList)]) ∧ w = w' := by
 have hc := rdigits_any s w h
 rw [hd] at hc
 have HC := Lib.hid hc
 obtain ⟨hne, hall, _⟩ := digB_parts hd
 have hr : rest s.data.toList = s.data.toList.drop 0 := by unfold rest; rw [hn]; rfl
 have hp : 0 < s.size := by
  rw [hr, List.drop_zero] at hne
  rw [Lib.size_eq]
  exact List.length_pos_iff.2 hne
 have h45 : ((s[0].toNat : Int) == 45) = false := by
  obtain ⟨_, _, _, hh⟩ := nonempty_words hp
  unfold neg at hn
  rw [hh] at hn
  have : s[0] ≠ 45 := by simpa using hn
  have h2 : s[0].toNat ≠ 45 := fun e => this (UInt8.toNat.inj e)
  simp
  omega
 have HD := Lib.hid hd
 have HN := Lib.hid hn
 have HR := Lib.hid hr
 rw [hr] at hall
 have HALL := Lib.hid hall
 clear hc hd hall hn hr hne
 go_enter Tryz.func105, Tryz.ntmps105
 go_wp2_with fail
 refine HC.out.mono ?_
 rintro e w' ⟨rfl, rfl⟩
 go_wp2
 go_loop [5, 6] (fun j x => ∃ (k : Nat) (m : Int), 0 ≤ k ∧ k ≤ s.size ∧ j = .int .i64 k ∧ x = .int .i64 m ∧ m = -(val ((s.data.toList.drop 0).take (k - 0)) : Int) ∧ -9223372036854775808 ≤ m) (fun j _ => s.size - (intOf j).toNat)
 case atStart => exact ⟨0, 0, Nat.le_refl _, by omega, rfl, rfl, by simp [val], by omega⟩
 case round =>
  obtain ⟨k, m, hko, hk, rfl, rfl, hm, hlo⟩ := hrel
  have HM := Lib.hid hm
  have hm0 : m ≤ 0 := by omega
  clear hm
  by_cases hlt : k < s.size
  ·obtain ⟨hd1, hd2⟩ := digit_off HALL.out hko hlt
   have HS := Lib.hid (val_drop_succ hko hlt)
   have HT := Lib.hid (take_ge (s.data.toList.drop 0) (k + 1 - 0))
   have big : m * 10 - (s[k].toNat - 48) < -9223372036854775808 → prE s.data.toList = 8 ∧ prN s.data.toList = 0 := fun hb => by
    have h1 := HM.out
    have h2 := HS.out
    have h3 := HT.out
    have hv : 9223372036854775808 < val (rest s.data.toList) := by rw [HR.out]; omega
    exact pr_pos_big HD.out HN.out (by omega)
   have BIG := Lib.hid big
   clear big
   by_cases hA : m < -922337203685477580
   ·go_wp2
    go_ret2
    obtain ⟨b1, b2⟩ := BIG.out (by omega)
    exact ⟨ret_pair b2.symm b1.symm, rfl⟩
   ·by_cases hB : m = -922337203685477580
    ·have HB := Lib.hid hB
     have hB' : (m == -922337203685477580) = true := by simp [hB]
     clear hB
     by_cases hD : (8 : Int) < s[k].toNat - 48
     ·go_wp2
      go_ret2
      obtain ⟨b1, b2⟩ := BIG.out (by have := HB.out; omega)
      exact ⟨ret_pair b2.symm b1.symm, rfl⟩
     ·have hn1 : -9223372036854775808 ≤ 10 * m - (s[k].toNat - 48) := by have := HB.out; omega
      go_wp2
      go_round
      case rel => exact ⟨k + 1, 10 * m - (s[k].toNat - 48), by omega, by omega, by go_num, rfl, by have h1 := HM.out; have h2 := HS.out; omega, by omega⟩
      case measure => simp [intOf]; omega
    ·have hB' : (m == -922337203685477580) = false := by simp [hB]
     have hn1 : -9223372036854775808 ≤ 10 * m - (s[k].toNat - 48) := by omega
     clear hB
     go_wp2
     go_round
     case rel => exact ⟨k + 1, 10 * m - (s[k].toNat - 48), by omega, by omega, by go_num, rfl, by have h1 := HM.out; have h2 := HS.out; omega, by omega⟩
     case measure => simp [intOf]; omega
  ·have hv : Hid (m = -(val (rest s.data.toList) : Int)) := by
    show m = _
    rw [HM.out, HR.out, List.take_of_length_le (by rw [List.length_drop, ← Lib.size_eq]; omega)]
   by_cases hB : m = -9223372036854775808
   ·have hB' : (m == -9223372036854775808) = true := by simp [hB]
    have HF := Lib.hid (pr_pos_big HD.out HN.out (by have := hv.out; omega))
    clear hB
    go_wp2
    go_ret2
    exact ⟨ret_pair HF.out.2.symm HF.out.1.symm, rfl⟩
   ·have hB' : (m == -9223372036854775808) = false := by simp [hB]
    have hlo' : -9223372036854775807 ≤ m := by omega
    have HF := Lib.hid (pr_pos HD.out HN.out (by have := hv.out; omega))
    clear hB
    go_wp2
    go_ret2
    exact ⟨ret_pair (by rw [HF.out.2]; have := hv.out; omega) HF.out.1.symm, rfl⟩
theorem rparse_any (s : ByteArray) (w : World) (h : s.size ≤ 9223372036854775807) :
  Calls Tryz.prog 105 #[.string s] w fun e w' => e = .returned (.tuple #[.int .i64 (prN s.data.toList), .int .i64 (prE s.data.toList)]) ∧ w = w' := by
 cases hd : digB s.data.toList with
 | false => exact rparse_text s w h hd
 | true =>
  cases hn : neg s.data.toList with
  | false => exact rparse_pos s w h hd hn
  | true => exact rparse_neg s w h hd hn
end Go.Proofs.YthaeomdpaadilaaGreatDoor

set_option linter.unusedVariables false
set_option linter.unusedSimpArgs false
namespace Go.Proofs.YthaeomdpaadilaaGreatDoor
open Go.RowKit
set_option maxHeartbeats 800000 in
theorem rvparse_any (s : ByteArray) (w : World) (h : s.size ≤ 9223372036854775807) :
  Calls Tryz.prog 78 #[.string s] w fun e w' => e = .returned (.tuple #[.agg #[.int .i64 (pvK s.data.toList), .int .i64 (pvN s.data.toList)], .int .i64 (pvE s.data.toList)]) ∧ Only [] w w' := by
 unfold pvK pvN pvE
 by_cases h1 : s.data.toList = [110, 105, 108]
 ·rw [h1]
  have hs : (s.toList == [110, 105, 108]) = true := by rw [Lib.toList_data, h1]; rfl
  clear h1
  go_enter Tryz.func78, Tryz.ntmps78
  go_wp2
  exact bodyPost_ret (v := .tuple #[.agg #[.int .i64 0, .int .i64 0], .int .i64 0]) (by simp [results, Tryz.results78, go_sem]) rfl ⟨rfl, (Only.refl _ _).alloc _⟩
 ·have hs1 : (s.toList == [110, 105, 108]) = false := by rw [Lib.toList_data]; simpa using h1
  by_cases h2 : s.data.toList = [63]
  ·rw [h2]
   have hs2 : (s.toList == [63]) = true := by rw [Lib.toList_data, h2]; rfl
   clear h1 h2
   go_enter Tryz.func78, Tryz.ntmps78
   go_wp2
   exact bodyPost_ret (v := .tuple #[.agg #[.int .i64 2, .int .i64 0], .int .i64 0]) (by simp [results, Tryz.results78, go_sem]) rfl ⟨rfl, (Only.refl _ _).alloc _⟩
  ·have hs2 : (s.toList == [63]) = false := by rw [Lib.toList_data]; simpa using h2
   rw [if_neg h1, if_neg h2, if_neg h1, if_neg h2, if_neg h1, if_neg h2]
   have hp := fun w => rparse_any s w h
   generalize prN s.data.toList = n at *
   generalize prE s.data.toList = x at *
   have HP := Lib.hid hp
   clear hp h1 h2
   by_cases hx : x = 0
   ·rw [if_pos hx, if_pos hx]
    have hx' : (x != 0) = false := by simp [hx]
    have HX := Lib.hid hx
    clear hx
    go_enter Tryz.func78, Tryz.ntmps78
    go_wp2_with fail
    refine (HP.out _).mono ?_
    rintro e w1 ⟨rfl, rfl⟩
    go_wp2
    exact bodyPost_ret (v := .tuple #[.agg #[.int .i64 1, .int .i64 n], .int .i64 0]) (by simp [results, Tryz.results78, go_sem]) rfl ⟨by rw [HX.out], (Only.refl _ _).alloc _⟩
   ·rw [if_neg hx, if_neg hx]
    have hx' : (x != 0) = true := by simp [hx]
    clear hx
    go_enter Tryz.func78, Tryz.ntmps78
    go_wp2_with fail
    refine (HP.out _).mono ?_
    rintro e w1 ⟨rfl, rfl⟩
    go_wp2
    exact bodyPost_ret (v := .tuple #[.agg #[.int .i64 0, .int .i64 0], .int .i64 x]) (by simp [results, Tryz.results78, go_sem]) rfl ⟨rfl, (Only.refl _ _).alloc _⟩
end Go.Proofs.YthaeomdpaadilaaGreatDoor
