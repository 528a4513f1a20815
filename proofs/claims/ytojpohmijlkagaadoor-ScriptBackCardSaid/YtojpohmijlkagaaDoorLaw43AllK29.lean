/- Parts. -/
import Derived.Test.YtojpohmijlkagaaDoorLaw43AllK9
set_option maxRecDepth 10000
set_option maxHeartbeats 16000000
set_option linter.unusedVariables false
set_option linter.unusedSimpArgs false
namespace Go.Proofs.YtojpohmijlkagaaDoor
open Go.RowKit
theorem rdigits_neg (s : ByteArray) (w : World) (h : s.size ≤ 9223372036854775807) (hp : 0 < s.size) (h45 : (s[0].toNat : Int) = 45) :
    Calls Tryd.prog 62 #[.string s] w fun e w' => e = .returned (.bool (digB s.data.toList)) ∧ w = w' := by
  obtain ⟨hn, hr, hz⟩ := rest_extract hp (UInt8.toNat.inj (by have : (45 : UInt8).toNat = 45 := rfl; omega))
  have HN := Hd hn
  have HR := Hd hr
  have hz' : (s.extract 1 s.size).size ≤ 9223372036854775807 := by omega
  clear hn hr hz
  go_enter Tryd.func62, Tryd.ntmps62
  go_upto_region 4 with (fail)
  generalize s.extract 1 s.size = r at *
  rcases Nat.eq_zero_or_pos r.size with hz | hp
  · obtain rfl : r = ⟨#[]⟩ := by
      have : r.data = #[] := Array.eq_empty_of_size_eq_zero hz
      cases r; simp_all
    clear hz
    have he : (⟨#[]⟩ : ByteArray).toList = [] := by rw [Lib.toList_data]
    go_wp2
    go_ret
    exact ⟨ret_bool (digB_empty HR.out.symm).symm, rfl⟩
  · obtain ⟨he, hne, hd, hh⟩ := nonempty_words hp
    have HD := Hd hd
    have HH := Hd hh
    clear hd hh
    go_wp2
    · have hb : r.toList = [48] := eq_of_beq (by assumption : (r.toList == [48]) = true)
      go_ret
      refine ⟨ret_bool ?_, rfl⟩
      rw [Lib.toList_data, HR.out] at hb
      exact (digB_zero (by rw [hb]; rfl) (.inl HN.out)).symm
    · have h48 : (r[0].toNat : Int) = 48 := eq_of_beq (by assumption : ((r[0].toNat : Int) == 48) = true)
      go_ret
      refine ⟨ret_bool ?_, rfl⟩
      have h0 : r[0] = 48 := UInt8.toNat.inj (by have : (48 : UInt8).toNat = 48 := rfl; omega)
      exact (digB_zero (by rw [← HR.out, HH.out, h0]) (.inl HN.out)).symm
    all_goals
      have HB : Hid (digB s.data.toList = r.data.toList.all isDig) := by
        refine digB_of HR.out HN.out.symm HD.out ?_
        rintro ⟨h1, h2⟩
        rw [HH.out] at h1
        have h0 : r[0] = 48 := by simpa using h1
        have h48 : (r[0].toNat : Int) = 48 := by rw [h0]; rfl
        first
          | (have hl : (r.size : Int) ≤ 1 := by assumption
             refine absurd ?_ (by simpa using (by assumption : (r.toList == [48]) = false) : ¬ r.toList = [48])
             rw [Lib.toList_data]
             have h1' : r.data.toList.length = 1 := by rw [← Lib.size_eq]; omega
             match hx : r.data.toList, h1' with
             | [a], _ =>
               have := HH.out
               rw [hx, h0] at this
               simpa using this)
          | (have hx : ¬ (r[0].toNat : Int) = 48 := by simpa using (by assumption : ((r[0].toNat : Int) == 48) = false)
             exact hx h48)
      go_loop [4] (fun j => ∃ k : Nat, k ≤ r.size ∧ j = .int .i64 k ∧ (r.data.toList.take k).all isDig = true) (fun j => r.size - (intOf j).toNat)
      case atStart => exact ⟨0, Nat.zero_le _, rfl, rfl⟩
      case round =>
        obtain ⟨k, hk, rfl, hall⟩ := hrel
        have HA := Hd hall
        clear hall
        by_cases hlt : k < r.size
        · by_cases hd1 : (r[k].toNat : Int) < 48
          · go_wp2
            go_ret
            exact ⟨ret_bool (by rw [HB.out]; exact (all_not hlt (by omega)).symm), rfl⟩
          · by_cases hd2 : (57 : Int) < r[k].toNat
            · go_wp2
              go_ret
              exact ⟨ret_bool (by rw [HB.out]; exact (all_not hlt (by omega)).symm), rfl⟩
            · have HS := Hd (all_take_succ hlt HA.out (by omega) (by omega))
              go_wp2
              go_round
              case rel => exact ⟨k + 1, by omega, by go_num, HS.out⟩
              case measure => simp [intOf]; omega
        · go_wp2
          go_ret
          refine ⟨ret_bool ?_, rfl⟩
          rw [HB.out, ← HA.out, List.take_of_length_le (by rw [← Lib.size_eq]; omega)]
theorem rdigits_pos (r : ByteArray) (w : World) (h : r.size ≤ 9223372036854775807) (h45 : ∀ hp : 0 < r.size, ¬ (r[0].toNat : Int) = 45) :
    Calls Tryd.prog 62 #[.string r] w fun e w' => e = .returned (.bool (digB r.data.toList)) ∧ w = w' := by
  obtain ⟨hn, hr⟩ := rest_same (s := r) (fun hp e => h45 hp (by rw [e]; rfl))
  have HN := Hd hn
  have HR := Hd hr
  clear hn hr
  rcases Nat.eq_zero_or_pos r.size with hz | hp
  · obtain rfl : r = ⟨#[]⟩ := by
      have : r.data = #[] := Array.eq_empty_of_size_eq_zero hz
      cases r; simp_all
    clear hz h45
    have he : (⟨#[]⟩ : ByteArray).toList = [] := by rw [Lib.toList_data]
    go_enter Tryd.func62, Tryd.ntmps62
    go_wp2
    go_ret
    exact ⟨ret_bool (digB_empty HR.out).symm, rfl⟩
  · obtain ⟨he, hne, hd, hh⟩ := nonempty_words hp
    have HD := Hd hd
    have HH := Hd hh
    clear hd hh
    have h4 := h45 hp
    clear h45
    go_enter Tryd.func62, Tryd.ntmps62
    go_wp2
    · have h48 : (r[0].toNat : Int) = 48 := eq_of_beq (by assumption : ((r[0].toNat : Int) == 48) = true)
      have hl : (1 : Int) < r.size := by assumption
      go_ret
      refine ⟨ret_bool ?_, rfl⟩
      have h0 : r[0] = 48 := UInt8.toNat.inj (by have : (48 : UInt8).toNat = 48 := rfl; omega)
      exact (digB_zero (by rw [HR.out, HH.out, h0]) (.inr (by rw [HR.out, ← Lib.size_eq]; omega))).symm
    all_goals
      have HB : Hid (digB r.data.toList = r.data.toList.all isDig) := by
        refine digB_of HR.out.symm HN.out.symm HD.out ?_
        rintro ⟨h1, h2⟩
        rw [HH.out] at h1
        have h0 : r[0] = 48 := by simpa using h1
        have h48 : (r[0].toNat : Int) = 48 := by rw [h0]; rfl
        first
          | (have hl : (r.size : Int) ≤ 1 := by assumption
             rw [← Lib.size_eq] at h2
             rcases h2 with h2 | h2
             · cases h2
             · omega)
          | (have hx : ¬ (r[0].toNat : Int) = 48 := by simpa using (by assumption : ((r[0].toNat : Int) == 48) = false)
             exact hx h48)
      go_loop [4] (fun j => ∃ k : Nat, k ≤ r.size ∧ j = .int .i64 k ∧ (r.data.toList.take k).all isDig = true) (fun j => r.size - (intOf j).toNat)
      case atStart => exact ⟨0, Nat.zero_le _, rfl, rfl⟩
      case round =>
        obtain ⟨k, hk, rfl, hall⟩ := hrel
        have HA := Hd hall
        clear hall
        by_cases hlt : k < r.size
        · by_cases hd1 : (r[k].toNat : Int) < 48
          · go_wp2
            go_ret
            exact ⟨ret_bool (by rw [HB.out]; exact (all_not hlt (by omega)).symm), rfl⟩
          · by_cases hd2 : (57 : Int) < r[k].toNat
            · go_wp2
              go_ret
              exact ⟨ret_bool (by rw [HB.out]; exact (all_not hlt (by omega)).symm), rfl⟩
            · have HS := Hd (all_take_succ hlt HA.out (by omega) (by omega))
              go_wp2
              go_round
              case rel => exact ⟨k + 1, by omega, by go_num, HS.out⟩
              case measure => simp [intOf]; omega
        · go_wp2
          go_ret
          refine ⟨ret_bool ?_, rfl⟩
          rw [HB.out, ← HA.out, List.take_of_length_le (by rw [← Lib.size_eq]; omega)]
theorem rdigits_any (s : ByteArray) (w : World) (h : s.size ≤ 9223372036854775807) :
  Calls Tryd.prog 62 #[.string s] w fun e w' => e = .returned (.bool (digB s.data.toList)) ∧ w = w' := by
 by_cases hp : 0 < s.size
 ·by_cases h45 : (s[0].toNat : Int) = 45
  ·exact rdigits_neg s w h hp h45
  ·exact rdigits_pos s w h (fun _ => h45)
 ·exact rdigits_pos s w h (fun hp' => absurd hp' hp)
end Go.Proofs.YtojpohmijlkagaaDoor
