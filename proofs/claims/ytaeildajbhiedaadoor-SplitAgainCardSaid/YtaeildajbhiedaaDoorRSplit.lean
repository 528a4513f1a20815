/- Contracts of the document's words: ahead, Remark, Join. -/
import Derived.Test.YtaeildajbhiedaaDoorSplitB
import Derived.Test.YtaeildajbhiedaaDoorRLineCol
set_option linter.unusedVariables false
set_option linter.unusedSimpArgs false
namespace Go.Proofs.YtaeildajbhiedaaDoor
open Go.RowKit
open Go.Lib hiding intOf
attribute [local go_sem ↓] Go.wp_at_zero Go.wp_at_succ

theorem ahead_at (l : List UInt8) (k : Nat) (b : UInt8) (hk : k ≤ (aheadL l).length) (hb : l[k]? = some b) : (b = 35 ∧ k = (aheadL l).length) ∨ (b ≠ 35 ∧ k + 1 ≤ (aheadL l).length) := by
  rcases ahead_cases l with ⟨hn, ha⟩ | ⟨rest, ha, hn⟩
  · right
    rw [ha] at hk ⊢
    have hlt := (List.getElem?_eq_some_iff.1 hb).1
    exact ⟨fun h => hn (h ▸ List.mem_of_getElem? hb), hlt⟩
  · by_cases hlt : k < (aheadL l).length
    · right
      have h1 := hb
      rw [ha, List.getElem?_append_left hlt] at h1
      exact ⟨fun h => hn (h ▸ List.mem_of_getElem? h1), hlt⟩
    · left
      have hke : k = (aheadL l).length := by omega
      have h1 := hb
      rw [ha, List.getElem?_append_right (by omega), hke, Nat.sub_self] at h1
      exact ⟨(Option.some.inj h1).symm, hke⟩

set_option maxHeartbeats 2000000 in
theorem rahead_any (s : ByteArray) (w : World) (hs : s.size ≤ 65537) :
    Calls Tryd.prog 46 #[.string s] w fun e w' => e = .returned (.string (s.extract 0 (aheadL (by_ s)).length)) ∧ w = w' := by
  have HA := Lib.hid (fun k b hk hb => ahead_at (by_ s) k b hk hb)
  have hal := ahead_len (by_ s)
  rw [by_length] at hal
  have HE : Hid ((aheadL (by_ s)).length = s.size → s.extract 0 (aheadL (by_ s)).length = s) := Lib.hid (fun h => by
    apply by_inj
    rw [by_extract, h, List.drop_zero, List.take_of_length_le (by rw [by_length]; exact Nat.le_refl _)])
  obtain ⟨L, hL⟩ : ∃ L, L = (aheadL (by_ s)).length := ⟨_, rfl⟩
  rw [← hL] at HE hal ⊢
  have HL := Lib.hid hL
  clear hL
  go_enter Tryd.func46, Tryd.ntmps46
  go_wp2
  go_loop [3] (fun v => ∃ k : Nat, v = .int .i64 k ∧ k ≤ L) (fun v => s.size - (intOf v).toNat)
  case atStart => exact ⟨0, rfl, by omega⟩
  case round =>
    obtain ⟨k, rfl, hk⟩ := hrel
    by_cases hlt : k < s.size
    · have h01 : (k : Int) < (s.size : Int) := by omega
      have hk0 : (0 : Int) ≤ (k : Int) := Int.natCast_nonneg _
      have hb : (by_ s)[k]? = some (s[k]'hlt) := by
        have hl : k < (by_ s).length := by rw [by_length]; exact hlt
        rw [List.getElem?_eq_getElem hl]
        rfl
      have hwk : IntKind.i64.wrap ((k : Int) + 1) = (k : Int) + 1 := IntWalk.i64_in _ (by omega)
      rcases HA.out k (s[k]'hlt) (by rw [← HL.out]; exact hk) hb with ⟨h1, h2⟩ | ⟨h1, h2⟩
      · have hc : (((s[k]'hlt).toNat : Int) == 35) = true := by rw [h1]; rfl
        rw [← HL.out] at h2
        subst h2
        have hks : (k : Int) ≤ (s.size : Int) := by omega
        clear h1 hb
        go_wp2
        go_ret
        exact ⟨rfl, rfl⟩
      · have hc : (((s[k]'hlt).toNat : Int) == 35) = false := by
          rw [beq_eq_false_iff_ne]
          intro h
          exact h1 (UInt8.toNat_inj.1 (by have : (s[k]'hlt).toNat = 35 := by omega
                                          exact this))
        rw [← HL.out] at h2
        clear h1 hb
        go_wp2
        go_round
        case rel => exact ⟨k + 1, by go_num, h2⟩
        case measure => simp [intOf]; omega
    · have h01 : decide ((k : Int) < (s.size : Int)) = false := decide_eq_false (by omega)
      have hke : L = s.size := by omega
      have HKE := Lib.hid (HE.out hke)
      clear hke
      go_wp2
      go_ret
      exact ⟨by rw [HKE.out]; rfl, rfl⟩

theorem rremark_any (s : ByteArray) (w : World) (hs : s.size ≤ 65535) :
    Calls Tryd.prog 26 #[.string s] w fun e w' => e = .returned (.tuple #[.string ⟨(remarkL (by_ s)).toArray⟩, .bool ((by_ s).contains 35)]) ∧ w = w' := by
  have HA := Lib.hid (rahead_any s w (by omega))
  have hal := ahead_len (by_ s)
  rw [by_length] at hal
  rcases ahead_cases (by_ s) with ⟨hn, ha⟩ | ⟨rest, ha, hn⟩
  · have hc : (by_ s).contains 35 = false := by simpa using hn
    have hr : remarkL (by_ s) = [] := by
      unfold remarkL
      rw [ha, List.drop_of_length_le (by omega)]
      rfl
    rw [hc, hr]
    rw [ha, by_length] at HA
    have he : s.extract 0 s.size = s := by
      apply by_inj
      rw [by_extract, List.drop_zero, List.take_of_length_le (by rw [by_length]; exact Nat.le_refl _)]
    rw [he] at HA
    go_enter Tryd.func26, Tryd.ntmps26
    go_wp2_with fail
    refine (HA.out).mono ?_
    rintro e w' ⟨rfl, rfl⟩
    go_wp2
    go_ret2
    exact ⟨rfl, rfl⟩
  · have hc : (by_ s).contains 35 = true := by
      rw [ha]
      simp
    rw [hc]
    have hlen : (aheadL (by_ s)).length + 1 ≤ s.size := by
      have := congrArg List.length ha
      rw [by_length, List.length_append, List.length_cons] at this
      omega
    have hesz : (s.extract 0 (aheadL (by_ s)).length).size = (aheadL (by_ s)).length := by rw [ByteArray.size_extract]; omega
    have hrs : trimS (by_ (s.extract ((aheadL (by_ s)).length + 1) s.size)) blanks = remarkL (by_ s) := by
      rw [by_extract, List.take_of_length_le (by rw [by_length]; exact Nat.le_refl _)]
      rfl
    have HT := Lib.hid (rtrim_any (s.extract ((aheadL (by_ s)).length + 1) s.size) w (by rw [ByteArray.size_extract]; omega))
    rw [hrs] at HT
    generalize (⟨(remarkL (by_ s)).toArray⟩ : ByteArray) = r at *
    generalize (aheadL (by_ s)).length = L at *
    clear ha hn hc hrs hal
    have hne : ((L : Int) == (s.size : Int)) = false := by rw [beq_eq_false_iff_ne]; omega
    have h1 : (0 : Int) ≤ (L : Int) + 1 := by omega
    have h2 : (L : Int) + 1 ≤ (s.size : Int) := by omega
    have hwk : IntKind.i64.wrap ((L : Int) + 1) = (L : Int) + 1 := IntWalk.i64_in _ (by omega)
    generalize s.extract 0 L = t at *
    subst hesz
    go_enter Tryd.func26, Tryd.ntmps26
    go_wp2_with fail
    refine (HA.out).mono ?_
    rintro e w' ⟨rfl, rfl⟩
    go_wp2_with fail
    refine (HT.out).mono ?_
    rintro e w' ⟨rfl, rfl⟩
    go_wp2
    go_ret2
    exact ⟨rfl, rfl⟩

end Go.Proofs.YtaeildajbhiedaaDoor
