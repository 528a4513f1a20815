/- The law's works and short; LineJoins: its walk. -/
import Derived.Test.YtggpbgbnefgebaaDoorLineB
set_option linter.unusedVariables false
set_option linter.unusedSimpArgs false
namespace Go.Proofs.YtggpbgbnefgebaaDoor
open Go.RowKit
open Go.Lib hiding intOf
attribute [local go_sem ↓] Go.wp_at_zero Go.wp_at_succ

theorem lines_ex : linesOf (by_ ⟨#[97, 10, 10, 98]⟩) = [[97], [], [98]] := by kernel_rfl
theorem valid_ex : validD (by_ ⟨#[97, 195, 169]⟩) = true := by kernel_rfl
theorem count_ex : runeCount ⟨#[97, 195, 169]⟩ = 2 := by kernel_rfl
theorem valid_ex0 : validD [97] = true ∧ validD [] = true ∧ validD [98] = true := ⟨by kernel_rfl, by kernel_rfl, by kernel_rfl⟩

set_option maxHeartbeats 2000000 in
theorem works01_any (w : World) (hT : UTabs w) :
    Calls Tryd.prog 10 #[] w fun e w' => e = .returned (.bool true) ∧ Only [] w w' := by
  have HOF := Lib.hid (of_any ⟨#[97, 10, 10, 98]⟩ w (by decide) hT)
  have HT := Lib.hid hT
  clear hT
  go_enter Tryd.func10, Tryd.ntmps10
  go_wp2_with fail
  refine (HOF.out).mono ?_
  rintro e w1 ⟨hO, hcase⟩
  rw [lines_ex] at hcase
  rcases hcase with ⟨-, V, xs, rfl, hown, hxs⟩ | ⟨i, x, hx, hv, -, -⟩
  · have hr := runes_any ⟨#[97, 195, 169]⟩ w1 (by decide) (HT.out.only hO)
    rw [valid_ex, if_pos rfl, count_ex] at hr
    have HR := Lib.hid hr
    rcases xs with _ | ⟨a, _ | ⟨b, _ | ⟨c, _ | ⟨d, t⟩⟩⟩⟩
    · simp at hxs
    · simp at hxs
    · simp at hxs
    · simp only [List.map_cons, List.map_nil, List.cons.injEq, and_true] at hxs
      obtain ⟨ha, hb, hc⟩ := hxs
      have hc' : c = ⟨#[98]⟩ := by_inj hc
      subst hc'
      obtain ⟨A, cc, rfl, -, -, -, hrow⟩ := own_row hown
      obtain ⟨bb, off, rfl, hbB, hbw, hcell⟩ := hrow.open_ (k := 2) (by simp [strs])
      have hck : w1.cell? ⟨bb, off + 2, none⟩ = some (.string ⟨#[98]⟩) := hcell 2 _ (by simp [strs])
      have HO := Lib.hid hO
      have HCK := Lib.hid hck
      clear hown hrow hcell hO ha hb hc hr HOF hck
      go_wp2_with fail
      refine (HR.out).mono ?_
      rintro e w2 ⟨rfl, hO2⟩
      have hck2 := (hO2.cell (p := ⟨bb, off + 2, none⟩) hbw (by simp)).trans HCK.out
      have HO2 := Lib.hid (HO.out.trans hO2)
      clear hO2
      go_wp2
      go_ret
      exact ⟨rfl, HO2.out⟩
    · simp at hxs
  · exfalso
    have h0 := valid_ex0
    rcases i with _ | _ | _ | i
    · simp at hx; subst hx; rw [h0.1] at hv; cases hv
    · simp at hx; subst hx; rw [h0.2.1] at hv; cases hv
    · simp at hx; subst hx; rw [h0.2.2] at hv; cases hv
    · simp at hx

def shortN (s : ByteArray) : Nat := if 65536 < s.size then 65537 else min s.size 3000
def shortS (s : ByteArray) : ByteArray := s.extract 0 (shortN s)
theorem shortS_size (s : ByteArray) : (shortS s).size = 65537 ∨ (shortS s).size ≤ 3000 := by
  unfold shortS shortN
  rw [ByteArray.size_extract]
  split <;> omega

set_option maxHeartbeats 1000000 in
theorem short_any (s : ByteArray) (w : World) (hs : s.size ≤ 9223372036854775807) :
    Calls Tryd.prog 6 #[.string s] w fun e w' => e = .returned (.string (shortS s)) ∧ w = w' := by
  unfold shortS shortN
  by_cases h1 : 65536 < s.size
  · rw [if_pos h1]
    have hd : decide ((65536 : Int) < (s.size : Int)) = true := by simp; omega
    have hb : (65537 : Int) ≤ (s.size : Int) := by omega
    go_enter Tryd.func6, Tryd.ntmps6
    go_wp2
    go_ret
    exact ⟨rfl, rfl⟩
  · rw [if_neg h1]
    have hd : decide ((65536 : Int) < (s.size : Int)) = false := by simp; omega
    by_cases h3 : s.size ≤ 3000
    · rw [Nat.min_eq_left h3, show s.extract 0 s.size = s from by_inj (by rw [by_extract, List.drop_zero, List.take_of_length_le (by rw [by_length]; exact Nat.le_refl _)])]
      have hmin : min (s.size : Int) 3000 = (s.size : Int) := by omega
      go_enter Tryd.func6, Tryd.ntmps6
      go_wp2
      go_ret
      exact ⟨rfl, rfl⟩
    · rw [Nat.min_eq_right (by omega)]
      have hmin : min (s.size : Int) 3000 = 3000 := by omega
      have hb : (3000 : Int) ≤ (s.size : Int) := by omega
      go_enter Tryd.func6, Tryd.ntmps6
      go_wp2
      go_ret
      exact ⟨rfl, rfl⟩

set_option maxHeartbeats 4000000 in
theorem lineJoins_walk (s : ByteArray) (w : World) (hs : s.size ≤ 9223372036854775807) (hT : UTabs w) :
    Calls Tryd.prog 5 #[.string s] w fun e w' => e = .returned (.bool true) ∧ Only [] w w' := by
  have HW := Lib.hid (works01_any w hT)
  have HS := Lib.hid (fun w => short_any s w hs)
  have hsz := shortS_size s
  have HT := Lib.hid hT
  generalize shortS s = x at *
  clear hT
  go_enter Tryd.func5, Tryd.ntmps5
  go_wp2_with fail
  refine (HW.out).mono ?_
  rintro e w1 ⟨rfl, hO⟩
  have HO := Lib.hid hO
  clear hO HW
  go_wp2_with fail
  refine (HS.out _).mono ?_
  rintro e w1' ⟨rfl, rfl⟩
  rcases hsz with hsz | hsz
  · have HL := Lib.hid (of_long x w1 (by omega))
    go_wp2_with fail
    refine (HL.out).mono ?_
    rintro e w1' ⟨rfl, rfl⟩
    go_wp2
    go_ret
    exact ⟨rfl, HO.out⟩
  · have HL := Lib.hid (of_any x w1 (by omega) (HT.out.only HO.out))
    go_wp2_with fail
    refine (HL.out).mono ?_
    rintro e w2 ⟨hO2, hcase⟩
    have HO2 := Lib.hid (HO.out.trans hO2)
    rcases hcase with ⟨-, V, xs, rfl, hown, hxs⟩ | ⟨i, y, hy, hv, -, rfl⟩
    · obtain ⟨A, c, rfl, hc1, hc2, hxl, hrow⟩ := own_row hown
      obtain ⟨n, hn⟩ : ∃ n, n = xs.length := ⟨_, rfl⟩
      have hjc := join_cut (by_ x) []
      have hln := cutL_len (by_ x) []
      rw [by_length] at hln
      have e0 : cutL [] (by_ x) = xs.map by_ := hxs.symm
      rw [e0] at hjc hln
      rw [List.length_map, ← hn] at hln
      have HJ := Lib.hid hjc
      have HN := Lib.hid hn
      have HROW := Lib.hid hrow
      have HXS := Lib.hid hxs
      rw [← hn] at hc1 ⊢
      clear hO2 hxs hown hrow hxl e0 hjc hn HL
      go_wp2
      go_loopw [6, 7] (fun tt i wr => ∃ (k : Nat) (T : ByteArray), tt = .string T ∧ i = .int .i64 k ∧ k ≤ n ∧ T.size ≤ k * 3001 ∧ Hid (by_ T = joinL ((xs.take k).map by_)) ∧ wr = w2) (fun _ i _ => n - (intOf i).toNat)
      case atStart => exact ⟨0, ⟨#[]⟩, rfl, rfl, by omega, (by show (0 : Nat) ≤ _; omega), Lib.hid rfl, by first | rfl | trivial⟩
      case round =>
        obtain ⟨k, T, rfl, rfl, hk, hTs, HTT, rfl⟩ := hrel
        by_cases hlt : k < n
        · have hk1 : (k : Int) < (n : Int) := by omega
          have hk0 : (0 : Int) ≤ (k : Int) := Int.natCast_nonneg _
          obtain ⟨b, off, rfl, hbB, hbw, hcell⟩ := HROW.out.open_ (k := k) (by rw [strs, List.length_map, ← HN.out]; exact hlt)
          obtain ⟨l, hl⟩ : ∃ l, xs[k]? = some l := ⟨_, List.getElem?_eq_getElem (by rw [← HN.out]; exact hlt)⟩
          have hck : wr.cell? ⟨b, off + k, none⟩ = some (.string l) := hcell k _ (by rw [strs, List.getElem?_map, hl]; rfl)
          have htk : xs.take (k + 1) = xs.take k ++ [l] := by rw [List.take_add_one, hl]; rfl
          have HTK := Lib.hid htk
          have hls : l.size ≤ 3000 := by
            have h1 : by_ l ∈ cutL [] (by_ x) := by
              have h2 : by_ l ∈ xs.map by_ := List.mem_map_of_mem (List.mem_of_getElem? hl)
              rw [HXS.out] at h2
              exact h2
            have := cutL_mem (by_ x) [] (by_ l) h1
            rw [by_length, by_length] at this
            simp at this
            omega
          have hla : l.size + 1 ≤ 9223372036854775807 := by omega
          have hlb : T.size + (l.size + 1) ≤ 9223372036854775807 := by omega
          have HT2 : Hid (by_ (T ++ (l ++ ⟨#[10]⟩)) = joinL ((xs.take (k + 1)).map by_)) := Lib.hid (by
            rw [by_append, by_append, HTT.out, HTK.out, List.map_append]
            exact (joinL_snoc _ _).symm)
          have hTs2 : (T ++ (l ++ ⟨#[10]⟩)).size ≤ (k + 1) * 3001 := by
            rw [ByteArray.size_append, ByteArray.size_append]
            have : (⟨#[10]⟩ : ByteArray).size = 1 := rfl
            omega
          have HTS2 := Lib.hid hTs2
          clear hcell hl htk hTs2 hTs
          go_wp2
          go_roundw
          case rel => exact ⟨k + 1, T ++ (l ++ ⟨#[10]⟩), rfl, by go_num, by omega, HTS2.out, HT2, by first | rfl | trivial⟩
          case measure => simp [intOf]; omega
        · have hkn : k = n := by omega
          subst hkn
          have hd : decide ((k : Int) < (k : Int)) = false := by simp
          have htk : xs.take k = xs := List.take_of_length_le (by rw [← HN.out]; exact Nat.le_refl _)
          rw [htk] at HTT
          have hTx : by_ T = by_ x ∨ by_ T = by_ (x ++ ⟨#[10]⟩) := by
            rw [HTT.out, by_append, show by_ ⟨#[10]⟩ = [10] from rfl]
            simpa using HJ.out
          have hxb : x.size + 1 ≤ 9223372036854775807 := by omega
          clear htk HTT HJ
          by_cases hTe : T = x
          · subst hTe
            clear hTx
            go_wp2
            go_ret
            exact ⟨rfl, HO2.out⟩
          · have hT2 : T = x ++ ⟨#[10]⟩ := by
              rcases hTx with h | h
              · exact absurd (by_inj h) hTe
              · exact by_inj h
            have HT2 := Lib.hid hT2
            clear hTx hT2 hTe
            go_wp2
            all_goals
              first
              | (go_ret; exact ⟨rfl, HO2.out⟩)
              | (rw [show (T.toList == x.toList || T.toList == (x ++ ⟨#[10]⟩).toList) = true from by rw [HT2.out]; simp]; go_ret; exact ⟨rfl, HO2.out⟩)
    · have hi0 : decide ((0 : Int) ≤ (i : Int) + 1) = true := by simp; omega
      clear hy hv hO2
      go_wp2
      go_ret
      exact ⟨rfl, HO2.out⟩

end Go.Proofs.YtggpbgbnefgebaaDoor
