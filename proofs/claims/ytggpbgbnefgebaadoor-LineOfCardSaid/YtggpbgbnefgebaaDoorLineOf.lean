/- SameTexts of the same texts; LineOf: its walk. -/
import Derived.Test.YtggpbgbnefgebaaDoorRLineC
set_option linter.unusedVariables false
set_option linter.unusedSimpArgs false
namespace Go.Proofs.YtggpbgbnefgebaaDoor
open Go.RowKit
open Go.Lib hiding intOf
attribute [local go_sem ↓] Go.wp_at_zero Go.wp_at_succ

set_option maxHeartbeats 2000000 in
theorem sameTexts_same (A A' : Option Addr) (n c d : Nat) (xs : List ByteArray) (w : World) (B B' : Nat) (hA : Row w B A (strs xs)) (hA' : Row w B' A' (strs xs)) (hn : xs.length = n) (hnm : n ≤ 1000000) :
    Calls Tryd.prog 9 #[.slice A n c, .slice A' n d] w fun e w' => e = .returned (.bool true) ∧ ∃ k, w.drewN k = w' := by
  have HA := Lib.hid hA
  have HA' := Lib.hid hA'
  have HN := Lib.hid hn
  clear hA hA' hn
  go_enter Tryd.func9, Tryd.ntmps9
  go_wp2_with fail
  go_loopw [5] (fun i wr => ∃ k q : Nat, i = .int .i64 k ∧ k ≤ n ∧ Hid (wr = w.drewN q)) (fun i _ => n - (intOf i).toNat)
  case atStart => exact ⟨0, 0, rfl, by omega, rfl⟩
  case round =>
    obtain ⟨k, q, rfl, hk, hw⟩ := hrel
    by_cases hlt : k < n
    · obtain ⟨b, off, rfl, -, hbw, hc⟩ := HA.out.open_ (k := k) (by rw [strs, List.length_map, HN.out]; exact hlt)
      obtain ⟨b', off', rfl, -, hbw', hc'⟩ := HA'.out.open_ (k := k) (by rw [strs, List.length_map, HN.out]; exact hlt)
      obtain ⟨x, hx⟩ : ∃ x, xs[k]? = some x := ⟨_, List.getElem?_eq_getElem (by rw [HN.out]; exact hlt)⟩
      have hcx : wr.cell? ⟨b, off + k, none⟩ = some (.string x) := by rw [hw.out]; exact hc k _ (by rw [strs, List.getElem?_map, hx]; rfl)
      have hcy : wr.cell? ⟨b', off' + k, none⟩ = some (.string x) := by rw [hw.out]; exact hc' k _ (by rw [strs, List.getElem?_map, hx]; rfl)
      have hk0 : (0 : Int) ≤ (k : Int) := Int.natCast_nonneg _
      have hk1 : (k : Int) < (n : Int) := by omega
      clear hx hc hc'
      go_wp2_with fail
      go_quiet (fail)
      go_wp2
      go_roundw
      case rel =>
        refine ⟨k + 1, q + nq, by go_num, by omega, ?_⟩
        show _ = _
        rw [hw.out, World.drewN_drewN]
      case measure => simp [intOf]; omega
    · have hkn : k = n := by omega
      subst hkn
      have hd : decide ((k : Int) < (k : Int)) = false := by simp
      go_wp2
      go_ret
      exact ⟨rfl, q, hw.out.symm⟩

theorem by_map_inj : ∀ {xs ys : List ByteArray}, xs.map by_ = ys.map by_ → xs = ys
  | [], [], _ => rfl
  | [], _ :: _, h => by cases h
  | _ :: _, [], h => by cases h
  | x :: xs, y :: ys, h => by
    simp only [List.map_cons, List.cons.injEq] at h
    rw [by_inj h.1, by_map_inj h.2]

set_option maxHeartbeats 4000000 in
theorem lineOf_walk (s : ByteArray) (w : World) (hs : s.size ≤ 9223372036854775807) (hT : UTabs w) :
    Calls Tryd.prog 3 #[.string s] w fun e w' => e = .returned (.bool true) ∧ Only [] w w' := by
  have HS := Lib.hid (short_any s w hs)
  have hsz := shortS_size s
  have HT := Lib.hid hT
  have HW := Lib.hid (fun (w' : World) (hO : Only [] w w') => works01_any w' (hT.only hO))
  generalize shortS s = x at *
  clear hT
  go_enter Tryd.func3, Tryd.ntmps3
  go_wp2_with fail
  refine (HS.out).mono ?_
  rintro e w1' ⟨rfl, rfl⟩
  rcases hsz with hsz | hsz
  · have HL := Lib.hid (of_long x w (by omega))
    have HR := Lib.hid (rof_long x w (by omega))
    have HSM := Lib.hid (sameTexts_same none none 0 0 0 [] w w.heap.size w.heap.size (.inl rfl) (.inl rfl) rfl (by omega))
    go_wp2_with fail
    refine (HL.out).mono ?_
    rintro e w1' ⟨rfl, rfl⟩
    go_wp2_with fail
    refine (HR.out).mono ?_
    rintro e w1' ⟨rfl, rfl⟩
    go_wp2_with fail
    refine (HSM.out).mono ?_
    rintro e w1' ⟨rfl, d, rfl⟩
    have OD : Only [] w (w.drewN d) := (Only.refl [] w).drewN d
    go_wp2_with fail
    refine (HW.out _ OD).mono ?_
    rintro e w2 ⟨rfl, hO⟩
    go_wp2
    go_ret
    exact ⟨rfl, OD.trans hO⟩
  · have HL := Lib.hid (of_any x w (by omega) HT.out)
    have hln := cutL_len (by_ x) []
    rw [by_length] at hln
    have HLN : Hid ((linesOf (by_ x)).length ≤ x.size + 1) := Lib.hid hln
    clear hln
    go_wp2_with fail
    refine (HL.out).mono ?_
    rintro e w2 ⟨hO2, hcase⟩
    have HR := Lib.hid (rof_any x w2 (by omega))
    have HC := Lib.hid hcase
    rcases HC.out with ⟨hv, V, xs, rfl, hown, hxs⟩ | ⟨i, y, hy, hvy, hbef, rfl⟩
    · obtain ⟨A, c, rfl, hc1, hc2, -, hrow⟩ := own_row hown
      have HXS := Lib.hid hxs
      have HV := Lib.hid hv
      have HROW := Lib.hid hrow
      clear hown hxs hv hrow hcase HC
      go_wp2_with fail
      refine (HR.out).mono ?_
      rintro e w3 ⟨hO3, hcase3⟩
      rcases hcase3 with ⟨-, V3, xs3, rfl, hown3, hxs3⟩ | ⟨i, y, hy, hvy, -, -⟩
      · obtain ⟨A3, c3, rfl, -, -, -, hrow3⟩ := own_row hown3
        have hex : xs3 = xs := by_map_inj (by rw [hxs3, HXS.out])
        subst hex
        have hnl : xs3.length ≤ 3001 := by
          have := HLN.out
          rw [← HXS.out, List.length_map] at this
          omega
        have HSM := Lib.hid (sameTexts_same A A3 xs3.length c c3 xs3 w3 _ _ (HROW.out.only hO3 (by simp)) hrow3 rfl (by omega))
        have HO3 := Lib.hid (hO2.trans hO3)
        clear hown3 hxs3 hrow3 hO3 hO2
        obtain ⟨n, hn⟩ : ∃ n, n = xs3.length := ⟨_, rfl⟩
        rw [← hn] at HSM ⊢
        clear hn hnl hc1
        go_wp2_with fail
        refine (HSM.out).mono ?_
        rintro e w4 ⟨rfl, d, rfl⟩
        have OD := Lib.hid (HO3.out.drewN d)
        go_wp2_with fail
        refine (HW.out _ OD.out).mono ?_
        rintro e w5 ⟨rfl, hO⟩
        go_wp2
        go_ret
        exact ⟨rfl, OD.out.trans hO⟩
      · exfalso
        have := HV.out y (List.mem_of_getElem? hy)
        rw [this] at hvy
        cases hvy
    · have HY := Lib.hid hy
      have HVY := Lib.hid hvy
      have HBEF := Lib.hid hbef
      clear hy hvy hbef hcase HC
      go_wp2_with fail
      refine (HR.out).mono ?_
      rintro e w3 ⟨hO3, hcase3⟩
      rcases hcase3 with ⟨hv, -⟩ | ⟨i3, y3, hy3, hvy3, hbef3, rfl⟩
      · exfalso
        have := hv y (List.mem_of_getElem? HY.out)
        have h2 := HVY.out
        rw [this] at h2
        cases h2
      · have hii : i3 = i := by
          rcases Nat.lt_trichotomy i i3 with h | h | h
          · have := hbef3 i y h HY.out
            have h2 := HVY.out
            rw [this] at h2
            cases h2
          · exact h.symm
          · have := HBEF.out i3 y3 h hy3
            rw [this] at hvy3
            cases hvy3
        subst hii
        have HSM := Lib.hid (sameTexts_same none none 0 0 0 [] w3 w3.heap.size w3.heap.size (.inl rfl) (.inl rfl) rfl (by omega))
        have HO3 := Lib.hid (hO2.trans hO3)
        clear hy3 hvy3 hbef3 hO3 hO2
        go_wp2_with fail
        refine (HSM.out).mono ?_
        rintro e w4 ⟨rfl, d, rfl⟩
        have OD := Lib.hid (HO3.out.drewN d)
        go_wp2_with fail
        refine (HW.out _ OD.out).mono ?_
        rintro e w5 ⟨rfl, hO⟩
        go_wp2
        go_ret
        exact ⟨rfl, OD.out.trans hO⟩

end Go.Proofs.YtggpbgbnefgebaaDoor
