/- Parts. -/
import Derived.Test.YtojpohmijlkagaaDoorLaw43AllK24
set_option maxRecDepth 10000
set_option maxHeartbeats 16000000
set_option linter.unusedVariables false
set_option linter.unusedSimpArgs false
namespace Go.Proofs.YtojpohmijlkagaaDoor
open Go.RowKit
open Go.Lib hiding intOf
attribute [local go_sem ↓] Go.wp_at_zero Go.wp_at_succ
theorem of_any (s : ByteArray) (w : World) (hs : s.size ≤ 65536) (hT : UTabs w) :
    Calls Tryd.prog 19 #[.string s] w fun e w' => Only [] w w' ∧
      (((∀ x ∈ linesOf (by_ s), validD x = true) ∧ ∃ V xs, e = .returned (.tuple #[V, .int .i64 0, .int .i64 0]) ∧ w'.ownsRow w.heap.size 9 1 V xs.length (strs xs) ∧ xs.map by_ = linesOf (by_ s)) ∨
       (∃ (i : Nat) (x : List UInt8), (linesOf (by_ s))[i]? = some x ∧ validD x = false ∧ (∀ j y, j < i → (linesOf (by_ s))[j]? = some y → validD y = true) ∧ e = .returned (.tuple #[.slice none 0 0, .int .i64 ((i : Int) + 1), .int .i64 5]))) := by
  have HC := Hd (cut_any s w hs)
  have HT := Hd hT
  have hs1 : ¬ (65536 : Int) < (s.size : Int) := by omega
  have hlm := cutL_mem (by_ s) []
  have hln := cutL_len (by_ s) []
  rw [by_length] at hln
  have HLM := Hd hlm
  clear hT hlm
  go_enter Tryd.func19, Tryd.ntmps19
  go_wp2_with fail
  refine (HC.out).mono ?_
  rintro e w1 ⟨V, xs, ⟨rfl, hown, hxs⟩, hO⟩
  obtain ⟨A, c, rfl, hc1, hc2, hxl, hrow⟩ := own_row hown
  obtain ⟨n, hn⟩ : ∃ n, n = xs.length := ⟨_, rfl⟩
  have hnl : (linesOf (by_ s)).length = n := by rw [← hxs, List.length_map, hn]
  unfold linesOf at hnl
  have hn65 : n ≤ 65537 := by omega
  have HXS := Hd hxs
  have HOWN := Hd hown
  have HROW := Hd hrow
  have HO := Hd hO
  have HN := Hd hn
  rw [← hn] at hc1 ⊢
  clear hxs hown hrow hO hxl hnl hln hn
  go_wp2
  go_loopw [15] (fun i wr => ∃ k : Nat, i = .int .i64 k ∧ k ≤ n ∧ Hid (∀ j y, j < k → (linesOf (by_ s))[j]? = some y → validD y = true) ∧ Hid (Only [] w1 wr)) (fun i _ => n - (intOf i).toNat)
  case atStart => exact ⟨0, rfl, by omega, Hd (fun j y h => by omega), Hd (Only.refl _ _)⟩
  case round =>
    obtain ⟨k, rfl, hk, HV, HO1⟩ := hrel
    by_cases hlt : k < n
    · have hk1 : (k : Int) < (n : Int) := by omega
      have hk0 : (0 : Int) ≤ (k : Int) := Int.natCast_nonneg _
      obtain ⟨b, off, rfl, hbB, hbw, hcell⟩ := HROW.out.open_ (k := k) (by rw [strs, List.length_map, ← HN.out]; exact hlt)
      obtain ⟨x, hx⟩ : ∃ x, xs[k]? = some x := ⟨_, List.getElem?_eq_getElem (by rw [← HN.out]; exact hlt)⟩
      have hck : wr.cell? ⟨b, off + k, none⟩ = some (.string x) := (HO1.out.cell (p := ⟨b, off + k, none⟩) hbw (by simp)).trans (hcell k _ (by rw [strs, List.getElem?_map, hx]; rfl))
      have hlx : (linesOf (by_ s))[k]? = some (by_ x) := by rw [← HXS.out, List.getElem?_map, hx]; rfl
      have hxs : x.size ≤ 9223372036854775807 := by
        have := HLM.out (by_ x) (List.mem_of_getElem? hlx)
        rw [by_length, by_length] at this
        simp at this
        omega
      have HVC := Hd (valid_any x wr hxs ((HT.out.only HO.out).only HO1.out))
      have HLX := Hd hlx
      clear hcell hx hlx hxs
      obtain ⟨vb, hvb⟩ : ∃ vb, vb = validD (by_ x) := ⟨_, rfl⟩
      rw [← hvb] at HVC
      have HVB := Hd hvb
      clear hvb
      cases vb with
      | true =>
        go_wp2_with fail
        refine (HVC.out).mono ?_
        rintro e w2 ⟨rfl, hO2⟩
        have HO2 := Hd (HO1.out.trans hO2)
        have HV2 : Hid (∀ j y, j < k + 1 → (linesOf (by_ s))[j]? = some y → validD y = true) := Hd (fun j y hj hy => by
          by_cases hjk : j < k
          · exact HV.out j y hjk hy
          · have : j = k := by omega
            subst this
            rw [HLX.out] at hy
            obtain rfl := Option.some.inj hy
            exact HVB.out.symm)
        clear hO2
        go_wp2
        go_roundw
        case rel => exact ⟨k + 1, by go_num, by omega, HV2, HO2⟩
        case measure => simp [intOf]; omega
      | false =>
        have hwk : IntKind.i64.wrap ((k : Int) + 1) = (k : Int) + 1 := IntWalk.i64_in _ (by omega)
        go_wp2_with fail
        refine (HVC.out).mono ?_
        rintro e w2 ⟨rfl, hO2⟩
        have HO2 := Hd (HO1.out.trans hO2)
        clear hO2
        go_wp2
        go_ret3
        exact ⟨HO.out.trans HO2.out, .inr ⟨k, by_ x, HLX.out, HVB.out.symm, HV.out, rfl⟩⟩
    · have hkn : k = n := by omega
      subst hkn
      have hd : decide ((k : Int) < (k : Int)) = false := by simp
      go_wp2
      go_ret3
      · refine ⟨HO.out.trans HO1.out, .inl ⟨fun x hx => ?_, .slice A k c, xs, rfl, ?_, HXS.out⟩⟩
        · obtain ⟨j, hj⟩ := List.mem_iff_getElem?.1 hx
          have hjl : j < (linesOf (by_ s)).length := (List.getElem?_eq_some_iff.1 hj).1
          rw [← HXS.out, List.length_map, ← HN.out] at hjl
          exact HV.out j x hjl hj
        · have := own_only HOWN.out HO1.out (by simp)
          rw [← HN.out] at this ⊢
          exact this
theorem of_long (s : ByteArray) (w : World) (hs : 65536 < s.size) :
  Calls Tryd.prog 19 #[.string s] w fun e w' => e = .returned (.tuple #[.slice none 0 0, .int .i64 0, .int .i64 6]) ∧ w = w' := by
 have hs1 : (65536 : Int) < (s.size : Int) := by omega
 go_enter Tryd.func19, Tryd.ntmps19;go_wp2
 go_ret3
 exact ⟨rfl, rfl⟩
end Go.Proofs.YtojpohmijlkagaaDoor
namespace Go.Proofs.YtojpohmijlkagaaDoor
open Go.RowKit
theorem own_lower {w : World} {base base' : Nat} {e : TypeId} {size : Nat} {v : Value} {n : Nat} {xs : List Value} (h : w.ownsRow base e size v n xs) (hb : base' ≤ base) : w.ownsRow base' e size v n xs := by
 obtain ⟨hl, hv⟩ := h;refine ⟨hl, ?_⟩;rcases hv with hv | ⟨g, cap, cur, rfl, h1, rest⟩
 ·exact .inl hv
 ·exact .inr ⟨g, cap, cur, rfl, Nat.le_trans hb h1, rest⟩
end Go.Proofs.YtojpohmijlkagaaDoor
