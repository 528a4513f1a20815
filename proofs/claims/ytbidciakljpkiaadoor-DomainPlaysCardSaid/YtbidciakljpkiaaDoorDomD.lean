/- Contracts of the package domain: Open, Begin, Undo, New. -/
import Derived.Test.YtbidciakljpkiaaDoorDomC
set_option linter.unusedVariables false
set_option linter.unusedSimpArgs false
namespace Go.Proofs.YtbidciakljpkiaaDoor
open Go.RowKit
attribute [local go_sem ↓] Go.wp_at_zero Go.wp_at_succ

/-- The variables with more than one value left, among the first so many. -/
def openTo (I : List (List Bool)) (n : Nat) : List Int := ((List.range n).filter fun v => !fxB (I.getD v [])).map fun (v : Nat) => (v : Int)
theorem openTo_succ (I : List (List Bool)) (n : Nat) : openTo I (n + 1) = if fxB (I.getD n []) = true then openTo I n else openTo I n ++ [(n : Int)] := by
  unfold openTo
  rw [List.range_succ, List.filter_append]
  by_cases h : fxB (I.getD n []) = true
  · simp only [List.getD_eq_getElem?_getD] at h
    simp [h]
  · simp only [List.getD_eq_getElem?_getD] at h
    simp [h]
theorem openTo_len (I : List (List Bool)) (n : Nat) : (openTo I n).length ≤ n := by
  unfold openTo
  rw [List.length_map]
  have := List.length_filter_le (fun v => !fxB (I.getD v [])) (List.range n)
  simpa using this

section
variable {w : World} {p q B : Nat} {sz : List Nat} {I : List (List Bool)} {T : List (List (List Bool))} {fp : List Nat}
set_option maxHeartbeats 2000000 in
theorem dopen_any (h : Dom w p q B sz I T fp) (hT : Tab w) (h00 : 0 < w.heap.size) :
    Calls Tryd.prog 24 #[.pointer (some ⟨p, 0, none⟩)] w fun e w' => ∃ V, (e = .returned V ∧ w'.ownsRow w.heap.size 3 1 V (openTo I I.length).length ((openTo I I.length).map (Value.int .i64))) ∧ Only [] w w' := by
  obtain ⟨i0, hi, hz0, hz1, hz2⟩ := info_parts info_int
  obtain ⟨A, c, h0, h1, hc1, hc2, hn⟩ := h.head
  have HI := Lib.hid (dis_yes h)
  have HF := Lib.hid (fun (w' : World) (hO : Only [] w w') (v : Nat) (hv : v < I.length) => dfixed_in (h.keep hO) (List.getElem?_eq_getElem hv) (hT.only h00 hO (by simp)) (by have := hO.size; omega))
  have HS := Lib.hid (openTo_succ I)
  have HL := Lib.hid (openTo_len I)
  have hD : ∀ v (hv : v < I.length), I.getD v [] = I[v] := fun v hv => by rw [List.getD_eq_getElem?_getD, List.getElem?_eq_getElem hv]; rfl
  have HD := Lib.hid hD
  clear hT h hD
  obtain ⟨N, hN⟩ : ∃ N, N = I.length := ⟨_, rfl⟩
  rw [← hN] at h0 hc1 hn
  have HN := Lib.hid hN
  clear hN
  go_enter Tryd.func24, Tryd.ntmps24
  go_wp2_with fail
  refine (HI.out).mono ?_
  rintro e w' ⟨rfl, rfl⟩
  go_wp2
  go_loopw [3, 15] (fun V i wr => ∃ k : Nat, i = .int .i64 k ∧ k ≤ N ∧ wr.ownsRow w.heap.size 3 1 V (openTo I k).length ((openTo I k).map (Value.int .i64)) ∧ Only [] w wr) (fun _ i _ => N - (intOf i).toNat)
  case atStart => exact ⟨0, rfl, by omega, ⟨rfl, .inl ⟨rfl, rfl⟩⟩, Only.refl _ _⟩
  case round =>
    obtain ⟨k, rfl, hk, hown, hO⟩ := hrel
    have HOWN := Lib.hid hown
    have HO := Lib.hid hO
    clear hown hO
    by_cases hlt : k < N
    · have hkI : k < I.length := by rw [← HN.out]; exact hlt
      have HFI := Lib.hid (HF.out wr HO.out k hkI)
      have hst := HS.out k
      rw [HD.out k hkI] at hst
      have hol := HL.out k
      obtain ⟨fb, hfb⟩ : ∃ fb, fb = fxB I[k] := ⟨_, rfl⟩
      obtain ⟨fv, hfv⟩ : ∃ fv, fv = fxV I[k] := ⟨_, rfl⟩
      rw [← hfb] at hst HFI
      rw [← hfv] at HFI
      have HST := Lib.hid hst
      clear hst hfb hfv hkI
      have hk1 : (k : Int) < (N : Int) := by omega
      go_wp2_with fail
      refine (HFI.out).mono ?_
      rintro e w1 ⟨rfl, hO1⟩
      have HO2 := Lib.hid (HO.out.trans hO1)
      have HOW := Lib.hid (own_only HOWN.out hO1 (by simp))
      clear hO1
      cases fb with
      | true =>
        have e1 : openTo I (k + 1) = openTo I k := by rw [HST.out]; simp
        have HE := Lib.hid e1
        clear e1
        go_wp2
        go_roundw
        case rel => exact ⟨k + 1, by go_num, by omega, by rw [HE.out]; exact HOW.out, HO2.out⟩
        case measure => simp [intOf]; omega
      | false =>
        go_wp2_with (at_builtin; refine wpList_append_row _ rfl (.tmp 26) (.tmp 28) _ rfl w.heap.size 3 i0 _ 1 8 Tryd.underlying22 hi hz0 hz1 hz2 rfl (by omega) _ _ _ rfl (own_only HOW.out ((Only.refl [] _).alloc _) (by simp)) (w1.heap.size + 1) (some ⟨w1.heap.size, 0, none⟩) 1 1 [.int .i64 (k : Int)] rfl rfl (row_lit w1 3 #[.int .i64 (k : Int)]) (by simp [Value.oneCell']) (by unfold maxLen; omega) (by omega) (by have := HO2.out.size; simp; omega) ?_; intro v2 w2 hown2 hgrow hat)
        have REL : w2.ownsRow w.heap.size 3 1 v2 (openTo I (k + 1)).length ((openTo I (k + 1)).map (Value.int .i64)) ∧ Only [] w w2 := by
          refine ⟨?_, (HO2.out.alloc _).step (only_grown hgrow) (own_new HOW.out)⟩
          have e1 : openTo I (k + 1) = openTo I k ++ [(k : Int)] := by rw [HST.out]; simp
          rw [e1]
          simpa using hown2
        have HREL := Lib.hid REL
        clear REL hown2
        go_wp2
        go_roundw
        case rel => first | exact ⟨k + 1, by go_num, by omega, HREL.out⟩ | exact ⟨_, ⟨k + 1, by go_num, by omega, HREL.out⟩, rfl⟩ | exact ⟨_, _, ⟨k + 1, by go_num, by omega, HREL.out⟩, rfl⟩
        case measure => simp [intOf]; omega
    · have hkN : k = N := by omega
      have hd : decide ((k : Int) < (N : Int)) = false := by simp; omega
      go_wp2
      go_ret
      refine ⟨_, ⟨rfl, ?_⟩, HO.out⟩
      rw [← HN.out, ← hkN]
      exact HOWN.out

theorem gks_len : (gks I).length = I.length := by rw [gks, List.length_map]

theorem dbegin_any (h : Dom w p q B sz I T fp) (hT : T.length < 1000) (hB : B ≤ w.heap.size) :
    Calls Tryd.prog 16 #[.pointer (some ⟨p, 0, none⟩)] w fun e w' => e = .returned (.int .i64 0) ∧ ∃ fp', Dom w' p q B sz I (T ++ [I]) fp' ∧ Only fp w w' ∧ ∀ b ∈ fp', b ∈ fp ∨ w.heap.size ≤ b ∧ b < w'.heap.size := by
  obtain ⟨A, c, h0, h1, hc1, hc2, hn⟩ := h.head
  have HI := Lib.hid (dis_yes h)
  have HB := Lib.hid (tbegin_any q (gks I) (T.map gks) fp w h.d.T (by rw [gks_len]; omega) (by rw [List.length_map]; exact hT))
  have H := Lib.hid h
  clear h
  go_enter Tryd.func16, Tryd.ntmps16
  go_wp2_with fail
  refine (HI.out).mono ?_
  rintro e w' ⟨rfl, rfl⟩
  go_wp2_with fail
  refine (HB.out).mono ?_
  rintro e w1 ⟨rfl, fp', hT', hO, hf⟩
  go_wp2
  go_ret
  have h := H.out
  refine ⟨rfl, fp', ⟨?_, h.len, fun J hJ => ?_, h.ok, fun J hJ => ?_, h.n⟩, hO, hf⟩
  · have := h.d.trail hO hT' (fun b hb => by
      rcases hf b hb with h1 | h1
      · exact h.d.fpB b h1
      · omega)
    simpa using this
  · rcases List.mem_append.1 hJ with h2 | h2
    · exact h.tl J h2
    · simp at h2; subst h2; exact h.len
  · rcases List.mem_append.1 hJ with h2 | h2
    · exact h.tok J h2
    · simp at h2; subst h2; exact h.ok

theorem dundo_any {J : List (List Bool)} (h : Dom w p q B sz I (T ++ [J]) fp) :
    Calls Tryd.prog 18 #[.pointer (some ⟨p, 0, none⟩)] w fun e w' => e = .returned (.int .i64 0) ∧ Dom w' p q B sz J T fp ∧ Only fp w w' := by
  obtain ⟨A, c, h0, h1, hc1, hc2, hn⟩ := h.head
  have HI := Lib.hid (dis_yes h)
  have htr := h.d.T
  rw [List.map_append, List.map_singleton] at htr
  have HB := Lib.hid (tundo_any q (gks I) (T.map gks) (gks J) fp w htr (by rw [gks_len]; omega))
  have H := Lib.hid h
  clear h htr
  go_enter Tryd.func18, Tryd.ntmps18
  go_wp2_with fail
  refine (HI.out).mono ?_
  rintro e w' ⟨rfl, rfl⟩
  go_wp2_with fail
  refine (HB.out).mono ?_
  rintro e w1 ⟨rfl, hT', hl, hO⟩
  go_wp2
  go_ret
  have h := H.out
  exact ⟨rfl, ⟨h.d.trail hO hT' h.d.fpB, h.tl J (by simp), fun K hK => h.tl K (by simp [hK]), h.tok J (by simp), fun K hK => h.tok K (by simp [hK]), h.n⟩, hO⟩

theorem dundo_none (h : Dom w p q B sz I [] fp) :
    Calls Tryd.prog 18 #[.pointer (some ⟨p, 0, none⟩)] w fun e w' => e = .returned (.int .i64 3) ∧ w = w' := by
  obtain ⟨A, c, h0, h1, hc1, hc2, hn⟩ := h.head
  have HI := Lib.hid (dis_yes h)
  obtain ⟨AP0, cP0, hz2', -, -⟩ := h.d.T.form
  have HB := Lib.hid (tundo_none q 3 w (by simpa using tlevel_any q (gks I) _ fp w h.d.T) (tkeep_none q _ _ w h.d.T.made (by simpa using hz2')))
  clear h hz2'
  go_enter Tryd.func18, Tryd.ntmps18
  go_wp2_with fail
  refine (HI.out).mono ?_
  rintro e w' ⟨rfl, rfl⟩
  go_wp2_with fail
  refine (HB.out).mono ?_
  rintro e w1 ⟨rfl, rfl⟩
  go_wp2
  go_ret
  exact ⟨rfl, rfl⟩
end

end Go.Proofs.YtbidciakljpkiaaDoor
