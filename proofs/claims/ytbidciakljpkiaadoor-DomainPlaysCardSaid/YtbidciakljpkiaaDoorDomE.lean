/- Contracts of the package domain: New. -/
import Derived.Test.YtbidciakljpkiaaDoorDomD
set_option linter.unusedVariables false
set_option linter.unusedSimpArgs false
namespace Go.Proofs.YtbidciakljpkiaaDoor
open Go.RowKit
attribute [local go_sem ↓] Go.wp_at_zero Go.wp_at_succ

theorem mk_none (n : Nat) : mk (List.replicate n false) = 0 := by
  rw [mk_zero]
  intro b hb
  exact (List.mem_replicate.1 hb).2
theorem gk_all (n : Nat) : gk (List.replicate n true) = 0 := by
  unfold gk
  rw [List.map_replicate]
  exact mk_none n
theorem okL_all (n : Nat) (h1 : 1 ≤ n) (h2 : n ≤ 60) : okL (List.replicate n true) := by
  refine ⟨by simpa using h2, ?_⟩
  intro hp
  have : 0 ∈ places (List.replicate n true) := mem_places.2 (by simp [List.getD_eq_getElem?_getD, h1, show 0 < n by omega])
  rw [hp] at this
  cases this

/-- A size that may be. -/
def szOk (z : Int) : Prop := 1 ≤ z ∧ z ≤ 60
def allOf (zs : List Int) : List (List Bool) := zs.map fun z => List.replicate z.toNat true

theorem szv_nat {zs : List Int} (h : ∀ z ∈ zs, szOk z) : szv (zs.map Int.toNat) = zs.map (Value.int .i64) := by
  unfold szv
  rw [List.map_map]
  apply List.map_congr_left
  intro z hz
  have := h z hz
  unfold szOk at this
  show Value.int .i64 ((z.toNat : Nat) : Int) = _
  rw [Int.toNat_of_nonneg (by omega)]
theorem gks_all (zs : List Int) : gks (allOf zs) = List.replicate zs.length 0 := by
  unfold gks allOf
  rw [List.map_map]
  apply List.ext_getElem?
  intro i
  rw [List.getElem?_map, List.getElem?_replicate]
  by_cases h : i < zs.length
  · rw [if_pos h, List.getElem?_eq_getElem h]
    simp [gk_all]
  · rw [if_neg h, List.getElem?_eq_none (by omega)]
    rfl

theorem dom_new {w : World} {p q B : Nat} {zs : List Int} {fp : List Nat} (hd : Dm w p q B (zs.map Int.toNat) (List.replicate zs.length 0) [] fp) (hz : ∀ z ∈ zs, szOk z) (hn : zs.length ≤ 200) : Dom w p q B (zs.map Int.toNat) (allOf zs) [] fp := by
  refine ⟨by rw [gks_all]; exact hd, ?_, (fun J hJ => by cases hJ), fun l hl => ?_, (fun J hJ => by cases hJ), by rw [List.length_map]; exact hn⟩
  · unfold allOf
    rw [List.map_map]
    apply List.map_congr_left
    intro z _
    simp
  · obtain ⟨z, hz', rfl⟩ := List.mem_map.1 hl
    have := hz z hz'
    unfold szOk at this
    exact okL_all _ (by omega) (by omega)

set_option maxHeartbeats 4000000 in
theorem dnew_any (A : Option Addr) (m c : Nat) (zs : List Int) (w : World) (hr : Row w w.heap.size A (zs.map (Value.int .i64))) (hl : zs.length = m) (hmc : m ≤ c) (hc : c ≤ maxLen) :
    Calls Tryd.prog 7 #[.slice A m c] w fun e w' => Only [] w w' ∧
      ((m ≤ 200 ∧ (∀ z ∈ zs, szOk z) ∧ e = .returned (.tuple #[.pointer (some ⟨w.heap.size, 0, none⟩), .int .i64 0]) ∧ ∃ q B fp, Dom w' w.heap.size q B (zs.map Int.toNat) (allOf zs) [] fp ∧ B ≤ w'.heap.size ∧ ∀ b ∈ fp, w.heap.size ≤ b ∧ b < w'.heap.size) ∨
       ((200 < m ∨ ∃ z ∈ zs, ¬ szOk z) ∧ e = .returned (.tuple #[.pointer none, .int .i64 2]))) := by
  unfold maxLen at hc
  obtain ⟨i0, hi, hz0, hz1, hz2⟩ := info_parts info_int
  have HR := Lib.hid hr
  have HL := Lib.hid hl
  clear hr hl
  by_cases hm : m ≤ 200
  · have hd : decide (200 < (m : Int)) = false := by simp; omega
    go_enter Tryd.func7, Tryd.ntmps7
    go_wp2
    have B0 : Hid (Blk (w.alloc (.cells #[.slice none 0 0, .pointer none] 47)) w.heap.size 47 #[.slice none 0 0, .pointer none]) := Lib.hid (Blk.made _ _ _)
    have O0 : Hid (Only [] w (w.alloc (.cells #[.slice none 0 0, .pointer none] 47))) := Lib.hid ((Only.refl [] w).alloc _)
    generalize w.alloc (.cells #[.slice none 0 0, .pointer none] 47) = w1 at *
    obtain ⟨p, hp⟩ : ∃ p, p = w.heap.size := ⟨_, rfl⟩
    rw [← hp] at B0
    simp only [← hp]
    have HP := Lib.hid hp
    clear hp
    go_loopw [16] (fun i wr => ∃ (k : Nat) (V : Value), i = .int .i64 k ∧ k ≤ m ∧ Hid (Blk wr p 47 #[V, .pointer none]) ∧ Hid (wr.ownsRow (p + 1) 3 1 V k ((zs.take k).map (Value.int .i64))) ∧ Hid (Only [] w wr) ∧ Hid (∀ z ∈ zs.take k, szOk z)) (fun i _ => m - (intOf i).toNat)
    case atStart => exact ⟨0, _, rfl, by omega, B0, Lib.hid ⟨rfl, .inl ⟨rfl, rfl⟩⟩, O0, Lib.hid (by simp)⟩
    case round =>
      obtain ⟨k, V, rfl, hk, HB, HOWN, HO, HZ⟩ := hrel
      by_cases hlt : k < m
      · have hk1 : (k : Int) < (m : Int) := by omega
        obtain ⟨b, off, rfl, hbB, hbw, hcell⟩ := HR.out.open_ (k := k) (by rw [List.length_map, HL.out]; exact hlt)
        obtain ⟨z, hz⟩ : ∃ z, zs[k]? = some z := ⟨_, List.getElem?_eq_getElem (by rw [HL.out]; exact hlt)⟩
        have hck : wr.cell? ⟨b, off + k, none⟩ = some (.int .i64 z) := (HO.out.cell (p := ⟨b, off + k, none⟩) hbw (by simp)).trans (hcell k _ (by rw [List.getElem?_map, hz]; rfl))
        have htk : zs.take (k + 1) = zs.take k ++ [z] := by rw [List.take_add_one, hz]; rfl
        have HTK := Lib.hid htk
        have hmz : z ∈ zs := List.mem_of_getElem? hz
        have HMZ := Lib.hid hmz
        clear hcell hz htk hmz
        by_cases h1 : z < 1
        · go_wp2
          go_ret2
          exact ⟨HO.out, .inr ⟨.inr ⟨z, HMZ.out, by unfold szOk; omega⟩, rfl⟩⟩
        · have hd1 : decide (z < 1) = false := by simp; omega
          by_cases h2 : 60 < z
          · have hd2 : decide (60 < z) = true := by simp; omega
            go_wp2
            go_ret2
            exact ⟨HO.out, .inr ⟨.inr ⟨z, HMZ.out, by unfold szOk; omega⟩, rfl⟩⟩
          · have hd2 : decide (60 < z) = false := by simp; omega
            have c0 : wr.cell? ⟨p, 0, none⟩ = some V := HB.out.at_ 0
            have hplt := HB.out.lt
            have hpb : p + 1 ≤ wr.heap.size := hplt
            have hzok : szOk z := ⟨by omega, by omega⟩
            have HZK := Lib.hid hzok
            clear hzok
            go_wp2_with (at_builtin; refine wpList_append_row _ rfl (.tmp 30) (.tmp 32) _ rfl (p + 1) 3 i0 _ 1 8 Tryd.underlying22 hi hz0 hz1 hz2 rfl (by omega) _ _ _ rfl (own_only HOWN.out ((Only.refl [] _).alloc _) (by simp)) (wr.heap.size + 1) (some ⟨wr.heap.size, 0, none⟩) 1 1 [.int .i64 z] rfl rfl (row_lit wr 3 #[.int .i64 z]) (by simp [Value.oneCell']) (by unfold maxLen; omega) (by omega) (by simp; omega) ?_; intro v2' w2 hown2 hgrow hat; obtain ⟨A2, c2, hv2, -, -, -, -⟩ := own_row hown2; subst hv2; have OA : Only [] wr (wr.alloc (.cells #[.int .i64 z] 3)) := (Only.refl [] wr).alloc _; have B2 : Blk w2 p 47 #[V, .pointer none] := (only_grown hgrow).blk (OA.blk HB.out (by simp)) (own_apart HOWN.out HB.out (by decide)); have d0 : w2.cell? ⟨p, 0, none⟩ = some V := B2.at_ 0; have df : w2.frozen? ⟨p, 0, none⟩ = false := B2.free 0)
            have REL : Blk (w2.setCell ⟨p, 0, none⟩ (.slice A2 (k + 1) c2)) p 47 #[.slice A2 (k + 1) c2, .pointer none] ∧ (w2.setCell ⟨p, 0, none⟩ (.slice A2 (k + 1) c2)).ownsRow (p + 1) 3 1 (.slice A2 (k + 1) c2) (k + 1) ((zs.take (k + 1)).map (Value.int .i64)) ∧ Only [] w (w2.setCell ⟨p, 0, none⟩ (.slice A2 (k + 1) c2)) ∧ ∀ z ∈ zs.take (k + 1), szOk z := by
              have O1 : Only [] w w2 := (HO.out.trans OA).step (only_grown hgrow) (fun i hi hlt => by
                have hlt2 := (HP.out ▸ hlt : i < p)
                exact absurd (own_new (S := []) HOWN.out i hi (by omega)) (by simp))
              refine ⟨?_, ?_, O1.put (fun h => by have := HP.out; simp only at h; omega) _, fun x hx => ?_⟩
              · have := B2.put 0 (.slice A2 (k + 1) c2)
                simpa using this
              · rw [HTK.out]
                have hP : Only [p] w2 (w2.setCell ⟨p, 0, none⟩ (.slice A2 (k + 1) c2)) := (Only.refl [p] w2).put (by simp) (.slice A2 (k + 1) c2)
                have := own_only hown2 hP (fun g hg hm => by
                  simp at hm
                  subst hm
                  obtain ⟨cur, hb'⟩ := own_blk hown2 hg
                  exact Blk.apart hb' B2 (by decide) rfl)
                simpa using this
              · rw [HTK.out] at hx
                rcases List.mem_append.1 hx with h | h
                · exact HZ.out x h
                · simp at h; subst h; exact HZK.out
            have HREL := Lib.hid REL
            clear REL hown2 hgrow hat OA B2
            go_wp2
            go_roundw
            case rel =>
              first
              | exact ⟨k + 1, .slice A2 (k + 1) c2, by go_num, by omega, Lib.hid HREL.out.1, Lib.hid HREL.out.2.1, Lib.hid HREL.out.2.2.1, Lib.hid HREL.out.2.2.2⟩
              | exact ⟨_, ⟨k + 1, .slice A2 (k + 1) c2, by go_num, by omega, Lib.hid HREL.out.1, Lib.hid HREL.out.2.1, Lib.hid HREL.out.2.2.1, Lib.hid HREL.out.2.2.2⟩, rfl⟩
              | exact ⟨_, _, ⟨k + 1, .slice A2 (k + 1) c2, by go_num, by omega, Lib.hid HREL.out.1, Lib.hid HREL.out.2.1, Lib.hid HREL.out.2.2.1, Lib.hid HREL.out.2.2.2⟩, rfl⟩
            case measure => simp [intOf]; omega
      · have hkm : k = m := by omega
        subst hkm
        have hd3 : decide ((k : Int) < (k : Int)) = false := by simp
        have htk : zs.take k = zs := List.take_of_length_le (by rw [HL.out]; exact Nat.le_refl _)
        rw [htk] at HOWN HZ
        clear htk
        go_wp2_with fail
        refine (tnew_ok k wr (by omega)).mono ?_
        rintro e w2 ⟨rfl, hT, hO2⟩
        have B2 := hO2.blk HB.out (by simp)
        have d0 : w2.cell? ⟨p, 1, none⟩ = some (.pointer none) := B2.at_ 1
        have df : w2.frozen? ⟨p, 1, none⟩ = false := B2.free 1
        obtain ⟨A2, c2, rfl, hA1, hA2, hAl, hrow⟩ := own_row HOWN.out
        obtain ⟨s, hs⟩ : ∃ s, s = wr.heap.size := ⟨_, rfl⟩
        rw [← hs] at hT
        simp only [← hs]
        have hplt := HB.out.lt
        have hsz : s + 1 < w2.heap.size := by
          obtain ⟨gc, V, gs, hp', -⟩ := hT.lies
          exact hp'.lt
        have OP : Only [p] w2 (w2.setCell ⟨p, 1, none⟩ (.pointer (some ⟨s + 1, 0, none⟩))) := (Only.refl [p] w2).put (by simp) _
        have DM : Dm (w2.setCell ⟨p, 1, none⟩ (.pointer (some ⟨s + 1, 0, none⟩))) p (s + 1) s (zs.map Int.toNat) (List.replicate zs.length 0) [] [s, s + 1] := by
          refine ⟨⟨A2, c2, ?_, by rw [List.length_map, HL.out]; exact hA1, hA2, ?_⟩, ?_, by rw [hs]; exact hplt, fun b hb => by simp at hb; omega⟩
          · have := B2.put 1 (.pointer (some ⟨s + 1, 0, none⟩))
            rw [List.length_map, HL.out]
            simpa using this
          · rw [szv_nat HZ.out]
            rcases hrow with h | ⟨b, off, hA, hb1, hb2, hcell⟩
            · exact .inl h
            · refine .inr ⟨b, off, hA, by rw [hs]; exact hb1, ?_, fun j u hu => ?_⟩
              · have : (w2.setCell ⟨p, 1, none⟩ (.pointer (some ⟨s + 1, 0, none⟩))).heap.size = w2.heap.size := by simp [World.setCell]
                omega
              · have hbp : b ≠ p := by
                  intro e
                  subst e
                  rw [hA] at HOWN
                  obtain ⟨cur, hb'⟩ := own_blk HOWN.out (g := b) rfl
                  exact Blk.apart hb' HB.out (by decide) rfl
                have h1 := (OP.cell (p := ⟨b, off + j, none⟩) (by have := hO2.size; show b < w2.heap.size; omega) (by simpa using hbp))
                have h2 := (hO2.cell (p := ⟨b, off + j, none⟩) (by show b < wr.heap.size; omega) (by simp))
                exact h1.trans (h2.trans (hcell j u hu))
          · rw [HL.out]
            exact hT.only OP (fun b hb => by simp at hb ⊢; omega)
        have HDM := Lib.hid (dom_new DM HZ.out (by rw [HL.out]; exact hm))
        have HOF : Hid (Only [] w (w2.setCell ⟨p, 1, none⟩ (.pointer (some ⟨s + 1, 0, none⟩)))) := Lib.hid ((HO.out.trans hO2).put (fun h => by have := HP.out; simp only at h; omega) _)
        have hss : (w2.setCell ⟨p, 1, none⟩ (.pointer (some ⟨s + 1, 0, none⟩))).heap.size = w2.heap.size := by simp [World.setCell]
        have HSS := Lib.hid hss
        have HWS : w.heap.size ≤ s := by rw [hs]; exact HO.out.size
        clear DM OP hT hO2 B2 hrow hAl hss hs
        go_wp2
        go_ret2
        refine ⟨HOF.out, .inl ⟨hm, HZ.out, by rw [HP.out]; rfl, s + 1, s, [s, s + 1], by rw [← HP.out]; exact HDM.out, by rw [HSS.out]; omega, fun b hb => ?_⟩⟩
        rw [HSS.out]
        have := HP.out
        simp only [List.mem_cons, List.not_mem_nil, or_false] at hb
        omega
  · have hd : decide (200 < (m : Int)) = true := by simp; omega
    go_enter Tryd.func7, Tryd.ntmps7
    go_wp2
    go_ret2
    exact ⟨Only.refl _ _, .inr ⟨.inl (by omega), rfl⟩⟩

end Go.Proofs.YtbidciakljpkiaaDoor
