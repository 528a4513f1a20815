/- Contracts of the document's domain: May and Make. -/
import Derived.Test.YtbidciakljpkiaaDoorRDomE
set_option linter.unusedVariables false
set_option linter.unusedSimpArgs false
namespace Go.Proofs.YtbidciakljpkiaaDoor
open Go.RowKit
attribute [local go_sem ↓] Go.wp_at_zero Go.wp_at_succ

set_option maxHeartbeats 2000000 in
theorem rmay_any32 (A : Option Addr) (m c : Nat) (zs : List Int) (w : World) (hr : Row w w.heap.size A (zs.map (Value.int .i64))) (hl : zs.length = m) (hm : m ≤ 201) :
    Calls Tryd.prog 8 #[.slice A m c] w fun e w' => w = w' ∧
      ((m ≤ 200 ∧ (∀ z ∈ zs, szOk z) ∧ e = .returned (.bool true)) ∨ ((200 < m ∨ ∃ z ∈ zs, ¬ szOk z) ∧ e = .returned (.bool false))) := by
  have HR := Lib.hid hr
  have HL := Lib.hid hl
  clear hr hl
  go_enter Tryd.func8, Tryd.ntmps8
  go_wp2
  go_loop [3] (fun i => ∃ k : Nat, i = .int .i64 k ∧ k ≤ m ∧ Hid (∀ z ∈ zs.take k, szOk z)) (fun i => m - (intOf i).toNat)
  case atStart => exact ⟨0, rfl, by omega, Lib.hid (by simp)⟩
  case round =>
    obtain ⟨k, rfl, hk, HZ⟩ := hrel
    by_cases hlt : k < m
    · have hk1 : (k : Int) < (m : Int) := by omega
      have hk0 : (0 : Int) ≤ (k : Int) := Int.natCast_nonneg _
      obtain ⟨b, off, rfl, hbB, hbw, hcell⟩ := HR.out.open_ (k := k) (by rw [List.length_map, HL.out]; exact hlt)
      obtain ⟨z, hz⟩ : ∃ z, zs[k]? = some z := ⟨_, List.getElem?_eq_getElem (by rw [HL.out]; exact hlt)⟩
      have hck : w.cell? ⟨b, off + k, none⟩ = some (.int .i64 z) := hcell k _ (by rw [List.getElem?_map, hz]; rfl)
      have htk : zs.take (k + 1) = zs.take k ++ [z] := by rw [List.take_add_one, hz]; rfl
      have HTK := Lib.hid htk
      have hmz : z ∈ zs := List.mem_of_getElem? hz
      have HMZ := Lib.hid hmz
      clear hcell hz htk hmz
      by_cases h1 : z < 1
      · go_wp2
        go_ret
        exact ⟨rfl, .inr ⟨.inr ⟨z, HMZ.out, by unfold szOk; omega⟩, rfl⟩⟩
      · have hd1 : decide (z < 1) = false := by simp; omega
        by_cases h2 : 60 < z
        · have hd2 : decide (60 < z) = true := by simp; omega
          go_wp2
          go_ret
          exact ⟨rfl, .inr ⟨.inr ⟨z, HMZ.out, by unfold szOk; omega⟩, rfl⟩⟩
        · have hd2 : decide (60 < z) = false := by simp; omega
          have HZ2 : Hid (∀ x ∈ zs.take (k + 1), szOk x) := Lib.hid (fun x hx => by
            rw [HTK.out] at hx
            rcases List.mem_append.1 hx with h | h
            · exact HZ.out x h
            · simp at h; subst h; exact ⟨by omega, by omega⟩)
          go_wp2
          go_round
          case rel => exact ⟨k + 1, by go_num, by omega, HZ2⟩
          case measure => simp [intOf]; omega
    · have hkm : k = m := by omega
      subst hkm
      have hd : decide ((k : Int) < (k : Int)) = false := by simp
      have htk : zs.take k = zs := List.take_of_length_le (by rw [HL.out]; exact Nat.le_refl _)
      rw [htk] at HZ
      clear htk
      by_cases h2 : k ≤ 200
      · have hd2 : decide ((k : Int) ≤ 200) = true := by simp; omega
        have H2 := Lib.hid h2
        clear h2 hm
        go_wp2
        go_ret
        exact ⟨rfl, .inl ⟨H2.out, HZ.out, rfl⟩⟩
      · have hd2 : decide ((k : Int) ≤ 200) = false := by simp; omega
        have H2 := Lib.hid h2
        clear h2 hm
        go_wp2
        go_ret
        exact ⟨rfl, .inr ⟨.inl (by have := H2.out; omega), rfl⟩⟩

theorem allOf_succ (zs : List Int) (k : Nat) (z : Int) (h : zs[k]? = some z) : allOf (zs.take (k + 1)) = allOf (zs.take k) ++ [List.replicate z.toNat true] := by
  unfold allOf
  rw [List.take_add_one, h, List.map_append]
  rfl
theorem bl_succ (n : Nat) : bl (List.replicate (n + 1) true) = bl (List.replicate n true) ++ [.bool true] := by
  unfold bl
  rw [List.replicate_succ', List.map_append]
  rfl

set_option maxHeartbeats 4000000 in
theorem rmake_any (A : Option Addr) (m c : Nat) (zs : List Int) (w : World) (hr : Row w w.heap.size A (zs.map (Value.int .i64))) (hl : zs.length = m) (hm : m ≤ 200) (hz : ∀ z ∈ zs, szOk z) :
    Calls Tryd.prog 10 #[.slice A m c] w fun e w' => e = .returned (.pointer (some ⟨w.heap.size, 0, none⟩)) ∧
      ∃ fp, RD w' w.heap.size (allOf zs) [] fp ∧ Only [] w w' ∧ ∀ b ∈ fp, w.heap.size ≤ b ∧ b < w'.heap.size := by
  obtain ⟨i0, hi, hz0, hz1, hz2⟩ := info_parts tinfo_bool
  obtain ⟨j0, hji, hq0, hq1, hq2⟩ := info_parts tinfo_bools
  have HR := Lib.hid hr
  have HL := Lib.hid hl
  have HZ := Lib.hid hz
  clear hr hl hz
  go_enter Tryd.func10, Tryd.ntmps10
  go_wp2
  have B0 : Hid (Blk (w.alloc (.cells #[.slice none 0 0, .slice none 0 0] 54)) w.heap.size 54 #[.slice none 0 0, .slice none 0 0]) := Lib.hid (Blk.made _ _ _)
  have O0 : Hid (Only [] w (w.alloc (.cells #[.slice none 0 0, .slice none 0 0] 54))) := Lib.hid ((Only.refl [] w).alloc _)
  generalize w.alloc (.cells #[.slice none 0 0, .slice none 0 0] 54) = w1 at *
  obtain ⟨p, hp⟩ : ∃ p, p = w.heap.size := ⟨_, rfl⟩
  rw [← hp] at B0
  simp only [← hp]
  have HP := Lib.hid hp
  clear hp
  go_loopw [4] (fun i wr => ∃ (k : Nat) (V : Value) (f : List Nat), i = .int .i64 k ∧ k ≤ m ∧ Hid (Blk wr p 54 #[V, .slice none 0 0]) ∧ Hid (Bx wr (p + 1) V (allOf (zs.take k)) f) ∧ Hid (Only [] w wr)) (fun i _ => m - (intOf i).toNat)
  case atStart => exact ⟨0, _, [], rfl, by omega, B0, Lib.hid (Bx.nil ⟨rfl, .inl ⟨rfl, rfl⟩⟩), O0⟩
  case round =>
    obtain ⟨k, V, f, rfl, hk, HB, HX, HO⟩ := hrel
    by_cases hlt : k < m
    · have hk1 : (k : Int) < (m : Int) := by omega
      have hk0 : (0 : Int) ≤ (k : Int) := Int.natCast_nonneg _
      obtain ⟨b, off, rfl, hbB, hbw, hcell⟩ := HR.out.open_ (k := k) (by rw [List.length_map, HL.out]; exact hlt)
      obtain ⟨z, hz⟩ : ∃ z, zs[k]? = some z := ⟨_, List.getElem?_eq_getElem (by rw [HL.out]; exact hlt)⟩
      have hzo := HZ.out z (List.mem_of_getElem? hz)
      unfold szOk at hzo
      obtain ⟨n, rfl⟩ := Int.eq_ofNat_of_zero_le (show 0 ≤ z by omega)
      have hn60 : n ≤ 60 := by omega
      have HC := Lib.hid (hcell k _ (by rw [List.getElem?_map, hz]; rfl))
      have HAS := Lib.hid (allOf_succ zs k (n : Int) hz)
      obtain ⟨wo, hwo⟩ : ∃ wo : World, wo = wr := ⟨_, rfl⟩
      subst hwo
      clear hcell hz hzo
      go_wp2
      go_loopw [5, 6] (fun U i wr => ∃ (j : Nat), i = .int .i64 j ∧ j ≤ n ∧ Hid (wr.ownsRow wo.heap.size 4 1 U j (bl (List.replicate j true))) ∧ Hid (Only [] wo wr)) (fun _ i _ => n - (intOf i).toNat)
      case atStart =>
        refine ⟨0, rfl, by omega, Lib.hid ?_, Lib.hid ((Only.refl [] _).alloc _)⟩
        exact World.ownsRow_lit wo #[] 0 (Nat.le_refl _) (by unfold maxLen; omega) rfl
      case round =>
        obtain ⟨j, rfl, hj, HU, HOU⟩ := hrel
        have cz : wr.cell? ⟨b, off + k, none⟩ = some (.int .i64 (n : Int)) := ((HO.out.trans HOU.out).cell (p := ⟨b, off + k, none⟩) hbw (by simp)).trans HC.out
        have hszo := HOU.out.size
        by_cases hjn : j < n
        · have hj1 : (j : Int) < (n : Int) := by omega
          go_wp2_with (at_builtin; refine wpList_append_row _ rfl (.tmp 24) (.tmp 25) _ rfl wo.heap.size 4 i0 _ 1 1 Tryd.underlying55 hi hz0 hz1 hz2 rfl (by omega) _ _ _ rfl (own_only HU.out ((Only.refl [] _).alloc _) (by simp)) (wr.heap.size + 1) (some ⟨wr.heap.size, 0, none⟩) 1 1 [.bool true] rfl rfl (row_lit wr 4 #[.bool true]) (by simp [Value.oneCell']) (by unfold maxLen; omega) (by omega) (by simp; omega) ?_; intro v6 w6 hown6 hgrow hat)
          have REL : w6.ownsRow wo.heap.size 4 1 v6 (j + 1) (bl (List.replicate (j + 1) true)) ∧ Only [] wo w6 := by
            refine ⟨?_, (HOU.out.alloc _).step (only_grown hgrow) (own_new HU.out)⟩
            rw [bl_succ]
            exact hown6
          have HREL := Lib.hid REL
          clear REL hown6 hgrow hat
          go_wp2
          go_roundw
          case rel => first | exact ⟨j + 1, by go_num, by omega, Lib.hid HREL.out.1, Lib.hid HREL.out.2⟩ | exact ⟨_, ⟨j + 1, by go_num, by omega, Lib.hid HREL.out.1, Lib.hid HREL.out.2⟩, rfl⟩
          case measure => simp [intOf]; omega
        · have hjn2 : j = n := by omega
          subst hjn2
          have hd : decide ((j : Int) < (j : Int)) = false := by simp
          have HB2 := Lib.hid (HOU.out.blk HB.out (by simp))
          have HX2 := Lib.hid (HX.out.keep HOU.out)
          have c0 : wr.cell? ⟨p, 0, none⟩ = some V := HB2.out.at_ 0
          have hplt := HB2.out.lt
          have hplo := HB.out.lt
          obtain ⟨Au, cu, rfl, -, -, -, -⟩ := own_row HU.out
          obtain ⟨vs, hvs, hv2, hv3, hv4⟩ := HX2.out.lies
          obtain ⟨AV, cV, rfl, hcv1, hcv2⟩ := HX2.out.slice
          have hal : (allOf (zs.take k)).length = k := by rw [allOf, List.length_map, List.length_take, HL.out]; omega
          have HAL := Lib.hid hal
          have HVS := Lib.hid hvs
          clear hvs hv2 hv3 hv4
          rw [hal] at c0 hcv1 HB2 HVS HX2
          clear hal
          go_wp2_with (at_builtin; refine wpList_append_row _ rfl (.tmp 31) (.tmp 33) _ rfl (p + 1) 55 j0 _ 1 24 Tryd.underlying51 hji hq0 hq1 hq2 rfl (by omega) _ _ _ rfl (own_only HVS.out ((Only.refl [] wr).alloc _) (by simp)) (wr.heap.size + 1) (some ⟨wr.heap.size, 0, none⟩) 1 1 [.slice Au j cu] rfl rfl (row_lit wr 55 #[.slice Au j cu]) (by simp [Value.oneCell']) (by unfold maxLen; omega) (by omega) (by simp; omega) ?_; intro v7 w7 hown7 hgrow hat; obtain ⟨A7, c7, rfl, -, -, -, -⟩ := own_row hown7; have OA : Only [] wr (wr.alloc (.cells #[.slice Au j cu] 55)) := (Only.refl [] wr).alloc _; have B7 : Blk w7 p 54 #[.slice AV k cV, .slice none 0 0] := (only_grown hgrow).blk (OA.blk HB2.out (by simp)) (own_apart HVS.out HB2.out (by decide)); have d0 : w7.cell? ⟨p, 0, none⟩ = some (.slice AV k cV) := B7.at_ 0; have df : w7.frozen? ⟨p, 0, none⟩ = false := B7.free 0)
          have REL : Blk (w7.setCell ⟨p, 0, none⟩ (.slice A7 (k + 1) c7)) p 54 #[.slice A7 (k + 1) c7, .slice none 0 0] ∧ Bx (w7.setCell ⟨p, 0, none⟩ (.slice A7 (k + 1) c7)) (p + 1) (.slice A7 (k + 1) c7) (allOf (zs.take (k + 1))) (f ++ (Value.slice Au j cu).ownBlock.toList) ∧ Only [] w (w7.setCell ⟨p, 0, none⟩ (.slice A7 (k + 1) c7)) := by
            have hV5 := own_only HVS.out OA (fun _ _ h => by cases h)
            have O7 : Only [] w w7 := ((HO.out.trans HOU.out).trans OA).step (only_grown hgrow) (fun i hi hlt => by
              have hlt2 := (HP.out ▸ hlt : i < p)
              exact absurd (own_new (S := []) HVS.out i hi (by omega)) (by simp))
            have hX5 := HX2.out.keep OA
            have hu5 := own_only HU.out OA (fun _ _ h => by cases h)
            have hul : (List.replicate j true).length = j := by simp
            have hu6 : (wr.alloc (.cells #[.slice Au j cu] 55)).ownsRow (p + 1) 4 1 (.slice Au j cu) (List.replicate j true).length (bl (List.replicate j true)) := by
              rw [hul]
              exact own_base hu5 hplo
            have hX7 : Bx w7 (p + 1) (.slice A7 (k + 1) c7) (allOf (zs.take (k + 1))) (f ++ (Value.slice Au j cu).ownBlock.toList) := by
              rw [HAS.out, Int.toNat_natCast]
              refine hX5.snoc hu6 (fun g hg hm => ?_) (vs := vs) (by rw [HAL.out]; exact hV5) (by rw [HAL.out]; exact hown7) hgrow
              have h1 := HU.out.lt g hg
              obtain ⟨vs', -, -, -, h4⟩ := HX.out.lies
              obtain ⟨-, cur, h2⟩ := h4 g hm
              have := h2.lt
              omega
            have hP : Only [p] w7 (w7.setCell ⟨p, 0, none⟩ (.slice A7 (k + 1) c7)) := (Only.refl [p] w7).put (by simp) _
            refine ⟨?_, ?_, O7.put (fun h => by have := HP.out; simp only at h; omega) _⟩
            · have := B7.put 0 (.slice A7 (k + 1) c7)
              simpa using this
            · obtain ⟨vs', o1, o2, o3, o4⟩ := hX7.lies
              refine hX7.only hP (fun g hg hm => ?_) (fun g hg hm => ?_)
              · simp at hm
                subst hm
                obtain ⟨cur, hcur⟩ := own_blk o1 hg
                exact hcur.apart B7 (by decide) rfl
              · simp at hm
                subst hm
                obtain ⟨-, cur, hcur⟩ := o4 g hg
                exact hcur.apart B7 (by decide) rfl
          have HREL := Lib.hid REL
          clear REL hown7 hgrow hat OA B7
          go_wp2
          go_roundw
          case rel =>
            first
            | exact ⟨k + 1, _, _, by go_num, by omega, Lib.hid HREL.out.1, Lib.hid HREL.out.2.1, Lib.hid HREL.out.2.2⟩
            | exact ⟨_, ⟨k + 1, _, _, by go_num, by omega, Lib.hid HREL.out.1, Lib.hid HREL.out.2.1, Lib.hid HREL.out.2.2⟩, rfl⟩
          case measure => simp [intOf]; omega
    · have hkm : k = m := by omega
      subst hkm
      have hd : decide ((k : Int) < (k : Int)) = false := by simp
      have htk : zs.take k = zs := List.take_of_length_le (by rw [HL.out]; exact Nat.le_refl _)
      rw [htk] at HX
      clear htk
      go_wp2
      go_ret
      have hplt := HB.out.lt
      obtain ⟨vs, o1, o2, o3, o4⟩ := HX.out.lies
      refine ⟨by rw [HP.out]; rfl, p :: (f ++ V.ownBlock.toList), ⟨V, .slice none 0 0, f, [], [], by rw [← HP.out]; exact HB.out, World.ownsRow_nil _ _ _ _, rfl, HX.out.low (Nat.zero_le _), (fun i v J f' hv => by simp at hv), List.pairwise_singleton _ _, ?_, by rw [← HP.out]; simp, (fun g hg => by simp [hg]), (fun g hg => by simp [Value.ownBlock] at hg)⟩, HO.out, fun b hb => ?_⟩
      · intro f' hf' g hg
        simp at hf'
        subst hf'
        simp [hg]
      · rw [← HP.out]
        rcases List.mem_cons.1 hb with rfl | hb
        · exact ⟨Nat.le_refl _, hplt⟩
        · rcases List.mem_append.1 hb with hb | hb
          · obtain ⟨h1, cur, h2⟩ := o4 b hb
            exact ⟨by omega, h2.lt⟩
          · cases hv : V.ownBlock with
            | none => rw [hv] at hb; cases hb
            | some g' =>
              rw [hv] at hb
              simp at hb
              subst hb
              have := HX.out.own_lt hv
              exact ⟨by omega, this.2⟩

end Go.Proofs.YtbidciakljpkiaaDoor
