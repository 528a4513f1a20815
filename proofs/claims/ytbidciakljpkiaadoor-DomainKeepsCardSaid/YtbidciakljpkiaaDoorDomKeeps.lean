/- DomainKeeps: something is always left, and what was dropped behind a beginning is left again. -/
import Derived.Test.YtbidciakljpkiaaDoorDomF
import Derived.Test.YtbidciakljpkiaaDoorTimed
import Derived.StillTailTactics
import Derived.Deep.CutBlock
import Derived.Deep.DeepCutAuto
set_option linter.unusedVariables false
set_option linter.unusedSimpArgs false
namespace Go.Proofs.YtbidciakljpkiaaDoor
open Go.RowKit
attribute [local go_sem ↓] Go.wp_at_zero Go.wp_at_succ

/-- The values of the first k variables lie in rows of their own, at b or above. -/
def WasAt (w : World) (b : Nat) (I : List (List Bool)) (k : Nat) (vs : List Value) : Prop :=
  ∀ i, i < k → ∃ v, vs[i]? = some v ∧ w.ownsRow b 3 1 v (pints (lv I (i : Nat))).length ((pints (lv I (i : Nat))).map (Value.int .i64))
theorem own_stays {w w' : World} {b : Nat} {e : TypeId} {size : Nat} {v : Value} {n : Nat} {xs : List Value} {S : List Nat} (h : w.ownsRow b e size v n xs) (ho : Only S w w') (hS : ∀ g ∈ S, g < b ∨ w.heap.size ≤ g) : w'.ownsRow b e size v n xs := by
  refine own_only h ho (fun g hg hm => ?_)
  have h1 := h.lt g hg
  rcases hS g hm with h2 | h2 <;> omega
theorem WasAt.stays {w w' : World} {b : Nat} {I : List (List Bool)} {k : Nat} {vs : List Value} {S : List Nat} (h : WasAt w b I k vs) (ho : Only S w w') (hS : ∀ g ∈ S, g < b ∨ w.heap.size ≤ g) : WasAt w' b I k vs := fun i hi => by
  obtain ⟨v, hv, hown⟩ := h i hi
  exact ⟨v, hv, own_stays hown ho hS⟩
theorem WasAt.apart {w w' : World} {b : Nat} {I : List (List Bool)} {k : Nat} {vs : List Value} {V : Value} {n : Nat} {xs : List Value} (h : WasAt w b I k vs) (hV : w.ownsRow b 22 1 V n xs) (hg : w.grownBy w' V.ownBlock) : WasAt w' b I k vs := fun i hi => by
  obtain ⟨v, hv, hown⟩ := h i hi
  refine ⟨v, hv, own_only hown (only_grown hg) (fun g hg' hm => ?_)⟩
  obtain ⟨cur, hb⟩ := own_blk hown hg'
  exact own_apart hV hb (by decide) hm

set_option maxRecDepth 100000 in
set_option maxHeartbeats 8000000 in
theorem domainKeeps_walk (A : Option Addr) (m c : Nat) (zs : List Int) (A' : Option Addr) (m' c' : Nat) (ys : List Int) (w : World)
    (hr : Row w w.heap.size A (zs.map (Value.int .i64))) (hl : zs.length = m) (hmc : m ≤ c) (hc : c ≤ maxLen)
    (hr' : Row w w.heap.size A' (ys.map (Value.int .i64))) (hl' : ys.length = m' * 3) (hmc' : m' ≤ c') (hc' : c' ≤ maxLen) (hT : Tab w) (h00 : 0 < w.heap.size) :
    Calls Tryd.prog 4 #[.slice A m c, .slice A' m' c'] w fun e w' => e = .returned (.bool true) ∧ Only [] w w' := by
  obtain ⟨i1, hi1, hq0, hq1, hq2⟩ := info_parts tinfo_ints
  have hm'2 : m' ≤ 9223372036854775807 := by unfold maxLen at hc'; omega
  have HW := Lib.hid (works32_any w hT h00)
  have HFE := Lib.hid (fun (w' : World) (hO : Only [] w w') => few32_any A m c zs w' (row_up (hr.only hO (by simp))) hl hmc hc)
  have HR' := Lib.hid hr'
  have HL' := Lib.hid hl'
  have HT := Lib.hid hT
  have HLt : (zs.take (fewN m)).length = fewN m := by rw [List.length_take, hl]; unfold fewN; split <;> omega
  have hM : fewN m ≤ 201 := by unfold fewN; split <;> omega
  obtain ⟨M, hMe⟩ : ∃ M, M = fewN m := ⟨_, rfl⟩
  obtain ⟨L, hLe⟩ : ∃ L, L = zs.take M := ⟨_, rfl⟩
  rw [← hMe] at HLt hM
  simp only [← hMe] at HFE
  rw [← hLe] at HLt
  simp only [← hLe] at HFE
  have HLN := Lib.hid HLt
  clear hr hr' hl hl' hT HLt hMe hLe hmc hc hmc' hc'
  go_enter Tryd.func4, Tryd.ntmps4
  go_wp2_with fail
  refine (HW.out).mono ?_
  rintro e w1 ⟨rfl, hO1⟩
  have O1 := Lib.hid hO1
  clear hO1
  go_wp2_with fail
  refine (HFE.out _ O1.out).mono ?_
  rintro e w2 ⟨v, rfl, hv, hO2⟩
  obtain ⟨A2, c2, rfl, hc21, hc22, -, hrow2⟩ := own_row hv
  have HND := Lib.hid (dnew_any A2 M c2 L w2 hrow2 HLN.out hc21 hc22)
  have O2 := Lib.hid (O1.out.trans hO2)
  clear hv hrow2 hO2
  go_wp2_with fail
  refine (HND.out).mono ?_
  rintro e w3 ⟨hO3, hcase⟩
  rcases hcase with ⟨hM2, -, rfl, q, B, fp, hD, hB, hf⟩ | ⟨-, rfl⟩
  · obtain ⟨p, hp⟩ : ∃ p, p = w2.heap.size := ⟨_, rfl⟩
    rw [← hp] at hD
    simp only [← hp]
    obtain ⟨I, hI⟩ : ∃ I, I = allOf L := ⟨_, rfl⟩
    rw [← hI] at hD
    have hIl : I.length = M := by rw [hI, allOf, List.length_map, HLN.out]
    obtain ⟨sz, hsz⟩ : ∃ sz, sz = L.map Int.toNat := ⟨_, rfl⟩
    rw [← hsz] at hD
    have hs2 := O2.out.size
    have HF0 : Hid (∀ b ∈ fp, w.heap.size ≤ b ∧ b < w3.heap.size) := Lib.hid (fun b hb => ⟨by have := (hf b hb).1; omega, (hf b hb).2⟩)
    have HIL := Lib.hid hIl
    have HD := Lib.hid hD
    have O3 := Lib.hid (O2.out.trans hO3)
    clear hf hD hI hp hsz hIl hO3
    go_wp2_with fail
    refine (HFE.out _ O3.out).mono ?_
    rintro e w4 ⟨v, rfl, hv, hO4⟩
    obtain ⟨A4, c4, rfl, -, -, -, -⟩ := own_row hv
    have O4 := Lib.hid (O3.out.trans hO4)
    have HD4 := Lib.hid (HD.out.keep hO4)
    have HF4 : Hid (∀ b ∈ fp, w.heap.size ≤ b ∧ b < w4.heap.size) := Lib.hid (fun b hb => ⟨(HF0.out b hb).1, by have := (HF0.out b hb).2; have := hO4.size; omega⟩)
    have hB4 : B ≤ w4.heap.size := by have := hO4.size; omega
    clear hv hO4 HD HF0 HFE
    go_wp2
    -- the values as they were
    go_loopw [8, 9] (fun V i wr => ∃ (k : Nat) (vs : List Value), i = .int .i64 k ∧ k ≤ M ∧ Hid (wr.ownsRow w4.heap.size 22 1 V k vs) ∧ Hid (WasAt wr w4.heap.size I k vs) ∧ Hid (Only [] w4 wr)) (fun _ i _ => M - (intOf i).toNat)
    case atStart =>
      refine ⟨0, [], rfl, by omega, Lib.hid ?_, Lib.hid (fun i hi => by omega), Lib.hid ?_⟩
      · exact World.ownsRow_lit w4 #[] 0 (Nat.le_refl _) (by unfold maxLen; omega) rfl
      · exact (Only.refl [] _).alloc _
    case round =>
      obtain ⟨k, vs, rfl, hk, HOWN, HWAS, HO⟩ := hrel
      by_cases hlt : k < M
      · have hk1 : (k : Int) < (M : Int) := by omega
        have hsz4 := HO.out.size
        have hw4 := O4.out.size
        have HLF := Lib.hid (dleft_any (HD4.out.keep HO.out) (k : Int) (HT.out.only h00 (O4.out.trans HO.out) (by simp)) (by omega))
        go_wp2_with fail
        refine (HLF.out).mono ?_
        rintro e w5 ⟨v5, ⟨rfl, hown5⟩, hO5⟩
        obtain ⟨A5, c5, rfl, -, -, -, -⟩ := own_row hown5
        have HV5 := Lib.hid (own_base hown5 hsz4)
        have O5 := Lib.hid hO5
        have hsz5 := hO5.size
        clear hown5 hO5
        go_wp2_with (at_builtin; refine wpList_append_row _ rfl (.tmp 35) (.tmp 39) _ rfl w4.heap.size 22 i1 _ 1 24 Tryd.underlying44 hi1 hq0 hq1 hq2 rfl (by omega) _ _ _ rfl (own_only HOWN.out (O5.out.alloc _) (by simp)) (w5.heap.size + 1) (some ⟨w5.heap.size, 0, none⟩) 1 1 [.slice A5 (pints (lv I (k : Nat))).length c5] rfl rfl (row_lit w5 22 #[.slice A5 (pints (lv I (k : Nat))).length c5]) (by simp [Value.oneCell']) (by unfold maxLen; omega) (by omega) (by simp; omega) ?_; intro v6 w6 hown6 hgrow hat)
        have REL : w6.ownsRow w4.heap.size 22 1 v6 (k + 1) (vs ++ [.slice A5 (pints (lv I (k : Nat))).length c5]) ∧ WasAt w6 w4.heap.size I (k + 1) (vs ++ [.slice A5 (pints (lv I (k : Nat))).length c5]) ∧ Only [] w4 w6 := by
          have OA := O5.out.alloc (.cells #[.slice A5 (pints (lv I (k : Nat))).length c5] 22)
          have hV := own_only HOWN.out OA (fun _ _ h => by cases h)
          have hlen : vs.length = k := by have := HOWN.out.1; omega
          refine ⟨hown6, fun i hi => ?_, (HO.out.trans OA).step (only_grown hgrow) (own_new HOWN.out)⟩
          by_cases hik : i < k
          · obtain ⟨v, hv, ho⟩ := (WasAt.apart (HWAS.out.stays OA (by simp)) hV hgrow) i hik
            exact ⟨v, by rw [List.getElem?_append_left (by omega)]; exact hv, ho⟩
          · have hik2 : i = k := by omega
            subst hik2
            refine ⟨.slice A5 (pints (lv I (i : Nat))).length c5, by rw [List.getElem?_append_right (by omega), hlen]; simp, ?_⟩
            have h5 := own_only HV5.out ((Only.refl [] w5).alloc (.cells #[.slice A5 (pints (lv I (i : Nat))).length c5] 22)) (fun _ _ h => by cases h)
            refine own_only h5 (only_grown hgrow) (fun g hg' hm => ?_)
            obtain ⟨cur, hb⟩ := own_blk h5 hg'
            exact own_apart hV hb (by decide) hm
        have HREL := Lib.hid REL
        clear REL hown6 hgrow hat
        go_wp2
        go_roundw
        case rel =>
          first
          | exact ⟨k + 1, _, by go_num, by omega, Lib.hid HREL.out.1, Lib.hid HREL.out.2.1, Lib.hid HREL.out.2.2⟩
          | exact ⟨_, ⟨k + 1, _, by go_num, by omega, Lib.hid HREL.out.1, Lib.hid HREL.out.2.1, Lib.hid HREL.out.2.2⟩, rfl⟩
          | exact ⟨_, _, ⟨k + 1, _, by go_num, by omega, Lib.hid HREL.out.1, Lib.hid HREL.out.2.1, Lib.hid HREL.out.2.2⟩, rfl⟩
        case measure => simp [intOf]; omega
      · have hkM : k = M := by omega
        subst hkM
        have hd : decide ((k : Int) < (k : Int)) = false := by simp
        obtain ⟨x, hx⟩ : ∃ x : World, x = wr := ⟨_, rfl⟩
        subst hx
        have hBx : B ≤ x.heap.size := Nat.le_trans hB4 HO.out.size
        have HBG := Lib.hid (dbegin_any (HD4.out.keep HO.out) (by simp) hBx)
        go_wp2_with fail
        refine (HBG.out).mono ?_
        rintro e w5 ⟨rfl, fp', hD5, hO5, hf5⟩
        have hx4 := HO.out.size
        have hw4 := O4.out.size
        have h5s := hO5.size
        have HS5 : Hid (∀ b ∈ fp', (b < w4.heap.size ∨ x.heap.size ≤ b) ∧ w.heap.size ≤ b) := Lib.hid (fun b hb => by
          rcases hf5 b hb with h1 | h1
          · have := HF4.out b h1; omega
          · omega)
        obtain ⟨AV, cV, rfl, hcV1, hcV2, -, -⟩ := own_row HOWN.out
        have OX5 : Hid (Only (fp ++ fp') x w5) := Lib.hid (hO5.wide (fun i hi _ => List.mem_append_left _ hi))
        have HSX : Hid (∀ g ∈ fp ++ fp', g < w4.heap.size ∨ x.heap.size ≤ g) := Lib.hid (fun g hg => by
          rcases List.mem_append.1 hg with h1 | h1
          · exact .inl (HF4.out g h1).2
          · exact (HS5.out g h1).1)
        have O5 : Hid (Only [] w w5) := Lib.hid ((O4.out.trans HO.out).step hO5 (fun i hi hl => by have := (HF4.out i hi).1; omega))
        have HD5 := Lib.hid hD5
        clear hD5 hO5 hf5 HBG HD4
        go_upto_block 2 with fail
        go_cut [10] (fun s wx => ∃ (J : List (List Bool)), Hid (Dom wx p q B sz J ([] ++ [I]) fp') ∧ Hid (Only fp' w5 wx))
        case first =>
          go_wp2
          go_loopw [10] (fun i wr => ∃ (j : Nat) (J : List (List Bool)), i = .int .i64 j ∧ j ≤ m' ∧ j ≤ 60 ∧ Hid (Dom wr p q B sz J ([] ++ [I]) fp') ∧ Hid (Only fp' w5 wr)) (fun i _ => 60 - (intOf i).toNat)
          case atStart => exact ⟨0, I, rfl, by omega, by omega, HD5, Lib.hid (Only.refl _ _)⟩
          case round =>
            obtain ⟨j, J, rfl, hj, hj6, HDJ, HOJ⟩ := hrel
            have OJ : Hid (Only [] w wr) := Lib.hid (O5.out.step HOJ.out (fun i hi hl => by have := (HS5.out i hi).2; omega))
            by_cases hgo : j < m' ∧ j < 60
            · obtain ⟨hg1, hg2⟩ := hgo
              obtain ⟨b, off, rfl, hbB, hbw, hcell⟩ := HR'.out.open_ (k := j * 3 + 2) (by rw [List.length_map, HL'.out]; omega)
              obtain ⟨z0, hz0⟩ : ∃ z, ys[j * 3]? = some z := ⟨_, List.getElem?_eq_getElem (by rw [HL'.out]; omega)⟩
              obtain ⟨z1, hz1⟩ : ∃ z, ys[j * 3 + 1]? = some z := ⟨_, List.getElem?_eq_getElem (by rw [HL'.out]; omega)⟩
              obtain ⟨z2, hz2⟩ : ∃ z, ys[j * 3 + 2]? = some z := ⟨_, List.getElem?_eq_getElem (by rw [HL'.out]; omega)⟩
              have hc0 : wr.cell? ⟨b, off + j * 3, none⟩ = some (.int .i64 z0) :=
                (OJ.out.cell (p := ⟨b, off + j * 3, none⟩) hbw (by simp)).trans (hcell (j * 3) _ (by rw [List.getElem?_map, hz0]; rfl))
              have hc1 : wr.cell? ⟨b, off + j * 3 + 1, none⟩ = some (.int .i64 z1) := by
                have := (OJ.out.cell (p := ⟨b, off + (j * 3 + 1), none⟩) hbw (by simp)).trans (hcell (j * 3 + 1) _ (by rw [List.getElem?_map, hz1]; rfl))
                rw [Nat.add_assoc]
                exact this
              have hc2 : wr.cell? ⟨b, off + j * 3 + 2, none⟩ = some (.int .i64 z2) := by
                have := (OJ.out.cell (p := ⟨b, off + (j * 3 + 2), none⟩) hbw (by simp)).trans (hcell (j * 3 + 2) _ (by rw [List.getElem?_map, hz2]; rfl))
                rw [Nat.add_assoc]
                exact this
              have hj0 : (0 : Int) ≤ (j : Int) := Int.natCast_nonneg _
              have hj1 : (j : Int) < (m' : Int) := by omega
              have hj2 : (j : Int) < 60 := by omega
              clear hcell hz0 hz1 hz2
              go_wp2_with fail
              · go_still_tail 11, (by kernel_rfl)
                obtain ⟨u, hu⟩ : ∃ u, u = wr.drew := ⟨_, rfl⟩
                change wpList _ _ _ _ _ wr.drew
                rw [← hu]
                have OU : Only [] wr u := by rw [hu]; exact (Only.refl [] wr).drew
                have g1 : u.cell? ⟨b, off + j * 3 + 1, none⟩ = some (.int .i64 z1) := by rw [hu]; exact hc1
                have g2 : u.cell? ⟨b, off + j * 3 + 2, none⟩ = some (.int .i64 z2) := by rw [hu]; exact hc2
                have HDR := Lib.hid (ddrop_any (HDJ.out.keep OU) z1 z2)
                have HOU := Lib.hid (HOJ.out.trans (OU.wide (T := fp') (by simp)))
                clear hc0 hc1 hc2 hu OU
                go_wp2_with fail
                refine (HDR.out).mono ?_
                rintro e w7 ⟨rfl, hD7, hO7⟩
                have HD7 := Lib.hid hD7
                have HO7 := Lib.hid (HOU.out.trans hO7)
                clear hD7 hO7 HDR
                go_wp2
                go_roundw
                case rel => exact ⟨j + 1, _, by go_num, by omega, by omega, HD7, HO7⟩
                case measure => simp [intOf]; omega
              · go_still_tail 11, (by kernel_rfl)
                obtain ⟨u, hu⟩ : ∃ u, u = wr.drew := ⟨_, rfl⟩
                change wpList _ _ _ _ _ wr.drew
                rw [← hu]
                have OU : Only [] wr u := by rw [hu]; exact (Only.refl [] wr).drew
                have g1 : u.cell? ⟨b, off + j * 3 + 1, none⟩ = some (.int .i64 z1) := by rw [hu]; exact hc1
                have g2 : u.cell? ⟨b, off + j * 3 + 2, none⟩ = some (.int .i64 z2) := by rw [hu]; exact hc2
                have HDR := Lib.hid (donly_any (HDJ.out.keep OU) z1 z2)
                have HOU := Lib.hid (HOJ.out.trans (OU.wide (T := fp') (by simp)))
                clear hc0 hc1 hc2 hu OU
                go_wp2_with fail
                refine (HDR.out).mono ?_
                rintro e w7 ⟨rfl, hD7, hO7⟩
                have HD7 := Lib.hid hD7
                have HO7 := Lib.hid (HOU.out.trans hO7)
                clear hD7 hO7 HDR
                go_wp2
                go_roundw
                case rel => exact ⟨j + 1, _, by go_num, by omega, by omega, HD7, HO7⟩
                case measure => simp [intOf]; omega
            · have hEX : (∃ _ : m' ≤ j, True) ∨ (∃ _ : j < m' ∧ 60 ≤ j, True) := by
                rcases Nat.lt_or_ge j m' with h1 | h1
                · exact .inr ⟨⟨h1, by omega⟩, trivial⟩
                · exact .inl ⟨h1, trivial⟩
              rcases hEX with ⟨hx, -⟩ | ⟨⟨hx1, hx2⟩, -⟩
              · have hj1 : ¬ (j : Int) < (m' : Int) := by omega
                clear hgo
                go_wp2_with fail
                go_meet
                exact ⟨J, HDJ, HOJ⟩
              · have hj1 : (j : Int) < (m' : Int) := by omega
                have hj2 : ¬ (j : Int) < 60 := by omega
                clear hgo
                go_wp2_with fail
                go_meet
                exact ⟨J, HDJ, HOJ⟩
        case rest =>
          obtain ⟨w6, hw6⟩ : ∃ w6, w6 = wc := ⟨_, rfl⟩
          subst hw6
          obtain ⟨J, HDJ, HOJ⟩ := hcut
          have HJL := Lib.hid (HDJ.out.il.trans HD5.out.il.symm)
          have O6 : Hid (Only [] w w6) := Lib.hid (O5.out.step HOJ.out (fun i hi hl => by have := (HS5.out i hi).2; omega))
          have h65 := HOJ.out.size
          have OX6 : Hid (Only (fp ++ fp') x w6) := Lib.hid (OX5.out.trans (HOJ.out.wide (fun i hi _ => List.mem_append_right _ hi)))
          clear HD5
          go_wp2
          go_loopw [11] (fun i wr => ∃ (v : Nat), i = .int .i64 v ∧ v ≤ k ∧ Hid (Only [] w6 wr)) (fun i _ => k - (intOf i).toNat)
          case atStart => exact ⟨0, rfl, by omega, Lib.hid (Only.refl _ _)⟩
          case round =>
            obtain ⟨v, rfl, hvk, HO⟩ := hrel
            by_cases hlt : v < k
            · have hv1 : (v : Int) < (k : Int) := by omega
              have hsw := HO.out.size
              have hs6 := O6.out.size
              have HLF := Lib.hid (dleft_any (HDJ.out.keep HO.out) (v : Int) (HT.out.only h00 (O6.out.trans HO.out) (by simp)) (by omega))
              have hne := HDJ.out.pl_ne (v := v) (by rw [HJL.out, HIL.out]; exact hlt)
              have hnl : (((pints (lv J (v : Int))).length : Int) == 0) = false := by
                have := List.length_pos_iff.2 hne
                simp
                omega
              clear hne
              generalize (pints (lv J (v : Int))).length = n1 at *
              generalize pints (lv J (v : Int)) = x1 at *
              go_wp2_with fail
              refine (HLF.out).mono ?_
              rintro e w7 ⟨v7, ⟨rfl, hown7⟩, hO7⟩
              obtain ⟨A7, c7, rfl, -, -, -, -⟩ := own_row hown7
              have HO7 := Lib.hid (HO.out.trans hO7)
              clear hown7 hO7 HLF
              go_wp2
              go_roundw
              case rel => exact ⟨v + 1, by go_num, by omega, HO7⟩
              case measure => simp [intOf]; omega
            · have hvk2 : v = k := by omega
              subst hvk2
              have hd : decide ((v : Int) < (v : Int)) = false := by simp
              obtain ⟨w7, hw7⟩ : ∃ w7 : World, w7 = wr := ⟨_, rfl⟩
              subst hw7
              have HUN := Lib.hid (dundo_any (T := []) (HDJ.out.keep HO.out))
              have O7 := Lib.hid (O6.out.trans HO.out)
              have h76 := HO.out.size
              have OX7 : Hid (Only (fp ++ fp') x w7) := Lib.hid (OX6.out.trans (HO.out.wide (by simp)))
              clear HDJ HO
              go_wp2_with fail
              refine (HUN.out).mono ?_
              rintro e w8 ⟨rfl, hD8, hO8⟩
              have HD8 := Lib.hid hD8
              have h87 := hO8.size
              have O8 : Hid (Only [] w w8) := Lib.hid (O7.out.step hO8 (fun i hi hl => by have := (HS5.out i hi).2; omega))
              have OX8 : Only (fp ++ fp') x w8 := OX7.out.trans (hO8.wide (fun i hi _ => List.mem_append_right _ hi))
              have HV8 := Lib.hid (own_stays HOWN.out OX8 HSX.out)
              have HW8 := Lib.hid (HWAS.out.stays OX8 HSX.out)
              clear HOWN HWAS hD8 hO8 HUN OX8
              go_wp2
              go_loopw [13] (fun i wr => ∃ (u : Nat), i = .int .i64 u ∧ u ≤ v ∧ Hid (Only [] w8 wr)) (fun i _ => v - (intOf i).toNat)
              case atStart => exact ⟨0, rfl, by omega, Lib.hid (Only.refl _ _)⟩
              case round =>
                obtain ⟨u, rfl, huv, HO⟩ := hrel
                by_cases hlt : u < v
                · have hu1 : (u : Int) < (v : Int) := by omega
                  have hu0 : (0 : Int) ≤ (u : Int) := Int.natCast_nonneg _
                  have hsw := HO.out.size
                  have hs8 := O8.out.size
                  have HLF := Lib.hid (fun (w' : World) (hO : Only [] wr w') => dleft_any (HD8.out.keep (HO.out.trans hO)) (u : Int) (HT.out.only h00 (O8.out.trans (HO.out.trans hO)) (by simp)) (by have := hO.size; omega))
                  have hpl := HD8.out.pl_len (u : Int)
                  obtain ⟨vu, hvu, hownu⟩ := (HW8.out.stays HO.out (by simp)) u hlt
                  obtain ⟨Au, cu, rfl, hcu1, hcu2, -, -⟩ := own_row hownu
                  obtain ⟨AV', cV', heV, -, -, hVl, hrowV⟩ := own_row (own_only HV8.out HO.out (by simp))
                  simp only [Value.slice.injEq, true_and] at heV
                  obtain ⟨rfl, rfl⟩ := heV
                  obtain ⟨bV, offV, rfl, hbVB, hbVw, hcellV⟩ := hrowV.open_ (k := u) (by have := hVl; omega)
                  have hcu := hcellV u _ hvu
                  have HOU := Lib.hid hownu
                  clear hcellV hrowV hownu hvu hVl
                  generalize pints (lv I (u : Int)) = x1 at *
                  go_wp2_with fail
                  refine wp_region_noPanic ?_
                  refine wp_region_timed (F := [⟨[], [], fun w' => Only [] wr w'⟩]) (by kernel_rfl) (timed_holds ((Only.refl [] wr).drew) (timed_nil)) ?_
                  refine timed_pure (i := 0) (v := ?_) rfl (by kernel_rfl) (by kernel_rfl) (by kernel_rfl) (fun _ _ _ h => h) (by kernel_rfl) (by kernel_rfl) ?_ ?_
                  rotate_left
                  · (intro w; go_simp; try with_reducible rfl)
                  try simp only [Act.put, List.getElem_toArray, List.getElem_cons_zero, List.getElem_cons_succ, List.setIfInBounds_toArray, List.set_cons_zero, List.set_cons_succ]
                  refine timed_pure (i := 1) (v := ?_) rfl (by kernel_rfl) (by kernel_rfl) (by kernel_rfl) (fun _ _ _ h => h) (by kernel_rfl) (by kernel_rfl) ?_ ?_
                  rotate_left
                  · (intro w; go_simp; try with_reducible rfl)
                  try simp only [Act.put, List.getElem_toArray, List.getElem_cons_zero, List.getElem_cons_succ, List.setIfInBounds_toArray, List.set_cons_zero, List.set_cons_succ]
                  refine timed_pure (i := 3) (v := ?_) rfl (by kernel_rfl) (by kernel_rfl) (by kernel_rfl) (fun _ _ _ h => h) (by kernel_rfl) (by kernel_rfl) ?_ ?_
                  rotate_left
                  · (intro w; go_simp; try with_reducible rfl)
                  try simp only [Act.put, List.getElem_toArray, List.getElem_cons_zero, List.getElem_cons_succ, List.setIfInBounds_toArray, List.set_cons_zero, List.set_cons_succ]
                  refine timed_pure (i := 4) (v := ?_) rfl (by kernel_rfl) (by kernel_rfl) (by kernel_rfl) (fun _ _ _ h => h) (by kernel_rfl) (by kernel_rfl) ?_ ?_
                  rotate_left
                  · (intro w; go_simp; try with_reducible rfl)
                  try simp only [Act.put, List.getElem_toArray, List.getElem_cons_zero, List.getElem_cons_succ, List.setIfInBounds_toArray, List.set_cons_zero, List.set_cons_succ]
                  refine timed_pure (i := 5) (v := ?_) rfl (by kernel_rfl) (by kernel_rfl) (by kernel_rfl) (fun _ _ _ h => h) (by kernel_rfl) (by kernel_rfl) ?_ ?_
                  rotate_left
                  · (intro w; go_simp; try with_reducible rfl)
                  try simp only [Act.put, List.getElem_toArray, List.getElem_cons_zero, List.getElem_cons_succ, List.setIfInBounds_toArray, List.set_cons_zero, List.set_cons_succ]
                  refine timed_read (i := 6) (v := ?_) 0 rfl (by kernel_rfl) (by kernel_rfl) (by kernel_rfl) (fun _ _ _ h => h) (by kernel_rfl) (by kernel_rfl) rfl (by kernel_rfl) ?_ ?_
                  rotate_left
                  · (intro wq hSw; (try dsimp only at hSw); have cu := (hSw.cell (p := ⟨bV, offV + u, none⟩) hbVw (by simp)).trans hcu; clear hSw; go_simp; try with_reducible rfl)
                  try simp only [Act.put, List.getElem_toArray, List.getElem_cons_zero, List.getElem_cons_succ, List.setIfInBounds_toArray, List.set_cons_zero, List.set_cons_succ]
                  refine timed_step (i := 2) (by kernel_rfl) rfl (fun K hK => ?_)
                  go_simp
                  refine (HLF.out _ ((Only.refl [] wr).drew)).mono ?_
                  rintro e y1 ⟨V1, ⟨rfl, hown1⟩, Q1⟩
                  obtain ⟨A1, c1, rfl, -, -, -, R1⟩ := own_row hown1
                  refine hK.out _ _ (timed_holds (((Only.refl [] wr).drew).trans Q1) (timed_nil)) ?_
                  clear hK K
                  try simp only [Act.put, List.getElem_toArray, List.getElem_cons_zero, List.getElem_cons_succ, List.setIfInBounds_toArray, List.set_cons_zero, List.set_cons_succ]
                  refine timed_step (i := 7) (by kernel_rfl) rfl (fun K hK => ?_)
                  go_simp
                  obtain ⟨Au2, cu2, heu, -, -, -, R2⟩ := own_row (own_only HOU.out (((Only.refl [] wr).drew).trans Q1) (by simp))
                  simp only [Value.slice.injEq, true_and] at heu
                  obtain ⟨rfl, rfl⟩ := heu
                  refine (sameInts_any _ _ _ _ _ _ x1 x1 _ _ _ R1 R2 rfl rfl (by omega) (by omega)).mono ?_
                  rintro e y2 ⟨rfl, d1, rfl⟩
                  rw [decide_eq_true rfl]
                  have Q2 : Only [] y1 (y1.drewN d1) := (Only.refl [] y1).drewN d1
                  refine hK.out _ _ (timed_holds ((((Only.refl [] wr).drew).trans Q1).trans Q2) (timed_nil)) ?_
                  clear hK K
                  try simp only [Act.put, List.getElem_toArray, List.getElem_cons_zero, List.getElem_cons_succ, List.setIfInBounds_toArray, List.set_cons_zero, List.set_cons_succ]
                  refine timed_pure (i := 8) (v := ?_) rfl (by kernel_rfl) (by kernel_rfl) (by kernel_rfl) (fun _ _ _ h => h) (by kernel_rfl) (by kernel_rfl) ?_ ?_
                  rotate_left
                  · (intro w; go_simp; try with_reducible rfl)
                  try simp only [Act.put, List.getElem_toArray, List.getElem_cons_zero, List.getElem_cons_succ, List.setIfInBounds_toArray, List.set_cons_zero, List.set_cons_succ]
                  refine timed_done (by kernel_rfl) ?_ _
                  refine NoPanic.normal ?_
                  go_wp2
                  go_roundw
                  case rel => exact ⟨u + 1, by go_num, by omega, Lib.hid (HO.out.trans ((((Only.refl [] wr).drew).trans Q1).trans Q2))⟩
                  case measure => simp [intOf]; omega
                · have huv2 : u = v := by omega
                  subst huv2
                  have hd : decide ((u : Int) < (u : Int)) = false := by simp
                  go_wp2
                  go_ret
                  exact ⟨rfl, O8.out.trans HO.out⟩
  · go_wp2
    go_ret
    exact ⟨rfl, O2.out.trans hO3⟩

end Go.Proofs.YtbidciakljpkiaaDoor
