/- Contracts of the document's domain: whatever Only; Open; a copy; Undo; Begin. -/
import Derived.Test.YtbidciakljpkiaaDoorRDomC
import Derived.Test.YtbidciakljpkiaaDoorTimed
set_option linter.unusedVariables false
set_option linter.unusedSimpArgs false
namespace Go.Proofs.YtbidciakljpkiaaDoor
open Go.RowKit
attribute [local go_sem ↓] Go.wp_at_zero Go.wp_at_succ

theorem tinfo_bool : (Tryd.prog.info? 4).map (fun i => (i.zero, i.size, i.bytes)) = some (some (.bool false), 1, 1) := by kernel_rfl
theorem tinfo_bools : (Tryd.prog.info? 55).map (fun i => (i.zero, i.size, i.bytes)) = some (some (.slice none 0 0), 1, 24) := by kernel_rfl
theorem tinfo_boolss : (Tryd.prog.info? 51).map (fun i => (i.zero, i.size, i.bytes)) = some (some (.slice none 0 0), 1, 24) := by kernel_rfl

section
variable {w : World} {p : Nat} {I : List (List Bool)} {T : List (List (List Bool))} {fp : List Nat}
theorem ronly_any (h : RD w p I T fp) (hF : FitI I) (v k : Int) :
    Calls Tryd.prog 15 #[.pointer (some ⟨p, 0, none⟩), .int .i64 v, .int .i64 k] w fun e w' => e = .returned (.int .i64 (onE I v k)) ∧ RD w' p (onI I v k) T fp ∧ Only fp w w' := by
  cases hR : inR I v k with
  | false =>
    refine (ronly_arg h hF v k hR).mono ?_
    rintro e w' ⟨rfl, rfl⟩
    unfold onE onI
    rw [if_pos hR, if_neg (by simp [hR])]
    exact ⟨rfl, h, Only.refl _ _⟩
  | true =>
    obtain ⟨n, j, l, rfl, rfl, hv, hj, hl⟩ := inR_some hR
    unfold onE onI
    rw [hl, hR, Int.toNat_natCast, Int.toNat_natCast]
    cases hp : l.getD j false with
    | false =>
      refine (ronly_gone h hF hv hj hp).mono ?_
      rintro e w' ⟨rfl, rfl⟩
      rw [if_neg (by simp), if_pos rfl, if_neg (by simp)]
      exact ⟨rfl, h, Only.refl _ _⟩
    | true =>
      refine (ronly_there h hF hv hj hp).mono ?_
      rintro e w' ⟨rfl, h1, h2⟩
      rw [if_neg (by simp), if_neg (by simp), if_pos ⟨rfl, rfl⟩]
      exact ⟨rfl, h1, h2⟩

theorem fxB_many {l : List Bool} (h : places l ≠ []) : decide (1 < ((pints l).length : Int)) = !fxB l := by
  have h1 := List.length_pos_iff.2 h
  have e : (pints l).length = (places l).length := by rw [pints, List.length_map]
  rw [e]
  unfold fxB
  by_cases h2 : (places l).length = 1
  · simp [h2]
  · simp only [h2, decide_false, Bool.not_false, decide_eq_true_eq]
    omega

set_option maxHeartbeats 2000000 in
theorem ropen_any (h : RD w p I T fp) (hF : FitI I) (hP : ∀ l ∈ I, places l ≠ []) :
    Calls Tryd.prog 25 #[.pointer (some ⟨p, 0, none⟩)] w fun e w' => ∃ V, (e = .returned V ∧ w'.ownsRow w.heap.size 3 1 V (openTo I I.length).length ((openTo I I.length).map (Value.int .i64))) ∧ Only [] w w' := by
  obtain ⟨i0, hi, hz0, hz1, hz2⟩ := info_parts info_int
  obtain ⟨A, c, h0, hc1, hc2⟩ := h.head
  have b1 := World.block_lt_of_cell? w _ h0
  have hn := hF.n
  have HF := Lib.hid (fun (w' : World) (hO : Only [] w w') (v : Nat) (hv : v < I.length) => rleft_in (h.keep hO) hF (List.getElem?_eq_getElem hv))
  have HM := Lib.hid (fun (v : Nat) (hv : v < I.length) => fxB_many (hP I[v] (List.getElem_mem hv)))
  have HS := Lib.hid (openTo_succ I)
  have HL := Lib.hid (openTo_len I)
  have hD : ∀ v (hv : v < I.length), I.getD v [] = I[v] := fun v hv => by rw [List.getD_eq_getElem?_getD, List.getElem?_eq_getElem hv]; rfl
  have HD := Lib.hid hD
  clear h hD hF hP
  obtain ⟨N, hN⟩ : ∃ N, N = I.length := ⟨_, rfl⟩
  rw [← hN] at h0 hc1 hn
  have HN := Lib.hid hN
  clear hN
  go_enter Tryd.func25, Tryd.ntmps25
  go_wp2
  go_loopw [3, 4] (fun V i wr => ∃ k : Nat, i = .int .i64 k ∧ k ≤ N ∧ Hid (wr.ownsRow w.heap.size 3 1 V (openTo I k).length ((openTo I k).map (Value.int .i64))) ∧ Hid (Only [] w wr)) (fun _ i _ => N - (intOf i).toNat)
  case atStart =>
    refine ⟨0, rfl, by omega, Lib.hid ?_, Lib.hid ((Only.refl [] _).alloc _)⟩
    exact World.ownsRow_lit w #[] 0 (Nat.le_refl _) (by unfold maxLen; omega) rfl
  case round =>
    obtain ⟨k, rfl, hk, HOWN, HO⟩ := hrel
    have c0 := (HO.out.cell (p := ⟨p, 0, none⟩) b1 (by simp)).trans h0
    by_cases hlt : k < N
    · have hkI : k < I.length := by rw [← HN.out]; exact hlt
      have HFI := Lib.hid (HF.out wr HO.out k hkI)
      have hst := HS.out k
      rw [HD.out k hkI] at hst
      have hm := HM.out k hkI
      have hol := HL.out k
      obtain ⟨fb, hfb⟩ : ∃ fb, fb = fxB I[k] := ⟨_, rfl⟩
      rw [← hfb] at hst hm
      obtain ⟨n1, hn1⟩ : ∃ n1, n1 = (pints I[k]).length := ⟨_, rfl⟩
      rw [← hn1] at hm HFI
      generalize pints I[k] = zs at *
      have HST := Lib.hid hst
      have hk1 : (k : Int) < (N : Int) := by omega
      clear hst hfb hkI hn1
      cases fb with
      | true =>
        have e1 : openTo I (k + 1) = openTo I k := by rw [HST.out]; simp
        have HE := Lib.hid e1
        simp only [Bool.not_true] at hm
        clear e1 HST
        go_wp2_with fail
        refine (HFI.out).mono ?_
        rintro e w1 ⟨V1, ⟨rfl, hown1⟩, hO1⟩
        obtain ⟨A1, c1, rfl, -, -, -, -⟩ := own_row hown1
        have HO2 := Lib.hid (HO.out.trans hO1)
        have HOW := Lib.hid (own_only HOWN.out hO1 (by simp))
        clear hO1 hown1 HFI
        go_wp2
        go_roundw
        case rel => exact ⟨k + 1, by go_num, by omega, Lib.hid (by rw [HE.out]; exact HOW.out), HO2⟩
        case measure => simp [intOf]; omega
      | false =>
        have e1 : openTo I (k + 1) = openTo I k ++ [(k : Int)] := by rw [HST.out]; simp
        have HE := Lib.hid e1
        simp only [Bool.not_false] at hm
        clear e1 HST
        go_wp2_with fail
        refine (HFI.out).mono ?_
        rintro e w1 ⟨V1, ⟨rfl, hown1⟩, hO1⟩
        obtain ⟨A1, c1, rfl, -, -, -, -⟩ := own_row hown1
        have HO2 := Lib.hid (HO.out.trans hO1)
        have HOW := Lib.hid (own_only HOWN.out hO1 (by simp))
        clear hO1 hown1 HFI
        go_wp2_with (at_builtin; refine wpList_append_row _ rfl (.tmp 20) (.tmp 22) _ rfl w.heap.size 3 i0 _ 1 8 Tryd.underlying22 hi hz0 hz1 hz2 rfl (by omega) _ _ _ rfl (own_only HOW.out ((Only.refl [] _).alloc _) (by simp)) (w1.heap.size + 1) (some ⟨w1.heap.size, 0, none⟩) 1 1 [.int .i64 (k : Int)] rfl rfl (row_lit w1 3 #[.int .i64 (k : Int)]) (by simp [Value.oneCell']) (by unfold maxLen; omega) (by omega) (by have := HO2.out.size; simp; omega) ?_; intro v2 w2 hown2 hgrow hat)
        have REL : w2.ownsRow w.heap.size 3 1 v2 (openTo I (k + 1)).length ((openTo I (k + 1)).map (Value.int .i64)) ∧ Only [] w w2 := by
          refine ⟨?_, (HO2.out.alloc _).step (only_grown hgrow) (own_new HOW.out)⟩
          rw [HE.out]
          simpa using hown2
        have HREL := Lib.hid REL
        clear REL hown2
        go_wp2
        go_roundw
        case rel => first | exact ⟨k + 1, by go_num, by omega, Lib.hid HREL.out.1, Lib.hid HREL.out.2⟩ | exact ⟨_, ⟨k + 1, by go_num, by omega, Lib.hid HREL.out.1, Lib.hid HREL.out.2⟩, rfl⟩
        case measure => simp [intOf]; omega
    · have hkN : k = N := by omega
      subst hkN
      have hd : decide ((k : Int) < (k : Int)) = false := by simp
      go_wp2
      go_ret
      refine ⟨_, ⟨rfl, ?_⟩, HO.out⟩
      rw [← HN.out]
      exact HOWN.out
end

set_option maxHeartbeats 2000000 in
/-- A copy: rows of its own. -/
theorem copied_any (V : Value) (I : List (List Bool)) (f : List Nat) (w : World) (h : Bx w 0 V I f) (hF : FitI I) :
    Calls Tryd.prog 34 #[V] w fun e w' => ∃ V' f', (e = .returned V' ∧ Bx w' w.heap.size V' I f') ∧ Only [] w w' := by
  obtain ⟨i0, hi, hz0, hz1, hz2⟩ := info_parts tinfo_bool
  obtain ⟨j0, hj, hq0, hq1, hq2⟩ := info_parts tinfo_bools
  obtain ⟨A, c, rfl, hc1, hc2⟩ := h.slice
  have hn := hF.n
  have HF := Lib.hid hF
  have HH := Lib.hid h
  obtain ⟨N, hN⟩ : ∃ N, N = I.length := ⟨_, rfl⟩
  rw [← hN] at hc1 hn HH ⊢
  have HN := Lib.hid hN
  clear h hF hN
  go_enter Tryd.func34, Tryd.ntmps34
  go_wp2
  go_loopw [3, 4] (fun V i wr => ∃ (k : Nat) (f' : List Nat), i = .int .i64 k ∧ k ≤ N ∧ Hid (Bx wr w.heap.size V (I.take k) f') ∧ Hid (Only [] w wr)) (fun _ i _ => N - (intOf i).toNat)
  case atStart =>
    refine ⟨0, [], rfl, by omega, Lib.hid (Bx.nil ?_), Lib.hid ((Only.refl [] _).alloc _)⟩
    exact World.ownsRow_lit w #[] 0 (Nat.le_refl _) (by unfold maxLen; omega) rfl
  case round =>
    obtain ⟨k, f', rfl, hk, HB, HO⟩ := hrel
    by_cases hlt : k < N
    · have hkI : k < I.length := by rw [← HN.out]; exact hlt
      have hk1 : (k : Int) < (N : Int) := by omega
      have hk0 : (0 : Int) ≤ (k : Int) := Int.natCast_nonneg _
      obtain ⟨l, hl⟩ : ∃ l, I[k]? = some l := ⟨_, List.getElem?_eq_getElem hkI⟩
      have hl6 := HF.out.l l (List.mem_of_getElem? hl)
      obtain ⟨gV, cV, g, c', eV, -, -, h3, h4, h5, -, hrow, -, -⟩ := (HH.out.keep HO.out).look hl hl6.1
      obtain ⟨rfl, rfl⟩ : A = some ⟨gV, 0, none⟩ ∧ c = cV := by
        simp only [Value.slice.injEq] at eV
        exact ⟨eV.1, eV.2.2⟩
      obtain ⟨A6, c6, e6, -, -, -, hR6⟩ := own_row hrow
      obtain ⟨rfl, rfl⟩ : some ⟨g, 0, none⟩ = A6 ∧ c' = c6 := by
        simp only [Value.slice.injEq] at e6
        exact ⟨e6.1, e6.2.2⟩
      have hl60 := hl6.2
      have hsz := HO.out.size
      have hgVl := World.block_lt_of_cell? wr _ h3
      simp only at hgVl
      obtain ⟨vs, hvs, -⟩ := HB.out.lies
      have hvl : vs.length = k := by have := hvs.1; simp at this; omega
      have htk : (I.take k).length = k := by rw [List.length_take]; omega
      have htk1 : I.take (k + 1) = I.take k ++ [l] := by rw [List.take_add_one, hl]; rfl
      obtain ⟨n1, hn1⟩ : ∃ n1, n1 = l.length := ⟨_, rfl⟩
      have HN1 := Lib.hid hn1
      rw [← hn1] at h3 h4 hl60 hrow
      have HTK := Lib.hid htk
      have HTK1 := Lib.hid htk1
      rw [htk] at hvs
      have HVS := Lib.hid hvs
      have HR6 := Lib.hid hR6
      clear hkI hl hl6 eV e6 hn1 htk htk1 hvs hR6 hrow
      go_wp2_with (first
        | (at_builtin; refine wpList_append_row _ rfl (.tmp 13) (.tmp 17) _ rfl wr.heap.size 4 i0 _ 1 1 Tryd.underlying55 hi hz0 hz1 hz2 rfl (by omega) (.slice (some ⟨wr.heap.size, 0, none⟩) 0 0) 0 [] rfl (World.ownsRow_lit wr #[] 0 (Nat.le_refl _) (by unfold maxLen; omega) rfl) wr.heap.size (some ⟨g, 0, none⟩) n1 c' (bl l) rfl (by rw [bl_length, HN1.out, Nat.mul_one]) (HR6.out.only ((Only.refl [] wr).alloc _) (by simp)) (one_bl l) (by unfold maxLen; omega) (by omega) (by simp) ?_; intro u w5 hownu hgu hatu; obtain ⟨Au, cu, rfl, -, -, -, -⟩ := own_row hownu; have O5 : Only [] wr w5 := ((Only.refl [] wr).alloc _).step (Only.of_grown (S := [wr.heap.size]) hgu (fun g hg _ => by simp [Value.ownBlock] at hg; simp [hg])) (fun i hi hlt => by simp at hi; omega))
        | (at_builtin; refine wpList_append_row _ rfl (.tmp 12) (.tmp 19) _ rfl w.heap.size 55 j0 _ 1 24 Tryd.underlying51 hj hq0 hq1 hq2 rfl (by omega) _ _ _ rfl (own_only HVS.out (O5.alloc _) (by simp)) (w5.heap.size + 1) (some ⟨w5.heap.size, 0, none⟩) 1 1 [.slice Au n1 cu] rfl rfl (row_lit w5 55 #[.slice Au n1 cu]) (by simp [Value.oneCell']) (by unfold maxLen; omega) (by omega) (by have := O5.size; simp; omega) ?_; intro v6 w6 hown6 hgrow hat))
      have REL : Bx w6 w.heap.size v6 (I.take (k + 1)) (f' ++ (Value.slice Au n1 cu).ownBlock.toList) ∧ Only [] w w6 := by
        have e9 := HN1.out
        subst e9
        have OA := O5.alloc (.cells #[.slice Au l.length cu] 55)
        have hB5 := HB.out.keep OA
        have hu0 := hownu
        rw [Nat.zero_add, List.nil_append] at hu0
        have hu5 := own_only hu0 ((Only.refl [] w5).alloc (.cells #[.slice Au l.length cu] 55)) (fun _ _ h => by cases h)
        have hu6 := own_base hu5 hsz
        refine ⟨?_, (HO.out.trans OA).step (only_grown hgrow) (own_new HVS.out)⟩
        rw [HTK1.out]
        have hV5 := own_only HVS.out OA (fun _ _ h => by cases h)
        rw [← HTK.out] at hV5 hown6
        exact hB5.snoc hu6 (fun g hg hm => by
          have h1 := hu0.lt g hg
          obtain ⟨vs', -, -, -, h4⟩ := HB.out.lies
          obtain ⟨-, cur, h2⟩ := h4 g hm
          have := h2.lt
          omega) hV5 hown6 hgrow
      have HREL := Lib.hid REL
      clear REL hown6 hgrow hat hownu hgu hatu O5
      go_wp2
      go_roundw
      case rel =>
        first
        | exact ⟨k + 1, _, by go_num, by omega, Lib.hid HREL.out.1, Lib.hid HREL.out.2⟩
        | exact ⟨_, ⟨k + 1, _, by go_num, by omega, Lib.hid HREL.out.1, Lib.hid HREL.out.2⟩, rfl⟩
        | exact ⟨_, _, ⟨k + 1, _, by go_num, by omega, Lib.hid HREL.out.1, Lib.hid HREL.out.2⟩, rfl⟩
      case measure => simp [intOf]; omega
    · have hkN : k = N := by omega
      subst hkN
      have hd : decide ((k : Int) < (k : Int)) = false := by simp
      have htk : I.take k = I := List.take_of_length_le (by rw [HN.out]; exact Nat.le_refl _)
      rw [htk] at HB
      clear htk
      go_wp2
      go_ret
      exact ⟨_, _, ⟨rfl, HB.out⟩, HO.out⟩

end Go.Proofs.YtbidciakljpkiaaDoor
