/- SplitAgain: the walk. -/
import Derived.Test.YtaeildajbhiedaaDoorSplitC
import Derived.Test.YtaeildajbhiedaaDoorSplitN
import Derived.Test.YtaeildajbhiedaaDoorSplitJoins
import Derived.Test.YtaeildajbhiedaaDoorSplitWords
import Derived.Deep.QuietTactic
import Derived.BigQuiet
set_option linter.unusedVariables false
set_option linter.unusedSimpArgs false
namespace Go.Proofs.YtaeildajbhiedaaDoor
open Go.RowKit
open Go.Lib hiding intOf
attribute [local go_sem ↓] Go.wp_at_zero Go.wp_at_succ

theorem words_text (s : ByteArray) (k : Nat) (t : ByteArray) (h : (textsOf s)[k]? = some t) : (wordsV s (wordsOf (by_ s)))[k * 2]? = some (.string t) := by
  unfold textsOf at h
  rw [List.getElem?_map] at h
  cases hp : (wordsOf (by_ s))[k]? with
  | none => rw [hp] at h; cases h
  | some p =>
    rw [hp] at h
    obtain rfl := Option.some.inj h
    exact (wordsV_at s _ k p hp).1
theorem words_col (s : ByteArray) (k : Nat) (hk : k < (wordsOf (by_ s)).length) : ∃ z : Int, (wordsV s (wordsOf (by_ s)))[k * 2 + 1]? = some (.int .i64 z) ∧ 1 ≤ z := by
  obtain ⟨p, hp⟩ : ∃ p, (wordsOf (by_ s))[k]? = some p := ⟨_, List.getElem?_eq_getElem hk⟩
  exact ⟨_, (wordsV_at s _ k p hp).2, by omega⟩
theorem words_cols (s : ByteArray) (j : Nat) (hk : j + 1 < (wordsOf (by_ s)).length) : ∃ z z' : Int, (wordsV s (wordsOf (by_ s)))[j * 2 + 1]? = some (.int .i64 z) ∧ (wordsV s (wordsOf (by_ s)))[(j + 1) * 2 + 1]? = some (.int .i64 z') ∧ 1 ≤ z' ∧ z < z' := by
  obtain ⟨p, hp⟩ : ∃ p, (wordsOf (by_ s))[j]? = some p := ⟨_, List.getElem?_eq_getElem (by omega)⟩
  obtain ⟨q, hq⟩ : ∃ q, (wordsOf (by_ s))[j + 1]? = some q := ⟨_, List.getElem?_eq_getElem hk⟩
  have := words_rise s j p q hp hq
  exact ⟨_, _, (wordsV_at s _ j p hp).2, (wordsV_at s _ (j + 1) q hq).2, by omega, by omega⟩
theorem texts_size (s : ByteArray) : ∀ t ∈ textsOf s, t.size ≤ s.size := by
  intro t ht
  obtain ⟨p, -, rfl⟩ := List.mem_map.1 ht
  rw [ByteArray.size_extract]
  omega

set_option maxHeartbeats 8000000 in
theorem splitAgain_walk (s : ByteArray) (w : World) (hs : s.size ≤ 9223372036854775807) (hT : UTabs w) (hM : MLen w) :
    Calls Tryd.prog 8 #[.string s] w fun e w' => e = .returned (.bool true) ∧ Only [] w w' := by
  obtain ⟨i0, hi, hz0, hz1, hz2⟩ := info_parts tinfo_string
  have HS := Lib.hid (fun w' => short6_any s w' hs)
  have hsz := short6_size s
  have HWK := Lib.hid (works06_any w hT hM)
  generalize short6 s = x at *
  have HL := Lib.hid (fun (w' : World) (hO : Only [] w w') => words_any x w' (by omega) (hT.only hO) (hM.only hO))
  have hwl := words_len (by_ x)
  rw [by_length] at hwl
  have HTX := Lib.hid (words_text x)
  have HC1 := Lib.hid (words_col x)
  have HC2 := Lib.hid (words_cols x)
  obtain ⟨T, hTe⟩ : ∃ T : ByteArray, T = ⟨(joinW (textsOf x)).toArray⟩ := ⟨_, rfl⟩
  have hTb : by_ T = joinW (textsOf x) := by rw [hTe]; exact List.toList_toArray
  have hTl : T.size ≤ 2001 := by
    have := texts_len x
    rw [← hTb, by_length] at this
    omega
  have htl : (textsOf x).length = (wordsOf (by_ x)).length := by simp [textsOf]
  have HTG := Lib.hid (fun hb => texts_again x hb T hTb)
  have HJ := Lib.hid (fun A n c B w' hA hn hc hN => join_any A n c B (textsOf x) w' hA hn hc (by have := texts_len x; omega) hN)
  rw [← hTe] at HJ
  have HL2 := Lib.hid (fun (w' : World) (hO : Only [] w w') => words_any T w' (by omega) (hT.only hO) (hM.only hO))
  have HTX2 := Lib.hid (words_text T)
  have htl2 : (textsOf T).length = (wordsOf (by_ T)).length := by simp [textsOf]
  obtain ⟨bad, hbad⟩ : ∃ b, b = badL (by_ x) := ⟨_, rfl⟩
  rw [← hbad] at HL HTG
  obtain ⟨n, hn⟩ : ∃ n, n = (wordsOf (by_ x)).length := ⟨_, rfl⟩
  rw [← hn] at HL hwl htl HC1 HC2
  obtain ⟨vs, hvs⟩ : ∃ vs, vs = wordsV x (wordsOf (by_ x)) := ⟨_, rfl⟩
  rw [← hvs] at HL HTX HC1 HC2
  obtain ⟨ts, hts⟩ : ∃ ts, ts = textsOf x := ⟨_, rfl⟩
  rw [← hts] at HTG HTX HJ htl
  have hnm : n ≤ 2001 := by omega
  clear hT hM hs hbad hn hTb hTe hvs hts
  have HTL := Lib.hid htl
  have hstl : (strs ts).length = n := by rw [strs, List.length_map, htl]
  have HSTL := Lib.hid hstl
  clear htl hstl
  go_enter Tryd.func8, Tryd.ntmps8
  go_wp2_with fail
  refine (HWK.out).mono ?_
  rintro e w0 ⟨rfl, hO0⟩
  have HO0 := Lib.hid hO0
  clear hO0
  go_wp2_with fail
  refine (HS.out w0).mono ?_
  rintro e w1 ⟨rfl, rfl⟩
  go_wp2_with fail
  refine (HL.out _ HO0.out).mono ?_
  rintro e w2 ⟨hO2, hcase2⟩
  have HO2 := Lib.hid (HO0.out.trans hO2)
  clear hO2
  cases bad with
  | true =>
    rcases hcase2 with ⟨-, rfl⟩ | ⟨h, -⟩
    rotate_left
    · cases h
    go_wp2
    go_ret
    exact ⟨rfl, HO2.out⟩
  | false =>
    rcases hcase2 with ⟨h, -⟩ | ⟨-, V, rfl, hown⟩
    · cases h
    obtain ⟨A, c, rfl, hc1, hc2, hxl, hrow⟩ := own_row hown
    have HROW := Lib.hid hrow
    obtain ⟨hTbad, hTts⟩ := HTG.out rfl
    rw [hTbad] at HL2
    rw [hTts] at HTX2 htl2
    have HTL2 := Lib.hid (htl2.symm.trans HTL.out)
    rw [HTL2.out] at HL2
    obtain ⟨vs2, hvs2⟩ : ∃ vs2, vs2 = wordsV T (wordsOf (by_ T)) := ⟨_, rfl⟩
    rw [← hvs2] at HL2 HTX2
    clear hown hrow hTbad hTts HTG htl2 hvs2 hTl hsz
    go_wp2_with fail
    go_loopw [5, 6] (fun V iv wr => ∃ (k : Nat), iv = .int .i64 k ∧ k ≤ n ∧ Hid (wr.ownsRow w2.heap.size 9 1 V k (strs (ts.take k))) ∧ Hid (Only [] w2 wr)) (fun _ iv _ => n - (intOf iv).toNat)
    case atStart => exact ⟨0, rfl, by omega, Lib.hid (World.ownsRow_lit w2 #[] 0 (Nat.le_refl _) (by unfold maxLen; omega) rfl), Lib.hid ((Only.refl [] w2).alloc _)⟩
    case round =>
      obtain ⟨k, rfl, hk, HOWN, HO⟩ := hrel
      have hwsz := HO.out.size
      by_cases hlt : k < n
      · have h01 : (k : Int) < (n : Int) := by omega
        have hk0 : (0 : Int) ≤ (k : Int) := Int.natCast_nonneg _
        have hwk : IntKind.i64.wrap ((k : Int) + 1) = (k : Int) + 1 := IntWalk.i64_in _ (by omega)
        obtain ⟨l, hl⟩ : ∃ l, ts[k]? = some l := ⟨_, List.getElem?_eq_getElem (by rw [HTL.out]; exact hlt)⟩
        have a0 := HTX.out k l hl
        obtain ⟨b, off, rfl, hbB, hbw, hcell⟩ := HROW.out.open_ (k := k * 2) (List.getElem?_eq_some_iff.1 a0).1
        have up : ∀ (j : Nat) (u : Value), vs[j]? = some u → wr.cell? ⟨b, off + j, none⟩ = some u := fun j u hu => (HO.out.cell (p := ⟨b, off + j, none⟩) hbw (by simp)).trans (hcell j u hu)
        have HG0 := Lib.hid (up _ _ a0)
        have HTK : Hid (strs (ts.take (k + 1)) = strs (ts.take k) ++ [.string l]) := Lib.hid (by rw [List.take_add_one, hl]; simp [strs])
        have hlen : (strs (ts.take k)).length = k := by rw [strs, List.length_map, List.length_take, HTL.out]; omega
        by_cases hk0' : k = 0
        · subst hk0'
          obtain ⟨z, hz, hz1'⟩ := HC1.out 0 hlt
          have g1 : wr.cell? ⟨b, off + 0 * 2 + 1, none⟩ = some (.int .i64 z) := up _ _ hz
          have d1 : decide (z < 1) = false := decide_eq_false (by omega)
          clear hcell up a0 hl hz
          go_wp2_with fail
          go_quiet (fail)
          have g0 : (wr.drewN nq).cell? ⟨b, off, none⟩ = some (.string l) := HG0.out
          have HOD := Lib.hid (HO.out.drewN nq)
          have HOWND := Lib.hid (own_only HOWN.out ((Only.refl [] wr).drewN nq) (by simp))
          have hsz3 := HOD.out.size
          generalize wr.drewN nq = w3 at *
          clear HOWN HO HG0
          go_wp2_with (at_builtin; refine wpList_append_row _ rfl (.tmp 54) (.tmp 60) _ rfl w2.heap.size 9 i0 _ 1 16 Tryd.underlying26 hi hz0 hz1 hz2 rfl (by omega) _ 0 (strs (ts.take 0)) rfl (own_only HOWND.out ((Only.refl [] _).alloc _) (by simp)) (w3.heap.size + 1) (some ⟨w3.heap.size, 0, none⟩) 1 1 [.string l] rfl rfl (row_lit w3 9 #[.string l]) (by simp [Value.oneCell']) (by unfold maxLen; omega) (by omega) (by simp; omega) ?_; intro v3 w4 hown3 hgrow hat)
          have REL : w4.ownsRow w2.heap.size 9 1 v3 (0 + 1) (strs (ts.take (0 + 1))) ∧ Only [] w2 w4 :=
            ⟨by rw [HTK.out]; exact hown3, (HOD.out.alloc _).step (only_grown hgrow) (own_new HOWND.out)⟩
          have HREL := Lib.hid REL
          clear REL hown3 hgrow hat hlen
          go_wp2
          go_roundw
          case rel => exact ⟨0 + 1, by first | rfl | go_num, by omega, Lib.hid HREL.out.1, Lib.hid HREL.out.2⟩
          case measure => simp [intOf]; omega
        · obtain ⟨j, hj⟩ : ∃ j, k = j + 1 := ⟨k - 1, by omega⟩
          obtain ⟨z, z', hz, hz', hz1', hzz⟩ := HC2.out j (by omega)
          rw [← hj] at hz'
          have g1 : wr.cell? ⟨b, off + k * 2 + 1, none⟩ = some (.int .i64 z') := up _ _ hz'
          have g2 : wr.cell? ⟨b, off + j * 2 + 1, none⟩ = some (.int .i64 z) := up _ _ hz
          have d1 : decide (z' < 1) = false := decide_eq_false (by omega)
          have d2 : decide ((0 : Int) < (k : Int)) = true := decide_eq_true (by omega)
          have d2n : decide (0 < k) = true := decide_eq_true (by omega)
          have d3 : decide (z' ≤ z) = false := decide_eq_false (by omega)
          have hwj : IntKind.i64.wrap ((k : Int) - 1) = (j : Int) := by rw [IntWalk.i64_in _ (by omega)]; omega
          have hj0 : (0 : Int) ≤ (j : Int) := Int.natCast_nonneg _
          have hj1 : (j : Int) < (n : Int) := by omega
          clear hcell up a0 hl hz hz' hj
          go_wp2_with fail
          go_quiet (fail)
          have g0 : (wr.drewN nq).cell? ⟨b, off + k * 2, none⟩ = some (.string l) := HG0.out
          have HOD := Lib.hid (HO.out.drewN nq)
          have HOWND := Lib.hid (own_only HOWN.out ((Only.refl [] wr).drewN nq) (by simp))
          have hsz3 := HOD.out.size
          generalize wr.drewN nq = w3 at *
          clear HOWN HO HG0
          go_wp2_with (at_builtin; refine wpList_append_row _ rfl (.tmp 54) (.tmp 60) _ rfl w2.heap.size 9 i0 _ 1 16 Tryd.underlying26 hi hz0 hz1 hz2 rfl (by omega) _ k (strs (ts.take k)) rfl (own_only HOWND.out ((Only.refl [] _).alloc _) (by simp)) (w3.heap.size + 1) (some ⟨w3.heap.size, 0, none⟩) 1 1 [.string l] rfl rfl (row_lit w3 9 #[.string l]) (by simp [Value.oneCell']) (by unfold maxLen; omega) (by omega) (by simp; omega) ?_; intro v3 w4 hown3 hgrow hat)
          have REL : w4.ownsRow w2.heap.size 9 1 v3 (k + 1) (strs (ts.take (k + 1))) ∧ Only [] w2 w4 :=
            ⟨by rw [HTK.out]; exact hown3, (HOD.out.alloc _).step (only_grown hgrow) (own_new HOWND.out)⟩
          have HREL := Lib.hid REL
          clear REL hown3 hgrow hat hlen
          go_wp2
          go_roundw
          case rel => exact ⟨k + 1, by first | rfl | go_num, by omega, Lib.hid HREL.out.1, Lib.hid HREL.out.2⟩
          case measure => simp [intOf]; omega
      · have hkn : k = n := by omega
        subst hkn
        have hd : decide ((k : Int) < (k : Int)) = false := by simp
        obtain ⟨A1, c1, rfl, hc11, hc12, -, hrow1⟩ := own_row HOWN.out
        rw [List.take_of_length_le (by rw [HTL.out]; exact Nat.le_refl _)] at hrow1
        have HJ1 := Lib.hid (HJ.out A1 k c1 _ wr hrow1 HTL.out hc11 (by omega))
        have HOW := Lib.hid (HO2.out.trans HO.out)
        have HROW1 := Lib.hid (HROW.out.only HO.out (by simp))
        clear hrow1 HJ HROW HO HOWN
        go_wp2_with fail
        refine (HJ1.out).mono ?_
        rintro e w3 ⟨rfl, hO3⟩
        have HO3 := Lib.hid (HOW.out.trans hO3)
        have HROW3 := Lib.hid (HROW1.out.only hO3 (by simp))
        clear hO3
        go_wp2_with fail
        refine (HL2.out _ HO3.out).mono ?_
        rintro e w4 ⟨hO4, hcase4⟩
        have HO4 := Lib.hid (HO3.out.trans hO4)
        have HROW4 := Lib.hid (HROW3.out.only hO4 (by simp))
        clear hO4
        rcases hcase4 with ⟨h, -⟩ | ⟨-, V4, rfl, hown4⟩
        · cases h
        obtain ⟨A', c', rfl, -, -, -, hrow4⟩ := own_row hown4
        have HROW4' := Lib.hid hrow4
        have hnn : ((k : Int) != (k : Int)) = false := by simp
        clear hown4 hrow4
        go_wp2_with fail
        go_loopw [9] (fun i wr => ∃ (m q : Nat), i = .int .i64 m ∧ m ≤ k ∧ Hid (w4.drewN q = wr)) (fun i _ => k - (intOf i).toNat)
        case atStart => exact ⟨0, 0, rfl, by omega, Lib.hid rfl⟩
        case round =>
          obtain ⟨m, q, rfl, hm, hw⟩ := hrel
          by_cases hlt : m < k
          · have h01 : (m : Int) < (k : Int) := by omega
            have hm0 : (0 : Int) ≤ (m : Int) := Int.natCast_nonneg _
            obtain ⟨t, ht⟩ : ∃ t, ts[m]? = some t := ⟨_, List.getElem?_eq_getElem (by rw [HTL.out]; exact hlt)⟩
            have a0 := HTX.out m t ht
            have a1 := HTX2.out m t ht
            obtain ⟨b, off, rfl, -, hbw, hcell⟩ := HROW4.out.open_ (k := m * 2) (List.getElem?_eq_some_iff.1 a0).1
            obtain ⟨b', off', rfl, -, hbw', hcell'⟩ := HROW4'.out.open_ (k := m * 2) (List.getElem?_eq_some_iff.1 a1).1
            have g0 : wr.cell? ⟨b, off + m * 2, none⟩ = some (.string t) := by rw [← hw.out]; exact hcell _ _ a0
            have g0' : wr.cell? ⟨b', off' + m * 2, none⟩ = some (.string t) := by rw [← hw.out]; exact hcell' _ _ a1
            have hxx : (t.toList != t.toList) = false := by simp
            have hwm : IntKind.i64.wrap ((m : Int) + 1) = (m : Int) + 1 := IntWalk.i64_in _ (by omega)
            clear hcell hcell' ht a0 a1
            go_wp2_with fail
            go_quiet (fail)
            go_wp2
            go_roundw
            case rel =>
              refine ⟨m + 1, q + nq, by go_num, by omega, Lib.hid ?_⟩
              rw [← hw.out, World.drewN_drewN]
            case measure => simp [intOf]; omega
          · have hkm : m = k := by omega
            subst hkm
            have hd2 : decide ((m : Int) < (m : Int)) = false := by simp
            have HO4' := Lib.hid (HO4.out.drewN q)
            rw [hw.out] at HO4'
            go_wp2
            go_ret
            exact ⟨rfl, HO4'.out⟩

end Go.Proofs.YtaeildajbhiedaaDoor
