/- The document's log.Parse. -/
import Derived.Test.YtbenjknaklafmaaDoorLogParsesCardK33
import Derived.Test.YtbenjknaklafmaaDoorLogParsesCardK45
import Derived.Test.YtbenjknaklafmaaDoorLogParsesCardK46
set_option linter.unusedVariables false
set_option linter.unusedSimpArgs false
namespace Go.Proofs.YtbenjknaklafmaaDoor
open Go.RowKit
open Go.Lib hiding intOf
attribute [local go_sem ↓] Go.wp_at_zero Go.wp_at_succ

set_option maxRecDepth 10000 in
set_option maxHeartbeats 4000000 in
theorem rlogparse_any (s : ByteArray) (w : World) (hs : s.size ≤ 65536) (hrow : ∀ x ∈ linesOf (by_ s), x.length ≤ 65535) :
    Calls Tryd.prog 8 #[.string s] w fun e w' => Only [] w w' ∧ ∃ A c, e = .returned (.tuple #[.slice A (logParse s).1.length c, .int .i64 (logParse s).2.1, .int .i64 (logParse s).2.2]) ∧ Row w' w'.heap.size A (logC (logParse s).1) := by
  obtain ⟨i0, hi, hz0, hz1, hz2⟩ := info_parts info_event
  have HOF := Lib.hid (rof_any s w hs)
  have HEP := Lib.hid (fun row w' (h : row.size ≤ 65535) => revparse_any row w' h)
  obtain ⟨r, hr⟩ : ∃ r, r = logParse s := ⟨_, rfl⟩
  rw [← hr]
  have HR := Lib.hid hr
  have HROWS := Lib.hid hrow
  have hln := cutL_len (by_ s) []
  rw [by_length] at hln
  clear hr hrow
  go_enter Tryd.func8, Tryd.ntmps8
  go_wp2_with fail
  refine (HOF.out).mono ?_
  rintro e w1 ⟨O1, ⟨hval, V0, xs, rfl, hown0, hxs⟩ | ⟨i, x, hx, hbad, hfirst, rfl⟩⟩
  · have hidx : (linesOf (by_ s)).findIdx? (fun x => !validD x) = none := by
      rw [List.findIdx?_eq_none_iff]
      intro x hx
      rw [hval x hx]
      rfl
    have hr : r = logOf xs 1 [] := by
      rw [HR.out]
      unfold logParse
      rw [if_neg (by omega), hidx, rows_eq hxs]
    have HXS : Hid (∀ x ∈ xs, x.size ≤ 65535) := Lib.hid (fun x hx => by
      have := HROWS.out (by_ x) (by rw [← hxs]; exact List.mem_map_of_mem hx)
      rwa [by_length] at this)
    have hnl : xs.length ≤ 65537 := by
      have := congrArg List.length hxs
      rw [List.length_map] at this
      unfold linesOf at this
      omega
    obtain ⟨A0, c0, rfl, -, -, -, hrow0⟩ := own_row hown0
    generalize hn : xs.length = n at *
    have HN := Lib.hid hn
    have HRR := Lib.hid hr
    have HO1 := Lib.hid O1
    have HROW := Lib.hid hrow0
    clear hval hown0 hxs hidx HR HROWS hn hr O1 hrow0 hln
    go_wp2_with fail
    go_loopw [8, 9] (fun V iv wr => ∃ (k : Nat) (acc : List Ev6), iv = .int .i64 k ∧ k ≤ n ∧ acc.length ≤ 1000 ∧ Hid (r = logOf (xs.drop k) ((k : Int) + 1) acc) ∧ Hid (wr.ownsRow w1.heap.size 38 6 V acc.length (logC acc)) ∧ Hid (Only [] w1 wr)) (fun _ iv _ => n - (intOf iv).toNat)
    case atStart => exact ⟨0, [], rfl, by omega, by simp, HRR, Lib.hid (World.ownsRow_lit w1 #[] 0 (Nat.le_refl _) (by unfold maxLen; omega) rfl), Lib.hid ((Only.refl [] w1).alloc _)⟩
    case round =>
      obtain ⟨k, acc, rfl, hk, hacc, hR, HOWN, HO⟩ := hrel
      obtain ⟨A, c, rfl, -, -, -, -⟩ := own_row HOWN.out
      by_cases hlt : k < n
      · have h01 : (k : Int) < (n : Int) := by omega
        have hk0 : (0 : Int) ≤ (k : Int) := Int.natCast_nonneg _
        have hwk : IntKind.i64.wrap ((k : Int) + 1) = (k : Int) + 1 := IntWalk.i64_in _ (by omega)
        obtain ⟨b, off, rfl, hbB, hbw, hcell⟩ := HROW.out.open_ (k := k) (by rw [strs, List.length_map, HN.out]; exact hlt)
        obtain ⟨x, hx⟩ : ∃ x, xs[k]? = some x := ⟨_, List.getElem?_eq_getElem (by rw [HN.out]; exact hlt)⟩
        have hck : wr.cell? ⟨b, off + k, none⟩ = some (.string x) := (HO.out.cell (p := ⟨b, off + k, none⟩) hbw (by simp)).trans (hcell k _ (by rw [strs, List.getElem?_map, hx]; rfl))
        have HW := Lib.hid (HEP.out x wr (HXS.out x (List.mem_of_getElem? hx)))
        have hstep : logOf (xs.drop k) ((k : Int) + 1) acc = if stepE acc x = 0 then logOf (xs.drop (k + 1)) (((k + 1 : Nat) : Int) + 1) (stepL acc ((k : Int) + 1) x) else ([], (k : Int) + 1, stepE acc x) := by
          obtain ⟨h1, h2⟩ := List.getElem?_eq_some_iff.1 hx
          rw [List.drop_eq_getElem_cons h1, h2]
          rfl
        have HST := Lib.hid (hR.out.trans hstep)
        have HM := Lib.hid (ev_may x)
        unfold stepE stepL at HST
        unfold evRV at HW
        generalize evParse x = ev at *
        obtain ⟨ek, es, ey, evk, evn, is, er⟩ := ev
        dsimp only at HW HM HST
        clear hcell hx hstep
        go_wp2_with fail
        refine (HW.out).mono ?_
        rintro e w2 ⟨rfl, O2⟩
        have HO2 := Lib.hid (HO.out.trans O2)
        have HOWN2 := Lib.hid (own_only HOWN.out O2 (by simp))
        clear O2 HW hck
        cases is with
        | false =>
          by_cases hE : er = 0
          · subst hE
            have HR2 : Hid (r = logOf (xs.drop (k + 1)) (((k + 1 : Nat) : Int) + 1) acc) := Lib.hid (by rw [HST.out]; simp)
            have HO3 := Lib.hid (HO2.out.alloc (.cells #[.int .i64 ek, .string es, .string ey, .int .i64 evk, .int .i64 evn, .int .i64 0] 38))
            have HOWN3 := Lib.hid (own_only HOWN2.out ((Only.refl [] w2).alloc (.cells #[.int .i64 ek, .string es, .string ey, .int .i64 evk, .int .i64 evn, .int .i64 0] 38)) (by simp))
            clear HST
            go_wp2
            go_roundw
            case rel => exact ⟨k + 1, acc, by go_num, by omega, hacc, HR2, HOWN3, HO3⟩
            case measure => simp [intOf]; omega
          · have hE' : (er != 0) = true := by simpa using hE
            obtain rfl : r = ([], (k : Int) + 1, er) := by rw [HST.out]; simp [hE]
            clear HST hE
            go_wp2
            go_ret3
            exact ⟨(HO1.out.trans HO2.out).alloc _, none, ⟨0, rfl⟩, .inl rfl⟩
        | true =>
          obtain ⟨rfl, -⟩ := HM.out rfl
          generalize hm : acc.length = m at *
          by_cases h1000 : m = 1000
          · subst h1000
            obtain rfl : r = ([], (k : Int) + 1, 7) := by rw [HST.out]; simp
            clear HST
            go_wp2
            go_ret3
            exact ⟨(HO1.out.trans HO2.out).alloc _, none, ⟨0, rfl⟩, .inl rfl⟩
          · have hne : ((m : Int) == 1000) = false := by simp; omega
            have HR2 : Hid (r = logOf (xs.drop (k + 1)) (((k + 1 : Nat) : Int) + 1) (acc ++ [⟨ek, es, ey, evk, evn, (k : Int) + 1⟩])) := Lib.hid (by rw [HST.out]; simp [h1000])
            have hlen : (acc ++ [⟨ek, es, ey, evk, evn, (k : Int) + 1⟩] : List Ev6).length = m + 1 := by rw [List.length_append, hm]; rfl
            clear HST
            go_upto_region 15 with (fail)
            have O3 : Only [] w2 (w2.alloc (.cells #[.int .i64 ek, .string es, .string ey, .int .i64 evk, .int .i64 evn, .int .i64 ((k : Int) + 1)] 38)) := (Only.refl [] w2).alloc _
            have bE3 := Blk.made w2 38 #[.int .i64 ek, .string es, .string ey, .int .i64 evk, .int .i64 evn, .int .i64 ((k : Int) + 1)]
            have HOWN3 := Lib.hid (own_only HOWN2.out O3 (by simp))
            have HO3 := Lib.hid (HO2.out.trans O3)
            clear O3 HO2 HOWN2
            generalize (w2.alloc (.cells #[.int .i64 ek, .string es, .string ey, .int .i64 evk, .int .i64 evn, .int .i64 ((k : Int) + 1)] 38)) = w3 at *
            generalize w2.heap.size = ge at *
            have lE := bE3.lt
            have e0 := bE3.at_ 0
            have e1 := bE3.at_ 1
            have e2 := bE3.at_ 2
            have e3 := bE3.at_ 3
            have e4 := bE3.at_ 4
            have e5 := bE3.at_ 5
            simp at e0 e1 e2 e3 e4 e5
            have hsz3 := HO3.out.size
            clear bE3
            go_wp2_with (
              at_builtin
              refine wpList_append_row _ rfl (.tmp 54) (.tmp 56) _ rfl w1.heap.size 38 i0 _ 6 64 Tryd.underlying23 hi hz0 hz1 hz2 rfl (by omega) _ m (logC acc) rfl (own_only HOWN3.out ((Only.refl [] w3).alloc _) (by simp)) (w3.heap.size + 1) (some ⟨w3.heap.size, 0, none⟩) 1 1 [.int .i64 ek, .string es, .string ey, .int .i64 evk, .int .i64 evn, .int .i64 ((k : Int) + 1)] (by rfl) (by rfl) (row_lit w3 38 #[.int .i64 ek, .string es, .string ey, .int .i64 evk, .int .i64 evn, .int .i64 ((k : Int) + 1)]) (by intro u hu; simp at hu; rcases hu with rfl | rfl | rfl | rfl | rfl | rfl <;> rfl) (by unfold maxLen; omega) (by omega) (by simp; omega) ?_
              intro v4 w4 hown4 hgrow hat
              have O4 := (HO3.out.alloc (.cells #[.int .i64 ek, .string es, .string ey, .int .i64 evk, .int .i64 evn, .int .i64 ((k : Int) + 1)] 38)).step (only_grown hgrow) (own_new HOWN3.out)
              have HO4 := Lib.hid O4
              have HOWN4 := Lib.hid hown4
              clear O4 hown4 hat hgrow)
            go_roundw
            case rel => exact ⟨k + 1, acc ++ [⟨ek, es, ey, evk, evn, (k : Int) + 1⟩], by go_num, by omega, by rw [hlen]; omega, HR2, Lib.hid (by rw [hlen, logC_snoc]; exact HOWN4.out), HO4⟩
            case measure => simp [intOf]; omega
      · have hkn : k = n := by omega
        subst hkn
        have hd : decide ((k : Int) < (k : Int)) = false := by simp
        obtain rfl : r = (acc, 0, 0) := by rw [hR.out, List.drop_of_length_le (by rw [HN.out]; exact Nat.le_refl _)]; rfl
        obtain ⟨A', c', hV, -, -, -, hrw⟩ := own_row HOWN.out
        injection hV with hA1 hA2 hA3
        subst hA1 hA3
        have HRW := Lib.hid hrw
        clear hrw hA2
        go_wp2
        go_ret3
        exact ⟨HO1.out.trans HO.out, _, ⟨_, rfl⟩, HRW.out⟩
  · have hidx : (linesOf (by_ s)).findIdx? (fun x => !validD x) = some i := by
      rw [List.findIdx?_eq_some_iff_getElem]
      obtain ⟨h1, h2⟩ := List.getElem?_eq_some_iff.1 hx
      refine ⟨h1, by rw [h2, hbad]; rfl, fun j hj => ?_⟩
      have := hfirst j _ hj (List.getElem?_eq_getElem (by omega))
      rw [this]
      simp
    obtain rfl : r = ([], (i : Int) + 1, 5) := by
      rw [HR.out]
      unfold logParse
      rw [if_neg (by omega), hidx]
    have HO1 := Lib.hid O1
    clear hx hbad hfirst hidx HR O1 HROWS
    go_wp2
    go_ret3
    exact ⟨HO1.out, none, ⟨0, rfl⟩, .inl rfl⟩

end Go.Proofs.YtbenjknaklafmaaDoor
