/- NameOrder: the walk. -/
import Derived.Test.YtaeildajbhiedaaDoorNameD
set_option linter.unusedVariables false
set_option linter.unusedSimpArgs false
namespace Go.Proofs.YtaeildajbhiedaaDoor
open Go.RowKit
open Go.Lib hiding intOf
attribute [local go_sem ↓] Go.wp_at_zero Go.wp_at_succ

theorem name_valid {s : ByteArray} (h : isName s = true) : validD (by_ s) = true := by
  unfold isName at h
  simp only [Bool.and_eq_true] at h
  exact h.1.1

set_option maxHeartbeats 8000000 in
theorem nameOrder_walk (s t : ByteArray) (w : World) (hs : s.size ≤ 9223372036854775807) (ht : t.size ≤ 9223372036854775807) (hT : UTabs w) :
    Calls Tryd.prog 5 #[.string s, .string t] w fun e w' => e = .returned (.bool true) ∧ Only [] w w' := by
  have HWK := Lib.hid (works02_any w hT)
  have HS1 := Lib.hid (fun w' => short2_any s w' hs)
  have HS2 := Lib.hid (fun w' => short2_any t w' ht)
  have ha := short2_size s
  have hb := short2_size t
  generalize short2 s = a at *
  generalize short2 t = b at *
  have HIA := Lib.hid (fun w' (h : Only [] w w') => is_any a w' (by omega) (hT.only h))
  have HIB := Lib.hid (fun w' (h : Only [] w w') => is_any b w' (by omega) (hT.only h))
  have HLA := Lib.hid (fun w' (h : Only [] w w') => less_any a b w' (by omega) (by omega) (hT.only h))
  have HLB := Lib.hid (fun w' (h : Only [] w w') => less_any b a w' (by omega) (by omega) (hT.only h))
  have HT1 := Lib.hid (fun w' => turned_any a w' (by omega))
  obtain ⟨T, hTe⟩ : ∃ T : ByteArray, T = ⟨(turnedL (by_ a)).toArray⟩ := ⟨_, rfl⟩
  have hTb : by_ T = turnedL (by_ a) := by rw [hTe]; exact List.toList_toArray
  have hTl : T.size ≤ 1200 := by
    have := turned_len (by_ a)
    rw [← hTb, by_length, by_length] at this
    omega
  have HT2 := Lib.hid (fun w' => turned_any T w' (by omega))
  rw [hTb] at HT2
  rw [← hTe] at HT1
  have HTT : Hid (isName a = true → (⟨(turnedL (turnedL (by_ a))).toArray⟩ : ByteArray) = a) := Lib.hid (fun h => by
    rw [turned_turned (name_valid h)]
    exact by_inj List.toList_toArray)
  have HNE : Hid (isName a = true → isName b = true → a ≠ b → lessL (runesL (by_ a)) (runesL (by_ b)) = !lessL (runesL (by_ b)) (runesL (by_ a))) := Lib.hid (fun h1 h2 h3 =>
    less_one _ _ (fun e => h3 (by_inj (runes_inj (name_valid h1) (name_valid h2) e))))
  have HEQ : Hid (a = b → lessL (runesL (by_ a)) (runesL (by_ b)) = false ∧ lessL (runesL (by_ b)) (runesL (by_ a)) = false) := Lib.hid (fun h => by subst h; exact ⟨less_irr _, less_irr _⟩)
  obtain ⟨ia, hia⟩ : ∃ ia, ia = isName a := ⟨_, rfl⟩
  obtain ⟨ib, hib⟩ : ∃ ib, ib = isName b := ⟨_, rfl⟩
  rw [← hia] at HIA HTT HNE
  rw [← hib] at HIB HNE
  generalize lessL (runesL (by_ a)) (runesL (by_ b)) = L1 at *
  generalize lessL (runesL (by_ b)) (runesL (by_ a)) = L2 at *
  generalize (⟨(turnedL (turnedL (by_ a))).toArray⟩ : ByteArray) = T2 at *
  clear hs ht hT hia hib hTe hTb hTl ha hb
  go_enter Tryd.func5, Tryd.ntmps5
  go_wp2_with fail
  refine (HWK.out).mono ?_
  rintro e w1 ⟨rfl, hO1⟩
  have HO1 := Lib.hid hO1
  clear hO1
  go_wp2_with fail
  refine (HS1.out _).mono ?_
  rintro e w1' ⟨rfl, rfl⟩
  go_wp2_with fail
  refine (HS2.out _).mono ?_
  rintro e w1' ⟨rfl, rfl⟩
  go_wp2_with fail
  refine (HIA.out _ HO1.out).mono ?_
  rintro e w2 ⟨rfl, hO2⟩
  have HO2 := Lib.hid (HO1.out.trans hO2)
  clear hO2
  cases ia with
  | false =>
    go_wp2
    go_ret
    exact ⟨rfl, HO2.out⟩
  | true =>
    go_wp2_with fail
    refine (HIB.out _ HO2.out).mono ?_
    rintro e w3 ⟨rfl, hO3⟩
    have HO3 := Lib.hid (HO2.out.trans hO3)
    clear hO3
    cases ib with
    | false =>
      go_wp2
      go_ret
      exact ⟨rfl, HO3.out⟩
    | true =>
      have hT2 := HTT.out (by first | rfl | trivial)
      subst hT2
      have hee : (T2.toList == T2.toList) = true := by simp
      by_cases hab : T2 = b
      · subst hab
        obtain ⟨h1, h2⟩ := HEQ.out rfl
        subst h1
        subst h2
        clear HEQ HNE HTT
        go_wp2_with fail
        refine (HLA.out _ HO3.out).mono ?_
        rintro e w4 ⟨rfl, hO4⟩
        have HO4 := Lib.hid (HO3.out.trans hO4)
        clear hO4
        go_wp2_with fail
        refine (HLB.out _ HO4.out).mono ?_
        rintro e w5 ⟨rfl, hO5⟩
        have HO5 := Lib.hid (HO4.out.trans hO5)
        clear hO5
        go_wp2_with fail
        refine (HLA.out _ HO5.out).mono ?_
        rintro e w6 ⟨rfl, hO6⟩
        have HO6 := Lib.hid (HO5.out.trans hO6)
        clear hO6
        go_wp2_with fail
        refine (HT1.out _).mono ?_
        rintro e w7 ⟨rfl, hO7⟩
        have HO7 := Lib.hid (HO6.out.trans hO7)
        clear hO7
        go_wp2_with fail
        refine (HT2.out _).mono ?_
        rintro e w8 ⟨rfl, hO8⟩
        have HO8 := Lib.hid (HO7.out.trans hO8)
        clear hO8
        go_wp2
        go_ret
        exact ⟨rfl, HO8.out⟩
      · have hne : (T2.toList == b.toList) = false := text_ne (l := b.toList) (by
          rw [Lib.toList_data]
          exact fun e => hab (e.trans (by_inj List.toList_toArray)))
        have h12 := HNE.out (by first | rfl | trivial) (by first | rfl | trivial) hab
        subst h12
        clear HEQ HNE HTT hab
        cases L2 with
        | false =>
          go_wp2_with fail
          refine (HLA.out _ HO3.out).mono ?_
          rintro e w4 ⟨rfl, hO4⟩
          have HO4 := Lib.hid (HO3.out.trans hO4)
          clear hO4
          go_wp2_with fail
          refine (HLB.out _ HO4.out).mono ?_
          rintro e w5 ⟨rfl, hO5⟩
          have HO5 := Lib.hid (HO4.out.trans hO5)
          clear hO5
          go_wp2_with fail
          refine (HLA.out _ HO5.out).mono ?_
          rintro e w6 ⟨rfl, hO6⟩
          have HO6 := Lib.hid (HO5.out.trans hO6)
          clear hO6
          go_wp2_with fail
          refine (HLB.out _ HO6.out).mono ?_
          rintro e w6' ⟨rfl, hO6'⟩
          have HO6' := Lib.hid (HO6.out.trans hO6')
          clear hO6'
          go_wp2_with fail
          refine (HT1.out _).mono ?_
          rintro e w7 ⟨rfl, hO7⟩
          have HO7 := Lib.hid (HO6'.out.trans hO7)
          clear hO7
          go_wp2_with fail
          refine (HT2.out _).mono ?_
          rintro e w8 ⟨rfl, hO8⟩
          have HO8 := Lib.hid (HO7.out.trans hO8)
          clear hO8
          go_wp2
          go_ret
          exact ⟨rfl, HO8.out⟩
        | true =>
          go_wp2_with fail
          refine (HLA.out _ HO3.out).mono ?_
          rintro e w4 ⟨rfl, hO4⟩
          have HO4 := Lib.hid (HO3.out.trans hO4)
          clear hO4
          go_wp2_with fail
          refine (HLB.out _ HO4.out).mono ?_
          rintro e w5 ⟨rfl, hO5⟩
          have HO5 := Lib.hid (HO4.out.trans hO5)
          clear hO5
          go_wp2_with fail
          refine (HLA.out _ HO5.out).mono ?_
          rintro e w6 ⟨rfl, hO6⟩
          have HO6 := Lib.hid (HO5.out.trans hO6)
          clear hO6
          go_wp2_with fail
          refine (HT1.out _).mono ?_
          rintro e w7 ⟨rfl, hO7⟩
          have HO7 := Lib.hid (HO6.out.trans hO7)
          clear hO7
          go_wp2_with fail
          refine (HT2.out _).mono ?_
          rintro e w8 ⟨rfl, hO8⟩
          have HO8 := Lib.hid (HO7.out.trans hO8)
          clear hO8
          go_wp2
          go_ret
          exact ⟨rfl, HO8.out⟩

end Go.Proofs.YtaeildajbhiedaaDoor
