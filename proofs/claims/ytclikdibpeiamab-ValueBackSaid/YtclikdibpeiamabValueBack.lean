/- The law ValueBack. -/
import Derived.Test.YtclikdibpeiamabValueW
set_option linter.unusedVariables false
set_option linter.unusedSimpArgs false
namespace Go.Proofs.Ytclikdibpeiamab
open Go.RowKit

theorem itoa_digits (n : Int) : Lib.itoa n ≠ [110, 105, 108] ∧ Lib.itoa n ≠ [63] := by
  have h := digB_itoa n
  constructor
  · intro e
    rw [e] at h
    exact absurd h (by decide)
  · intro e
    rw [e] at h
    exact absurd h (by decide)

theorem value_back {k n : Int} (h : mayB k n = true) (h1 : -9223372036854775808 ≤ n) (h2 : n ≤ 9223372036854775807) :
    pvK (vText k n) = k ∧ pvN (vText k n) = n ∧ pvE (vText k n) = 0 ∧ vErr k n = 0 := by
  rcases mayB_cases k n with ⟨a, b, c⟩ | ⟨a, b, rfl, c⟩ | ⟨a, b, rfl, rfl, c⟩ | ⟨a, b, rfl, rfl, c⟩
  · rw [h] at a; cases a
  · rw [c]
    obtain ⟨d1, d2⟩ := itoa_digits n
    unfold pvK pvN pvE
    rw [if_neg d1, if_neg d2, if_neg d1, if_neg d2, if_neg d1, if_neg d2, if_pos (prE_itoa n h1 h2), if_pos (prE_itoa n h1 h2), prN_itoa n h1 h2]
    exact ⟨rfl, rfl, prE_itoa n h1 h2, b⟩
  · rw [c]; exact ⟨by decide, by decide, by decide, b⟩
  · rw [c]; exact ⟨by decide, by decide, by decide, b⟩

theorem vText_len (k n : Int) (h1 : -9223372036854775808 ≤ n) (h2 : n ≤ 9223372036854775807) : (ByteArray.mk (vText k n).toArray).size ≤ 9223372036854775807 := by
  rw [Lib.size_eq]
  have hi : (Lib.itoa n).length ≤ 21 := by
    unfold Lib.itoa
    split
    · have := dec_len n.natAbs (by omega); simp; omega
    · have := dec_len n.toNat (by omega); omega
  have : (vText k n).length ≤ 21 := by
    unfold vText
    split
    · split
      · exact hi
      · split <;> simp
    · simp
  simp
  omega

set_option maxHeartbeats 1600000 in
theorem valueBack_walk (k n k' n' : Int) (w : World) (h1 : -9223372036854775808 ≤ n) (h2 : n ≤ 9223372036854775807) (h1' : -9223372036854775808 ≤ n') (h2' : n' ≤ 9223372036854775807) :
    Calls Try.prog 4 #[.agg #[.int .i64 k, .int .i64 n], .agg #[.int .i64 k', .int .i64 n']] w fun e w' => e = .returned (.bool true) ∧ Only [] w w' := by
  have hp := fun w => vprint_any k n w h1 h2
  have hp' := fun w => vprint_any k' n' w h1' h2'
  have hm := fun w => may_any k n w
  have hm' := fun w => may_any k' n' w
  have hpa := fun w => vparse_any ⟨(vText k n).toArray⟩ w (vText_len k n h1 h2)
  simp only [List.toList_toArray] at hpa
  have hback := fun h => value_back (k := k) (n := n) h h1 h2
  have hback' := fun h => value_back (k := k') (n := n') h h1' h2'
  have e0 : mayB k n = false → vErr k n = 4 := fun h => by unfold vErr; rw [h]; rfl
  have e0' : mayB k' n' = false → vErr k' n' = 4 := fun h => by unfold vErr; rw [h]; rfl
  have hinj : mayB k n = true → mayB k' n' = true → ¬ (k = k' ∧ n = n') → ((ByteArray.mk (vText k n).toArray).toList == (ByteArray.mk (vText k' n').toArray).toList) = false := fun a b hne => by
    rw [Lib.toList_data, Lib.toList_data]
    simp only [List.toList_toArray]
    rw [beq_eq_false_iff_ne]
    intro e
    obtain ⟨x1, x2, _⟩ := hback a
    obtain ⟨y1, y2, _⟩ := hback' b
    rw [e] at x1 x2
    exact hne ⟨x1.symm.trans y1, x2.symm.trans y2⟩
  have htx : k = k' ∧ n = n' → vText k n = vText k' n' := fun h => by rw [h.1, h.2]
  generalize mayB k n = A at *
  generalize mayB k' n' = B at *
  have HM := Lib.hid hm
  have HM' := Lib.hid hm'
  have HINJ := Lib.hid hinj
  clear hm hm' hinj
  cases A with
  | false =>
    rw [e0 rfl] at hp
    have HP := Lib.hid hp
    have HP' := Lib.hid hp'
    clear hp hp' hpa hback hback' e0 e0' htx
    go_enter Try.func4, Try.ntmps4
    go_wp2_with fail
    refine (vworks_any _).mono ?_
    rintro e w1 ⟨rfl, O1⟩
    have bA := O1.blk ((Blk.made w 24 #[.int .i64 k, .int .i64 n]).alloc (.cells #[.int .i64 k', .int .i64 n'] 24)) (by simp)
    have bB := O1.blk (Blk.made (w.alloc (.cells #[.int .i64 k, .int .i64 n] 24)) 24 #[.int .i64 k', .int .i64 n']) (by simp)
    simp only [World.size_alloc] at bB
    have P1 := (((Only.refl [] w).alloc (.cells #[.int .i64 k, .int .i64 n] 24)).alloc (.cells #[.int .i64 k', .int .i64 n'] 24)).trans O1
    have a0 := bA.at_ 0
    have a1 := bA.at_ 1
    simp at a0 a1
    go_wp2_with fail
    refine (HP.out _).mono ?_
    rintro e w2 ⟨rfl, O2⟩
    have bB2 := O2.blk bB (by simp)
    have bA2 := O2.blk bA (by simp)
    have P2 := P1.trans O2
    clear a0 a1
    have a0 := bB2.at_ 0
    have a1 := bB2.at_ 1
    simp at a0 a1
    go_wp2_with fail
    refine (HP'.out _).mono ?_
    rintro e w3 ⟨rfl, O3⟩
    have P3 := P2.trans O3
    have bA3 := O3.blk bA2 (by simp)
    clear a0 a1
    have a0 := bA3.at_ 0
    have a1 := bA3.at_ 1
    simp at a0 a1
    go_wp2_with fail
    refine (HM.out _).mono ?_
    rintro e w4 ⟨rfl, O4⟩
    go_wp2
    go_ret
    exact ⟨rfl, P3.trans O4⟩
  | true =>
    obtain ⟨b1, b2, b3, b4⟩ := hback rfl
    rw [b1, b2, b3] at hpa
    rw [b4] at hp
    have HP := Lib.hid hp
    have HPA := Lib.hid hpa
    clear hp hpa hback b1 b2 b3 b4 e0
    cases B with
    | false =>
      rw [e0' rfl] at hp'
      have HP' := Lib.hid hp'
      clear hp' hback' e0' htx
      go_enter Try.func4, Try.ntmps4
      go_wp2_with fail
      refine (vworks_any _).mono ?_
      rintro e w1 ⟨rfl, O1⟩
      have bA := O1.blk ((Blk.made w 24 #[.int .i64 k, .int .i64 n]).alloc (.cells #[.int .i64 k', .int .i64 n'] 24)) (by simp)
      have bB := O1.blk (Blk.made (w.alloc (.cells #[.int .i64 k, .int .i64 n] 24)) 24 #[.int .i64 k', .int .i64 n']) (by simp)
      simp only [World.size_alloc] at bB
      have P1 := (((Only.refl [] w).alloc (.cells #[.int .i64 k, .int .i64 n] 24)).alloc (.cells #[.int .i64 k', .int .i64 n'] 24)).trans O1
      have a0 := bA.at_ 0
      have a1 := bA.at_ 1
      simp at a0 a1
      go_wp2_with fail
      refine (HP.out _).mono ?_
      rintro e w2 ⟨rfl, O2⟩
      have bB2 := O2.blk bB (by simp)
      have bA2 := O2.blk bA (by simp)
      have P2 := P1.trans O2
      clear a0 a1
      have a0 := bB2.at_ 0
      have a1 := bB2.at_ 1
      simp at a0 a1
      go_wp2_with fail
      refine (HP'.out _).mono ?_
      rintro e w3 ⟨rfl, O3⟩
      have P3 := P2.trans O3
      have bA3 := O3.blk bA2 (by simp)
      have bB3 := O3.blk bB2 (by simp)
      clear a0 a1
      have a0 := bA3.at_ 0
      have a1 := bA3.at_ 1
      simp at a0 a1
      go_wp2_with fail
      refine (HM.out _).mono ?_
      rintro e w4 ⟨rfl, O4⟩
      clear a0 a1
      have bB4 := O4.blk bB3 (by simp)
      have a0 := bB4.at_ 0
      have a1 := bB4.at_ 1
      simp at a0 a1
      go_wp2_with fail
      refine (HM'.out _).mono ?_
      rintro e w5 ⟨rfl, O5⟩
      go_wp2
      go_ret
      exact ⟨rfl, P3.trans (O4.trans O5)⟩
    | true =>
      obtain ⟨-, -, -, b4⟩ := hback' rfl
      rw [b4] at hp'
      have hne : ¬ (k = k' ∧ n = n') → ((ByteArray.mk (vText k n).toArray).toList == (ByteArray.mk (vText k' n').toArray).toList) = false := HINJ.out rfl rfl
      clear hback' e0' b4 HM HM' HINJ
      generalize vText k n = ta at *
      generalize vText k' n' = tb at *
      have HP' := Lib.hid hp'
      have HT := Lib.hid htx
      have HN := Lib.hid hne
      clear hp' htx hne
      go_enter Try.func4, Try.ntmps4
      go_wp2_with fail
      refine (vworks_any _).mono ?_
      rintro e w1 ⟨rfl, O1⟩
      have bA := O1.blk ((Blk.made w 24 #[.int .i64 k, .int .i64 n]).alloc (.cells #[.int .i64 k', .int .i64 n'] 24)) (by simp)
      have bB := O1.blk (Blk.made (w.alloc (.cells #[.int .i64 k, .int .i64 n] 24)) 24 #[.int .i64 k', .int .i64 n']) (by simp)
      simp only [World.size_alloc] at bB
      have P1 := (((Only.refl [] w).alloc (.cells #[.int .i64 k, .int .i64 n] 24)).alloc (.cells #[.int .i64 k', .int .i64 n'] 24)).trans O1
      have a0 := bA.at_ 0
      have a1 := bA.at_ 1
      simp at a0 a1
      go_wp2_with fail
      refine (HP.out _).mono ?_
      rintro e w2 ⟨rfl, O2⟩
      have bB2 := O2.blk bB (by simp)
      have bA2 := O2.blk bA (by simp)
      have P2 := P1.trans O2
      clear a0 a1
      have a0 := bB2.at_ 0
      have a1 := bB2.at_ 1
      simp at a0 a1
      go_wp2_with fail
      refine (HP'.out _).mono ?_
      rintro e w3 ⟨rfl, O3⟩
      have P3 := P2.trans O3
      have bA3 := O3.blk bA2 (by simp)
      have bB3 := O3.blk bB2 (by simp)
      clear a0 a1
      go_wp2_with fail
      refine (HPA.out _).mono ?_
      rintro e w4 ⟨rfl, O4⟩
      have bA4 := O4.blk bA3 (by simp)
      have bB4 := O4.blk bB3 (by simp)
      have HO := Lib.hid (P3.trans O4)
      have lA := bA4.lt
      have lB := bB4.lt
      have a0 := bA4.at_ 0
      have a1 := bA4.at_ 1
      have c0 := bB4.at_ 0
      have c1 := bB4.at_ 1
      simp at a0 a1 c0 c1
      clear P1 P2 P3 O1 O2 O3 O4 bA bA2 bA3 bA4 bB bB2 bB3 bB4
      by_cases he : k = k' ∧ n = n'
      · have ht := HT.out he
        obtain ⟨r1, r2⟩ := he
        subst r1 r2 ht
        go_wp2
        go_ret
        exact ⟨rfl, HO.out.alloc _⟩
      · have hn : (ta == tb) = false := by
          have := HN.out he
          rw [Lib.toList_data, Lib.toList_data] at this
          simpa using this
        by_cases hk : k = k'
        · have hnn : ¬ n = n' := fun h => he ⟨hk, h⟩
          subst hk
          clear he
          go_wp2
          go_ret
          exact ⟨rfl, HO.out.alloc _⟩
        · clear he
          go_wp2
          go_ret
          exact ⟨rfl, HO.out.alloc _⟩

end Go.Proofs.Ytclikdibpeiamab
