/- The document's values: Less, SameList. -/
import Derived.Test.YtclikdibpeiamabRVal
import Derived.Test.YtclikdibpeiamabPairs
set_option linter.unusedVariables false
set_option linter.unusedSimpArgs false
namespace Go.Proofs.Ytclikdibpeiamab
open Go.RowKit

set_option maxHeartbeats 1000000 in
theorem sameList_eq (A A' : Option Addr) (n c d : Nat) (l : List (Int × Int)) (w : World) (B B' : Nat) (hA : Row w B A (edgeC l)) (hA' : Row w B' A' (edgeC l)) (hn : l.length = n) (hnm : n ≤ 9223372036854775807) :
    Calls Try.prog 5 #[.slice A n c, .slice A' n d] w fun e w' => e = .returned (.bool true) ∧ ∃ k, w.drewN k = w' := by
  have HA := Lib.hid hA
  have HA' := Lib.hid hA'
  have HN := Lib.hid hn
  clear hA hA' hn
  go_enter Try.func5, Try.ntmps5
  go_wp2_with fail
  go_loopw [5] (fun i wr => ∃ k q : Nat, i = .int .i64 k ∧ k ≤ n ∧ Hid (wr = w.drewN q)) (fun i _ => n - (intOf i).toNat)
  case atStart => exact ⟨0, 0, rfl, by omega, rfl⟩
  case round =>
    obtain ⟨k, q, rfl, hk, hw⟩ := hrel
    have hxl := HN.out
    by_cases hlt : k < n
    · obtain ⟨b, off, rfl, -, hbw, hc⟩ := HA.out.open_ (k := k * 2) (by rw [edgeC_len]; omega)
      obtain ⟨b', off', rfl, -, hbw', hc'⟩ := HA'.out.open_ (k := k * 2) (by rw [edgeC_len]; omega)
      obtain ⟨e, he⟩ : ∃ e, l[k]? = some e := ⟨_, List.getElem?_eq_getElem (by omega)⟩
      obtain ⟨x, y⟩ := e
      have hee := edgeC_get l k _ he
      have hc0 : wr.cell? ⟨b, off + k * 2, none⟩ = some (.int .i64 x) := by rw [hw.out]; exact hc _ _ hee.1
      have hc1 : wr.cell? ⟨b, off + k * 2 + 1, none⟩ = some (.int .i64 y) := by rw [hw.out, Nat.add_assoc]; exact hc _ _ hee.2
      have hc2 : wr.cell? ⟨b', off' + k * 2, none⟩ = some (.int .i64 x) := by rw [hw.out]; exact hc' _ _ hee.1
      have hc3 : wr.cell? ⟨b', off' + k * 2 + 1, none⟩ = some (.int .i64 y) := by rw [hw.out, Nat.add_assoc]; exact hc' _ _ hee.2
      have hk0 : (0 : Int) ≤ (k : Int) := Int.natCast_nonneg _
      have hk1 : (k : Int) < (n : Int) := by omega
      clear hc hc' hxl hee he
      go_wp2_with fail
      go_quiet (fail)
      go_wp2
      go_roundw
      case rel =>
        refine ⟨k + 1, q + nq, by go_num, by omega, ?_⟩
        show _ = _
        rw [hw.out, World.drewN_drewN]
      case measure => simp [intOf]; omega
    · have hge : n ≤ k := by omega
      clear hxl
      go_wp2
      go_ret
      exact ⟨rfl, q, hw.out.symm⟩

set_option maxHeartbeats 1600000 in
theorem rvless_any (a b : Int × Int) (w : World) : Calls Try.prog 9 #[.agg #[.int .i64 a.1, .int .i64 a.2], .agg #[.int .i64 b.1, .int .i64 b.2]] w fun e w' => e = .returned (.bool (lessV a b)) ∧ Only [] w w' := by
  have hraw : mayP a = true → mayP b = true → lessV a b = lessB a.1 a.2 b.1 b.2 := fun h1 h2 => by
    rw [Bool.eq_iff_iff, lessV_spec, lessB_spec]
    simp [h1, h2]
  have hno : (mayP a = false ∨ mayP b = false) → lessV a b = false := fun h => by
    cases hc : lessV a b with
    | false => rfl
    | true =>
      obtain ⟨h1, h2, -⟩ := (lessV_spec a b).1 hc
      rcases h with h | h <;> simp_all
  obtain ⟨k, n⟩ := a
  obtain ⟨k', n'⟩ := b
  have hma := fun w => rmay_any k n w
  have hmb := fun w => rmay_any k' n' w
  have hl := fun w => rLess_any k n k' n' w
  have ha : mayP (k, n) = mayB k n := rfl
  have hb : mayP (k', n') = mayB k' n' := rfl
  rw [ha, hb] at hraw hno
  clear ha hb
  dsimp only at *
  generalize mayB k n = va at *
  generalize mayB k' n' = vb at *
  generalize lessB k n k' n' = lb at *
  generalize lessV (k, n) (k', n') = res at *
  have HMA := Lib.hid hma
  have HMB := Lib.hid hmb
  have HL := Lib.hid hl
  have HRAW := Lib.hid hraw
  have HNO := Lib.hid hno
  clear hma hmb hl hraw hno
  go_enter Try.func9, Try.ntmps9
  go_wp2_with fail
  refine (HMA.out _).mono ?_
  rintro e w2 ⟨rfl, O2⟩
  have bA := O2.blk ((made2 w 24 k n).alloc (.cells #[.int .i64 k', .int .i64 n'] 24)) (by simp)
  have bB := O2.blk (made2 (w.alloc (.cells #[.int .i64 k, .int .i64 n] 24)) 24 k' n') (by simp)
  simp only [World.size_alloc] at bB
  have HP := Lib.hid ((((Only.refl [] w).alloc (.cells #[.int .i64 k, .int .i64 n] 24)).alloc (.cells #[.int .i64 k', .int .i64 n'] 24)).trans O2)
  have lA := bA.lt
  have lB := bB.lt
  have a0 := bA.at_ 0
  have a1 := bA.at_ 1
  have b0 := bB.at_ 0
  have b1 := bB.at_ 1
  simp at a0 a1 b0 b1
  clear O2
  cases va with
  | false =>
    obtain rfl := HNO.out (.inl rfl)
    go_wp2
    go_ret
    exact ⟨rfl, HP.out⟩
  | true =>
    go_wp2_with fail
    refine (HMB.out _).mono ?_
    rintro e w3 ⟨rfl, O3⟩
    replace bA := O3.blk bA (by simp)
    replace bB := O3.blk bB (by simp)
    have HQ := Lib.hid (HP.out.trans O3)
    clear a0 a1 b0 b1 lA lB O3 HP
    have lA := bA.lt
    have lB := bB.lt
    have a0 := bA.at_ 0
    have a1 := bA.at_ 1
    have b0 := bB.at_ 0
    have b1 := bB.at_ 1
    simp at a0 a1 b0 b1
    cases vb with
    | false =>
      obtain rfl := HNO.out (.inr rfl)
      go_wp2
      go_ret
      exact ⟨rfl, HQ.out⟩
    | true =>
      obtain rfl : res = lb := by have h := HRAW.out; simpa using h
      go_wp2_with fail
      refine (HL.out _).mono ?_
      rintro e w4 ⟨rfl, O4⟩
      have HR := Lib.hid (HQ.out.trans O4)
      clear O4 a0 a1 b0 b1 lA lB bA bB HQ
      go_wp2
      go_ret
      exact ⟨rfl, HR.out⟩

end Go.Proofs.Ytclikdibpeiamab
