/- value.Sorted: what Compact leaves of values in order; SortFunc and Compact at no slice. -/
import Derived.Test.YtclikdibpeiamabVCompactW
set_option linter.unusedVariables false
set_option linter.unusedSimpArgs false
namespace Go.Proofs.Ytclikdibpeiamab
open Go.RowKit
open Go.Lib hiding intOf
attribute [local go_sem ↓] Go.wp_at_zero Go.wp_at_succ

/-- The mathematics of what Compact leaves of values in order. -/
theorem compactV_rise (zs : List (Int × Int)) (hn : ∀ z ∈ zs, mayP z = true) (hs : zs.Pairwise fun a b => lessV b a = false) : ∀ k, k ≤ zs.length →
    ((compactUpTo zs.toArray k).Pairwise fun a b => lessV a b = true) ∧ ∀ y, y ∈ compactUpTo zs.toArray k ↔ y ∈ zs.take k := by
  have hg : ∀ j, (h : j < zs.length) → zs.toArray[j]! = zs[j] := fun j h => by
    rw [getElem!_pos zs.toArray j (by simpa using h)]
    rfl
  intro k
  induction k with
  | zero => intro _; exact ⟨by simp [compactUpTo], fun y => by simp [compactUpTo]⟩
  | succ k ih =>
    intro hk
    obtain ⟨ih1, ih2⟩ := ih (by omega)
    have hlt : k < zs.length := by omega
    have htk : zs.take (k + 1) = zs.take k ++ [zs[k]] := by rw [List.take_add_one, List.getElem?_eq_getElem hlt]; rfl
    rw [compactUpTo_succ]
    by_cases hkp : keeps zs.toArray k = true
    · rw [if_pos hkp, hg k hlt]
      refine ⟨List.pairwise_append.2 ⟨ih1, List.pairwise_singleton _ _, fun a ha b hb => ?_⟩, fun y => by rw [List.mem_append, ih2, htk, List.mem_append]⟩
      rw [List.mem_singleton] at hb
      subst hb
      have ha2 := (ih2 a).1 ha
      obtain ⟨j, hj, e⟩ := List.mem_iff_getElem.1 ha2
      rw [List.getElem_take] at e
      rw [List.length_take] at hj
      have hjk : j < k := by omega
      unfold keeps at hkp
      have hkp := of_decide_eq_true hkp
      have hk1 : 0 < k := by omega
      have hne : zs[k] ≠ zs[k - 1]'(by omega) := by
        rcases hkp with h | h
        · omega
        · rw [hg k hlt, hg (k - 1) (by omega)] at h
          exact h
      have hS := List.pairwise_iff_getElem.1 hs
      have hlast : lessV (zs[k - 1]'(by omega)) zs[k] = true := by
        cases hc : lessV (zs[k - 1]'(by omega)) zs[k] with
        | true => rfl
        | false => exact absurd (lessV_total (hn _ (List.getElem_mem _)) (hn _ (List.getElem_mem _)) hc (hS (k - 1) k (by omega) hlt (by omega))).symm hne
      by_cases hj1 : j = k - 1
      · subst hj1
        rw [← e]
        exact hlast
      · have h1 := hS j (k - 1) (by omega) (by omega) (by omega)
        rw [← e]
        cases hc : lessV (zs[j]'(by omega)) (zs[k - 1]'(by omega)) with
        | true => exact lessV_trans hc hlast
        | false =>
          have e2 := lessV_total (hn _ (List.getElem_mem _)) (hn _ (List.getElem_mem _)) hc h1
          rw [e2]
          exact hlast
    · have hkf : keeps zs.toArray k = false := by simpa using hkp
      rw [if_neg hkp, List.append_nil]
      refine ⟨ih1, fun y => ?_⟩
      rw [ih2, htk, List.mem_append, List.mem_singleton]
      refine ⟨.inl, ?_⟩
      rintro (h | rfl)
      · exact h
      · unfold keeps at hkf
        have hkf := of_decide_eq_false hkf
        have hk1 : k ≠ 0 := fun h => hkf (.inl h)
        have he : zs[k] = zs[k - 1]'(by omega) := by
          have := Classical.not_not.1 (fun h => hkf (.inr h))
          rw [hg k hlt, hg (k - 1) (by omega)] at this
          exact this
        rw [he]
        exact List.mem_iff_getElem.2 ⟨k - 1, by rw [List.length_take]; omega, by rw [List.getElem_take]⟩
theorem compactV_sort (l bs : List (Int × Int)) (hn : ∀ b ∈ bs, mayP b = true) (hs : bs.Pairwise fun a b => lessV b a = false) (hm : ∀ y, y ∈ bs ↔ y ∈ l ∧ mayP y = true) :
    compactUpTo bs.toArray bs.length = sortV l := by
  have h := compactV_rise bs hn hs bs.length (Nat.le_refl _)
  refine sortV_unique h.1 fun y => ?_
  rw [← hm, h.2, List.take_length]

set_option maxHeartbeats 2000000 in
theorem vins_none (fv : Value) (w : World) :
    Calls Try.prog 29 #[.slice none 0 0, .int .i64 0, .int .i64 0, fv] w fun e w' => e = .returned (.tuple #[]) ∧ w = w' := by
  go_enter Try.func29, Try.ntmps29
  go_wp2
  refine wp_loop_rounds 1 ?_
  rw [rounds_succ]
  go_wp2
  go_end0
  exact ⟨rfl, rfl⟩
set_option maxHeartbeats 2000000 in
set_option maxRecDepth 10000 in
theorem vpdq_none (lim : Int) (fv : Value) (w : World) :
    Calls Try.prog 23 #[.slice none 0 0, .int .i64 0, .int .i64 0, .int .i64 lim, fv] w fun e w' => e = .returned (.tuple #[]) ∧ w = w' := by
  have HI := Lib.hid (fun w' => vins_none fv w')
  go_enter Try.func23, Try.ntmps23
  go_wp2
  refine wp_loop_rounds 1 ?_
  rw [rounds_succ]
  go_wp2_with fail
  refine (HI.out _).mono ?_
  rintro e w' ⟨rfl, rfl⟩
  go_wp2
  (try simp only [Exit.inBlock, Exit.then]); refine bodyPost_ret (results_none rfl _ _ _) rfl ?_
  exact ⟨rfl, rfl⟩
theorem vlen_none (w : World) : Calls Try.prog 24 #[.int .u64 0] w fun e w' => e = .returned (.int .i64 0) ∧ w' = w :=
  Any.bits_Len (SlLaysF0.n15.bits (P := Try.prog) (ρ := Try.laysSort_ren) { Try.laysSort with }) 0 w (by omega) (by omega)
set_option maxHeartbeats 2000000 in
theorem vsortf_none (fv : Value) (w : World) :
    Calls Try.prog 14 #[.slice none 0 0, fv] w fun e w' => e = .returned (.tuple #[]) ∧ w = w' := by
  have HP := Lib.hid (fun w' => vpdq_none 0 fv w')
  have HL := Lib.hid (fun w' => vlen_none w')
  have hw : IntKind.u64.wrap 0 = 0 := by rfl
  go_enter Try.func14, Try.ntmps14
  go_wp2_with fail
  refine (HL.out _).mono ?_
  rintro e w' ⟨rfl, rfl⟩
  go_wp2_with fail
  refine (HP.out _).mono ?_
  rintro e w' ⟨rfl, rfl⟩
  go_wp2
  go_end0
  exact ⟨rfl, rfl⟩


set_option maxHeartbeats 1000000 in
theorem vcompact_none (w : World) : Calls Try.prog 16 #[.slice none 0 0] w fun e w' => e = .returned (.slice none 0 0) ∧ w = w' := by
  go_enter Try.func16, Try.ntmps16
  go_wp2
  go_ret
  exact ⟨rfl, rfl⟩

end Go.Proofs.Ytclikdibpeiamab
