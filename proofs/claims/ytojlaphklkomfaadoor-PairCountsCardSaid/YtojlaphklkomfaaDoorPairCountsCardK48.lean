/- A slice of events that came in. -/
import Derived.Test.YtojlaphklkomfaaDoorPairCountsCardK5
import Derived.Test.YtojlaphklkomfaaDoorPairCountsCardK47
import Derived.ChangeSame
set_option linter.unusedVariables false
set_option linter.unusedSimpArgs false
namespace Go.Proofs.YtojlaphklkomfaaDoor
open Go.RowKit Go.ChangeShapes Go.WideShapes Go.ChangeAt Go.Joins Go.Deep

theorem list_ofE {Q : Nat → Ev6 → Prop} : ∀ {N : Nat}, (∀ k, k < N → ∃ z, Q k z) → ∃ zs : List Ev6, zs.length = N ∧ ∀ k z, zs[k]? = some z → Q k z
  | 0, _ => ⟨[], rfl, fun k z h => by simp at h⟩
  | N + 1, h => by
    obtain ⟨zs, hl, hz⟩ := list_ofE (N := N) (fun k hk => h k (by omega))
    obtain ⟨z, hq⟩ := h N (by omega)
    refine ⟨zs ++ [z], by simp [hl], fun k y hy => ?_⟩
    rcases Nat.lt_or_ge k zs.length with hk | hk
    · rw [List.getElem?_append_left hk] at hy
      exact hz k y hy
    · rw [List.getElem?_append_right hk] at hy
      have hk0 : k - zs.length = 0 := by
        cases hj : k - zs.length with
        | zero => rfl
        | succ j => rw [hj] at hy; simp at hy
      rw [hk0] at hy
      simp at hy
      subst hy
      have : k = N := by omega
      subst this
      exact hq

section
variable {H : Type} {enc : TypeId × Value → H} {P : Program} {w : World}
theorem open_row_events {r : Reach} {b0 : Nat} {tt t ti ts tv tj : TypeId} {f0 f1 f2 f3 f4 g0 g1 : Field} {v : Value} {d : DataW H} {ps : List MemPlace} (ht : P.underlying tt = some (.slice t))
    (hs : P.underlying t = some (.struct #[f0, f1, f2, f3, f4])) (hvs : P.underlying tv = some (.struct #[g0, g1])) (hC : P.cellsOf t = 6)
    (hi : P.underlying ti = some (.int .i64)) (hj : P.underlying tj = some (.int .i64)) (hst : P.underlying ts = some .string) (ci : P.cellsOf ti = 1) (cj : P.cellsOf tj = 1) (cst : P.cellsOf ts = 1) (cv : P.cellsOf tv = 2)
    (e0 : f0.type = ti ∧ f0.offset = 0) (e1 : f1.type = ts ∧ f1.offset = 1) (e2 : f2.type = ts ∧ f2.offset = 2) (e3 : f3.type = tv ∧ f3.offset = 3) (e4 : f4.type = ti ∧ f4.offset = 5)
    (q0 : g0.type = ti ∧ g0.offset = 0) (q1 : g1.type = tj ∧ g1.offset = 1) (hv : Value.okWide P w r b0 tt v) (h : DataW.Trod enc P w 0 (fun _ => true) true tt v d ps) :
    ∃ (A : Option Addr) (n c : Nat) (l : List Ev6), v = .slice A n c ∧ n ≤ c ∧ c ≤ maxLen ∧ l.length = n ∧ (∀ x ∈ l, x.s.size ≤ maxLen ∧ x.y.size ≤ maxLen ∧ -9223372036854775808 ≤ x.vn ∧ x.vn ≤ 9223372036854775807) ∧ Row w w.heap.size A (logC l) := by
  obtain ⟨a0, len, cap, rfl⟩ := okWide_slice ht hv
  obtain ⟨fuel, hf⟩ := h
  rcases open_slice ht hf with ⟨hcs, _⟩ | ⟨a, len', cap', m, n, D, Pl, hcs, _, hl, hm, hmm, _, hcell⟩
  · simp [Value.cells] at hcs
    obtain ⟨rfl, rfl, rfl⟩ := hcs
    exact ⟨none, 0, 0, [], rfl, Nat.le_refl _, by unfold maxLen; omega, rfl, (fun z hz => by cases hz), .inl rfl⟩
  · simp [Value.cells] at hcs
    obtain ⟨rfl, rfl, rfl⟩ := hcs
    simp only [if_true] at hmm
    subst hmm
    have each : ∀ k, k < len → ∃ x : Ev6, (x.s.size ≤ maxLen ∧ x.y.size ≤ maxLen ∧ -9223372036854775808 ≤ x.vn ∧ x.vn ≤ 9223372036854775807) ∧ ∀ i, i < 6 → w.cell? (a.add (k * 6 + i)) = x.c[i]? := by
      intro k hk
      obtain ⟨cs', hc, htr⟩ := hcell k (by omega)
      rw [hC] at hc
      obtain ⟨xk, xs, xy, xvk, xvn, xln, hcs', w1, w2, w3, -⟩ := event_cells hs hvs hC hi hj hst ci cj cst cv e0 e1 e2 e3 e4 q0 q1 htr
      obtain ⟨_, hcl, hat⟩ := World.cells?_some hc
      refine ⟨⟨xk, xs, xy, xvk, xvn, xln⟩, ⟨w1, w2, bd_i64 w3⟩, fun i hi6 => ?_⟩
      have hk' : a.add (k * 6 + i) = (a.add (k * 6)).add i := by rw [Go.Deep.add_add]
      rw [hk', hat i hi6, hcs']
      rfl
    obtain ⟨l, hll, hz⟩ := list_ofE each
    refine ⟨some a, len, _, l, rfl, hl, hm, hll, fun z hzm => ?_, ?_⟩
    · obtain ⟨k, hk⟩ := List.mem_iff_getElem?.1 hzm
      exact (hz k z hk).1
    · by_cases h0 : len = 0
      · subst h0
        have : l = [] := List.eq_nil_of_length_eq_zero hll
        subst this
        exact .inl rfl
      · obtain ⟨x0, -, hx0⟩ := each 0 (by omega)
        have hz0 : w.cell? (a.add 0) = some (.int .i64 x0.k) := hx0 0 (by omega)
        have hA : a.spot = none := by
          unfold World.cell? Addr.add at hz0
          cases hsp : a.spot with
          | none => rfl
          | some s =>
            rw [if_pos rfl] at hz0
            split at hz0
            · simp [hsp] at hz0
            · cases hz0
        obtain ⟨b, off, sp⟩ := a
        simp only at hA
        subst hA
        have hb : b < w.heap.size := World.block_lt_of_cell? w _ (by simpa [Addr.add] using hz0)
        refine .inr ⟨b, off, rfl, hb, Nat.le_refl _, fun t u hu => ?_⟩
        have hlt : t < (logC l).length := (List.getElem?_eq_some_iff.1 hu).1
        rw [logC_len] at hlt
        obtain ⟨x, hx⟩ : ∃ x, l[t / 6]? = some x := ⟨_, List.getElem?_eq_getElem (by omega)⟩
        have g := logC_get l (t / 6) x hx (t % 6) (by omega)
        have e : t / 6 * 6 + t % 6 = t := by omega
        rw [e, hu] at g
        have h1 := (hz (t / 6) x hx).2 (t % 6) (by omega)
        rw [e] at h1
        have e' : (⟨b, off, none⟩ : Addr).add t = ⟨b, off + t, none⟩ := by
          unfold Addr.add
          split
          · rename_i h; subst h; rfl
          · rfl
        rw [e'] at h1
        rw [h1]
        exact g.symm
end

end Go.Proofs.YtojlaphklkomfaaDoor
