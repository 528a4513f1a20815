/- slices.Compact at values: structs of two numbers. -/
import Derived.Test.YtclikdibpeiamabVSort
import Derived.Lib.SliceRun
import Derived.Deep.LoopGhost
set_option linter.unusedVariables false
set_option linter.unusedSimpArgs false
namespace Go.Proofs.Ytclikdibpeiamab
open Go.RowKit Go.Sort
open Go.Lib hiding intOf
attribute [local go_sem ↓] Go.wp_at_zero Go.wp_at_succ

def encP (x : Int × Int) : List Value := [.int .i64 x.1, .int .i64 x.2]
theorem cellsP {w : World} {g : Nat} {d : Array (Int × Int)} (h : HoldsK encP 2 w g 0 d) {i : Nat} (hi : i < d.size) :
    w.cell? ⟨g, i * 2, none⟩ = some (.int .i64 (d[i]!).1) ∧ w.cell? ⟨g, i * 2 + 1, none⟩ = some (.int .i64 (d[i]!).2) ∧ w.frozen? ⟨g, i * 2, none⟩ = false ∧ w.frozen? ⟨g, i * 2 + 1, none⟩ = false := by
  have h0 := h.cell (i := i) (c := 0) hi (by omega)
  have h1 := h.cell (i := i) (c := 1) hi (by omega)
  rw [Nat.zero_add] at h0 h1
  exact ⟨h0.1, h1.1, h0.2, h1.2⟩
theorem setMany_one (d : Array (Int × Int)) (i : Nat) (u : Int × Int) (hi : i < d.size) : setMany (flatK encP 2 d) (i * 2) (encP u) = flatK encP 2 (d.setIfInBounds i u) := by
  refine ext_get! (by simp) fun t ht => ?_
  have ht' : t < d.size * 2 := by simpa using ht
  rw [get_setMany _ _ _ t (by simpa using ht'), get_flatK _ _ _ t ht', get_flatK _ _ _ t (by simpa using ht')]
  by_cases a : i * 2 ≤ t ∧ t < i * 2 + (encP u).length
  · have hl : (encP u).length = 2 := rfl
    rw [hl] at a
    rw [if_pos (by rw [hl]; exact a), show t / 2 = i by omega, getElem!_set_same d i _ hi, show t - i * 2 = t % 2 by omega]
  · have hl : (encP u).length = 2 := rfl
    rw [hl] at a
    rw [if_neg (by rw [hl]; exact a), getElem!_set_other d i (t / 2) _ (by omega)]
theorem store_worldP {w wr : World} {q g : Nat} {dk : Array (Int × Int)} {i : Nat} (hi : i < dk.size) (hwr : wr = putRowK encP 2 (Sort.ahead w q) g 0 dk) (u : Int × Int) :
    wr.setCells g (i * 2) (encP u) = putRowK encP 2 (Sort.ahead w q) g 0 (dk.setIfInBounds i u) := by
  subst hwr
  unfold putRowK
  have h := setCells_putRow (Sort.ahead w q) g 0 (encP u) (i * 2) (flatK encP 2 dk) (by rw [size_flatK]; show i * 2 + 2 ≤ _; omega)
  rw [Nat.zero_add] at h
  rw [h, setMany_one dk i u hi]

/-- clear at two cells: so many cells are written. -/
theorem run_clear2 {P : Program} (w : World) (t e ty : TypeId) (z z0 z1 : Value) (ht : P.underlying t = some (.slice e)) (hv : ∀ w, (zeroValue e).run P w = .ok z w) (hz : z.cells = #[z0, z1]) (h0 : z0.oneCell' = true) (h1 : z1.oneCell' = true) (b o n c : Nat) (hn : 0 < n)
    (hc : ∀ j, j < n * 2 → (w.cell? ⟨b, o + j, none⟩).isSome = true) (hf : ∀ j, j < n * 2 → w.frozen? ⟨b, o + j, none⟩ = false) :
    (Builtin.clear_ #[t] ty #[.slice (some ⟨b, o, none⟩) n c]).run P w = .ok (.tuple #[]) (w.setCells b o (Builtin.zeroCells z.cells n).toList) ∧ (Builtin.zeroCells z.cells n).toList.length = n * 2 := by
  have hlen : (Builtin.zeroCells z.cells n).toList.length = n * 2 := by
    rw [hz]
    simp [Builtin.zeroCells]
    try omega
  have hone : ∀ v ∈ (Builtin.zeroCells z.cells n).toList, v.oneCell' = true := by
    intro v hv
    rw [hz] at hv
    simp [Builtin.zeroCells] at hv
    obtain ⟨i, hi, rfl⟩ := hv
    rcases Nat.mod_two_eq_zero_or_one i with h2 | h2
    · simp [h2, h0]
    · simp [h2, h1]
  refine ⟨?_, hlen⟩
  have hst := Go.run_storeCells_cells (P := P) b o (Builtin.zeroCells z.cells n).toList 0 w (by rw [hlen]; simpa using hc) (by rw [hlen]; simpa using hf) hone
  simp only [Nat.add_zero] at hst
  obtain ⟨m, rfl⟩ : ∃ m, n = m + 1 := ⟨n - 1, by omega⟩
  simp [Builtin.clear_, run_underlying ht, hv, hst]

end Go.Proofs.Ytclikdibpeiamab
