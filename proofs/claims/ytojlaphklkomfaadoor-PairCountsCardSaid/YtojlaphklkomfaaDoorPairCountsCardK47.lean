/- An event that came in by value: a number, two texts, a struct of two numbers, a number. -/
import Derived.Test.YtojlaphklkomfaaDoorPairCountsCardK3
import Derived.Lib.SmallJoins
set_option linter.unusedVariables false
set_option linter.unusedSimpArgs false
namespace Go.Proofs.YtojlaphklkomfaaDoor
open Go.RowKit Go.ChangeShapes Go.WideShapes Go.ChangeAt Go.Joins Go.Deep

section
variable {H : Type} {enc : TypeId × Value → H} {P : Program} {w : World}
theorem event_cells {fuel : Nat} {t ti ts tv tj : TypeId} {f0 f1 f2 f3 f4 g0 g1 : Field} {cs : List Value} {x : DataW H × List MemPlace}
    (hs : P.underlying t = some (.struct #[f0, f1, f2, f3, f4])) (hvs : P.underlying tv = some (.struct #[g0, g1])) (hC : P.cellsOf t = 6)
    (hi : P.underlying ti = some (.int .i64)) (hj : P.underlying tj = some (.int .i64)) (hst : P.underlying ts = some .string) (ci : P.cellsOf ti = 1) (cj : P.cellsOf tj = 1) (cst : P.cellsOf ts = 1) (cv : P.cellsOf tv = 2)
    (e0 : f0.type = ti ∧ f0.offset = 0) (e1 : f1.type = ts ∧ f1.offset = 1) (e2 : f2.type = ts ∧ f2.offset = 2) (e3 : f3.type = tv ∧ f3.offset = 3) (e4 : f4.type = ti ∧ f4.offset = 5)
    (q0 : g0.type = ti ∧ g0.offset = 0) (q1 : g1.type = tj ∧ g1.offset = 1) (h : DataW.trod enc P w 0 (fun _ => true) true fuel t cs = some x) :
    ∃ (k : Int) (s y : ByteArray) (vk vn ln : Int), cs = [.int .i64 k, .string s, .string y, .int .i64 vk, .int .i64 vn, .int .i64 ln] ∧ s.size ≤ maxLen ∧ y.size ≤ maxLen ∧ (Lit.int .i64 vn).wf = true ∧
      (Lit.int .i64 k).wf = true ∧ (Lit.int .i64 vk).wf = true ∧ (Lit.int .i64 ln).wf = true := by
  obtain ⟨xs, n, _, rfl, hl, hlen, hf⟩ := DataW.trod_struct hs h
  rw [hC] at hl
  match cs, hl with
  | [c0, c1, c2, c3, c4, c5], _ =>
    have h0 := hf 0 f0 rfl
    have h1 := hf 1 f1 rfl
    have h2 := hf 2 f2 rfl
    have h3 := hf 3 f3 rfl
    have h4 := hf 4 f4 rfl
    rw [e0.1, e0.2, ci] at h0
    rw [e1.1, e1.2, cst] at h1
    rw [e2.1, e2.2, cst] at h2
    rw [e3.1, e3.2, cv] at h3
    rw [e4.1, e4.2, ci] at h4
    match xs, hlen with
    | [y0, y1, y2, y3, y4], _ =>
      obtain ⟨k, a0, -, wk⟩ := DataW.trod_int hi (by simpa using h0)
      obtain ⟨s, a1, -, ws⟩ := DataW.trod_string hst (by simpa using h1)
      obtain ⟨y, a2, -, wy⟩ := DataW.trod_string hst (by simpa using h2)
      obtain ⟨z0, z1, m, -, -, g3, g4⟩ := trod_struct2 hvs (by simpa using h3)
      rw [q0.1, q0.2, ci] at g3
      rw [q1.1, q1.2, cj] at g4
      obtain ⟨vk, a3, -, wvk⟩ := DataW.trod_int hi (by simpa using g3)
      obtain ⟨vn, a4, -, wvn⟩ := DataW.trod_int hj (by simpa using g4)
      obtain ⟨ln, a5, -, wl⟩ := DataW.trod_int hi (by simpa using h4)
      simp at a0 a1 a2 a3 a4 a5
      subst a0 a1 a2 a3 a4 a5
      exact ⟨k, s, y, vk, vn, ln, rfl, ws, wy, wvn, wk, wvk, wl⟩

theorem open_event {r : Reach} {b0 : Nat} {t ti ts tv tj : TypeId} {f0 f1 f2 f3 f4 g0 g1 : Field} {v : Value} {d : DataW H} {p : List MemPlace}
    (hs : P.underlying t = some (.struct #[f0, f1, f2, f3, f4])) (hvs : P.underlying tv = some (.struct #[g0, g1])) (hC : P.cellsOf t = 6)
    (hi : P.underlying ti = some (.int .i64)) (hj : P.underlying tj = some (.int .i64)) (hst : P.underlying ts = some .string) (ci : P.cellsOf ti = 1) (cj : P.cellsOf tj = 1) (cst : P.cellsOf ts = 1) (cv : P.cellsOf tv = 2)
    (e0 : f0.type = ti ∧ f0.offset = 0) (e1 : f1.type = ts ∧ f1.offset = 1) (e2 : f2.type = ts ∧ f2.offset = 2) (e3 : f3.type = tv ∧ f3.offset = 3) (e4 : f4.type = ti ∧ f4.offset = 5)
    (q0 : g0.type = ti ∧ g0.offset = 0) (q1 : g1.type = tj ∧ g1.offset = 1) (hv : Value.okWide P w r b0 t v) (h : DataW.Trod enc P w 0 (fun _ => true) true t v d p) :
    ∃ (k : Int) (s y : ByteArray) (vk vn ln : Int), v = .agg #[.int .i64 k, .string s, .string y, .int .i64 vk, .int .i64 vn, .int .i64 ln] ∧ s.size ≤ maxLen ∧ y.size ≤ maxLen ∧ (Lit.int .i64 vn).wf = true := by
  obtain ⟨cs, rfl, hsz⟩ := okWide_struct hs hv
  obtain ⟨fuel, hf⟩ := h
  obtain ⟨k, s, y, vk, vn, ln, hcs, h1, h2, h3, -⟩ := event_cells hs hvs hC hi hj hst ci cj cst cv e0 e1 e2 e3 e4 q0 q1 hf
  refine ⟨k, s, y, vk, vn, ln, ?_, h1, h2, h3⟩
  have : (Value.agg cs).cells.toList = cs.toList := by simp [Value.cells]
  have e : cs.toList = [.int .i64 k, .string s, .string y, .int .i64 vk, .int .i64 vn, .int .i64 ln] := by simpa [Value.cells] using hcs
  have e2 : cs = #[.int .i64 k, .string s, .string y, .int .i64 vk, .int .i64 vn, .int .i64 ln] := by rw [← e]
  rw [e2]
end

end Go.Proofs.YtojlaphklkomfaaDoor
