/- Structs by value that came in. -/
import Derived.Test.YtbenjknaklafmaaDoorRow
import Derived.Lib.SmallJoins
set_option linter.unusedVariables false
set_option linter.unusedSimpArgs false
namespace Go.Proofs.YtbenjknaklafmaaDoor
open Go.RowKit Go.ChangeShapes Go.WideShapes Go.ChangeAt Go.Joins Go.Deep

section
variable {H : Type} {enc : TypeId × Value → H} {P : Program} {w : World}
/-- A struct of two numbers by value. -/
theorem open_pair {r : Reach} {b0 : Nat} {t ta tb : TypeId} {f0 f1 : Field} {v : Value} {d : DataW H} {p : List MemPlace} (hs : P.underlying t = some (.struct #[f0, f1])) (hone : oneCellFields P #[f0, f1] = true) (hC : P.cellsOf t = 2)
    (ha : f0.type = ta) (hb : f1.type = tb) (hia : P.underlying ta = some (.int .i64)) (hib : P.underlying tb = some (.int .i64)) (hv : Value.okWide P w r b0 t v) (h : DataW.Trod enc P w 0 (fun _ => true) true t v d p) :
    ∃ a b : Int, v = .agg #[.int .i64 a, .int .i64 b] ∧ (Lit.int .i64 a).wf = true ∧ (Lit.int .i64 b).wf = true := by
  obtain ⟨v0, v1, y0, y1, n, rfl, _, _, g0, g1⟩ := Go.Joins.open_agg2 hs hone hC hv h
  rw [ha] at g0
  rw [hb] at g1
  obtain ⟨z0, e0, -, w0⟩ := DataW.trod_int hia g0
  obtain ⟨z1, e1, -, w1⟩ := DataW.trod_int hib g1
  simp at e0 e1
  subst e0
  subst e1
  exact ⟨z0, z1, rfl, w0, w1⟩
end

end Go.Proofs.YtbenjknaklafmaaDoor
