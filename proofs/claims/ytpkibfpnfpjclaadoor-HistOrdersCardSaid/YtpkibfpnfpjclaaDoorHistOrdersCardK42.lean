/- Ops compared in one step. -/
import Derived.Test.YtpkibfpnfpjclaaDoorHistOrdersCardK5
import Derived.Laws.StructEq
set_option linter.unusedVariables false
set_option linter.unusedSimpArgs false
namespace Go.Proofs.YtpkibfpnfpjclaaDoor
open Go.RowKit

deriving instance DecidableEq for Op4, Tx, Hst
def neqOp (xw : Bool) (xk xv xn : Int) (yw : Bool) (yk yv yn : Int) : Bool := !(decide (Op4.mk xw xk xv xn = Op4.mk yw yk yv yn))
theorem run_neq_op4 (xw yw : Bool) (xk xv xn yk yv yn : Int) (w : World) :
    (binOp .neq 56 (.agg #[.bool xw, .int .i64 xk, .int .i64 xv, .int .i64 xn]) (.agg #[.bool yw, .int .i64 yk, .int .i64 yv, .int .i64 yn])).run Tryd.prog w = .ok (.bool (neqOp xw xk xv xn yw yk yv yn)) w := by
  unfold neqOp
  by_cases h0 : xw = yw
  · subst h0
    by_cases h1 : xk = yk
    · subst h1
      by_cases h2 : xv = yv
      · subst h2
        by_cases h3 : xn = yn
        · subst h3
          go_simp
        · have e : (xn == yn) = false := by simpa using h3
          rw [decide_eq_false (by simpa using h3)]
          go_simp
      · have e : (xv == yv) = false := by simpa using h2
        rw [decide_eq_false (by intro e; injection e; contradiction)]
        go_simp
    · have e : (xk == yk) = false := by simpa using h1
      rw [decide_eq_false (by intro e; injection e; contradiction)]
      go_simp
  · have e : (xw == yw) = false := by simpa using h0
    rw [decide_eq_false (by intro e; injection e; contradiction)]
    go_simp

end Go.Proofs.YtpkibfpnfpjclaaDoor
