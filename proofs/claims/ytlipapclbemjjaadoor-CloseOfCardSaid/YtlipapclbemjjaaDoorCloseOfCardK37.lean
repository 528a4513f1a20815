/- base.HasInt. The document's Round: does a graph go round? -/
import Derived.Test.YtlipapclbemjjaaDoorCloseOfCardK2
import Derived.Test.YtlipapclbemjjaaDoorCloseOfCardK3
import Derived.Test.YtlipapclbemjjaaDoorCloseOfCardK34
set_option linter.unusedVariables false
set_option linter.unusedSimpArgs false
namespace Go.Proofs.YtlipapclbemjjaaDoor
open Go.RowKit
open Go.Lib
attribute [local go_sem ↓] Go.wp_at_zero Go.wp_at_succ
end Go.Proofs.YtlipapclbemjjaaDoor

set_option linter.unusedVariables false
set_option linter.unusedSimpArgs false
namespace Go.Proofs.YtlipapclbemjjaaDoor
open Go.RowKit
attribute [local go_sem ↓] Go.wp_at_zero Go.wp_at_succ
def roundTo (n : Nat) (h : List (Int × Int)) (k : Nat) : Bool := (List.range k).any fun a => wayB n h a a
theorem roundTo_succ (n : Nat) (h : List (Int × Int)) (k : Nat) : roundTo n h (k + 1) = (roundTo n h k || wayB n h k k) := by
 unfold roundTo
 rw [List.range_succ, List.any_append]
 simp
theorem roundTo_true {n : Nat} {h : List (Int × Int)} {k : Nat} (hk : k < n) (hw : wayB n h k k = true) : roundB n h = true := List.any_eq_true.2 ⟨k, List.mem_range.2 hk, hw⟩
end Go.Proofs.YtlipapclbemjjaaDoor
