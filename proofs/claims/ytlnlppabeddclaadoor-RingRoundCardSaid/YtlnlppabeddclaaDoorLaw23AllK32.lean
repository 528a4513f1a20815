/- Parts. -/
import Derived.Test.YtlnlppabeddclaaDoorLaw23AllK6
import Derived.Maps.OwnSet
import Derived.Maps.RangeWalk
set_option maxRecDepth 10000
set_option maxHeartbeats 16000000
set_option linter.unusedVariables false
set_option linter.unusedSimpArgs false
namespace Go.Proofs.YtlnlppabeddclaaDoor
open Go.RowKit
section
variable {H : Type} {P : Program} {w w' : World} {k : TypeId} {R : Value → Option (DataW H × List MemPlace)} {b n r : Nat} {D : DataW H} {S : List Nat}
theorem ownsMap_blt (h : w.ownsMap P k R b n D) : b < w.heap.size := by
 obtain ⟨es, clock, h1, -⟩ := h;exact (Array.getElem?_eq_some_iff.1 h1).1
theorem ownsMap_only (h : w.ownsMap P k R b n D) (ho : Only S w w') (hb : b ∉ S) : w'.ownsMap P k R b n D := by
 have hlt := ownsMap_blt h;obtain ⟨es, clock, h1, h2⟩ := h;exact ⟨es, clock, (ho.keeps b hlt hb).trans h1, h2⟩
variable {left : Lit → Bool} {cnt : Nat}
end
end Go.Proofs.YtlnlppabeddclaaDoor
