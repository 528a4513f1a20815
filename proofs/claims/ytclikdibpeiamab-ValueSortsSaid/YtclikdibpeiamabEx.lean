/- What a call leaves of the world when it changes nothing that was there and winds the tape not back: some draws, some new blocks. -/
import Derived.Test.YtclikdibpeiamabBase
import Derived.Test.YtclikdibpeiamabRow
import Derived.Sort.Grow
set_option linter.unusedVariables false
set_option linter.unusedSimpArgs false
namespace Go.Proofs.Ytclikdibpeiamab
open Go.RowKit

/-- Nothing that was there is changed, and the tape is not wound back. -/
structure Ex (w w' : World) : Prop where
  only : Only [] w w'
  drawn : w.drawn ≤ w'.drawn
section
variable {w w' w'' : World}
theorem Ex.refl (w : World) : Ex w w := ⟨Only.refl [] w, Nat.le_refl _⟩
theorem Ex.trans (h : Ex w w') (k : Ex w' w'') : Ex w w'' := ⟨h.only.trans k.only, Nat.le_trans h.drawn k.drawn⟩
theorem Ex.alloc (h : Ex w w') (o : Obj) : Ex w (w'.alloc o) := ⟨h.only.alloc o, h.drawn⟩
theorem Ex.drewN (h : Ex w w') (n : Nat) : Ex w (w'.drewN n) := ⟨h.only.drewN n, Nat.le_trans h.drawn (by show w'.drawn ≤ w'.drawn + n; omega)⟩
theorem Ex.drew (h : Ex w w') : Ex w w'.drew := ⟨h.only.drew, Nat.le_trans h.drawn (by show w'.drawn ≤ w'.drawn + 1; omega)⟩
theorem Ex.put (h : Ex w w') {p : Addr} (hp : p.block < w.heap.size → p.block ∈ ([] : List Nat)) (u : Value) : Ex w (w'.setCell p u) := ⟨h.only.put hp u, h.drawn⟩
theorem Ex.blk {g : Nat} {t : TypeId} {cs : Array Value} (h : Ex w w') (hb : Blk w g t cs) (hg : g ∉ ([] : List Nat)) : Blk w' g t cs := h.only.blk hb hg
theorem Ex.size (h : Ex w w') : w.heap.size ≤ w'.heap.size := h.only.size
end
/-- Just so: some draws, some new blocks. -/
theorem Ex.grown {w w' : World} (h : Ex w w') : ∃ q os, w' = Go.Sort.grow (w.drewN q) os := by
  have hb : Below w.heap.size w w' := h.only.below (Nat.le_refl _) (by simp)
  refine ⟨w'.drawn - w.drawn, w'.heap.extract w.heap.size w'.heap.size, ?_⟩
  have hd := h.drawn
  obtain ⟨heap', tape', drawn', os', output'⟩ := w'
  have e1 : os' = w.os := hb.os
  have e2 : tape' = w.tape := hb.tape
  have e3 : output' = w.output := hb.output
  have hs : w.heap.size ≤ heap'.size := hb.size
  have hk' : ∀ k, k < w.heap.size → heap'[k]? = w.heap[k]? := hb.block
  have hd' : w.drawn ≤ drawn' := hd
  subst e1 e2 e3
  have eh : heap' = w.heap ++ heap'.extract w.heap.size heap'.size := by
    apply Array.ext_getElem?
    intro k
    by_cases hk : k < w.heap.size
    · rw [Array.getElem?_append_left hk]; exact hk' k hk
    · rw [Array.getElem?_append_right (by omega), Array.getElem?_extract]
      by_cases hk2 : k < heap'.size
      · rw [if_pos (by omega)]; congr 1; omega
      · rw [if_neg (by omega), Array.getElem?_eq_none (by omega)]
  have ed : w.drawn + (drawn' - w.drawn) = drawn' := by omega
  simp only [Go.Sort.grow, World.drewN, ed]
  congr 1

end Go.Proofs.Ytclikdibpeiamab
