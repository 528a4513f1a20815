/- Contracts of the package line: cut, Of, Runes. -/
import Derived.Test.YtpkibfpnfpjclaaDoorBase
import Derived.Test.YtpkibfpnfpjclaaDoorOwn
import Derived.Test.YtpkibfpnfpjclaaDoorShelf
import Derived.Test.YtpkibfpnfpjclaaDoorTextM
import Derived.Lib.OthersKept
import Derived.Laws.RangeString
import Derived.Laws.RangeAny
import Derived.Laws.Strings2
import Derived.WalkSmall
set_option linter.unusedVariables false
set_option linter.unusedSimpArgs false
namespace Go.Proofs.YtpkibfpnfpjclaaDoor
open Go.RowKit Go.Lib

theorem only_iter {w w' : World} {S : List Nat} (h : Only S w w') {k : Nat} (s : ByteArray) (pos : Nat) (hk : k < w.heap.size → k ∈ S) : Only S w (w'.iterAt k s pos) :=
  ⟨h.os, h.tape, h.output, by rw [iterAt_size]; exact h.size, fun i hi hs => by
    rw [iterAt_other w' k i s pos (fun e => hs (e ▸ hk (e ▸ hi)))]
    exact h.keeps i hi hs⟩
/-- A row is no text's place. -/
theorem own_iter {w : World} {base : Nat} {e : TypeId} {size : Nat} {v : Value} {n : Nat} {xs : List Value} (h : w.ownsRow base e size v n xs) {k : Nat} {s : ByteArray} {pos : Nat} (hk : w.heap[k]? = some (.stringIter s pos)) (pos' : Nat) : (w.iterAt k s pos').ownsRow base e size v n xs := by
  have hO : Only [k] w (w.iterAt k s pos') := only_iter (Only.refl [k] w) s pos' (by simp)
  refine own_only h hO (fun g hg hm => ?_)
  simp at hm
  subst hm
  obtain ⟨cur, hcur⟩ := own_blk h hg
  unfold Blk at hcur
  rw [hk] at hcur
  cases hcur
theorem tinfo_string : (Tryd.prog.info? 9).map (fun i => (i.zero, i.size, i.bytes)) = some (some (.string ⟨#[]⟩), 1, 16) := by kernel_rfl

def strs (xs : List ByteArray) : List Value := xs.map Value.string

end Go.Proofs.YtpkibfpnfpjclaaDoor
