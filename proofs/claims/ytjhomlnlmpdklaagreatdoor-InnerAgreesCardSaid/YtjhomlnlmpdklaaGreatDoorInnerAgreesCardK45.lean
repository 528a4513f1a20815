/- The document's inner: Leaves. The document's inner: there. The document's inner: Own. A region that draws its order: several operations may come up next; what comes behind some of them is shown once, in whatever order they came up. The document's inner: Bad. The document's inner: Writers. A history that is not too great: the law's Few, and that it is one of its own. -/
import Derived.Test.YtjhomlnlmpdklaaGreatDoorInnerAgreesCardK31
import Derived.Test.YtjhomlnlmpdklaaGreatDoorInnerAgreesCardK36
import Derived.Test.YtjhomlnlmpdklaaGreatDoorInnerAgreesCardK44
import Derived.Test.YtjhomlnlmpdklaaGreatDoorInnerAgreesCardK10
import Derived.Test.YtjhomlnlmpdklaaGreatDoorInnerAgreesCardK3
import Derived.Test.YtjhomlnlmpdklaaGreatDoorInnerAgreesCardK19
import Derived.Test.YtjhomlnlmpdklaaGreatDoorInnerAgreesCardK26
import Derived.Test.YtjhomlnlmpdklaaGreatDoorInnerAgreesCardK14
set_option linter.unusedVariables false
set_option linter.unusedSimpArgs false
namespace Go.Proofs.YtjhomlnlmpdklaaGreatDoor
open Go.RowKit
open Go.Lib hiding intOf
attribute [local go_sem ↓] Go.wp_at_zero Go.wp_at_succ
end Go.Proofs.YtjhomlnlmpdklaaGreatDoor

set_option linter.unusedVariables false
set_option linter.unusedSimpArgs false
namespace Go.Proofs.YtjhomlnlmpdklaaGreatDoor
open Go.RowKit
open Go.Lib hiding intOf
attribute [local go_sem ↓] Go.wp_at_zero Go.wp_at_succ
end Go.Proofs.YtjhomlnlmpdklaaGreatDoor

set_option linter.unusedVariables false
set_option linter.unusedSimpArgs false
namespace Go.Proofs.YtjhomlnlmpdklaaGreatDoor
open Go.RowKit
open Go.Lib hiding intOf
attribute [local go_sem ↓] Go.wp_at_zero Go.wp_at_succ
end Go.Proofs.YtjhomlnlmpdklaaGreatDoor

set_option linter.unusedVariables false
set_option linter.unusedSimpArgs false
namespace Go.Proofs.YtjhomlnlmpdklaaGreatDoor
open Go.RowKit
section
variable {P : Program} {ops : Array Oper} {Q : Exit → Act → World → Prop} {md : Region.Mode} {S : Array Bool → World → Prop}
end
section
variable {G : Prop}
end
end Go.Proofs.YtjhomlnlmpdklaaGreatDoor

set_option linter.unusedVariables false
set_option linter.unusedSimpArgs false
namespace Go.Proofs.YtjhomlnlmpdklaaGreatDoor
open Go.RowKit
open Go.Lib hiding intOf
attribute [local go_sem ↓] Go.wp_at_zero Go.wp_at_succ
end Go.Proofs.YtjhomlnlmpdklaaGreatDoor

set_option linter.unusedVariables false
set_option linter.unusedSimpArgs false
namespace Go.Proofs.YtjhomlnlmpdklaaGreatDoor
open Go.RowKit
open Go.Lib hiding intOf
attribute [local go_sem ↓] Go.wp_at_zero Go.wp_at_succ
end Go.Proofs.YtjhomlnlmpdklaaGreatDoor

set_option linter.unusedVariables false
set_option linter.unusedSimpArgs false
namespace Go.Proofs.YtjhomlnlmpdklaaGreatDoor
open Go.RowKit
open Go.Lib hiding intOf
def short11 (s : ByteArray) : ByteArray := s.extract 0 (min s.size 100)
theorem short11_size (s : ByteArray) : (short11 s).size ≤ 100 := by
 unfold short11
 rw [ByteArray.size_extract]
 omega
def fewTx (t : Tx) : Tx := { t with ops := t.ops.take 25 }
def fewH (h : Hst) : Hst := ⟨(h.ss.take 25).map short11, (h.ks.take 45).map short11, (h.l.take 45).map fewTx⟩
theorem few_small (h : Hst) : HSmall (fewH h) where
 s := fun x hx => by
  obtain ⟨y, -, rfl⟩ := List.mem_map.1 hx
  have := short11_size y
  omega
 k := fun x hx => by
  obtain ⟨y, -, rfl⟩ := List.mem_map.1 hx
  have := short11_size y
  omega
 ns := by unfold fewH; dsimp only; rw [List.length_map, List.length_take]; omega
 nk := by unfold fewH; dsimp only; rw [List.length_map, List.length_take]; omega
 nl := by unfold fewH; dsimp only; rw [List.length_map, List.length_take]; omega
 no := fun t ht => by
  obtain ⟨y, -, rfl⟩ := List.mem_map.1 ht
  unfold fewTx
  dsimp only
  rw [List.length_take]
  omega
end Go.Proofs.YtjhomlnlmpdklaaGreatDoor
