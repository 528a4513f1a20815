/- Parts. -/
import Derived.Test.YtoojabllolnhnaaDoorRows
import Derived.WalkKit
import Derived.WalkSpells
import Derived.WalkLawsBesides
import Derived.ProofKit
import Derived.OpenShut
import Derived.Lib.Hide
import Derived.Deep.QuietTactic
import Derived.BigQuiet
import Derived.Deep.RegionHeld3
import Derived.Deep.DrawnRows
import Derived.Deep.AppendLies
import Derived.Deep.Draws
set_option maxRecDepth 10000
set_option maxHeartbeats 16000000
set_option linter.unusedVariables false
set_option linter.unusedSimpArgs false
namespace Go.Proofs.YtoojabllolnhnaaDoor
open Go.RowKit
/-! ### Blocks -/
section
variable {w w' : World} {g : Nat} {t : TypeId} {cs : Array Value}
end

/-! ### Frames -/
section
variable {S T : List Nat} {w w' w'' : World}
end

/-! ### Regions -/
section
variable {H : Type} {enc : TypeId × Value → H} {P : Program}
open Go.ChangeShapes
end
theorem aI {a b : Prop} (x : a) (y : b) : a ∧ b := ⟨x, y⟩
theorem Hd {p : Prop} (h : p) : Go.RowKit.Hid p := Lib.hid h
theorem Bk1 {w : World} {g : Nat} {t : TypeId} {cs : Array Value} (h : Blk w g t cs) (i : Nat) : g < w.heap.size ∧ w.cell? ⟨g, i, none⟩ = cs[i]? := ⟨h.lt, h.at_ i⟩
theorem Bk2 {w : World} {g : Nat} {t : TypeId} {cs : Array Value} (h : Blk w g t cs) : g < w.heap.size ∧ w.cell? ⟨g, 0, none⟩ = cs[0]? ∧ w.cell? ⟨g, 1, none⟩ = cs[1]? := ⟨h.lt, h.at_ 0, h.at_ 1⟩
theorem Bk3 {w : World} {g : Nat} {t : TypeId} {cs : Array Value} (h : Blk w g t cs) : g < w.heap.size ∧ w.cell? ⟨g, 0, none⟩ = cs[0]? ∧ w.cell? ⟨g, 1, none⟩ = cs[1]? ∧ w.cell? ⟨g, 2, none⟩ = cs[2]? := ⟨h.lt, h.at_ 0, h.at_ 1, h.at_ 2⟩
theorem tdy : ((∀ (α : Type) (xs : List α) (i : Nat) (h : i < xs.toArray.size), xs.toArray[i] = xs[i]'(by simpa using h)) ∧ (∀ (α : Type) (a : α) (l : List α), (a :: l)[0]'(by simp) = a) ∧ (∀ (α : Type) (a : α) (l : List α) (i : Nat) (h : i + 1 < (a :: l).length), (a :: l)[i + 1] = l[i]'(by simpa using h))) ∧ ((∀ (l : List Value) (i : Nat) (a : Value), l.toArray.setIfInBounds i a = (l.set i a).toArray) ∧ (∀ (a b : Value) (l : List Value), (a :: l).set 0 b = b :: l) ∧ (∀ (a b : Value) (l : List Value) (i : Nat), (a :: l).set (i + 1) b = a :: l.set i b)) := by
  refine ⟨⟨fun α xs i h => ?_, fun α a l => ?_, fun α a l i h => ?_⟩, fun l i a => ?_, fun a b l => ?_, fun a b l i => ?_⟩
  · rw [List.getElem_toArray]
  · rw [List.getElem_cons_zero]
  · rw [List.getElem_cons_succ]
  · rw [List.setIfInBounds_toArray]
  · rw [List.set_cons_zero]
  · rw [List.set_cons_succ]
theorem tdz : type_of% (And.intro @Act.put.eq_1 (And.intro @Act.put.eq_2 tdy)) := And.intro @Act.put.eq_1 (And.intro @Act.put.eq_2 tdy)
end Go.Proofs.YtoojabllolnhnaaDoor
