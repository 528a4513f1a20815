/- Parts. -/
import Derived.Test.YtgimobilcdkmpaaDoorBitsPlaysCardK7
import Derived.LaidMore
import Derived.Lib.LaidTab
import Derived.Stop.Joined
import Derived.JoinedOf
set_option maxRecDepth 10000
set_option maxHeartbeats 16000000
set_option linter.unusedVariables false
set_option linter.unusedSimpArgs false
namespace Go.Proofs.YtgimobilcdkmpaaDoor
open Go.ChangeShapes Go.WideShapes Go.ChangeAt Go.RowKit
def laidL : List (String × DataW Unit) := [("math/bits.deBruijn64tab", Rows.laid_math_bits_deBruijn64tab)]
def doorSteps : Nat := 14
theorem gTab : Tryd.prog.globalNamed "math/bits.deBruijn64tab" = some 0 := by kernel_rfl
theorem tTab : (Tryd.prog.globals[0]?).map (·.type) = some 57 := by kernel_rfl
theorem door_met (os : Os) (args : Array Value) : laidMetH Tryd.prog laidL ((World.doorLaid Tryd.prog doorSteps os).forCall (fun _ _ => 0) ⟨#[], args, []⟩).memory :=
 laidMetH_of_parts3 (fuel := 8) (laidMet_of_run' 8 (by kernel_rfl) (by kernel_rfl)) (by kernel_rfl) (by kernel_rfl)
theorem tab_of_laid {W : World} (h : laidMetH Tryd.prog laidL W) : Tab W ∧ 0 < W.heap.size := by
 rw [MakeChecks.laidMetH_plain _ _ _ (by kernel_rfl)] at h;have hd : (laidL : List (String × DataW Unit)) = [("math/bits.deBruijn64tab", Lib.tabData .u8 (Lib.deBruijn64tab.map Int.ofNat))] := by rfl
 rw [hd] at h;have ht := Lib.tabIs_of_head gTab tTab Tryd.underlying57 Tryd.underlying5 (by kernel_rfl) (by kernel_rfl) h;have hc : ∀ k, k < 64 → W.cell? ⟨0, k, none⟩ = some (.int .u8 ((Lib.deBruijn64tab.getD k 0 : Nat) : Int)) := fun k hk => by
  have hl : Lib.deBruijn64tab.length = 64 := by decide
  have := ht.cell gTab k (by rw [List.length_map, hl]; exact hk);rw [this]
  congr 2
  simp only [List.getD_eq_getElem?_getD, List.getElem?_map];rw [List.getElem?_eq_getElem (by rw [hl]; exact hk)]
  rfl
 exact ⟨hc, World.block_lt_of_cell? W _ (hc 0 (by omega))⟩
end Go.Proofs.YtgimobilcdkmpaaDoor
