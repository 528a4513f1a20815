/- Contracts of utf8.ValidString and of line.Runes. -/
import Derived.Test.YtojlaphklkomfaaDoorPairManyCardK5
import Derived.OwnWalk
set_option linter.unusedVariables false
set_option linter.unusedSimpArgs false
namespace Go.Proofs.YtojlaphklkomfaaDoor
open Go.RowKit
open Go.Lib hiding intOf
attribute [local go_sem ↓] Go.wp_at_zero Go.wp_at_succ

def UTabs (w : World) : Prop := Lib.Utf8Tabs (Tryd.laysValid_ren.g 3) (Tryd.laysValid_ren.g 4) w
theorem UTabs.only {w w' : World} (h : UTabs w) (ho : Only [] w w') : UTabs w' := Utf8Tabs_below h (ho.below (Nat.le_refl _) (by simp))
theorem valid_any (x : ByteArray) (w : World) (hs : x.size ≤ 9223372036854775807) (hT : UTabs w) :
    Calls Tryd.prog 54 #[.string x] w fun e w' => e = .returned (.bool (validD (by_ x))) ∧ Only [] w w' := by
  have h : Calls Tryd.prog 54 #[.string x] w _ := Any.utf8_ValidString Tryd.laysValid x w hs hT
  exact h.mono fun e w' ⟨h1, h2⟩ => ⟨h1, Only.of_below h2 []⟩

end Go.Proofs.YtojlaphklkomfaaDoor
