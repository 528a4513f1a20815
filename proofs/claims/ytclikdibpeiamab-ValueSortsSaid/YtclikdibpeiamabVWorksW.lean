/- The example of layer 5. -/
import Derived.Test.YtclikdibpeiamabVWorks
set_option linter.unusedVariables false
set_option linter.unusedSimpArgs false
namespace Go.Proofs.Ytclikdibpeiamab
open Go.RowKit

set_option maxHeartbeats 800000 in
theorem vworks_any (w : World) : Calls Try.prog 10 #[] w fun e w' => e = .returned (.bool true) ∧ Only [] w w' := by
  have h1 := fun w => vprint_any 2 0 w (by omega) (by omega)
  rw [show vText 2 0 = [63] from by decide, show vErr 2 0 = 0 from by decide] at h1
  have h2 := fun w => vparse_any ⟨#[45, 51]⟩ w (by decide)
  rw [show pvK (ByteArray.mk #[45, 51]).data.toList = 1 by decide +kernel, show pvN (ByteArray.mk #[45, 51]).data.toList = -3 by decide +kernel, show pvE (ByteArray.mk #[45, 51]).data.toList = 0 by decide +kernel] at h2
  have H1 := Lib.hid h1
  have H2 := Lib.hid h2
  clear h1 h2
  go_enter Try.func10, Try.ntmps10
  go_wp2_with fail
  refine (H1.out _).mono ?_
  rintro e w1 ⟨rfl, O1⟩
  go_wp2_with fail
  refine (H2.out _).mono ?_
  rintro e w2 ⟨rfl, O2⟩
  have HO := Lib.hid (O1.trans O2)
  have he : (ByteArray.mk #[63]).toList = [63] := by rw [Lib.toList_data]
  clear O1 O2
  go_wp2
  go_ret
  exact ⟨rfl, HO.out.alloc _⟩

end Go.Proofs.Ytclikdibpeiamab
