/- utf8.DecodeRuneInString with its world to the draw. -/
import Derived.Test.YtojlaphklkomfaaDoorPairManyCardK21
set_option linter.unusedVariables false
set_option linter.unusedSimpArgs false
namespace Go.Proofs.YtojlaphklkomfaaDoor
open Go.RowKit
open Go.Lib hiding intOf
attribute [local go_sem ↓] Go.wp_at_zero Go.wp_at_succ

set_option maxHeartbeats 2000000 in
set_option maxRecDepth 100000 in
theorem slow_none (w : World) : Calls Tryd.prog 74 #[.string ⟨#[]⟩] w fun e w' => e = .returned (.tuple #[.int .i32 65533, .int .i64 0]) ∧ w = w' := by
  go_enter Tryd.func74, Tryd.ntmps74
  go_wp2
  go_ret2
  exact ⟨rfl, rfl⟩

set_option maxHeartbeats 2000000 in
theorem decode_ex (c : ByteArray) (w : World) (hT : UTabs w) :
    Calls Tryd.prog 61 #[.string c] w fun e w' => e = .returned (.tuple #[.int .i32 ((Lib.decodeGo c).1 : Nat), .int .i64 ((Lib.decodeGo c).2 : Nat)]) ∧ Ex w w' := by
  by_cases hce : c = ⟨#[]⟩
  · subst hce
    have HS' := Lib.hid (slow_none w)
    show Calls _ _ _ _ fun e w' => e = .returned (.tuple #[.int .i32 65533, .int .i64 0]) ∧ Ex w w'
    clear hT
    go_enter Tryd.func61, Tryd.ntmps61
    go_wp2_with fail
    refine (HS'.out).mono ?_
    rintro e w' ⟨rfl, rfl⟩
    go_wp2
    go_ret2
    exact ⟨rfl, Ex.refl _⟩
  · have h0 := size_ne hce
    have hz0 : (0 : Int) < (c.size : Int) := by omega
    have hne : c.toList.isEmpty = false := by
      rw [Lib.toList_data]
      cases hb : c.data.toList with
      | nil => exact absurd (by_inj (s := c) (t := ⟨#[]⟩) hb) hce
      | cons x t => rfl
    have hs0 := byte_get c 0 h0
    by_cases hb : (c.get! 0).toNat < 128
    · have hd : Lib.decodeGo c = ((c.get! 0).toNat, 1) := by
        unfold Lib.decodeGo
        rw [if_neg (by omega), Lib.decode_at, Nat.sub_zero, Nat.zero_add, Nat.zero_add, Nat.zero_add]
        exact dec_small hb
      rw [hd]
      generalize c.get! 0 = x0 at *
      have hlt : (x0.toNat : Int) < 128 := by omega
      clear hd hT hce
      go_enter Tryd.func61, Tryd.ntmps61
      go_wp2
      go_ret2
      exact ⟨rfl, Ex.refl _⟩
    · have HS := Lib.hid (slow_ex c w h0 (by omega) hT)
      generalize (Lib.decodeGo c).1 = r at *
      generalize (Lib.decodeGo c).2 = n at *
      generalize c.get! 0 = x0 at *
      have hlt : decide ((x0.toNat : Int) < 128) = false := decide_eq_false (by omega)
      clear hT hce
      go_enter Tryd.func61, Tryd.ntmps61
      go_wp2_with fail
      refine (HS.out).mono ?_
      rintro e w' ⟨rfl, hX⟩
      have HX := Lib.hid hX
      clear hX
      go_wp2
      go_ret2
      exact ⟨rfl, HX.out⟩


end Go.Proofs.YtojlaphklkomfaaDoor
