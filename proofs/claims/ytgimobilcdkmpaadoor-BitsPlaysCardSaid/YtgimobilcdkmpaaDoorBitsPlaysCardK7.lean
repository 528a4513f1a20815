/- Parts. -/
import Derived.Test.YtgimobilcdkmpaaDoorBitsPlaysCardK5
set_option maxRecDepth 10000
set_option maxHeartbeats 16000000
set_option linter.unusedVariables false
set_option linter.unusedSimpArgs false
namespace Go.Proofs.YtgimobilcdkmpaaDoor
open Go.RowKit
def Tab (w : World) : Prop := ∀ k, k < 64 → w.cell? ⟨0, k, none⟩ = some (.int .u8 ((Lib.deBruijn64tab.getD k 0 : Nat) : Int))
theorem wrap_negn (x : Nat) (h0 : 0 < x) (hx : x < 18446744073709551616) : IntKind.u64.wrap (-(x : Int)) = ((18446744073709551616 - x : Nat) : Int) := by
 simp only [IntKind.wrap, IntKind.bits, IntKind.signed];simp;omega
theorem wrap_nat (x : Nat) : IntKind.u64.wrap (x : Int) = ((x % 18446744073709551616 : Nat) : Int) := by
 simp only [IntKind.wrap, IntKind.bits, IntKind.signed];simp
theorem tz_idx (x : Nat) (h0 : 0 < x) (hx : x < 18446744073709551616) :
  ∃ k : Nat, k < 64 ∧ (IntKind.u64.wrap (bits .and .u64 (x : Int) (IntKind.u64.wrap (-(x : Int))) * 285870213051353865) / 288230376151711744) = (k : Int) ∧ Lib.deBruijn64tab.getD k 0 = Lib.ctz 64 x ∧ Lib.ctz 64 x < 64 := by
 obtain ⟨e1, e2⟩ := Lib.lowest_bit 64 x (by omega) hx;obtain ⟨d1, d2⟩ := Lib.deBruijn64_at (Lib.ctz 64 x) e2;refine ⟨_, d1, ?_, d2, e2⟩;rw [wrap_negn x h0 hx, u64_and_nat x _ hx (by omega), show (18446744073709551616 : Nat) - x = 2 ^ 64 - x from rfl, e1];rw [show (((2 ^ Lib.ctz 64 x : Nat) : Int) * 285870213051353865) = ((2 ^ Lib.ctz 64 x * 285870213051353865 : Nat) : Int) by simp, wrap_nat];generalize 2 ^ Lib.ctz 64 x * 285870213051353865 % 18446744073709551616 = q;omega
theorem tz_pos (x : Nat) (w : World) (h0 : 0 < x) (hx : x < 18446744073709551616) (hT : Tab w) :
  Calls Tryd.prog 30 #[.int .u64 x] w fun e w' => e = .returned (.int .i64 (Lib.ctz 64 x : Nat)) ∧ w = w' := by
 have hz : ((x : Int) == 0) = false := by simp; omega
 obtain ⟨k, hk, he, ht, hlt⟩ := tz_idx x h0 hx;have hcell : w.cell? ⟨0, (IntKind.u64.wrap (bits .and .u64 (x : Int) (IntKind.u64.wrap (-(x : Int))) * 285870213051353865) / 288230376151711744).toNat, none⟩ = some (.int .u8 ((Lib.ctz 64 x : Nat) : Int)) := by
  rw [he, Int.toNat_natCast, hT k hk, ht]
 have hb0 : 0 ≤ (IntKind.u64.wrap (bits .and .u64 (x : Int) (IntKind.u64.wrap (-(x : Int))) * 285870213051353865) / 288230376151711744) := by rw [he]; omega
 have hb1 : (IntKind.u64.wrap (bits .and .u64 (x : Int) (IntKind.u64.wrap (-(x : Int))) * 285870213051353865) / 288230376151711744) < 64 := by rw [he]; omega
 have hl : ((Lib.ctz 64 x : Nat) : Int) < 64 := by omega
 clear he ht hT hk;generalize Lib.ctz 64 x = c at *;go_enter Tryd.func30, Tryd.ntmps30;go_wp2
 go_ret
 exact ⟨rfl, rfl⟩
theorem Tab.only {w w' : World} (h : Tab w) (h0 : 0 < w.heap.size) {S : List Nat} (ho : Only S w w') (hS : 0 ∉ S) : Tab w' := fun k hk => by
 rw [ho.cell (p := ⟨0, k, none⟩) h0 hS];exact h k hk
end Go.Proofs.YtgimobilcdkmpaaDoor
