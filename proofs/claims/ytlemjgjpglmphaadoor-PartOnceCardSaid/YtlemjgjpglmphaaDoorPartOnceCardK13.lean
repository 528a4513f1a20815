/- Parts. -/
import Derived.Test.YtlemjgjpglmphaaDoorPartOnceCardK12
import Derived.Laws.MakeOwn
set_option maxRecDepth 10000
set_option maxHeartbeats 16000000
set_option linter.unusedVariables false
set_option linter.unusedSimpArgs false
namespace Go.Proofs.YtlemjgjpglmphaaDoor
open Go.RowKit
theorem gis_some (p : Nat) (m : Bool) (w : World) (h0 : w.cell? ⟨p, 0, none⟩ = some (.bool m)) : Calls Tryd.prog 39 #[.pointer (some ⟨p, 0, none⟩)] w fun e w' => e = .returned (.bool m) ∧ w = w' := by
 go_enter Tryd.func39, Tryd.ntmps39;go_wp2
 go_ret
 exact ⟨rfl, rfl⟩
def ndN (n : Nat) (a : Int) : Bool := decide (0 ≤ a ∧ a < n)
theorem gnode_yes (p : Nat) (A : Option Addr) (n c : Nat) (a : Int) (w : World) (h0 : w.cell? ⟨p, 0, none⟩ = some (.bool true)) (h1 : w.cell? ⟨p, 1, none⟩ = some (.slice A n c)) :
  Calls Tryd.prog 36 #[.pointer (some ⟨p, 0, none⟩), .int .i64 a] w fun e w' => e = .returned (.bool (ndN n a)) ∧ w = w' := by
 have HIS := Hd (fun W (H : W.cell? ⟨p, 0, none⟩ = some (.bool true)) => gis_some p true W H);unfold ndN;go_enter Tryd.func36, Tryd.ntmps36;go_wp2_with fail
 refine (HIS.out _ h0).mono ?_;rintro e w1 ⟨rfl, rfl⟩
 by_cases ha : 0 ≤ a
 ·by_cases hb : a < (n : Int)
  ·go_wp2
   go_ret
   simp [ha, hb]
  ·go_wp2
   go_ret
   simp [ha, hb]
 ·go_wp2
  go_ret
  simp [ha];omega
theorem glen_yes (p : Nat) (A : Option Addr) (n c : Nat) (w : World) (h0 : w.cell? ⟨p, 0, none⟩ = some (.bool true)) (h1 : w.cell? ⟨p, 1, none⟩ = some (.slice A n c)) :
  Calls Tryd.prog 27 #[.pointer (some ⟨p, 0, none⟩)] w fun e w' => e = .returned (.int .i64 n) ∧ w = w' := by
 have HIS := Hd (fun W (H : W.cell? ⟨p, 0, none⟩ = some (.bool true)) => gis_some p true W H);go_enter Tryd.func27, Tryd.ntmps27;go_wp2_with fail
 refine (HIS.out _ h0).mono ?_;rintro e w1 ⟨rfl, rfl⟩;go_wp2
 go_ret
 exact ⟨rfl, rfl⟩
theorem info_edge : (Tryd.prog.info? 39).map (fun i => (i.zero, i.size, i.bytes)) = some (some (.agg #[.int .i64 0, .int .i64 0]), 2, 16) := by kernel_rfl
theorem info_setp : (Tryd.prog.info? 61).map (fun i => (i.zero, i.size, i.bytes)) = some (some (.pointer none), 1, 8) := by kernel_rfl
end Go.Proofs.YtlemjgjpglmphaaDoor
