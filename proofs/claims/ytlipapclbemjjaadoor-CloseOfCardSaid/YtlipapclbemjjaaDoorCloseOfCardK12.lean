/- Contracts of the package graph that only read: is, node, Len, Mark, Has; and what a graph that is none answers. -/
import Derived.Test.YtlipapclbemjjaaDoorCloseOfCardK11
import Derived.Laws.MakeOwn
set_option linter.unusedVariables false
set_option linter.unusedSimpArgs false
namespace Go.Proofs.YtlipapclbemjjaaDoor
open Go.RowKit
set_option maxHeartbeats 400000 in
theorem gis_some (p : Nat) (m : Bool) (w : World) (h0 : w.cell? ⟨p, 0, none⟩ = some (.bool m)) : Calls Tryd.prog 47 #[.pointer (some ⟨p, 0, none⟩)] w fun e w' => e = .returned (.bool m) ∧ w = w' := by
 go_enter Tryd.func47, Tryd.ntmps47
 go_wp2
 go_ret
 exact ⟨rfl, rfl⟩
def ndN (n : Nat) (a : Int) : Bool := decide (0 ≤ a ∧ a < n)
set_option maxHeartbeats 400000 in
theorem gnode_yes (p : Nat) (A : Option Addr) (n c : Nat) (a : Int) (w : World) (h0 : w.cell? ⟨p, 0, none⟩ = some (.bool true)) (h1 : w.cell? ⟨p, 1, none⟩ = some (.slice A n c)) :
  Calls Tryd.prog 38 #[.pointer (some ⟨p, 0, none⟩), .int .i64 a] w fun e w' => e = .returned (.bool (ndN n a)) ∧ w = w' := by
 have HIS := Lib.hid (fun W (H : W.cell? ⟨p, 0, none⟩ = some (.bool true)) => gis_some p true W H)
 unfold ndN
 go_enter Tryd.func38, Tryd.ntmps38
 go_wp2_with fail
 refine (HIS.out _ h0).mono ?_
 rintro e w1 ⟨rfl, rfl⟩
 by_cases ha : 0 ≤ a
 ·by_cases hb : a < (n : Int)
  ·go_wp2
   go_ret
   simp [ha, hb]
  ·go_wp2
   go_ret
   simp [ha, hb]
 ·go_wp2
  go_ret
  simp [ha]
  omega
set_option maxHeartbeats 400000 in
theorem glen_yes (p : Nat) (A : Option Addr) (n c : Nat) (w : World) (h0 : w.cell? ⟨p, 0, none⟩ = some (.bool true)) (h1 : w.cell? ⟨p, 1, none⟩ = some (.slice A n c)) :
  Calls Tryd.prog 43 #[.pointer (some ⟨p, 0, none⟩)] w fun e w' => e = .returned (.int .i64 n) ∧ w = w' := by
 have HIS := Lib.hid (fun W (H : W.cell? ⟨p, 0, none⟩ = some (.bool true)) => gis_some p true W H)
 go_enter Tryd.func43, Tryd.ntmps43
 go_wp2_with fail
 refine (HIS.out _ h0).mono ?_
 rintro e w1 ⟨rfl, rfl⟩
 go_wp2
 go_ret
 exact ⟨rfl, rfl⟩
set_option maxHeartbeats 400000 in
theorem gmark_yes (p : Nat) (A : Option Addr) (n c : Nat) (w : World) (h0 : w.cell? ⟨p, 0, none⟩ = some (.bool true)) (h1 : w.cell? ⟨p, 3, none⟩ = some (.slice A n c)) :
  Calls Tryd.prog 42 #[.pointer (some ⟨p, 0, none⟩)] w fun e w' => e = .returned (.int .i64 n) ∧ w = w' := by
 have HIS := Lib.hid (fun W (H : W.cell? ⟨p, 0, none⟩ = some (.bool true)) => gis_some p true W H)
 go_enter Tryd.func42, Tryd.ntmps42
 go_wp2_with fail
 refine (HIS.out _ h0).mono ?_
 rintro e w1 ⟨rfl, rfl⟩
 go_wp2
 go_ret
 exact ⟨rfl, rfl⟩
theorem info_edge : (Tryd.prog.info? 47).map (fun i => (i.zero, i.size, i.bytes)) = some (some (.agg #[.int .i64 0, .int .i64 0]), 2, 16) := by kernel_rfl
theorem info_setp : (Tryd.prog.info? 44).map (fun i => (i.zero, i.size, i.bytes)) = some (some (.pointer none), 1, 8) := by kernel_rfl
def zeroE (n : Nat) : Array Value := madeCells (Value.agg #[.int .i64 0, .int .i64 0]).cells (n * 2)
theorem make_edges (n : Nat) (hn : n ≤ 1000000) (w : World) : (Instr.makeSlice 22 (.int .i64 0) (.int .i64 (n : Int))).run Tryd.prog w = .ok (.slice (some ⟨w.heap.size, 0, none⟩) 0 n) (w.alloc (.cells (zeroE n) 47)) := by
 obtain ⟨i0, hi, hz0, hz1, hz2⟩ := info_parts info_edge
 have := run_make (P := Tryd.prog) w 22 47 i0 _ Tryd.underlying22 hi hz0 .i64 .i64 0 (n : Int) (Int.le_refl _) (by omega) (by rw [hz2]; omega) (by omega)
 rw [hz1] at this
 exact this
end Go.Proofs.YtlipapclbemjjaaDoor
