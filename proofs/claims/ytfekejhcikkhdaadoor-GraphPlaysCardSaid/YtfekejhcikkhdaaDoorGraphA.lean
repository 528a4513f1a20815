/- Contracts of the package graph that only read: is, node, Len, Mark, Has; and what a graph that is none answers. -/
import Derived.Test.YtfekejhcikkhdaaDoorBitsNew
import Derived.Laws.MakeOwn
set_option linter.unusedVariables false
set_option linter.unusedSimpArgs false
namespace Go.Proofs.YtfekejhcikkhdaaDoor
open Go.RowKit

/-- o is no graph: nil, or one that New did not make. -/
def NotG (w : World) (o : Option Addr) : Prop := o = none ∨ ∃ g, o = some ⟨g, 0, none⟩ ∧ w.cell? ⟨g, 0, none⟩ = some (.bool false)

set_option maxHeartbeats 400000 in
theorem gis_none (w : World) : Calls Tryd.prog 31 #[.pointer none] w fun e w' => e = .returned (.bool false) ∧ w = w' := by
  go_enter Tryd.func31, Tryd.ntmps31
  go_wp2
  go_ret
  exact ⟨rfl, rfl⟩

set_option maxHeartbeats 400000 in
theorem gis_some (p : Nat) (m : Bool) (w : World) (h0 : w.cell? ⟨p, 0, none⟩ = some (.bool m)) : Calls Tryd.prog 31 #[.pointer (some ⟨p, 0, none⟩)] w fun e w' => e = .returned (.bool m) ∧ w = w' := by
  go_enter Tryd.func31, Tryd.ntmps31
  go_wp2
  go_ret
  exact ⟨rfl, rfl⟩

theorem gis_not (o : Option Addr) (w : World) (h : NotG w o) : Calls Tryd.prog 31 #[.pointer o] w fun e w' => e = .returned (.bool false) ∧ w = w' := by
  rcases h with rfl | ⟨g, rfl, h0⟩
  · exact gis_none w
  · exact gis_some g false w h0

set_option maxHeartbeats 400000 in
theorem gnode_not (o : Option Addr) (a : Int) (w : World) (h : NotG w o) : Calls Tryd.prog 32 #[.pointer o, .int .i64 a] w fun e w' => e = .returned (.bool false) ∧ w = w' := by
  have HIS := Lib.hid (fun W (H : NotG W o) => gis_not o W H)
  go_enter Tryd.func32, Tryd.ntmps32
  go_wp2_with fail
  refine (HIS.out _ h).mono ?_
  rintro e w1 ⟨rfl, rfl⟩
  go_wp2
  go_ret
  exact ⟨rfl, rfl⟩

def ndN (n : Nat) (a : Int) : Bool := decide (0 ≤ a ∧ a < n)

set_option maxHeartbeats 400000 in
theorem gnode_yes (p : Nat) (A : Option Addr) (n c : Nat) (a : Int) (w : World) (h0 : w.cell? ⟨p, 0, none⟩ = some (.bool true)) (h1 : w.cell? ⟨p, 1, none⟩ = some (.slice A n c)) :
    Calls Tryd.prog 32 #[.pointer (some ⟨p, 0, none⟩), .int .i64 a] w fun e w' => e = .returned (.bool (ndN n a)) ∧ w = w' := by
  have HIS := Lib.hid (fun W (H : W.cell? ⟨p, 0, none⟩ = some (.bool true)) => gis_some p true W H)
  unfold ndN
  go_enter Tryd.func32, Tryd.ntmps32
  go_wp2_with fail
  refine (HIS.out _ h0).mono ?_
  rintro e w1 ⟨rfl, rfl⟩
  by_cases ha : 0 ≤ a
  · by_cases hb : a < (n : Int)
    · go_wp2
      go_ret
      simp [ha, hb]
    · go_wp2
      go_ret
      simp [ha, hb]
  · go_wp2
    go_ret
    simp [ha]
    omega

set_option maxHeartbeats 400000 in
theorem glen_not (o : Option Addr) (w : World) (h : NotG w o) : Calls Tryd.prog 13 #[.pointer o] w fun e w' => e = .returned (.int .i64 0) ∧ w = w' := by
  have HIS := Lib.hid (fun W (H : NotG W o) => gis_not o W H)
  go_enter Tryd.func13, Tryd.ntmps13
  go_wp2_with fail
  refine (HIS.out _ h).mono ?_
  rintro e w1 ⟨rfl, rfl⟩
  go_wp2
  go_ret
  exact ⟨rfl, rfl⟩

set_option maxHeartbeats 400000 in
theorem glen_yes (p : Nat) (A : Option Addr) (n c : Nat) (w : World) (h0 : w.cell? ⟨p, 0, none⟩ = some (.bool true)) (h1 : w.cell? ⟨p, 1, none⟩ = some (.slice A n c)) :
    Calls Tryd.prog 13 #[.pointer (some ⟨p, 0, none⟩)] w fun e w' => e = .returned (.int .i64 n) ∧ w = w' := by
  have HIS := Lib.hid (fun W (H : W.cell? ⟨p, 0, none⟩ = some (.bool true)) => gis_some p true W H)
  go_enter Tryd.func13, Tryd.ntmps13
  go_wp2_with fail
  refine (HIS.out _ h0).mono ?_
  rintro e w1 ⟨rfl, rfl⟩
  go_wp2
  go_ret
  exact ⟨rfl, rfl⟩

set_option maxHeartbeats 400000 in
theorem gmark_not (o : Option Addr) (w : World) (h : NotG w o) : Calls Tryd.prog 21 #[.pointer o] w fun e w' => e = .returned (.int .i64 0) ∧ w = w' := by
  have HIS := Lib.hid (fun W (H : NotG W o) => gis_not o W H)
  go_enter Tryd.func21, Tryd.ntmps21
  go_wp2_with fail
  refine (HIS.out _ h).mono ?_
  rintro e w1 ⟨rfl, rfl⟩
  go_wp2
  go_ret
  exact ⟨rfl, rfl⟩

set_option maxHeartbeats 400000 in
theorem gmark_yes (p : Nat) (A : Option Addr) (n c : Nat) (w : World) (h0 : w.cell? ⟨p, 0, none⟩ = some (.bool true)) (h1 : w.cell? ⟨p, 3, none⟩ = some (.slice A n c)) :
    Calls Tryd.prog 21 #[.pointer (some ⟨p, 0, none⟩)] w fun e w' => e = .returned (.int .i64 n) ∧ w = w' := by
  have HIS := Lib.hid (fun W (H : W.cell? ⟨p, 0, none⟩ = some (.bool true)) => gis_some p true W H)
  go_enter Tryd.func21, Tryd.ntmps21
  go_wp2_with fail
  refine (HIS.out _ h0).mono ?_
  rintro e w1 ⟨rfl, rfl⟩
  go_wp2
  go_ret
  exact ⟨rfl, rfl⟩

set_option maxHeartbeats 400000 in
theorem ghas_not (o : Option Addr) (a b : Int) (w : World) (h : NotG w o) : Calls Tryd.prog 19 #[.pointer o, .int .i64 a, .int .i64 b] w fun e w' => e = .returned (.bool false) ∧ w = w' := by
  have HIS := Lib.hid (fun W (H : NotG W o) => gnode_not o a W H)
  go_enter Tryd.func19, Tryd.ntmps19
  go_wp2_with fail
  refine (HIS.out _ h).mono ?_
  rintro e w1 ⟨rfl, rfl⟩
  go_wp2
  go_ret
  exact ⟨rfl, rfl⟩

set_option maxHeartbeats 400000 in
theorem gput_not (o : Option Addr) (a b : Int) (w : World) (h : NotG w o) : Calls Tryd.prog 15 #[.pointer o, .int .i64 a, .int .i64 b] w fun e w' => e = .returned (.tuple #[.bool false, .int .i64 4]) ∧ w = w' := by
  have HIS := Lib.hid (fun W (H : NotG W o) => gis_not o W H)
  go_enter Tryd.func15, Tryd.ntmps15
  go_wp2_with fail
  refine (HIS.out _ h).mono ?_
  rintro e w1 ⟨rfl, rfl⟩
  go_wp2
  exact bodyPost_ret (v := .tuple #[.bool false, .int .i64 4]) (by simp [results, Tryd.results15, go_sem]) rfl ⟨rfl, rfl⟩

set_option maxHeartbeats 400000 in
theorem gundo_not (o : Option Addr) (a : Int) (w : World) (h : NotG w o) : Calls Tryd.prog 17 #[.pointer o, .int .i64 a] w fun e w' => e = .returned (.int .i64 4) ∧ w = w' := by
  have HIS := Lib.hid (fun W (H : NotG W o) => gis_not o W H)
  go_enter Tryd.func17, Tryd.ntmps17
  go_wp2_with fail
  refine (HIS.out _ h).mono ?_
  rintro e w1 ⟨rfl, rfl⟩
  go_wp2
  go_ret
  exact ⟨rfl, rfl⟩

set_option maxHeartbeats 400000 in
theorem gnext_not (o : Option Addr) (a : Int) (w : World) (h : NotG w o) : Calls Tryd.prog 23 #[.pointer o, .int .i64 a] w fun e w' => e = .returned (.slice none 0 0) ∧ w = w' := by
  have HIS := Lib.hid (fun W (H : NotG W o) => gnode_not o a W H)
  go_enter Tryd.func23, Tryd.ntmps23
  go_wp2_with fail
  refine (HIS.out _ h).mono ?_
  rintro e w1 ⟨rfl, rfl⟩
  go_wp2
  go_ret
  exact ⟨rfl, rfl⟩

set_option maxHeartbeats 400000 in
theorem gback_not (o : Option Addr) (a : Int) (w : World) (h : NotG w o) : Calls Tryd.prog 25 #[.pointer o, .int .i64 a] w fun e w' => e = .returned (.slice none 0 0) ∧ w = w' := by
  have HIS := Lib.hid (fun W (H : NotG W o) => gnode_not o a W H)
  go_enter Tryd.func25, Tryd.ntmps25
  go_wp2_with fail
  refine (HIS.out _ h).mono ?_
  rintro e w1 ⟨rfl, rfl⟩
  go_wp2
  go_ret
  exact ⟨rfl, rfl⟩

theorem info_edge : (Tryd.prog.info? 53).map (fun i => (i.zero, i.size, i.bytes)) = some (some (.agg #[.int .i64 0, .int .i64 0]), 2, 16) := by kernel_rfl
theorem info_setp : (Tryd.prog.info? 59).map (fun i => (i.zero, i.size, i.bytes)) = some (some (.pointer none), 1, 8) := by kernel_rfl
def zeroE (n : Nat) : Array Value := madeCells (Value.agg #[.int .i64 0, .int .i64 0]).cells (n * 2)

theorem make_edges (n : Nat) (hn : n ≤ 1000000) (w : World) : (Instr.makeSlice 22 (.int .i64 0) (.int .i64 (n : Int))).run Tryd.prog w = .ok (.slice (some ⟨w.heap.size, 0, none⟩) 0 n) (w.alloc (.cells (zeroE n) 53)) := by
  obtain ⟨i0, hi, hz0, hz1, hz2⟩ := info_parts info_edge
  have := run_make (P := Tryd.prog) w 22 53 i0 _ Tryd.underlying22 hi hz0 .i64 .i64 0 (n : Int) (Int.le_refl _) (by omega) (by rw [hz2]; omega) (by omega)
  rw [hz1] at this
  exact this

theorem make_edges0 (w : World) : (Instr.makeSlice 22 (.int .i64 0) (.int .i64 0)).run Tryd.prog w = .ok (.slice (some ⟨w.heap.size, 0, none⟩) 0 0) (w.alloc (.cells (zeroE 0) 53)) := make_edges 0 (by omega) w

set_option maxHeartbeats 400000 in
theorem gedges_not (o : Option Addr) (w : World) (h : NotG w o) (hlt : ∀ g, o = some ⟨g, 0, none⟩ → g < w.heap.size) : Calls Tryd.prog 28 #[.pointer o] w fun e w' => (∃ A c, e = .returned (.slice A 0 c)) ∧ Only [] w w' := by
  have HIS := Lib.hid (fun W (H : NotG W o) => gmark_not o W H)
  have HL := Lib.hid (fun W (H : NotG W o) => glen_not o W H)
  have HM := fun w => make_edges0 w
  have h2 : NotG (w.alloc (.cells (zeroE 0) 53)) o := by
    rcases h with h | ⟨g, h, h0⟩
    · exact .inl h
    · exact .inr ⟨g, h, by rw [((Only.refl [] w).alloc _).cell (p := ⟨g, 0, none⟩) (hlt g h) (by simp)]; exact h0⟩
  go_enter Tryd.func28, Tryd.ntmps28
  go_wp2_with fail
  refine (HIS.out _ h).mono ?_
  rintro e w1 ⟨rfl, rfl⟩
  go_wp2_with fail
  refine (HL.out _ h2).mono ?_
  rintro e w1 ⟨rfl, rfl⟩
  go_wp2_with fail
  go_loopw [3, 12] (fun v i wr => v = .slice (some ⟨w.heap.size, 0, none⟩) 0 0 ∧ i = .int .i64 0 ∧ w.alloc (.cells (zeroE 0) 53) = wr) (fun _ _ _ => 0)
  case atStart => exact ⟨rfl, rfl, rfl⟩
  case round =>
    obtain ⟨rfl, rfl, rfl⟩ := hrel
    go_wp2
    go_ret
    exact ⟨⟨_, _, rfl⟩, (Only.refl _ _).alloc _⟩

end Go.Proofs.YtfekejhcikkhdaaDoor
