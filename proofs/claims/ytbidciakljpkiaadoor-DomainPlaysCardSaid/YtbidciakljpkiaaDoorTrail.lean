/- Contracts of the package trail: a trail lies in a block of its own, its cells in one, its saved levels in one, each level's values in one. -/
import Derived.Test.YtbidciakljpkiaaDoorOwn
import Derived.Laws.CopyOwn
import Derived.Laws.MakeOwn
set_option linter.unusedVariables false
set_option linter.unusedSimpArgs false
namespace Go.Proofs.YtbidciakljpkiaaDoor
open Go.RowKit

/-- A list of numbers as cells. -/
def ints (l : List Int) : Array Value := (l.map (Value.int .i64)).toArray

theorem ints_size (l : List Int) : (ints l).size = l.length := by simp [ints]
theorem ints_at (l : List Int) (i : Nat) (n : Int) (h : l[i]? = some n) : (ints l)[i]? = some (.int .i64 n) := by simp [ints, h]
theorem ints_set (l : List Int) (i : Nat) (n : Int) : (ints l).setIfInBounds i (.int .i64 n) = ints (l.set i n) := by
  simp [ints, List.map_set]

/-- A block of numbers as a slice that is read. -/
theorem row_blk {w : World} {g : Nat} {l : List Int} {t : TypeId} (h : Blk w g t (ints l)) : Row w w.heap.size (some ⟨g, 0, none⟩) (l.map (Value.int .i64)) :=
  .inr ⟨g, 0, rfl, h.lt, Nat.le_refl _, fun j u hu => by rw [Nat.zero_add, h.at_ j]; simpa [ints] using hu⟩

/-- A trail that New made: its block, what its cells hold, what they held when each level began, and all blocks that it lies in. -/
structure Tr (w : World) (p : Nat) (now : List Int) (saved : List (List Int)) (fp : List Nat) : Prop where
  lies : ∃ (gc : Nat) (V : Value) (gs : List Nat), Blk w p 63 #[.bool true, .slice (some ⟨gc, 0, none⟩) now.length now.length, V] ∧ Blk w gc 3 (ints now) ∧
    w.ownsRow 0 22 1 V saved.length (gs.map fun g => .slice (some ⟨g, 0, none⟩) now.length now.length) ∧
    (∀ (i g : Nat) (l : List Int), gs[i]? = some g → saved[i]? = some l → Blk w g 3 (ints l) ∧ l.length = now.length ∧ g ≠ gc) ∧
    p ∈ fp ∧ gc ∈ fp ∧ (∀ g, V.ownBlock = some g → g ∈ fp) ∧ ∀ g ∈ gs, g ∈ fp

section
variable {w w' : World} {p : Nat} {now : List Int} {saved : List (List Int)} {fp : List Nat}
/-- What does not touch its blocks leaves it. -/
theorem Tr.only {S : List Nat} (h : Tr w p now saved fp) (ho : Only S w w') (hS : ∀ b ∈ fp, b ∉ S) : Tr w' p now saved fp := by
  obtain ⟨gc, V, gs, hp, hc, hv, hs, h1, h2, h3, h4⟩ := h.lies
  refine ⟨gc, V, gs, ho.blk hp (hS _ h1), ho.blk hc (hS _ h2), ?_, fun i g l hg hl => ?_, h1, h2, h3, h4⟩
  · obtain ⟨hl, hv⟩ := hv
    refine ⟨hl, ?_⟩
    rcases hv with hv | ⟨g, cap, cur, rfl, hb, hg, rest⟩
    · exact .inl hv
    · exact .inr ⟨g, cap, cur, rfl, hb, ho.blk hg (hS _ (h3 g rfl)), rest⟩
  · obtain ⟨hb, hl', hne⟩ := hs i g l hg hl
    exact ⟨ho.blk hb (hS _ (h4 g (List.mem_of_getElem? hg))), hl', hne⟩
theorem Tr.made (h : Tr w p now saved fp) : w.cell? ⟨p, 0, none⟩ = some (.bool true) := by
  obtain ⟨gc, V, gs, hp, _⟩ := h.lies
  exact hp.at_ 0
end

set_option maxHeartbeats 400000 in
theorem tis_nil (w : World) :
    Calls Tryd.prog 40 #[.pointer none] w fun e w' => e = .returned (.bool false) ∧ w = w' := by
  go_enter Tryd.func40, Tryd.ntmps40
  go_wp2
  go_ret
  exact ⟨rfl, rfl⟩

set_option maxHeartbeats 400000 in
theorem tis_some (p : Nat) (b : Bool) (w : World) (h0 : w.cell? ⟨p, 0, none⟩ = some (.bool b)) :
    Calls Tryd.prog 40 #[.pointer (some ⟨p, 0, none⟩)] w fun e w' => e = .returned (.bool b) ∧ w = w' := by
  go_enter Tryd.func40, Tryd.ntmps40
  go_wp2
  go_ret
  exact ⟨rfl, rfl⟩

set_option maxHeartbeats 400000 in
theorem tcell_no (p : Option Addr) (c : Int) (w : World) (hc : Calls Tryd.prog 40 #[.pointer p] w fun e w' => e = .returned (.bool false) ∧ w = w') :
    Calls Tryd.prog 44 #[.pointer p, .int .i64 c] w fun e w' => e = .returned (.bool false) ∧ w = w' := by
  have HC := Lib.hid hc
  clear hc
  go_enter Tryd.func44, Tryd.ntmps44
  go_wp2_with (go_at_call 40; refine (HC.out).mono ?_; rintro e w' ⟨rfl, rfl⟩)
  go_ret
  exact ⟨rfl, rfl⟩

set_option maxHeartbeats 400000 in
theorem tcell_yes (p : Nat) (c : Int) (A : Option Addr) (n : Nat) (w : World) (h0 : w.cell? ⟨p, 0, none⟩ = some (.bool true)) (h1 : w.cell? ⟨p, 1, none⟩ = some (.slice A n n)) (hc0 : 0 ≤ c) (hc1 : c < n) (hn : n ≤ 1000) :
    Calls Tryd.prog 44 #[.pointer (some ⟨p, 0, none⟩), .int .i64 c] w fun e w' => e = .returned (.bool true) ∧ w = w' := by
  go_enter Tryd.func44, Tryd.ntmps44
  go_wp2_with (go_at_call 40; refine (tis_some p true _ h0).mono ?_; rintro e w' ⟨rfl, rfl⟩)
  go_ret
  exact ⟨rfl, rfl⟩

set_option maxHeartbeats 400000 in
theorem tcell_out (p : Nat) (c : Int) (A : Option Addr) (n : Nat) (w : World) (h0 : w.cell? ⟨p, 0, none⟩ = some (.bool true)) (h1 : w.cell? ⟨p, 1, none⟩ = some (.slice A n n)) (hc : c < 0 ∨ (n : Int) ≤ c) (hn : n ≤ 1000) :
    Calls Tryd.prog 44 #[.pointer (some ⟨p, 0, none⟩), .int .i64 c] w fun e w' => e = .returned (.bool false) ∧ w = w' := by
  by_cases hc0 : c < 0
  · clear hc
    go_enter Tryd.func44, Tryd.ntmps44
    go_wp2_with (go_at_call 40; refine (tis_some p true _ h0).mono ?_; rintro e w' ⟨rfl, rfl⟩)
    go_ret
    exact ⟨rfl, rfl⟩
  · have hc1 : 0 ≤ c := by omega
    have hc2 : (n : Int) ≤ c := by omega
    have hd : decide (c < (n : Int)) = false := by simp; omega
    clear hc hc0
    go_enter Tryd.func44, Tryd.ntmps44
    go_wp2_with (go_at_call 40; refine (tis_some p true _ h0).mono ?_; rintro e w' ⟨rfl, rfl⟩)
    go_ret
    exact ⟨rfl, rfl⟩

end Go.Proofs.YtbidciakljpkiaaDoor
