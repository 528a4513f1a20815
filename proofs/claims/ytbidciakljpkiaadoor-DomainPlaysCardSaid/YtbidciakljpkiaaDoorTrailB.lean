/- Contracts of the package trail, more: New, All, Set, Get, Level, Begin, Keep, Undo. -/
import Derived.Test.YtbidciakljpkiaaDoorTrail
import Derived.Deep.OwnRows
set_option linter.unusedVariables false
set_option linter.unusedSimpArgs false
namespace Go.Proofs.YtbidciakljpkiaaDoor
open Go.RowKit
attribute [local go_sem ↓] Go.wp_at_zero Go.wp_at_succ

theorem made_ints (n : Nat) : madeCells #[.int .i64 0] n = ints (List.replicate n 0) := by
  apply Array.toList_inj.1
  rw [toList_madeCells_one]
  simp [ints]
theorem tinfo_int : (Tryd.prog.info? 3).map (fun i => (i.zero, i.size, i.bytes)) = some (some (.int .i64 0), 1, 8) := by kernel_rfl
theorem tinfo_ints : (Tryd.prog.info? 22).map (fun i => (i.zero, i.size, i.bytes)) = some (some (.slice none 0 0), 1, 24) := by kernel_rfl

theorem one_ints (l : List Int) : ∀ u ∈ (ints l).toList, u.oneCell' = true := by
  intro u hu
  simp [ints] at hu
  obtain ⟨z, _, rfl⟩ := hu
  rfl

set_option maxHeartbeats 400000 in
theorem tnew_ok (n : Nat) (w : World) (hn : n ≤ 1000) :
    Calls Tryd.prog 27 #[.int .i64 (n : Int)] w fun e w' => e = .returned (.tuple #[.pointer (some ⟨w.heap.size + 1, 0, none⟩), .int .i64 0]) ∧
      Tr w' (w.heap.size + 1) (List.replicate n 0) [] [w.heap.size, w.heap.size + 1] ∧ Only [] w w' := by
  have hmk := fun W => run_make_row' (P := Tryd.prog) 22 3 (.int .i64 0) 8 Tryd.underlying22 tinfo_int rfl .i64 .i64 n (by omega) (by omega) W
  go_enter Tryd.func27, Tryd.ntmps27
  go_wp2
  go_ret2
  refine ⟨rfl, ⟨w.heap.size, .slice none 0 0, [], ?_, ?_, World.ownsRow_nil _ _ _ _, (fun i g l h => by simp at h), by simp, by simp, (fun g h => by simp [Value.ownBlock] at h), (fun g h => by cases h)⟩, ((Only.refl [] w).alloc _).alloc _⟩
  · have := Blk.made (w.alloc (.cells (madeCells #[.int .i64 0] n) 3)) 63 #[.bool true, .slice (some ⟨w.heap.size, 0, none⟩) n n, .slice none 0 0]
    simpa using this
  · have := (Blk.made w 3 (madeCells #[.int .i64 0] n)).alloc (.cells #[.bool true, .slice (some ⟨w.heap.size, 0, none⟩) n n, .slice none 0 0] 63)
    rw [made_ints] at this ⊢
    exact this

set_option maxHeartbeats 400000 in
theorem tnew_no (n : Int) (w : World) (hn : n < 0 ∨ 1000 < n) :
    Calls Tryd.prog 27 #[.int .i64 n] w fun e w' => e = .returned (.tuple #[.pointer none, .int .i64 2]) ∧ w = w' := by
  by_cases h0 : n < 0
  · clear hn
    go_enter Tryd.func27, Tryd.ntmps27
    go_wp2
    go_ret2
    exact ⟨rfl, rfl⟩
  · have h1 : 0 ≤ n := by omega
    have h2 : 1000 < n := by omega
    have hd : decide (n < 0) = false := by simp; omega
    have hd2 : decide (1000 < n) = true := by simp; omega
    clear hn h0
    go_enter Tryd.func27, Tryd.ntmps27
    go_wp2
    go_ret2
    exact ⟨rfl, rfl⟩

set_option maxHeartbeats 400000 in
/-- All: a copy in a block of its own. -/
theorem tall_any (p : Nat) (now : List Int) (saved : List (List Int)) (fp : List Nat) (w : World) (h : Tr w p now saved fp) (hn : now.length ≤ 1000) :
    Calls Tryd.prog 41 #[.pointer (some ⟨p, 0, none⟩)] w fun e w' => e = .returned (.slice (some ⟨w.heap.size, 0, none⟩) now.length now.length) ∧
      Blk w' w.heap.size 3 (ints now) ∧ Only [] w w' := by
  obtain ⟨gc, V, gs, hp, hc, -⟩ := h.lies
  have h0 := hp.at_ 0
  have h1 := hp.at_ 1
  simp at h0 h1
  have hplt := hp.lt
  have hmk := fun W => run_make_row' (P := Tryd.prog) 22 3 (.int .i64 0) 8 Tryd.underlying22 tinfo_int rfl .i64 .i64 now.length (by omega) (by omega) W
  have HW : Hid ((w.alloc (.cells (madeCells #[.int .i64 0] now.length) 3)).heap[w.heap.size]? = some (.cells (ints (List.replicate now.length 0)).toList.toArray 3 (0, 0))) := by
    have h1 := Blk.made w 3 (madeCells #[.int .i64 0] now.length)
    have e : (ints (List.replicate now.length 0)).toList.toArray = madeCells #[.int .i64 0] now.length := by rw [Array.toArray_toList, made_ints]
    rw [e]
    exact h1
  have HIS := Lib.hid (fun W => tis_some p true W)
  have HCS : Hid (∀ (j : Nat) (v : Value), (ints now).toList[j]? = some v → (w.alloc (.cells (madeCells #[.int .i64 0] now.length) 3)).cell? ((⟨gc, 0, none⟩ : Addr).add j) = some v) := by
    intro j v hv
    have := (hc.alloc (.cells (madeCells #[.int .i64 0] now.length) 3)).at_ j
    have e : (⟨gc, 0, none⟩ : Addr).add j = ⟨gc, j, none⟩ := by
      unfold Addr.add
      split
      · rename_i h; subst h; rfl
      · simp
    rw [e, this]
    simpa using hv
  clear hc h hp
  go_enter Tryd.func41, Tryd.ntmps41
  go_wp2_with fail
  refine (HIS.out _ h0).mono ?_
  rintro e w1 ⟨rfl, rfl⟩
  go_wp2_with (refine wpList_copy_splice rfl (.tmp 13) (.tmp 17) _ _ rfl 3 Tryd.underlying22 (by kernel_rfl) (some ⟨w.heap.size, 0, none⟩) (some ⟨gc, 0, none⟩) now.length now.length now.length now.length rfl rfl w.heap.size 0 (ints (List.replicate now.length 0)).toList 3 HW.out (ints now).toList (by simp [ints]) (fun _ => ⟨rfl, ⟨gc, 0, none⟩, rfl, HCS.out⟩) (by simp [ints]) (one_ints now) w.heap.size w (((Below.refl _ _).alloc (Nat.le_refl _) _)) (Nat.le_refl _) ?_; intro w2 hw2 hb2)
  go_wp2
  go_ret
  refine ⟨rfl, ?_, Only.of_below hb2 _⟩
  have := hw2.out
  have e : splice (ints (List.replicate now.length 0)).toList 0 (ints now).toList = (ints now).toList := by simp [splice, ints]
  rw [e, Array.toArray_toList] at this
  exact this

end Go.Proofs.YtbidciakljpkiaaDoor
