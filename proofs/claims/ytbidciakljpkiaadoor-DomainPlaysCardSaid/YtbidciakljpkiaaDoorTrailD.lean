/- Contracts of the package trail: Keep, Begin, Undo. -/
import Derived.Test.YtbidciakljpkiaaDoorTrailC
import Derived.Test.YtbidciakljpkiaaDoorTimed
set_option linter.unusedVariables false
set_option linter.unusedSimpArgs false
namespace Go.Proofs.YtbidciakljpkiaaDoor
open Go.RowKit
attribute [local go_sem ↓] Go.wp_at_zero Go.wp_at_succ

set_option maxHeartbeats 1000000 in
theorem tkeep_in (p g m c : Nat) (w : World) (h0 : w.cell? ⟨p, 0, none⟩ = some (.bool true)) (h2 : w.cell? ⟨p, 2, none⟩ = some (.slice (some ⟨g, 0, none⟩) (m + 1) c)) (f2 : w.frozen? ⟨p, 2, none⟩ = false)
    (hm : m + 1 ≤ c) (hc : c ≤ maxLen) :
    Calls Tryd.prog 43 #[.pointer (some ⟨p, 0, none⟩)] w fun e w' => e = .returned (.int .i64 0) ∧ (w.setCell ⟨p, 2, none⟩ (.slice (some ⟨g, 0, none⟩) m c)).drew = w' := by
  unfold maxLen at hc
  have HIS := Lib.hid (fun W => tis_some p true W)
  have hz : ((m : Int) + 1 == 0) = false := by simp; omega
  have hb1 : (0 : Int) ≤ (m : Int) := Int.natCast_nonneg _
  have hb2 : (m : Int) ≤ (c : Int) := by omega
  have hww : IntKind.i64.wrap (m : Int) = (m : Int) := IntWalk.i64_in _ (by omega)
  go_enter Tryd.func43, Tryd.ntmps43
  go_wp2_with fail
  refine (HIS.out _ h0).mono ?_
  rintro e w1 ⟨rfl, rfl⟩
  go_wp2_with fail
  refine wp_region_noPanic ?_
  refine wp_region_timed (F := [⟨[], [14], fun w' => w'.cell? ⟨p, 2, none⟩ = some (.slice (some ⟨g, 0, none⟩) (m + 1) c)⟩]) (by kernel_rfl) (timed_holds (h2) (timed_nil)) ?_
  refine timed_pure (i := 0) (v := ?_) rfl (by kernel_rfl) (by kernel_rfl) (by kernel_rfl) (fun _ _ _ h => h) (by kernel_rfl) (by kernel_rfl) ?_ ?_
  rotate_left
  · (intro w; go_simp; try with_reducible rfl)
  try simp only [Act.put, List.getElem_toArray, List.getElem_cons_zero, List.getElem_cons_succ, List.setIfInBounds_toArray, List.set_cons_zero, List.set_cons_succ]
  refine timed_pure (i := 1) (v := ?_) rfl (by kernel_rfl) (by kernel_rfl) (by kernel_rfl) (fun _ _ _ h => h) (by kernel_rfl) (by kernel_rfl) ?_ ?_
  rotate_left
  · (intro w; go_simp; try with_reducible rfl)
  try simp only [Act.put, List.getElem_toArray, List.getElem_cons_zero, List.getElem_cons_succ, List.setIfInBounds_toArray, List.set_cons_zero, List.set_cons_succ]
  refine timed_pure (i := 2) (v := ?_) rfl (by kernel_rfl) (by kernel_rfl) (by kernel_rfl) (fun _ _ _ h => h) (by kernel_rfl) (by kernel_rfl) ?_ ?_
  rotate_left
  · (intro w; go_simp; try with_reducible rfl)
  try simp only [Act.put, List.getElem_toArray, List.getElem_cons_zero, List.getElem_cons_succ, List.setIfInBounds_toArray, List.set_cons_zero, List.set_cons_succ]
  refine timed_pure (i := 3) (v := ?_) rfl (by kernel_rfl) (by kernel_rfl) (by kernel_rfl) (fun _ _ _ h => h) (by kernel_rfl) (by kernel_rfl) ?_ ?_
  rotate_left
  · (intro w; go_simp; try with_reducible rfl)
  try simp only [Act.put, List.getElem_toArray, List.getElem_cons_zero, List.getElem_cons_succ, List.setIfInBounds_toArray, List.set_cons_zero, List.set_cons_succ]
  refine timed_read (i := 4) (v := ?_) 0 rfl (by kernel_rfl) (by kernel_rfl) (by kernel_rfl) (fun _ _ _ h => h) (by kernel_rfl) (by kernel_rfl) rfl (by kernel_rfl) ?_ ?_
  rotate_left
  · (intro w hSw; (try dsimp only at hSw); go_simp; try with_reducible rfl)
  try simp only [Act.put, List.getElem_toArray, List.getElem_cons_zero, List.getElem_cons_succ, List.setIfInBounds_toArray, List.set_cons_zero, List.set_cons_succ]
  refine timed_pure (i := 5) (v := ?_) rfl (by kernel_rfl) (by kernel_rfl) (by kernel_rfl) (fun _ _ _ h => h) (by kernel_rfl) (by kernel_rfl) ?_ ?_
  rotate_left
  · (intro w; go_simp; try with_reducible rfl)
  try simp only [Act.put, List.getElem_toArray, List.getElem_cons_zero, List.getElem_cons_succ, List.setIfInBounds_toArray, List.set_cons_zero, List.set_cons_succ]
  refine timed_pure (i := 6) (v := ?_) rfl (by kernel_rfl) (by kernel_rfl) (by kernel_rfl) (fun _ _ _ h => h) (by kernel_rfl) (by kernel_rfl) ?_ ?_
  rotate_left
  · (intro w; go_simp; try with_reducible rfl)
  try simp only [Act.put, List.getElem_toArray, List.getElem_cons_zero, List.getElem_cons_succ, List.setIfInBounds_toArray, List.set_cons_zero, List.set_cons_succ]
  refine timed_pure (i := 7) (v := ?_) rfl (by kernel_rfl) (by kernel_rfl) (by kernel_rfl) (fun _ _ _ h => h) (by kernel_rfl) (by kernel_rfl) ?_ ?_
  rotate_left
  · (intro w; go_simp; try with_reducible rfl)
  try simp only [Act.put, List.getElem_toArray, List.getElem_cons_zero, List.getElem_cons_succ, List.setIfInBounds_toArray, List.set_cons_zero, List.set_cons_succ]
  refine timed_read (i := 8) (v := ?_) 0 rfl (by kernel_rfl) (by kernel_rfl) (by kernel_rfl) (fun _ _ _ h => h) (by kernel_rfl) (by kernel_rfl) rfl (by kernel_rfl) ?_ ?_
  rotate_left
  · (intro w hSw; (try dsimp only at hSw); go_simp; try with_reducible rfl)
  try simp only [Act.put, List.getElem_toArray, List.getElem_cons_zero, List.getElem_cons_succ, List.setIfInBounds_toArray, List.set_cons_zero, List.set_cons_succ]
  refine timed_pure (i := 9) (v := ?_) rfl (by kernel_rfl) (by kernel_rfl) (by kernel_rfl) (fun _ _ _ h => h) (by kernel_rfl) (by kernel_rfl) ?_ ?_
  rotate_left
  · (intro w; go_simp; try with_reducible rfl)
  try simp only [Act.put, List.getElem_toArray, List.getElem_cons_zero, List.getElem_cons_succ, List.setIfInBounds_toArray, List.set_cons_zero, List.set_cons_succ]
  refine timed_pure (i := 10) (v := ?_) rfl (by kernel_rfl) (by kernel_rfl) (by kernel_rfl) (fun _ _ _ h => h) (by kernel_rfl) (by kernel_rfl) ?_ ?_
  rotate_left
  · (intro w; go_simp; try with_reducible rfl)
  try simp only [Act.put, List.getElem_toArray, List.getElem_cons_zero, List.getElem_cons_succ, List.setIfInBounds_toArray, List.set_cons_zero, List.set_cons_succ]
  refine timed_pure (i := 11) (v := ?_) rfl (by kernel_rfl) (by kernel_rfl) (by kernel_rfl) (fun _ _ _ h => h) (by kernel_rfl) (by kernel_rfl) ?_ ?_
  rotate_left
  · (intro w; go_simp; try with_reducible rfl)
  try simp only [Act.put, List.getElem_toArray, List.getElem_cons_zero, List.getElem_cons_succ, List.setIfInBounds_toArray, List.set_cons_zero, List.set_cons_succ]
  refine timed_pure (i := 12) (v := ?_) rfl (by kernel_rfl) (by kernel_rfl) (by kernel_rfl) (fun _ _ _ h => h) (by kernel_rfl) (by kernel_rfl) ?_ ?_
  rotate_left
  · (intro w; go_simp; try with_reducible rfl)
  try simp only [Act.put, List.getElem_toArray, List.getElem_cons_zero, List.getElem_cons_succ, List.setIfInBounds_toArray, List.set_cons_zero, List.set_cons_succ]
  refine timed_pure (i := 13) (v := ?_) rfl (by kernel_rfl) (by kernel_rfl) (by kernel_rfl) (fun _ _ _ h => h) (by kernel_rfl) (by kernel_rfl) ?_ ?_
  rotate_left
  · (intro w; go_simp; try with_reducible rfl)
  try simp only [Act.put, List.getElem_toArray, List.getElem_cons_zero, List.getElem_cons_succ, List.setIfInBounds_toArray, List.set_cons_zero, List.set_cons_succ]
  refine timed_step (i := 14) (by kernel_rfl) rfl (fun K hK => ?_)
  go_simp
  refine hK.out _ _ (timed_over (by kernel_rfl) (timed_nil)) ?_
  clear hK K
  try simp only [Act.put, List.getElem_toArray, List.getElem_cons_zero, List.getElem_cons_succ, List.setIfInBounds_toArray, List.set_cons_zero, List.set_cons_succ]
  refine timed_done (by kernel_rfl) ?_ _
  refine NoPanic.normal ?_
  go_wp2
  go_ret
  exact ⟨rfl, rfl⟩

set_option maxHeartbeats 400000 in
theorem tkeep_none (p c : Nat) (A : Option Addr) (w : World) (h0 : w.cell? ⟨p, 0, none⟩ = some (.bool true)) (h2 : w.cell? ⟨p, 2, none⟩ = some (.slice A 0 c)) :
    Calls Tryd.prog 43 #[.pointer (some ⟨p, 0, none⟩)] w fun e w' => e = .returned (.int .i64 3) ∧ w = w' := by
  have HIS := Lib.hid (fun W => tis_some p true W)
  go_enter Tryd.func43, Tryd.ntmps43
  go_wp2_with fail
  refine (HIS.out _ h0).mono ?_
  rintro e w1 ⟨rfl, rfl⟩
  go_wp2
  go_ret
  exact ⟨rfl, rfl⟩

set_option maxHeartbeats 400000 in
theorem tkeep_form (p : Option Addr) (w : World) (hc : Calls Tryd.prog 40 #[.pointer p] w fun e w' => e = .returned (.bool false) ∧ w = w') :
    Calls Tryd.prog 43 #[.pointer p] w fun e w' => e = .returned (.int .i64 4) ∧ w = w' := by
  have HC := Lib.hid hc
  clear hc
  go_enter Tryd.func43, Tryd.ntmps43
  go_wp2_with (go_at_call 40; refine (HC.out).mono ?_; rintro e w1 ⟨rfl, rfl⟩)
  go_ret
  exact ⟨rfl, rfl⟩

/-- A row with one element less. -/
theorem own_less {w : World} {base : Nat} {e : TypeId} {g m c : Nat} {xs : List Value} (h : w.ownsRow base e 1 (.slice (some ⟨g, 0, none⟩) (m + 1) c) (m + 1) xs) :
    w.ownsRow base e 1 (.slice (some ⟨g, 0, none⟩) m c) m (xs.take m) := by
  obtain ⟨hl, hv⟩ := h
  rcases hv with ⟨h, _⟩ | ⟨g', cap, cur, h, hb, hg, hn, hm, hs, ht⟩
  · simp at h
  · simp only [Value.slice.injEq, Option.some.injEq, Addr.mk.injEq, and_true, true_and] at h
    obtain ⟨rfl, rfl⟩ := h
    refine ⟨by rw [List.length_take, hl]; omega, .inr ⟨g, c, cur, rfl, hb, hg, by omega, hm, hs, ?_⟩⟩
    rw [← ht, List.take_take]
    congr 1
    omega

theorem tkeep_any (p : Nat) (now : List Int) (init : List (List Int)) (l : List Int) (fp : List Nat) (w : World) (h : Tr w p now (init ++ [l]) fp) :
    Calls Tryd.prog 43 #[.pointer (some ⟨p, 0, none⟩)] w fun e w' => e = .returned (.int .i64 0) ∧ Tr w' p now init fp ∧ Only fp w w' := by
  obtain ⟨gc, V, gs, hp, hc, hV, hs, m1, m2, m3, m4⟩ := h.lies
  have hn : (init ++ [l]).length = init.length + 1 := by simp
  rw [hn] at hV
  obtain ⟨g, c, rfl, -, -⟩ := hV.form (by omega)
  have hcap : init.length + 1 ≤ c ∧ c ≤ maxLen := by
    obtain ⟨A', c', e, h1, h2, -⟩ := own_row hV
    injection e with _ _ e
    subst e
    exact ⟨h1, h2⟩
  refine (tkeep_in p g init.length c w (hp.at_ 0) (hp.at_ 2) (hp.free 2) hcap.1 hcap.2).mono ?_
  rintro e w' ⟨rfl, rfl⟩
  have hO : Only [p] w (w.setCell ⟨p, 2, none⟩ (.slice (some ⟨g, 0, none⟩) init.length c)).drew := ((Only.refl _ _).put (by simp) _).drew
  refine ⟨rfl, ⟨gc, _, gs.take init.length, (hp.put 2 (.slice (some ⟨g, 0, none⟩) init.length c)).drew, ?_, ?_, fun i g' l' hg hl => ?_, m1, m2, m3, fun g' hg' => m4 g' (List.mem_of_mem_take hg')⟩, hO.wide (fun i hi _ => by simp at hi; subst hi; exact m1)⟩
  · exact hO.blk hc (by simpa using (hp.apart hc (by decide)).symm)
  · have h1 := own_less hV
    rw [← List.map_take] at h1
    refine own_only h1 hO (fun g' hg' => ?_)
    simp [Value.ownBlock] at hg'
    subst hg'
    obtain ⟨_, hv⟩ := hV
    rcases hv with ⟨e, _⟩ | ⟨g', cap, cur, e, _, hg', _⟩
    · simp at e
    · simp only [Value.slice.injEq, Option.some.injEq, Addr.mk.injEq, and_true, true_and] at e
      obtain ⟨rfl, rfl⟩ := e
      have : g ≠ p := Blk.apart (w := w) (t := 22) (cs := cur) hg' hp (by decide)
      simpa using this
  · rw [List.getElem?_take] at hg
    split at hg
    · rename_i hi
      obtain ⟨hb, hl', hne⟩ := hs i g' l' hg (by rw [List.getElem?_append_left (by exact hi)]; exact hl)
      exact ⟨hO.blk hb (by simpa using (hp.apart hb (by decide)).symm), hl', hne⟩
    · cases hg

set_option maxHeartbeats 400000 in
theorem tbegin_full (p c : Nat) (A : Option Addr) (w : World) (h0 : w.cell? ⟨p, 0, none⟩ = some (.bool true)) (h2 : w.cell? ⟨p, 2, none⟩ = some (.slice A 1000 c)) :
    Calls Tryd.prog 33 #[.pointer (some ⟨p, 0, none⟩)] w fun e w' => e = .returned (.int .i64 7) ∧ w = w' := by
  have HIS := Lib.hid (fun W => tis_some p true W)
  go_enter Tryd.func33, Tryd.ntmps33
  go_wp2_with fail
  refine (HIS.out _ h0).mono ?_
  rintro e w1 ⟨rfl, rfl⟩
  go_wp2
  go_ret
  exact ⟨rfl, rfl⟩

set_option maxHeartbeats 400000 in
theorem tbegin_form (p : Option Addr) (w : World) (hc : Calls Tryd.prog 40 #[.pointer p] w fun e w' => e = .returned (.bool false) ∧ w = w') :
    Calls Tryd.prog 33 #[.pointer p] w fun e w' => e = .returned (.int .i64 4) ∧ w = w' := by
  have HC := Lib.hid hc
  clear hc
  go_enter Tryd.func33, Tryd.ntmps33
  go_wp2_with (go_at_call 40; refine (HC.out).mono ?_; rintro e w1 ⟨rfl, rfl⟩)
  go_ret
  exact ⟨rfl, rfl⟩

set_option maxHeartbeats 1000000 in
theorem tbegin_any (p : Nat) (now : List Int) (saved : List (List Int)) (fp : List Nat) (w : World) (h : Tr w p now saved fp) (hn : now.length ≤ 1000) (hs : saved.length < 1000) :
    Calls Tryd.prog 33 #[.pointer (some ⟨p, 0, none⟩)] w fun e w' => e = .returned (.int .i64 0) ∧ ∃ fp', Tr w' p now (saved ++ [now]) fp' ∧ Only fp w w' ∧ ∀ b ∈ fp', b ∈ fp ∨ w.heap.size ≤ b ∧ b < w'.heap.size := by
  obtain ⟨i0, hi, hz0, hz1, hz2⟩ := info_parts tinfo_ints
  have HT := Lib.hid h
  obtain ⟨gc, V, gs, hp, hc, hV, hss, m1, m2, m3, m4⟩ := h.lies
  have h0 := hp.at_ 0
  have h2 := hp.at_ 2
  obtain ⟨A, c, rfl, hc1, hc2, hcl, -⟩ := own_row hV
  simp at h0 h2
  unfold maxLen at hc2
  have HIS := Lib.hid (fun W => tis_some p true W)
  have HP := Lib.hid hp
  have HCC := Lib.hid hc
  have HV := Lib.hid hV
  have HSS := Lib.hid hss
  have HCL := Lib.hid hcl
  have hplt := hp.lt
  have hz : ((saved.length : Int) == 1000) = false := by simp; omega
  clear h hp hc hV hss hcl
  go_enter Tryd.func33, Tryd.ntmps33
  go_wp2_with fail
  refine (HIS.out _ h0).mono ?_
  rintro e w1 ⟨rfl, rfl⟩
  go_wp2_with fail
  refine wp_region_noPanic ?_
  refine wp_region_timed (F := [⟨[], [8], fun w' => w'.cell? ⟨p, 2, none⟩ = some (.slice A saved.length c)⟩]) (by kernel_rfl) (timed_holds (h2) (timed_nil)) ?_
  refine timed_pure (i := 0) (v := ?_) rfl (by kernel_rfl) (by kernel_rfl) (by kernel_rfl) (fun _ _ _ h => h) (by kernel_rfl) (by kernel_rfl) ?_ ?_
  rotate_left
  · (intro w; go_simp; try with_reducible rfl)
  try simp only [Act.put, List.getElem_toArray, List.getElem_cons_zero, List.getElem_cons_succ, List.setIfInBounds_toArray, List.set_cons_zero, List.set_cons_succ]
  refine timed_pure (i := 1) (v := ?_) rfl (by kernel_rfl) (by kernel_rfl) (by kernel_rfl) (fun _ _ _ h => h) (by kernel_rfl) (by kernel_rfl) ?_ ?_
  rotate_left
  · (intro w; go_simp; try with_reducible rfl)
  try simp only [Act.put, List.getElem_toArray, List.getElem_cons_zero, List.getElem_cons_succ, List.setIfInBounds_toArray, List.set_cons_zero, List.set_cons_succ]
  refine timed_pure (i := 2) (v := ?_) rfl (by kernel_rfl) (by kernel_rfl) (by kernel_rfl) (fun _ _ _ h => h) (by kernel_rfl) (by kernel_rfl) ?_ ?_
  rotate_left
  · (intro w; go_simp; try with_reducible rfl)
  try simp only [Act.put, List.getElem_toArray, List.getElem_cons_zero, List.getElem_cons_succ, List.setIfInBounds_toArray, List.set_cons_zero, List.set_cons_succ]
  refine timed_pure (i := 3) (v := ?_) rfl (by kernel_rfl) (by kernel_rfl) (by kernel_rfl) (fun _ _ _ h => h) (by kernel_rfl) (by kernel_rfl) ?_ ?_
  rotate_left
  · (intro w; go_simp; try with_reducible rfl)
  try simp only [Act.put, List.getElem_toArray, List.getElem_cons_zero, List.getElem_cons_succ, List.setIfInBounds_toArray, List.set_cons_zero, List.set_cons_succ]
  refine timed_read (i := 4) (v := ?_) 0 rfl (by kernel_rfl) (by kernel_rfl) (by kernel_rfl) (fun _ _ _ h => h) (by kernel_rfl) (by kernel_rfl) rfl (by kernel_rfl) ?_ ?_
  rotate_left
  · (intro w hSw; (try dsimp only at hSw); go_simp; try with_reducible rfl)
  try simp only [Act.put, List.getElem_toArray, List.getElem_cons_zero, List.getElem_cons_succ, List.setIfInBounds_toArray, List.set_cons_zero, List.set_cons_succ]
  refine timed_pure (i := 5) (v := ?_) rfl (by kernel_rfl) (by kernel_rfl) (by kernel_rfl) (fun _ _ _ h => h) (by kernel_rfl) (by kernel_rfl) ?_ ?_
  rotate_left
  · (intro w; go_simp; try with_reducible rfl)
  try simp only [Act.put, List.getElem_toArray, List.getElem_cons_zero, List.getElem_cons_succ, List.setIfInBounds_toArray, List.set_cons_zero, List.set_cons_succ]
  refine timed_step (i := 6) (by kernel_rfl) rfl (fun K hK => ?_)
  go_simp
  refine (tall_any p now saved fp _ (HT.out.only ((Only.refl [] w).drew) (by simp)) hn).mono ?_
  rintro e w1 ⟨rfl, hB1, hO1⟩
  refine hK.out _ _ (timed_holds ((hO1.cell (p := ⟨p, 2, none⟩) hplt (by simp)).trans h2) (timed_nil)) ?_
  clear hK K
  try simp only [Act.put, List.getElem_toArray, List.getElem_cons_zero, List.getElem_cons_succ, List.setIfInBounds_toArray, List.set_cons_zero, List.set_cons_succ]
  refine timed_step (i := 7) (by kernel_rfl) rfl (fun K hK => ?_)
  go_simp
  refine hK.out _ _ (timed_holds ((World.cell?_alloc_lt _ _ _ (Nat.lt_of_lt_of_le hplt hO1.size)).trans ((hO1.cell (p := ⟨p, 2, none⟩) hplt (by simp)).trans h2)) (timed_nil)) ?_
  clear hK K
  try simp only [Act.put, List.getElem_toArray, List.getElem_cons_zero, List.getElem_cons_succ, List.setIfInBounds_toArray, List.set_cons_zero, List.set_cons_succ]
  refine timed_step (i := 8) (by kernel_rfl) rfl (fun K hK => ?_)
  have OA : Only [] w (w1.alloc (.cells #[.slice (some ⟨w.heap.size, 0, none⟩) now.length now.length] 22)) := (((Only.refl [] w).drew).trans hO1).alloc _
  refine step_append_row _ rfl (.tmp 18) (.tmp 21) 44 rfl 0 22 i0 _ 1 24 Tryd.underlying44 hi hz0 hz1 hz2 rfl (by omega) (.slice A saved.length c) saved.length (gs.map fun g => .slice (some ⟨g, 0, none⟩) now.length now.length) (by rfl) (own_only HV.out OA (fun _ _ h => by cases h)) (w1.heap.size + 1) (some ⟨w1.heap.size, 0, none⟩) 1 1 [.slice (some ⟨w.heap.size, 0, none⟩) now.length now.length] (by rfl) (by simp) (row_lit w1 22 #[.slice (some ⟨w.heap.size, 0, none⟩) now.length now.length]) (by simp [Value.oneCell']) (by unfold maxLen; omega) (by omega) (by omega) ?_
  intro v' w3 hown hgrow hat
  obtain ⟨A', c', rfl, hc1', hc2', -, -⟩ := own_row hown
  have OV := only_grown hgrow
  have hP3 := OV.blk (OA.blk HP.out (by simp)) (own_apart HV.out HP.out (by decide))
  have hq2 : w3.cell? ⟨p, 2, none⟩ = some (.slice A saved.length c) := hP3.at_ 2
  have hqf : w3.frozen? ⟨p, 2, none⟩ = false := hP3.free 2
  clear hP3
  refine hK.out _ _ (timed_over (by kernel_rfl) (timed_nil)) ?_
  clear hK K
  try simp only [Act.put, List.getElem_toArray, List.getElem_cons_zero, List.getElem_cons_succ, List.setIfInBounds_toArray, List.set_cons_zero, List.set_cons_succ]
  refine timed_pure (i := 9) (v := ?_) rfl (by kernel_rfl) (by kernel_rfl) (by kernel_rfl) (fun _ _ _ h => h) (by kernel_rfl) (by kernel_rfl) ?_ ?_
  rotate_left
  · (intro w; go_simp; try with_reducible rfl)
  try simp only [Act.put, List.getElem_toArray, List.getElem_cons_zero, List.getElem_cons_succ, List.setIfInBounds_toArray, List.set_cons_zero, List.set_cons_succ]
  refine timed_pure (i := 10) (v := ?_) rfl (by kernel_rfl) (by kernel_rfl) (by kernel_rfl) (fun _ _ _ h => h) (by kernel_rfl) (by kernel_rfl) ?_ ?_
  rotate_left
  · (intro w; go_simp; try with_reducible rfl)
  try simp only [Act.put, List.getElem_toArray, List.getElem_cons_zero, List.getElem_cons_succ, List.setIfInBounds_toArray, List.set_cons_zero, List.set_cons_succ]
  refine timed_step (i := 11) (by kernel_rfl) rfl (fun K hK => ?_)
  go_simp
  refine hK.out _ _ (timed_over (by kernel_rfl) (timed_nil)) ?_
  clear hK K
  try simp only [Act.put, List.getElem_toArray, List.getElem_cons_zero, List.getElem_cons_succ, List.setIfInBounds_toArray, List.set_cons_zero, List.set_cons_succ]
  refine timed_done (by kernel_rfl) ?_ _
  refine NoPanic.normal ?_
  go_wp2
  go_ret
  have O4 : Only [p] w3 (w3.setCell ⟨p, 2, none⟩ (.slice A' (saved.length + 1) c')) := (Only.refl _ _).put (by simp) _
  have hmV : ∀ b ∈ (Value.slice A saved.length c).ownBlock.toList, b ∈ fp := fun b hb => by
    cases hv : (Value.slice A saved.length c).ownBlock with
    | none => rw [hv] at hb; cases hb
    | some g' => rw [hv] at hb; simp at hb; subst hb; exact m3 _ hv
  have O14 : Only fp w (w3.setCell ⟨p, 2, none⟩ (.slice A' (saved.length + 1) c')) :=
    ((OA.wide (T := fp) (fun i hi _ => by cases hi)).step OV (fun i hi _ => hmV i hi)).step O4 (fun i hi _ => by simp at hi; subst hi; exact m1)
  have hpne : p ≠ w.heap.size := Nat.ne_of_lt HP.out.lt
  have hxl : (gs.map fun g => Value.slice (some ⟨g, 0, none⟩) now.length now.length).length = saved.length := by simpa using HCL.out
  have hgl : gs.length = saved.length := by simpa using hxl
  have hcne : gc ≠ w.heap.size := Nat.ne_of_lt HCC.out.lt
  have hBn : Blk (w3.setCell ⟨p, 2, none⟩ (.slice A' (saved.length + 1) c')) w.heap.size 3 (ints now) :=
    O4.blk (OV.blk (hB1.alloc _) (fun hm => by have := own_lt HV.out hm; omega)) (by simpa using hpne.symm)
  refine ⟨rfl, w.heap.size :: ((Value.slice A' (saved.length + 1) c').ownBlock.toList ++ fp), ⟨gc, .slice A' (saved.length + 1) c', gs ++ [w.heap.size], ?_, ?_, ?_, ?_, ?_, ?_, ?_, ?_⟩, O14, ?_⟩
  · have := (OV.blk (OA.blk HP.out (by simp)) (own_apart HV.out HP.out (by decide))).put 2 (.slice A' (saved.length + 1) c')
    simpa using this
  · exact O4.blk (OV.blk (OA.blk HCC.out (by simp)) (own_apart HV.out HCC.out (by decide))) (by simpa using (HP.out.apart HCC.out (by decide)).symm)
  · have h1 := own_only hown O4 (fun g' hg' hm => by
      simp at hm
      subst hm
      obtain ⟨cur, hcur⟩ := own_blk hown hg'
      exact hcur.apart (OV.blk (OA.blk HP.out (by simp)) (own_apart HV.out HP.out (by decide))) (by decide) rfl)
    simpa using h1
  · intro i g l hg hl
    rcases Nat.lt_or_ge i gs.length with hi' | hi'
    · rw [List.getElem?_append_left hi'] at hg
      rw [List.getElem?_append_left (by omega)] at hl
      obtain ⟨hb, hl', hne⟩ := HSS.out i g l hg hl
      exact ⟨O4.blk (OV.blk (OA.blk hb (by simp)) (own_apart HV.out hb (by decide))) (by simpa using (HP.out.apart hb (by decide)).symm), hl', hne⟩
    · rw [List.getElem?_append_right hi'] at hg
      rw [List.getElem?_append_right (by omega)] at hl
      have hi0 : i - gs.length = 0 := by
        cases hk : i - gs.length with
        | zero => rfl
        | succ k => rw [hk] at hg; simp at hg
      rw [show i - saved.length = 0 by omega] at hl
      rw [hi0] at hg
      simp at hg hl
      subst hg
      subst hl
      exact ⟨hBn, rfl, hcne.symm⟩
  · simp [m1]
  · simp [m2]
  · intro g' hg'
    simp [hg']
  · intro g' hg'
    rcases List.mem_append.1 hg' with hg' | hg'
    · simp [m4 g' hg']
    · simp at hg'
      simp [hg']
  · intro b hb
    have hsz := O14.size
    have hsz1 := OV.size
    have hszA := OA.size
    simp only [World.size_alloc] at hsz1 hszA
    rw [World.size_setCell] at hsz ⊢
    rcases List.mem_cons.1 hb with rfl | hb
    · exact .inr ⟨Nat.le_refl _, by have h9 : w.heap.size ≤ w1.heap.size := hO1.size; omega⟩
    · rcases List.mem_append.1 hb with hb | hb
      · rcases hat with hat | hat
        · rw [hat] at hb
          exact .inl (hmV b hb)
        · have hlt := own_lt hown hb
          rw [hat] at hb
          simp at hb
          subst hb
          have h9 : w.heap.size ≤ w1.heap.size := hO1.size
          exact .inr ⟨by omega, by omega⟩
      · exact .inl hb

/-- All that Begin answers. -/
theorem tbegin_all (p : Nat) (now : List Int) (saved : List (List Int)) (fp : List Nat) (w : World) (h : Tr w p now saved fp) (hn : now.length ≤ 1000) (hs : saved.length = 1000) :
    Calls Tryd.prog 33 #[.pointer (some ⟨p, 0, none⟩)] w fun e w' => e = .returned (.int .i64 7) ∧ w = w' := by
  obtain ⟨A, c, h2, -, -⟩ := h.form
  rw [hs] at h2
  exact tbegin_full p c A w h.made h2

set_option maxHeartbeats 1000000 in
/-- Undo, with a level that has begun: the values are put back. -/
theorem tundo_in (p gc g m c n go : Nat) (now l : List Int) (w : World) (h0 : w.cell? ⟨p, 0, none⟩ = some (.bool true)) (h1 : w.cell? ⟨p, 1, none⟩ = some (.slice (some ⟨gc, 0, none⟩) n n))
    (h2 : w.cell? ⟨p, 2, none⟩ = some (.slice (some ⟨g, 0, none⟩) (m + 1) c)) (hm : m + 1 ≤ c) (hc : c ≤ maxLen) (hg : w.cell? ⟨g, m, none⟩ = some (.slice (some ⟨go, 0, none⟩) n n))
    (hnow : now.length = n) (hl : l.length = n) (hn : n ≤ 1000) (hgc : Blk w gc 3 (ints now)) (hgo : Blk w go 3 (ints l)) (hne : go ≠ gc) (hpc : p ≠ gc)
    (hlev : Calls Tryd.prog 42 #[.pointer (some ⟨p, 0, none⟩)] w fun e w' => e = .returned (.int .i64 ((m : Int) + 1)) ∧ w = w')
    (R : World → Prop) (hkeep : ∀ w', Only [gc] w w' → Blk w' gc 3 (ints l) → Calls Tryd.prog 43 #[.pointer (some ⟨p, 0, none⟩)] w' fun e w'' => e = .returned (.int .i64 0) ∧ R w'') :
    Calls Tryd.prog 35 #[.pointer (some ⟨p, 0, none⟩)] w fun e w' => e = .returned (.int .i64 0) ∧ R w' := by
  unfold maxLen at hc
  have HN := Lib.hid hnow
  have HL := Lib.hid hl
  have HGC := Lib.hid hgc
  have HGO := Lib.hid hgo
  have HLEV := Lib.hid hlev
  have HK := Lib.hid hkeep
  have hplt : p < w.heap.size := World.block_lt_of_cell? w _ h1
  have hz : ((m : Int) + 1 == 0) = false := by simp; omega
  have hb1 : (0 : Int) ≤ (m : Int) := Int.natCast_nonneg _
  have hb2 : (m : Int) < (m : Int) + 1 := by omega
  have hww : IntKind.i64.wrap (m : Int) = (m : Int) := IntWalk.i64_in _ (by omega)
  clear hnow hl hgc hgo hlev hkeep
  go_enter Tryd.func35, Tryd.ntmps35
  go_wp2_with fail
  refine (HLEV.out).mono ?_
  rintro e w1 ⟨rfl, rfl⟩
  go_wp2_with fail
  go_quiet (fail)
  go_wp2_with fail
  go_loopw [4, 24] (fun _ i wr => ∃ k : Nat, i = .int .i64 k ∧ k ≤ n ∧ Only [gc] w wr ∧ Hid (Blk wr gc 3 (ints (l.take k ++ now.drop k))))
    (fun _ i _ => n - (intOf i).toNat)
  case atStart => exact ⟨0, rfl, by omega, (Only.refl _ _).drewN _, Lib.hid (by simpa using HGC.out.drewN _)⟩
  case round =>
    obtain ⟨k, rfl, hk, O, HB⟩ := hrel
    have hlk := HL.out
    have hnk := HN.out
    by_cases hlt : k < n
    · obtain ⟨z, hz'⟩ : ∃ z, l[k]? = some z := ⟨_, List.getElem?_eq_getElem (by omega)⟩
      have HZ := Lib.hid hz'
      obtain ⟨y, hy⟩ : ∃ y, (ints (l.take k ++ now.drop k))[k]? = some y := ⟨_, Array.getElem?_eq_getElem (by rw [ints_size]; simp; omega)⟩
      have hc1 : wr.drew.cell? ⟨p, 1, none⟩ = some (.slice (some ⟨gc, 0, none⟩) n n) := (O.cell (p := ⟨p, 1, none⟩) hplt (by simpa using hpc)).trans h1
      have hck : wr.drew.cell? ⟨go, k, none⟩ = some (.int .i64 z) := (O.cell (p := ⟨go, k, none⟩) HGO.out.lt (by simpa using hne)).trans ((HGO.out.at_ k).trans (ints_at l k z hz'))
      have hcy : wr.cell? ⟨gc, k, none⟩ = some y := (HB.out.at_ k).trans hy
      have hcf : wr.frozen? ⟨gc, k, none⟩ = false := HB.out.free k
      have hk0 : (0 : Int) ≤ (k : Int) := Int.natCast_nonneg _
      have hk1 : (k : Int) < (n : Int) := by omega
      clear hz' hy hlk hnk
      go_wp2_with fail
      refine wp_region_noPanic ?_
      refine wp_region_timed (F := [⟨[], [10], fun w' => w'.cell? ⟨p, 1, none⟩ = some (.slice (some ⟨gc, 0, none⟩) n n)⟩, ⟨[], [10], fun w' => w'.cell? ⟨go, k, none⟩ = some (.int .i64 z)⟩]) (by kernel_rfl) (timed_holds (hc1) (timed_holds (hck) (timed_nil))) ?_
      refine timed_pure (i := 0) (v := ?_) rfl (by kernel_rfl) (by kernel_rfl) (by kernel_rfl) (fun _ _ _ h => h) (by kernel_rfl) (by kernel_rfl) ?_ ?_
      rotate_left
      · (intro w; go_simp; try with_reducible rfl)
      try simp only [Act.put, List.getElem_toArray, List.getElem_cons_zero, List.getElem_cons_succ, List.setIfInBounds_toArray, List.set_cons_zero, List.set_cons_succ]
      refine timed_pure (i := 1) (v := ?_) rfl (by kernel_rfl) (by kernel_rfl) (by kernel_rfl) (fun _ _ _ h => h) (by kernel_rfl) (by kernel_rfl) ?_ ?_
      rotate_left
      · (intro w; go_simp; try with_reducible rfl)
      try simp only [Act.put, List.getElem_toArray, List.getElem_cons_zero, List.getElem_cons_succ, List.setIfInBounds_toArray, List.set_cons_zero, List.set_cons_succ]
      refine timed_pure (i := 2) (v := ?_) rfl (by kernel_rfl) (by kernel_rfl) (by kernel_rfl) (fun _ _ _ h => h) (by kernel_rfl) (by kernel_rfl) ?_ ?_
      rotate_left
      · (intro w; go_simp; try with_reducible rfl)
      try simp only [Act.put, List.getElem_toArray, List.getElem_cons_zero, List.getElem_cons_succ, List.setIfInBounds_toArray, List.set_cons_zero, List.set_cons_succ]
      refine timed_read (i := 3) (v := ?_) 0 rfl (by kernel_rfl) (by kernel_rfl) (by kernel_rfl) (fun _ _ _ h => h) (by kernel_rfl) (by kernel_rfl) rfl (by kernel_rfl) ?_ ?_
      rotate_left
      · (intro w hSw; (try dsimp only at hSw); go_simp; try with_reducible rfl)
      try simp only [Act.put, List.getElem_toArray, List.getElem_cons_zero, List.getElem_cons_succ, List.setIfInBounds_toArray, List.set_cons_zero, List.set_cons_succ]
      refine timed_pure (i := 4) (v := ?_) rfl (by kernel_rfl) (by kernel_rfl) (by kernel_rfl) (fun _ _ _ h => h) (by kernel_rfl) (by kernel_rfl) ?_ ?_
      rotate_left
      · (intro w; go_simp; try with_reducible rfl)
      try simp only [Act.put, List.getElem_toArray, List.getElem_cons_zero, List.getElem_cons_succ, List.setIfInBounds_toArray, List.set_cons_zero, List.set_cons_succ]
      refine timed_pure (i := 5) (v := ?_) rfl (by kernel_rfl) (by kernel_rfl) (by kernel_rfl) (fun _ _ _ h => h) (by kernel_rfl) (by kernel_rfl) ?_ ?_
      rotate_left
      · (intro w; go_simp; try with_reducible rfl)
      try simp only [Act.put, List.getElem_toArray, List.getElem_cons_zero, List.getElem_cons_succ, List.setIfInBounds_toArray, List.set_cons_zero, List.set_cons_succ]
      refine timed_pure (i := 6) (v := ?_) rfl (by kernel_rfl) (by kernel_rfl) (by kernel_rfl) (fun _ _ _ h => h) (by kernel_rfl) (by kernel_rfl) ?_ ?_
      rotate_left
      · (intro w; go_simp; try with_reducible rfl)
      try simp only [Act.put, List.getElem_toArray, List.getElem_cons_zero, List.getElem_cons_succ, List.setIfInBounds_toArray, List.set_cons_zero, List.set_cons_succ]
      refine timed_pure (i := 7) (v := ?_) rfl (by kernel_rfl) (by kernel_rfl) (by kernel_rfl) (fun _ _ _ h => h) (by kernel_rfl) (by kernel_rfl) ?_ ?_
      rotate_left
      · (intro w; go_simp; try with_reducible rfl)
      try simp only [Act.put, List.getElem_toArray, List.getElem_cons_zero, List.getElem_cons_succ, List.setIfInBounds_toArray, List.set_cons_zero, List.set_cons_succ]
      refine timed_read (i := 8) (v := ?_) 1 rfl (by kernel_rfl) (by kernel_rfl) (by kernel_rfl) (fun _ _ _ h => h) (by kernel_rfl) (by kernel_rfl) rfl (by kernel_rfl) ?_ ?_
      rotate_left
      · (intro w hSw; (try dsimp only at hSw); go_simp; try with_reducible rfl)
      try simp only [Act.put, List.getElem_toArray, List.getElem_cons_zero, List.getElem_cons_succ, List.setIfInBounds_toArray, List.set_cons_zero, List.set_cons_succ]
      refine timed_pure (i := 9) (v := ?_) rfl (by kernel_rfl) (by kernel_rfl) (by kernel_rfl) (fun _ _ _ h => h) (by kernel_rfl) (by kernel_rfl) ?_ ?_
      rotate_left
      · (intro w; go_simp; try with_reducible rfl)
      try simp only [Act.put, List.getElem_toArray, List.getElem_cons_zero, List.getElem_cons_succ, List.setIfInBounds_toArray, List.set_cons_zero, List.set_cons_succ]
      refine timed_step (i := 10) (by kernel_rfl) rfl (fun K hK => ?_)
      go_simp
      refine hK.out _ _ (timed_over (by kernel_rfl) (timed_over (by kernel_rfl) (timed_nil))) ?_
      clear hK K
      try simp only [Act.put, List.getElem_toArray, List.getElem_cons_zero, List.getElem_cons_succ, List.setIfInBounds_toArray, List.set_cons_zero, List.set_cons_succ]
      refine timed_done (by kernel_rfl) ?_ _
      refine NoPanic.normal ?_
      go_wp2
      go_roundw
      case rel =>
        refine ⟨k + 1, by go_num, by omega, (O.drew.put (by simp) _), ?_⟩
        have := HB.out.drew.put k (.int .i64 z)
        rw [ints_set] at this
        have e : (l.take k ++ now.drop k).set k z = l.take (k + 1) ++ now.drop (k + 1) := by
          have h1 := HL.out
          have h2 := HN.out
          have h3 := HZ.out
          rw [List.set_append_right _ _ (by simp; omega)]
          have hk' : (l.take k).length = k := by simp; omega
          rw [hk', Nat.sub_self, List.drop_eq_getElem_cons (by omega), List.set_cons_zero, List.take_succ_eq_append_getElem (by omega), List.append_assoc]
          have : l[k]'(by omega) = z := by
            rw [List.getElem?_eq_getElem (by omega)] at h3
            exact Option.some.inj h3
          simp [this]
        rw [e] at this
        exact this
      case measure => simp [intOf]; omega
    · have hge : n ≤ k := by omega
      have hB' : Blk wr gc 3 (ints l) := by
        have := HB.out
        rw [List.take_of_length_le (by omega), List.drop_eq_nil_of_le (by omega), List.append_nil] at this
        exact this
      have HB' := Lib.hid hB'
      clear hB' hlk hnk
      go_wp2_with fail
      refine (HK.out _ O HB'.out).mono ?_
      rintro e w9 ⟨rfl, hR⟩
      go_wp2
      go_ret
      exact ⟨rfl, hR⟩

theorem tundo_any (p : Nat) (now : List Int) (init : List (List Int)) (l : List Int) (fp : List Nat) (w : World) (h : Tr w p now (init ++ [l]) fp) (hn : now.length ≤ 1000) :
    Calls Tryd.prog 35 #[.pointer (some ⟨p, 0, none⟩)] w fun e w' => e = .returned (.int .i64 0) ∧ Tr w' p l init fp ∧ l.length = now.length ∧ Only fp w w' := by
  have h' := h
  obtain ⟨gc, V, gs, hp, hc, hV, hs, m1, m2, m3, m4⟩ := h.lies
  have hlen : (init ++ [l]).length = init.length + 1 := by simp
  have hV0 := hV
  rw [hlen] at hV
  obtain ⟨g, c, rfl, -, -⟩ := hV.form (by omega)
  have hcap : init.length + 1 ≤ c ∧ c ≤ maxLen := by
    obtain ⟨A', c', e, h1, h2, -⟩ := own_row hV
    injection e with _ _ e
    subst e
    exact ⟨h1, h2⟩
  have hgl : gs.length = init.length + 1 := by simpa using hV.1
  obtain ⟨go, hgo⟩ : ∃ go, gs[init.length]? = some go := ⟨_, List.getElem?_eq_getElem (by omega)⟩
  obtain ⟨hbo, hlo, hneo⟩ := hs init.length go l hgo (by simp)
  have hcell : w.cell? ⟨g, init.length, none⟩ = some (.slice (some ⟨go, 0, none⟩) now.length now.length) := by
    rw [hV.cellAt init.length (by omega)]
    simp [hgo]
  have hlev := tlevel_any p now (init ++ [l]) fp w h'
  have e1 : (((init ++ [l]).length : Nat) : Int) = (init.length : Int) + 1 := by simp
  rw [e1] at hlev
  have hp2 := hp.at_ 2
  refine (tundo_in p gc g init.length c now.length go now l w (hp.at_ 0) (hp.at_ 1) hp2 hcap.1 hcap.2 hcell rfl hlo hn hc hbo hneo (hp.apart hc (by decide)) hlev
    (fun w'' => Tr w'' p l init fp ∧ Only fp w w'') ?_).mono ?_
  · intro w1 O hB
    have hT : Tr w1 p l (init ++ [l]) fp := by
      refine ⟨gc, .slice (some ⟨g, 0, none⟩) (init.length + 1) c, gs, ?_, hB, ?_, fun i g' l' hg hl => ?_, m1, m2, m3, m4⟩
      · have := O.blk hp (by simpa using hp.apart hc (by decide))
        rw [hlo]
        exact this
      · rw [hlen, hlo]
        exact own_only hV O (fun g' hg' hm => by
          obtain ⟨cur, hcur⟩ := own_blk hV hg'
          simp at hm
          subst hm
          exact hcur.apart hc (by decide) rfl)
      · obtain ⟨hb, hl', hne⟩ := hs i g' l' hg hl
        exact ⟨O.blk hb (by simpa using hne), by rw [hlo]; exact hl', hne⟩
    refine (tkeep_any p l init l fp w1 hT).mono ?_
    rintro e w2 ⟨rfl, hT2, hO2⟩
    exact ⟨rfl, hT2, (O.wide (fun i hi _ => by simp at hi; subst hi; exact m2)).trans hO2⟩
  · rintro e w2 ⟨rfl, hT2, hO2⟩
    exact ⟨rfl, hT2, hlo, hO2⟩

set_option maxHeartbeats 400000 in
theorem tundo_none (p : Nat) (r : Int) (w : World) (hlev : Calls Tryd.prog 42 #[.pointer (some ⟨p, 0, none⟩)] w fun e w' => e = .returned (.int .i64 0) ∧ w = w')
    (hk : Calls Tryd.prog 43 #[.pointer (some ⟨p, 0, none⟩)] w fun e w' => e = .returned (.int .i64 r) ∧ w = w') :
    Calls Tryd.prog 35 #[.pointer (some ⟨p, 0, none⟩)] w fun e w' => e = .returned (.int .i64 r) ∧ w = w' := by
  have HL := Lib.hid hlev
  have HK := Lib.hid hk
  clear hlev hk
  go_enter Tryd.func35, Tryd.ntmps35
  go_wp2_with fail
  refine (HL.out).mono ?_
  rintro e w1 ⟨rfl, rfl⟩
  go_wp2_with fail
  refine (HK.out).mono ?_
  rintro e w1 ⟨rfl, rfl⟩
  go_wp2
  go_ret
  exact ⟨rfl, rfl⟩

end Go.Proofs.YtbidciakljpkiaaDoor
