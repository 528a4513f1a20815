/- Law 19's helpers: Few, Small; whether two lists of edges are the same. -/
import Derived.Test.YtlipapclbemjjaaDoorCloseOfCardK20
set_option linter.unusedVariables false
set_option linter.unusedSimpArgs false
namespace Go.Proofs.YtlipapclbemjjaaDoor
open Go.RowKit
attribute [local go_sem ↓] Go.wp_at_zero Go.wp_at_succ
attribute [-go_sem] Go.run_slice_l Go.run_slice_h Go.run_slice_any Go.run_slice_lh in
set_option maxHeartbeats 1000000 in
theorem few19_any (A : Option Addr) (n c : Nat) (l : List (Int × Int)) (w : World) (hr : Row w w.heap.size A (edgeC l)) (hl : l.length = n) (hnc : n ≤ c) (hc : c ≤ maxLen) :
  Calls Tryd.prog 7 #[.slice A n c] w fun e w' => ∃ v, e = .returned v ∧ w'.ownsRow w.heap.size 47 2 v (min n 60) (edgeC (l.take (min n 60))) ∧ Only [] w w' := by
 obtain ⟨i0, hi, hz0, hz1, hz2⟩ := info_parts info_edge
 unfold maxLen at hc
 have AP : ∀ j, j = min n 60 → Row (w.alloc (.cells #[] 47)) w.heap.size A (edgeC (l.take (min n 60))) ∧ (edgeC (l.take (min n 60))).length = j * 2 := by
  rintro j rfl
  refine ⟨?_, by rw [edgeC_len, List.length_take, hl, Nat.min_eq_left (Nat.min_le_left n 60)]⟩
  rw [edgeC_take]
  exact (hr.take (min n 60 * 2)).only ((Only.refl [] w).alloc _) (by simp)
 have HAP := Lib.hid AP
 clear hr AP
 by_cases hn : n ≤ 60
 ·have hsl := fun W => slice_to A n c n (by omega) W
  have hmin : min n 60 = n := by omega
  rw [hmin] at HAP ⊢
  go_enter Tryd.func7, Tryd.ntmps7
  go_wp2_with (
   at_builtin
   refine wpList_append_row _ rfl (.tmp 3) (.tmp 8) 22 rfl w.heap.size 47 i0 _ 2 16 Tryd.underlying22 hi hz0 hz1 hz2 rfl (by omega) (.slice (some ⟨w.heap.size, 0, none⟩) 0 0) 0 [] (by rfl) (World.ownsRow_lit w #[] 0 (Nat.le_refl _) (by unfold maxLen; omega) rfl) w.heap.size A n c (edgeC (l.take n)) (by rfl) (HAP.out n rfl).2 (HAP.out n rfl).1 (one_edgeC _) (by unfold maxLen; omega) (by omega) (by rw [World.size_alloc]; omega) ?_
   intro v w1 hown hgrow hat)
  exact bodyPost_ret (v := v) (by simp [results, Tryd.results7, go_sem]) rfl ⟨v, rfl, by simpa using hown, ((Only.refl [] w).alloc _).step (Only.of_grown (S := [w.heap.size]) hgrow (fun g hg _ => by simp [Value.ownBlock] at hg; simp [hg])) (fun i hi hlt => by simp at hi; omega)⟩
 ·have hsl : ∀ W, (Instr.slice 22 (.slice A n c) none (some (.int .i64 60)) none).run Tryd.prog W = .ok (.slice A 60 c) W := fun W => slice_to A n c 60 (by omega) W
  have hmin : min n 60 = 60 := by omega
  have hn' : (60 : Int) < n := by omega
  rw [hmin] at HAP ⊢
  go_enter Tryd.func7, Tryd.ntmps7
  go_wp2_with (
   at_builtin
   refine wpList_append_row _ rfl (.tmp 3) (.tmp 8) 22 rfl w.heap.size 47 i0 _ 2 16 Tryd.underlying22 hi hz0 hz1 hz2 rfl (by omega) (.slice (some ⟨w.heap.size, 0, none⟩) 0 0) 0 [] (by rfl) (World.ownsRow_lit w #[] 0 (Nat.le_refl _) (by unfold maxLen; omega) rfl) w.heap.size A 60 c (edgeC (l.take 60)) (by rfl) (HAP.out 60 rfl).2 (HAP.out 60 rfl).1 (one_edgeC _) (by unfold maxLen; omega) (by omega) (by rw [World.size_alloc]; omega) ?_
   intro v w1 hown hgrow hat)
  exact bodyPost_ret (v := v) (by simp [results, Tryd.results7, go_sem]) rfl ⟨v, rfl, by simpa using hown, ((Only.refl [] w).alloc _).step (Only.of_grown (S := [w.heap.size]) hgrow (fun g hg _ => by simp [Value.ownBlock] at hg; simp [hg])) (fun i hi hlt => by simp at hi; omega)⟩
def smallN (n : Int) : Int := if 30 < n ∧ n ≤ 500 then n % 31 else n
set_option maxHeartbeats 400000 in
theorem small19_any (n : Int) (w : World) : Calls Tryd.prog 6 #[.int .i64 n] w fun e w' => e = .returned (.int .i64 (smallN n)) ∧ w = w' := by
 by_cases h1 : 30 < n
 ·by_cases h2 : n ≤ 500
  ·have hs : smallN n = n % 31 := if_pos ⟨h1, h2⟩
   have hrem : n.tmod 31 = n % 31 := Int.tmod_eq_emod_of_nonneg (by omega)
   rw [hs]
   go_enter Tryd.func6, Tryd.ntmps6
   go_wp2
   go_ret
   exact ⟨rfl, rfl⟩
  ·have hs : smallN n = n := if_neg (fun h => h2 h.2)
   rw [hs]
   go_enter Tryd.func6, Tryd.ntmps6
   go_wp2
   go_ret
   exact ⟨rfl, rfl⟩
 ·have hs : smallN n = n := if_neg (fun h => h1 h.1)
  rw [hs]
  go_enter Tryd.func6, Tryd.ntmps6
  go_wp2
  go_ret
  exact ⟨rfl, rfl⟩
set_option maxHeartbeats 1000000 in
theorem sameEdges_eq (A A' : Option Addr) (n c d : Nat) (l : List (Int × Int)) (w : World) (B B' : Nat) (hA : Row w B A (edgeC l)) (hA' : Row w B' A' (edgeC l)) (hn : l.length = n) (hnm : n ≤ 9223372036854775807) :
  Calls Tryd.prog 12 #[.slice A n c, .slice A' n d] w fun e w' => e = .returned (.bool true) ∧ ∃ k, w.drewN k = w' := by
 have HA := Lib.hid hA
 have HA' := Lib.hid hA'
 have HN := Lib.hid hn
 clear hA hA' hn
 go_enter Tryd.func12, Tryd.ntmps12
 go_wp2_with fail
 go_loopw [5] (fun i wr => ∃ k q : Nat, i = .int .i64 k ∧ k ≤ n ∧ Hid (wr = w.drewN q)) (fun i _ => n - (intOf i).toNat)
 case atStart => exact ⟨0, 0, rfl, by omega, rfl⟩
 case round =>
  obtain ⟨k, q, rfl, hk, hw⟩ := hrel
  have hxl := HN.out
  by_cases hlt : k < n
  ·obtain ⟨b, off, rfl, -, hbw, hc⟩ := HA.out.open_ (k := k * 2) (by rw [edgeC_len]; omega)
   obtain ⟨b', off', rfl, -, hbw', hc'⟩ := HA'.out.open_ (k := k * 2) (by rw [edgeC_len]; omega)
   obtain ⟨e, he⟩ : ∃ e, l[k]? = some e := ⟨_, List.getElem?_eq_getElem (by omega)⟩
   obtain ⟨x, y⟩ := e
   have hee := edgeC_get l k _ he
   have hc0 : wr.cell? ⟨b, off + k * 2, none⟩ = some (.int .i64 x) := by rw [hw.out]; exact hc _ _ hee.1
   have hc1 : wr.cell? ⟨b, off + k * 2 + 1, none⟩ = some (.int .i64 y) := by rw [hw.out, Nat.add_assoc]; exact hc _ _ hee.2
   have hc2 : wr.cell? ⟨b', off' + k * 2, none⟩ = some (.int .i64 x) := by rw [hw.out]; exact hc' _ _ hee.1
   have hc3 : wr.cell? ⟨b', off' + k * 2 + 1, none⟩ = some (.int .i64 y) := by rw [hw.out, Nat.add_assoc]; exact hc' _ _ hee.2
   have hk0 : (0 : Int) ≤ (k : Int) := Int.natCast_nonneg _
   have hk1 : (k : Int) < (n : Int) := by omega
   clear hc hc' hxl hee he
   go_wp2_with fail
   go_quiet (fail)
   go_wp2
   go_roundw
   case rel =>
    refine ⟨k + 1, q + nq, by go_num, by omega, ?_⟩
    show _ = _
    rw [hw.out, World.drewN_drewN]
   case measure => simp [intOf]; omega
  ·have hge : n ≤ k := by omega
   clear hxl
   go_wp2
   go_ret
   exact ⟨rfl, q, hw.out.symm⟩
end Go.Proofs.YtlipapclbemjjaaDoor
