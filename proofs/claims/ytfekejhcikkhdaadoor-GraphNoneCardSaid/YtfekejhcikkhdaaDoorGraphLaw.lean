/- The laws GraphNone and GraphNew: their walks. -/
import Derived.Test.YtfekejhcikkhdaaDoorGraphW
set_option linter.unusedVariables false
set_option linter.unusedSimpArgs false
namespace Go.Proofs.YtfekejhcikkhdaaDoor
open Go.RowKit
attribute [local go_sem ↓] Go.wp_at_zero Go.wp_at_succ

theorem NotG.only {w w' : World} {o : Option Addr} (h : NotG w o) (ho : Only [] w w') (hlt : ∀ g, o = some ⟨g, 0, none⟩ → g < w.heap.size) : NotG w' o := by
  rcases h with h | ⟨g, h, h0⟩
  · exact .inl h
  · exact .inr ⟨g, h, (ho.cell (p := ⟨g, 0, none⟩) (hlt g h) (by simp)).trans h0⟩

set_option maxHeartbeats 2000000 in
theorem graphNone_walk (a b : Int) (w : World) (hT : Tab w) (h00 : 0 < w.heap.size) : Calls Tryd.prog 6 #[.int .i64 a, .int .i64 b] w fun e w' => e = .returned (.bool true) ∧ Only [] w w' := by
  have HPU := Lib.hid (fun o w (h : NotG w o) => gput_not o a b w h)
  have HHA := Lib.hid (fun o w (h : NotG w o) => ghas_not o a b w h)
  have HUN := Lib.hid (fun o w (h : NotG w o) => gundo_not o a w h)
  have HMA := Lib.hid (fun o w (h : NotG w o) => gmark_not o w h)
  have HLE := Lib.hid (fun o w (h : NotG w o) => glen_not o w h)
  have HNE := Lib.hid (fun o w (h : NotG w o) => gnext_not o a w h)
  have HBA := Lib.hid (fun o w (h : NotG w o) => gback_not o a w h)
  have HED := Lib.hid (fun o w (h : NotG w o) hlt => gedges_not o w h hlt)
  have HWO := Lib.hid (fun w h1 h2 => works19_any w h1 h2)
  have HT := Lib.hid hT
  have hn : ∀ W, NotG W none := fun W => .inl rfl
  clear hT
  go_enter Tryd.func6, Tryd.ntmps6
  go_wp2_with fail
  refine (HPU.out _ _ (hn _)).mono ?_
  rintro e w1 ⟨rfl, rfl⟩
  have hO1 := (Only.refl [] w).alloc (.cells #[.bool false, .slice none 0 0, .slice none 0 0, .slice none 0 0] 57)
  have hc1 : (w.alloc (.cells #[.bool false, .slice none 0 0, .slice none 0 0, .slice none 0 0] 57)).cell? ⟨w.heap.size, 0, none⟩ = some (.bool false) := (Blk.made w _ _).at_ 0
  have hs1 : w.heap.size < (w.alloc (.cells #[.bool false, .slice none 0 0, .slice none 0 0, .slice none 0 0] 57)).heap.size := by rw [World.size_alloc]; omega
  obtain ⟨W1, hW1⟩ : ∃ W1, W1 = w.alloc (.cells #[.bool false, .slice none 0 0, .slice none 0 0, .slice none 0 0] 57) := ⟨_, rfl⟩
  rw [← hW1] at hO1 hc1 hs1
  rw [← hW1]
  have hE : NotG W1 (some ⟨w.heap.size, 0, none⟩) := .inr ⟨_, rfl, hc1⟩
  clear hW1 hc1
  go_wp2_with fail
  refine (HPU.out _ _ hE).mono ?_
  rintro e w1 ⟨rfl, rfl⟩
  go_wp2_with fail
  refine (HHA.out _ _ (hn _)).mono ?_
  rintro e w1 ⟨rfl, rfl⟩
  go_wp2_with fail
  refine (HHA.out _ _ hE).mono ?_
  rintro e w1 ⟨rfl, rfl⟩
  go_wp2_with fail
  refine (HUN.out _ _ (hn _)).mono ?_
  rintro e w1 ⟨rfl, rfl⟩
  go_wp2_with fail
  refine (HUN.out _ _ hE).mono ?_
  rintro e w1 ⟨rfl, rfl⟩
  go_wp2_with fail
  refine (HMA.out _ _ (hn _)).mono ?_
  rintro e w1 ⟨rfl, rfl⟩
  go_wp2_with fail
  refine (HLE.out _ _ (hn _)).mono ?_
  rintro e w1 ⟨rfl, rfl⟩
  go_wp2_with fail
  refine (HMA.out _ _ hE).mono ?_
  rintro e w1 ⟨rfl, rfl⟩
  go_wp2_with fail
  refine (HLE.out _ _ hE).mono ?_
  rintro e w1 ⟨rfl, rfl⟩
  go_wp2_with fail
  refine (HNE.out _ _ (hn _)).mono ?_
  rintro e w1 ⟨rfl, rfl⟩
  go_wp2_with fail
  refine (HBA.out _ _ (hn _)).mono ?_
  rintro e w1 ⟨rfl, rfl⟩
  go_wp2_with fail
  refine (HED.out _ _ (hn _) (fun g h => by cases h)).mono ?_
  rintro e w2 ⟨⟨A, c, rfl⟩, hO2⟩
  have hE2 := hE.only hO2 (fun g h => by simp at h; omega)
  have hs2 : w.heap.size < w2.heap.size := Nat.lt_of_lt_of_le hs1 hO2.size
  go_wp2_with fail
  refine (HNE.out _ _ hE2).mono ?_
  rintro e w1 ⟨rfl, rfl⟩
  go_wp2_with fail
  refine (HBA.out _ _ hE2).mono ?_
  rintro e w1 ⟨rfl, rfl⟩
  go_wp2_with fail
  refine (HED.out _ _ hE2 (fun g h => by simp at h; omega)).mono ?_
  rintro e w3 ⟨⟨A', c', rfl⟩, hO3⟩
  have O3 := (hO1.trans hO2).trans hO3
  go_wp2_with fail
  refine (HWO.out _ (HT.out.only h00 O3 (by simp)) (by have := O3.size; omega)).mono ?_
  rintro e w4 ⟨rfl, hO4⟩
  go_wp2
  go_ret
  exact ⟨rfl, O3.trans hO4⟩

theorem made_len (n : Nat) (l : List (List Nat)) (h : ∀ i, i < n → l.getD i [] = noW) : (edgesTo l n).length = 0 := by
  induction n with
  | zero => rfl
  | succ n ih =>
    rw [edgesTo_succ, List.length_append, ih (fun i hi => h i (by omega))]
    unfold rowE
    rw [h n (by omega)]
    have : allW noW = [] := by decide +kernel
    rw [this]
    rfl

set_option maxHeartbeats 2000000 in
theorem graphNew_walk (n : Int) (w : World) (hT : Tab w) (h00 : 0 < w.heap.size) : Calls Tryd.prog 4 #[.int .i64 n] w fun e w' => e = .returned (.bool true) ∧ Only [] w w' := by
  have HWO := Lib.hid (fun w h1 h2 => works19_any w h1 h2)
  have HT := Lib.hid hT
  clear hT
  by_cases ho : n < 0 ∨ 500 < n
  · have HN := Lib.hid (gnew_no n w ho)
    by_cases h0 : n < 0
    · clear ho
      go_enter Tryd.func4, Tryd.ntmps4
      go_wp2_with fail
      refine (HN.out).mono ?_
      rintro e w1 ⟨rfl, rfl⟩
      go_wp2_with fail
      refine (HWO.out _ HT.out h00).mono ?_
      rintro e w4 ⟨rfl, hO4⟩
      go_wp2
      go_ret
      exact ⟨rfl, hO4⟩
    · have h1 : 500 < n := by omega
      clear ho
      go_enter Tryd.func4, Tryd.ntmps4
      go_wp2_with fail
      refine (HN.out).mono ?_
      rintro e w1 ⟨rfl, rfl⟩
      go_wp2_with fail
      refine (HWO.out _ HT.out h00).mono ?_
      rintro e w4 ⟨rfl, hO4⟩
      go_wp2
      go_ret
      exact ⟨rfl, hO4⟩
  · obtain ⟨k, rfl⟩ := Int.eq_ofNat_of_zero_le (show 0 ≤ n by omega)
    have hk : k ≤ 500 := by omega
    have HN := Lib.hid (gnew_ok k w hk)
    have h0 : ¬ ((k : Int) < 0) := by omega
    have h1 : ¬ ((500 : Int) < (k : Int)) := by omega
    clear ho
    go_enter Tryd.func4, Tryd.ntmps4
    go_wp2_with fail
    refine (HN.out).mono ?_
    rintro e w1 ⟨rfl, ⟨A1, A2, c1, c2, po, qi, hNG⟩, hO1⟩
    obtain ⟨fp, hG, hF⟩ := Gr.of_new hNG
    have HLE := Lib.hid (glen_yes w.heap.size A1 k c1 w1 (hNG.blk.at_ 0) (hNG.blk.at_ 1))
    have HMA := Lib.hid (gmark_yes w.heap.size none 0 0 w1 (hNG.blk.at_ 0) (hNG.blk.at_ 3))
    have he := gedges_any w.heap.size k _ _ _ fp w1 hG (by simp) hk (HT.out.only h00 hO1 (by simp)) (by have := hO1.size; omega)
    rw [made_len k _ (fun i hi => by simp [List.getD_eq_getElem?_getD, List.getElem?_replicate, hi])] at he
    have HE := Lib.hid he
    clear hNG hG he
    go_wp2_with fail
    refine (HLE.out).mono ?_
    rintro e w2 ⟨rfl, rfl⟩
    go_wp2_with fail
    refine (HMA.out).mono ?_
    rintro e w2 ⟨rfl, rfl⟩
    go_wp2_with fail
    refine (HE.out).mono ?_
    rintro e w3 ⟨v, ⟨rfl, hv⟩, hO3⟩
    obtain ⟨B, cb, rfl, -, -, -, -⟩ := own_row hv
    have O3 := hO1.trans hO3
    go_wp2_with fail
    refine (HWO.out _ (HT.out.only h00 O3 (by simp)) (by have := O3.size; omega)).mono ?_
    rintro e w4 ⟨rfl, hO4⟩
    go_wp2
    go_ret
    exact ⟨rfl, O3.trans hO4⟩

end Go.Proofs.YtfekejhcikkhdaaDoor
