/- The law's works() of layer 19. -/
import Derived.Test.YtfekejhcikkhdaaDoorGraphG
set_option linter.unusedVariables false
set_option linter.unusedSimpArgs false
namespace Go.Proofs.YtfekejhcikkhdaaDoor
open Go.RowKit
attribute [local go_sem ↓] Go.wp_at_zero Go.wp_at_succ

theorem wm_of : ofS 2 [((0 : Int), (1 : Int))] = ([putW noW 1, noW], [noW, putW noW 0], [(0, 1)]) := by decide +kernel
theorem wm_pb : pB 2 [putW noW 1, noW] 1 0 = true := by decide +kernel
theorem wm_pe : pE 2 1 0 = 0 := by decide +kernel
theorem wm_po : pO 2 [putW noW 1, noW] 1 0 = [putW noW 1, putW noW 0] := by decide +kernel
theorem wm_pi : pI 2 [putW noW 1, noW] [noW, putW noW 0] 1 0 = [putW noW 1, putW noW 0] := by decide +kernel
theorem wm_ph : pH 2 [putW noW 1, noW] [(0, 1)] 1 0 = [(0, 1), (1, 0)] := by decide +kernel
theorem wm_un : (undoS [putW noW 1, putW noW 0] [putW noW 1, putW noW 0] [(0, 1), (1, 0)] 1).1 = [putW noW 1, noW] := by decide +kernel
theorem wm_un2 : (undoS [putW noW 1, putW noW 0] [putW noW 1, putW noW 0] [(0, 1), (1, 0)] 1).2 = [noW, putW noW 0] := by decide +kernel
theorem wm_h1 : ghN 2 [putW noW 1, noW] 0 1 = true := by decide +kernel
theorem wm_h2 : ghN 2 [putW noW 1, noW] 1 0 = false := by decide +kernel
theorem wm_e : (edgesTo [putW noW 1, noW] 2).length = 1 := by decide +kernel
theorem wm_g : [((0 : Int), (1 : Int))].all (goodE 2) = true := by decide +kernel

theorem wk_of (W0 : World) (A : Option Addr) (hrow : Row W0 W0.heap.size A (edgeC [((0 : Int), (1 : Int))])) :
    Calls Tryd.prog 9 #[.int .i64 2, .slice A 1 1] W0 fun e w1 => e = .returned (.tuple #[.pointer (some ⟨W0.heap.size, 0, none⟩), .int .i64 0]) ∧ Only [] W0 w1 ∧
      ∃ fp, Gr w1 W0.heap.size 2 [putW noW 1, noW] [noW, putW noW 0] [(0, 1)] fp ∧ ∀ b ∈ fp, W0.heap.size ≤ b := by
  refine (gof_any 2 A 1 1 [(0, 1)] W0 (by omega) hrow rfl (by omega)).mono ?_
  rintro e w1 ⟨hO, hc⟩
  rcases hc with ⟨h, _⟩ | ⟨-, rfl, fp, hG, hF⟩
  · rw [wm_g] at h; cases h
  · rw [wm_of] at hG
    exact ⟨rfl, hO, fp, hG, hF⟩

theorem wk_mark (w : World) (p : Nat) (fp : List Nat) (hG : Gr w p 2 [putW noW 1, noW] [noW, putW noW 0] [(0, 1)] fp) : Calls Tryd.prog 21 #[.pointer (some ⟨p, 0, none⟩)] w fun e w' => e = .returned (.int .i64 1) ∧ w = w' := by
  obtain ⟨A1, A2, A3, c1, c2, c3, po, qi, g⟩ := hG
  exact gmark_yes p A3 1 c3 w (g.blk.at_ 0) (g.blk.at_ 3)

theorem wk_put (w : World) (p : Nat) (fp : List Nat) (hG : Gr w p 2 [putW noW 1, noW] [noW, putW noW 0] [(0, 1)] fp) : Calls Tryd.prog 15 #[.pointer (some ⟨p, 0, none⟩), .int .i64 1, .int .i64 0] w fun e w' => e = .returned (.tuple #[.bool true, .int .i64 0]) ∧
    ∃ fp', Gr w' p 2 [putW noW 1, putW noW 0] [putW noW 1, putW noW 0] [(0, 1), (1, 0)] fp' ∧ Only fp w w' ∧ ∀ b ∈ fp', b ∈ fp ∨ w.heap.size ≤ b := by
  have h := gput_any p 2 _ _ _ fp 1 0 w hG (by simp) (by omega)
  rw [wm_pb, wm_pe, wm_po, wm_pi, wm_ph] at h
  exact h

theorem wk_undo (w : World) (p : Nat) (fp : List Nat) (hG : Gr w p 2 [putW noW 1, putW noW 0] [putW noW 1, putW noW 0] [(0, 1), (1, 0)] fp) : Calls Tryd.prog 17 #[.pointer (some ⟨p, 0, none⟩), .int .i64 1] w fun e w' => e = .returned (.int .i64 0) ∧
    Gr w' p 2 [putW noW 1, noW] [noW, putW noW 0] [(0, 1)] fp ∧ Only fp w w' := by
  have h := gundo_ok p 2 _ _ _ fp 1 w hG (by simp) (by simp) (by omega)
  rw [wm_un, wm_un2] at h
  exact h

theorem wk_has1 (w : World) (p : Nat) (fp : List Nat) (hG : Gr w p 2 [putW noW 1, noW] [noW, putW noW 0] [(0, 1)] fp) : Calls Tryd.prog 19 #[.pointer (some ⟨p, 0, none⟩), .int .i64 0, .int .i64 1] w fun e w' => e = .returned (.bool true) ∧ w = w' := by
  have h := ghas_any p 2 _ _ _ fp 0 1 w hG
  rw [wm_h1] at h
  exact h

theorem wk_has2 (w : World) (p : Nat) (fp : List Nat) (hG : Gr w p 2 [putW noW 1, noW] [noW, putW noW 0] [(0, 1)] fp) : Calls Tryd.prog 19 #[.pointer (some ⟨p, 0, none⟩), .int .i64 1, .int .i64 0] w fun e w' => e = .returned (.bool false) ∧ w = w' := by
  have h := ghas_any p 2 _ _ _ fp 1 0 w hG
  rw [wm_h2] at h
  exact h

theorem wk_edges (w : World) (p : Nat) (fp : List Nat) (hG : Gr w p 2 [putW noW 1, noW] [noW, putW noW 0] [(0, 1)] fp) (hT : Tab w) (h00 : 0 < w.heap.size) : Calls Tryd.prog 28 #[.pointer (some ⟨p, 0, none⟩)] w fun e w' => (∃ A c, e = .returned (.slice A 1 c)) ∧ Only [] w w' := by
  have h := gedges_any p 2 _ _ _ fp w hG (by simp) (by omega) hT h00
  rw [wm_e] at h
  refine h.mono ?_
  rintro e w' ⟨v, ⟨rfl, hv⟩, hO⟩
  obtain ⟨B, cb, rfl, -, -, -, -⟩ := own_row hv
  exact ⟨⟨_, _, rfl⟩, hO⟩

set_option maxHeartbeats 2000000 in
theorem works19_any (w : World) (hT : Tab w) (h00 : 0 < w.heap.size) : Calls Tryd.prog 11 #[] w fun e w' => e = .returned (.bool true) ∧ Only [] w w' := by
  have HOF := Lib.hid (fun W0 A hrow => wk_of W0 A hrow)
  have HMK := Lib.hid (fun w p fp hG => wk_mark w p fp hG)
  have HPU := Lib.hid (fun w p fp hG => wk_put w p fp hG)
  have HUN := Lib.hid (fun w p fp hG => wk_undo w p fp hG)
  have HH1 := Lib.hid (fun w p fp hG => wk_has1 w p fp hG)
  have HH2 := Lib.hid (fun w p fp hG => wk_has2 w p fp hG)
  have HED := Lib.hid (fun w p fp hG hT h00 => wk_edges w p fp hG hT h00)
  have HT := Lib.hid hT
  clear hT
  go_enter Tryd.func11, Tryd.ntmps11
  go_wp2_with fail
  refine (HOF.out _ _ (by rw [World.size_alloc]; exact row_lit w 53 #[.int .i64 0, .int .i64 1])).mono ?_
  rintro e w1 ⟨rfl, hO1', fp, hG, hF⟩
  obtain ⟨q, hq⟩ : ∃ q, q = (w.alloc (.cells #[.int .i64 0, .int .i64 1] 53)).heap.size := ⟨_, rfl⟩
  rw [← hq] at hG hF
  simp only [← hq]
  have hO1 : Only [] w w1 := ((Only.refl [] w).alloc _).trans hO1'
  have hqw : w.heap.size ≤ q := by rw [hq, World.size_alloc]; omega
  have HG := Lib.hid hG
  clear hG hq hO1'
  go_wp2_with fail
  refine (HMK.out _ _ _ HG.out).mono ?_
  rintro e w2 ⟨rfl, rfl⟩
  go_wp2_with fail
  refine (HPU.out _ _ _ HG.out).mono ?_
  rintro e w2 ⟨rfl, fp2, hG2, hO2, hF2⟩
  have HG2 := Lib.hid hG2
  clear hG2
  go_wp2_with fail
  refine (HUN.out _ _ _ HG2.out).mono ?_
  rintro e w3 ⟨rfl, hG3, hO3⟩
  have O2 : Only [] w w2 := hO1.step hO2 (fun i hi hl => by have := hF i hi; omega)
  have O3 : Only [] w w3 := O2.step hO3 (fun i hi hl => by
    rcases hF2 i hi with h | h
    · have := hF i h; omega
    · have := hO1.size; omega)
  have HG3 := Lib.hid hG3
  clear hG3
  go_wp2_with fail
  refine (HH1.out _ _ _ HG3.out).mono ?_
  rintro e w4 ⟨rfl, rfl⟩
  go_wp2_with fail
  refine (HH2.out _ _ _ HG3.out).mono ?_
  rintro e w4 ⟨rfl, rfl⟩
  go_wp2_with fail
  refine (HED.out _ _ _ HG3.out (HT.out.only h00 O3 (by simp)) (by have := O3.size; omega)).mono ?_
  rintro e w5 ⟨⟨A, c, rfl⟩, hO5⟩
  go_wp2
  go_ret
  exact ⟨rfl, O3.trans hO5⟩

end Go.Proofs.YtfekejhcikkhdaaDoor
