/- Parts. -/
import Derived.Test.YtlemjgjpglmphaaDoorPartOfCardK43
set_option maxRecDepth 10000
set_option maxHeartbeats 16000000
set_option linter.unusedVariables false
set_option linter.unusedSimpArgs false
namespace Go.Proofs.YtlemjgjpglmphaaDoor
open Go.RowKit
attribute [local go_sem ↓] Go.wp_at_zero Go.wp_at_succ
theorem rmay20_any (n : Int) (A : Option Addr) (m c : Nat) (l : List (Int × Int)) (w : World) (hr : Row w w.heap.size A (edgeC l)) (hl : l.length = m) (hm : m ≤ 1000000) :
  Calls Tryd.prog 10 #[.int .i64 n, .slice A m c] w fun e w' => e = .returned (.bool (mayL n l)) ∧ w = w' := by
 have HM := Hd (rmay19_any n A m c l w hr hl hm);clear hr hl;go_enter Tryd.func10, Tryd.ntmps10;go_wp2_with fail
 refine (HM.out).mono ?_;rintro e w1 ⟨rfl, rfl⟩;go_wp2
 go_ret
 exact ⟨rfl, rfl⟩
theorem two_of {qs : List LP} {a b : List Int} (h : qs.map LP.L = [a, b]) : ∃ x y : LP, qs = [x, y] ∧ x.L = a ∧ y.L = b := by
 rcases qs with _ | ⟨x, _ | ⟨y, _ | ⟨z, r⟩⟩⟩
 ·simp at h
 ·simp at h
 ·simp at h;exact ⟨x, y, rfl, h.1, h.2⟩
 ·simp at h
theorem ex_parts : partR 3 [(0, 1), (1, 0), (1, 2)] = ([[0, 1], [2]], 0) := by kernel_rfl
theorem works20_any (w : World) (hT : Tab w) (h00 : 0 < w.heap.size) : Calls Tryd.prog 11 #[] w fun e w' => e = .returned (.bool true) ∧ Only [] w w' := by
 have OE := (Only.refl [] w).alloc (.cells #[.int .i64 0, .int .i64 1, .int .i64 1, .int .i64 0, .int .i64 1, .int .i64 2] 39);have HO0 := Hd OE;have HL := Hd (by
  have := pof_any 3 (some ⟨w.heap.size, 0, none⟩) 3 3 [(0, 1), (1, 0), (1, 2)] _ (by rw [World.size_alloc]; exact row_lit w 39 #[.int .i64 0, .int .i64 1, .int .i64 1, .int .i64 0, .int .i64 1, .int .i64 2]) rfl (by omega) (hT.only h00 OE (by simp)) (by simp);rw [ex_parts] at this;exact this)
 dsimp only at HL;clear hT OE;go_enter Tryd.func11, Tryd.ntmps11;go_wp2_with fail
 refine (HL.out).mono ?_;rintro e w1 ⟨qs, A1, c1, ⟨rfl, hv, hq, hL⟩, O1⟩;have HO1 := Hd (HO0.out.trans O1);obtain ⟨x, y, rfl, hx, hy⟩ := two_of hL;have hX := (hq x (by simp)).1;have hY := (hq y (by simp)).1;have hvx : x.v = .slice (some ⟨x.b, 0, none⟩) 2 x.c := by unfold LP.v; rw [hx]; rfl
 have hvy : y.v = .slice (some ⟨y.b, 0, none⟩) 1 y.c := by unfold LP.v; rw [hy]; rfl
 rw [hvx, hx] at hX;rw [hvy, hy] at hY;have hRo := row_of_own hv;rw [List.map_cons, List.map_cons, List.map_nil, hvx, hvy] at hRo;obtain ⟨br, off, rfl, -, hbw, hcell⟩ := hRo.open_ (k := 0) (by simp);have e0 := hcell 0 _ rfl;have e1 := hcell 1 _ rfl;rw [Nat.add_zero] at e0;have HX := Hd hX;have HY := Hd hY;clear hcell hRo hv hq hL hX hY hx hy hvx hvy O1 HL HO0;go_wp2_with fail
 have O2 : Only [] w1 (w1.alloc (.cells #[.int .i64 0, .int .i64 1] 3)) := (Only.refl [] w1).alloc _;refine (sameInts_any (some ⟨x.b, 0, none⟩) (some ⟨w1.heap.size, 0, none⟩) 2 2 x.c 2 [0, 1] [0, 1] _ _ _ (row_of_own (own_only HX.out O2 (by simp))) (row_lit w1 3 #[.int .i64 0, .int .i64 1]) rfl rfl (by omega) (by omega)).mono ?_;rintro e w2 ⟨rfl, kd, rfl⟩;have O3 := O2.drewN kd;have HO3 := Hd (HO1.out.trans O3);have HY3 := Hd (own_only HY.out O3 (by simp));have e3 := (O3.cell (p := ⟨br, off + 1, none⟩) hbw (by simp)).trans e1;have hbw3 := Nat.lt_of_lt_of_le hbw O3.size;clear O2 O3 HX HY e0 e1 hbw HO1;generalize (w1.alloc (.cells #[.int .i64 0, .int .i64 1] 3)).drewN kd = w3 at *;go_wp2_with fail
 have O4 : Only [] w3 (w3.alloc (.cells #[.int .i64 2] 3)) := (Only.refl [] w3).alloc _;refine (sameInts_any (some ⟨y.b, 0, none⟩) (some ⟨w3.heap.size, 0, none⟩) 1 1 y.c 1 [2] [2] _ _ _ (row_of_own (own_only HY3.out O4 (by simp))) (row_lit w3 3 #[.int .i64 2]) rfl rfl (by omega) (by omega)).mono ?_;rintro e w4 ⟨rfl, kd, rfl⟩;have HO5 := Hd (HO3.out.trans (O4.drewN kd));clear O4 HY3 e3 hbw3;go_wp2
 go_ret
 exact ⟨rfl, HO5.out⟩
end Go.Proofs.YtlemjgjpglmphaaDoor
