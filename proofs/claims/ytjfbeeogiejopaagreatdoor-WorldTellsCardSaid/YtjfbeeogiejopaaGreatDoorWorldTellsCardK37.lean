/- The document's inner: there. -/
import Derived.Test.YtjfbeeogiejopaaGreatDoorWorldTellsCardK22
import Derived.Test.YtjfbeeogiejopaaGreatDoorWorldTellsCardK36
import Derived.Test.YtjfbeeogiejopaaGreatDoorWorldTellsCardK6
set_option maxRecDepth 10000
set_option maxHeartbeats 16000000
set_option linter.unusedVariables false
set_option linter.unusedSimpArgs false
namespace Go.Proofs.YtjfbeeogiejopaaGreatDoor
open Go.RowKit
open Go.Lib hiding intOf
attribute [local go_sem ↓] Go.wp_at_zero Go.wp_at_succ
def thereB (h : Hst) (a b : Int) : Bool := (opAtH h a b).isSome
theorem there_none {h : Hst} {a b : Int} (ho : opAtH h a b = none) : thereB h a b = false := by unfold thereB; rw [ho]; rfl
theorem there_some {h : Hst} {a b : Int} {x : Tx × Op4} (ho : opAtH h a b = some x) : thereB h a b = true := by unfold thereB; rw [ho]; rfl
theorem rthere_any (A0 A1 A2 : Option Addr) (n0 n1 n2 c0 c1 c2 B : Nat) (h : Hst) (a b : Int) (w : World) (hg : HIn w B A0 A1 A2 n0 n1 n2 h) :
  Calls Tryz.prog 87 #[hval A0 A1 A2 n0 n1 n2 c0 c1 c2, .agg #[.int .i64 a, .int .i64 b]] w fun e w' => e = .returned (.bool (thereB h a b)) ∧ Only [] w w' := by
 have HF := Hd (fun w' (O : Only [] w w') => refmay_any A0 A1 A2 n0 n1 n2 c0 c1 c2 B h w' (hg.same O));have HL := Hd hg.at_.r2;have HN2 := Hd hg.n2;unfold hval at HF ⊢;clear hg;have HO1 := Hd (((Only.refl [] w).alloc (.cells #[.slice A0 n0 c0, .slice A1 n1 c1, .slice A2 n2 c2] 25)).alloc (.cells #[.int .i64 a, .int .i64 b] 27));have HB1 := Hd ((Blk.made w 25 #[.slice A0 n0 c0, .slice A1 n1 c1, .slice A2 n2 c2]).alloc (.cells #[.int .i64 a, .int .i64 b] 27));have HP1 := Hd (Blk.made (w.alloc (.cells #[.slice A0 n0 c0, .slice A1 n1 c1, .slice A2 n2 c2] 25)) 27 #[.int .i64 a, .int .i64 b]);rw [World.size_alloc] at HP1;go_enter Tryz.func87, Tryz.ntmps87;go_wp2_with fail
 generalize ((w.alloc (.cells #[.slice A0 n0 c0, .slice A1 n1 c1, .slice A2 n2 c2] 25)).alloc (.cells #[.int .i64 a, .int .i64 b] 27)) = w1 at *;generalize w.heap.size + 1 = gp at *;generalize hgg : w.heap.size = g at *;have hsz : g ≤ w1.heap.size := by have := HO1.out.size; omega
 cases hm : mayH h with
 | false =>
  rw [mayH_errn2 hm] at HF;have HE := Hd (there_none (opAt_none (b := b) (txAt_no (a := a) hm)));clear hm;refine wp_region_noPanic ?_;refine wp_region_timed (F := [⟨[], [], fun w' => Only [] w1 w'⟩]) (by kernel_rfl) (th1 ((Only.refl [] w1).drew)) ?_;refine trd (i := 0) (v := ?_) 0 ?_ ?_;rotate_left
  ·(intro wq hSw; obtain ⟨lb_H, y0, y1, y2⟩ := Bk3 (hSw.blk HB1.out (by simp)); simp at y0 y1 y2; obtain ⟨lb_P, p0, p1⟩ := Bk2 (hSw.blk HP1.out (by simp)); simp at p0 p1; clear hSw; go_simp; try with_reducible rfl)
  (try simp only [Act.put, tdy]);refine tst (i := 1) fun K hK => ?_;go_simp;refine (HF.out _ (HO1.out.trans (Only.refl [] w1).drew)).mono ?_;rintro e w3 ⟨rfl, O3⟩;refine hK.out _ _ (th1 (((Only.refl [] w1).drew).trans O3)) ?_;clear hK K;(try simp only [Act.put, tdy]);refine tp (i := 2) ?_;(try simp only [Act.put, tdy]);refine tp (i := 3) ?_;(try simp only [Act.put, tdy]);refine tid (i := 4) (tid (i := 5) (tid (i := 6) ?_));(try simp only [Act.put, tdy]);refine tp (i := 7) ?_;(try simp only [Act.put, tdy]);refine tp (i := 8) ?_;(try simp only [Act.put, tdy]);refine tid (i := 9) (tid (i := 10) (tid (i := 11) (tid (i := 12) (tid (i := 13) (tid (i := 14) ?_)))));(try simp only [Act.put, tdy]);refine tp (i := 15) ?_;(try simp only [Act.put, tdy]);refine tp (i := 16) ?_;(try simp only [Act.put, tdy]);refine tid (i := 17) (tid (i := 18) (tid (i := 19) ?_));(try simp only [Act.put, tdy]);refine tp (i := 20) ?_;(try simp only [Act.put, tdy]);refine tp (i := 21) ?_;(try simp only [Act.put, tdy]);refine tid (i := 22) (tid (i := 23) (tid (i := 24) (tid (i := 25) (tid (i := 26) (tid (i := 27) (tid (i := 28) (tid (i := 29) (tid (i := 30) (tid (i := 31) (tid (i := 32) ?_))))))))));(try simp only [Act.put, tdy]);refine tp (i := 33) ?_;(try simp only [Act.put, tdy]);refine tp (i := 34) ?_;(try simp only [Act.put, tdy]);refine timed_done (by kernel_rfl) ?_ _;refine NoPanic.normal ?_;have HNW := Hd (HO1.out.trans (((Only.refl [] w1).drew).trans O3));go_wp2
  go_ret
  exact ⟨by rw [HE.out]; rfl, HNW.out⟩
 | true =>
  rw [mayH_err2 hm] at HF
  by_cases q1 : 0 ≤ a
  ·have d1 : decide (0 ≤ a) = true := decide_eq_true q1
   by_cases q2 : a < (n2 : Int)
   ·have d2 : decide (a < (n2 : Int)) = true := decide_eq_true q2;obtain ⟨i, rfl⟩ : ∃ i : Nat, a = i := ⟨a.toNat, by omega⟩;obtain ⟨t, hx⟩ : ∃ t, h.l[i]? = some t := ⟨_, List.getElem?_eq_getElem (by rw [HN2.out]; omega)⟩;have htx := txAt_yes hm hx
    by_cases q3 : 0 ≤ b
    ·have d3 : decide (0 ≤ b) = true := decide_eq_true q3;obtain ⟨bl, off, A', cp, rfl, -, hbw, hT, -⟩ := HL.out.at_ hx;have HCA := Hd (hT.only HO1.out (by omega) (by simp)).c2;have hbr : bl < w1.heap.size := by omega
     have HE : Hid (thereB h (i : Int) b = decide (b < (t.ops.length : Int))) := Hd (by
      by_cases q4 : b < (t.ops.length : Int)
      ·obtain ⟨j, rfl⟩ : ∃ j : Nat, b = j := ⟨b.toNat, by omega⟩;obtain ⟨o, ho⟩ : ∃ o, t.ops[j]? = some o := ⟨_, List.getElem?_eq_getElem (by omega)⟩;rw [there_some (opAt_yes htx ho), decide_eq_true q4]
      ·rw [there_none (opAt_big htx (by omega)), decide_eq_false q4])
     dsimp only at HCA;generalize t.ops.length = m at *;have hi0 : (0 : Int) ≤ (i : Int) := by omega
     have q2' : (i : Int) < (n2 : Int) := by omega
     generalize hdd : decide (b < (m : Int)) = dd at *;clear hx hT htx hm;have RD0 := Hd fun wq (hSw : Only [] w1 wq) => And.intro (Bk3 (hSw.blk HB1.out (by simp))) (And.intro (Bk2 (hSw.blk HP1.out (by simp))) ((hSw.cell (p := ⟨bl, off + i * 3 + 2, none⟩) hbr (by simp)).trans HCA.out));refine wp_region_noPanic ?_;refine wp_region_timed (F := [⟨[], [], fun w' => Only [] w1 w'⟩]) (by kernel_rfl) (th1 ((Only.refl [] w1).drew)) ?_;refine trd (i := 0) (v := ?_) 0 ?_ ?_;rotate_left
     ·(intro wq q; obtain ⟨⟨lb_H, y0, y1, y2⟩, ⟨lb_P, p0, p1⟩, t2⟩ := RD0.out wq q; simp at y0 y1 y2; simp at p0 p1; clear q; go_simp; try with_reducible rfl)
     (try simp only [Act.put, tdy]);refine tst (i := 1) fun K hK => ?_;go_simp;refine (HF.out _ (HO1.out.trans (Only.refl [] w1).drew)).mono ?_;rintro e w3 ⟨rfl, O3⟩;refine hK.out _ _ (th1 (((Only.refl [] w1).drew).trans O3)) ?_;clear hK K;(try simp only [Act.put, tdy]);refine tp (i := 2) ?_;(try simp only [Act.put, tdy]);refine tp (i := 3) ?_;(try simp only [Act.put, tdy]);refine tp (i := 4) ?_;(try simp only [Act.put, tdy]);refine trd (i := 5) (v := ?_) 0 ?_ ?_;rotate_left
     ·(intro wq q; obtain ⟨⟨lb_H, y0, y1, y2⟩, ⟨lb_P, p0, p1⟩, t2⟩ := RD0.out wq q; simp at y0 y1 y2; simp at p0 p1; clear q; go_simp; try with_reducible rfl)
     (try simp only [Act.put, tdy]);refine tp (i := 6) ?_;(try simp only [Act.put, tdy]);refine tp (i := 7) ?_;(try simp only [Act.put, tdy]);refine tp (i := 8) ?_;(try simp only [Act.put, tdy]);refine tp (i := 9) ?_;(try simp only [Act.put, tdy]);refine trd (i := 10) (v := ?_) 0 ?_ ?_;rotate_left
     ·(intro wq q; obtain ⟨⟨lb_H, y0, y1, y2⟩, ⟨lb_P, p0, p1⟩, t2⟩ := RD0.out wq q; simp at y0 y1 y2; simp at p0 p1; clear q; go_simp; try with_reducible rfl)
     (try simp only [Act.put, tdy]);refine tp (i := 11) ?_;(try simp only [Act.put, tdy]);refine trd (i := 12) (v := ?_) 0 ?_ ?_;rotate_left
     ·(intro wq q; obtain ⟨⟨lb_H, y0, y1, y2⟩, ⟨lb_P, p0, p1⟩, t2⟩ := RD0.out wq q; simp at y0 y1 y2; simp at p0 p1; clear q; go_simp; try with_reducible rfl)
     (try simp only [Act.put, tdy]);refine tp (i := 13) ?_;(try simp only [Act.put, tdy]);refine tp (i := 14) ?_;(try simp only [Act.put, tdy]);refine tp (i := 15) ?_;(try simp only [Act.put, tdy]);refine tp (i := 16) ?_;(try simp only [Act.put, tdy]);refine tp (i := 17) ?_;(try simp only [Act.put, tdy]);refine trd (i := 18) (v := ?_) 0 ?_ ?_;rotate_left
     ·(intro wq q; obtain ⟨⟨lb_H, y0, y1, y2⟩, ⟨lb_P, p0, p1⟩, t2⟩ := RD0.out wq q; simp at y0 y1 y2; simp at p0 p1; clear q; go_simp; try with_reducible rfl)
     (try simp only [Act.put, tdy]);refine tp (i := 19) ?_;(try simp only [Act.put, tdy]);refine tp (i := 20) ?_;(try simp only [Act.put, tdy]);refine tp (i := 21) ?_;(try simp only [Act.put, tdy]);refine tp (i := 22) ?_;(try simp only [Act.put, tdy]);refine trd (i := 23) (v := ?_) 0 ?_ ?_;rotate_left
     ·(intro wq q; obtain ⟨⟨lb_H, y0, y1, y2⟩, ⟨lb_P, p0, p1⟩, t2⟩ := RD0.out wq q; simp at y0 y1 y2; simp at p0 p1; clear q; go_simp; try with_reducible rfl)
     (try simp only [Act.put, tdy]);refine tp (i := 24) ?_;(try simp only [Act.put, tdy]);refine trd (i := 25) (v := ?_) 0 ?_ ?_;rotate_left
     ·(intro wq q; obtain ⟨⟨lb_H, y0, y1, y2⟩, ⟨lb_P, p0, p1⟩, t2⟩ := RD0.out wq q; simp at y0 y1 y2; simp at p0 p1; clear q; go_simp; try with_reducible rfl)
     (try simp only [Act.put, tdy]);refine tp (i := 26) ?_;(try simp only [Act.put, tdy]);refine trd (i := 27) (v := ?_) 0 ?_ ?_;rotate_left
     ·(intro wq q; obtain ⟨⟨lb_H, y0, y1, y2⟩, ⟨lb_P, p0, p1⟩, t2⟩ := RD0.out wq q; simp at y0 y1 y2; simp at p0 p1; clear q; go_simp; try with_reducible rfl)
     (try simp only [Act.put, tdy]);refine tp (i := 28) ?_;(try simp only [Act.put, tdy]);refine tp (i := 29) ?_;(try simp only [Act.put, tdy]);refine trd (i := 30) (v := ?_) 0 ?_ ?_;rotate_left
     ·(intro wq q; obtain ⟨⟨lb_H, y0, y1, y2⟩, ⟨lb_P, p0, p1⟩, t2⟩ := RD0.out wq q; simp at y0 y1 y2; simp at p0 p1; clear q; go_simp; try with_reducible rfl)
     (try simp only [Act.put, tdy]);refine tp (i := 31) ?_;(try simp only [Act.put, tdy]);refine tp (i := 32) ?_;(try simp only [Act.put, tdy]);refine tp (i := 33) ?_;(try simp only [Act.put, tdy]);refine tp (i := 34) ?_;(try simp only [Act.put, tdy]);refine timed_done (by kernel_rfl) ?_ _;refine NoPanic.normal ?_;have HNW := Hd (HO1.out.trans (((Only.refl [] w1).drew).trans O3));go_wp2
     go_ret
     exact ⟨by rw [HE.out]; rfl, HNW.out⟩
    ·have d3 : decide (0 ≤ b) = false := decide_eq_false q3;have HE := Hd (there_none (opAt_neg (h := h) (a := (i : Int)) (b := b) (by omega)));clear q3 hx htx hm;have RD0 := Hd fun wq (hSw : Only [] w1 wq) => And.intro (Bk3 (hSw.blk HB1.out (by simp))) (Bk2 (hSw.blk HP1.out (by simp)));refine wp_region_noPanic ?_;refine wp_region_timed (F := [⟨[], [], fun w' => Only [] w1 w'⟩]) (by kernel_rfl) (th1 ((Only.refl [] w1).drew)) ?_;refine trd (i := 0) (v := ?_) 0 ?_ ?_;rotate_left
     ·(intro wq q; obtain ⟨⟨lb_H, y0, y1, y2⟩, ⟨lb_P, p0, p1⟩⟩ := RD0.out wq q; simp at y0 y1 y2; simp at p0 p1; clear q; go_simp; try with_reducible rfl)
     (try simp only [Act.put, tdy]);refine tst (i := 1) fun K hK => ?_;go_simp;refine (HF.out _ (HO1.out.trans (Only.refl [] w1).drew)).mono ?_;rintro e w3 ⟨rfl, O3⟩;refine hK.out _ _ (th1 (((Only.refl [] w1).drew).trans O3)) ?_;clear hK K;(try simp only [Act.put, tdy]);refine tp (i := 2) ?_;(try simp only [Act.put, tdy]);refine tp (i := 3) ?_;(try simp only [Act.put, tdy]);refine tp (i := 4) ?_;(try simp only [Act.put, tdy]);refine trd (i := 5) (v := ?_) 0 ?_ ?_;rotate_left
     ·(intro wq q; obtain ⟨⟨lb_H, y0, y1, y2⟩, ⟨lb_P, p0, p1⟩⟩ := RD0.out wq q; simp at y0 y1 y2; simp at p0 p1; clear q; go_simp; try with_reducible rfl)
     (try simp only [Act.put, tdy]);refine tp (i := 6) ?_;(try simp only [Act.put, tdy]);refine tp (i := 7) ?_;(try simp only [Act.put, tdy]);refine tp (i := 8) ?_;(try simp only [Act.put, tdy]);refine tp (i := 9) ?_;(try simp only [Act.put, tdy]);refine trd (i := 10) (v := ?_) 0 ?_ ?_;rotate_left
     ·(intro wq q; obtain ⟨⟨lb_H, y0, y1, y2⟩, ⟨lb_P, p0, p1⟩⟩ := RD0.out wq q; simp at y0 y1 y2; simp at p0 p1; clear q; go_simp; try with_reducible rfl)
     (try simp only [Act.put, tdy]);refine tp (i := 11) ?_;(try simp only [Act.put, tdy]);refine trd (i := 12) (v := ?_) 0 ?_ ?_;rotate_left
     ·(intro wq q; obtain ⟨⟨lb_H, y0, y1, y2⟩, ⟨lb_P, p0, p1⟩⟩ := RD0.out wq q; simp at y0 y1 y2; simp at p0 p1; clear q; go_simp; try with_reducible rfl)
     (try simp only [Act.put, tdy]);refine tp (i := 13) ?_;(try simp only [Act.put, tdy]);refine tp (i := 14) ?_;(try simp only [Act.put, tdy]);refine tp (i := 15) ?_;(try simp only [Act.put, tdy]);refine tp (i := 16) ?_;(try simp only [Act.put, tdy]);refine tp (i := 17) ?_;(try simp only [Act.put, tdy]);refine trd (i := 18) (v := ?_) 0 ?_ ?_;rotate_left
     ·(intro wq q; obtain ⟨⟨lb_H, y0, y1, y2⟩, ⟨lb_P, p0, p1⟩⟩ := RD0.out wq q; simp at y0 y1 y2; simp at p0 p1; clear q; go_simp; try with_reducible rfl)
     (try simp only [Act.put, tdy]);refine tp (i := 19) ?_;(try simp only [Act.put, tdy]);refine tp (i := 20) ?_;(try simp only [Act.put, tdy]);refine tp (i := 21) ?_;(try simp only [Act.put, tdy]);refine tid (i := 22) (tid (i := 23) (tid (i := 24) (tid (i := 25) (tid (i := 26) (tid (i := 27) (tid (i := 28) (tid (i := 29) (tid (i := 30) (tid (i := 31) (tid (i := 32) ?_))))))))));(try simp only [Act.put, tdy]);refine tp (i := 33) ?_;(try simp only [Act.put, tdy]);refine tp (i := 34) ?_;(try simp only [Act.put, tdy]);refine timed_done (by kernel_rfl) ?_ _;refine NoPanic.normal ?_;have HNW := Hd (HO1.out.trans (((Only.refl [] w1).drew).trans O3));go_wp2
     go_ret
     exact ⟨by rw [HE.out]; rfl, HNW.out⟩
   ·have d2 : decide (a < (n2 : Int)) = false := decide_eq_false q2;have HE := Hd (there_none (opAt_none (b := b) (txAt_big (h := h) (a := a) (by rw [HN2.out]; omega))));clear q2 hm;have RD0 := Hd fun wq (hSw : Only [] w1 wq) => And.intro (Bk3 (hSw.blk HB1.out (by simp))) (Bk2 (hSw.blk HP1.out (by simp)));refine wp_region_noPanic ?_;refine wp_region_timed (F := [⟨[], [], fun w' => Only [] w1 w'⟩]) (by kernel_rfl) (th1 ((Only.refl [] w1).drew)) ?_;refine trd (i := 0) (v := ?_) 0 ?_ ?_;rotate_left
    ·(intro wq q; obtain ⟨⟨lb_H, y0, y1, y2⟩, ⟨lb_P, p0, p1⟩⟩ := RD0.out wq q; simp at y0 y1 y2; simp at p0 p1; clear q; go_simp; try with_reducible rfl)
    (try simp only [Act.put, tdy]);refine tst (i := 1) fun K hK => ?_;go_simp;refine (HF.out _ (HO1.out.trans (Only.refl [] w1).drew)).mono ?_;rintro e w3 ⟨rfl, O3⟩;refine hK.out _ _ (th1 (((Only.refl [] w1).drew).trans O3)) ?_;clear hK K;(try simp only [Act.put, tdy]);refine tp (i := 2) ?_;(try simp only [Act.put, tdy]);refine tp (i := 3) ?_;(try simp only [Act.put, tdy]);refine tp (i := 4) ?_;(try simp only [Act.put, tdy]);refine trd (i := 5) (v := ?_) 0 ?_ ?_;rotate_left
    ·(intro wq q; obtain ⟨⟨lb_H, y0, y1, y2⟩, ⟨lb_P, p0, p1⟩⟩ := RD0.out wq q; simp at y0 y1 y2; simp at p0 p1; clear q; go_simp; try with_reducible rfl)
    (try simp only [Act.put, tdy]);refine tp (i := 6) ?_;(try simp only [Act.put, tdy]);refine tp (i := 7) ?_;(try simp only [Act.put, tdy]);refine tp (i := 8) ?_;(try simp only [Act.put, tdy]);refine tp (i := 9) ?_;(try simp only [Act.put, tdy]);refine trd (i := 10) (v := ?_) 0 ?_ ?_;rotate_left
    ·(intro wq q; obtain ⟨⟨lb_H, y0, y1, y2⟩, ⟨lb_P, p0, p1⟩⟩ := RD0.out wq q; simp at y0 y1 y2; simp at p0 p1; clear q; go_simp; try with_reducible rfl)
    (try simp only [Act.put, tdy]);refine tp (i := 11) ?_;(try simp only [Act.put, tdy]);refine trd (i := 12) (v := ?_) 0 ?_ ?_;rotate_left
    ·(intro wq q; obtain ⟨⟨lb_H, y0, y1, y2⟩, ⟨lb_P, p0, p1⟩⟩ := RD0.out wq q; simp at y0 y1 y2; simp at p0 p1; clear q; go_simp; try with_reducible rfl)
    (try simp only [Act.put, tdy]);refine tp (i := 13) ?_;(try simp only [Act.put, tdy]);refine tp (i := 14) ?_;(try simp only [Act.put, tdy]);refine tp (i := 15) ?_;(try simp only [Act.put, tdy]);refine tp (i := 16) ?_;(try simp only [Act.put, tdy]);refine tid (i := 17) (tid (i := 18) (tid (i := 19) ?_));(try simp only [Act.put, tdy]);refine tp (i := 20) ?_;(try simp only [Act.put, tdy]);refine tp (i := 21) ?_;(try simp only [Act.put, tdy]);refine tid (i := 22) (tid (i := 23) (tid (i := 24) (tid (i := 25) (tid (i := 26) (tid (i := 27) (tid (i := 28) (tid (i := 29) (tid (i := 30) (tid (i := 31) (tid (i := 32) ?_))))))))));(try simp only [Act.put, tdy]);refine tp (i := 33) ?_;(try simp only [Act.put, tdy]);refine tp (i := 34) ?_;(try simp only [Act.put, tdy]);refine timed_done (by kernel_rfl) ?_ _;refine NoPanic.normal ?_;have HNW := Hd (HO1.out.trans (((Only.refl [] w1).drew).trans O3));go_wp2
    go_ret
    exact ⟨by rw [HE.out]; rfl, HNW.out⟩
  ·have d1 : decide (0 ≤ a) = false := decide_eq_false q1;have HE := Hd (there_none (opAt_none (b := b) (txAt_neg (h := h) (a := a) (by omega))));clear q1 hm;have RD0 := Hd fun wq (hSw : Only [] w1 wq) => And.intro (Bk3 (hSw.blk HB1.out (by simp))) (Bk2 (hSw.blk HP1.out (by simp)));refine wp_region_noPanic ?_;refine wp_region_timed (F := [⟨[], [], fun w' => Only [] w1 w'⟩]) (by kernel_rfl) (th1 ((Only.refl [] w1).drew)) ?_;refine trd (i := 0) (v := ?_) 0 ?_ ?_;rotate_left
   ·(intro wq q; obtain ⟨⟨lb_H, y0, y1, y2⟩, ⟨lb_P, p0, p1⟩⟩ := RD0.out wq q; simp at y0 y1 y2; simp at p0 p1; clear q; go_simp; try with_reducible rfl)
   (try simp only [Act.put, tdy]);refine tst (i := 1) fun K hK => ?_;go_simp;refine (HF.out _ (HO1.out.trans (Only.refl [] w1).drew)).mono ?_;rintro e w3 ⟨rfl, O3⟩;refine hK.out _ _ (th1 (((Only.refl [] w1).drew).trans O3)) ?_;clear hK K;(try simp only [Act.put, tdy]);refine tp (i := 2) ?_;(try simp only [Act.put, tdy]);refine tp (i := 3) ?_;(try simp only [Act.put, tdy]);refine tp (i := 4) ?_;(try simp only [Act.put, tdy]);refine trd (i := 5) (v := ?_) 0 ?_ ?_;rotate_left
   ·(intro wq q; obtain ⟨⟨lb_H, y0, y1, y2⟩, ⟨lb_P, p0, p1⟩⟩ := RD0.out wq q; simp at y0 y1 y2; simp at p0 p1; clear q; go_simp; try with_reducible rfl)
   (try simp only [Act.put, tdy]);refine tp (i := 6) ?_;(try simp only [Act.put, tdy]);refine tp (i := 7) ?_;(try simp only [Act.put, tdy]);refine tp (i := 8) ?_;(try simp only [Act.put, tdy]);refine tid (i := 9) (tid (i := 10) (tid (i := 11) (tid (i := 12) (tid (i := 13) (tid (i := 14) ?_)))));(try simp only [Act.put, tdy]);refine tp (i := 15) ?_;(try simp only [Act.put, tdy]);refine tp (i := 16) ?_;(try simp only [Act.put, tdy]);refine tid (i := 17) (tid (i := 18) (tid (i := 19) ?_));(try simp only [Act.put, tdy]);refine tp (i := 20) ?_;(try simp only [Act.put, tdy]);refine tp (i := 21) ?_;(try simp only [Act.put, tdy]);refine tid (i := 22) (tid (i := 23) (tid (i := 24) (tid (i := 25) (tid (i := 26) (tid (i := 27) (tid (i := 28) (tid (i := 29) (tid (i := 30) (tid (i := 31) (tid (i := 32) ?_))))))))));(try simp only [Act.put, tdy]);refine tp (i := 33) ?_;(try simp only [Act.put, tdy]);refine tp (i := 34) ?_;(try simp only [Act.put, tdy]);refine timed_done (by kernel_rfl) ?_ _;refine NoPanic.normal ?_;have HNW := Hd (HO1.out.trans (((Only.refl [] w1).drew).trans O3));go_wp2
   go_ret
   exact ⟨by rw [HE.out]; rfl, HNW.out⟩
end Go.Proofs.YtjfbeeogiejopaaGreatDoor
