/- Parts. -/
import Derived.Test.YtjfbeeogiejopaaGreatDoorWorldAllCardK21
import Derived.Test.YtjfbeeogiejopaaGreatDoorWorldAllCardK35
import Derived.Test.YtjfbeeogiejopaaGreatDoorWorldAllCardK6
import Derived.Test.YtjfbeeogiejopaaGreatDoorWorldAllCardK19
import Derived.Test.YtjfbeeogiejopaaGreatDoorWorldAllCardK12
import Derived.Deep.CutBlock
import Derived.Deep.DeepCutAuto
set_option maxRecDepth 10000
set_option maxHeartbeats 16000000
set_option linter.unusedVariables false
set_option linter.unusedSimpArgs false
namespace Go.Proofs.YtjfbeeogiejopaaGreatDoor
open Go.RowKit
open Go.Lib hiding intOf
attribute [local go_sem ↓] Go.wp_at_zero Go.wp_at_succ
theorem rread15_any (A0 A1 A2 : Option Addr) (n0 n1 n2 c0 c1 c2 B : Nat) (h : Hst) (a b : Int) (w : World) (hg : HIn w B A0 A1 A2 n0 n1 n2 h) :
  Calls Tryz.prog 41 #[hval A0 A1 A2 n0 n1 n2 c0 c1 c2, .agg #[.int .i64 a, .int .i64 b]] w fun e w' => e = .returned (.bool (readO h a b).isSome) ∧ Only [] w w' := by
 have HF := Hd (fun w' (O : Only [] w w') => refmay_any A0 A1 A2 n0 n1 n2 c0 c1 c2 B h w' (hg.same O));have HL := Hd hg.at_.r2;have HN2 := Hd hg.n2;unfold hval at HF ⊢;clear hg;have HO1 := Hd (((Only.refl [] w).alloc (.cells #[.slice A0 n0 c0, .slice A1 n1 c1, .slice A2 n2 c2] 25)).alloc (.cells #[.int .i64 a, .int .i64 b] 27));have HB1 := Hd ((Blk.made w 25 #[.slice A0 n0 c0, .slice A1 n1 c1, .slice A2 n2 c2]).alloc (.cells #[.int .i64 a, .int .i64 b] 27));have HP1 := Hd (Blk.made (w.alloc (.cells #[.slice A0 n0 c0, .slice A1 n1 c1, .slice A2 n2 c2] 25)) 27 #[.int .i64 a, .int .i64 b]);rw [World.size_alloc] at HP1;go_enter Tryz.func41, Tryz.ntmps41;go_wp2_with fail
 generalize ((w.alloc (.cells #[.slice A0 n0 c0, .slice A1 n1 c1, .slice A2 n2 c2] 25)).alloc (.cells #[.int .i64 a, .int .i64 b] 27)) = w1 at *;generalize w.heap.size + 1 = gp at *;generalize hgg : w.heap.size = g at *;have hsz : g ≤ w1.heap.size := by have := HO1.out.size; omega
 have RD0 := Hd fun wq (hSw : Only [] w1 wq) => And.intro (Bk3 (hSw.blk HB1.out (by simp))) (Bk2 (hSw.blk HP1.out (by simp)));refine wp_region_noPanic ?_;refine wp_region_timed (F := [⟨[], [], fun w' => Only [] w1 w'⟩]) (by kernel_rfl) (th1 ((Only.refl [] w1).drew)) ?_;have OW : Only [] w1 w1.drew := (Only.refl [] w1).drew;generalize w1.drew = wz at *;refine trd (i := 0) (v := ?_) 0 ?_ ?_;rotate_left
 ·(intro wq q; obtain ⟨⟨lb_H, y0, y1, y2⟩, ⟨lb_P, p0, p1⟩⟩ := RD0.out wq q; simp at y0 y1 y2; simp at p0 p1; clear q; go_simp; try with_reducible rfl)
 try simp only [tdz]
 cases hm : mayH h
 ·skip;rw [mayH_errn2 hm] at HF;have HE := Hd (read_none (opAt_none (b := b) (txAt_no (a := a) hm)));clear hm;refine tst (i := 1) fun K hK => ?_;go_simp;refine (HF.out _ (HO1.out.trans OW)).mono ?_;rintro e w3 ⟨rfl, O3⟩;have O4 := OW.trans O3;refine hK.out _ _ (th1 (O4)) ?_;clear hK K;(try simp only [tdz]);refine tp (i := 2) ?_;(try simp only [tdz]);refine tp (i := 3) ?_;(try simp only [tdz]);refine tid (i := 4) (tid (i := 5) (tid (i := 6) ?_));(try simp only [tdz]);refine tp (i := 7) ?_;(try simp only [tdz]);refine tp (i := 8) ?_;(try simp only [tdz]);refine tid (i := 9) (tid (i := 10) (tid (i := 11) (tid (i := 12) (tid (i := 13) (tid (i := 14) ?_)))));(try simp only [tdz]);refine tp (i := 15) ?_;(try simp only [tdz]);refine tp (i := 16) ?_;(try simp only [tdz]);refine tid (i := 17) (tid (i := 18) (tid (i := 19) ?_));(try simp only [tdz]);refine tp (i := 20) ?_;(try simp only [tdz]);refine tp (i := 21) ?_;(try simp only [tdz]);refine tid (i := 22) (tid (i := 23) (tid (i := 24) (tid (i := 25) (tid (i := 26) (tid (i := 27) (tid (i := 28) (tid (i := 29) (tid (i := 30) (tid (i := 31) (tid (i := 32) ?_))))))))));(try simp only [tdz]);refine tp (i := 33) ?_;(try simp only [tdz]);refine tp (i := 34) ?_;(try simp only [tdz]);refine tid (i := 35) (tid (i := 36) (tid (i := 37) (tid (i := 38) (tid (i := 39) (tid (i := 40) (tid (i := 41) (tid (i := 42) (tid (i := 43) (tid (i := 44) (tid (i := 45) (tid (i := 46) (tid (i := 47) ?_))))))))))));(try simp only [tdz]);refine tp (i := 48) ?_;(try simp only [tdz]);refine tp (i := 49) ?_;(try simp only [tdz]);refine timed_done (by kernel_rfl) ?_ _;refine NoPanic.normal ?_;go_wp2
  go_ret
  exact ⟨by rw [HE.out]; rfl, HO1.out.trans O4⟩
 rw [mayH_err2 hm] at HF;refine tst (i := 1) fun K hK => ?_;go_simp;refine (HF.out _ (HO1.out.trans OW)).mono ?_;rintro e w3 ⟨rfl, O3⟩;have O4 := OW.trans O3;refine hK.out _ _ (th1 (O4)) ?_;clear hK K;(try simp only [tdz]);refine tp (i := 2) ?_;(try simp only [tdz]);refine tp (i := 3) ?_;try simp only [tdz]
 by_cases q1 : 0 ≤ a
 rotate_left
 ·skip;have d1 : decide (0 ≤ a) = false := decide_eq_false q1;have HE := Hd (read_none (opAt_none (b := b) (txAt_neg (h := h) (a := a) (by omega))));clear q1 hm;refine tp (i := 4) ?_;(try simp only [tdz]);refine trd (i := 5) (v := ?_) 0 ?_ ?_;rotate_left
  ·(intro wq q; obtain ⟨⟨lb_H, y0, y1, y2⟩, ⟨lb_P, p0, p1⟩⟩ := RD0.out wq q; simp at y0 y1 y2; simp at p0 p1; clear q; go_simp; try with_reducible rfl)
  (try simp only [tdz]);refine tp (i := 6) ?_;(try simp only [tdz]);refine tp (i := 7) ?_;(try simp only [tdz]);refine tp (i := 8) ?_;(try simp only [tdz]);refine tid (i := 9) (tid (i := 10) (tid (i := 11) (tid (i := 12) (tid (i := 13) (tid (i := 14) ?_)))));(try simp only [tdz]);refine tp (i := 15) ?_;(try simp only [tdz]);refine tp (i := 16) ?_;(try simp only [tdz]);refine tid (i := 17) (tid (i := 18) (tid (i := 19) ?_));(try simp only [tdz]);refine tp (i := 20) ?_;(try simp only [tdz]);refine tp (i := 21) ?_;(try simp only [tdz]);refine tid (i := 22) (tid (i := 23) (tid (i := 24) (tid (i := 25) (tid (i := 26) (tid (i := 27) (tid (i := 28) (tid (i := 29) (tid (i := 30) (tid (i := 31) (tid (i := 32) ?_))))))))));(try simp only [tdz]);refine tp (i := 33) ?_;(try simp only [tdz]);refine tp (i := 34) ?_;(try simp only [tdz]);refine tid (i := 35) (tid (i := 36) (tid (i := 37) (tid (i := 38) (tid (i := 39) (tid (i := 40) (tid (i := 41) (tid (i := 42) (tid (i := 43) (tid (i := 44) (tid (i := 45) (tid (i := 46) (tid (i := 47) ?_))))))))))));(try simp only [tdz]);refine tp (i := 48) ?_;(try simp only [tdz]);refine tp (i := 49) ?_;(try simp only [tdz]);refine timed_done (by kernel_rfl) ?_ _;refine NoPanic.normal ?_;go_wp2
  go_ret
  exact ⟨by rw [HE.out]; rfl, HO1.out.trans O4⟩
 have d1 : decide (0 ≤ a) = true := decide_eq_true q1;refine tp (i := 4) ?_;(try simp only [tdz]);refine trd (i := 5) (v := ?_) 0 ?_ ?_;rotate_left
 ·(intro wq q; obtain ⟨⟨lb_H, y0, y1, y2⟩, ⟨lb_P, p0, p1⟩⟩ := RD0.out wq q; simp at y0 y1 y2; simp at p0 p1; clear q; go_simp; try with_reducible rfl)
 (try simp only [tdz]);refine tp (i := 6) ?_;(try simp only [tdz]);refine tp (i := 7) ?_;(try simp only [tdz]);refine tp (i := 8) ?_;try simp only [tdz]
 by_cases q2 : a < (n2 : Int)
 rotate_left
 ·skip;have d2 : decide (a < (n2 : Int)) = false := decide_eq_false q2;have HE := Hd (read_none (opAt_none (b := b) (txAt_big (h := h) (a := a) (by rw [HN2.out]; omega))));clear q2 hm;refine tp (i := 9) ?_;(try simp only [tdz]);refine trd (i := 10) (v := ?_) 0 ?_ ?_;rotate_left
  ·(intro wq q; obtain ⟨⟨lb_H, y0, y1, y2⟩, ⟨lb_P, p0, p1⟩⟩ := RD0.out wq q; simp at y0 y1 y2; simp at p0 p1; clear q; go_simp; try with_reducible rfl)
  (try simp only [tdz]);refine tp (i := 11) ?_;(try simp only [tdz]);refine trd (i := 12) (v := ?_) 0 ?_ ?_;rotate_left
  ·(intro wq q; obtain ⟨⟨lb_H, y0, y1, y2⟩, ⟨lb_P, p0, p1⟩⟩ := RD0.out wq q; simp at y0 y1 y2; simp at p0 p1; clear q; go_simp; try with_reducible rfl)
  (try simp only [tdz]);refine tp (i := 13) ?_;(try simp only [tdz]);refine tp (i := 14) ?_;(try simp only [tdz]);refine tp (i := 15) ?_;(try simp only [tdz]);refine tp (i := 16) ?_;(try simp only [tdz]);refine tid (i := 17) (tid (i := 18) (tid (i := 19) ?_));(try simp only [tdz]);refine tp (i := 20) ?_;(try simp only [tdz]);refine tp (i := 21) ?_;(try simp only [tdz]);refine tid (i := 22) (tid (i := 23) (tid (i := 24) (tid (i := 25) (tid (i := 26) (tid (i := 27) (tid (i := 28) (tid (i := 29) (tid (i := 30) (tid (i := 31) (tid (i := 32) ?_))))))))));(try simp only [tdz]);refine tp (i := 33) ?_;(try simp only [tdz]);refine tp (i := 34) ?_;(try simp only [tdz]);refine tid (i := 35) (tid (i := 36) (tid (i := 37) (tid (i := 38) (tid (i := 39) (tid (i := 40) (tid (i := 41) (tid (i := 42) (tid (i := 43) (tid (i := 44) (tid (i := 45) (tid (i := 46) (tid (i := 47) ?_))))))))))));(try simp only [tdz]);refine tp (i := 48) ?_;(try simp only [tdz]);refine tp (i := 49) ?_;(try simp only [tdz]);refine timed_done (by kernel_rfl) ?_ _;refine NoPanic.normal ?_;go_wp2
  go_ret
  exact ⟨by rw [HE.out]; rfl, HO1.out.trans O4⟩
 have d2 : decide (a < (n2 : Int)) = true := decide_eq_true q2;obtain ⟨i, rfl⟩ : ∃ i : Nat, a = i := ⟨a.toNat, by omega⟩;obtain ⟨t, hx⟩ : ∃ t, h.l[i]? = some t := ⟨_, List.getElem?_eq_getElem (by rw [HN2.out]; omega)⟩;have htx := txAt_yes hm hx;refine tp (i := 9) ?_;(try simp only [tdz]);refine trd (i := 10) (v := ?_) 0 ?_ ?_;rotate_left
 ·(intro wq q; obtain ⟨⟨lb_H, y0, y1, y2⟩, ⟨lb_P, p0, p1⟩⟩ := RD0.out wq q; simp at y0 y1 y2; simp at p0 p1; clear q; go_simp; try with_reducible rfl)
 (try simp only [tdz]);refine tp (i := 11) ?_;(try simp only [tdz]);refine trd (i := 12) (v := ?_) 0 ?_ ?_;rotate_left
 ·(intro wq q; obtain ⟨⟨lb_H, y0, y1, y2⟩, ⟨lb_P, p0, p1⟩⟩ := RD0.out wq q; simp at y0 y1 y2; simp at p0 p1; clear q; go_simp; try with_reducible rfl)
 (try simp only [tdz]);refine tp (i := 13) ?_;(try simp only [tdz]);refine tp (i := 14) ?_;(try simp only [tdz]);refine tp (i := 15) ?_;(try simp only [tdz]);refine tp (i := 16) ?_;try simp only [tdz]
 by_cases q3 : 0 ≤ b
 rotate_left
 ·skip;have d3 : decide (0 ≤ b) = false := decide_eq_false q3;have HE := Hd (read_none (opAt_neg (h := h) (a := (i : Int)) (b := b) (by omega)));clear q3 hx htx hm;refine tp (i := 17) ?_;(try simp only [tdz]);refine trd (i := 18) (v := ?_) 0 ?_ ?_;rotate_left
  ·(intro wq q; obtain ⟨⟨lb_H, y0, y1, y2⟩, ⟨lb_P, p0, p1⟩⟩ := RD0.out wq q; simp at y0 y1 y2; simp at p0 p1; clear q; go_simp; try with_reducible rfl)
  (try simp only [tdz]);refine tp (i := 19) ?_;(try simp only [tdz]);refine tp (i := 20) ?_;(try simp only [tdz]);refine tp (i := 21) ?_;(try simp only [tdz]);refine tid (i := 22) (tid (i := 23) (tid (i := 24) (tid (i := 25) (tid (i := 26) (tid (i := 27) (tid (i := 28) (tid (i := 29) (tid (i := 30) (tid (i := 31) (tid (i := 32) ?_))))))))));(try simp only [tdz]);refine tp (i := 33) ?_;(try simp only [tdz]);refine tp (i := 34) ?_;(try simp only [tdz]);refine tid (i := 35) (tid (i := 36) (tid (i := 37) (tid (i := 38) (tid (i := 39) (tid (i := 40) (tid (i := 41) (tid (i := 42) (tid (i := 43) (tid (i := 44) (tid (i := 45) (tid (i := 46) (tid (i := 47) ?_))))))))))));(try simp only [tdz]);refine tp (i := 48) ?_;(try simp only [tdz]);refine tp (i := 49) ?_;(try simp only [tdz]);refine timed_done (by kernel_rfl) ?_ _;refine NoPanic.normal ?_;go_wp2
  go_ret
  exact ⟨by rw [HE.out]; rfl, HO1.out.trans O4⟩
 have d3 : decide (0 ≤ b) = true := decide_eq_true q3;obtain ⟨j, rfl⟩ : ∃ j : Nat, b = j := ⟨b.toNat, by omega⟩;obtain ⟨bl, off, A', cp, rfl, -, hbw, hT, hOk⟩ := HL.out.at_ hx;have HCA := Hd (hT.only HO1.out (by omega) (by simp)).c2;have hbr : bl < w1.heap.size := by omega
 dsimp only at HCA;have hi0 : (0 : Int) ≤ (i : Int) := by omega
 have q2' : (i : Int) < (n2 : Int) := by omega
 refine tp (i := 17) ?_;(try simp only [tdz]);have RD1 := Hd fun wq (hSw : Only [] w1 wq) => And.intro (Bk3 (hSw.blk HB1.out (by simp))) (And.intro (Bk2 (hSw.blk HP1.out (by simp))) ((hSw.cell (p := ⟨bl, off + i * 3 + 2, none⟩) hbr (by simp)).trans HCA.out));refine trd (i := 18) (v := ?_) 0 ?_ ?_;rotate_left
 ·(intro wq q; obtain ⟨⟨lb_H, y0, y1, y2⟩, ⟨lb_P, p0, p1⟩, t2⟩ := RD1.out wq q; simp at y0 y1 y2; simp at p0 p1; clear q; go_simp; try with_reducible rfl)
 (try simp only [tdz]);refine tp (i := 19) ?_;(try simp only [tdz]);refine tp (i := 20) ?_;(try simp only [tdz]);refine tp (i := 21) ?_;try simp only [tdz]
 by_cases q4 : j < t.ops.length
 rotate_left
 ·skip;have d4 : decide ((j : Int) < (t.ops.length : Int)) = false := decide_eq_false (by omega);have d4' : decide (j < t.ops.length) = false := decide_eq_false q4;have HE := Hd (read_none (opAt_big htx (b := (j : Int)) (by omega)));generalize t.ops.length = m at *;clear hx hT htx hm hOk q4;refine tp (i := 22) ?_;(try simp only [tdz]);refine trd (i := 23) (v := ?_) 0 ?_ ?_;rotate_left
  ·(intro wq q; obtain ⟨⟨lb_H, y0, y1, y2⟩, ⟨lb_P, p0, p1⟩, t2⟩ := RD1.out wq q; simp at y0 y1 y2; simp at p0 p1; clear q; go_simp; try with_reducible rfl)
  (try simp only [tdz]);refine tp (i := 24) ?_;(try simp only [tdz]);refine trd (i := 25) (v := ?_) 0 ?_ ?_;rotate_left
  ·(intro wq q; obtain ⟨⟨lb_H, y0, y1, y2⟩, ⟨lb_P, p0, p1⟩, t2⟩ := RD1.out wq q; simp at y0 y1 y2; simp at p0 p1; clear q; go_simp; try with_reducible rfl)
  (try simp only [tdz]);refine tp (i := 26) ?_;(try simp only [tdz]);refine trd (i := 27) (v := ?_) 0 ?_ ?_;rotate_left
  ·(intro wq q; obtain ⟨⟨lb_H, y0, y1, y2⟩, ⟨lb_P, p0, p1⟩, t2⟩ := RD1.out wq q; simp at y0 y1 y2; simp at p0 p1; clear q; go_simp; try with_reducible rfl)
  (try simp only [tdz]);refine tp (i := 28) ?_;(try simp only [tdz]);refine tp (i := 29) ?_;(try simp only [tdz]);refine trd (i := 30) (v := ?_) 0 ?_ ?_;rotate_left
  ·(intro wq q; obtain ⟨⟨lb_H, y0, y1, y2⟩, ⟨lb_P, p0, p1⟩, t2⟩ := RD1.out wq q; simp at y0 y1 y2; simp at p0 p1; clear q; go_simp; try with_reducible rfl)
  (try simp only [tdz]);refine tp (i := 31) ?_;(try simp only [tdz]);refine tp (i := 32) ?_;(try simp only [tdz]);refine tp (i := 33) ?_;(try simp only [tdz]);refine tp (i := 34) ?_;(try simp only [tdz]);refine tid (i := 35) (tid (i := 36) (tid (i := 37) (tid (i := 38) (tid (i := 39) (tid (i := 40) (tid (i := 41) (tid (i := 42) (tid (i := 43) (tid (i := 44) (tid (i := 45) (tid (i := 46) (tid (i := 47) ?_))))))))))));(try simp only [tdz]);refine tp (i := 48) ?_;(try simp only [tdz]);refine tp (i := 49) ?_;(try simp only [tdz]);refine timed_done (by kernel_rfl) ?_ _;refine NoPanic.normal ?_;go_wp2
  go_ret
  exact ⟨by rw [HE.out]; rfl, HO1.out.trans O4⟩
 obtain ⟨o, ho⟩ : ∃ o, t.ops[j]? = some o := ⟨_, List.getElem?_eq_getElem q4⟩;obtain ⟨bo, oo, rfl, -, hbo, hP⟩ := row_op hOk.row ho;have HPO := Hd (hP.only HO1.out hbo (by simp)).c0;have hbor : bo < w1.heap.size := by omega
 have HE : Hid ((readO h (i : Int) (j : Int)).isSome = !o.wr) := Hd (by cases hw : o.wr with | true => rw [read_write (opAt_yes htx ho) hw]; rfl | false => rw [read_some (opAt_yes htx ho) hw]; rfl);have d4 : decide ((j : Int) < (t.ops.length : Int)) = true := decide_eq_true (by omega);have d4' : decide (j < t.ops.length) = true := decide_eq_true q4;have hj0 : (0 : Int) ≤ (j : Int) := by omega
 have q4' : (j : Int) < (t.ops.length : Int) := by omega
 generalize t.ops.length = m at *;generalize o.wr = ow at *;clear hx hT htx hm hOk hP ho;refine tp (i := 22) ?_;(try simp only [tdz]);have RD2 := Hd fun wq (hSw : Only [] w1 wq) => And.intro (Bk3 (hSw.blk HB1.out (by simp))) (And.intro (Bk2 (hSw.blk HP1.out (by simp))) (And.intro ((hSw.cell (p := ⟨bl, off + i * 3 + 2, none⟩) hbr (by simp)).trans HCA.out) ((hSw.cell (p := ⟨bo, oo + j * 4, none⟩) hbor (by simp)).trans HPO.out)));refine trd (i := 23) (v := ?_) 0 ?_ ?_;rotate_left
 ·(intro wq q; obtain ⟨⟨lb_H, y0, y1, y2⟩, ⟨lb_P, p0, p1⟩, t2, r0⟩ := RD2.out wq q; simp at y0 y1 y2; simp at p0 p1; clear q; go_simp; try with_reducible rfl)
 (try simp only [tdz]);refine tp (i := 24) ?_;(try simp only [tdz]);refine trd (i := 25) (v := ?_) 0 ?_ ?_;rotate_left
 ·(intro wq q; obtain ⟨⟨lb_H, y0, y1, y2⟩, ⟨lb_P, p0, p1⟩, t2, r0⟩ := RD2.out wq q; simp at y0 y1 y2; simp at p0 p1; clear q; go_simp; try with_reducible rfl)
 (try simp only [tdz]);refine tp (i := 26) ?_;(try simp only [tdz]);refine trd (i := 27) (v := ?_) 0 ?_ ?_;rotate_left
 ·(intro wq q; obtain ⟨⟨lb_H, y0, y1, y2⟩, ⟨lb_P, p0, p1⟩, t2, r0⟩ := RD2.out wq q; simp at y0 y1 y2; simp at p0 p1; clear q; go_simp; try with_reducible rfl)
 (try simp only [tdz]);refine tp (i := 28) ?_;(try simp only [tdz]);refine tp (i := 29) ?_;(try simp only [tdz]);refine trd (i := 30) (v := ?_) 0 ?_ ?_;rotate_left
 ·(intro wq q; obtain ⟨⟨lb_H, y0, y1, y2⟩, ⟨lb_P, p0, p1⟩, t2, r0⟩ := RD2.out wq q; simp at y0 y1 y2; simp at p0 p1; clear q; go_simp; try with_reducible rfl)
 (try simp only [tdz]);refine tp (i := 31) ?_;(try simp only [tdz]);refine tp (i := 32) ?_;(try simp only [tdz]);refine tp (i := 33) ?_;(try simp only [tdz]);refine tp (i := 34) ?_;(try simp only [tdz]);refine tp (i := 35) ?_;(try simp only [tdz]);refine trd (i := 36) (v := ?_) 0 ?_ ?_;rotate_left
 ·(intro wq q; obtain ⟨⟨lb_H, y0, y1, y2⟩, ⟨lb_P, p0, p1⟩, t2, r0⟩ := RD2.out wq q; simp at y0 y1 y2; simp at p0 p1; clear q; go_simp; try with_reducible rfl)
 (try simp only [tdz]);refine tp (i := 37) ?_;(try simp only [tdz]);refine trd (i := 38) (v := ?_) 0 ?_ ?_;rotate_left
 ·(intro wq q; obtain ⟨⟨lb_H, y0, y1, y2⟩, ⟨lb_P, p0, p1⟩, t2, r0⟩ := RD2.out wq q; simp at y0 y1 y2; simp at p0 p1; clear q; go_simp; try with_reducible rfl)
 (try simp only [tdz]);refine tp (i := 39) ?_;(try simp only [tdz]);refine tp (i := 40) ?_;(try simp only [tdz]);refine trd (i := 41) (v := ?_) 0 ?_ ?_;rotate_left
 ·(intro wq q; obtain ⟨⟨lb_H, y0, y1, y2⟩, ⟨lb_P, p0, p1⟩, t2, r0⟩ := RD2.out wq q; simp at y0 y1 y2; simp at p0 p1; clear q; go_simp; try with_reducible rfl)
 (try simp only [tdz]);refine tp (i := 42) ?_;(try simp only [tdz]);refine trd (i := 43) (v := ?_) 0 ?_ ?_;rotate_left
 ·(intro wq q; obtain ⟨⟨lb_H, y0, y1, y2⟩, ⟨lb_P, p0, p1⟩, t2, r0⟩ := RD2.out wq q; simp at y0 y1 y2; simp at p0 p1; clear q; go_simp; try with_reducible rfl)
 (try simp only [tdz]);refine tp (i := 44) ?_;(try simp only [tdz]);refine tp (i := 45) ?_;(try simp only [tdz]);refine trd (i := 46) (v := ?_) 0 ?_ ?_;rotate_left
 ·(intro wq q; obtain ⟨⟨lb_H, y0, y1, y2⟩, ⟨lb_P, p0, p1⟩, t2, r0⟩ := RD2.out wq q; simp at y0 y1 y2; simp at p0 p1; clear q; go_simp; try with_reducible rfl)
 (try simp only [tdz]);refine tp (i := 47) ?_;(try simp only [tdz]);refine tp (i := 48) ?_;(try simp only [tdz]);refine tp (i := 49) ?_;(try simp only [tdz]);refine timed_done (by kernel_rfl) ?_ _;refine NoPanic.normal ?_;go_wp2
 go_ret
 exact ⟨by rw [HE.out]; rfl, HO1.out.trans O4⟩
def valC (v : Int × Int) : Array Value := #[.int .i64 v.1, .int .i64 v.2]
theorem rraw_any (s f : Int) (A : Option Addr) (m cp B many : Nat) (ops : List Op4) (key : Int) (w : World) (hg : Row w B A (opC ops)) (hm : ops.length = m) (hM : m ≤ 1000) (hmany : many ≤ 1000) :
  Calls Tryz.prog 42 #[.agg #[.int .i64 s, .int .i64 f, .slice A m cp], .int .i64 (many : Int), .int .i64 key] w fun e w' => e = .returned (optT (leftW key (ops.take many))) ∧ Only [] w w' := by
 have HG := Hd hg;have HMM := Hd hm;obtain ⟨r, hr⟩ : ∃ r, r = leftW key (ops.take many) := ⟨_, rfl⟩;rw [← hr];have HR := Hd hr;have HO0 := Hd ((((Only.refl [] w).alloc (.cells #[.int .i64 s, .int .i64 f, .slice A m cp] 46)).alloc (.cells #[.int .i64 0, .int .i64 0] 38)).alloc (.cells #[.int .i64 0, .int .i64 0] 38));have HT0 := Hd (((Blk.made w 46 #[.int .i64 s, .int .i64 f, .slice A m cp]).alloc (.cells #[.int .i64 0, .int .i64 0] 38)).alloc (.cells #[.int .i64 0, .int .i64 0] 38));have HV0 := Hd ((Blk.made (w.alloc (.cells #[.int .i64 s, .int .i64 f, .slice A m cp] 46)) 38 #[.int .i64 0, .int .i64 0]).alloc (.cells #[.int .i64 0, .int .i64 0] 38));have HU0 := Hd (Blk.made ((w.alloc (.cells #[.int .i64 s, .int .i64 f, .slice A m cp] 46)).alloc (.cells #[.int .i64 0, .int .i64 0] 38)) 38 #[.int .i64 0, .int .i64 0]);simp only [World.size_alloc] at HV0 HU0;clear hg hm hr;go_enter Tryz.func42, Tryz.ntmps42;go_wp2_with fail
 go_loopw [9, 10] (fun iz iv wr => ∃ i : Nat, iv = .int .i64 i ∧ i ≤ many ∧ i ≤ m ∧ iz = .bool (leftW key (ops.take i)).isSome ∧ Hid (Blk wr (w.heap.size + 1 + 1) 38 (valC (leftV key (ops.take i)))) ∧ Hid (Blk wr (w.heap.size + 1) 38 #[.int .i64 0, .int .i64 0]) ∧ Hid (Blk wr w.heap.size 46 #[.int .i64 s, .int .i64 f, .slice A m cp]) ∧ Hid (Only [] w wr)) (fun _ iv _ => m - (intOf iv).toNat)
 case atStart => exact ⟨0, rfl, by omega, by omega, rfl, HU0, HV0, HT0, HO0⟩
 case round =>
  obtain ⟨i, rfl, hi1, hi2, rfl, hU, hV, hT, hO⟩ := hrel;have hsz := hO.out.size;have lT := hT.out.lt;have t2 := hT.out.at_ 2;simp at t2;clear HO0 HT0 HV0 HU0
  by_cases hlt1 : i < many
  ·by_cases hlt2 : i < m
   ·obtain ⟨y, hy⟩ : ∃ y, ops[i]? = some y := ⟨_, List.getElem?_eq_getElem (by rw [HMM.out]; exact hlt2)⟩;obtain ⟨b, off, rfl, -, hbw, hP⟩ := row_op HG.out hy;obtain ⟨p0, p1, p2, p3⟩ := hP.only hO.out hbw (by simp);have HLT := Hd (leftW_take (key := key) hy);obtain ⟨yw, yk, yv, yn⟩ := y;dsimp only at p0 p1 p2 p3 HLT;have h01 : (i : Int) < (many : Int) := by omega
    have h02 : (i : Int) < (m : Int) := by omega
    have hi0 : (0 : Int) ≤ (i : Int) := Int.natCast_nonneg _;have hwi : IntKind.i64.wrap ((i : Int) + 1) = (i : Int) + 1 := IntWalk.i64_in _ (by omega);have hbr : b < wr.heap.size := by omega
    clear hP hy
    by_cases hw : yw = true ∧ yk = key
    ·obtain ⟨rfl, rfl⟩ := hw;have HE : Hid (leftW yk (ops.take (i + 1)) = some (yv, yn)) := Hd (by rw [HLT.out]; simp [hitO]);have HVE : Hid (leftV yk (ops.take (i + 1)) = (yv, yn)) := Hd (by unfold leftV; rw [HE.out]; rfl);generalize leftW yk (ops.take i) = l0 at *;generalize leftV yk (ops.take i) = v0 at *;go_wp2_with (refine wpList_store_blk rfl 38 (.tmp 8) (.tmp 45) rfl (w.heap.size + 1 + 1) 38 (valC v0) #[.int .i64 yv, .int .i64 yn] rfl rfl hU.out rfl (by kernel_rfl) (by kernel_rfl) ?_; intro w9 b9 o9; have HB9 := Hd b9; have HV9 := Hd (o9.blk hV.out (by simp)); have HT9 := Hd (o9.blk hT.out (by simp; omega)); have HN9 := Hd (hO.out.step o9 (fun i hi hl => by simp at hi; omega)); clear b9 o9)
     go_roundw
     case rel => first | exact ⟨i + 1, by go_num, by omega, by omega, by rw [HE.out]; rfl, Hd (by rw [HVE.out]; exact HB9.out), HV9, HT9, HN9⟩ | exact ⟨_, _, ⟨i + 1, by go_num, by omega, by omega, by rw [HE.out]; rfl, Hd (by rw [HVE.out]; exact HB9.out), HV9, HT9, HN9⟩, rfl, rfl⟩
     case measure => simp [intOf]; omega
    ·have HE : Hid (leftW key (ops.take (i + 1)) = leftW key (ops.take i)) := Hd (by
      rw [HLT.out, if_neg];unfold hitO;simp;exact fun h => fun h' => hw ⟨h, h'⟩)
     have HVE : Hid (leftV key (ops.take (i + 1)) = leftV key (ops.take i)) := Hd (by unfold leftV; rw [HE.out]);clear HLT
     cases yw with
     | false =>
      clear hw;go_wp2
      go_roundw
      case rel => first | exact ⟨i + 1, by go_num, by omega, by omega, by rw [HE.out], Hd (by rw [HVE.out]; exact hU.out), hV, hT, hO⟩ | exact ⟨_, _, ⟨i + 1, by go_num, by omega, by omega, by rw [HE.out], Hd (by rw [HVE.out]; exact hU.out), hV, hT, hO⟩, rfl, rfl⟩
      case measure => simp [intOf]; omega
     | true =>
      have hk1 : (yk == key) = false := by simpa using hw
      clear hw;go_wp2
      go_roundw
      case rel => first | exact ⟨i + 1, by go_num, by omega, by omega, by rw [HE.out], Hd (by rw [HVE.out]; exact hU.out), hV, hT, hO⟩ | exact ⟨_, _, ⟨i + 1, by go_num, by omega, by omega, by rw [HE.out], Hd (by rw [HVE.out]; exact hU.out), hV, hT, hO⟩, rfl, rfl⟩
      case measure => simp [intOf]; omega
   ·have him : i = m := by omega
    subst him;have HRE : Hid (leftW key (ops.take i) = r) := Hd (by rw [HR.out, List.take_of_length_le (by rw [HMM.out]; exact Nat.le_refl _), List.take_of_length_le (by rw [HMM.out]; omega)]);have HVE : Hid (leftV key (ops.take i) = r.getD (0, 0)) := Hd (by unfold leftV; rw [HRE.out]);have h01 : (i : Int) < (many : Int) := by omega
    have hd2 : decide ((i : Int) < (i : Int)) = false := by simp
    rw [HRE.out];rw [HVE.out] at hU;generalize hgr : w.heap.size + 1 = gr at *;have lU := hU.out.lt;have u0 := hU.out.at_ 0;have u1 := hU.out.at_ 1;simp [valC] at u0 u1;go_wp2_with (refine wpList_store_blk rfl 38 (.tmp 6) (.tmp 46) rfl gr 38 #[.int .i64 0, .int .i64 0] #[.int .i64 (r.getD (0, 0)).1, .int .i64 (r.getD (0, 0)).2] rfl rfl hV.out rfl (by kernel_rfl) (by kernel_rfl) ?_; intro w9 b9 o9; have HB9 := Hd b9; have HN9 := Hd o9; clear b9 o9)
    refine bodyPost_ret (results_row2 Tryz.results42 _ _ gr 38 #[.int .i64 (r.getD (0, 0)).1, .int .i64 (r.getD (0, 0)).2] _ rfl HB9.out Tryz.underlying38 rfl (by kernel_rfl)) rfl ?_;exact ⟨rfl, hO.out.step HN9.out (fun i hi hl => by simp at hi; omega)⟩
  ·have him : i = many := by omega
   subst him;have HRE : Hid (leftW key (ops.take i) = r) := Hd HR.out.symm;have HVE : Hid (leftV key (ops.take i) = r.getD (0, 0)) := Hd (by unfold leftV; rw [HRE.out]);have hd2 : decide ((i : Int) < (i : Int)) = false := by simp
   rw [HRE.out];rw [HVE.out] at hU;generalize hgr : w.heap.size + 1 = gr at *;have lU := hU.out.lt;have u0 := hU.out.at_ 0;have u1 := hU.out.at_ 1;simp [valC] at u0 u1;go_wp2_with (refine wpList_store_blk rfl 38 (.tmp 6) (.tmp 46) rfl gr 38 #[.int .i64 0, .int .i64 0] #[.int .i64 (r.getD (0, 0)).1, .int .i64 (r.getD (0, 0)).2] rfl rfl hV.out rfl (by kernel_rfl) (by kernel_rfl) ?_; intro w9 b9 o9; have HB9 := Hd b9; have HN9 := Hd o9; clear b9 o9)
   refine bodyPost_ret (results_row2 Tryz.results42 _ _ gr 38 #[.int .i64 (r.getD (0, 0)).1, .int .i64 (r.getD (0, 0)).2] _ rfl HB9.out Tryz.underlying38 rfl (by kernel_rfl)) rfl ?_;exact ⟨rfl, hO.out.step HN9.out (fun i hi hl => by simp at hi; omega)⟩
end Go.Proofs.YtjfbeeogiejopaaGreatDoor
namespace Go.Proofs.YtjfbeeogiejopaaGreatDoor
open Go.RowKit
theorem rmay_anyV (k n : Int) (w : World) : Calls Tryz.prog 73 #[.agg #[.int .i64 k, .int .i64 n]] w fun e w' => e = .returned (.bool (mayB k n)) ∧ Only [] w w' := by
 unfold mayB
 by_cases h1 : k = 1
 ·subst h1;go_enter Tryz.func73, Tryz.ntmps73;go_wp2
  go_ret
  exact ⟨by simp, (Only.refl _ _).alloc _⟩
 ·have h1' : (k == 1) = false := by simp [h1]
  have H1 := Hd h1;clear h1
  by_cases h0 : k = 0
  ·subst h0;go_enter Tryz.func73, Tryz.ntmps73;go_wp2
   go_ret
   exact ⟨ret_boolv (by simp; try (rw [Bool.eq_iff_iff]; simp)), (Only.refl _ _).alloc _⟩
  ·have h0' : (k == 0) = false := by simp [h0]
   have H0 := Hd h0;clear h0
   by_cases h2 : k = 2
   ·subst h2;go_enter Tryz.func73, Tryz.ntmps73;go_wp2
    go_ret
    exact ⟨ret_boolv (by simp; try (rw [Bool.eq_iff_iff]; simp)), (Only.refl _ _).alloc _⟩
   ·have h2' : (k == 2) = false := by simp [h2]
    have H2 := Hd h2;clear h2;go_enter Tryz.func73, Tryz.ntmps73;go_wp2
    go_ret
    exact ⟨ret_boolv (by simp [H0.out, H1.out, H2.out]), (Only.refl _ _).alloc _⟩
theorem rLess_any (k m k' m' : Int) (w : World) : Calls Tryz.prog 74 #[.agg #[.int .i64 k, .int .i64 m], .agg #[.int .i64 k', .int .i64 m']] w fun e w' => e = .returned (.bool (lessBV k m k' m')) ∧ Only [] w w' := by
 unfold lessBV
 by_cases h : k = k'
 ·subst h
  by_cases h1 : k = 1
  ·subst h1;go_enter Tryz.func74, Tryz.ntmps74;go_wp2
   go_ret
   exact ⟨by simp, ((Only.refl _ _).alloc _).alloc _⟩
  ·have h1' : (k == 1) = false := by simp [h1]
   have H1 := Hd h1;clear h1;go_enter Tryz.func74, Tryz.ntmps74;go_wp2
   go_ret
   exact ⟨by simp [H1.out], ((Only.refl _ _).alloc _).alloc _⟩
 ·have h' : (k != k') = true := by simp [h]
  have H := Hd h;clear h;go_enter Tryz.func74, Tryz.ntmps74;go_wp2
  go_ret
  exact ⟨by simp [H.out], ((Only.refl _ _).alloc _).alloc _⟩
end Go.Proofs.YtjfbeeogiejopaaGreatDoor
