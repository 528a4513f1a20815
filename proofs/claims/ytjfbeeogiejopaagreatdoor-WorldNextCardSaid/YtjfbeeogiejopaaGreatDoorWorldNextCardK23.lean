/- Parts. -/
import Derived.Test.YtjfbeeogiejopaaGreatDoorWorldNextCardK22
import Derived.Lib.QuietBelow
set_option maxRecDepth 10000
set_option maxHeartbeats 16000000
set_option linter.unusedVariables false
set_option linter.unusedSimpArgs false
namespace Go.Proofs.YtjfbeeogiejopaaGreatDoor
open Go.RowKit
open Go.Lib hiding intOf
attribute [local go_sem ↓] Go.wp_at_zero Go.wp_at_succ
def thereB (h : Hst) (a b : Int) : Bool := (opAtH h a b).isSome
theorem there_none {h : Hst} {a b : Int} (ho : opAtH h a b = none) : thereB h a b = false := by unfold thereB; rw [ho]; rfl
theorem there_some {h : Hst} {a b : Int} {x : Tx × Op4} (ho : opAtH h a b = some x) : thereB h a b = true := by unfold thereB; rw [ho]; rfl
theorem rthere_any (A0 A1 A2 : Option Addr) (n0 n1 n2 c0 c1 c2 B : Nat) (h : Hst) (a b : Int) (w : World) (hg : HIn w B A0 A1 A2 n0 n1 n2 h) :
  Calls Tryz.prog 87 #[hval A0 A1 A2 n0 n1 n2 c0 c1 c2, .agg #[.int .i64 a, .int .i64 b]] w fun e w' => e = .returned (.bool (thereB h a b)) ∧ Only [] w w' := by
 have HF := Hd (fun w' (O : Only [] w w') => refmay_any A0 A1 A2 n0 n1 n2 c0 c1 c2 B h w' (hg.same O));have HL := Hd hg.at_.r2;have HN2 := Hd hg.n2;unfold hval at HF ⊢;clear hg;have HO1 := Hd (((Only.refl [] w).alloc (.cells #[.slice A0 n0 c0, .slice A1 n1 c1, .slice A2 n2 c2] 25)).alloc (.cells #[.int .i64 a, .int .i64 b] 27));have HB1 := Hd ((Blk.made w 25 #[.slice A0 n0 c0, .slice A1 n1 c1, .slice A2 n2 c2]).alloc (.cells #[.int .i64 a, .int .i64 b] 27));have HP1 := Hd (Blk.made (w.alloc (.cells #[.slice A0 n0 c0, .slice A1 n1 c1, .slice A2 n2 c2] 25)) 27 #[.int .i64 a, .int .i64 b]);rw [World.size_alloc] at HP1;go_enter Tryz.func87, Tryz.ntmps87;go_wp2_with fail
 generalize ((w.alloc (.cells #[.slice A0 n0 c0, .slice A1 n1 c1, .slice A2 n2 c2] 25)).alloc (.cells #[.int .i64 a, .int .i64 b] 27)) = w1 at *;generalize w.heap.size + 1 = gp at *;generalize hgg : w.heap.size = g at *;have hsz : g ≤ w1.heap.size := by have := HO1.out.size; omega
 have RD0 := Hd fun wq (hSw : Only [] w1 wq) => aI (Bk3 (hSw.blk HB1.out (by simp))) (Bk2 (hSw.blk HP1.out (by simp)));refine rg1 [] [] w1 ?_;have OW : Only [] w1 w1.drew := (Only.refl [] w1).drew;generalize w1.drew = wz at *;refine trq 0 0 RD0 (h := ?_)
 cases hm : mayH h
 ·rw [mayH_errn2 hm] at HF;have HE := Hd (there_none (opAt_none (b := b) (txAt_no (a := a) hm)));clear hm;refine tst (i := 1) fun K hK => ?_;go_simp;refine (HF.out _ (HO1.out.trans OW)).mono ?_;rintro e w3 ⟨rfl, O3⟩;have O4 := OW.trans O3;refine kOut hK (O4) (h := ?_);clear hK K;refine tQ 2 (h := tQ 3 (h := tiq 4 (h := tiq 5 (h := tiq 6 (h := tQ 7 (h := tQ 8 (h := tiq 9 (h := tiq 10 (h := tiq 11 (h := tiq 12 (h := tiq 13 (h := tiq 14 (h := tQ 15 (h := tQ 16 (h := tiq 17 (h := tiq 18 (h := tiq 19 (h := tQ 20 (h := tQ 21 (h := tiq 22 (h := tiq 23 (h := tiq 24 (h := tiq 25 (h := tiq 26 (h := tiq 27 (h := tiq 28 (h := tiq 29 (h := tiq 30 (h := tiq 31 (h := tiq 32 (h := tQ 33 (h := tQ 34 (h := ?_)))))))))))))))))))))))))))))))));refine tdn ?_;go_wp2
  go_ret
  exact ⟨by rw [HE.out]; rfl, HO1.out.trans O4⟩
 rw [mayH_err2 hm] at HF;refine tst (i := 1) fun K hK => ?_;go_simp;refine (HF.out _ (HO1.out.trans OW)).mono ?_;rintro e w3 ⟨rfl, O3⟩;have O4 := OW.trans O3;refine kOut hK (O4) (h := ?_);clear hK K;refine tQ 2 (h := tQ 3 (h := ?_))
 by_cases q1 : 0 ≤ a
 rotate_left
 ·have d1 : decide (0 ≤ a) = false := decide_eq_false q1;have HE := Hd (there_none (opAt_none (b := b) (txAt_neg (h := h) (a := a) (by omega))));clear q1 hm;refine tQ 4 (h := trq 5 0 RD0 (h := tQ 6 (h := tQ 7 (h := tQ 8 (h := tiq 9 (h := tiq 10 (h := tiq 11 (h := tiq 12 (h := tiq 13 (h := tiq 14 (h := tQ 15 (h := tQ 16 (h := tiq 17 (h := tiq 18 (h := tiq 19 (h := tQ 20 (h := tQ 21 (h := tiq 22 (h := tiq 23 (h := tiq 24 (h := tiq 25 (h := tiq 26 (h := tiq 27 (h := tiq 28 (h := tiq 29 (h := tiq 30 (h := tiq 31 (h := tiq 32 (h := tQ 33 (h := tQ 34 (h := ?_)))))))))))))))))))))))))))))));refine tdn ?_;go_wp2
  go_ret
  exact ⟨by rw [HE.out]; rfl, HO1.out.trans O4⟩
 have d1 : decide (0 ≤ a) = true := decide_eq_true q1;refine tQ 4 (h := trq 5 0 RD0 (h := tQ 6 (h := tQ 7 (h := tQ 8 (h := ?_)))))
 by_cases q2 : a < (n2 : Int)
 rotate_left
 ·have d2 : decide (a < (n2 : Int)) = false := decide_eq_false q2;have HE := Hd (there_none (opAt_none (b := b) (txAt_big (h := h) (a := a) (by rw [HN2.out]; omega))));clear q2 hm;refine tQ 9 (h := trq 10 0 RD0 (h := tQ 11 (h := trq 12 0 RD0 (h := tQ 13 (h := tQ 14 (h := tQ 15 (h := tQ 16 (h := tiq 17 (h := tiq 18 (h := tiq 19 (h := tQ 20 (h := tQ 21 (h := tiq 22 (h := tiq 23 (h := tiq 24 (h := tiq 25 (h := tiq 26 (h := tiq 27 (h := tiq 28 (h := tiq 29 (h := tiq 30 (h := tiq 31 (h := tiq 32 (h := tQ 33 (h := tQ 34 (h := ?_))))))))))))))))))))))))));refine tdn ?_;go_wp2
  go_ret
  exact ⟨by rw [HE.out]; rfl, HO1.out.trans O4⟩
 have d2 : decide (a < (n2 : Int)) = true := decide_eq_true q2;obtain ⟨i, rfl⟩ : ∃ i : Nat, a = i := ⟨a.toNat, by omega⟩;obtain ⟨t, hx⟩ : ∃ t, h.l[i]? = some t := ⟨_, List.getElem?_eq_getElem (by rw [HN2.out]; omega)⟩;have htx := txAt_yes hm hx;refine tQ 9 (h := trq 10 0 RD0 (h := tQ 11 (h := trq 12 0 RD0 (h := tQ 13 (h := tQ 14 (h := tQ 15 (h := tQ 16 (h := ?_))))))))
 by_cases q3 : 0 ≤ b
 rotate_left
 ·have d3 : decide (0 ≤ b) = false := decide_eq_false q3;have HE := Hd (there_none (opAt_neg (h := h) (a := (i : Int)) (b := b) (by omega)));clear q3 hx htx hm;refine tQ 17 (h := trq 18 0 RD0 (h := tQ 19 (h := tQ 20 (h := tQ 21 (h := tiq 22 (h := tiq 23 (h := tiq 24 (h := tiq 25 (h := tiq 26 (h := tiq 27 (h := tiq 28 (h := tiq 29 (h := tiq 30 (h := tiq 31 (h := tiq 32 (h := tQ 33 (h := tQ 34 (h := ?_))))))))))))))))));refine tdn ?_;go_wp2
  go_ret
  exact ⟨by rw [HE.out]; rfl, HO1.out.trans O4⟩
 have d3 : decide (0 ≤ b) = true := decide_eq_true q3;obtain ⟨bl, off, A', cp, rfl, -, hbw, hT, -⟩ := HL.out.at_ hx;have HCA := Hd (hT.only HO1.out (by omega) (by simp)).c2;have hbr : bl < w1.heap.size := by omega
 have HE : Hid (thereB h (i : Int) b = decide (b < (t.ops.length : Int))) := Hd (by
  by_cases q4 : b < (t.ops.length : Int)
  ·obtain ⟨j, rfl⟩ : ∃ j : Nat, b = j := ⟨b.toNat, by omega⟩;obtain ⟨o, ho⟩ : ∃ o, t.ops[j]? = some o := ⟨_, List.getElem?_eq_getElem (by omega)⟩;rw [there_some (opAt_yes htx ho), decide_eq_true q4]
  ·rw [there_none (opAt_big htx (by omega)), decide_eq_false q4])
 dsimp only at HCA;generalize t.ops.length = m at *;have hi0 : (0 : Int) ≤ (i : Int) := by omega
 have q2' : (i : Int) < (n2 : Int) := by omega
 generalize hdd : decide (b < (m : Int)) = dd at *;clear hx hT htx hm;refine tQ 17 (h := ?_);have RD1 := Hd fun wq (hSw : Only [] w1 wq) => aI (Bk3 (hSw.blk HB1.out (by simp))) (aI (Bk2 (hSw.blk HP1.out (by simp))) ((hSw.cell (p := ⟨bl, off + i * 3 + 2, none⟩) hbr (by simp)).trans HCA.out));refine trq 18 0 RD1 (h := tQ 19 (h := tQ 20 (h := tQ 21 (h := tQ 22 (h := trq 23 0 RD1 (h := tQ 24 (h := trq 25 0 RD1 (h := tQ 26 (h := trq 27 0 RD1 (h := tQ 28 (h := tQ 29 (h := trq 30 0 RD1 (h := tQ 31 (h := tQ 32 (h := tQ 33 (h := tQ 34 (h := ?_)))))))))))))))));refine tdn ?_;go_wp2
 go_ret
 exact ⟨by rw [HE.out]; rfl, HO1.out.trans O4⟩
theorem rread15_any (A0 A1 A2 : Option Addr) (n0 n1 n2 c0 c1 c2 B : Nat) (h : Hst) (a b : Int) (w : World) (hg : HIn w B A0 A1 A2 n0 n1 n2 h) :
  Calls Tryz.prog 41 #[hval A0 A1 A2 n0 n1 n2 c0 c1 c2, .agg #[.int .i64 a, .int .i64 b]] w fun e w' => e = .returned (.bool (readO h a b).isSome) ∧ Only [] w w' := by
 have HF := Hd (fun w' (O : Only [] w w') => refmay_any A0 A1 A2 n0 n1 n2 c0 c1 c2 B h w' (hg.same O));have HL := Hd hg.at_.r2;have HN2 := Hd hg.n2;unfold hval at HF ⊢;clear hg;have HO1 := Hd (((Only.refl [] w).alloc (.cells #[.slice A0 n0 c0, .slice A1 n1 c1, .slice A2 n2 c2] 25)).alloc (.cells #[.int .i64 a, .int .i64 b] 27));have HB1 := Hd ((Blk.made w 25 #[.slice A0 n0 c0, .slice A1 n1 c1, .slice A2 n2 c2]).alloc (.cells #[.int .i64 a, .int .i64 b] 27));have HP1 := Hd (Blk.made (w.alloc (.cells #[.slice A0 n0 c0, .slice A1 n1 c1, .slice A2 n2 c2] 25)) 27 #[.int .i64 a, .int .i64 b]);rw [World.size_alloc] at HP1;go_enter Tryz.func41, Tryz.ntmps41;go_wp2_with fail
 generalize ((w.alloc (.cells #[.slice A0 n0 c0, .slice A1 n1 c1, .slice A2 n2 c2] 25)).alloc (.cells #[.int .i64 a, .int .i64 b] 27)) = w1 at *;generalize w.heap.size + 1 = gp at *;generalize hgg : w.heap.size = g at *;have hsz : g ≤ w1.heap.size := by have := HO1.out.size; omega
 have RD0 := Hd fun wq (hSw : Only [] w1 wq) => aI (Bk3 (hSw.blk HB1.out (by simp))) (Bk2 (hSw.blk HP1.out (by simp)));refine rg1 [] [] w1 ?_;have OW : Only [] w1 w1.drew := (Only.refl [] w1).drew;generalize w1.drew = wz at *;refine trq 0 0 RD0 (h := ?_)
 cases hm : mayH h
 ·rw [mayH_errn2 hm] at HF;have HE := Hd (read_none (opAt_none (b := b) (txAt_no (a := a) hm)));clear hm;refine tst (i := 1) fun K hK => ?_;go_simp;refine (HF.out _ (HO1.out.trans OW)).mono ?_;rintro e w3 ⟨rfl, O3⟩;have O4 := OW.trans O3;refine kOut hK (O4) (h := ?_);clear hK K;refine tQ 2 (h := tQ 3 (h := tiq 4 (h := tiq 5 (h := tiq 6 (h := tQ 7 (h := tQ 8 (h := tiq 9 (h := tiq 10 (h := tiq 11 (h := tiq 12 (h := tiq 13 (h := tiq 14 (h := tQ 15 (h := tQ 16 (h := tiq 17 (h := tiq 18 (h := tiq 19 (h := tQ 20 (h := tQ 21 (h := tiq 22 (h := tiq 23 (h := tiq 24 (h := tiq 25 (h := tiq 26 (h := tiq 27 (h := tiq 28 (h := tiq 29 (h := tiq 30 (h := tiq 31 (h := tiq 32 (h := tQ 33 (h := tQ 34 (h := tiq 35 (h := tiq 36 (h := tiq 37 (h := tiq 38 (h := tiq 39 (h := tiq 40 (h := tiq 41 (h := tiq 42 (h := tiq 43 (h := tiq 44 (h := tiq 45 (h := tiq 46 (h := tiq 47 (h := ?_))))))))))))))))))))))))))))))))))))))))))))));refine tQ 48 (h := tQ 49 (h := ?_));refine tdn ?_;go_wp2
  go_ret
  exact ⟨by rw [HE.out]; rfl, HO1.out.trans O4⟩
 rw [mayH_err2 hm] at HF;refine tst (i := 1) fun K hK => ?_;go_simp;refine (HF.out _ (HO1.out.trans OW)).mono ?_;rintro e w3 ⟨rfl, O3⟩;have O4 := OW.trans O3;refine kOut hK (O4) (h := ?_);clear hK K;refine tQ 2 (h := tQ 3 (h := ?_))
 by_cases q1 : 0 ≤ a
 rotate_left
 ·have d1 : decide (0 ≤ a) = false := decide_eq_false q1;have HE := Hd (read_none (opAt_none (b := b) (txAt_neg (h := h) (a := a) (by omega))));clear q1 hm;refine tQ 4 (h := trq 5 0 RD0 (h := tQ 6 (h := tQ 7 (h := tQ 8 (h := tiq 9 (h := tiq 10 (h := tiq 11 (h := tiq 12 (h := tiq 13 (h := tiq 14 (h := tQ 15 (h := tQ 16 (h := tiq 17 (h := tiq 18 (h := tiq 19 (h := tQ 20 (h := tQ 21 (h := tiq 22 (h := tiq 23 (h := tiq 24 (h := tiq 25 (h := tiq 26 (h := tiq 27 (h := tiq 28 (h := tiq 29 (h := tiq 30 (h := tiq 31 (h := tiq 32 (h := tQ 33 (h := tQ 34 (h := tiq 35 (h := tiq 36 (h := tiq 37 (h := tiq 38 (h := tiq 39 (h := tiq 40 (h := tiq 41 (h := tiq 42 (h := tiq 43 (h := tiq 44 (h := tiq 45 (h := tiq 46 (h := tiq 47 (h := ?_))))))))))))))))))))))))))))))))))))))))))));refine tQ 48 (h := tQ 49 (h := ?_));refine tdn ?_;go_wp2
  go_ret
  exact ⟨by rw [HE.out]; rfl, HO1.out.trans O4⟩
 have d1 : decide (0 ≤ a) = true := decide_eq_true q1;refine tQ 4 (h := trq 5 0 RD0 (h := tQ 6 (h := tQ 7 (h := tQ 8 (h := ?_)))))
 by_cases q2 : a < (n2 : Int)
 rotate_left
 ·have d2 : decide (a < (n2 : Int)) = false := decide_eq_false q2;have HE := Hd (read_none (opAt_none (b := b) (txAt_big (h := h) (a := a) (by rw [HN2.out]; omega))));clear q2 hm;refine tQ 9 (h := trq 10 0 RD0 (h := tQ 11 (h := trq 12 0 RD0 (h := tQ 13 (h := tQ 14 (h := tQ 15 (h := tQ 16 (h := tiq 17 (h := tiq 18 (h := tiq 19 (h := tQ 20 (h := tQ 21 (h := tiq 22 (h := tiq 23 (h := tiq 24 (h := tiq 25 (h := tiq 26 (h := tiq 27 (h := tiq 28 (h := tiq 29 (h := tiq 30 (h := tiq 31 (h := tiq 32 (h := tQ 33 (h := tQ 34 (h := tiq 35 (h := tiq 36 (h := tiq 37 (h := tiq 38 (h := tiq 39 (h := tiq 40 (h := tiq 41 (h := tiq 42 (h := tiq 43 (h := tiq 44 (h := tiq 45 (h := tiq 46 (h := tiq 47 (h := tQ 48 (h := tQ 49 (h := ?_)))))))))))))))))))))))))))))))))))))))));refine tdn ?_;go_wp2
  go_ret
  exact ⟨by rw [HE.out]; rfl, HO1.out.trans O4⟩
 have d2 : decide (a < (n2 : Int)) = true := decide_eq_true q2;obtain ⟨i, rfl⟩ : ∃ i : Nat, a = i := ⟨a.toNat, by omega⟩;obtain ⟨t, hx⟩ : ∃ t, h.l[i]? = some t := ⟨_, List.getElem?_eq_getElem (by rw [HN2.out]; omega)⟩;have htx := txAt_yes hm hx;refine tQ 9 (h := trq 10 0 RD0 (h := tQ 11 (h := trq 12 0 RD0 (h := tQ 13 (h := tQ 14 (h := tQ 15 (h := tQ 16 (h := ?_))))))))
 by_cases q3 : 0 ≤ b
 rotate_left
 ·have d3 : decide (0 ≤ b) = false := decide_eq_false q3;have HE := Hd (read_none (opAt_neg (h := h) (a := (i : Int)) (b := b) (by omega)));clear q3 hx htx hm;refine tQ 17 (h := trq 18 0 RD0 (h := tQ 19 (h := tQ 20 (h := tQ 21 (h := tiq 22 (h := tiq 23 (h := tiq 24 (h := tiq 25 (h := tiq 26 (h := tiq 27 (h := tiq 28 (h := tiq 29 (h := tiq 30 (h := tiq 31 (h := tiq 32 (h := tQ 33 (h := tQ 34 (h := tiq 35 (h := tiq 36 (h := tiq 37 (h := tiq 38 (h := tiq 39 (h := tiq 40 (h := tiq 41 (h := tiq 42 (h := tiq 43 (h := tiq 44 (h := tiq 45 (h := tiq 46 (h := tiq 47 (h := tQ 48 (h := tQ 49 (h := ?_)))))))))))))))))))))))))))))))));refine tdn ?_;go_wp2
  go_ret
  exact ⟨by rw [HE.out]; rfl, HO1.out.trans O4⟩
 have d3 : decide (0 ≤ b) = true := decide_eq_true q3;obtain ⟨j, rfl⟩ : ∃ j : Nat, b = j := ⟨b.toNat, by omega⟩;obtain ⟨bl, off, A', cp, rfl, -, hbw, hT, hOk⟩ := HL.out.at_ hx;have HCA := Hd (hT.only HO1.out (by omega) (by simp)).c2;have hbr : bl < w1.heap.size := by omega
 dsimp only at HCA;have hi0 : (0 : Int) ≤ (i : Int) := by omega
 have q2' : (i : Int) < (n2 : Int) := by omega
 refine tQ 17 (h := ?_);have RD1 := Hd fun wq (hSw : Only [] w1 wq) => aI (Bk3 (hSw.blk HB1.out (by simp))) (aI (Bk2 (hSw.blk HP1.out (by simp))) ((hSw.cell (p := ⟨bl, off + i * 3 + 2, none⟩) hbr (by simp)).trans HCA.out));refine trq 18 0 RD1 (h := tQ 19 (h := tQ 20 (h := tQ 21 (h := ?_))))
 by_cases q4 : j < t.ops.length
 rotate_left
 ·have d4 : decide ((j : Int) < (t.ops.length : Int)) = false := decide_eq_false (by omega);have d4' : decide (j < t.ops.length) = false := decide_eq_false q4;have HE := Hd (read_none (opAt_big htx (b := (j : Int)) (by omega)));generalize t.ops.length = m at *;clear hx hT htx hm hOk q4;refine tQ 22 (h := trq 23 0 RD1 (h := tQ 24 (h := trq 25 0 RD1 (h := tQ 26 (h := trq 27 0 RD1 (h := tQ 28 (h := tQ 29 (h := trq 30 0 RD1 (h := tQ 31 (h := tQ 32 (h := tQ 33 (h := tQ 34 (h := tiq 35 (h := tiq 36 (h := tiq 37 (h := tiq 38 (h := tiq 39 (h := tiq 40 (h := tiq 41 (h := tiq 42 (h := tiq 43 (h := tiq 44 (h := tiq 45 (h := tiq 46 (h := tiq 47 (h := tQ 48 (h := tQ 49 (h := ?_))))))))))))))))))))))))))));refine tdn ?_;go_wp2
  go_ret
  exact ⟨by rw [HE.out]; rfl, HO1.out.trans O4⟩
 obtain ⟨o, ho⟩ : ∃ o, t.ops[j]? = some o := ⟨_, List.getElem?_eq_getElem q4⟩;obtain ⟨bo, oo, rfl, -, hbo, hP⟩ := row_op hOk.row ho;have HPO := Hd (hP.only HO1.out hbo (by simp)).c0;have hbor : bo < w1.heap.size := by omega
 have HE : Hid ((readO h (i : Int) (j : Int)).isSome = !o.wr) := Hd (by cases hw : o.wr with | true => rw [read_write (opAt_yes htx ho) hw]; rfl | false => rw [read_some (opAt_yes htx ho) hw]; rfl);have d4 : decide ((j : Int) < (t.ops.length : Int)) = true := decide_eq_true (by omega);have d4' : decide (j < t.ops.length) = true := decide_eq_true q4;have hj0 : (0 : Int) ≤ (j : Int) := by omega
 have q4' : (j : Int) < (t.ops.length : Int) := by omega
 generalize t.ops.length = m at *;generalize o.wr = ow at *;clear hx hT htx hm hOk hP ho;refine tQ 22 (h := ?_);have RD2 := Hd fun wq (hSw : Only [] w1 wq) => aI (Bk3 (hSw.blk HB1.out (by simp))) (aI (Bk2 (hSw.blk HP1.out (by simp))) (aI ((hSw.cell (p := ⟨bl, off + i * 3 + 2, none⟩) hbr (by simp)).trans HCA.out) ((hSw.cell (p := ⟨bo, oo + j * 4, none⟩) hbor (by simp)).trans HPO.out)));refine trq 23 0 RD2 (h := tQ 24 (h := trq 25 0 RD2 (h := tQ 26 (h := trq 27 0 RD2 (h := tQ 28 (h := tQ 29 (h := trq 30 0 RD2 (h := tQ 31 (h := tQ 32 (h := tQ 33 (h := tQ 34 (h := tQ 35 (h := trq 36 0 RD2 (h := tQ 37 (h := trq 38 0 RD2 (h := tQ 39 (h := tQ 40 (h := trq 41 0 RD2 (h := tQ 42 (h := trq 43 0 RD2 (h := tQ 44 (h := tQ 45 (h := trq 46 0 RD2 (h := tQ 47 (h := tQ 48 (h := tQ 49 (h := ?_)))))))))))))))))))))))))));refine tdn ?_;go_wp2
 go_ret
 exact ⟨by rw [HE.out]; rfl, HO1.out.trans O4⟩
def valC (v : Int × Int) : Array Value := #[.int .i64 v.1, .int .i64 v.2]
theorem rraw_any (s f : Int) (A : Option Addr) (m cp B many : Nat) (ops : List Op4) (key : Int) (w : World) (hg : Row w B A (opC ops)) (hm : ops.length = m) (hM : m ≤ 1000) (hmany : many ≤ 1000) :
  Calls Tryz.prog 42 #[.agg #[.int .i64 s, .int .i64 f, .slice A m cp], .int .i64 (many : Int), .int .i64 key] w fun e w' => e = .returned (optT (leftW key (ops.take many))) ∧ Only [] w w' := by
 have HG := Hd hg;have HMM := Hd hm;obtain ⟨r, hr⟩ : ∃ r, r = leftW key (ops.take many) := ⟨_, rfl⟩;rw [← hr];have HR := Hd hr;have HO0 := Hd ((((Only.refl [] w).alloc (.cells #[.int .i64 s, .int .i64 f, .slice A m cp] 46)).alloc (.cells #[.int .i64 0, .int .i64 0] 38)).alloc (.cells #[.int .i64 0, .int .i64 0] 38));have HT0 := Hd (((Blk.made w 46 #[.int .i64 s, .int .i64 f, .slice A m cp]).alloc (.cells #[.int .i64 0, .int .i64 0] 38)).alloc (.cells #[.int .i64 0, .int .i64 0] 38));have HV0 := Hd ((Blk.made (w.alloc (.cells #[.int .i64 s, .int .i64 f, .slice A m cp] 46)) 38 #[.int .i64 0, .int .i64 0]).alloc (.cells #[.int .i64 0, .int .i64 0] 38));have HU0 := Hd (Blk.made ((w.alloc (.cells #[.int .i64 s, .int .i64 f, .slice A m cp] 46)).alloc (.cells #[.int .i64 0, .int .i64 0] 38)) 38 #[.int .i64 0, .int .i64 0]);simp only [World.size_alloc] at HV0 HU0;clear hg hm hr;go_enter Tryz.func42, Tryz.ntmps42;go_wp2_with fail
 go_loopw [9, 10] (fun iz iv wr => ∃ i : Nat, iv = .int .i64 i ∧ i ≤ many ∧ i ≤ m ∧ iz = .bool (leftW key (ops.take i)).isSome ∧ Hid (Blk wr (w.heap.size + 1 + 1) 38 (valC (leftV key (ops.take i)))) ∧ Hid (Blk wr (w.heap.size + 1) 38 #[.int .i64 0, .int .i64 0]) ∧ Hid (Blk wr w.heap.size 46 #[.int .i64 s, .int .i64 f, .slice A m cp]) ∧ Hid (Only [] w wr)) (fun _ iv _ => m - (intOf iv).toNat)
 case atStart => exact ⟨0, rfl, by omega, by omega, rfl, HU0, HV0, HT0, HO0⟩
 case round =>
  obtain ⟨i, rfl, hi1, hi2, rfl, hU, hV, hT, hO⟩ := hrel;have hsz := hO.out.size;have lT := hT.out.lt;have t2 := hT.out.at_ 2;simp at t2;clear HO0 HT0 HV0 HU0
  by_cases hlt1 : i < many
  ·by_cases hlt2 : i < m
   ·obtain ⟨y, hy⟩ : ∃ y, ops[i]? = some y := ⟨_, List.getElem?_eq_getElem (by rw [HMM.out]; exact hlt2)⟩;obtain ⟨b, off, rfl, -, hbw, hP⟩ := row_op HG.out hy;obtain ⟨p0, p1, p2, p3⟩ := hP.only hO.out hbw (by simp);have HLT := Hd (leftW_take (key := key) hy);obtain ⟨yw, yk, yv, yn⟩ := y;dsimp only at p0 p1 p2 p3 HLT;have h01 : (i : Int) < (many : Int) := by omega
    have h02 : (i : Int) < (m : Int) := by omega
    have hi0 : (0 : Int) ≤ (i : Int) := Int.natCast_nonneg _;have hwi : IntKind.i64.wrap ((i : Int) + 1) = (i : Int) + 1 := IntWalk.i64_in _ (by omega);have hbr : b < wr.heap.size := by omega
    clear hP hy
    by_cases hw : yw = true ∧ yk = key
    ·obtain ⟨rfl, rfl⟩ := hw;have HE : Hid (leftW yk (ops.take (i + 1)) = some (yv, yn)) := Hd (by rw [HLT.out]; simp [hitO]);have HVE : Hid (leftV yk (ops.take (i + 1)) = (yv, yn)) := Hd (by unfold leftV; rw [HE.out]; rfl);generalize leftW yk (ops.take i) = l0 at *;generalize leftV yk (ops.take i) = v0 at *;go_wp2_with (refine wpList_store_blk rfl 38 (.tmp 8) (.tmp 45) rfl (w.heap.size + 1 + 1) 38 (valC v0) #[.int .i64 yv, .int .i64 yn] rfl rfl hU.out rfl (by kernel_rfl) (by kernel_rfl) ?_; intro w9 b9 o9; have HB9 := Hd b9; have HV9 := Hd (o9.blk hV.out (by simp)); have HT9 := Hd (o9.blk hT.out (by simp; omega)); have HN9 := Hd (hO.out.step o9 (fun i hi hl => by simp at hi; omega)); clear b9 o9)
     go_roundw
     case rel => first | exact ⟨i + 1, by go_num, by omega, by omega, by rw [HE.out]; rfl, Hd (by rw [HVE.out]; exact HB9.out), HV9, HT9, HN9⟩ | exact ⟨_, _, ⟨i + 1, by go_num, by omega, by omega, by rw [HE.out]; rfl, Hd (by rw [HVE.out]; exact HB9.out), HV9, HT9, HN9⟩, rfl, rfl⟩
     case measure => simp [intOf]; omega
    ·have HE : Hid (leftW key (ops.take (i + 1)) = leftW key (ops.take i)) := Hd (by
      rw [HLT.out, if_neg];unfold hitO;simp;exact fun h => fun h' => hw ⟨h, h'⟩)
     have HVE : Hid (leftV key (ops.take (i + 1)) = leftV key (ops.take i)) := Hd (by unfold leftV; rw [HE.out]);clear HLT
     cases yw with
     | false =>
      clear hw;go_wp2
      go_roundw
      case rel => first | exact ⟨i + 1, by go_num, by omega, by omega, by rw [HE.out], Hd (by rw [HVE.out]; exact hU.out), hV, hT, hO⟩ | exact ⟨_, _, ⟨i + 1, by go_num, by omega, by omega, by rw [HE.out], Hd (by rw [HVE.out]; exact hU.out), hV, hT, hO⟩, rfl, rfl⟩
      case measure => simp [intOf]; omega
     | true =>
      have hk1 : (yk == key) = false := by simpa using hw
      clear hw;go_wp2
      go_roundw
      case rel => first | exact ⟨i + 1, by go_num, by omega, by omega, by rw [HE.out], Hd (by rw [HVE.out]; exact hU.out), hV, hT, hO⟩ | exact ⟨_, _, ⟨i + 1, by go_num, by omega, by omega, by rw [HE.out], Hd (by rw [HVE.out]; exact hU.out), hV, hT, hO⟩, rfl, rfl⟩
      case measure => simp [intOf]; omega
   ·have him : i = m := by omega
    subst him;have HRE : Hid (leftW key (ops.take i) = r) := Hd (by rw [HR.out, List.take_of_length_le (by rw [HMM.out]; exact Nat.le_refl _), List.take_of_length_le (by rw [HMM.out]; omega)]);have HVE : Hid (leftV key (ops.take i) = r.getD (0, 0)) := Hd (by unfold leftV; rw [HRE.out]);have h01 : (i : Int) < (many : Int) := by omega
    have hd2 : decide ((i : Int) < (i : Int)) = false := by simp
    rw [HRE.out];rw [HVE.out] at hU;generalize hgr : w.heap.size + 1 = gr at *;have lU := hU.out.lt;have u0 := hU.out.at_ 0;have u1 := hU.out.at_ 1;simp [valC] at u0 u1;go_wp2_with (refine wpList_store_blk rfl 38 (.tmp 6) (.tmp 46) rfl gr 38 #[.int .i64 0, .int .i64 0] #[.int .i64 (r.getD (0, 0)).1, .int .i64 (r.getD (0, 0)).2] rfl rfl hV.out rfl (by kernel_rfl) (by kernel_rfl) ?_; intro w9 b9 o9; have HB9 := Hd b9; have HN9 := Hd o9; clear b9 o9)
    refine bodyPost_ret (results_row2 Tryz.results42 _ _ gr 38 #[.int .i64 (r.getD (0, 0)).1, .int .i64 (r.getD (0, 0)).2] _ rfl HB9.out Tryz.underlying38 rfl (by kernel_rfl)) rfl ?_;exact ⟨rfl, hO.out.step HN9.out (fun i hi hl => by simp at hi; omega)⟩
  ·have him : i = many := by omega
   subst him;have HRE : Hid (leftW key (ops.take i) = r) := Hd HR.out.symm;have HVE : Hid (leftV key (ops.take i) = r.getD (0, 0)) := Hd (by unfold leftV; rw [HRE.out]);have hd2 : decide ((i : Int) < (i : Int)) = false := by simp
   rw [HRE.out];rw [HVE.out] at hU;generalize hgr : w.heap.size + 1 = gr at *;have lU := hU.out.lt;have u0 := hU.out.at_ 0;have u1 := hU.out.at_ 1;simp [valC] at u0 u1;go_wp2_with (refine wpList_store_blk rfl 38 (.tmp 6) (.tmp 46) rfl gr 38 #[.int .i64 0, .int .i64 0] #[.int .i64 (r.getD (0, 0)).1, .int .i64 (r.getD (0, 0)).2] rfl rfl hV.out rfl (by kernel_rfl) (by kernel_rfl) ?_; intro w9 b9 o9; have HB9 := Hd b9; have HN9 := Hd o9; clear b9 o9)
   refine bodyPost_ret (results_row2 Tryz.results42 _ _ gr 38 #[.int .i64 (r.getD (0, 0)).1, .int .i64 (r.getD (0, 0)).2] _ rfl HB9.out Tryz.underlying38 rfl (by kernel_rfl)) rfl ?_;exact ⟨rfl, hO.out.step HN9.out (fun i hi hl => by simp at hi; omega)⟩
end Go.Proofs.YtjfbeeogiejopaaGreatDoor
namespace Go.Proofs.YtjfbeeogiejopaaGreatDoor
open Go.RowKit
theorem rmay_anyV (k n : Int) (w : World) : Calls Tryz.prog 73 #[.agg #[.int .i64 k, .int .i64 n]] w fun e w' => e = .returned (.bool (mayB k n)) ∧ Only [] w w' := by
 unfold mayB
 by_cases h1 : k = 1
 ·subst h1;go_enter Tryz.func73, Tryz.ntmps73;go_wp2
  go_ret
  exact ⟨by simp, (Only.refl _ _).alloc _⟩
 ·have h1' : (k == 1) = false := by simp [h1]
  have H1 := Hd h1;clear h1
  by_cases h0 : k = 0
  ·subst h0;go_enter Tryz.func73, Tryz.ntmps73;go_wp2
   go_ret
   exact ⟨ret_boolv (by simp; try (rw [Bool.eq_iff_iff]; simp)), (Only.refl _ _).alloc _⟩
  ·have h0' : (k == 0) = false := by simp [h0]
   have H0 := Hd h0;clear h0
   by_cases h2 : k = 2
   ·subst h2;go_enter Tryz.func73, Tryz.ntmps73;go_wp2
    go_ret
    exact ⟨ret_boolv (by simp; try (rw [Bool.eq_iff_iff]; simp)), (Only.refl _ _).alloc _⟩
   ·have h2' : (k == 2) = false := by simp [h2]
    have H2 := Hd h2;clear h2;go_enter Tryz.func73, Tryz.ntmps73;go_wp2
    go_ret
    exact ⟨ret_boolv (by simp [H0.out, H1.out, H2.out]), (Only.refl _ _).alloc _⟩
theorem rLess_any (k m k' m' : Int) (w : World) : Calls Tryz.prog 74 #[.agg #[.int .i64 k, .int .i64 m], .agg #[.int .i64 k', .int .i64 m']] w fun e w' => e = .returned (.bool (lessBV k m k' m')) ∧ Only [] w w' := by
 unfold lessBV
 by_cases h : k = k'
 ·subst h
  by_cases h1 : k = 1
  ·subst h1;go_enter Tryz.func74, Tryz.ntmps74;go_wp2
   go_ret
   exact ⟨by simp, ((Only.refl _ _).alloc _).alloc _⟩
  ·have h1' : (k == 1) = false := by simp [h1]
   have H1 := Hd h1;clear h1;go_enter Tryz.func74, Tryz.ntmps74;go_wp2
   go_ret
   exact ⟨by simp [H1.out], ((Only.refl _ _).alloc _).alloc _⟩
 ·have h' : (k != k') = true := by simp [h]
  have H := Hd h;clear h;go_enter Tryz.func74, Tryz.ntmps74;go_wp2
  go_ret
  exact ⟨by simp [H.out], ((Only.refl _ _).alloc _).alloc _⟩
open Go.Lib hiding intOf
attribute [local go_sem ↓] Go.wp_at_zero Go.wp_at_succ
theorem own_base {w : World} {base base' : Nat} {e : TypeId} {size : Nat} {v : Value} {n : Nat} {xs : List Value} (h : w.ownsRow base e size v n xs) (hb : base' ≤ base) : w.ownsRow base' e size v n xs := by
 obtain ⟨hl, hv⟩ := h;refine ⟨hl, ?_⟩;rcases hv with h | ⟨g, cap, cur, h1, h2, h3⟩
 ·exact .inl h
 ·exact .inr ⟨g, cap, cur, h1, by omega, h3⟩
theorem ahead_at {out : List (Int × Int)} {l : (Int × Int)} {k : Nat} (h1 : ∀ j, j < k → ∀ y, out[j]? = some y → lessV y l = true) (h2 : k ≤ out.length) (h3 : ∀ y, out[k]? = some y → lessV y l = false) : k = aheadOfV out l := by
 have hl := ahead_leV out l;obtain ⟨e1, e2⟩ := ahead_splitV out l;rcases Nat.lt_trichotomy k (aheadOfV out l) with h | h | h
 ·exfalso
  have hlt : k < out.length := by omega
  have hm : out[k] ∈ out.take (aheadOfV out l) := List.mem_iff_getElem.2 ⟨k, by rw [List.length_take]; omega, by rw [List.getElem_take]⟩;rw [e1] at hm;have := vtake_all (p := fun y => lessV y l) out _ hm;rw [h3 _ (List.getElem?_eq_getElem hlt)] at this
  cases this
 ·exact h
 ·exfalso
  have hlt : aheadOfV out l < out.length := by omega
  cases hd : out.drop (aheadOfV out l) with
  | nil =>
   have := congrArg List.length hd;rw [List.length_drop, List.length_nil] at this;omega
  | cons z t =>
   have hz : lessV z l = false := drop_headV (p := fun y => lessV y l) (by rw [← e2]; exact hd);have hzz : out[aheadOfV out l]? = some z := by
    have : (out.drop (aheadOfV out l))[0]? = some z := by rw [hd]; rfl
    rwa [List.getElem?_drop, Nat.add_zero] at this
   have := h1 _ h z hzz;rw [hz] at this
   cases this
theorem edgeC_take (h : List (Int × Int)) (k : Nat) : edgeC (h.take k) = (edgeC h).take (k * 2) := by
 induction h generalizing k with
 | nil => simp [edgeC]
 | cons x h ih =>
  cases k with
  | zero => simp [edgeC]
  | succ k =>
   have := ih k;rw [show (k + 1) * 2 = k * 2 + 1 + 1 by omega];simp only [edgeC, List.take_succ_cons, List.flatMap_cons, List.cons_append, List.nil_append] at this ⊢;rw [this]
theorem edgeC_drop (h : List (Int × Int)) (k : Nat) : edgeC (h.drop k) = (edgeC h).drop (k * 2) := by
 induction h generalizing k with
 | nil => simp [edgeC]
 | cons x h ih =>
  cases k with
  | zero => simp [edgeC]
  | succ k =>
   have := ih k;rw [show (k + 1) * 2 = k * 2 + 1 + 1 by omega];simp only [edgeC, List.drop_succ_cons, List.flatMap_cons, List.cons_append, List.nil_append] at this ⊢;rw [this]
theorem rvless_below (y l : Int × Int) (w : World) (h1 : mayP y = true) (h2 : mayP l = true) :
  Calls Tryz.prog 74 #[.agg #[.int .i64 y.1, .int .i64 y.2], .agg #[.int .i64 l.1, .int .i64 l.2]] w fun e w' => e = .returned (.bool (lessV y l)) ∧ Below w.heap.size w w' := by
 have e : lessV y l = lessBV y.1 y.2 l.1 l.2 := by
  rw [Bool.eq_iff_iff, lessV_spec, lessB_spec];simp [h1, h2]
 rw [e];exact (rLess_any y.1 y.2 l.1 l.2 w).mono fun e w' ⟨he, ho⟩ => ⟨he, ho.below (Nat.le_refl _) (by simp)⟩
set_option maxRecDepth 20000 in
theorem rvsorted_any (A : Option Addr) (n c B : Nat) (zs : List (Int × Int)) (w : World) (hn : zs.length = n) (hN : n ≤ 1000) (hA : Row w B A (edgeC zs)) :
  Calls Tryz.prog 44 #[.slice A n c] w fun e w' => Only [] w w' ∧ ∃ V, e = .returned V ∧ w'.ownsRow w.heap.size 38 2 V (sortV zs).length (edgeC (sortV zs)) := by
 obtain ⟨i0, hi, hz0, hz1, hz2⟩ := info_parts vinfo;have HIS := Hd (fun (z : Int × Int) w' => rmay_anyV z.1 z.2 w');have HLS := Hd (fun (z y : Int × Int) w' (hz : mayP z = true) (hy : mayP y = true) => rvless_below y z w' hy hz);have HN := Hd hn;have HROW := Hd hA;have hmem := fun k => (fold_vals (zs.take k) [] vals_nil).2;have HMEM := Hd (fun k y (h : y ∈ (zs.take k).foldl insV []) => (((hmem k y).1 h).resolve_left (by simp)).2);clear hn hA hmem;go_enter Tryz.func44, Tryz.ntmps44;go_wp2_with fail
 go_loopw [3, 4] (fun V iv wr => ∃ (k m g cap : Nat) (out : List (Int × Int)), iv = .int .i64 k ∧ V = .slice (some ⟨g, 0, none⟩) m cap ∧ k ≤ n ∧ m ≤ k ∧ m ≤ cap ∧ Hid (out.length = m) ∧ Hid (out = (zs.take k).foldl insV []) ∧ Hid (wr.ownsRow w.heap.size 38 2 (.slice (some ⟨g, 0, none⟩) m cap) m (edgeC out)) ∧ Hid (Only [] w wr)) (fun _ iv _ => n - (intOf iv).toNat)
 case atStart => exact ⟨0, 0, w.heap.size, 0, [], rfl, rfl, by omega, by omega, by omega, Hd rfl, Hd rfl, Hd (World.ownsRow_lit w #[] 0 (Nat.le_refl _) (by unfold maxLen; omega) rfl), Hd ((Only.refl [] w).alloc _)⟩
 case round =>
  obtain ⟨k, m, g, cap, out, rfl, rfl, hk, hm, hmc, HM, HOUT, HOWN, HO⟩ := hrel;obtain ⟨wo, hwo⟩ : ∃ wo : World, wo = wr := ⟨_, rfl⟩;subst hwo
  by_cases hlt : k < n
  ·have h01 : (k : Int) < (n : Int) := by omega
   have hk0 : (0 : Int) ≤ (k : Int) := Int.natCast_nonneg _;have hwk : IntKind.i64.wrap ((k : Int) + 1) = (k : Int) + 1 := IntWalk.i64_in _ (by omega);obtain ⟨bz, oz, rfl, hbB, hbw, hcell⟩ := HROW.out.open_ (k := k * 2) (by rw [edgeC_len, HN.out]; omega);obtain ⟨l, hl⟩ : ∃ l, zs[k]? = some l := ⟨_, List.getElem?_eq_getElem (by rw [HN.out]; exact hlt)⟩;have hee := edgeC_get zs k l hl;have hcl0 := aI (hcell _ _ hee.1) (hcell _ _ hee.2);have HCW : Hid (∀ wq, Only [] w wq → wq.cell? ⟨bz, oz + k * 2, none⟩ = some (.int .i64 l.1) ∧ wq.cell? ⟨bz, oz + k * 2 + 1, none⟩ = some (.int .i64 l.2)) := Hd (fun wq ho => ⟨(ho.cell (p := ⟨bz, oz + k * 2, none⟩) hbw (by simp)).trans hcl0.1, by rw [Nat.add_assoc]; exact (ho.cell (p := ⟨bz, oz + (k * 2 + 1), none⟩) hbw (by simp)).trans hcl0.2⟩);have hck := (HCW.out wo HO.out).1;have hckb := (HCW.out wo HO.out).2;have HIS1 := Hd (HIS.out l wo);have HSTEP : Hid ((zs.take (k + 1)).foldl insV [] = insV out l) := Hd (by
    rw [List.take_add_one, hl, List.foldl_append, ← HOUT.out]
    rfl)
   have hwsz := HO.out.size;obtain ⟨v, hv⟩ : ∃ v, v = mayP l := ⟨_, rfl⟩;have hv2 : v = mayB l.1 l.2 := hv;rw [← hv2] at HIS1;have HV := Hd hv;clear hcell hl hv hcl0 hee hv2
   cases v with
   | false =>
    have HST2 : Hid (out = (zs.take (k + 1)).foldl insV []) := Hd (by rw [HSTEP.out]; unfold insV; rw [if_neg (by rw [← HV.out]; simp)]);go_wp2_with fail
    refine (HIS1.out).mono ?_;rintro e w2 ⟨rfl, hO2⟩;have HOWN2 := Hd (own_only HOWN.out hO2 (by simp));have HO2 := Hd (HO.out.trans hO2);clear hO2;go_wp2
    go_roundw
    case rel => exact ⟨k + 1, m, g, cap, out, by go_num, rfl, by omega, by omega, by omega, HM, HST2, HOWN2, HO2⟩
    case measure => simp [intOf]; omega
   | true =>
    have HLS1 := Hd (fun y w' (hy : y ∈ out) => HLS.out l y w' HV.out.symm (HMEM.out k y (by rw [← HOUT.out]; exact hy)));go_wp2_with fail
    refine (HIS1.out).mono ?_;rintro e w2 ⟨rfl, hO2⟩;have HOWN2 := Hd (own_only HOWN.out hO2 (by simp));have HO2 := Hd (HO.out.trans hO2);have hw2 := HO2.out.size;obtain ⟨A0, c0, hA0, -, -, -, hrow2⟩ := own_row HOWN2.out;obtain ⟨h1, h2⟩ : A0 = some ⟨g, 0, none⟩ ∧ cap = c0 := by
     injection hA0 with h1 h2 h3;exact ⟨h1.symm, h3⟩
    subst h1;subst h2;have HX2 := Hd hrow2;clear hO2 hrow2 hA0 HOWN HO hck hckb;go_wp2_with fail
    go_loopw [5] (fun av wi => ∃ (at_ : Nat), av = .int .i64 at_ ∧ at_ ≤ m ∧ Hid (∀ j, j < at_ → ∀ y, out[j]? = some y → lessV y l = true) ∧ Hid (Only [] w2 wi)) (fun av _ => m - (intOf av).toNat)
    case atStart => exact ⟨0, rfl, by omega, Hd (fun j hj => by omega), Hd (Only.refl [] w2)⟩
    case round =>
     obtain ⟨at_, rfl, hat0, HLT, HOI⟩ := hrel;obtain ⟨wi, hwi⟩ : ∃ wi : World, wi = wr := ⟨_, rfl⟩;subst hwi;have hat1 : (0 : Int) ≤ (at_ : Int) := Int.natCast_nonneg _;have hcl := (HCW.out wi (HO2.out.trans HOI.out)).1;have hclb := (HCW.out wi (HO2.out.trans HOI.out)).2;obtain ⟨bb, hbb⟩ : ∃ bb : Bool, (at_ < m → ∃ y, out[at_]? = some y ∧ bb = lessV y l) ∧ (¬ at_ < m → bb = false) := by
      by_cases h : at_ < m
      ·exact ⟨lessV (out[at_]'(by rw [HM.out]; exact h)) l, fun _ => ⟨_, List.getElem?_eq_getElem (by rw [HM.out]; exact h), rfl⟩, fun h' => absurd h h'⟩
      ·exact ⟨false, fun h' => absurd h' h, fun _ => rfl⟩
     have HBB := Hd hbb;clear hbb;go_upto_region 7 with fail
     go_cut [33] (fun v wx => v = .bool bb ∧ Hid (Only [] wi wx))
     case first =>
      by_cases hlm : at_ < m
      ·obtain ⟨y, hy, hby⟩ := HBB.out.1 hlm;subst hby;have hlm1 : decide ((at_ : Int) < (m : Int)) = true := decide_eq_true (by omega);have hlm2 : decide (at_ < m) = true := decide_eq_true hlm;have hlm3 : (at_ : Int) < (m : Int) := by omega
       obtain ⟨g', o', hgo, -, hgw, hgc⟩ := (HX2.out.only HOI.out (by simp)).open_ (k := at_ * 2) (by rw [edgeC_len, HM.out]; omega);obtain ⟨rfl, rfl⟩ : g = g' ∧ 0 = o' := by
        have := Option.some.inj hgo;exact ⟨congrArg Addr.block this, congrArg Addr.off this⟩
       have hye := edgeC_get out at_ y hy;have hyc : wi.cell? ⟨g, at_ * 2, none⟩ = some (.int .i64 y.1) := by
        have := hgc _ _ hye.1
        rwa [Nat.zero_add] at this
       have hycb : wi.cell? ⟨g, at_ * 2 + 1, none⟩ = some (.int .i64 y.2) := by
        have := hgc _ _ hye.2
        rwa [Nat.zero_add] at this
       have c1 := cell_regrown hyc;have c2 := cell_regrown hcl;have c3 := cell_regrown hycb;have c4 := cell_regrown hclb;have HL2 := Hd (fun w' => HLS1.out y w' (List.mem_of_getElem? hy));clear hgc hgo hy hyc hcl hycb hclb hye;refine wp_region_quiet_below (by kernel_rfl) (by kernel_rfl) ?_
       repeat (quiet_step (exact Calls.regrown_of (HL2.out _)))
       refine wpQuiet_nil ?_;intro _ hw';obtain ⟨⟨dq, osq⟩, hw''⟩ := hw';subst hw'';have HNW := Hd (Only.of_below (below_regrown wi dq osq) []);clear c1 c2 c3 c4;generalize Go.Sort.grow (redrawn wi dq) osq = w7 at *;go_wp2
       go_meet
       exact ⟨rfl, HNW⟩
      ·have hlm1 : decide ((at_ : Int) < (m : Int)) = false := decide_eq_false (by omega);have hlm2 : decide (at_ < m) = false := decide_eq_false hlm;have hbf := HBB.out.2 hlm;subst hbf
       go_quiet (fail)
       have HNW := Hd ((Only.refl [] wi).drewN nq);generalize wi.drewN nq = w7 at *;go_wp2
       go_meet
       exact ⟨rfl, HNW⟩
     case rest =>
      obtain ⟨rfl, HC1⟩ := hcut;have HO7 := Hd (HOI.out.trans HC1.out)
      cases bb with
      | true =>
       have hlm : at_ < m := by
        by_cases h : at_ < m
        ·exact h
        ·have := HBB.out.2 h
         cases this
       have HLT2 : Hid (∀ j, j < at_ + 1 → ∀ y, out[j]? = some y → lessV y l = true) := Hd (fun j hj y hy => by
        by_cases h : j < at_
        ·exact HLT.out j h y hy
        ·obtain rfl : j = at_ := by omega
         obtain ⟨y', hy', hb⟩ := HBB.out.1 hlm;rw [hy] at hy';obtain rfl := Option.some.inj hy';exact hb.symm)
       have hwa : IntKind.i64.wrap ((at_ : Int) + 1) = (at_ : Int) + 1 := IntWalk.i64_in _ (by omega);clear HBB HLT hcl hclb;go_wp2
       go_roundw
       case rel => exact ⟨at_ + 1, by go_num, by omega, HLT2, HO7⟩
       case measure => simp [intOf]; omega
      | false =>
       have HAT : Hid (at_ = aheadOfV out l) := Hd (ahead_at HLT.out (by rw [HM.out]; exact hat0) (fun y hy => by
        have hlm : at_ < m := by rw [← HM.out]; exact (List.getElem?_eq_some_iff.1 hy).1
        obtain ⟨y', hy', hb⟩ := HBB.out.1 hlm;rw [hy] at hy';obtain rfl := Option.some.inj hy';exact hb.symm))
       have HO9 := Hd (HO2.out.trans HO7.out);have hcl9 := (HCW.out wc HO9.out).1;have hcl9b := (HCW.out wc HO9.out).2;have HX9 := Hd (HX2.out.only HO7.out (by simp));have HOWN9 := Hd (own_only HOWN2.out HO7.out (by simp));obtain ⟨th, hth⟩ : ∃ th, th = decide (out[at_]? = some l) := ⟨_, rfl⟩;have HTH := Hd hth;obtain ⟨w9, hw9⟩ : ∃ w9 : World, w9 = wc := ⟨_, rfl⟩;subst hw9;clear HBB HLT hcl hclb hth HC1 HO7;go_upto_region 9 with fail
       go_cut [50] (fun v wx => v = .bool (!th) ∧ Hid (Only [] w9 wx))
       case first =>
        by_cases hlm : at_ < m
        ·obtain ⟨y, hy⟩ : ∃ y, out[at_]? = some y := ⟨_, List.getElem?_eq_getElem (by rw [HM.out]; exact hlm)⟩;have hlm1 : decide ((at_ : Int) < (m : Int)) = true := decide_eq_true (by omega);have hlm2 : decide (at_ < m) = true := decide_eq_true hlm;have hlm3 : (at_ : Int) < (m : Int) := by omega
         obtain ⟨g', o', hgo, -, hgw, hgc⟩ := HX9.out.open_ (k := at_ * 2) (by rw [edgeC_len, HM.out]; omega);obtain ⟨rfl, rfl⟩ : g = g' ∧ 0 = o' := by
          have := Option.some.inj hgo;exact ⟨congrArg Addr.block this, congrArg Addr.off this⟩
         have hye := edgeC_get out at_ y hy;have hyc : w9.cell? ⟨g, at_ * 2, none⟩ = some (.int .i64 y.1) := by
          have := hgc _ _ hye.1
          rwa [Nat.zero_add] at this
         have hycb : w9.cell? ⟨g, at_ * 2 + 1, none⟩ = some (.int .i64 y.2) := by
          have := hgc _ _ hye.2
          rwa [Nat.zero_add] at this
         have hlm4 : ((at_ : Int) == (m : Int)) = false := by simp; omega
         have hty : th = decide (y = l) := by rw [HTH.out, hy]; simp
         clear hgc hgo hy hye;have hcs : ((y.1 == l.1) = true ∧ (y.2 == l.2) = true ∧ th = true) ∨ ((y.1 == l.1) = true ∧ (y.2 == l.2) = false ∧ th = false) ∨ ((y.1 == l.1) = false ∧ th = false) := by
          by_cases e1 : y.1 = l.1
          ·by_cases e2 : y.2 = l.2
           ·exact .inl ⟨by simp [e1], by simp [e2], by rw [hty, decide_eq_true (Prod.ext e1 e2)]⟩
           ·exact .inr (.inl ⟨by simp [e1], by simp [e2], by rw [hty, decide_eq_false (fun e => e2 (congrArg Prod.snd e))]⟩)
          ·exact .inr (.inr ⟨by simp [e1], by rw [hty, decide_eq_false (fun e => e1 (congrArg Prod.fst e))]⟩)
         clear hty;rcases hcs with ⟨q1, q2, q3⟩ | ⟨q1, q2, q3⟩ | ⟨q1, q3⟩
         all_goals
          subst q3
          go_quiet (fail)
          have HNW := Hd ((Only.refl [] w9).drewN nq);generalize w9.drewN nq = w7 at *;go_wp2
          go_meet
          exact ⟨rfl, HNW⟩
        ·have hlm1 : decide ((at_ : Int) < (m : Int)) = false := decide_eq_false (by omega);have hlm2 : decide (at_ < m) = false := decide_eq_false hlm;have hlm4 : ((at_ : Int) == (m : Int)) = true := by simp; omega
         have htf : th = false := by
          rw [HTH.out, List.getElem?_eq_none (by rw [HM.out]; omega)];simp
         subst htf
         go_quiet (fail)
         have HNW := Hd ((Only.refl [] w9).drewN nq);generalize w9.drewN nq = w7 at *;go_wp2
         go_meet
         exact ⟨rfl, HNW⟩
       case rest =>
        obtain ⟨rfl, HC9⟩ := hcut;obtain ⟨wr, hwr⟩ : ∃ wr : World, wr = wc := ⟨_, rfl⟩;subst hwr;have HOR := Hd (HO9.out.trans HC9.out);have HOWNR := Hd (own_only HOWN9.out HC9.out (by simp));have hwsr := HOR.out.size
        cases th with
        | true =>
         have hst : (zs.take (k + 1)).foldl insV [] = out := by
          rw [HSTEP.out];unfold insV;rw [if_pos HV.out.symm, ← HAT.out, if_pos (of_decide_eq_true HTH.out.symm)]
         have HST2 : Hid (out = (zs.take (k + 1)).foldl insV []) := Hd hst.symm;clear hst;go_wp2
         go_roundw
         case rel => exact ⟨k + 1, m, g, cap, out, by go_num, rfl, by omega, by omega, by omega, HM, HST2, HOWNR, HOR⟩
         case measure => simp [intOf]; omega
        | false =>
         have hst : (zs.take (k + 1)).foldl insV [] = out.take at_ ++ l :: out.drop at_ := by
          rw [HSTEP.out];unfold insV;rw [if_pos HV.out.symm, ← HAT.out, if_neg (of_decide_eq_false HTH.out.symm)]
         have HST2 := Hd hst.symm;have hcl := (HCW.out wr HOR.out).1;have hclb := (HCW.out wr HOR.out).2;have HCL := Hd hcl;have HCLb := Hd hclb;have hbz : bz < wr.heap.size := by omega
         have HX := Hd (row_up (HX9.out.only HC9.out (by simp)));have HXD : Hid (∀ wz, Only [] wr wz → Row wz wr.heap.size (if cap = at_ then some ⟨g, 0, none⟩ else some ⟨g, at_ * 2, none⟩) ((edgeC out).drop (at_ * 2))) := Hd (fun wz ho => by
          have h := (HX.out.only ho (by simp)).drop (at_ * 2);rw [Nat.zero_add] at h
          split
          ·exact .inl (List.drop_of_length_le (by rw [edgeC_len, HM.out]; omega))
          ·exact h)
         have hb1 : (at_ : Int) ≤ (cap : Int) := by omega
         have hb2 : (at_ : Int) ≤ (m : Int) := by omega
         have hb3 : (m : Int) ≤ (cap : Int) := by omega
         have hmz : (0 : Int) ≤ (m : Int) := Int.natCast_nonneg _;clear hst hcl hcl9 hclb hcl9b;go_wp2_with fail
         refine rg1 [] [] wr ?_;have OW : Only [] wr wr.drew := (Only.refl [] wr).drew;have hsz := OW.size;generalize hww : wr.drew = wz at *;clear hww;refine tQ 1 (h := tQ 2 (h := tQ 3 (h := tQ 5 (h := tQ 6 (h := tQ 7 (h := ?_))))));refine trd (i := 8) (v := ?_) 0 ?_ ?_;rotate_left
         ·(intro wq hSw; have hcl := (hSw.cell (p := ⟨bz, oz + k * 2, none⟩) hbz (by simp)).trans HCL.out; have hclb := (hSw.cell (p := ⟨bz, oz + k * 2 + 1, none⟩) hbz (by simp)).trans HCLb.out; clear hSw; go_simp; try with_reducible rfl)
         (try simp only [tdz]);refine tQ 11 (h := tQ 12 (h := tQ 13 (h := ?_)));refine timed_fork (i := 0) (j := 9) (by kernel_rfl) rfl rfl (fun K hK => ?_) (fun K hK => ?_)
         ·go_simp;have OV0 : (wz.alloc (.cells #[] 38)).ownsRow wr.heap.size 38 2 (.slice (some ⟨wz.heap.size, 0, none⟩) 0 0) 0 [] := World.ownsRow_lit wz #[] 0 (by omega) (by unfold maxLen; omega) rfl;have OW1 := OW.alloc (.cells #[] 38);refine hK.out _ _ (th1 (OW1)) ?_;clear hK K OW hsz;generalize wz.alloc (.cells #[] 38) = w1 at *;generalize wz.heap.size = p0 at *;clear wz;obtain ⟨wz, hwz⟩ : ∃ wz : World, wz = w1 := ⟨_, rfl⟩;subst hwz;have OW := OW1;clear OW1;have hsz := OW.size;(try simp only [tdz]);refine timed_fork (i := 4) (j := 9) (by kernel_rfl) rfl rfl (fun K hK => ?_) (fun K hK => ?_)
          ·refine step_append_row _ rfl (.tmp 51) (.tmp 54) 33 rfl wr.heap.size 38 i0 _ 2 16 Tryz.underlying33 hi hz0 hz1 hz2 rfl (by omega) _ 0 ([]) (by rfl) (OV0) _ _ _ _ (edgeC (out.take at_)) (by rfl) (by rw [edgeC_len, List.length_take, HM.out]; omega) (by rw [edgeC_take]; exact (HX.out.only OW (by simp)).take (at_ * 2)) (by intro u hu; first | exact one_edgeC _ u hu | (simp at hu; rcases hu with rfl | rfl <;> rfl)) (by unfold maxLen; omega) (by omega) (by omega) ?_;intro v3 w4 hown3 hgrow hat;have OW1 : Only [] wr w4 := OW.step (only_grown hgrow) (own_new OV0);have OV4 : w4.ownsRow wr.heap.size 38 2 v3 at_ (edgeC (out.take at_)) := by rw [Nat.zero_add, List.nil_append] at hown3; exact hown3
           refine hK.out _ _ (th1 (OW1)) ?_;clear hK K OW hsz hown3 hgrow hat OV0;clear wz;obtain ⟨wz, hwz⟩ : ∃ wz : World, wz = w4 := ⟨_, rfl⟩;subst hwz;have OW := OW1;clear OW1;have hsz := OW.size;obtain ⟨v4, hv4⟩ : ∃ v4, v4 = v3 := ⟨_, rfl⟩;subst hv4;(try simp only [tdz]);refine tst (i := 9) fun K hK => ?_;go_simp;have BL1 := Blk.made wz 38 #[.int .i64 l.1, .int .i64 l.2];have OW1 := OW.alloc (.cells #[.int .i64 l.1, .int .i64 l.2] 38);have OV41 := own_only OV4 ((Only.refl [] wz).alloc (.cells #[.int .i64 l.1, .int .i64 l.2] 38)) (by simp);refine hK.out _ _ (th1 (OW1)) ?_;clear hK K OW hsz OV4;generalize wz.alloc (.cells #[.int .i64 l.1, .int .i64 l.2] 38) = w1 at *;generalize wz.heap.size = p9 at *;clear wz;obtain ⟨wz, hwz⟩ : ∃ wz : World, wz = w1 := ⟨_, rfl⟩;subst hwz;have OW := OW1;clear OW1;have hsz := OW.size;have BL := BL1;clear BL1;have OV4 := OV41;clear OV41;(try simp only [tdz]);refine tst (i := 10) fun K hK => ?_;refine step_append_row _ rfl (.tmp 55) (.tmp 60) 33 rfl wr.heap.size 38 i0 _ 2 16 Tryz.underlying33 hi hz0 hz1 hz2 rfl (by omega) _ at_ (edgeC (out.take at_)) (by rfl) (OV4) _ _ 1 1 ([.int .i64 l.1, .int .i64 l.2]) (by rfl) (by rfl) (BL.row) (by intro u hu; first | exact one_edgeC _ u hu | (simp at hu; rcases hu with rfl | rfl <;> rfl)) (by unfold maxLen; omega) (by omega) (by omega) ?_;intro v3 w4 hown3 hgrow hat;have OV1 : w4.ownsRow wr.heap.size 38 2 v3 (at_ + 1) (edgeC (out.take at_ ++ [l])) := by rw [show edgeC (out.take at_ ++ [l]) = edgeC (out.take at_) ++ [.int .i64 l.1, .int .i64 l.2] by simp [edgeC]]; exact hown3
           have OW1 : Only [] wr w4 := OW.step (only_grown hgrow) (own_new OV4);refine hK.out _ _ (th1 (OW1)) ?_;clear hK K OW hsz hown3 hgrow hat OV4 BL;clear wz;obtain ⟨wz, hwz⟩ : ∃ wz : World, wz = w4 := ⟨_, rfl⟩;subst hwz;have OW := OW1;clear OW1;have hsz := OW.size;obtain ⟨v6, hv6⟩ : ∃ v6, v6 = v3 := ⟨_, rfl⟩;subst hv6;(try simp only [tdz]);refine tst (i := 14) fun K hK => ?_;refine step_append_row _ rfl (.tmp 61) (.tmp 64) 33 rfl wr.heap.size 38 i0 _ 2 16 Tryz.underlying33 hi hz0 hz1 hz2 rfl (by omega) _ (at_ + 1) (edgeC (out.take at_ ++ [l])) (by rfl) (OV1) _ _ _ _ (edgeC (out.drop at_)) (by rfl) (by rw [edgeC_len, List.length_drop, HM.out]) (by rw [edgeC_drop]; exact HXD.out wz OW) (by intro u hu; first | exact one_edgeC _ u hu | (simp at hu; rcases hu with rfl | rfl <;> rfl)) (by unfold maxLen; omega) (by omega) (by omega) ?_;intro v3 w4 hown3 hgrow hat;have OW1 : Only [] wr w4 := OW.step (only_grown hgrow) (own_new OV1);refine kOut hK (OW1) (h := ?_);clear hK K;refine tQ 15 (h := ?_);refine tdn ?_;have OV : w4.ownsRow w.heap.size 38 2 v3 (m + 1) (edgeC ((zs.take (k + 1)).foldl insV [])) := by
            have h := own_base hown3 hwsr;rw [show at_ + 1 + (m - at_) = m + 1 by omega, show edgeC (out.take at_ ++ [l]) ++ edgeC (out.drop at_) = edgeC (out.take at_ ++ l :: out.drop at_) by simp [edgeC]] at h;rw [← HST2.out];exact h
           have HL := Hd (show ((zs.take (k + 1)).foldl insV []).length = m + 1 by rw [← HST2.out, List.length_append, List.length_cons, List.length_take, List.length_drop, HM.out]; omega);have HOZ := Hd (HOR.out.trans OW1);have HOV := Hd OV;obtain ⟨hl0, hv⟩ := OV;rcases hv with ⟨-, h0⟩ | ⟨g', cap', cur', hv, -, -, hnc, -, -, -⟩
           ·exact absurd h0 (by omega)
           subst hv;clear OW1 hown3 hgrow hat HST2 hl0;go_wp2
           go_roundw
           case rel => exact ⟨k + 1, m + 1, g', cap', _, by go_num, rfl, by omega, by omega, hnc, HL, Hd rfl, HOV, HOZ⟩
           case measure => simp [intOf]; omega
          ·go_simp;have BL1 := Blk.made wz 38 #[.int .i64 l.1, .int .i64 l.2];have OW1 := OW.alloc (.cells #[.int .i64 l.1, .int .i64 l.2] 38);have OV01 := own_only OV0 ((Only.refl [] wz).alloc (.cells #[.int .i64 l.1, .int .i64 l.2] 38)) (by simp);have hne : wz.heap.size ≠ p0 := by have := (OV0.lt p0 rfl).2; omega
           refine hK.out _ _ (th1 (OW1)) ?_;clear hK K OW hsz OV0;generalize wz.alloc (.cells #[.int .i64 l.1, .int .i64 l.2] 38) = w1 at *;generalize wz.heap.size = p9 at *;clear wz;obtain ⟨wz, hwz⟩ : ∃ wz : World, wz = w1 := ⟨_, rfl⟩;subst hwz;have OW := OW1;clear OW1;have hsz := OW.size;have BL := BL1;clear BL1;have OV0 := OV01;clear OV01;(try simp only [tdz]);refine tst (i := 4) fun K hK => ?_;refine step_append_row _ rfl (.tmp 51) (.tmp 54) 33 rfl wr.heap.size 38 i0 _ 2 16 Tryz.underlying33 hi hz0 hz1 hz2 rfl (by omega) _ 0 ([]) (by rfl) (OV0) _ _ _ _ (edgeC (out.take at_)) (by rfl) (by rw [edgeC_len, List.length_take, HM.out]; omega) (by rw [edgeC_take]; exact (HX.out.only OW (by simp)).take (at_ * 2)) (by intro u hu; first | exact one_edgeC _ u hu | (simp at hu; rcases hu with rfl | rfl <;> rfl)) (by unfold maxLen; omega) (by omega) (by omega) ?_;intro v3 w4 hown3 hgrow hat;have OW1 : Only [] wr w4 := OW.step (only_grown hgrow) (own_new OV0);have OV4 : w4.ownsRow wr.heap.size 38 2 v3 at_ (edgeC (out.take at_)) := by rw [Nat.zero_add, List.nil_append] at hown3; exact hown3
           have BL1 : Blk w4 p9 38 #[.int .i64 l.1, .int .i64 l.2] := (only_grown hgrow).blk BL (fun hc => hne (by simp [Value.ownBlock] at hc; omega));refine hK.out _ _ (th1 (OW1)) ?_;clear hK K OW hsz hown3 hgrow hat OV0 BL hne;clear wz;obtain ⟨wz, hwz⟩ : ∃ wz : World, wz = w4 := ⟨_, rfl⟩;subst hwz;have OW := OW1;clear OW1;have hsz := OW.size;have BL := BL1;clear BL1;obtain ⟨v4, hv4⟩ : ∃ v4, v4 = v3 := ⟨_, rfl⟩;subst hv4;(try simp only [tdz]);refine tst (i := 10) fun K hK => ?_;refine step_append_row _ rfl (.tmp 55) (.tmp 60) 33 rfl wr.heap.size 38 i0 _ 2 16 Tryz.underlying33 hi hz0 hz1 hz2 rfl (by omega) _ at_ (edgeC (out.take at_)) (by rfl) (OV4) _ _ 1 1 ([.int .i64 l.1, .int .i64 l.2]) (by rfl) (by rfl) (BL.row) (by intro u hu; first | exact one_edgeC _ u hu | (simp at hu; rcases hu with rfl | rfl <;> rfl)) (by unfold maxLen; omega) (by omega) (by omega) ?_;intro v3 w4 hown3 hgrow hat;have OV1 : w4.ownsRow wr.heap.size 38 2 v3 (at_ + 1) (edgeC (out.take at_ ++ [l])) := by rw [show edgeC (out.take at_ ++ [l]) = edgeC (out.take at_) ++ [.int .i64 l.1, .int .i64 l.2] by simp [edgeC]]; exact hown3
           have OW1 : Only [] wr w4 := OW.step (only_grown hgrow) (own_new OV4);refine hK.out _ _ (th1 (OW1)) ?_;clear hK K OW hsz hown3 hgrow hat OV4 BL;clear wz;obtain ⟨wz, hwz⟩ : ∃ wz : World, wz = w4 := ⟨_, rfl⟩;subst hwz;have OW := OW1;clear OW1;have hsz := OW.size;obtain ⟨v6, hv6⟩ : ∃ v6, v6 = v3 := ⟨_, rfl⟩;subst hv6;(try simp only [tdz]);refine tst (i := 14) fun K hK => ?_;refine step_append_row _ rfl (.tmp 61) (.tmp 64) 33 rfl wr.heap.size 38 i0 _ 2 16 Tryz.underlying33 hi hz0 hz1 hz2 rfl (by omega) _ (at_ + 1) (edgeC (out.take at_ ++ [l])) (by rfl) (OV1) _ _ _ _ (edgeC (out.drop at_)) (by rfl) (by rw [edgeC_len, List.length_drop, HM.out]) (by rw [edgeC_drop]; exact HXD.out wz OW) (by intro u hu; first | exact one_edgeC _ u hu | (simp at hu; rcases hu with rfl | rfl <;> rfl)) (by unfold maxLen; omega) (by omega) (by omega) ?_;intro v3 w4 hown3 hgrow hat;have OW1 : Only [] wr w4 := OW.step (only_grown hgrow) (own_new OV1);refine kOut hK (OW1) (h := ?_);clear hK K;refine tQ 15 (h := ?_);refine tdn ?_;have OV : w4.ownsRow w.heap.size 38 2 v3 (m + 1) (edgeC ((zs.take (k + 1)).foldl insV [])) := by
            have h := own_base hown3 hwsr;rw [show at_ + 1 + (m - at_) = m + 1 by omega, show edgeC (out.take at_ ++ [l]) ++ edgeC (out.drop at_) = edgeC (out.take at_ ++ l :: out.drop at_) by simp [edgeC]] at h;rw [← HST2.out];exact h
           have HL := Hd (show ((zs.take (k + 1)).foldl insV []).length = m + 1 by rw [← HST2.out, List.length_append, List.length_cons, List.length_take, List.length_drop, HM.out]; omega);have HOZ := Hd (HOR.out.trans OW1);have HOV := Hd OV;obtain ⟨hl0, hv⟩ := OV;rcases hv with ⟨-, h0⟩ | ⟨g', cap', cur', hv, -, -, hnc, -, -, -⟩
           ·exact absurd h0 (by omega)
           subst hv;clear OW1 hown3 hgrow hat HST2 hl0;go_wp2
           go_roundw
           case rel => exact ⟨k + 1, m + 1, g', cap', _, by go_num, rfl, by omega, by omega, hnc, HL, Hd rfl, HOV, HOZ⟩
           case measure => simp [intOf]; omega
         ·go_simp;have BL1 := Blk.made wz 38 #[.int .i64 l.1, .int .i64 l.2];have OW1 := OW.alloc (.cells #[.int .i64 l.1, .int .i64 l.2] 38);refine hK.out _ _ (th1 (OW1)) ?_;clear hK K OW hsz;generalize wz.alloc (.cells #[.int .i64 l.1, .int .i64 l.2] 38) = w1 at *;generalize wz.heap.size = p9 at *;clear wz;obtain ⟨wz, hwz⟩ : ∃ wz : World, wz = w1 := ⟨_, rfl⟩;subst hwz;have OW := OW1;clear OW1;have hsz := OW.size;have BL := BL1;clear BL1;(try simp only [tdz]);refine tst (i := 0) fun K hK => ?_;go_simp;have OV0 : (wz.alloc (.cells #[] 38)).ownsRow wr.heap.size 38 2 (.slice (some ⟨wz.heap.size, 0, none⟩) 0 0) 0 [] := World.ownsRow_lit wz #[] 0 (by omega) (by unfold maxLen; omega) rfl;have OW1 := OW.alloc (.cells #[] 38);have BL1 := BL.alloc (.cells #[] 38);have hne : p9 ≠ wz.heap.size := by have := BL.lt; omega
          refine hK.out _ _ (th1 (OW1)) ?_;clear hK K OW hsz BL;generalize wz.alloc (.cells #[] 38) = w1 at *;generalize wz.heap.size = p0 at *;clear wz;obtain ⟨wz, hwz⟩ : ∃ wz : World, wz = w1 := ⟨_, rfl⟩;subst hwz;have OW := OW1;clear OW1;have hsz := OW.size;have BL := BL1;clear BL1;(try simp only [tdz]);refine tst (i := 4) fun K hK => ?_;refine step_append_row _ rfl (.tmp 51) (.tmp 54) 33 rfl wr.heap.size 38 i0 _ 2 16 Tryz.underlying33 hi hz0 hz1 hz2 rfl (by omega) _ 0 ([]) (by rfl) (OV0) _ _ _ _ (edgeC (out.take at_)) (by rfl) (by rw [edgeC_len, List.length_take, HM.out]; omega) (by rw [edgeC_take]; exact (HX.out.only OW (by simp)).take (at_ * 2)) (by intro u hu; first | exact one_edgeC _ u hu | (simp at hu; rcases hu with rfl | rfl <;> rfl)) (by unfold maxLen; omega) (by omega) (by omega) ?_;intro v3 w4 hown3 hgrow hat;have OW1 : Only [] wr w4 := OW.step (only_grown hgrow) (own_new OV0);have OV4 : w4.ownsRow wr.heap.size 38 2 v3 at_ (edgeC (out.take at_)) := by rw [Nat.zero_add, List.nil_append] at hown3; exact hown3
          have BL1 : Blk w4 p9 38 #[.int .i64 l.1, .int .i64 l.2] := (only_grown hgrow).blk BL (fun hc => hne (by simp [Value.ownBlock] at hc; omega));refine hK.out _ _ (th1 (OW1)) ?_;clear hK K OW hsz hown3 hgrow hat OV0 BL hne;clear wz;obtain ⟨wz, hwz⟩ : ∃ wz : World, wz = w4 := ⟨_, rfl⟩;subst hwz;have OW := OW1;clear OW1;have hsz := OW.size;have BL := BL1;clear BL1;obtain ⟨v4, hv4⟩ : ∃ v4, v4 = v3 := ⟨_, rfl⟩;subst hv4;(try simp only [tdz]);refine tst (i := 10) fun K hK => ?_;refine step_append_row _ rfl (.tmp 55) (.tmp 60) 33 rfl wr.heap.size 38 i0 _ 2 16 Tryz.underlying33 hi hz0 hz1 hz2 rfl (by omega) _ at_ (edgeC (out.take at_)) (by rfl) (OV4) _ _ 1 1 ([.int .i64 l.1, .int .i64 l.2]) (by rfl) (by rfl) (BL.row) (by intro u hu; first | exact one_edgeC _ u hu | (simp at hu; rcases hu with rfl | rfl <;> rfl)) (by unfold maxLen; omega) (by omega) (by omega) ?_;intro v3 w4 hown3 hgrow hat;have OV1 : w4.ownsRow wr.heap.size 38 2 v3 (at_ + 1) (edgeC (out.take at_ ++ [l])) := by rw [show edgeC (out.take at_ ++ [l]) = edgeC (out.take at_) ++ [.int .i64 l.1, .int .i64 l.2] by simp [edgeC]]; exact hown3
          have OW1 : Only [] wr w4 := OW.step (only_grown hgrow) (own_new OV4);refine hK.out _ _ (th1 (OW1)) ?_;clear hK K OW hsz hown3 hgrow hat OV4 BL;clear wz;obtain ⟨wz, hwz⟩ : ∃ wz : World, wz = w4 := ⟨_, rfl⟩;subst hwz;have OW := OW1;clear OW1;have hsz := OW.size;obtain ⟨v6, hv6⟩ : ∃ v6, v6 = v3 := ⟨_, rfl⟩;subst hv6;(try simp only [tdz]);refine tst (i := 14) fun K hK => ?_;refine step_append_row _ rfl (.tmp 61) (.tmp 64) 33 rfl wr.heap.size 38 i0 _ 2 16 Tryz.underlying33 hi hz0 hz1 hz2 rfl (by omega) _ (at_ + 1) (edgeC (out.take at_ ++ [l])) (by rfl) (OV1) _ _ _ _ (edgeC (out.drop at_)) (by rfl) (by rw [edgeC_len, List.length_drop, HM.out]) (by rw [edgeC_drop]; exact HXD.out wz OW) (by intro u hu; first | exact one_edgeC _ u hu | (simp at hu; rcases hu with rfl | rfl <;> rfl)) (by unfold maxLen; omega) (by omega) (by omega) ?_;intro v3 w4 hown3 hgrow hat;have OW1 : Only [] wr w4 := OW.step (only_grown hgrow) (own_new OV1);refine kOut hK (OW1) (h := ?_);clear hK K;refine tQ 15 (h := ?_);refine tdn ?_;have OV : w4.ownsRow w.heap.size 38 2 v3 (m + 1) (edgeC ((zs.take (k + 1)).foldl insV [])) := by
           have h := own_base hown3 hwsr;rw [show at_ + 1 + (m - at_) = m + 1 by omega, show edgeC (out.take at_ ++ [l]) ++ edgeC (out.drop at_) = edgeC (out.take at_ ++ l :: out.drop at_) by simp [edgeC]] at h;rw [← HST2.out];exact h
          have HL := Hd (show ((zs.take (k + 1)).foldl insV []).length = m + 1 by rw [← HST2.out, List.length_append, List.length_cons, List.length_take, List.length_drop, HM.out]; omega);have HOZ := Hd (HOR.out.trans OW1);have HOV := Hd OV;obtain ⟨hl0, hv⟩ := OV;rcases hv with ⟨-, h0⟩ | ⟨g', cap', cur', hv, -, -, hnc, -, -, -⟩
          ·exact absurd h0 (by omega)
          subst hv;clear OW1 hown3 hgrow hat HST2 hl0;go_wp2
          go_roundw
          case rel => exact ⟨k + 1, m + 1, g', cap', _, by go_num, rfl, by omega, by omega, hnc, HL, Hd rfl, HOV, HOZ⟩
          case measure => simp [intOf]; omega
  ·have hkn : k = n := by omega
   subst hkn;have hd : decide ((k : Int) < (k : Int)) = false := by simp
   have HALL : Hid (out = sortV zs) := Hd (by
    rw [HOUT.out, List.take_of_length_le (by rw [HN.out]; exact Nat.le_refl _)]
    rfl)
   go_wp2
   go_ret
   exact ⟨HO.out, _, rfl, by rw [← HALL.out, HM.out]; exact HOWN.out⟩
end Go.Proofs.YtjfbeeogiejopaaGreatDoor
