/- Parts. -/
import Derived.Test.YthdofaoamljkfaaGreatDoorLaw24AllK24
import Derived.Test.YthdofaoamljkfaaGreatDoorLaw24AllK40
set_option maxRecDepth 10000
set_option maxHeartbeats 16000000
set_option linter.unusedVariables false
set_option linter.unusedSimpArgs false
namespace Go.Proofs.YthdofaoamljkfaaGreatDoor
open Go.RowKit
open Go.Lib hiding intOf
attribute [local go_sem ↓] Go.wp_at_zero Go.wp_at_succ
theorem own_zero24 {w : World} {base : Nat} {e : TypeId} {size n c : Nat} {A : Option Addr} {xs : List Value} (h : w.ownsRow base e size (.slice A n c) n xs) : A = none → n = 0 ∧ c = 0 := fun hA => by
 rcases h.2 with ⟨e1, -⟩ | ⟨g, cp, cu, e1, -⟩
 ·injection e1 with ea eb ec;exact ⟨eb, ec⟩
 ·injection e1 with ea eb ec;rw [hA] at ea
  cases ea
def ex24 : ByteArray := ⟨#[98, 101, 103, 105, 110, 32, 115, 10, 119, 114, 105, 116, 101, 32, 115, 32, 120, 32, 49, 10, 111, 107, 32, 115, 10, 98, 101, 103, 105, 110, 32, 115, 10, 119, 114, 105, 116, 101, 32, 115, 32, 120, 32, 49, 10, 111, 107, 32, 115, 10, 98, 101, 103, 105, 110, 32, 116, 10, 114, 101, 97, 100, 32, 116, 32, 120, 32, 49, 10, 111, 107, 32, 116]⟩
def hist24 : Hst := ⟨[⟨#[115]⟩, ⟨#[116]⟩], [⟨#[120]⟩], [⟨0, 1, [⟨true, 0, 1, 1⟩]⟩, ⟨0, 1, [⟨true, 0, 1, 1⟩]⟩, ⟨1, 1, [⟨false, 0, 1, 1⟩]⟩]⟩
def evs24 : List Ev6 := [⟨1, ⟨#[115]⟩, ⟨#[]⟩, 0, 0, 1⟩, ⟨3, ⟨#[115]⟩, ⟨#[120]⟩, 1, 1, 2⟩, ⟨4, ⟨#[115]⟩, ⟨#[]⟩, 0, 0, 3⟩, ⟨1, ⟨#[115]⟩, ⟨#[]⟩, 0, 0, 4⟩, ⟨3, ⟨#[115]⟩, ⟨#[120]⟩, 1, 1, 5⟩, ⟨4, ⟨#[115]⟩, ⟨#[]⟩, 0, 0, 6⟩, ⟨1, ⟨#[116]⟩, ⟨#[]⟩, 0, 0, 7⟩, ⟨2, ⟨#[116]⟩, ⟨#[120]⟩, 1, 1, 8⟩, ⟨4, ⟨#[116]⟩, ⟨#[]⟩, 0, 0, 9⟩]
theorem ex24_log : logParse ex24 = (evs24, 0, 0) := by kernel_rfl
theorem ex24_rows : (linesOf (by_ ex24)).all (fun x => decide (x.length ≤ 65535)) = true := by kernel_rfl
theorem ex24_h : pairH evs24 = hist24 := by kernel_rfl
theorem ex24_e : pairE evs24 = 0 := by kernel_rfl
theorem ex24_l : pairL evs24 = 0 := by kernel_rfl
theorem ex24_show : showR ex24 = (hist24, 0, 0) := by
 unfold showR;rw [ex24_log];dsimp only;rw [if_pos rfl, ex24_h, ex24_e, ex24_l]
theorem ex24_first : firstR hist24 = ([0], 0) := by decide +kernel
theorem ex24_next : nextR hist24 [0] = some [1] := by decide +kernel
theorem ex24_cnt : cntR hist24 = 2 := by decide +kernel
theorem ex24_int : HInt hist24 := by
 intro t ht x hx;simp [hist24] at ht;rcases ht with rfl | rfl | rfl <;> (simp at hx; subst hx; unfold OpI; decide)
theorem ex24_small : HSmall hist24 where
 s := fun x hx => by
  simp [hist24] at hx;rcases hx with rfl | rfl <;> decide
 k := fun x hx => by
  simp [hist24] at hx;subst hx
  decide
 ns := by decide
 nk := by decide
 nl := by decide
 no := fun t ht => by
  simp [hist24] at ht;rcases ht with rfl | rfl | rfl <;> simp
theorem works24_any (w : World) (hT : UTabs w) (hM : MLen w) (hV : Verbs w) :
  Calls Tryz.prog 13 #[] w fun e w' => e = .returned (.bool true) ∧ Only [] w w' := by
 have HP := Hd (fun w' (O : Only [] w w') => sparse_any ex24 w' (by decide) (fun x hx => by simpa using List.all_eq_true.1 ex24_rows x hx) (by rw [ex24_log]; decide) (fun x hx => by
  rw [ex24_log] at hx;simp [evs24] at hx;rcases hx with rfl | rfl | rfl | rfl | rfl | rfl | rfl | rfl | rfl <;> exact ⟨by decide, by decide⟩) (hT.only O) (hM.only O) (hV.only O))
 have HI := Hd (fun (A0 A1 A2 : Option Addr) (B : Nat) w' (hA : HAt w' B A0 A1 A2 hist24) (O : Only [] w w') => (⟨hA, rfl, rfl, rfl, ex24_small, hT.only O⟩ : HIn w' B A0 A1 A2 2 1 3 hist24));have HFI := Hd (fun (A0 A1 A2 : Option Addr) (c0 c1 c2 B : Nat) w' (hA : HIn w' B A0 A1 A2 2 1 3 hist24) => wrFirst_any A0 A1 A2 2 1 3 c0 c1 c2 B hist24 w' hA ex24_int);have HNE := Hd (fun (A0 A1 A2 Am : Option Addr) (c0 c1 c2 B c : Nat) w' (hA : HIn w' B A0 A1 A2 2 1 3 hist24) (ho : Row w' w'.heap.size Am ([0].map (Value.int .i64))) (hn : Am = none → 1 = 0 ∧ c = 0) => wrNext_any A0 A1 A2 2 1 3 c0 c1 c2 B hist24 Am 1 c _ [0] w' hA ex24_int ho rfl (by omega) hn);have HCO := Hd (fun (A0 A1 A2 : Option Addr) (c0 c1 c2 B : Nat) w' (hA : HIn w' B A0 A1 A2 2 1 3 hist24) => wrCount_any A0 A1 A2 2 1 3 c0 c1 c2 B hist24 w' hA ex24_int);rw [ex24_show] at HP;rw [ex24_first] at HFI;rw [ex24_next] at HNE;rw [ex24_cnt] at HCO;unfold ex24 at HP;unfold hval at HFI HNE HCO;clear hT hM hV;go_enter Tryz.func13, Tryz.ntmps13;go_wp2_with fail
 refine (HP.out _ (Only.refl [] w)).mono ?_;rintro e w2 ⟨B0, B1, B2, d0, d1, d2, ⟨rfl, hA⟩, O2⟩;have HA := Hd hA;have HO2 := Hd O2;clear hA O2 HP;rw [show hist24.ss.length = 2 from rfl, show hist24.ks.length = 1 from rfl, show hist24.l.length = 3 from rfl];go_upto_region 2 with (fail)
 have HO3 := Hd (HO2.out.alloc (.cells #[.slice B0 2 d0, .slice B1 1 d1, .slice B2 3 d2] 25));have HB3 := Hd (Blk.made w2 25 #[.slice B0 2 d0, .slice B1 1 d1, .slice B2 3 d2]);have HI3 := Hd (HI.out B0 B1 B2 w2.heap.size _ (HA.out.only ((Only.refl [] w2).alloc (.cells #[.slice B0 2 d0, .slice B1 1 d1, .slice B2 3 d2] 25)) (by simp)) HO3.out);clear HA HO2 HI;generalize (w2.alloc (.cells #[.slice B0 2 d0, .slice B1 1 d1, .slice B2 3 d2] 25)) = w3 at *;generalize hg2 : w2.heap.size = g2 at *;have l3 := HB3.out.lt;have y0 := HB3.out.at_ 0;have y1 := HB3.out.at_ 1;have y2 := HB3.out.at_ 2;simp at y0 y1 y2;go_wp2_with fail
 refine (HFI.out _ _ _ _ _ _ _ _ HI3.out).mono ?_;rintro e w4 ⟨A4, c4, ⟨rfl, hV4⟩, O4⟩;have HV4 := Hd (show w4.ownsRow w3.heap.size 3 1 (.slice A4 1 c4) 1 ([0].map (Value.int .i64)) from hV4);have HO4 := Hd (HO3.out.trans O4);have HB4 := Hd (O4.blk HB3.out (by simp));have HI4 := Hd (HI3.out.same O4);clear O4 HFI l3 y0 y1 y2 HI3 HB3 HO3 hV4;dsimp only;rw [show ([0] : List Int).length = 1 from rfl];have l3 := HB4.out.lt;have y0 := HB4.out.at_ 0;have y1 := HB4.out.at_ 1;have y2 := HB4.out.at_ 2;simp at y0 y1 y2;go_wp2_with fail
 refine (HNE.out _ _ _ _ _ _ _ _ _ _ HI4.out (own_row_at HV4.out).1 (own_zero24 HV4.out)).mono ?_;rintro e w5 ⟨V5, ⟨rfl, hy, -⟩, O5⟩;have HY5 := Hd (hy [1] rfl);obtain ⟨A5, c5, rfl, -, -, -, -⟩ := own_row HY5.out;have HV5 := Hd (own_only HV4.out O5 (by simp));have HO5 := Hd (HO4.out.trans O5);have HB5 := Hd (O5.blk HB4.out (by simp));have HI5 := Hd (HI4.out.same O5);clear O5 HNE l3 y0 y1 y2 HI4 HB4 HO4 HV4 hy;go_wp2_with fail
 refine (sameInts_any _ _ _ _ _ _ [0] [0] _ _ _ ((own_row_at HV5.out).1.only ((Only.refl [] w5).alloc (.cells #[.int .i64 0] 3)) (by simp)) (row_lit w5 3 #[.int .i64 0]) rfl rfl (by simp) (by simp)).mono ?_;rintro e w7 ⟨rfl, q7, rfl⟩;rw [decide_eq_true (rfl : ([0] : List Int) = [0])];have HX := Hd (((Only.refl [] w5).alloc (.cells #[.int .i64 0] 3)).drewN q7);have HO7 := Hd (HO5.out.trans HX.out);have HB7 := Hd (HX.out.blk HB5.out (by simp));have HI7 := Hd (HI5.out.same HX.out);have HY7 := Hd (own_only HY5.out HX.out (by simp));clear HX HO5 HB5 HI5 HV5 HY5;generalize ((w5.alloc (.cells #[.int .i64 0] 3)).drewN q7) = w7 at *;go_wp2_with fail
 refine (sameInts_any _ _ _ _ _ _ [1] [1] _ _ _ ((own_row_at HY7.out).1.only ((Only.refl [] w7).alloc (.cells #[.int .i64 1] 3)) (by simp)) (row_lit w7 3 #[.int .i64 1]) rfl rfl (by simp) (by simp)).mono ?_;rintro e w8 ⟨rfl, q8, rfl⟩;rw [decide_eq_true (rfl : ([1] : List Int) = [1])];have HX := Hd (((Only.refl [] w7).alloc (.cells #[.int .i64 1] 3)).drewN q8);have HO8 := Hd (HO7.out.trans HX.out);have HB8 := Hd (HX.out.blk HB7.out (by simp));have HI8 := Hd (HI7.out.same HX.out);clear HX HO7 HB7 HI7 HY7;generalize ((w7.alloc (.cells #[.int .i64 1] 3)).drewN q8) = w8 at *;have l3 := HB8.out.lt;have y0 := HB8.out.at_ 0;have y1 := HB8.out.at_ 1;have y2 := HB8.out.at_ 2;simp at y0 y1 y2;go_wp2_with fail
 refine (HCO.out _ _ _ _ _ _ _ _ HI8.out).mono ?_;rintro e w9 ⟨rfl, O9⟩;have HO9 := Hd (HO8.out.trans O9);clear O9;go_wp2
 go_ret
 exact ⟨rfl, HO9.out⟩
def thereB (h : Hst) (a b : Int) : Bool := (opAtH h a b).isSome
theorem there_none {h : Hst} {a b : Int} (ho : opAtH h a b = none) : thereB h a b = false := by unfold thereB; rw [ho]; rfl
theorem there_some {h : Hst} {a b : Int} {x : Tx × Op4} (ho : opAtH h a b = some x) : thereB h a b = true := by unfold thereB; rw [ho]; rfl
theorem rthere_any (A0 A1 A2 : Option Addr) (n0 n1 n2 c0 c1 c2 B : Nat) (h : Hst) (a b : Int) (w : World) (hg : HIn w B A0 A1 A2 n0 n1 n2 h) :
  Calls Tryz.prog 53 #[hval A0 A1 A2 n0 n1 n2 c0 c1 c2, .agg #[.int .i64 a, .int .i64 b]] w fun e w' => e = .returned (.bool (thereB h a b)) ∧ Only [] w w' := by
 have HF := Hd (fun w' (O : Only [] w w') => refmay_any A0 A1 A2 n0 n1 n2 c0 c1 c2 B h w' (hg.same O));have HL := Hd hg.at_.r2;have HN2 := Hd hg.n2;unfold hval at HF ⊢;clear hg;have HO1 := Hd (((Only.refl [] w).alloc (.cells #[.slice A0 n0 c0, .slice A1 n1 c1, .slice A2 n2 c2] 25)).alloc (.cells #[.int .i64 a, .int .i64 b] 56));have HB1 := Hd ((Blk.made w 25 #[.slice A0 n0 c0, .slice A1 n1 c1, .slice A2 n2 c2]).alloc (.cells #[.int .i64 a, .int .i64 b] 56));have HP1 := Hd (Blk.made (w.alloc (.cells #[.slice A0 n0 c0, .slice A1 n1 c1, .slice A2 n2 c2] 25)) 56 #[.int .i64 a, .int .i64 b]);rw [World.size_alloc] at HP1;go_enter Tryz.func53, Tryz.ntmps53;go_wp2_with fail
 generalize ((w.alloc (.cells #[.slice A0 n0 c0, .slice A1 n1 c1, .slice A2 n2 c2] 25)).alloc (.cells #[.int .i64 a, .int .i64 b] 56)) = w1 at *;generalize w.heap.size + 1 = gp at *;generalize hgg : w.heap.size = g at *;have hsz : g ≤ w1.heap.size := by have := HO1.out.size; omega
 have RD0 := Hd fun wq (hSw : Only [] w1 wq) => aI (Bk3 (hSw.blk HB1.out (by simp))) (Bk2 (hSw.blk HP1.out (by simp)));refine rg1 [] [] w1 ?_;have OW : Only [] w1 w1.drew := (Only.refl [] w1).drew;generalize w1.drew = wz at *;refine trq 0 0 RD0 (h := ?_)
 cases hm : mayH h
 ·rw [mayH_errn2 hm] at HF;have HE := Hd (there_none (opAt_none (b := b) (txAt_no (a := a) hm)));clear hm;refine tst (i := 1) fun K hK => ?_;go_simp;refine (HF.out _ (HO1.out.trans OW)).mono ?_;rintro e w3 ⟨rfl, O3⟩;have O4 := OW.trans O3;refine kOut hK (O4) (h := ?_);clear hK K;refine tQ 2 (h := tQ 3 (h := tiq 4 (h := tiq 5 (h := tiq 6 (h := tQ 7 (h := tQ 8 (h := tiq 9 (h := tiq 10 (h := tiq 11 (h := tiq 12 (h := tiq 13 (h := tiq 14 (h := tQ 15 (h := tQ 16 (h := tiq 17 (h := tiq 18 (h := tiq 19 (h := tQ 20 (h := tQ 21 (h := tiq 22 (h := tiq 23 (h := tiq 24 (h := tiq 25 (h := tiq 26 (h := tiq 27 (h := tiq 28 (h := tiq 29 (h := tiq 30 (h := tiq 31 (h := tiq 32 (h := tQ 33 (h := tQ 34 (h := ?_)))))))))))))))))))))))))))))))));refine tdn ?_;go_wp2
  go_ret
  exact ⟨by rw [HE.out]; rfl, HO1.out.trans O4⟩
 rw [mayH_err2 hm] at HF;refine tst (i := 1) fun K hK => ?_;go_simp;refine (HF.out _ (HO1.out.trans OW)).mono ?_;rintro e w3 ⟨rfl, O3⟩;have O4 := OW.trans O3;refine kOut hK (O4) (h := ?_);clear hK K;refine tQ 2 (h := tQ 3 (h := ?_))
 by_cases q1 : 0 ≤ a
 rotate_left
 ·have d1 : decide (0 ≤ a) = false := decide_eq_false q1;have HE := Hd (there_none (opAt_none (b := b) (txAt_neg (h := h) (a := a) (by omega))));clear q1 hm;refine tQ 4 (h := trq 5 0 RD0 (h := tQ 6 (h := tQ 7 (h := tQ 8 (h := tiq 9 (h := tiq 10 (h := tiq 11 (h := tiq 12 (h := tiq 13 (h := tiq 14 (h := tQ 15 (h := tQ 16 (h := tiq 17 (h := tiq 18 (h := tiq 19 (h := tQ 20 (h := tQ 21 (h := tiq 22 (h := tiq 23 (h := tiq 24 (h := tiq 25 (h := tiq 26 (h := tiq 27 (h := tiq 28 (h := tiq 29 (h := tiq 30 (h := tiq 31 (h := tiq 32 (h := tQ 33 (h := tQ 34 (h := ?_)))))))))))))))))))))))))))))));refine tdn ?_;go_wp2
  go_ret
  exact ⟨by rw [HE.out]; rfl, HO1.out.trans O4⟩
 have d1 : decide (0 ≤ a) = true := decide_eq_true q1;refine tQ 4 (h := trq 5 0 RD0 (h := tQ 6 (h := tQ 7 (h := tQ 8 (h := ?_)))))
 by_cases q2 : a < (n2 : Int)
 rotate_left
 ·have d2 : decide (a < (n2 : Int)) = false := decide_eq_false q2;have HE := Hd (there_none (opAt_none (b := b) (txAt_big (h := h) (a := a) (by rw [HN2.out]; omega))));clear q2 hm;refine tQ 9 (h := trq 10 0 RD0 (h := tQ 11 (h := trq 12 0 RD0 (h := tQ 13 (h := tQ 14 (h := tQ 15 (h := tQ 16 (h := tiq 17 (h := tiq 18 (h := tiq 19 (h := tQ 20 (h := tQ 21 (h := tiq 22 (h := tiq 23 (h := tiq 24 (h := tiq 25 (h := tiq 26 (h := tiq 27 (h := tiq 28 (h := tiq 29 (h := tiq 30 (h := tiq 31 (h := tiq 32 (h := tQ 33 (h := tQ 34 (h := ?_))))))))))))))))))))))))));refine tdn ?_;go_wp2
  go_ret
  exact ⟨by rw [HE.out]; rfl, HO1.out.trans O4⟩
 have d2 : decide (a < (n2 : Int)) = true := decide_eq_true q2;obtain ⟨i, rfl⟩ : ∃ i : Nat, a = i := ⟨a.toNat, by omega⟩;obtain ⟨t, hx⟩ : ∃ t, h.l[i]? = some t := ⟨_, List.getElem?_eq_getElem (by rw [HN2.out]; omega)⟩;have htx := txAt_yes hm hx;refine tQ 9 (h := trq 10 0 RD0 (h := tQ 11 (h := trq 12 0 RD0 (h := tQ 13 (h := tQ 14 (h := tQ 15 (h := tQ 16 (h := ?_))))))))
 by_cases q3 : 0 ≤ b
 rotate_left
 ·have d3 : decide (0 ≤ b) = false := decide_eq_false q3;have HE := Hd (there_none (opAt_neg (h := h) (a := (i : Int)) (b := b) (by omega)));clear q3 hx htx hm;refine tQ 17 (h := trq 18 0 RD0 (h := tQ 19 (h := tQ 20 (h := tQ 21 (h := tiq 22 (h := tiq 23 (h := tiq 24 (h := tiq 25 (h := tiq 26 (h := tiq 27 (h := tiq 28 (h := tiq 29 (h := tiq 30 (h := tiq 31 (h := tiq 32 (h := tQ 33 (h := tQ 34 (h := ?_))))))))))))))))));refine tdn ?_;go_wp2
  go_ret
  exact ⟨by rw [HE.out]; rfl, HO1.out.trans O4⟩
 have d3 : decide (0 ≤ b) = true := decide_eq_true q3;obtain ⟨bl, off, A', cp, rfl, -, hbw, hT, -⟩ := HL.out.at_ hx;have HCA := Hd (hT.only HO1.out (by omega) (by simp)).c2;have hbr : bl < w1.heap.size := by omega
 have HE : Hid (thereB h (i : Int) b = decide (b < (t.ops.length : Int))) := Hd (by
  by_cases q4 : b < (t.ops.length : Int)
  ·obtain ⟨j, rfl⟩ : ∃ j : Nat, b = j := ⟨b.toNat, by omega⟩;obtain ⟨o, ho⟩ : ∃ o, t.ops[j]? = some o := ⟨_, List.getElem?_eq_getElem (by omega)⟩;rw [there_some (opAt_yes htx ho), decide_eq_true q4]
  ·rw [there_none (opAt_big htx (by omega)), decide_eq_false q4])
 dsimp only at HCA;generalize t.ops.length = m at *;have hi0 : (0 : Int) ≤ (i : Int) := by omega
 have q2' : (i : Int) < (n2 : Int) := by omega
 generalize hdd : decide (b < (m : Int)) = dd at *;clear hx hT htx hm;refine tQ 17 (h := ?_);have RD1 := Hd fun wq (hSw : Only [] w1 wq) => aI (Bk3 (hSw.blk HB1.out (by simp))) (aI (Bk2 (hSw.blk HP1.out (by simp))) ((hSw.cell (p := ⟨bl, off + i * 3 + 2, none⟩) hbr (by simp)).trans HCA.out));refine trq 18 0 RD1 (h := tQ 19 (h := tQ 20 (h := tQ 21 (h := tQ 22 (h := trq 23 0 RD1 (h := tQ 24 (h := trq 25 0 RD1 (h := tQ 26 (h := trq 27 0 RD1 (h := tQ 28 (h := tQ 29 (h := trq 30 0 RD1 (h := tQ 31 (h := tQ 32 (h := tQ 33 (h := tQ 34 (h := ?_)))))))))))))))));refine tdn ?_;go_wp2
 go_ret
 exact ⟨by rw [HE.out]; rfl, HO1.out.trans O4⟩
def valC (v : Int × Int) : Array Value := #[.int .i64 v.1, .int .i64 v.2]
theorem rraw_any (s f : Int) (A : Option Addr) (m cp B many : Nat) (ops : List Op4) (key : Int) (w : World) (hg : Row w B A (opC ops)) (hm : ops.length = m) (hM : m ≤ 1000) (hmany : many ≤ 1000) :
  Calls Tryz.prog 52 #[.agg #[.int .i64 s, .int .i64 f, .slice A m cp], .int .i64 (many : Int), .int .i64 key] w fun e w' => e = .returned (optT (leftW key (ops.take many))) ∧ Only [] w w' := by
 have HG := Hd hg;have HMM := Hd hm;obtain ⟨r, hr⟩ : ∃ r, r = leftW key (ops.take many) := ⟨_, rfl⟩;rw [← hr];have HR := Hd hr;have HO0 := Hd ((((Only.refl [] w).alloc (.cells #[.int .i64 s, .int .i64 f, .slice A m cp] 47)).alloc (.cells #[.int .i64 0, .int .i64 0] 68)).alloc (.cells #[.int .i64 0, .int .i64 0] 68));have HT0 := Hd (((Blk.made w 47 #[.int .i64 s, .int .i64 f, .slice A m cp]).alloc (.cells #[.int .i64 0, .int .i64 0] 68)).alloc (.cells #[.int .i64 0, .int .i64 0] 68));have HV0 := Hd ((Blk.made (w.alloc (.cells #[.int .i64 s, .int .i64 f, .slice A m cp] 47)) 68 #[.int .i64 0, .int .i64 0]).alloc (.cells #[.int .i64 0, .int .i64 0] 68));have HU0 := Hd (Blk.made ((w.alloc (.cells #[.int .i64 s, .int .i64 f, .slice A m cp] 47)).alloc (.cells #[.int .i64 0, .int .i64 0] 68)) 68 #[.int .i64 0, .int .i64 0]);simp only [World.size_alloc] at HV0 HU0;clear hg hm hr;go_enter Tryz.func52, Tryz.ntmps52;go_wp2_with fail
 go_loopw [9, 10] (fun iz iv wr => ∃ i : Nat, iv = .int .i64 i ∧ i ≤ many ∧ i ≤ m ∧ iz = .bool (leftW key (ops.take i)).isSome ∧ Hid (Blk wr (w.heap.size + 1 + 1) 68 (valC (leftV key (ops.take i)))) ∧ Hid (Blk wr (w.heap.size + 1) 68 #[.int .i64 0, .int .i64 0]) ∧ Hid (Blk wr w.heap.size 47 #[.int .i64 s, .int .i64 f, .slice A m cp]) ∧ Hid (Only [] w wr)) (fun _ iv _ => m - (intOf iv).toNat)
 case atStart => exact ⟨0, rfl, by omega, by omega, rfl, HU0, HV0, HT0, HO0⟩
 case round =>
  obtain ⟨i, rfl, hi1, hi2, rfl, hU, hV, hT, hO⟩ := hrel;have hsz := hO.out.size;have lT := hT.out.lt;have t2 := hT.out.at_ 2;simp at t2;clear HO0 HT0 HV0 HU0
  by_cases hlt1 : i < many
  ·by_cases hlt2 : i < m
   ·obtain ⟨y, hy⟩ : ∃ y, ops[i]? = some y := ⟨_, List.getElem?_eq_getElem (by rw [HMM.out]; exact hlt2)⟩;obtain ⟨b, off, rfl, -, hbw, hP⟩ := row_op HG.out hy;obtain ⟨p0, p1, p2, p3⟩ := hP.only hO.out hbw (by simp);have HLT := Hd (leftW_take (key := key) hy);obtain ⟨yw, yk, yv, yn⟩ := y;dsimp only at p0 p1 p2 p3 HLT;have h01 : (i : Int) < (many : Int) := by omega
    have h02 : (i : Int) < (m : Int) := by omega
    have hi0 : (0 : Int) ≤ (i : Int) := Int.natCast_nonneg _;have hwi : IntKind.i64.wrap ((i : Int) + 1) = (i : Int) + 1 := IntWalk.i64_in _ (by omega);have hbr : b < wr.heap.size := by omega
    clear hP hy
    by_cases hw : yw = true ∧ yk = key
    ·obtain ⟨rfl, rfl⟩ := hw;have HE : Hid (leftW yk (ops.take (i + 1)) = some (yv, yn)) := Hd (by rw [HLT.out]; simp [hitO]);have HVE : Hid (leftV yk (ops.take (i + 1)) = (yv, yn)) := Hd (by unfold leftV; rw [HE.out]; rfl);generalize leftW yk (ops.take i) = l0 at *;generalize leftV yk (ops.take i) = v0 at *;go_wp2_with (refine wpList_store_blk rfl 68 (.tmp 8) (.tmp 45) rfl (w.heap.size + 1 + 1) 68 (valC v0) #[.int .i64 yv, .int .i64 yn] rfl rfl hU.out rfl (by kernel_rfl) (by kernel_rfl) ?_; intro w9 b9 o9; have HB9 := Hd b9; have HV9 := Hd (o9.blk hV.out (by simp)); have HT9 := Hd (o9.blk hT.out (by simp; omega)); have HN9 := Hd (hO.out.step o9 (fun i hi hl => by simp at hi; omega)); clear b9 o9)
     go_roundw
     case rel => first | exact ⟨i + 1, by go_num, by omega, by omega, by rw [HE.out]; rfl, Hd (by rw [HVE.out]; exact HB9.out), HV9, HT9, HN9⟩ | exact ⟨_, _, ⟨i + 1, by go_num, by omega, by omega, by rw [HE.out]; rfl, Hd (by rw [HVE.out]; exact HB9.out), HV9, HT9, HN9⟩, rfl, rfl⟩
     case measure => simp [intOf]; omega
    ·have HE : Hid (leftW key (ops.take (i + 1)) = leftW key (ops.take i)) := Hd (by
      rw [HLT.out, if_neg];unfold hitO;simp;exact fun h => fun h' => hw ⟨h, h'⟩)
     have HVE : Hid (leftV key (ops.take (i + 1)) = leftV key (ops.take i)) := Hd (by unfold leftV; rw [HE.out]);clear HLT
     cases yw with
     | false =>
      clear hw;go_wp2
      go_roundw
      case rel => first | exact ⟨i + 1, by go_num, by omega, by omega, by rw [HE.out], Hd (by rw [HVE.out]; exact hU.out), hV, hT, hO⟩ | exact ⟨_, _, ⟨i + 1, by go_num, by omega, by omega, by rw [HE.out], Hd (by rw [HVE.out]; exact hU.out), hV, hT, hO⟩, rfl, rfl⟩
      case measure => simp [intOf]; omega
     | true =>
      have hk1 : (yk == key) = false := by simpa using hw
      clear hw;go_wp2
      go_roundw
      case rel => first | exact ⟨i + 1, by go_num, by omega, by omega, by rw [HE.out], Hd (by rw [HVE.out]; exact hU.out), hV, hT, hO⟩ | exact ⟨_, _, ⟨i + 1, by go_num, by omega, by omega, by rw [HE.out], Hd (by rw [HVE.out]; exact hU.out), hV, hT, hO⟩, rfl, rfl⟩
      case measure => simp [intOf]; omega
   ·have him : i = m := by omega
    subst him;have HRE : Hid (leftW key (ops.take i) = r) := Hd (by rw [HR.out, List.take_of_length_le (by rw [HMM.out]; exact Nat.le_refl _), List.take_of_length_le (by rw [HMM.out]; omega)]);have HVE : Hid (leftV key (ops.take i) = r.getD (0, 0)) := Hd (by unfold leftV; rw [HRE.out]);have h01 : (i : Int) < (many : Int) := by omega
    have hd2 : decide ((i : Int) < (i : Int)) = false := by simp
    rw [HRE.out];rw [HVE.out] at hU;generalize hgr : w.heap.size + 1 = gr at *;have lU := hU.out.lt;have u0 := hU.out.at_ 0;have u1 := hU.out.at_ 1;simp [valC] at u0 u1;go_wp2_with (refine wpList_store_blk rfl 68 (.tmp 6) (.tmp 46) rfl gr 68 #[.int .i64 0, .int .i64 0] #[.int .i64 (r.getD (0, 0)).1, .int .i64 (r.getD (0, 0)).2] rfl rfl hV.out rfl (by kernel_rfl) (by kernel_rfl) ?_; intro w9 b9 o9; have HB9 := Hd b9; have HN9 := Hd o9; clear b9 o9)
    refine bodyPost_ret (results_row2 Tryz.results52 _ _ gr 68 #[.int .i64 (r.getD (0, 0)).1, .int .i64 (r.getD (0, 0)).2] _ rfl HB9.out Tryz.underlying68 rfl (by kernel_rfl)) rfl ?_;exact ⟨rfl, hO.out.step HN9.out (fun i hi hl => by simp at hi; omega)⟩
  ·have him : i = many := by omega
   subst him;have HRE : Hid (leftW key (ops.take i) = r) := Hd HR.out.symm;have HVE : Hid (leftV key (ops.take i) = r.getD (0, 0)) := Hd (by unfold leftV; rw [HRE.out]);have hd2 : decide ((i : Int) < (i : Int)) = false := by simp
   rw [HRE.out];rw [HVE.out] at hU;generalize hgr : w.heap.size + 1 = gr at *;have lU := hU.out.lt;have u0 := hU.out.at_ 0;have u1 := hU.out.at_ 1;simp [valC] at u0 u1;go_wp2_with (refine wpList_store_blk rfl 68 (.tmp 6) (.tmp 46) rfl gr 68 #[.int .i64 0, .int .i64 0] #[.int .i64 (r.getD (0, 0)).1, .int .i64 (r.getD (0, 0)).2] rfl rfl hV.out rfl (by kernel_rfl) (by kernel_rfl) ?_; intro w9 b9 o9; have HB9 := Hd b9; have HN9 := Hd o9; clear b9 o9)
   refine bodyPost_ret (results_row2 Tryz.results52 _ _ gr 68 #[.int .i64 (r.getD (0, 0)).1, .int .i64 (r.getD (0, 0)).2] _ rfl HB9.out Tryz.underlying68 rfl (by kernel_rfl)) rfl ?_;exact ⟨rfl, hO.out.step HN9.out (fun i hi hl => by simp at hi; omega)⟩
end Go.Proofs.YthdofaoamljkfaaGreatDoor
