/- erase.Of and erase.By. The chapter's example of layer 14; works. -/
import Derived.Test.YtjhomlnlmpdklaaGreatDoorEraseStaysCardK34
import Derived.Test.YtjhomlnlmpdklaaGreatDoorEraseStaysCardK28
set_option linter.unusedVariables false
set_option linter.unusedSimpArgs false
namespace Go.Proofs.YtjhomlnlmpdklaaGreatDoor
open Go.RowKit
open Go.Lib hiding intOf
attribute [local go_sem ↓] Go.wp_at_zero Go.wp_at_succ
set_option maxRecDepth 10000 in
set_option maxHeartbeats 2000000 in
theorem eof_any (A0 A1 A2 : Option Addr) (n0 n1 n2 c0 c1 c2 B : Nat) (h : Hst) (w : World) (hg : HIn w B A0 A1 A2 n0 n1 n2 h) :
  Calls Tryz.prog 24 #[hval A0 A1 A2 n0 n1 n2 c0 c1 c2] w fun e w' => ∃ B0 B1 B2 d0 d1 d2, (e = .returned (.tuple #[.agg #[.slice B0 (eraR notLost h).1.ss.length d0, .slice B1 (eraR notLost h).1.ks.length d1, .slice B2 (eraR notLost h).1.l.length d2], .int .i64 (eraR notLost h).2]) ∧ HNew w.heap.size w' B0 B1 B2 (eraR notLost h).1) ∧ Only [] w w' := by
 have O1 : Only [] w ((w.alloc (.cells #[.slice A0 n0 c0, .slice A1 n1 c1, .slice A2 n2 c2] 25)).alloc (.cells zeroH 25)) := ((Only.refl [] w).alloc _).alloc _
 have HF := Lib.hid (keeping_any 43 notLost (.inl ⟨rfl, rfl⟩) A0 A1 A2 n0 n1 n2 c0 c1 c2 B h _ (hg.same O1) (hnone_of hg))
 have HO1 := Lib.hid O1
 have HR1 := Lib.hid (Blk.made (w.alloc (.cells #[.slice A0 n0 c0, .slice A1 n1 c1, .slice A2 n2 c2] 25)) 25 zeroH)
 unfold hval at HF ⊢
 unfold zeroH at HF HO1 HR1
 simp only [World.size_alloc] at HF HR1
 generalize eraR notLost h = R at *
 obtain ⟨G, er⟩ := R
 dsimp only at HF ⊢
 clear hg O1
 go_enter Tryz.func24, Tryz.ntmps24
 go_wp2_with fail
 generalize hgr : w.heap.size + 1 = gr at *
 refine (HF.out).mono ?_
 rintro e w2 ⟨B0, B1, B2, d0, d1, d2, ⟨rfl, HA⟩, O2⟩
 have HO2 := Lib.hid (HO1.out.trans O2)
 have HR2 := Lib.hid (O2.blk HR1.out (by simp))
 clear O2 HF
 go_wp2_with (refine wpList_store_blk rfl 25 (.tmp 2) (.tmp 6) rfl gr 25 _ #[.slice B0 G.ss.length d0, .slice B1 G.ks.length d1, .slice B2 G.l.length d2] rfl rfl HR2.out rfl (by kernel_rfl) (by kernel_rfl) ?_; intro w9 b9 o9; have HB9 := Lib.hid b9; have HN9 := Lib.hid o9; clear b9 o9)
 refine bodyPost_ret (results_row2 Tryz.results24 _ _ gr 25 #[.slice B0 G.ss.length d0, .slice B1 G.ks.length d1, .slice B2 G.l.length d2] _ rfl HB9.out Tryz.underlying25 rfl (by kernel_rfl)) rfl ?_
 exact ⟨B0, B1, B2, d0, d1, d2, ⟨rfl, HA.step HN9.out (fun i hi => by simp at hi; omega) (by omega)⟩, HO2.out.step HN9.out (fun i hi hl => by simp at hi; omega)⟩
end Go.Proofs.YtjhomlnlmpdklaaGreatDoor

set_option linter.unusedVariables false
set_option linter.unusedSimpArgs false
namespace Go.Proofs.YtjhomlnlmpdklaaGreatDoor
open Go.RowKit
open Go.Lib hiding intOf
attribute [local go_sem ↓] Go.wp_at_zero Go.wp_at_succ
def ex14 : ByteArray := ⟨#[98, 101, 103, 105, 110, 32, 115, 10, 114, 101, 97, 100, 32, 115, 32, 120, 32, 63, 10, 114, 101, 97, 100, 32, 115, 32, 121, 32, 49, 10, 111, 107, 32, 115]⟩
def hist14 : Hst := ⟨[⟨#[115]⟩], [⟨#[120]⟩, ⟨#[121]⟩], [⟨0, 1, [⟨false, 0, 2, 0⟩, ⟨false, 1, 1, 1⟩]⟩]⟩
def left14 : Hst := ⟨[⟨#[115]⟩], [⟨#[121]⟩], [⟨0, 1, [⟨false, 0, 1, 1⟩]⟩]⟩
def evs14 : List Ev6 := [⟨1, ⟨#[115]⟩, ⟨#[]⟩, 0, 0, 1⟩, ⟨2, ⟨#[115]⟩, ⟨#[120]⟩, 2, 0, 2⟩, ⟨2, ⟨#[115]⟩, ⟨#[121]⟩, 1, 1, 3⟩, ⟨4, ⟨#[115]⟩, ⟨#[]⟩, 0, 0, 4⟩]
theorem ex14_log : logParse ex14 = (evs14, 0, 0) := by kernel_rfl
theorem ex14_rows : (linesOf (by_ ex14)).all (fun x => decide (x.length ≤ 65535)) = true := by kernel_rfl
theorem ex14_h : pairH evs14 = hist14 := by kernel_rfl
theorem ex14_e : pairE evs14 = 0 := by kernel_rfl
theorem ex14_l : pairL evs14 = 0 := by kernel_rfl
theorem ex14_show : showR ex14 = (hist14, 0, 0) := by
 unfold showR
 rw [ex14_log]
 dsimp only
 rw [if_pos rfl, ex14_h, ex14_e, ex14_l]
theorem ex14_of : eraR notLost hist14 = (left14, 0) := by kernel_rfl
theorem ex14_small : HSmall hist14 where
 s := fun x hx => by
  simp [hist14] at hx
  subst hx
  decide
 k := fun x hx => by
  simp [hist14] at hx
  rcases hx with rfl | rfl <;> decide
 ns := by decide
 nk := by decide
 nl := by decide
 no := fun t ht => by
  simp [hist14] at ht
  subst ht
  simp
set_option maxRecDepth 10000 in
set_option maxHeartbeats 4000000 in
theorem works14_any (w : World) (hT : UTabs w) (hM : MLen w) (hV : Verbs w) :
  Calls Tryz.prog 28 #[] w fun e w' => e = .returned (.bool true) ∧ Only [] w w' := by
 have HP := Lib.hid (fun w' (O : Only [] w w') => sparse_any ex14 w' (by decide) (fun x hx => by simpa using List.all_eq_true.1 ex14_rows x hx) (by rw [ex14_log]; decide) (fun x hx => by
  rw [ex14_log] at hx
  simp [evs14] at hx
  rcases hx with rfl | rfl | rfl | rfl <;> exact ⟨by decide, by decide⟩) (hT.only O) (hM.only O) (hV.only O))
 have HI := Lib.hid (fun (A0 A1 A2 : Option Addr) (B : Nat) w' (hA : HAt w' B A0 A1 A2 hist14) (O : Only [] w w') => (⟨hA, rfl, rfl, rfl, ex14_small, hT.only O⟩ : HIn w' B A0 A1 A2 1 2 1 hist14))
 have HOF := Lib.hid (fun (A0 A1 A2 : Option Addr) (c0 c1 c2 B : Nat) w' (hA : HIn w' B A0 A1 A2 1 2 1 hist14) => eof_any A0 A1 A2 1 2 1 c0 c1 c2 B hist14 w' hA)
 rw [ex14_show] at HP
 rw [ex14_of] at HOF
 unfold ex14 at HP
 unfold hval at HOF
 clear hT hM hV
 go_enter Tryz.func28, Tryz.ntmps28
 go_wp2_with fail
 refine (HP.out _ (Only.refl [] w)).mono ?_
 rintro e w2 ⟨B0, B1, B2, d0, d1, d2, ⟨rfl, hA⟩, O2⟩
 have HA := Lib.hid hA
 have HO2 := Lib.hid O2
 clear hA O2 HP
 rw [show hist14.ss.length = 1 from rfl, show hist14.ks.length = 2 from rfl, show hist14.l.length = 1 from rfl]
 go_upto_region 2 with (fail)
 have HO3 := Lib.hid (HO2.out.alloc (.cells #[.slice B0 1 d0, .slice B1 2 d1, .slice B2 1 d2] 25))
 have HB3 := Lib.hid (Blk.made w2 25 #[.slice B0 1 d0, .slice B1 2 d1, .slice B2 1 d2])
 have HI3 := Lib.hid (HI.out B0 B1 B2 w2.heap.size _ (HA.out.only ((Only.refl [] w2).alloc (.cells #[.slice B0 1 d0, .slice B1 2 d1, .slice B2 1 d2] 25)) (by simp)) HO3.out)
 clear HA HO2 HI
 generalize (w2.alloc (.cells #[.slice B0 1 d0, .slice B1 2 d1, .slice B2 1 d2] 25)) = w3 at *
 generalize hg2 : w2.heap.size = g2 at *
 have l3 := HB3.out.lt
 have y0 := HB3.out.at_ 0
 have y1 := HB3.out.at_ 1
 have y2 := HB3.out.at_ 2
 simp at y0 y1 y2
 go_wp2_with fail
 refine (HOF.out _ _ _ _ _ _ _ _ HI3.out).mono ?_
 rintro e w4 ⟨E0, E1, E2, f0, f1, f2, ⟨rfl, hN⟩, O4⟩
 have HO4 := Lib.hid (HO3.out.trans O4)
 have HN := Lib.hid hN
 clear hN O4 HOF l3 y0 y1 y2 HI3 HB3 HO3
 dsimp only at HN ⊢
 rw [show left14.ss.length = 1 from rfl, show left14.ks.length = 1 from rfl, show left14.l.length = 1 from rfl]
 go_upto_region 3 with (fail)
 have HX := Lib.hid ((Only.refl [] w4).alloc (.cells #[.slice E0 1 f0, .slice E1 1 f1, .slice E2 1 f2] 25))
 have HB5 := Lib.hid (Blk.made w4 25 #[.slice E0 1 f0, .slice E1 1 f1, .slice E2 1 f2])
 have HO5 := Lib.hid (HO4.out.trans HX.out)
 have HA5 := Lib.hid (HN.out [] _ (by simp) HX.out)
 clear HX HO4 HN
 generalize (w4.alloc (.cells #[.slice E0 1 f0, .slice E1 1 f1, .slice E2 1 f2] 25)) = w5 at *
 generalize w4.heap.size = g5 at *
 obtain ⟨bt, ot, AT, cpt, rfl, -, hbt, ⟨a0, a1, a2⟩, hOk⟩ := HA5.out.r2.at_ (k := 0) (t := ⟨0, 1, [⟨false, 0, 1, 1⟩]⟩) rfl
 obtain ⟨bo, oo, hAT, -, hbo, ⟨q0, q1, q2, q3⟩⟩ := row_op hOk.row (k := 0) (x := ⟨false, 0, 1, 1⟩) rfl
 have hAT' : AT = some ⟨bo, oo, none⟩ := hAT
 subst hAT'
 clear hOk hAT HA5
 have l5 := HB5.out.lt
 have y0 := HB5.out.at_ 0
 have y1 := HB5.out.at_ 1
 have y2 := HB5.out.at_ 2
 simp at y0 y1 y2 a0 a1 a2 q0 q1 q2 q3
 go_wp2
 go_ret
 exact ⟨rfl, HO5.out⟩
end Go.Proofs.YtjhomlnlmpdklaaGreatDoor
