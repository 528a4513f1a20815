/- erase.Of and erase.By. The chapter's example of layer 14; works. With every op kept a history that may be stays as it is. Mathematics. erase.Place. Ops with their places; which reads were lost. Mathematics. What is without lost reads may be, has none, and stays so; where its ops stand. Mathematics. What the document's erase holds while it goes through a history: Raw's blocks and rows. -/
import Derived.Test.YtjhomlnlmpdklaaGreatDoorEraseOfCardK35
import Derived.Test.YtjhomlnlmpdklaaGreatDoorEraseOfCardK29
import Derived.Test.YtjhomlnlmpdklaaGreatDoorEraseOfCardK32
import Derived.Test.YtjhomlnlmpdklaaGreatDoorEraseOfCardK33
import Derived.Test.YtjhomlnlmpdklaaGreatDoorEraseOfCardK20
import Derived.Test.YtjhomlnlmpdklaaGreatDoorEraseOfCardK3
import Derived.Test.YtjhomlnlmpdklaaGreatDoorEraseOfCardK15
import Derived.Test.YtjhomlnlmpdklaaGreatDoorEraseOfCardK27
set_option linter.unusedVariables false
set_option linter.unusedSimpArgs false
namespace Go.Proofs.YtjhomlnlmpdklaaGreatDoor
open Go.RowKit
open Go.Lib hiding intOf
attribute [local go_sem ↓] Go.wp_at_zero Go.wp_at_succ
/-- What erase.By answers. -/
def byR (h : Hst) (y : Int) : Hst × Int := if mayH h = true then (if y = 1 then (keptH anyOp h, 0) else if y = 2 then (keptH notLost h, 0) else (⟨[], [], []⟩, 2)) else (⟨[], [], []⟩, 4)
set_option maxRecDepth 10000 in
set_option maxHeartbeats 2000000 in
theorem eof_any (A0 A1 A2 : Option Addr) (n0 n1 n2 c0 c1 c2 B : Nat) (h : Hst) (w : World) (hg : HIn w B A0 A1 A2 n0 n1 n2 h) :
  Calls Tryz.prog 24 #[hval A0 A1 A2 n0 n1 n2 c0 c1 c2] w fun e w' => ∃ B0 B1 B2 d0 d1 d2, (e = .returned (.tuple #[.agg #[.slice B0 (eraR notLost h).1.ss.length d0, .slice B1 (eraR notLost h).1.ks.length d1, .slice B2 (eraR notLost h).1.l.length d2], .int .i64 (eraR notLost h).2]) ∧ HNew w.heap.size w' B0 B1 B2 (eraR notLost h).1) ∧ Only [] w w' := by
 have O1 : Only [] w ((w.alloc (.cells #[.slice A0 n0 c0, .slice A1 n1 c1, .slice A2 n2 c2] 25)).alloc (.cells zeroH 25)) := ((Only.refl [] w).alloc _).alloc _
 have HF := Lib.hid (keeping_any 43 notLost (.inl ⟨rfl, rfl⟩) A0 A1 A2 n0 n1 n2 c0 c1 c2 B h _ (hg.same O1) (hnone_of hg))
 have HO1 := Lib.hid O1
 have HR1 := Lib.hid (Blk.made (w.alloc (.cells #[.slice A0 n0 c0, .slice A1 n1 c1, .slice A2 n2 c2] 25)) 25 zeroH)
 unfold hval at HF ⊢
 unfold zeroH at HF HO1 HR1
 simp only [World.size_alloc] at HF HR1
 generalize eraR notLost h = R at *
 obtain ⟨G, er⟩ := R
 dsimp only at HF ⊢
 clear hg O1
 go_enter Tryz.func24, Tryz.ntmps24
 go_wp2_with fail
 generalize hgr : w.heap.size + 1 = gr at *
 refine (HF.out).mono ?_
 rintro e w2 ⟨B0, B1, B2, d0, d1, d2, ⟨rfl, HA⟩, O2⟩
 have HO2 := Lib.hid (HO1.out.trans O2)
 have HR2 := Lib.hid (O2.blk HR1.out (by simp))
 clear O2 HF
 go_wp2_with (refine wpList_store_blk rfl 25 (.tmp 2) (.tmp 6) rfl gr 25 _ #[.slice B0 G.ss.length d0, .slice B1 G.ks.length d1, .slice B2 G.l.length d2] rfl rfl HR2.out rfl (by kernel_rfl) (by kernel_rfl) ?_; intro w9 b9 o9; have HB9 := Lib.hid b9; have HN9 := Lib.hid o9; clear b9 o9)
 refine bodyPost_ret (results_row2 Tryz.results24 _ _ gr 25 #[.slice B0 G.ss.length d0, .slice B1 G.ks.length d1, .slice B2 G.l.length d2] _ rfl HB9.out Tryz.underlying25 rfl (by kernel_rfl)) rfl ?_
 exact ⟨B0, B1, B2, d0, d1, d2, ⟨rfl, HA.step HN9.out (fun i hi => by simp at hi; omega) (by omega)⟩, HO2.out.step HN9.out (fun i hi hl => by simp at hi; omega)⟩
set_option maxRecDepth 10000 in
set_option maxHeartbeats 2000000 in
theorem eby_any (A0 A1 A2 : Option Addr) (n0 n1 n2 c0 c1 c2 B : Nat) (h : Hst) (y : Int) (w : World) (hg : HIn w B A0 A1 A2 n0 n1 n2 h) :
  Calls Tryz.prog 26 #[hval A0 A1 A2 n0 n1 n2 c0 c1 c2, .int .i64 y] w fun e w' => ∃ B0 B1 B2 d0 d1 d2, (e = .returned (.tuple #[.agg #[.slice B0 (byR h y).1.ss.length d0, .slice B1 (byR h y).1.ks.length d1, .slice B2 (byR h y).1.l.length d2], .int .i64 (byR h y).2]) ∧ HNew w.heap.size w' B0 B1 B2 (byR h y).1) ∧ Only [] w w' := by
 have O1 : Only [] w ((w.alloc (.cells #[.slice A0 n0 c0, .slice A1 n1 c1, .slice A2 n2 c2] 25)).alloc (.cells zeroH 25)) := ((Only.refl [] w).alloc _).alloc _
 have HF := Lib.hid (hmay_any A0 A1 A2 n0 n1 n2 c0 c1 c2 B h _ (hg.same O1))
 have HO1 := Lib.hid O1
 have HB1 := Lib.hid ((Blk.made w 25 #[.slice A0 n0 c0, .slice A1 n1 c1, .slice A2 n2 c2]).alloc (.cells zeroH 25))
 have HR1 := Lib.hid (Blk.made (w.alloc (.cells #[.slice A0 n0 c0, .slice A1 n1 c1, .slice A2 n2 c2] 25)) 25 zeroH)
 have HKE := Lib.hid (fun w' (O : Only [] w w') => keeping_any 45 anyOp (.inr ⟨rfl, rfl⟩) A0 A1 A2 n0 n1 n2 c0 c1 c2 B h w' (hg.same O) (hnone_of hg))
 have HOF := Lib.hid (fun w' (O : Only [] w w') => eof_any A0 A1 A2 n0 n1 n2 c0 c1 c2 B h w' (hg.same O))
 unfold hval at HF HKE HOF ⊢
 unfold zeroH at HF HO1 HR1 HB1
 simp only [World.size_alloc] at HF HR1
 unfold byR
 unfold eraR at HKE HOF
 clear hg O1
 cases hm : mayH h with
 | false =>
  rw [errH_not hm] at HF
  rw [if_neg (by decide)]
  clear hm HKE HOF
  go_enter Tryz.func26, Tryz.ntmps26
  go_wp2_with fail
  generalize hgr : w.heap.size + 1 = gr at *
  refine (HF.out).mono ?_
  rintro e w2 ⟨rfl, O2⟩
  have HO2 := Lib.hid (HO1.out.trans O2)
  have HR2 := Lib.hid (O2.blk HR1.out (by simp))
  clear O2 HF
  go_wp2_with (refine wpList_store_blk rfl 25 (.tmp 4) (.tmp 11) rfl gr 25 _ #[.slice none 0 0, .slice none 0 0, .slice none 0 0] rfl rfl HR2.out rfl (by kernel_rfl) (by kernel_rfl) ?_; intro w9 b9 o9; have HB9 := Lib.hid b9; have HN9 := Lib.hid o9; clear b9 o9)
  refine bodyPost_ret (results_row2 Tryz.results26 _ _ gr 25 #[.slice none 0 0, .slice none 0 0, .slice none 0 0] _ rfl HB9.out Tryz.underlying25 rfl (by kernel_rfl)) rfl ?_
  exact ⟨none, none, none, 0, 0, 0, ⟨rfl, fun S w' hS O => ⟨.inl rfl, .inl rfl, LRow.nil⟩⟩, HO2.out.step HN9.out (fun i hi hl => by simp at hi; omega)⟩
 | true =>
  rw [errH_yes hm] at HF
  rw [if_pos rfl]
  rw [hm, if_pos rfl] at HKE HOF
  by_cases h1 : y = 1
  ·subst h1
   rw [if_pos rfl]
   clear HOF
   generalize keptH anyOp h = G at *
   go_enter Tryz.func26, Tryz.ntmps26
   go_wp2_with fail
   generalize hgr : w.heap.size + 1 = gr at *
   refine (HF.out).mono ?_
   rintro e w2 ⟨rfl, O2⟩
   have HO2 := Lib.hid (HO1.out.trans O2)
   have HR2 := Lib.hid (O2.blk HR1.out (by simp))
   have HB2 := Lib.hid (O2.blk HB1.out (by simp))
   have hsz2 := HO2.out.size
   clear O2 HF HB1 HR1 hm
   have lB := HB2.out.lt
   have x0 := HB2.out.at_ 0
   have x1 := HB2.out.at_ 1
   have x2 := HB2.out.at_ 2
   simp at x0 x1 x2
   go_wp2_with fail
   refine (HKE.out w2 HO2.out).mono ?_
   rintro e w3 ⟨B0, B1, B2, d0, d1, d2, ⟨rfl, HA⟩, O3⟩
   have HO3 := Lib.hid (HO2.out.trans O3)
   have HR3 := Lib.hid (O3.blk HR2.out (by simp))
   clear O3
   go_wp2_with (refine wpList_store_blk rfl 25 (.tmp 4) (.tmp 18) rfl gr 25 _ #[.slice B0 G.ss.length d0, .slice B1 G.ks.length d1, .slice B2 G.l.length d2] rfl rfl HR3.out rfl (by kernel_rfl) (by kernel_rfl) ?_; intro w9 b9 o9; have HB9 := Lib.hid b9; have HN9 := Lib.hid o9; clear b9 o9)
   refine bodyPost_ret (results_row2 Tryz.results26 _ _ gr 25 #[.slice B0 G.ss.length d0, .slice B1 G.ks.length d1, .slice B2 G.l.length d2] _ rfl HB9.out Tryz.underlying25 rfl (by kernel_rfl)) rfl ?_
   exact ⟨B0, B1, B2, d0, d1, d2, ⟨rfl, HA.step HN9.out (fun i hi => by simp at hi; have h9 := HR2.out.lt; omega) (by omega)⟩, HO3.out.step HN9.out (fun i hi hl => by simp at hi; omega)⟩
  ·rw [if_neg h1]
   by_cases h2 : y = 2
   ·subst h2
    rw [if_pos rfl]
    clear HKE
    generalize keptH notLost h = G at *
    go_enter Tryz.func26, Tryz.ntmps26
    go_wp2_with fail
    generalize hgr : w.heap.size + 1 = gr at *
    refine (HF.out).mono ?_
    rintro e w2 ⟨rfl, O2⟩
    have HO2 := Lib.hid (HO1.out.trans O2)
    have HR2 := Lib.hid (O2.blk HR1.out (by simp))
    have HB2 := Lib.hid (O2.blk HB1.out (by simp))
    have hsz2 := HO2.out.size
    clear O2 HF HB1 HR1 hm
    have lB := HB2.out.lt
    have x0 := HB2.out.at_ 0
    have x1 := HB2.out.at_ 1
    have x2 := HB2.out.at_ 2
    simp at x0 x1 x2
    go_wp2_with fail
    refine (HOF.out w2 HO2.out).mono ?_
    rintro e w3 ⟨B0, B1, B2, d0, d1, d2, ⟨rfl, HA⟩, O3⟩
    have HO3 := Lib.hid (HO2.out.trans O3)
    have HR3 := Lib.hid (O3.blk HR2.out (by simp))
    clear O3
    go_wp2_with (refine wpList_store_blk rfl 25 (.tmp 4) (.tmp 24) rfl gr 25 _ #[.slice B0 G.ss.length d0, .slice B1 G.ks.length d1, .slice B2 G.l.length d2] rfl rfl HR3.out rfl (by kernel_rfl) (by kernel_rfl) ?_; intro w9 b9 o9; have HB9 := Lib.hid b9; have HN9 := Lib.hid o9; clear b9 o9)
    refine bodyPost_ret (results_row2 Tryz.results26 _ _ gr 25 #[.slice B0 G.ss.length d0, .slice B1 G.ks.length d1, .slice B2 G.l.length d2] _ rfl HB9.out Tryz.underlying25 rfl (by kernel_rfl)) rfl ?_
    exact ⟨B0, B1, B2, d0, d1, d2, ⟨rfl, HA.step HN9.out (fun i hi => by simp at hi; have h9 := HR2.out.lt; omega) (by omega)⟩, HO3.out.step HN9.out (fun i hi hl => by simp at hi; omega)⟩
   ·rw [if_neg h2]
    have h1' : decide (y = 1) = false := by simpa using h1
    have h2' : decide (y = 2) = false := by simpa using h2
    clear HKE HOF
    go_enter Tryz.func26, Tryz.ntmps26
    go_wp2_with fail
    generalize hgr : w.heap.size + 1 = gr at *
    refine (HF.out).mono ?_
    rintro e w2 ⟨rfl, O2⟩
    have HO2 := Lib.hid (HO1.out.trans O2)
    have HR2 := Lib.hid (O2.blk HR1.out (by simp))
    have HB2 := Lib.hid (O2.blk HB1.out (by simp))
    have hsz2 := HO2.out.size
    clear O2 HF HB1 HR1 hm
    have lB := HB2.out.lt
    have x0 := HB2.out.at_ 0
    have x1 := HB2.out.at_ 1
    have x2 := HB2.out.at_ 2
    simp at x0 x1 x2
    go_wp2_with (refine wpList_store_blk rfl 25 (.tmp 4) (.tmp 26) rfl gr 25 _ #[.slice none 0 0, .slice none 0 0, .slice none 0 0] rfl rfl HR2.out rfl (by kernel_rfl) (by kernel_rfl) ?_; intro w9 b9 o9; have HB9 := Lib.hid b9; have HN9 := Lib.hid o9; clear b9 o9)
    refine bodyPost_ret (results_row2 Tryz.results26 _ _ gr 25 #[.slice none 0 0, .slice none 0 0, .slice none 0 0] _ rfl HB9.out Tryz.underlying25 rfl (by kernel_rfl)) rfl ?_
    exact ⟨none, none, none, 0, 0, 0, ⟨rfl, fun S w' hS O => ⟨.inl rfl, .inl rfl, LRow.nil⟩⟩, HO2.out.step HN9.out (fun i hi hl => by simp at hi; omega)⟩
end Go.Proofs.YtjhomlnlmpdklaaGreatDoor

set_option linter.unusedVariables false
set_option linter.unusedSimpArgs false
namespace Go.Proofs.YtjhomlnlmpdklaaGreatDoor
open Go.RowKit
open Go.Lib hiding intOf
attribute [local go_sem ↓] Go.wp_at_zero Go.wp_at_succ
def ex14 : ByteArray := ⟨#[98, 101, 103, 105, 110, 32, 115, 10, 114, 101, 97, 100, 32, 115, 32, 120, 32, 63, 10, 114, 101, 97, 100, 32, 115, 32, 121, 32, 49, 10, 111, 107, 32, 115]⟩
def hist14 : Hst := ⟨[⟨#[115]⟩], [⟨#[120]⟩, ⟨#[121]⟩], [⟨0, 1, [⟨false, 0, 2, 0⟩, ⟨false, 1, 1, 1⟩]⟩]⟩
def left14 : Hst := ⟨[⟨#[115]⟩], [⟨#[121]⟩], [⟨0, 1, [⟨false, 0, 1, 1⟩]⟩]⟩
def evs14 : List Ev6 := [⟨1, ⟨#[115]⟩, ⟨#[]⟩, 0, 0, 1⟩, ⟨2, ⟨#[115]⟩, ⟨#[120]⟩, 2, 0, 2⟩, ⟨2, ⟨#[115]⟩, ⟨#[121]⟩, 1, 1, 3⟩, ⟨4, ⟨#[115]⟩, ⟨#[]⟩, 0, 0, 4⟩]
theorem ex14_log : logParse ex14 = (evs14, 0, 0) := by kernel_rfl
theorem ex14_rows : (linesOf (by_ ex14)).all (fun x => decide (x.length ≤ 65535)) = true := by kernel_rfl
theorem ex14_h : pairH evs14 = hist14 := by kernel_rfl
theorem ex14_e : pairE evs14 = 0 := by kernel_rfl
theorem ex14_l : pairL evs14 = 0 := by kernel_rfl
theorem ex14_show : showR ex14 = (hist14, 0, 0) := by
 unfold showR
 rw [ex14_log]
 dsimp only
 rw [if_pos rfl, ex14_h, ex14_e, ex14_l]
theorem ex14_of : eraR notLost hist14 = (left14, 0) := by kernel_rfl
theorem ex14_small : HSmall hist14 where
 s := fun x hx => by
  simp [hist14] at hx
  subst hx
  decide
 k := fun x hx => by
  simp [hist14] at hx
  rcases hx with rfl | rfl <;> decide
 ns := by decide
 nk := by decide
 nl := by decide
 no := fun t ht => by
  simp [hist14] at ht
  subst ht
  simp
set_option maxRecDepth 10000 in
set_option maxHeartbeats 4000000 in
theorem works14_any (w : World) (hT : UTabs w) (hM : MLen w) (hV : Verbs w) :
  Calls Tryz.prog 28 #[] w fun e w' => e = .returned (.bool true) ∧ Only [] w w' := by
 have HP := Lib.hid (fun w' (O : Only [] w w') => sparse_any ex14 w' (by decide) (fun x hx => by simpa using List.all_eq_true.1 ex14_rows x hx) (by rw [ex14_log]; decide) (fun x hx => by
  rw [ex14_log] at hx
  simp [evs14] at hx
  rcases hx with rfl | rfl | rfl | rfl <;> exact ⟨by decide, by decide⟩) (hT.only O) (hM.only O) (hV.only O))
 have HI := Lib.hid (fun (A0 A1 A2 : Option Addr) (B : Nat) w' (hA : HAt w' B A0 A1 A2 hist14) (O : Only [] w w') => (⟨hA, rfl, rfl, rfl, ex14_small, hT.only O⟩ : HIn w' B A0 A1 A2 1 2 1 hist14))
 have HOF := Lib.hid (fun (A0 A1 A2 : Option Addr) (c0 c1 c2 B : Nat) w' (hA : HIn w' B A0 A1 A2 1 2 1 hist14) => eof_any A0 A1 A2 1 2 1 c0 c1 c2 B hist14 w' hA)
 rw [ex14_show] at HP
 rw [ex14_of] at HOF
 unfold ex14 at HP
 unfold hval at HOF
 clear hT hM hV
 go_enter Tryz.func28, Tryz.ntmps28
 go_wp2_with fail
 refine (HP.out _ (Only.refl [] w)).mono ?_
 rintro e w2 ⟨B0, B1, B2, d0, d1, d2, ⟨rfl, hA⟩, O2⟩
 have HA := Lib.hid hA
 have HO2 := Lib.hid O2
 clear hA O2 HP
 rw [show hist14.ss.length = 1 from rfl, show hist14.ks.length = 2 from rfl, show hist14.l.length = 1 from rfl]
 go_upto_region 2 with (fail)
 have HO3 := Lib.hid (HO2.out.alloc (.cells #[.slice B0 1 d0, .slice B1 2 d1, .slice B2 1 d2] 25))
 have HB3 := Lib.hid (Blk.made w2 25 #[.slice B0 1 d0, .slice B1 2 d1, .slice B2 1 d2])
 have HI3 := Lib.hid (HI.out B0 B1 B2 w2.heap.size _ (HA.out.only ((Only.refl [] w2).alloc (.cells #[.slice B0 1 d0, .slice B1 2 d1, .slice B2 1 d2] 25)) (by simp)) HO3.out)
 clear HA HO2 HI
 generalize (w2.alloc (.cells #[.slice B0 1 d0, .slice B1 2 d1, .slice B2 1 d2] 25)) = w3 at *
 generalize hg2 : w2.heap.size = g2 at *
 have l3 := HB3.out.lt
 have y0 := HB3.out.at_ 0
 have y1 := HB3.out.at_ 1
 have y2 := HB3.out.at_ 2
 simp at y0 y1 y2
 go_wp2_with fail
 refine (HOF.out _ _ _ _ _ _ _ _ HI3.out).mono ?_
 rintro e w4 ⟨E0, E1, E2, f0, f1, f2, ⟨rfl, hN⟩, O4⟩
 have HO4 := Lib.hid (HO3.out.trans O4)
 have HN := Lib.hid hN
 clear hN O4 HOF l3 y0 y1 y2 HI3 HB3 HO3
 dsimp only at HN ⊢
 rw [show left14.ss.length = 1 from rfl, show left14.ks.length = 1 from rfl, show left14.l.length = 1 from rfl]
 go_upto_region 3 with (fail)
 have HX := Lib.hid ((Only.refl [] w4).alloc (.cells #[.slice E0 1 f0, .slice E1 1 f1, .slice E2 1 f2] 25))
 have HB5 := Lib.hid (Blk.made w4 25 #[.slice E0 1 f0, .slice E1 1 f1, .slice E2 1 f2])
 have HO5 := Lib.hid (HO4.out.trans HX.out)
 have HA5 := Lib.hid (HN.out [] _ (by simp) HX.out)
 clear HX HO4 HN
 generalize (w4.alloc (.cells #[.slice E0 1 f0, .slice E1 1 f1, .slice E2 1 f2] 25)) = w5 at *
 generalize w4.heap.size = g5 at *
 obtain ⟨bt, ot, AT, cpt, rfl, -, hbt, ⟨a0, a1, a2⟩, hOk⟩ := HA5.out.r2.at_ (k := 0) (t := ⟨0, 1, [⟨false, 0, 1, 1⟩]⟩) rfl
 obtain ⟨bo, oo, hAT, -, hbo, ⟨q0, q1, q2, q3⟩⟩ := row_op hOk.row (k := 0) (x := ⟨false, 0, 1, 1⟩) rfl
 have hAT' : AT = some ⟨bo, oo, none⟩ := hAT
 subst hAT'
 clear hOk hAT HA5
 have l5 := HB5.out.lt
 have y0 := HB5.out.at_ 0
 have y1 := HB5.out.at_ 1
 have y2 := HB5.out.at_ 2
 simp at y0 y1 y2 a0 a1 a2 q0 q1 q2 q3
 go_wp2
 go_ret
 exact ⟨rfl, HO5.out⟩
end Go.Proofs.YtjhomlnlmpdklaaGreatDoor

set_option linter.unusedVariables false
set_option linter.unusedSimpArgs false
namespace Go.Proofs.YtjhomlnlmpdklaaGreatDoor
theorem may_opsB {h : Hst} (hm : mayH h = true) : opsB h = true := by
 unfold mayH at hm
 simp only [Bool.and_eq_true] at hm
 exact hm.2.2.2
theorem used_anyOp {h : Hst} (hm : mayH h = true) {i : Nat} (hi : i < h.ks.length) : usedK anyOp h.l (i : Int) = true := by
 have h1 := may_opsB hm
 unfold opsB useB at h1
 simp only [Bool.and_eq_true] at h1
 have h2 := List.all_eq_true.1 h1.2 i (List.mem_range.2 hi)
 have h3 : (i : Int) ∈ keysL h.l := by simpa using h2
 unfold keysL at h3
 obtain ⟨t, ht, h4⟩ := List.mem_flatMap.1 h3
 obtain ⟨o, ho, h5⟩ := List.mem_map.1 h4
 rw [← h5]
 exact used_of ht ho rfl
theorem numK_anyOp {h : Hst} (hm : mayH h = true) {i : Nat} (hi : i ≤ h.ks.length) : numK anyOp h.l i = i := by
 unfold numK
 rw [List.filter_eq_self.2 (fun k hk => used_anyOp hm (by have := List.mem_range.1 hk; omega)), List.length_range]
theorem keptK_anyOp {h : Hst} (hm : mayH h = true) : keptK anyOp h.l h.ks = h.ks := by
 unfold keptK
 rw [List.filter_eq_self.2 (fun x hx => used_anyOp hm (by
  obtain ⟨a, i⟩ := x
  have h1 := List.mem_zipIdx hx
  simp at h1
  omega))]
 simp
theorem keptT_anyOp {h : Hst} (hm : mayH h = true) {t : Tx} (ht : t ∈ h.l) : keptT anyOp h.l t = t := by
 have h1 := may_opsB hm
 unfold opsB at h1
 simp only [Bool.and_eq_true] at h1
 have h2 := List.all_eq_true.1 h1.1 t ht
 have h3 : keptO anyOp h.l t.ops = t.ops := by
  unfold keptO
  rw [show t.ops.filter anyOp = t.ops from List.filter_eq_self.2 (fun _ _ => rfl)]
  conv => rhs; rw [← List.map_id t.ops]
  refine List.map_congr_left fun o ho => ?_
  have h4 := List.all_eq_true.1 h2 o ho
  unfold opB at h4
  simp only [Bool.and_eq_true, decide_eq_true_eq] at h4
  unfold keyTo
  rw [numK_anyOp hm (by omega)]
  have : ((o.key.toNat : Nat) : Int) = o.key := by omega
  rw [this]
  rfl
 unfold keptT
 rw [h3]
theorem keptH_anyOp {h : Hst} (hm : mayH h = true) : keptH anyOp h = h := by
 unfold keptH
 rw [keptK_anyOp hm]
 have : h.l.map (keptT anyOp h.l) = h.l := by
  conv => rhs; rw [← List.map_id h.l]
  exact List.map_congr_left fun t ht => keptT_anyOp hm ht
 rw [this]
end Go.Proofs.YtjhomlnlmpdklaaGreatDoor

set_option linter.unusedVariables false
set_option linter.unusedSimpArgs false
namespace Go.Proofs.YtjhomlnlmpdklaaGreatDoor
open Go.RowKit
open Go.Lib hiding intOf
attribute [local go_sem ↓] Go.wp_at_zero Go.wp_at_succ
end Go.Proofs.YtjhomlnlmpdklaaGreatDoor

set_option linter.unusedVariables false
set_option linter.unusedSimpArgs false
namespace Go.Proofs.YtjhomlnlmpdklaaGreatDoor
/-- An op with its place. -/
abbrev Pl := Nat × Nat × Op4
end Go.Proofs.YtjhomlnlmpdklaaGreatDoor

set_option linter.unusedVariables false
set_option linter.unusedSimpArgs false
namespace Go.Proofs.YtjhomlnlmpdklaaGreatDoor
theorem kept_ops {p : Op4 → Bool} {h : Hst} {t : Tx} (ht : t ∈ (keptH p h).l) : ∃ t0 ∈ h.l, t = keptT p h.l t0 := by
 obtain ⟨t0, h0, rfl⟩ := List.mem_map.1 ht
 exact ⟨t0, h0, rfl⟩
theorem keptK_sub (p : Op4 → Bool) (l : List Tx) (ks : List ByteArray) : (keptK p l ks).Sublist ks := by
 unfold keptK
 have h1 := (List.filter_sublist (l := ks.zipIdx) (p := fun x => usedK p l (x.2 : Int))).map Prod.fst
 rwa [show ks.zipIdx.map Prod.fst = ks by simp] at h1
theorem kept_small {p : Op4 → Bool} {h : Hst} (hs : HSmall h) : HSmall (keptH p h) where
 s := hs.s
 k := fun x hx => hs.k x ((keptK_sub p h.l h.ks).subset hx)
 ns := hs.ns
 nk := Nat.le_trans (keptK_sub p h.l h.ks).length_le hs.nk
 nl := by
  have := hs.nl
  simpa [keptH] using this
 no := fun t ht => by
  obtain ⟨t0, ht0, rfl⟩ := kept_ops ht
  exact Nat.le_trans (keptO_len p h.l t0.ops) (hs.no t0 ht0)
theorem empty_small : HSmall ⟨[], [], []⟩ where
 s := fun x hx => by cases hx
 k := fun x hx => by cases hx
 ns := by decide
 nk := by decide
 nl := by decide
 no := fun t ht => by cases ht
end Go.Proofs.YtjhomlnlmpdklaaGreatDoor

set_option linter.unusedVariables false
set_option linter.unusedSimpArgs false
namespace Go.Proofs.YtjhomlnlmpdklaaGreatDoor
open Go.RowKit
open Go.Lib hiding intOf
structure RK (w0 w : World) (hc : Array Value) (g0 g1 gG : Nat) (cs : Array Value) (L : List OR) : Prop where
 bh : Blk w g0 25 hc
 br : Blk w g1 25 zeroH
 bg : Blk w gG 25 cs
 rows : ORs w w0.heap.size L
 o : Only [] w0 w
 d01 : g0 < g1
 d1G : g1 < gG
 base : w0.heap.size ≤ g0
 ty : ∀ r ∈ L, r.e ≠ 25
section
variable {w0 w w' : World} {hc cs : Array Value} {g0 g1 gG : Nat} {L : List OR}
theorem RK.same (h : RK w0 w hc g0 g1 gG cs L) (O : Only [] w w') : RK w0 w' hc g0 g1 gG cs L where
 bh := O.blk h.bh (by simp)
 br := O.blk h.br (by simp)
 bg := O.blk h.bg (by simp)
 rows := h.rows.same O
 o := h.o.trans O
 d01 := h.d01
 d1G := h.d1G
 base := h.base
 ty := h.ty
theorem RK.upd {i : Nat} {r r' : OR} (h : RK w0 w hc g0 g1 gG cs L) (hi : L[i]? = some r) (O : Only r.v.ownBlock.toList w w') (hr : r'.ok w' w0.heap.size) (he : r'.e = r.e)
  (hv : r'.v.ownBlock = r.v.ownBlock ∨ ∀ g, r'.v.ownBlock = some g → w.heap.size ≤ g) : RK w0 w' hc g0 g1 gG cs (L.set i r') where
 bh := O.blk h.bh (own_apart (h.rows.all i r hi) h.bh (h.ty r (List.mem_of_getElem? hi)))
 br := O.blk h.br (own_apart (h.rows.all i r hi) h.br (h.ty r (List.mem_of_getElem? hi)))
 bg := O.blk h.bg (own_apart (h.rows.all i r hi) h.bg (h.ty r (List.mem_of_getElem? hi)))
 rows := h.rows.upd hi O hr hv
 o := h.o.step O (fun j hj hl => by
  have := (h.rows.all i r hi).lt j (by simpa using hj)
  omega)
 d01 := h.d01
 d1G := h.d1G
 base := h.base
 ty := fun s hs => by
  rcases List.mem_or_eq_of_mem_set hs with h1 | rfl
  ·exact h.ty s h1
  ·rw [he]; exact h.ty r (List.mem_of_getElem? hi)
theorem RK.push {r' : OR} (h : RK w0 w hc g0 g1 gG cs L) (hr : r'.ok w w0.heap.size) (hv : r'.v.ownBlock = none) (ht : r'.e ≠ 25) : RK w0 w hc g0 g1 gG cs (L ++ [r']) :=
  { h with
    rows := h.rows.push hr hv
    ty := fun s hs => by
      rcases List.mem_append.1 hs with h1 | h1
      · exact h.ty s h1
      · simp at h1; subst h1; exact ht }
theorem RK.notG (h : RK w0 w hc g0 g1 gG cs L) : ∀ g ∈ ownB L, g ∉ [gG] := fun g hg hm => by
 simp at hm
 subst hm
 obtain ⟨i, r, hi, hr⟩ := ownB_mem.1 hg
 exact own_apart (h.rows.all i r hi) h.bg (h.ty r (List.mem_of_getElem? hi)) (by simp [hr])
theorem RK.setG (h : RK w0 w hc g0 g1 gG cs L) (j : Nat) (u : Value) : RK w0 (w.setCell ⟨gG, j, none⟩ u) hc g0 g1 gG (cs.setIfInBounds j u) L where
 bh := h.bh.far (p := ⟨gG, j, none⟩) (by have := h.d01; have := h.d1G; show g0 ≠ gG; omega) u
 br := h.br.far (p := ⟨gG, j, none⟩) (by have := h.d1G; show g1 ≠ gG; omega) u
 bg := h.bg.put j u
 rows := h.rows.only ((Only.refl [gG] w).put (p := ⟨gG, j, none⟩) (fun _ => by simp) u) h.notG
 o := h.o.step ((Only.refl [gG] w).put (p := ⟨gG, j, none⟩) (fun _ => by simp) u) (fun i hi hl => by
  have := h.d01; have := h.d1G; have := h.base
  simp at hi
  omega)
 d01 := h.d01
 d1G := h.d1G
 base := h.base
 ty := h.ty
theorem RK.grow {i : Nat} {r : OR} {v' : Value} {n' : Nat} {xs' : List Value} (h : RK w0 w hc g0 g1 gG cs L) (hi : L[i]? = some r) (hgrow : w.grownBy w' r.v.ownBlock) (hown : w'.ownsRow w0.heap.size r.e r.sz v' n' xs')
  (hat : v'.ownBlock = r.v.ownBlock ∨ v'.ownBlock = some w.heap.size) : RK w0 w' hc g0 g1 gG cs (L.set i ⟨r.e, r.sz, v', n', xs'⟩) :=
 h.upd (r' := ⟨r.e, r.sz, v', n', xs'⟩) hi (only_grown hgrow) hown rfl (hat.imp id fun e g hg => by rw [e] at hg; cases hg; exact Nat.le_refl _)
theorem RK.growLast {r : OR} {v' : Value} {n' : Nat} {xs' : List Value} (h : RK w0 w hc g0 g1 gG cs (L ++ [r])) (hgrow : w.grownBy w' r.v.ownBlock) (hown : w'.ownsRow w0.heap.size r.e r.sz v' n' xs')
  (hat : v'.ownBlock = r.v.ownBlock ∨ v'.ownBlock = some w.heap.size) : RK w0 w' hc g0 g1 gG cs (L ++ [⟨r.e, r.sz, v', n', xs'⟩]) := by
 have h1 := h.grow (i := L.length) (r := r) (by simp) hgrow hown hat
 have e : (L ++ [r]).set L.length ⟨r.e, r.sz, v', n', xs'⟩ = L ++ [⟨r.e, r.sz, v', n', xs'⟩] := by simp
 rwa [e] at h1
theorem RK.setFree {g : Nat} {t : TypeId} {cs' : Array Value} (h : RK w0 w hc g0 g1 gG cs L) (hb : Blk w g t cs') (ht : t ≠ 25) (hL : g ∉ ownB L) (hg : w0.heap.size ≤ g) (j : Nat) (u : Value) :
    RK w0 (w.setCell ⟨g, j, none⟩ u) hc g0 g1 gG cs L :=
  have O : Only [g] w (w.setCell ⟨g, j, none⟩ u) := (Only.refl [g] w).put (p := ⟨g, j, none⟩) (fun _ => by simp) u
  { bh := h.bh.far (p := ⟨g, j, none⟩) (h.bh.apart hb (Ne.symm ht)) u
    br := h.br.far (p := ⟨g, j, none⟩) (h.br.apart hb (Ne.symm ht)) u
    bg := h.bg.far (p := ⟨g, j, none⟩) (h.bg.apart hb (Ne.symm ht)) u
    rows := h.rows.only O (fun x hx hm => by simp at hm; subst hm; exact hL hx)
    o := h.o.step O (fun i hi hl => by simp at hi; omega)
    d01 := h.d01
    d1G := h.d1G
    base := h.base
    ty := h.ty }
theorem RK.last {r : OR} (h : RK w0 w hc g0 g1 gG cs (L ++ [r])) : w.ownsRow w0.heap.size r.e r.sz r.v r.n r.xs := h.rows.all L.length r (by simp)
/-- A block of type t is no row's own, if it is none of those whose elements are t's. -/
theorem RK.free_of {g : Nat} {t : TypeId} {cs' : Array Value} (h : RK w0 w hc g0 g1 gG cs L) (hb : Blk w g t cs') (hq : ∀ r ∈ L, r.e = t → r.v.ownBlock ≠ some g) : g ∉ ownB L := fun hg => by
 obtain ⟨i, r, hi, hr⟩ := ownB_mem.1 hg
 by_cases ht : r.e = t
 ·exact hq r (List.mem_of_getElem? hi) ht hr
 ·exact own_apart (h.rows.all i r hi) hb ht (by simp [hr])
theorem RK.out {base' : Nat} (h : RK w0 w hc g0 g1 gG cs L) : ∀ g ∈ ownB L, g < w.heap.size := fun g hg => (h.rows.ge g hg).2
end
theorem ORs.tail {w : World} {base : Nat} {r : OR} {L : List OR} (h : ORs w base (r :: L)) : ORs w base L :=
 ⟨fun i s hi => h.all (i + 1) s (by simpa using hi), fun i j s t hs ht hij => h.ap (i + 1) (j + 1) s t (by simpa using hs) (by simpa using ht) (by omega)⟩
theorem RK.rowsR {w0 w w' : World} {hc cs : Array Value} {g0 g1 gG : Nat} {L : List OR} (h : RK w0 w hc g0 g1 gG cs L) (O : Only [g1] w w') : ORs w' w0.heap.size L :=
 h.rows.only O (fun g hg hm => by
  simp at hm
  subst hm
  obtain ⟨i, r, hi, hr⟩ := ownB_mem.1 hg
  exact own_apart (h.rows.all i r hi) h.br (h.ty r (List.mem_of_getElem? hi)) (by simp [hr]))
def rI (V : Value) (zs : List Int) : OR := ⟨3, 1, V, zs.length, zs.map (Value.int .i64)⟩
/-- The numbers that the keys ahead of k have then. -/
def toL (l : List Tx) (k : Nat) : List Int := (List.range k).map fun i => (numK notLost l i : Int)
theorem toL_succ (l : List Tx) (k : Nat) : toL l (k + 1) = toL l k ++ [(numK notLost l k : Int)] := by unfold toL; rw [List.range_succ]; simp
theorem toL_get (l : List Tx) {k i : Nat} (h : i < k) : (toL l k)[i]? = some (numK notLost l i : Int) := by unfold toL; simp [h]
theorem used_take {p : Op4 → Bool} {l : List Tx} {q : Nat} {t : Tx} (h : l[q]? = some t) (i : Int) : usedK p (l.take (q + 1)) i = (usedK p (l.take q) i || txUse p i t) := by
 unfold usedK
 rw [List.take_add_one, h, List.any_append]
 simp
theorem use_take {p : Op4 → Bool} {ops : List Op4} {j : Nat} {o : Op4} (h : ops[j]? = some o) (i : Int) : (ops.take (j + 1)).any (opUse p i) = ((ops.take j).any (opUse p i) || opUse p i o) := by
 rw [List.take_add_one, h, List.any_append]
 simp
end Go.Proofs.YtjhomlnlmpdklaaGreatDoor
