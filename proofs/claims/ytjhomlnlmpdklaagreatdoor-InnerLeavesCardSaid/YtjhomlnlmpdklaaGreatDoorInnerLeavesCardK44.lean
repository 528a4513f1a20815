/- The document's inner: Leaves. The document's inner: there. The document's inner: Own. A region that draws its order: several operations may come up next; what comes behind some of them is shown once, in whatever order they came up. -/
import Derived.Test.YtjhomlnlmpdklaaGreatDoorInnerLeavesCardK30
import Derived.Test.YtjhomlnlmpdklaaGreatDoorInnerLeavesCardK36
import Derived.Test.YtjhomlnlmpdklaaGreatDoorInnerLeavesCardK43
import Derived.Test.YtjhomlnlmpdklaaGreatDoorInnerLeavesCardK9
import Derived.Test.YtjhomlnlmpdklaaGreatDoorInnerLeavesCardK3
set_option linter.unusedVariables false
set_option linter.unusedSimpArgs false
namespace Go.Proofs.YtjhomlnlmpdklaaGreatDoor
open Go.RowKit
open Go.Lib hiding intOf
attribute [local go_sem ↓] Go.wp_at_zero Go.wp_at_succ
set_option maxRecDepth 10000 in
set_option maxHeartbeats 4000000 in
theorem rleaves_any (A0 A1 A2 : Option Addr) (n0 n1 n2 c0 c1 c2 B : Nat) (h : Hst) (a key : Int) (w : World) (hg : HIn w B A0 A1 A2 n0 n1 n2 h) :
  Calls Tryz.prog 16 #[hval A0 A1 A2 n0 n1 n2 c0 c1 c2, .int .i64 a, .int .i64 key] w fun e w' => e = .returned (optT (leavesO h a key)) ∧ Only [] w w' := by
 have HM := Lib.hid (fun w' (O : Only [] w w') => refmay_any A0 A1 A2 n0 n1 n2 c0 c1 c2 B h w' (hg.same O))
 have HL := Lib.hid hg.at_.r2
 have HN2 := Lib.hid hg.n2
 have HNO := Lib.hid hg.sm.no
 unfold hval at HM ⊢
 clear hg
 have HO1 := Lib.hid (((Only.refl [] w).alloc (.cells #[.slice A0 n0 c0, .slice A1 n1 c1, .slice A2 n2 c2] 25)).alloc (.cells #[.int .i64 0, .int .i64 0] 30))
 have HB1 := Lib.hid ((Blk.made w 25 #[.slice A0 n0 c0, .slice A1 n1 c1, .slice A2 n2 c2]).alloc (.cells #[.int .i64 0, .int .i64 0] 30))
 have HR1 := Lib.hid (Blk.made (w.alloc (.cells #[.slice A0 n0 c0, .slice A1 n1 c1, .slice A2 n2 c2] 25)) 30 #[.int .i64 0, .int .i64 0])
 rw [World.size_alloc] at HR1
 have HF := Lib.hid (HM.out _ HO1.out)
 clear HM
 cases hm : mayH h with
 | false =>
  rw [mayH_errn2 hm] at HF
  rw [leaves_none (txAt_no hm)]
  clear hm
  go_enter Tryz.func16, Tryz.ntmps16
  go_wp2_with fail
  generalize ((w.alloc (.cells #[.slice A0 n0 c0, .slice A1 n1 c1, .slice A2 n2 c2] 25)).alloc (.cells #[.int .i64 0, .int .i64 0] 30)) = w1 at *
  generalize hgr : w.heap.size + 1 = gr at *
  generalize hgg : w.heap.size = g at *
  refine (HF.out).mono ?_
  rintro e w2 ⟨rfl, O2⟩
  have HO2 := Lib.hid (HO1.out.trans O2)
  have HR2 := Lib.hid (O2.blk HR1.out (by simp))
  have HB2 := Lib.hid (O2.blk HB1.out (by simp))
  have lB := HB2.out.lt
  have y2 := HB2.out.at_ 2
  simp at y2
  clear O2 HF
  go_wp2_with (refine wpList_store_blk rfl 30 (.tmp 6) (.tmp 22) rfl gr 30 _ #[.int .i64 0, .int .i64 0] rfl rfl HR2.out rfl (by kernel_rfl) (by kernel_rfl) ?_; intro w9 b9 o9; have HB9 := Lib.hid b9; have HN9 := Lib.hid o9; clear b9 o9)
  refine bodyPost_ret (results_row2 Tryz.results16 _ _ gr 30 #[.int .i64 0, .int .i64 0] _ rfl HB9.out Tryz.underlying30 rfl (by kernel_rfl)) rfl ?_
  exact ⟨rfl, HO2.out.step HN9.out (fun i hi hl => by simp at hi; omega)⟩
 | true =>
  rw [mayH_err2 hm] at HF
  by_cases h1 : a < 0
  ·rw [leaves_none (txAt_neg h1)]
   have d1 : decide (a < 0) = true := decide_eq_true h1
   clear hm h1
   go_enter Tryz.func16, Tryz.ntmps16
   go_wp2_with fail
   generalize ((w.alloc (.cells #[.slice A0 n0 c0, .slice A1 n1 c1, .slice A2 n2 c2] 25)).alloc (.cells #[.int .i64 0, .int .i64 0] 30)) = w1 at *
   generalize hgr : w.heap.size + 1 = gr at *
   generalize hgg : w.heap.size = g at *
   refine (HF.out).mono ?_
   rintro e w2 ⟨rfl, O2⟩
   have HO2 := Lib.hid (HO1.out.trans O2)
   have HR2 := Lib.hid (O2.blk HR1.out (by simp))
   have HB2 := Lib.hid (O2.blk HB1.out (by simp))
   have lB := HB2.out.lt
   have y2 := HB2.out.at_ 2
   simp at y2
   clear O2 HF
   go_wp2_with (refine wpList_store_blk rfl 30 (.tmp 6) (.tmp 22) rfl gr 30 _ #[.int .i64 0, .int .i64 0] rfl rfl HR2.out rfl (by kernel_rfl) (by kernel_rfl) ?_; intro w9 b9 o9; have HB9 := Lib.hid b9; have HN9 := Lib.hid o9; clear b9 o9)
   refine bodyPost_ret (results_row2 Tryz.results16 _ _ gr 30 #[.int .i64 0, .int .i64 0] _ rfl HB9.out Tryz.underlying30 rfl (by kernel_rfl)) rfl ?_
   exact ⟨rfl, HO2.out.step HN9.out (fun i hi hl => by simp at hi; omega)⟩
  ·have d1 : decide (a < 0) = false := decide_eq_false h1
   by_cases h2 : (n2 : Int) ≤ a
   ·rw [leaves_none (txAt_big (by rw [HN2.out]; exact h2))]
    have d2 : decide ((n2 : Int) ≤ a) = true := decide_eq_true h2
    clear hm h1 h2
    go_enter Tryz.func16, Tryz.ntmps16
    go_wp2_with fail
    generalize ((w.alloc (.cells #[.slice A0 n0 c0, .slice A1 n1 c1, .slice A2 n2 c2] 25)).alloc (.cells #[.int .i64 0, .int .i64 0] 30)) = w1 at *
    generalize hgr : w.heap.size + 1 = gr at *
    generalize hgg : w.heap.size = g at *
    refine (HF.out).mono ?_
    rintro e w2 ⟨rfl, O2⟩
    have HO2 := Lib.hid (HO1.out.trans O2)
    have HR2 := Lib.hid (O2.blk HR1.out (by simp))
    have HB2 := Lib.hid (O2.blk HB1.out (by simp))
    have lB := HB2.out.lt
    have y2 := HB2.out.at_ 2
    simp at y2
    clear O2 HF
    go_wp2_with (refine wpList_store_blk rfl 30 (.tmp 6) (.tmp 22) rfl gr 30 _ #[.int .i64 0, .int .i64 0] rfl rfl HR2.out rfl (by kernel_rfl) (by kernel_rfl) ?_; intro w9 b9 o9; have HB9 := Lib.hid b9; have HN9 := Lib.hid o9; clear b9 o9)
    refine bodyPost_ret (results_row2 Tryz.results16 _ _ gr 30 #[.int .i64 0, .int .i64 0] _ rfl HB9.out Tryz.underlying30 rfl (by kernel_rfl)) rfl ?_
    exact ⟨rfl, HO2.out.step HN9.out (fun i hi hl => by simp at hi; omega)⟩
   ·have d2 : decide ((n2 : Int) ≤ a) = false := decide_eq_false h2
    obtain ⟨i, rfl⟩ : ∃ i : Nat, a = i := ⟨a.toNat, by omega⟩
    obtain ⟨t, hx⟩ : ∃ t, h.l[i]? = some t := ⟨_, List.getElem?_eq_getElem (by rw [HN2.out]; omega)⟩
    rw [leaves_some (txAt_yes hm hx)]
    obtain ⟨bl, off, A', cp, rfl, -, hbw, hT, hOk⟩ := HL.out.at_ hx
    have hno := HNO.out t (List.mem_of_getElem? hx)
    have HT := Lib.hid (hT.only HO1.out hbw (by simp))
    have hi0 : (0 : Int) ≤ (i : Int) := by omega
    have hi2 : (i : Int) < (n2 : Int) := by omega
    have d3 : decide (n2 ≤ i) = false := decide_eq_false (by omega)
    have HROW := Lib.hid hOk.row
    obtain ⟨s, f, ops⟩ := t
    dsimp only at HROW hno HT ⊢
    have HRW := Lib.hid (fun w' (O : Only [] w w') => rraw_any s f A' ops.length cp B ops.length ops key w' (HROW.out.only O (by simp)) rfl hno hno)
    rw [List.take_of_length_le (Nat.le_refl _)] at HRW
    generalize leftW key ops = v at *
    generalize hmm : ops.length = m at *
    clear hm h1 h2 hx hT hOk HROW
    go_enter Tryz.func16, Tryz.ntmps16
    go_wp2_with fail
    generalize ((w.alloc (.cells #[.slice A0 n0 c0, .slice A1 n1 c1, .slice (some ⟨bl, off, none⟩) n2 c2] 25)).alloc (.cells #[.int .i64 0, .int .i64 0] 30)) = w1 at *
    have hbr : bl < w1.heap.size := by have := HO1.out.size; omega
    generalize hgr : w.heap.size + 1 = gr at *
    generalize hgg : w.heap.size = g at *
    refine (HF.out).mono ?_
    rintro e w2 ⟨rfl, O2⟩
    have HO2 := Lib.hid (HO1.out.trans O2)
    have HR2 := Lib.hid (O2.blk HR1.out (by simp))
    have HB2 := Lib.hid (O2.blk HB1.out (by simp))
    have lB := HB2.out.lt
    have y2 := HB2.out.at_ 2
    simp at y2
    have HT2 := Lib.hid (HT.out.only O2 hbr (by simp))
    have hbr2 : bl < w2.heap.size := by have := O2.size; omega
    clear O2 HF
    go_upto_region 3 with (fail)
    clear y2 lB
    obtain ⟨t0, t1, t2⟩ := HT2.out
    dsimp only at t0 t1 t2
    rw [hmm] at t2
    have HC0 := Lib.hid t0
    have HC1 := Lib.hid t1
    have HC2 := Lib.hid t2
    clear t0 t1 t2
    refine wp_region_noPanic ?_
    refine wp_region_timed (F := [⟨[], [], fun w' => Only [gr] w2 w'⟩]) (by kernel_rfl) (timed_holds ((Only.refl [gr] w2).drew) (timed_nil)) ?_
    refine timed_pure (i := 0) (v := ?_) rfl (by kernel_rfl) (by kernel_rfl) (by kernel_rfl) (fun _ _ _ h => h) (by kernel_rfl) (by kernel_rfl) ?_ ?_
    rotate_left
    ·(intro w; go_simp; try with_reducible rfl)
    try simp only [Act.put, tdy]
    refine timed_read (i := 1) (v := ?_) 0 rfl (by kernel_rfl) (by kernel_rfl) (by kernel_rfl) (fun _ _ _ h => h) (by kernel_rfl) (by kernel_rfl) rfl (by kernel_rfl) ?_ ?_
    rotate_left
    ·(intro wq hSw; (try dsimp only at hSw); have hb_H := hSw.blk HB2.out (by simp; omega); have lb_H := hb_H.lt; have y2 := hb_H.at_ 2; simp at y2; clear hb_H; have t0 := (hSw.cell (p := ⟨bl, off + i * 3, none⟩) hbr2 (by simp; omega)).trans HC0.out; have t1 := (hSw.cell (p := ⟨bl, off + i * 3 + 1, none⟩) hbr2 (by simp; omega)).trans HC1.out; have t2 := (hSw.cell (p := ⟨bl, off + i * 3 + 2, none⟩) hbr2 (by simp; omega)).trans HC2.out; clear hSw; go_simp; try with_reducible rfl)
    try simp only [Act.put, tdy]
    refine timed_pure (i := 2) (v := ?_) rfl (by kernel_rfl) (by kernel_rfl) (by kernel_rfl) (fun _ _ _ h => h) (by kernel_rfl) (by kernel_rfl) ?_ ?_
    rotate_left
    ·(intro w; go_simp; try with_reducible rfl)
    try simp only [Act.put, tdy]
    refine timed_pure (i := 3) (v := ?_) rfl (by kernel_rfl) (by kernel_rfl) (by kernel_rfl) (fun _ _ _ h => h) (by kernel_rfl) (by kernel_rfl) ?_ ?_
    rotate_left
    ·(intro w; go_simp; try with_reducible rfl)
    try simp only [Act.put, tdy]
    refine timed_read (i := 4) (v := ?_) 0 rfl (by kernel_rfl) (by kernel_rfl) (by kernel_rfl) (fun _ _ _ h => h) (by kernel_rfl) (by kernel_rfl) rfl (by kernel_rfl) ?_ ?_
    rotate_left
    ·(intro wq hSw; (try dsimp only at hSw); have hb_H := hSw.blk HB2.out (by simp; omega); have lb_H := hb_H.lt; have y2 := hb_H.at_ 2; simp at y2; clear hb_H; have t0 := (hSw.cell (p := ⟨bl, off + i * 3, none⟩) hbr2 (by simp; omega)).trans HC0.out; have t1 := (hSw.cell (p := ⟨bl, off + i * 3 + 1, none⟩) hbr2 (by simp; omega)).trans HC1.out; have t2 := (hSw.cell (p := ⟨bl, off + i * 3 + 2, none⟩) hbr2 (by simp; omega)).trans HC2.out; clear hSw; go_simp; try with_reducible rfl)
    try simp only [Act.put, tdy]
    refine timed_pure (i := 5) (v := ?_) rfl (by kernel_rfl) (by kernel_rfl) (by kernel_rfl) (fun _ _ _ h => h) (by kernel_rfl) (by kernel_rfl) ?_ ?_
    rotate_left
    ·(intro w; go_simp; try with_reducible rfl)
    try simp only [Act.put, tdy]
    refine timed_read (i := 6) (v := ?_) 0 rfl (by kernel_rfl) (by kernel_rfl) (by kernel_rfl) (fun _ _ _ h => h) (by kernel_rfl) (by kernel_rfl) rfl (by kernel_rfl) ?_ ?_
    rotate_left
    ·(intro wq hSw; (try dsimp only at hSw); have hb_H := hSw.blk HB2.out (by simp; omega); have lb_H := hb_H.lt; have y2 := hb_H.at_ 2; simp at y2; clear hb_H; have t0 := (hSw.cell (p := ⟨bl, off + i * 3, none⟩) hbr2 (by simp; omega)).trans HC0.out; have t1 := (hSw.cell (p := ⟨bl, off + i * 3 + 1, none⟩) hbr2 (by simp; omega)).trans HC1.out; have t2 := (hSw.cell (p := ⟨bl, off + i * 3 + 2, none⟩) hbr2 (by simp; omega)).trans HC2.out; clear hSw; go_simp; try with_reducible rfl)
    try simp only [Act.put, tdy]
    refine timed_pure (i := 7) (v := ?_) rfl (by kernel_rfl) (by kernel_rfl) (by kernel_rfl) (fun _ _ _ h => h) (by kernel_rfl) (by kernel_rfl) ?_ ?_
    rotate_left
    ·(intro w; go_simp; try with_reducible rfl)
    try simp only [Act.put, tdy]
    refine timed_pure (i := 8) (v := ?_) rfl (by kernel_rfl) (by kernel_rfl) (by kernel_rfl) (fun _ _ _ h => h) (by kernel_rfl) (by kernel_rfl) ?_ ?_
    rotate_left
    ·(intro w; go_simp; try with_reducible rfl)
    try simp only [Act.put, tdy]
    refine timed_pure (i := 9) (v := ?_) rfl (by kernel_rfl) (by kernel_rfl) (by kernel_rfl) (fun _ _ _ h => h) (by kernel_rfl) (by kernel_rfl) ?_ ?_
    rotate_left
    ·(intro w; go_simp; try with_reducible rfl)
    try simp only [Act.put, tdy]
    refine timed_read (i := 10) (v := ?_) 0 rfl (by kernel_rfl) (by kernel_rfl) (by kernel_rfl) (fun _ _ _ h => h) (by kernel_rfl) (by kernel_rfl) rfl (by kernel_rfl) ?_ ?_
    rotate_left
    ·(intro wq hSw; (try dsimp only at hSw); have hb_H := hSw.blk HB2.out (by simp; omega); have lb_H := hb_H.lt; have y2 := hb_H.at_ 2; simp at y2; clear hb_H; have t0 := (hSw.cell (p := ⟨bl, off + i * 3, none⟩) hbr2 (by simp; omega)).trans HC0.out; have t1 := (hSw.cell (p := ⟨bl, off + i * 3 + 1, none⟩) hbr2 (by simp; omega)).trans HC1.out; have t2 := (hSw.cell (p := ⟨bl, off + i * 3 + 2, none⟩) hbr2 (by simp; omega)).trans HC2.out; clear hSw; go_simp; try with_reducible rfl)
    try simp only [Act.put, tdy]
    refine timed_pure (i := 11) (v := ?_) rfl (by kernel_rfl) (by kernel_rfl) (by kernel_rfl) (fun _ _ _ h => h) (by kernel_rfl) (by kernel_rfl) ?_ ?_
    rotate_left
    ·(intro w; go_simp; try with_reducible rfl)
    try simp only [Act.put, tdy]
    refine timed_pure (i := 12) (v := ?_) rfl (by kernel_rfl) (by kernel_rfl) (by kernel_rfl) (fun _ _ _ h => h) (by kernel_rfl) (by kernel_rfl) ?_ ?_
    rotate_left
    ·(intro w; go_simp; try with_reducible rfl)
    try simp only [Act.put, tdy]
    refine timed_step (i := 13) (by kernel_rfl) rfl (fun K hK => ?_)
    go_simp
    refine (HRW.out _ (HO2.out.trans (Only.refl [] w2).drew)).mono ?_
    rintro e w3 ⟨rfl, O3⟩
    unfold optT optV
    have HR3 := Lib.hid (O3.blk (HR2.out.drew) (by simp))
    have O3 := O3.wide (T := [gr]) (fun i hi => by cases hi)
    refine hK.out _ _ (timed_holds (((Only.refl [gr] w2).drew).trans O3) (timed_nil)) ?_
    clear hK K
    try simp only [Act.put, tdy]
    refine timed_pure (i := 14) (v := ?_) rfl (by kernel_rfl) (by kernel_rfl) (by kernel_rfl) (fun _ _ _ h => h) (by kernel_rfl) (by kernel_rfl) ?_ ?_
    rotate_left
    ·(intro w; go_simp; try with_reducible rfl)
    try simp only [Act.put, tdy]
    refine timed_pure (i := 15) (v := ?_) rfl (by kernel_rfl) (by kernel_rfl) (by kernel_rfl) (fun _ _ _ h => h) (by kernel_rfl) (by kernel_rfl) ?_ ?_
    rotate_left
    ·(intro w; go_simp; try with_reducible rfl)
    try simp only [Act.put, tdy]
    refine timed_step (i := 16) (by kernel_rfl) rfl (fun K hK => ?_)
    refine wp_store_blk 30 (.tmp 6) (.tmp 37) rfl gr 30 _ #[.int .i64 (v.getD (0, 0)).1, .int .i64 (v.getD (0, 0)).2] rfl rfl HR3.out rfl (by kernel_rfl) (by kernel_rfl) ?_
    intro w9 b9 o9
    have HB9 := Lib.hid b9
    refine hK.out _ _ (timed_holds ((((Only.refl [gr] w2).drew).trans O3).trans o9) (timed_nil)) ?_
    clear hK K
    try simp only [Act.put, tdy]
    refine timed_pure (i := 17) (v := ?_) rfl (by kernel_rfl) (by kernel_rfl) (by kernel_rfl) (fun _ _ _ h => h) (by kernel_rfl) (by kernel_rfl) ?_ ?_
    rotate_left
    ·(intro w; go_simp; try with_reducible rfl)
    try simp only [Act.put, tdy]
    refine timed_done (by kernel_rfl) ?_ _
    refine NoPanic.normal ?_
    have HNW := Lib.hid ( ((((Only.refl [gr] w2).drew).trans O3).trans o9))
    go_wp2
    refine bodyPost_ret (results_row2 Tryz.results16 _ _ gr 30 #[.int .i64 (v.getD (0, 0)).1, .int .i64 (v.getD (0, 0)).2] _ rfl HB9.out Tryz.underlying30 rfl (by kernel_rfl)) rfl ?_
    exact ⟨rfl, HO2.out.step HNW.out (fun i hi hl => by simp at hi; omega)⟩
end Go.Proofs.YtjhomlnlmpdklaaGreatDoor

set_option linter.unusedVariables false
set_option linter.unusedSimpArgs false
namespace Go.Proofs.YtjhomlnlmpdklaaGreatDoor
open Go.RowKit
open Go.Lib hiding intOf
attribute [local go_sem ↓] Go.wp_at_zero Go.wp_at_succ
end Go.Proofs.YtjhomlnlmpdklaaGreatDoor

set_option linter.unusedVariables false
set_option linter.unusedSimpArgs false
namespace Go.Proofs.YtjhomlnlmpdklaaGreatDoor
open Go.RowKit
open Go.Lib hiding intOf
attribute [local go_sem ↓] Go.wp_at_zero Go.wp_at_succ
end Go.Proofs.YtjhomlnlmpdklaaGreatDoor

set_option linter.unusedVariables false
set_option linter.unusedSimpArgs false
namespace Go.Proofs.YtjhomlnlmpdklaaGreatDoor
open Go.RowKit
section
variable {P : Program} {ops : Array Oper} {Q : Exit → Act → World → Prop} {md : Region.Mode} {S : Array Bool → World → Prop}
theorem timed_forks {l : List Nat} {fuel : Nat} {listed : Array Bool} {a : Act} {w : World} (hr : Region.ready md ops listed = l) (hl : l ≠ [])
  (h : ∀ k ∈ l, ∃ ok, ops[k]? = some ok ∧ ∀ K' : Act → World → Prop, Shut (∀ a w, S (listed.setIfInBounds k true) w → (S (listed.setIfInBounds k true) w → wpAnyT P md ops Q S fuel (listed.setIfInBounds k true) a w) → K' a w) →
   if Region.wanted ok (yielded ops a.tmps) = true then Oper.wp P ok a w K' Q else K' (a.put ok.dst undef) w) : S listed w → wpAnyT P md ops Q S (fuel + 1) listed a w := by
 intro _
 refine ⟨fun h0 => (by rw [hr] at h0; exact absurd h0 hl), fun k hk => ?_⟩
 rw [hr] at hk
 obtain ⟨ok, ho, hs⟩ := h k hk
 exact wpOp_step ho (fun K' hK => hs K' (fun a w hS hW => hK a w ⟨hS, hW hS⟩))
end
section
variable {G : Prop}
theorem cut_0_0 (F : World → Prop) {L : World → Prop} (h1 : (∀ (w : World), F w  → L w ) → G) (h2 : ∀ (w : World), F w  → L w ) : G := h1 h2
theorem cut_1_0 (F : World → Nat → Prop) {L : World → Nat → Prop} (h1 : (∀ (w : World) (g0 : Nat), F w g0  → L w g0 ) → G) (h2 : ∀ (w : World) (g0 : Nat), F w g0  → L w g0 ) : G := h1 h2
end
theorem fork_cons {p : Nat → Prop} {k : Nat} {l : List Nat} (h : p k) (r : ∀ j ∈ l, p j) : ∀ j ∈ k :: l, p j := List.forall_mem_cons.2 ⟨h, r⟩
theorem fork_nil {p : Nat → Prop} : ∀ j ∈ ([] : List Nat), p j := fun _ h => by cases h
end Go.Proofs.YtjhomlnlmpdklaaGreatDoor
