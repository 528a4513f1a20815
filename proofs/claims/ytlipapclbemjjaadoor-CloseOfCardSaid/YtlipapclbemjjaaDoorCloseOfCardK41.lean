/- close.Thin: what its sets say; its question. -/
import Derived.Test.YtlipapclbemjjaaDoorCloseOfCardK36
import Derived.Test.YtlipapclbemjjaaDoorCloseOfCardK39
import Derived.Test.YtlipapclbemjjaaDoorCloseOfCardK40
set_option linter.unusedVariables false
set_option linter.unusedSimpArgs false
namespace Go.Proofs.YtlipapclbemjjaaDoor
open Go.RowKit
attribute [local go_sem ↓] Go.wp_at_zero Go.wp_at_succ
def thinR (n : Int) (l : List (Int × Int)) : List (Int × Int) × Int := if mayL n l = true then (thinL n.toNat l, 0) else ([], 2)
theorem closed_rev {n : Nat} {l : List (Int × Int)} (wf : WfE n l) (i m : Nat) : closed (fun i m => edB l m i) n i m = wayB n l m i := by
 rw [Bool.eq_iff_iff, closed_iff (fun a b e => (wf_lt wf ((ed_iff l b a).1 e)).1)]
 unfold wayB
 rw [closed_iff (fun a b e => (wf_lt wf ((ed_iff l a b).1 e)).2)]
 exact ⟨fun h => h.rev, fun h => h.rev⟩
theorem stage_rev {n : Nat} {l : List (Int × Int)} {R : List (List Nat)} (wf : WfE n l) (h : Stage n (fun i m => edB l m i) n 0 R) {i : Nat} {ws : List Nat} (hi : R[i]? = some ws) : Fits ws ∧ ∀ m, m < 512 → bitW ws m = wayB n l m i := by
 obtain ⟨h1, h2⟩ := h.at_ i ws hi
 exact ⟨h1, fun m hm => by rw [h2 m hm, if_neg (by omega)]; exact closed_rev wf i m⟩
theorem stage_ed {n : Nat} {l : List (Int × Int)} {R : List (List Nat)} (h : Stage n (edB l) 0 0 R) {i : Nat} {ws : List Nat} (hi : R[i]? = some ws) : Fits ws ∧ ∀ m, m < 512 → bitW ws m = edB l i m := by
 obtain ⟨h1, h2⟩ := h.at_ i ws hi
 exact ⟨h1, fun m hm => by rw [h2 m hm, if_neg (by omega)]; rfl⟩
theorem meet_other {n : Nat} {l : List (Int × Int)} {ws vs : List Nat} {a b : Nat} (hn : n ≤ 500) (wf : WfE n l) (hw : Fits ws) (h1 : ∀ m, m < 512 → bitW ws m = edB l a m) (h2 : ∀ m, m < 512 → bitW vs m = wayB n l m b) : meetTo ws vs 8 = otherB n l a b := by
 rw [Bool.eq_iff_iff, meet_fits hw]
 unfold otherB
 rw [List.any_eq_true]
 constructor
 ·rintro ⟨m, hm, k1, k2⟩
  rw [h1 m hm] at k1
  rw [h2 m hm] at k2
  exact ⟨m, List.mem_range.2 (wf_lt wf ((ed_iff l a m).1 k1)).2, by rw [k1, k2]; rfl⟩
 ·rintro ⟨c, hc, k⟩
  have hc := List.mem_range.1 hc
  rw [Bool.and_eq_true] at k
  exact ⟨c, by omega, by rw [h1 c (by omega)]; exact k.1, by rw [h2 c (by omega)]; exact k.2⟩
theorem backL_len' (n : Nat) (h : List (Int × Int)) (k : Int) : (backL n h k).length ≤ n := by
 unfold backL
 rw [List.length_map]
 exact Nat.le_trans (List.length_filter_le _ _) (by simp)
theorem reach_back (n p : Nat) (l : List (Int × Int)) (fp : List Nat) (w : World) (hn : n ≤ 500) (hg : l.all (goodE n) = true) (hG : Gr w p n (ofS n l).1 (ofS n l).2.1 (ofS n l).2.2 fp) (hT : Tab w) (h00 : 0 < w.heap.size) :
  Calls Tryd.prog 19 #[.int .i64 (n : Int), .func (.func 26) #[.pointer (some ⟨p, 0, none⟩)] #[]] w fun e w' => ∃ b ps R, (e = .returned (.slice (some ⟨b, 0, none⟩) n n) ∧ SetsAt w' w.heap.size b n ps R ∧ Stage n (fun i m => edB l m i) n 0 R) ∧ Only [] w w' := by
 obtain ⟨r, hrl⟩ := rel_of hn l
 have hs : ∀ e, e ∈ (ofS n l).2.2 ↔ e ∈ l := fun e => by rw [hrl]; exact mem_rof hg e
 have wf := wf_good hg
 refine creach_any n p _ (.inr rfl) (fun i => backL n (ofS n l).2.2 (i : Int)) (fun i m => edB l m i) w hn (fun i hi z hz => by have := backL_range z hz; omega) (fun i hi => by have := backL_len' n (ofS n l).2.2 (i : Int); omega) (fun i m hi hm => back_ed wf hs i m) (fun i w' hi O => ?_)
 rw [← rel_back r hn i hi]
 exact gback_some p n _ _ _ fp i w' (hG.only O (by simp)) hi (hT.only h00 O (by simp)) (Nat.lt_of_lt_of_le h00 O.size)
set_option maxRecDepth 10000 in
set_option maxHeartbeats 4000000 in
theorem ask_any (n a b : Nat) (l : List (Int × Int)) (b8 b11 B1 b1 B2 b2 : Nat) (ps1 ps2 : List Nat) (R1 R2 : List (List Nat)) (w : World) (hn : n ≤ 500) (wf : WfE n l) (ha : a < n) (hb : b < n)
  (h11 : w.cell? ⟨b11, 0, none⟩ = some (.slice (some ⟨b1, 0, none⟩) n n)) (h8 : w.cell? ⟨b8, 0, none⟩ = some (.slice (some ⟨b2, 0, none⟩) n n))
  (S1 : SetsAt w B1 b1 n ps1 R1) (T1 : Stage n (edB l) 0 0 R1) (S2 : SetsAt w B2 b2 n ps2 R2) (T2 : Stage n (fun i m => edB l m i) n 0 R2) :
  Calls Tryd.prog 29 #[.agg #[.int .i64 (a : Int), .int .i64 (b : Int)], .pointer (some ⟨b11, 0, none⟩), .pointer (some ⟨b8, 0, none⟩)] w fun r w' => r = .returned (.bool (otherB n l a b)) ∧ Only [] w w' := by
 obtain ⟨ws, hws⟩ : ∃ ws, R1[a]? = some ws := ⟨_, List.getElem?_eq_getElem (by rw [T1.len]; exact ha)⟩
 obtain ⟨p, hp⟩ : ∃ p, ps1[a]? = some p := ⟨_, List.getElem?_eq_getElem (by rw [S1.len, T1.len]; exact ha)⟩
 obtain ⟨vs, hvs⟩ : ∃ vs, R2[b]? = some vs := ⟨_, List.getElem?_eq_getElem (by rw [T2.len]; exact hb)⟩
 obtain ⟨q, hq⟩ : ∃ q, ps2[b]? = some q := ⟨_, List.getElem?_eq_getElem (by rw [S2.len, T2.len]; exact hb)⟩
 obtain ⟨f1, m1⟩ := stage_ed T1 hws
 obtain ⟨f2, m2⟩ := stage_rev wf T2 hvs
 have HM := Lib.hid (fun (W : World) (O : Only [] w W) => by
  have := meets_any p q ws vs W ((S1.same O).set a p ws hp hws) ((S2.same O).set b q vs hq hvs)
  rw [meet_other hn wf f1 m1 m2] at this
  exact this)
 have z1 := (S1.blk.at_ a).trans (setC_at ha hp)
 have z2 := (S2.blk.at_ b).trans (setC_at hb hq)
 have l1 := S1.blk.lt
 have l2 := S2.blk.lt
 have l3 := World.block_lt_of_cell? w _ h11
 have l4 := World.block_lt_of_cell? w _ h8
 have Z := Lib.hid (And.intro h11 (And.intro h8 (And.intro z1 z2)))
 have ha0 : (0 : Int) ≤ (a : Int) := Int.natCast_nonneg _
 have hb0 : (0 : Int) ≤ (b : Int) := Int.natCast_nonneg _
 have han : (a : Int) < (n : Int) := by omega
 have hbn : (b : Int) < (n : Int) := by omega
 clear h11 h8 S1 S2 T1 T2 hws hp hvs hq f1 m1 f2 m2 wf z1 z2
 go_enter Tryd.func29, Tryd.ntmps29
 go_upto_region 1 with (fail)
 have HO1 := Lib.hid ((Only.refl [] w).alloc (.cells #[.int .i64 (a : Int), .int .i64 (b : Int)] 47))
 have HB := Lib.hid (Blk.made w 47 #[.int .i64 (a : Int), .int .i64 (b : Int)])
 generalize (w.alloc (.cells #[.int .i64 (a : Int), .int .i64 (b : Int)] 47)) = w1 at *
 obtain ⟨gx, hgx⟩ : ∃ gx, gx = w.heap.size := ⟨_, rfl⟩
 rw [← hgx] at HB ⊢
 clear hgx
 refine wp_region_noPanic ?_
 refine wp_region_timed (F := [⟨[], [], fun w' => Only [] w1 w'⟩]) (by kernel_rfl) (timed_holds ((Only.refl [] w1).drew) (timed_nil)) ?_
 refine timed_read (i := 0) (v := ?_) 0 rfl (by kernel_rfl) (by kernel_rfl) (by kernel_rfl) (fun _ _ _ h => h) (by kernel_rfl) (by kernel_rfl) rfl (by kernel_rfl) ?_ ?_
 rotate_left
 ·(intro wq hSw; (try dsimp only at hSw); have OQ := HO1.out.trans hSw; have c11 := (OQ.cell (p := ⟨b11, 0, none⟩) l3 (by simp)).trans Z.out.1; have c8 := (OQ.cell (p := ⟨b8, 0, none⟩) l4 (by simp)).trans Z.out.2.1; have ca := (OQ.cell (p := ⟨b1, a, none⟩) l1 (by simp)).trans Z.out.2.2.1; have cb := (OQ.cell (p := ⟨b2, b, none⟩) l2 (by simp)).trans Z.out.2.2.2; have q1 := Nat.lt_of_lt_of_le l1 OQ.size; have q2 := Nat.lt_of_lt_of_le l2 OQ.size; have q3 := Nat.lt_of_lt_of_le l3 OQ.size; have q4 := Nat.lt_of_lt_of_le l4 OQ.size; have hbx := hSw.blk HB.out (by simp); have x0 := hbx.at_ 0; have x1 := hbx.at_ 1; have xl := hbx.lt; simp at x0 x1; (try dsimp only at c11 c8 ca cb); clear hbx OQ; clear hSw; go_simp; try with_reducible rfl)
 try simp only [Act.put, tdy]
 refine timed_pure (i := 1) (v := ?_) rfl (by kernel_rfl) (by kernel_rfl) (by kernel_rfl) (fun _ _ _ h => h) (by kernel_rfl) (by kernel_rfl) ?_ ?_
 rotate_left
 ·(intro w; go_simp; try with_reducible rfl)
 try simp only [Act.put, tdy]
 refine timed_read (i := 2) (v := ?_) 0 rfl (by kernel_rfl) (by kernel_rfl) (by kernel_rfl) (fun _ _ _ h => h) (by kernel_rfl) (by kernel_rfl) rfl (by kernel_rfl) ?_ ?_
 rotate_left
 ·(intro wq hSw; (try dsimp only at hSw); have OQ := HO1.out.trans hSw; have c11 := (OQ.cell (p := ⟨b11, 0, none⟩) l3 (by simp)).trans Z.out.1; have c8 := (OQ.cell (p := ⟨b8, 0, none⟩) l4 (by simp)).trans Z.out.2.1; have ca := (OQ.cell (p := ⟨b1, a, none⟩) l1 (by simp)).trans Z.out.2.2.1; have cb := (OQ.cell (p := ⟨b2, b, none⟩) l2 (by simp)).trans Z.out.2.2.2; have q1 := Nat.lt_of_lt_of_le l1 OQ.size; have q2 := Nat.lt_of_lt_of_le l2 OQ.size; have q3 := Nat.lt_of_lt_of_le l3 OQ.size; have q4 := Nat.lt_of_lt_of_le l4 OQ.size; have hbx := hSw.blk HB.out (by simp); have x0 := hbx.at_ 0; have x1 := hbx.at_ 1; have xl := hbx.lt; simp at x0 x1; (try dsimp only at c11 c8 ca cb); clear hbx OQ; clear hSw; go_simp; try with_reducible rfl)
 try simp only [Act.put, tdy]
 refine timed_pure (i := 3) (v := ?_) rfl (by kernel_rfl) (by kernel_rfl) (by kernel_rfl) (fun _ _ _ h => h) (by kernel_rfl) (by kernel_rfl) ?_ ?_
 rotate_left
 ·(intro w; go_simp; try with_reducible rfl)
 try simp only [Act.put, tdy]
 refine timed_read (i := 4) (v := ?_) 0 rfl (by kernel_rfl) (by kernel_rfl) (by kernel_rfl) (fun _ _ _ h => h) (by kernel_rfl) (by kernel_rfl) rfl (by kernel_rfl) ?_ ?_
 rotate_left
 ·(intro wq hSw; (try dsimp only at hSw); have OQ := HO1.out.trans hSw; have c11 := (OQ.cell (p := ⟨b11, 0, none⟩) l3 (by simp)).trans Z.out.1; have c8 := (OQ.cell (p := ⟨b8, 0, none⟩) l4 (by simp)).trans Z.out.2.1; have ca := (OQ.cell (p := ⟨b1, a, none⟩) l1 (by simp)).trans Z.out.2.2.1; have cb := (OQ.cell (p := ⟨b2, b, none⟩) l2 (by simp)).trans Z.out.2.2.2; have q1 := Nat.lt_of_lt_of_le l1 OQ.size; have q2 := Nat.lt_of_lt_of_le l2 OQ.size; have q3 := Nat.lt_of_lt_of_le l3 OQ.size; have q4 := Nat.lt_of_lt_of_le l4 OQ.size; have hbx := hSw.blk HB.out (by simp); have x0 := hbx.at_ 0; have x1 := hbx.at_ 1; have xl := hbx.lt; simp at x0 x1; (try dsimp only at c11 c8 ca cb); clear hbx OQ; clear hSw; go_simp; try with_reducible rfl)
 try simp only [Act.put, tdy]
 refine timed_read (i := 5) (v := ?_) 0 rfl (by kernel_rfl) (by kernel_rfl) (by kernel_rfl) (fun _ _ _ h => h) (by kernel_rfl) (by kernel_rfl) rfl (by kernel_rfl) ?_ ?_
 rotate_left
 ·(intro wq hSw; (try dsimp only at hSw); have OQ := HO1.out.trans hSw; have c11 := (OQ.cell (p := ⟨b11, 0, none⟩) l3 (by simp)).trans Z.out.1; have c8 := (OQ.cell (p := ⟨b8, 0, none⟩) l4 (by simp)).trans Z.out.2.1; have ca := (OQ.cell (p := ⟨b1, a, none⟩) l1 (by simp)).trans Z.out.2.2.1; have cb := (OQ.cell (p := ⟨b2, b, none⟩) l2 (by simp)).trans Z.out.2.2.2; have q1 := Nat.lt_of_lt_of_le l1 OQ.size; have q2 := Nat.lt_of_lt_of_le l2 OQ.size; have q3 := Nat.lt_of_lt_of_le l3 OQ.size; have q4 := Nat.lt_of_lt_of_le l4 OQ.size; have hbx := hSw.blk HB.out (by simp); have x0 := hbx.at_ 0; have x1 := hbx.at_ 1; have xl := hbx.lt; simp at x0 x1; (try dsimp only at c11 c8 ca cb); clear hbx OQ; clear hSw; go_simp; try with_reducible rfl)
 try simp only [Act.put, tdy]
 refine timed_pure (i := 6) (v := ?_) rfl (by kernel_rfl) (by kernel_rfl) (by kernel_rfl) (fun _ _ _ h => h) (by kernel_rfl) (by kernel_rfl) ?_ ?_
 rotate_left
 ·(intro w; go_simp; try with_reducible rfl)
 try simp only [Act.put, tdy]
 refine timed_read (i := 7) (v := ?_) 0 rfl (by kernel_rfl) (by kernel_rfl) (by kernel_rfl) (fun _ _ _ h => h) (by kernel_rfl) (by kernel_rfl) rfl (by kernel_rfl) ?_ ?_
 rotate_left
 ·(intro wq hSw; (try dsimp only at hSw); have OQ := HO1.out.trans hSw; have c11 := (OQ.cell (p := ⟨b11, 0, none⟩) l3 (by simp)).trans Z.out.1; have c8 := (OQ.cell (p := ⟨b8, 0, none⟩) l4 (by simp)).trans Z.out.2.1; have ca := (OQ.cell (p := ⟨b1, a, none⟩) l1 (by simp)).trans Z.out.2.2.1; have cb := (OQ.cell (p := ⟨b2, b, none⟩) l2 (by simp)).trans Z.out.2.2.2; have q1 := Nat.lt_of_lt_of_le l1 OQ.size; have q2 := Nat.lt_of_lt_of_le l2 OQ.size; have q3 := Nat.lt_of_lt_of_le l3 OQ.size; have q4 := Nat.lt_of_lt_of_le l4 OQ.size; have hbx := hSw.blk HB.out (by simp); have x0 := hbx.at_ 0; have x1 := hbx.at_ 1; have xl := hbx.lt; simp at x0 x1; (try dsimp only at c11 c8 ca cb); clear hbx OQ; clear hSw; go_simp; try with_reducible rfl)
 try simp only [Act.put, tdy]
 refine timed_pure (i := 8) (v := ?_) rfl (by kernel_rfl) (by kernel_rfl) (by kernel_rfl) (fun _ _ _ h => h) (by kernel_rfl) (by kernel_rfl) ?_ ?_
 rotate_left
 ·(intro w; go_simp; try with_reducible rfl)
 try simp only [Act.put, tdy]
 refine timed_read (i := 9) (v := ?_) 0 rfl (by kernel_rfl) (by kernel_rfl) (by kernel_rfl) (fun _ _ _ h => h) (by kernel_rfl) (by kernel_rfl) rfl (by kernel_rfl) ?_ ?_
 rotate_left
 ·(intro wq hSw; (try dsimp only at hSw); have OQ := HO1.out.trans hSw; have c11 := (OQ.cell (p := ⟨b11, 0, none⟩) l3 (by simp)).trans Z.out.1; have c8 := (OQ.cell (p := ⟨b8, 0, none⟩) l4 (by simp)).trans Z.out.2.1; have ca := (OQ.cell (p := ⟨b1, a, none⟩) l1 (by simp)).trans Z.out.2.2.1; have cb := (OQ.cell (p := ⟨b2, b, none⟩) l2 (by simp)).trans Z.out.2.2.2; have q1 := Nat.lt_of_lt_of_le l1 OQ.size; have q2 := Nat.lt_of_lt_of_le l2 OQ.size; have q3 := Nat.lt_of_lt_of_le l3 OQ.size; have q4 := Nat.lt_of_lt_of_le l4 OQ.size; have hbx := hSw.blk HB.out (by simp); have x0 := hbx.at_ 0; have x1 := hbx.at_ 1; have xl := hbx.lt; simp at x0 x1; (try dsimp only at c11 c8 ca cb); clear hbx OQ; clear hSw; go_simp; try with_reducible rfl)
 try simp only [Act.put, tdy]
 refine timed_step (i := 10) (by kernel_rfl) rfl (fun K hK => ?_)
 go_simp
 refine (HM.out _ (HO1.out.trans (Only.refl [] w1).drew)).mono ?_
 rintro e wM ⟨rfl, rfl⟩
 refine hK.out _ _ (timed_holds ((Only.refl [] w1).drew) (timed_nil)) ?_
 clear hK K
 try simp only [Act.put, tdy]
 refine timed_pure (i := 11) (v := ?_) rfl (by kernel_rfl) (by kernel_rfl) (by kernel_rfl) (fun _ _ _ h => h) (by kernel_rfl) (by kernel_rfl) ?_ ?_
 rotate_left
 ·(intro w; go_simp; try with_reducible rfl)
 try simp only [Act.put, tdy]
 refine timed_done (by kernel_rfl) ?_ _
 refine NoPanic.normal ?_
 have HNX := Lib.hid ( ((Only.refl [] w1).drew))
 go_wp2
 go_ret
 exact ⟨rfl, HO1.out.trans HNX.out⟩
end Go.Proofs.YtlipapclbemjjaaDoor
