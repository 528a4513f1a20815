/- writer.Values, writer.Fresh, writer.Most. writer.Most. A history that is not too great: the law's Few, and that it is one of its own. -/
import Derived.Test.YtjfbeeogiejopaaGreatDoorLaw15AllK30
import Derived.Test.YtjfbeeogiejopaaGreatDoorLaw15AllK35
import Derived.Test.YtjfbeeogiejopaaGreatDoorLaw15AllK36
import Derived.Test.YtjfbeeogiejopaaGreatDoorLaw15AllK11
set_option linter.unusedVariables false
set_option linter.unusedSimpArgs false
namespace Go.Proofs.YtjfbeeogiejopaaGreatDoor
open Go.RowKit
open Go.Lib hiding intOf
attribute [local go_sem ↓] Go.wp_at_zero Go.wp_at_succ
theorem read_inv {h : Hst} {a b : Int} {t : Tx} {o : Op4} (hr : readO h a b = some (t, o)) : mayH h = true ∧ ∃ i j : Nat, a = (i : Int) ∧ b = (j : Int) ∧ h.l[i]? = some t ∧ t.ops[j]? = some o ∧ o.wr = false := by
 unfold readO at hr
 cases ho : opAtH h a b with
 | none => rw [ho] at hr; cases hr
 | some x =>
  rw [ho] at hr
  simp only [Option.bind_some] at hr
  split at hr
  ·cases hr
  ·rename_i hw
   simp at hr
   subst hr
   unfold opAtH txAtH at ho
   split at ho
   ·rename_i hc
    cases hx : h.l[a.toNat]? with
    | none => rw [hx] at ho; cases ho
    | some t' =>
     rw [hx] at ho
     simp only [Option.bind_some] at ho
     split at ho
     ·rename_i hb
      cases hy : t'.ops[b.toNat]? with
      | none => rw [hy] at ho; cases ho
      | some o' =>
       rw [hy] at ho
       simp at ho
       obtain ⟨rfl, rfl⟩ := ho
       exact ⟨hc.1, a.toNat, b.toNat, by omega, by omega, hx, hy, by simpa using hw⟩
     ·cases ho
   ·cases ho
set_option maxRecDepth 10000 in
set_option maxHeartbeats 4000000 in
theorem wvalues_any (A0 A1 A2 : Option Addr) (n0 n1 n2 c0 c1 c2 B : Nat) (h : Hst) (a b : Int) (w : World) (hg : HIn w B A0 A1 A2 n0 n1 n2 h) (hI : HInt h) :
  Calls Tryz.prog 14 #[hval A0 A1 A2 n0 n1 n2 c0 c1 c2, .agg #[.int .i64 a, .int .i64 b]] w fun e w' => ∃ A' m c', (e = .returned (.slice A' m c') ∧ (valsH h a b).length = m ∧ Row w' w'.heap.size A' (edgeC (valsH h a b))) ∧ Only [] w w' := by
 have HRD := Lib.hid (fun w' (O : Only [] w w') => wreadAt_any A0 A1 A2 n0 n1 n2 c0 c1 c2 B h a b w' (hg.same O))
 have HKV := Lib.hid (fun (t : Tx) (o : Op4) w' (hr : readO h a b = some (t, o)) (O : Only [] w w') => (show Calls Tryz.prog 43 #[hval A0 A1 A2 n0 n1 n2 c0 c1 c2, .agg #[.int .i64 a, .int .i64 b]] w' fun e w'' => ∃ A' m c', (e = .returned (.slice A' m c') ∧ (sortV (valsO a o.key h.l)).length = m ∧ Row w'' w''.heap.size A' (edgeC (sortV (valsO a o.key h.l)))) ∧ Only [] w' w'' from by
  obtain ⟨hm, i, j, rfl, rfl, hx, hy, -⟩ := read_inv hr
  exact kvalues_any A0 A1 A2 n0 n1 n2 c0 c1 c2 B h i j t o w' (hg.same O) hm hI hx hy))
 unfold hval at HRD HKV ⊢
 clear hg hI
 have HO1 := Lib.hid (((Only.refl [] w).alloc (.cells #[.slice A0 n0 c0, .slice A1 n1 c1, .slice A2 n2 c2] 25)).alloc (.cells #[.int .i64 a, .int .i64 b] 27))
 have HB1 := Lib.hid ((Blk.made w 25 #[.slice A0 n0 c0, .slice A1 n1 c1, .slice A2 n2 c2]).alloc (.cells #[.int .i64 a, .int .i64 b] 27))
 have HP1 := Lib.hid (Blk.made (w.alloc (.cells #[.slice A0 n0 c0, .slice A1 n1 c1, .slice A2 n2 c2] 25)) 27 #[.int .i64 a, .int .i64 b])
 simp only [World.size_alloc] at HP1
 go_enter Tryz.func14, Tryz.ntmps14
 go_upto_region 1 with (fail)
 generalize ((w.alloc (.cells #[.slice A0 n0 c0, .slice A1 n1 c1, .slice A2 n2 c2] 25)).alloc (.cells #[.int .i64 a, .int .i64 b] 27)) = w1 at *
 generalize w.heap.size + 1 = gp at *
 generalize hgg : w.heap.size = g at *
 have lB := HB1.out.lt
 have y0 := HB1.out.at_ 0
 have y1 := HB1.out.at_ 1
 have y2 := HB1.out.at_ 2
 have lP := HP1.out.lt
 have p0 := HP1.out.at_ 0
 have p1 := HP1.out.at_ 1
 simp at y0 y1 y2 p0 p1
 go_wp2_with fail
 refine (HRD.out _ HO1.out).mono ?_
 rintro e w2 ⟨o, ⟨rfl, ho⟩, O2⟩
 have HO2 := Lib.hid (HO1.out.trans O2)
 have HB2 := Lib.hid (O2.blk HB1.out (by simp))
 have HP2 := Lib.hid (O2.blk HP1.out (by simp))
 have HRO := Lib.hid ho
 obtain ⟨ow, ok, ov, on⟩ := o
 unfold opV
 dsimp only
 clear O2 HO1 HB1 HP1 HRD lB y0 y1 y2 lP p0 p1 ho
 cases hr : readO h a b with
 | none =>
  have HE := Lib.hid (valsH_none hr)
  rw [Option.isSome_none]
  clear hr HRO HKV
  go_upto_region 2 with (fail)
  have HO3 := Lib.hid (HO2.out.alloc (.cells #[.bool ow, .int .i64 ok, .int .i64 ov, .int .i64 on] 48))
  generalize (w2.alloc (.cells #[.bool ow, .int .i64 ok, .int .i64 ov, .int .i64 on] 48)) = w3 at *
  go_wp2
  go_ret
  exact ⟨none, 0, 0, ⟨rfl, by rw [HE.out]; rfl, by rw [HE.out]; exact .inl rfl⟩, HO3.out⟩
 | some x =>
  obtain ⟨t0, o0⟩ := x
  have e0 := HRO.out _ hr
  dsimp only at e0
  subst e0
  have HE := Lib.hid (valsH_some hr)
  dsimp only at HE
  have HKF := Lib.hid (fun w' (O : Only [] w w') => HKV.out t0 _ w' hr O)
  rw [Option.isSome_some]
  clear hr HRO HKV
  go_upto_region 2 with (fail)
  have HO3 := Lib.hid (HO2.out.alloc (.cells #[.bool ow, .int .i64 ok, .int .i64 ov, .int .i64 on] 48))
  have HB3 := Lib.hid (HB2.out.alloc (.cells #[.bool ow, .int .i64 ok, .int .i64 ov, .int .i64 on] 48))
  have HP3 := Lib.hid (HP2.out.alloc (.cells #[.bool ow, .int .i64 ok, .int .i64 ov, .int .i64 on] 48))
  clear HO2 HB2 HP2
  generalize (w2.alloc (.cells #[.bool ow, .int .i64 ok, .int .i64 ov, .int .i64 on] 48)) = w3 at *
  have lB := HB3.out.lt
  have y0 := HB3.out.at_ 0
  have y1 := HB3.out.at_ 1
  have y2 := HB3.out.at_ 2
  have lP := HP3.out.lt
  have p0 := HP3.out.at_ 0
  have p1 := HP3.out.at_ 1
  simp at y0 y1 y2 p0 p1
  go_wp2_with fail
  refine (HKF.out _ HO3.out).mono ?_
  rintro e w4 ⟨A', m, c', ⟨rfl, hl, hr4⟩, O4⟩
  have HL := Lib.hid hl
  have HR := Lib.hid hr4
  have HO4 := Lib.hid (HO3.out.trans O4)
  clear hl hr4 O4 HKF
  go_wp2
  go_ret
  exact ⟨_, _, _, ⟨rfl, by rw [HE.out]; exact HL.out, by rw [HE.out]; exact HR.out⟩, HO4.out⟩
set_option maxRecDepth 10000 in
set_option maxHeartbeats 4000000 in
theorem wfresh_any (A0 A1 A2 : Option Addr) (n0 n1 n2 c0 c1 c2 B : Nat) (h : Hst) (key : Int) (w : World) (hg : HIn w B A0 A1 A2 n0 n1 n2 h) (hI : HInt h) :
  Calls Tryz.prog 17 #[hval A0 A1 A2 n0 n1 n2 c0 c1 c2, .int .i64 key] w fun e w' => e = .returned (agV (freshV h key)) ∧ Only [] w w' := by
 have HF := Lib.hid (fun w' (O : Only [] w w') => hmay_any A0 A1 A2 n0 n1 n2 c0 c1 c2 B h w' (hg.same O))
 have HKF := Lib.hid (fun w' (hm : mayH h = true) (O : Only [] w w') => kfresh_any A0 A1 A2 n0 n1 n2 c0 c1 c2 B h key w' (hg.same O) hm hI)
 have HN1 := Lib.hid hg.n1
 unfold hval at HF HKF ⊢
 clear hg hI
 have HO1 := Lib.hid (((Only.refl [] w).alloc (.cells #[.slice A0 n0 c0, .slice A1 n1 c1, .slice A2 n2 c2] 25)).alloc (.cells #[.int .i64 0, .int .i64 0] 38))
 have HB1 := Lib.hid ((Blk.made w 25 #[.slice A0 n0 c0, .slice A1 n1 c1, .slice A2 n2 c2]).alloc (.cells #[.int .i64 0, .int .i64 0] 38))
 have HR1 := Lib.hid (Blk.made (w.alloc (.cells #[.slice A0 n0 c0, .slice A1 n1 c1, .slice A2 n2 c2] 25)) 38 #[.int .i64 0, .int .i64 0])
 simp only [World.size_alloc] at HR1
 by_cases hc : mayH h = true ∧ 0 ≤ key ∧ key < (h.ks.length : Int)
 ·have HE : Hid (freshV h key = (1, (freshN h.l key : Int))) := Lib.hid (by unfold freshV; rw [if_pos hc])
  have HKG := Lib.hid (fun w' (O : Only [] w w') => HKF.out w' hc.1 O)
  obtain ⟨hm, h1, h2⟩ := hc
  rw [HN1.out] at h2
  rw [errH_yes hm] at HF
  have d1 : decide (key < 0) = false := decide_eq_false (by omega)
  have d2 : decide ((n1 : Int) ≤ key) = false := decide_eq_false (by omega)
  generalize freshN h.l key = q at *
  clear hm HKF h1 h2
  go_enter Tryz.func17, Tryz.ntmps17
  go_upto_region 1 with (fail)
  generalize ((w.alloc (.cells #[.slice A0 n0 c0, .slice A1 n1 c1, .slice A2 n2 c2] 25)).alloc (.cells #[.int .i64 0, .int .i64 0] 38)) = w1 at *
  generalize hgr : w.heap.size + 1 = gr at *
  generalize hgg : w.heap.size = g at *
  have lB := HB1.out.lt
  have y0 := HB1.out.at_ 0
  have y1 := HB1.out.at_ 1
  have y2 := HB1.out.at_ 2
  simp at y0 y1 y2
  go_wp2_with fail
  refine (HF.out _ HO1.out).mono ?_
  rintro e w2 ⟨rfl, O2⟩
  have HO2 := Lib.hid (HO1.out.trans O2)
  have HB2 := Lib.hid (O2.blk HB1.out (by simp))
  have HR2 := Lib.hid (O2.blk HR1.out (by simp))
  clear O2 HO1 HB1 HR1 HF lB y0 y1 y2
  have lB := HB2.out.lt
  have y0 := HB2.out.at_ 0
  have y1 := HB2.out.at_ 1
  have y2 := HB2.out.at_ 2
  simp at y0 y1 y2
  go_wp2_with fail
  refine (HKG.out _ HO2.out).mono ?_
  rintro e w3 ⟨rfl, O3⟩
  have HO3 := Lib.hid (HO2.out.trans O3)
  have HR3 := Lib.hid (O3.blk HR2.out (by simp))
  clear O3 HO2 HB2 HR2 HKG lB y0 y1 y2
  go_wp2_with (refine wpList_store_blk rfl 38 (.tmp 4) (.tmp 22) rfl gr 38 _ #[.int .i64 1, .int .i64 (q : Int)] rfl rfl HR3.out rfl (by kernel_rfl) (by kernel_rfl) ?_; intro w9 b9 o9; have HB9 := Lib.hid b9; have HN9 := Lib.hid o9; clear b9 o9)
  refine bodyPost_ret (results_row1 Tryz.results17 _ _ gr 38 #[.int .i64 1, .int .i64 (q : Int)] _ rfl HB9.out Tryz.underlying38 rfl (by kernel_rfl)) rfl ?_
  exact ⟨by rw [HE.out]; rfl, HO3.out.step HN9.out (fun i hi hl => by simp at hi; omega)⟩
 ·have HE : Hid (freshV h key = (0, 0)) := Lib.hid (by unfold freshV; rw [if_neg hc])
  rw [HN1.out] at hc
  cases hm : mayH h with
  | false =>
   rw [errH_not hm] at HF
   clear hc hm HKF
   go_enter Tryz.func17, Tryz.ntmps17
   go_upto_region 1 with (fail)
   generalize ((w.alloc (.cells #[.slice A0 n0 c0, .slice A1 n1 c1, .slice A2 n2 c2] 25)).alloc (.cells #[.int .i64 0, .int .i64 0] 38)) = w1 at *
   generalize hgr : w.heap.size + 1 = gr at *
   generalize hgg : w.heap.size = g at *
   have lB := HB1.out.lt
   have y0 := HB1.out.at_ 0
   have y1 := HB1.out.at_ 1
   have y2 := HB1.out.at_ 2
   simp at y0 y1 y2
   go_wp2_with fail
   refine (HF.out _ HO1.out).mono ?_
   rintro e w2 ⟨rfl, O2⟩
   have HO2 := Lib.hid (HO1.out.trans O2)
   have HR2 := Lib.hid (O2.blk HR1.out (by simp))
   clear O2 HO1 HB1 HR1 HF lB y0 y1 y2
   go_wp2_with (refine wpList_store_blk rfl 38 (.tmp 4) (.tmp 19) rfl gr 38 _ #[.int .i64 0, .int .i64 0] rfl rfl HR2.out rfl (by kernel_rfl) (by kernel_rfl) ?_; intro w9 b9 o9; have HB9 := Lib.hid b9; have HN9 := Lib.hid o9; clear b9 o9)
   refine bodyPost_ret (results_row1 Tryz.results17 _ _ gr 38 #[.int .i64 0, .int .i64 0] _ rfl HB9.out Tryz.underlying38 rfl (by kernel_rfl)) rfl ?_
   exact ⟨by rw [HE.out]; rfl, HO2.out.step HN9.out (fun i hi hl => by simp at hi; omega)⟩
  | true =>
   rw [errH_yes hm] at HF
   have hc2 : key < 0 ∨ (n1 : Int) ≤ key := by
    by_cases h1 : 0 ≤ key
    ·by_cases h2 : key < (n1 : Int)
     ·exact absurd ⟨hm, h1, h2⟩ hc
     ·exact .inr (by omega)
    ·exact .inl (by omega)
   clear hc hm HKF
   go_enter Tryz.func17, Tryz.ntmps17
   go_upto_region 1 with (fail)
   generalize ((w.alloc (.cells #[.slice A0 n0 c0, .slice A1 n1 c1, .slice A2 n2 c2] 25)).alloc (.cells #[.int .i64 0, .int .i64 0] 38)) = w1 at *
   generalize hgr : w.heap.size + 1 = gr at *
   generalize hgg : w.heap.size = g at *
   have lB := HB1.out.lt
   have y0 := HB1.out.at_ 0
   have y1 := HB1.out.at_ 1
   have y2 := HB1.out.at_ 2
   simp at y0 y1 y2
   go_wp2_with fail
   refine (HF.out _ HO1.out).mono ?_
   rintro e w2 ⟨rfl, O2⟩
   have HO2 := Lib.hid (HO1.out.trans O2)
   have HB2 := Lib.hid (O2.blk HB1.out (by simp))
   have HR2 := Lib.hid (O2.blk HR1.out (by simp))
   clear O2 HO1 HB1 HR1 HF lB y0 y1 y2
   have lB := HB2.out.lt
   have y1 := HB2.out.at_ 1
   simp at y1
   by_cases q1 : key < 0
   ·have d1 : decide (key < 0) = true := decide_eq_true q1
    clear hc2 q1
    go_wp2_with (refine wpList_store_blk rfl 38 (.tmp 4) (.tmp 19) rfl gr 38 _ #[.int .i64 0, .int .i64 0] rfl rfl HR2.out rfl (by kernel_rfl) (by kernel_rfl) ?_; intro w9 b9 o9; have HB9 := Lib.hid b9; have HN9 := Lib.hid o9; clear b9 o9)
    refine bodyPost_ret (results_row1 Tryz.results17 _ _ gr 38 #[.int .i64 0, .int .i64 0] _ rfl HB9.out Tryz.underlying38 rfl (by kernel_rfl)) rfl ?_
    exact ⟨by rw [HE.out]; rfl, HO2.out.step HN9.out (fun i hi hl => by simp at hi; omega)⟩
   ·have d1 : decide (key < 0) = false := decide_eq_false q1
    have d2 : decide ((n1 : Int) ≤ key) = true := decide_eq_true (hc2.resolve_left q1)
    clear hc2 q1
    go_wp2_with (refine wpList_store_blk rfl 38 (.tmp 4) (.tmp 19) rfl gr 38 _ #[.int .i64 0, .int .i64 0] rfl rfl HR2.out rfl (by kernel_rfl) (by kernel_rfl) ?_; intro w9 b9 o9; have HB9 := Lib.hid b9; have HN9 := Lib.hid o9; clear b9 o9)
    refine bodyPost_ret (results_row1 Tryz.results17 _ _ gr 38 #[.int .i64 0, .int .i64 0] _ rfl HB9.out Tryz.underlying38 rfl (by kernel_rfl)) rfl ?_
    exact ⟨by rw [HE.out]; rfl, HO2.out.step HN9.out (fun i hi hl => by simp at hi; omega)⟩
end Go.Proofs.YtjfbeeogiejopaaGreatDoor

set_option linter.unusedVariables false
set_option linter.unusedSimpArgs false
namespace Go.Proofs.YtjfbeeogiejopaaGreatDoor
open Go.RowKit
open Go.Lib hiding intOf
attribute [local go_sem ↓] Go.wp_at_zero Go.wp_at_succ
set_option maxRecDepth 10000 in
set_option maxHeartbeats 4000000 in
theorem wmost_any (A0 A1 A2 : Option Addr) (n0 n1 n2 c0 c1 c2 B : Nat) (h : Hst) (w : World) (hg : HIn w B A0 A1 A2 n0 n1 n2 h) :
  Calls Tryz.prog 19 #[hval A0 A1 A2 n0 n1 n2 c0 c1 c2] w fun e w' => e = .returned (.int .i64 (mostH h : Int)) ∧ Only [] w w' := by
 have HF := Lib.hid (fun w' (O : Only [] w w') => hmay_any A0 A1 A2 n0 n1 n2 c0 c1 c2 B h w' (hg.same O))
 have HL := Lib.hid hg.at_.r2
 have HN1 := Lib.hid hg.n1
 have HN2 := Lib.hid hg.n2
 have HNO := Lib.hid hg.sm.no
 have hn1 : n1 ≤ 1000 := by have := hg.sm.nk; rw [hg.n1] at this; exact this
 have hn2 : n2 ≤ 1000 := by have := hg.sm.nl; rw [hg.n2] at this; exact this
 unfold hval at HF ⊢
 clear hg
 have HO1 := Lib.hid ((Only.refl [] w).alloc (.cells #[.slice A0 n0 c0, .slice A1 n1 c1, .slice A2 n2 c2] 25))
 have HB1 := Lib.hid (Blk.made w 25 #[.slice A0 n0 c0, .slice A1 n1 c1, .slice A2 n2 c2])
 go_enter Tryz.func19, Tryz.ntmps19
 go_upto_region 1 with (fail)
 generalize (w.alloc (.cells #[.slice A0 n0 c0, .slice A1 n1 c1, .slice A2 n2 c2] 25)) = w1 at *
 generalize hgg : w.heap.size = g at *
 have lB := HB1.out.lt
 have y0 := HB1.out.at_ 0
 have y1 := HB1.out.at_ 1
 have y2 := HB1.out.at_ 2
 simp at y0 y1 y2
 cases hm : mayH h with
 | false =>
  rw [errH_not hm] at HF
  have HE : Hid (mostH h = 0) := Lib.hid (by unfold mostH; rw [hm]; rfl)
  clear hm
  go_wp2_with fail
  refine (HF.out _ HO1.out).mono ?_
  rintro e w2 ⟨rfl, O2⟩
  have HO2 := Lib.hid (HO1.out.trans O2)
  clear O2 HF
  go_wp2
  go_ret
  exact ⟨by rw [HE.out]; rfl, HO2.out⟩
 | true =>
  rw [errH_yes hm] at HF
  have HE : Hid (mostH h = mostN h.l n1) := Lib.hid (by unfold mostH; rw [hm, if_pos rfl, HN1.out])
  clear hm
  go_wp2_with fail
  refine (HF.out _ HO1.out).mono ?_
  rintro e w2 ⟨rfl, O2⟩
  have HO2 := Lib.hid (HO1.out.trans O2)
  have HB2 := Lib.hid (O2.blk HB1.out (by simp))
  clear O2 HF HO1 HB1 lB y0 y1 y2
  have lB := HB2.out.lt
  have y1 := HB2.out.at_ 1
  simp at y1
  go_wp2_with fail
  go_loopw [3, 16] (fun mv iv wr => ∃ k : Nat, iv = .int .i64 (k : Int) ∧ k ≤ n1 ∧ mv = .int .i64 (mostN h.l k : Int) ∧ Hid (Blk wr g 25 #[.slice A0 n0 c0, .slice A1 n1 c1, .slice A2 n2 c2]) ∧ Hid (Only [] w wr)) (fun _ iv _ => n1 - (intOf iv).toNat)
  case atStart => exact ⟨0, rfl, by omega, rfl, HB2, HO2⟩
  case round =>
   obtain ⟨k, rfl, hk, rfl, hB, hO⟩ := hrel
   obtain ⟨wo, hwo⟩ : ∃ wo : World, wo = wr := ⟨_, rfl⟩
   subst hwo
   clear HB2 HO2 lB y1
   by_cases hlt : k < n1
   ·have h01 : (k : Int) < (n1 : Int) := by omega
    have hk0 : (0 : Int) ≤ (k : Int) := Int.natCast_nonneg _
    have hwk : IntKind.i64.wrap ((k : Int) + 1) = (k : Int) + 1 := IntWalk.i64_in _ (by omega)
    have HMX : Hid (mostN h.l (k + 1) = max (mostN h.l k) (manyW h.l (k : Int))) := Lib.hid rfl
    have hmk := mostN_le h.l k
    rw [HN2.out] at hmk
    generalize mostN h.l k = mk at *
    have lB := hB.out.lt
    have y2 := hB.out.at_ 2
    simp at y2
    go_wp2_with fail
    go_loopw [5, 22] (fun nv jv wr => ∃ j : Nat, jv = .int .i64 (j : Int) ∧ j ≤ n2 ∧ nv = .int .i64 (manyW (h.l.take j) (k : Int) : Int) ∧ Hid (Only [] wo wr)) (fun _ jv _ => n2 - (intOf jv).toNat)
    case atStart => exact ⟨0, rfl, by omega, rfl, Lib.hid (Only.refl [] wo)⟩
    case round =>
     obtain ⟨j, rfl, hj, rfl, hOi⟩ := hrel
     clear lB y2
     by_cases hlt2 : j < n2
     ·obtain ⟨x, hx⟩ : ∃ x, h.l[j]? = some x := ⟨_, List.getElem?_eq_getElem (by rw [HN2.out]; exact hlt2)⟩
      have OW := hO.out.trans hOi.out
      obtain ⟨bl, off, A', cp, rfl, -, hbw, hT, hOk⟩ := HL.out.at_ hx
      obtain ⟨a0, a1, a2⟩ := hT.only OW hbw (by simp)
      have HWT := Lib.hid (manyW_take (key := (k : Int)) hx)
      have hml := manyW_le (h.l.take j) (k : Int)
      rw [List.length_take] at hml
      have hxo := HNO.out x (List.mem_of_getElem? hx)
      have hrow := hOk.row
      have HROW := Lib.hid (fun w' (O : Only [] w w') => left_any A' x.ops.length cp B x.ops (k : Int) w' (hrow.only O (by simp)) rfl hxo)
      have hbr : bl < wr.heap.size := by have := OW.size; omega
      have h02 : (j : Int) < (n2 : Int) := by omega
      have hj0 : (0 : Int) ≤ (j : Int) := Int.natCast_nonneg _
      have hwj : IntKind.i64.wrap ((j : Int) + 1) = (j : Int) + 1 := IntWalk.i64_in _ (by omega)
      generalize manyW (h.l.take j) (k : Int) = q at *
      have hwq : IntKind.i64.wrap ((q : Int) + 1) = (q : Int) + 1 := IntWalk.i64_in _ (by omega)
      have HWB : Hid (writesB (k : Int) x = ((leftW (k : Int) x.ops).isSome && !decide (x.f = 2))) := Lib.hid rfl
      have HOW := Lib.hid OW
      obtain ⟨s, f, ops⟩ := x
      dsimp only at *
      generalize leftW (k : Int) ops = v at *
      generalize hwb : writesB (k : Int) ⟨s, f, ops⟩ = wb at *
      generalize ops.length = m at *
      clear hT hOk hx hrow hxo OW hwb
      go_upto_region 11 with (fail)
      have O3 : Only [] wr (wr.alloc (.cells #[.int .i64 s, .int .i64 f, .slice A' m cp] 46)) := (Only.refl [] wr).alloc _
      have HT3 := Lib.hid (Blk.made wr 46 #[.int .i64 s, .int .i64 f, .slice A' m cp])
      have HO3 := Lib.hid (hOi.out.trans O3)
      have HO3w := Lib.hid (HOW.out.trans O3)
      clear O3 a0 a1 a2 hOi HOW hbr
      generalize (wr.alloc (.cells #[.int .i64 s, .int .i64 f, .slice A' m cp] 46)) = w3 at *
      generalize wr.heap.size = gt at *
      have lT := HT3.out.lt
      have t2 := HT3.out.at_ 2
      simp at t2
      go_wp2_with fail
      refine (HROW.out _ HO3w.out).mono ?_
      rintro e w4 ⟨rfl, O4⟩
      have HO4 := Lib.hid (HO3.out.trans O4)
      have HT4 := Lib.hid (O4.blk HT3.out (by simp))
      unfold optT optV
      clear O4 HROW HO3 HT3 HO3w lT t2
      generalize (v.getD (0, 0)).1 = v1 at *
      generalize (v.getD (0, 0)).2 = v2 at *
      generalize v.isSome = vb at *
      go_upto_region 12 with (fail)
      have HO5 := Lib.hid (HO4.out.alloc (.cells #[.int .i64 v1, .int .i64 v2] 38))
      have HT5 := Lib.hid (HT4.out.alloc (.cells #[.int .i64 v1, .int .i64 v2] 38))
      clear HO4 HT4
      generalize (w4.alloc (.cells #[.int .i64 v1, .int .i64 v2] 38)) = w5 at *
      have lT := HT5.out.lt
      have t1 := HT5.out.at_ 1
      simp at t1
      cases vb with
      | false =>
       have HE2 : Hid (manyW (h.l.take (j + 1)) (k : Int) = q) := Lib.hid (by rw [HWT.out, HWB.out]; simp)
       clear HWT HWB
       go_wp2
       go_roundw
       case rel => exact ⟨j + 1, by go_num, by omega, by rw [HE2.out], HO5⟩
       case measure => simp [intOf]; omega
      | true =>
       by_cases hf : f = 2
       ·have d1 : (f != 2) = false := by simp [hf]
        have HE2 : Hid (manyW (h.l.take (j + 1)) (k : Int) = q) := Lib.hid (by rw [HWT.out, HWB.out]; simp [hf])
        clear HWT HWB hf
        go_wp2
        go_roundw
        case rel => exact ⟨j + 1, by go_num, by omega, by rw [HE2.out], HO5⟩
        case measure => simp [intOf]; omega
       ·have d1 : (f != 2) = true := by simp [hf]
        have HE2 : Hid (manyW (h.l.take (j + 1)) (k : Int) = q + 1) := Lib.hid (by rw [HWT.out, HWB.out]; simp [hf])
        clear HWT HWB hf
        go_wp2
        go_roundw
        case rel => exact ⟨j + 1, by go_num, by omega, by rw [HE2.out]; simp, HO5⟩
        case measure => simp [intOf]; omega
     ·have hjn : j = n2 := by omega
      subst hjn
      have hd2 : decide ((j : Int) < (j : Int)) = false := by simp
      have HME : Hid (manyW (h.l.take j) (k : Int) = manyW h.l (k : Int)) := Lib.hid (by rw [List.take_of_length_le (by rw [HN2.out]; exact Nat.le_refl _)])
      rw [HME.out]
      have hml := manyW_le h.l (k : Int)
      rw [HN2.out] at hml
      generalize manyW h.l (k : Int) = q at *
      have hmax : max (mk : Int) (q : Int) = ((max mk q : Nat) : Int) := by omega
      go_wp2
      go_roundw
      case rel => exact ⟨k + 1, by go_num, by omega, by rw [HMX.out], Lib.hid (hOi.out.blk hB.out (by simp)), Lib.hid (hO.out.trans hOi.out)⟩
      case measure => simp [intOf]; omega
   ·have hkn : k = n1 := by omega
    subst hkn
    have hd2 : decide ((k : Int) < (k : Int)) = false := by simp
    go_wp2
    go_ret
    exact ⟨by rw [HE.out]; rfl, hO.out⟩
end Go.Proofs.YtjfbeeogiejopaaGreatDoor

set_option linter.unusedVariables false
set_option linter.unusedSimpArgs false
namespace Go.Proofs.YtjfbeeogiejopaaGreatDoor
open Go.RowKit
open Go.Lib hiding intOf
def short11 (s : ByteArray) : ByteArray := s.extract 0 (min s.size 100)
theorem short11_size (s : ByteArray) : (short11 s).size ≤ 100 := by
 unfold short11
 rw [ByteArray.size_extract]
 omega
theorem short11_same {s : ByteArray} (h : s.size ≤ 100) : short11 s = s := by
 unfold short11
 rw [Nat.min_eq_left h]
 exact by_inj (by rw [by_extract, List.drop_zero, List.take_of_length_le (by rw [by_length]; exact Nat.le_refl _)])
def fewTx (t : Tx) : Tx := { t with ops := t.ops.take 25 }
def fewH (h : Hst) : Hst := ⟨(h.ss.take 25).map short11, (h.ks.take 45).map short11, (h.l.take 45).map fewTx⟩
theorem few_names (l : List ByteArray) (n : Nat) : (((l.take n).map short11).take n).map short11 = (l.take n).map short11 := by
 rw [List.take_of_length_le (by rw [List.length_map, List.length_take]; omega)]
 conv => rhs; rw [← List.map_id ((l.take n).map short11)]
 refine List.map_congr_left fun z hz => ?_
 obtain ⟨y, -, rfl⟩ := List.mem_map.1 hz
 exact short11_same (short11_size y)
theorem few_few (h : Hst) : fewH (fewH h) = fewH h := by
 unfold fewH
 rw [few_names, few_names]
 congr 1
 dsimp only
 rw [List.take_of_length_le (by rw [List.length_map, List.length_take]; omega)]
 conv => rhs; rw [← List.map_id ((h.l.take 45).map fewTx)]
 refine List.map_congr_left fun z hz => ?_
 obtain ⟨y, -, rfl⟩ := List.mem_map.1 hz
 unfold fewTx
 dsimp only
 rw [List.take_of_length_le (by rw [List.length_take]; omega)]
 rfl
theorem few_small (h : Hst) : HSmall (fewH h) where
 s := fun x hx => by
  obtain ⟨y, -, rfl⟩ := List.mem_map.1 hx
  have := short11_size y
  omega
 k := fun x hx => by
  obtain ⟨y, -, rfl⟩ := List.mem_map.1 hx
  have := short11_size y
  omega
 ns := by unfold fewH; dsimp only; rw [List.length_map, List.length_take]; omega
 nk := by unfold fewH; dsimp only; rw [List.length_map, List.length_take]; omega
 nl := by unfold fewH; dsimp only; rw [List.length_map, List.length_take]; omega
 no := fun t ht => by
  obtain ⟨y, -, rfl⟩ := List.mem_map.1 ht
  unfold fewTx
  dsimp only
  rw [List.length_take]
  omega
end Go.Proofs.YtjfbeeogiejopaaGreatDoor
