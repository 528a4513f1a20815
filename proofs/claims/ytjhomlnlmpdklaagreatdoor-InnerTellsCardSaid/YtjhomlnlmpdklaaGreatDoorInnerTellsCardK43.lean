/- The document's inner: Raw. The document's inner: Own. -/
import Derived.Test.YtjhomlnlmpdklaaGreatDoorInnerTellsCardK28
import Derived.Test.YtjhomlnlmpdklaaGreatDoorInnerTellsCardK18
import Derived.Deep.CutBlock
import Derived.Deep.DeepCutAuto
import Derived.Test.YtjhomlnlmpdklaaGreatDoorInnerTellsCardK42
import Derived.Test.YtjhomlnlmpdklaaGreatDoorInnerTellsCardK9
set_option linter.unusedVariables false
set_option linter.unusedSimpArgs false
namespace Go.Proofs.YtjhomlnlmpdklaaGreatDoor
open Go.RowKit
open Go.Lib hiding intOf
attribute [local go_sem ↓] Go.wp_at_zero Go.wp_at_succ
def valC (v : Int × Int) : Array Value := #[.int .i64 v.1, .int .i64 v.2]
set_option maxRecDepth 10000 in
set_option maxHeartbeats 4000000 in
theorem rraw_any (s f : Int) (A : Option Addr) (m cp B many : Nat) (ops : List Op4) (key : Int) (w : World) (hg : Row w B A (opC ops)) (hm : ops.length = m) (hM : m ≤ 1000) (hmany : many ≤ 1000) :
  Calls Tryz.prog 35 #[.agg #[.int .i64 s, .int .i64 f, .slice A m cp], .int .i64 (many : Int), .int .i64 key] w fun e w' => e = .returned (optT (leftW key (ops.take many))) ∧ Only [] w w' := by
 have HG := Lib.hid hg
 have HMM := Lib.hid hm
 obtain ⟨r, hr⟩ : ∃ r, r = leftW key (ops.take many) := ⟨_, rfl⟩
 rw [← hr]
 have HR := Lib.hid hr
 have HO0 := Lib.hid ((((Only.refl [] w).alloc (.cells #[.int .i64 s, .int .i64 f, .slice A m cp] 44)).alloc (.cells #[.int .i64 0, .int .i64 0] 30)).alloc (.cells #[.int .i64 0, .int .i64 0] 30))
 have HT0 := Lib.hid (((Blk.made w 44 #[.int .i64 s, .int .i64 f, .slice A m cp]).alloc (.cells #[.int .i64 0, .int .i64 0] 30)).alloc (.cells #[.int .i64 0, .int .i64 0] 30))
 have HV0 := Lib.hid ((Blk.made (w.alloc (.cells #[.int .i64 s, .int .i64 f, .slice A m cp] 44)) 30 #[.int .i64 0, .int .i64 0]).alloc (.cells #[.int .i64 0, .int .i64 0] 30))
 have HU0 := Lib.hid (Blk.made ((w.alloc (.cells #[.int .i64 s, .int .i64 f, .slice A m cp] 44)).alloc (.cells #[.int .i64 0, .int .i64 0] 30)) 30 #[.int .i64 0, .int .i64 0])
 simp only [World.size_alloc] at HV0 HU0
 clear hg hm hr
 go_enter Tryz.func35, Tryz.ntmps35
 go_wp2_with fail
 go_loopw [9, 10] (fun iz iv wr => ∃ i : Nat, iv = .int .i64 i ∧ i ≤ many ∧ i ≤ m ∧ iz = .bool (leftW key (ops.take i)).isSome ∧ Hid (Blk wr (w.heap.size + 1 + 1) 30 (valC (leftV key (ops.take i)))) ∧ Hid (Blk wr (w.heap.size + 1) 30 #[.int .i64 0, .int .i64 0]) ∧ Hid (Blk wr w.heap.size 44 #[.int .i64 s, .int .i64 f, .slice A m cp]) ∧ Hid (Only [] w wr)) (fun _ iv _ => m - (intOf iv).toNat)
 case atStart => exact ⟨0, rfl, by omega, by omega, rfl, HU0, HV0, HT0, HO0⟩
 case round =>
  obtain ⟨i, rfl, hi1, hi2, rfl, hU, hV, hT, hO⟩ := hrel
  have hsz := hO.out.size
  have lT := hT.out.lt
  have t2 := hT.out.at_ 2
  simp at t2
  clear HO0 HT0 HV0 HU0
  by_cases hlt1 : i < many
  ·by_cases hlt2 : i < m
   ·obtain ⟨y, hy⟩ : ∃ y, ops[i]? = some y := ⟨_, List.getElem?_eq_getElem (by rw [HMM.out]; exact hlt2)⟩
    obtain ⟨b, off, rfl, -, hbw, hP⟩ := row_op HG.out hy
    obtain ⟨p0, p1, p2, p3⟩ := hP.only hO.out hbw (by simp)
    have HLT := Lib.hid (leftW_take (key := key) hy)
    obtain ⟨yw, yk, yv, yn⟩ := y
    dsimp only at p0 p1 p2 p3 HLT
    have h01 : (i : Int) < (many : Int) := by omega
    have h02 : (i : Int) < (m : Int) := by omega
    have hi0 : (0 : Int) ≤ (i : Int) := Int.natCast_nonneg _
    have hwi : IntKind.i64.wrap ((i : Int) + 1) = (i : Int) + 1 := IntWalk.i64_in _ (by omega)
    have hbr : b < wr.heap.size := by omega
    clear hP hy
    by_cases hw : yw = true ∧ yk = key
    ·obtain ⟨rfl, rfl⟩ := hw
     have HE : Hid (leftW yk (ops.take (i + 1)) = some (yv, yn)) := Lib.hid (by rw [HLT.out]; simp [hitO])
     have HVE : Hid (leftV yk (ops.take (i + 1)) = (yv, yn)) := Lib.hid (by unfold leftV; rw [HE.out]; rfl)
     generalize leftW yk (ops.take i) = l0 at *
     generalize leftV yk (ops.take i) = v0 at *
     go_wp2_with (refine wpList_store_blk rfl 30 (.tmp 8) (.tmp 45) rfl (w.heap.size + 1 + 1) 30 (valC v0) #[.int .i64 yv, .int .i64 yn] rfl rfl hU.out rfl (by kernel_rfl) (by kernel_rfl) ?_; intro w9 b9 o9; have HB9 := Lib.hid b9; have HV9 := Lib.hid (o9.blk hV.out (by simp)); have HT9 := Lib.hid (o9.blk hT.out (by simp; omega)); have HN9 := Lib.hid (hO.out.step o9 (fun i hi hl => by simp at hi; omega)); clear b9 o9)
     go_roundw
     case rel => first | exact ⟨i + 1, by go_num, by omega, by omega, by rw [HE.out]; rfl, Lib.hid (by rw [HVE.out]; exact HB9.out), HV9, HT9, HN9⟩ | exact ⟨_, _, ⟨i + 1, by go_num, by omega, by omega, by rw [HE.out]; rfl, Lib.hid (by rw [HVE.out]; exact HB9.out), HV9, HT9, HN9⟩, rfl, rfl⟩
     case measure => simp [intOf]; omega
    ·have HE : Hid (leftW key (ops.take (i + 1)) = leftW key (ops.take i)) := Lib.hid (by
      rw [HLT.out, if_neg]
      unfold hitO
      simp
      exact fun h => fun h' => hw ⟨h, h'⟩)
     have HVE : Hid (leftV key (ops.take (i + 1)) = leftV key (ops.take i)) := Lib.hid (by unfold leftV; rw [HE.out])
     clear HLT
     cases yw with
     | false =>
      clear hw
      go_wp2
      go_roundw
      case rel => first | exact ⟨i + 1, by go_num, by omega, by omega, by rw [HE.out], Lib.hid (by rw [HVE.out]; exact hU.out), hV, hT, hO⟩ | exact ⟨_, _, ⟨i + 1, by go_num, by omega, by omega, by rw [HE.out], Lib.hid (by rw [HVE.out]; exact hU.out), hV, hT, hO⟩, rfl, rfl⟩
      case measure => simp [intOf]; omega
     | true =>
      have hk1 : (yk == key) = false := by simpa using hw
      clear hw
      go_wp2
      go_roundw
      case rel => first | exact ⟨i + 1, by go_num, by omega, by omega, by rw [HE.out], Lib.hid (by rw [HVE.out]; exact hU.out), hV, hT, hO⟩ | exact ⟨_, _, ⟨i + 1, by go_num, by omega, by omega, by rw [HE.out], Lib.hid (by rw [HVE.out]; exact hU.out), hV, hT, hO⟩, rfl, rfl⟩
      case measure => simp [intOf]; omega
   ·have him : i = m := by omega
    subst him
    have HRE : Hid (leftW key (ops.take i) = r) := Lib.hid (by rw [HR.out, List.take_of_length_le (by rw [HMM.out]; exact Nat.le_refl _), List.take_of_length_le (by rw [HMM.out]; omega)])
    have HVE : Hid (leftV key (ops.take i) = r.getD (0, 0)) := Lib.hid (by unfold leftV; rw [HRE.out])
    have h01 : (i : Int) < (many : Int) := by omega
    have hd2 : decide ((i : Int) < (i : Int)) = false := by simp
    rw [HRE.out]
    rw [HVE.out] at hU
    generalize hgr : w.heap.size + 1 = gr at *
    have lU := hU.out.lt
    have u0 := hU.out.at_ 0
    have u1 := hU.out.at_ 1
    simp [valC] at u0 u1
    go_wp2_with (refine wpList_store_blk rfl 30 (.tmp 6) (.tmp 46) rfl gr 30 #[.int .i64 0, .int .i64 0] #[.int .i64 (r.getD (0, 0)).1, .int .i64 (r.getD (0, 0)).2] rfl rfl hV.out rfl (by kernel_rfl) (by kernel_rfl) ?_; intro w9 b9 o9; have HB9 := Lib.hid b9; have HN9 := Lib.hid o9; clear b9 o9)
    refine bodyPost_ret (results_row2 Tryz.results35 _ _ gr 30 #[.int .i64 (r.getD (0, 0)).1, .int .i64 (r.getD (0, 0)).2] _ rfl HB9.out Tryz.underlying30 rfl (by kernel_rfl)) rfl ?_
    exact ⟨rfl, hO.out.step HN9.out (fun i hi hl => by simp at hi; omega)⟩
  ·have him : i = many := by omega
   subst him
   have HRE : Hid (leftW key (ops.take i) = r) := Lib.hid HR.out.symm
   have HVE : Hid (leftV key (ops.take i) = r.getD (0, 0)) := Lib.hid (by unfold leftV; rw [HRE.out])
   have hd2 : decide ((i : Int) < (i : Int)) = false := by simp
   rw [HRE.out]
   rw [HVE.out] at hU
   generalize hgr : w.heap.size + 1 = gr at *
   have lU := hU.out.lt
   have u0 := hU.out.at_ 0
   have u1 := hU.out.at_ 1
   simp [valC] at u0 u1
   go_wp2_with (refine wpList_store_blk rfl 30 (.tmp 6) (.tmp 46) rfl gr 30 #[.int .i64 0, .int .i64 0] #[.int .i64 (r.getD (0, 0)).1, .int .i64 (r.getD (0, 0)).2] rfl rfl hV.out rfl (by kernel_rfl) (by kernel_rfl) ?_; intro w9 b9 o9; have HB9 := Lib.hid b9; have HN9 := Lib.hid o9; clear b9 o9)
   refine bodyPost_ret (results_row2 Tryz.results35 _ _ gr 30 #[.int .i64 (r.getD (0, 0)).1, .int .i64 (r.getD (0, 0)).2] _ rfl HB9.out Tryz.underlying30 rfl (by kernel_rfl)) rfl ?_
   exact ⟨rfl, hO.out.step HN9.out (fun i hi hl => by simp at hi; omega)⟩
end Go.Proofs.YtjhomlnlmpdklaaGreatDoor

set_option linter.unusedVariables false
set_option linter.unusedSimpArgs false
namespace Go.Proofs.YtjhomlnlmpdklaaGreatDoor
open Go.RowKit
open Go.Lib hiding intOf
attribute [local go_sem ↓] Go.wp_at_zero Go.wp_at_succ
theorem opAt_inv {h : Hst} {a b : Int} {t : Tx} {o : Op4} (ho : opAtH h a b = some (t, o)) : ∃ i j : Nat, a = i ∧ b = j ∧ h.l[i]? = some t ∧ t.ops[j]? = some o := by
 unfold opAtH txAtH at ho
 split at ho
 ·rename_i hc
  cases hx : h.l[a.toNat]? with
  | none => rw [hx] at ho; cases ho
  | some x =>
   rw [hx] at ho
   simp only [Option.bind_some] at ho
   split at ho
   ·rename_i hb
    cases hy : x.ops[b.toNat]? with
    | none => rw [hy] at ho; cases ho
    | some y =>
     rw [hy] at ho
     simp at ho
     obtain ⟨rfl, rfl⟩ := ho
     exact ⟨a.toNat, b.toNat, by omega, by omega, hx, hy⟩
   ·cases ho
 ·cases ho
set_option maxRecDepth 10000 in
set_option maxHeartbeats 4000000 in
theorem rown_any (A0 A1 A2 : Option Addr) (n0 n1 n2 c0 c1 c2 B : Nat) (h : Hst) (a b : Int) (w : World) (hg : HIn w B A0 A1 A2 n0 n1 n2 h) :
  Calls Tryz.prog 11 #[hval A0 A1 A2 n0 n1 n2 c0 c1 c2, .agg #[.int .i64 a, .int .i64 b]] w fun e w' => e = .returned (optT (ownO h a b)) ∧ Only [] w w' := by
 have HTH := Lib.hid (fun w' (O : Only [] w w') => rthere_any A0 A1 A2 n0 n1 n2 c0 c1 c2 B h a b w' (hg.same O))
 have HL := Lib.hid hg.at_.r2
 have HN2 := Lib.hid hg.n2
 have HNO := Lib.hid hg.sm.no
 unfold hval at HTH ⊢
 clear hg
 have HO1 := Lib.hid ((((Only.refl [] w).alloc (.cells #[.slice A0 n0 c0, .slice A1 n1 c1, .slice A2 n2 c2] 25)).alloc (.cells #[.int .i64 a, .int .i64 b] 27)).alloc (.cells #[.int .i64 0, .int .i64 0] 30))
 have HB1 := Lib.hid (((Blk.made w 25 #[.slice A0 n0 c0, .slice A1 n1 c1, .slice A2 n2 c2]).alloc (.cells #[.int .i64 a, .int .i64 b] 27)).alloc (.cells #[.int .i64 0, .int .i64 0] 30))
 have HP1 := Lib.hid ((Blk.made (w.alloc (.cells #[.slice A0 n0 c0, .slice A1 n1 c1, .slice A2 n2 c2] 25)) 27 #[.int .i64 a, .int .i64 b]).alloc (.cells #[.int .i64 0, .int .i64 0] 30))
 have HR1 := Lib.hid (Blk.made ((w.alloc (.cells #[.slice A0 n0 c0, .slice A1 n1 c1, .slice A2 n2 c2] 25)).alloc (.cells #[.int .i64 a, .int .i64 b] 27)) 30 #[.int .i64 0, .int .i64 0])
 simp only [World.size_alloc] at HP1 HR1
 cases ho : opAtH h a b with
 | none =>
  rw [own_none ho]
  have HF := Lib.hid (HTH.out _ HO1.out)
  rw [there_none ho] at HF
  clear ho HTH
  go_enter Tryz.func11, Tryz.ntmps11
  go_wp2_with fail
  generalize (((w.alloc (.cells #[.slice A0 n0 c0, .slice A1 n1 c1, .slice A2 n2 c2] 25)).alloc (.cells #[.int .i64 a, .int .i64 b] 27)).alloc (.cells #[.int .i64 0, .int .i64 0] 30)) = w1 at *
  generalize hgr : w.heap.size + 1 + 1 = gr at *
  generalize hgp : w.heap.size + 1 = gp at *
  generalize hgg : w.heap.size = g at *
  refine (HF.out).mono ?_
  rintro e w2 ⟨rfl, O2⟩
  have HO2 := Lib.hid (HO1.out.trans O2)
  have HR2 := Lib.hid (O2.blk HR1.out (by simp))
  clear O2 HF
  go_wp2_with (refine wpList_store_blk rfl 30 (.tmp 4) (.tmp 10) rfl gr 30 _ #[.int .i64 0, .int .i64 0] rfl rfl HR2.out rfl (by kernel_rfl) (by kernel_rfl) ?_; intro w9 b9 o9; have HB9 := Lib.hid b9; have HN9 := Lib.hid o9; clear b9 o9)
  refine bodyPost_ret (results_row2 Tryz.results11 _ _ gr 30 #[.int .i64 0, .int .i64 0] _ rfl HB9.out Tryz.underlying30 rfl (by kernel_rfl)) rfl ?_
  exact ⟨rfl, HO2.out.step HN9.out (fun i hi hl => by simp at hi; omega)⟩
 | some x =>
  obtain ⟨t, o⟩ := x
  rw [own_some ho]
  have HF := Lib.hid (HTH.out _ HO1.out)
  rw [there_some ho] at HF
  obtain ⟨i, j, rfl, rfl, hx, hj⟩ := opAt_inv ho
  obtain ⟨bl, off, A', cp, rfl, -, hbw, hT, hOk⟩ := HL.out.at_ hx
  have hno := HNO.out t (List.mem_of_getElem? hx)
  have hi2 : i < n2 := by rw [← HN2.out]; exact (List.getElem?_eq_some_iff.1 hx).1
  have hjl := (List.getElem?_eq_some_iff.1 hj).1
  have HT := Lib.hid (hT.only HO1.out hbw (by simp))
  obtain ⟨bo, oo, rfl, -, hbo, hP⟩ := row_op hOk.row hj
  have HPO := Lib.hid (hP.only HO1.out hbo (by simp)).c1
  have HROW := Lib.hid hOk.row
  rw [show ((j : Int).toNat) = j from by simp]
  obtain ⟨s, f, ops⟩ := t
  dsimp only at HROW hno HT hj hjl ⊢
  have HRW := Lib.hid (fun w' (O : Only [] w w') => rraw_any s f (some ⟨bo, oo, none⟩) ops.length cp B j ops o.key w' (HROW.out.only O (by simp)) rfl hno (by omega))
  generalize leftW o.key (ops.take j) = v at *
  generalize o.key = ok at *
  generalize hmm : ops.length = m at *
  have hi0 : (0 : Int) ≤ (i : Int) := by omega
  have hj0 : (0 : Int) ≤ (j : Int) := by omega
  have hi2' : (i : Int) < (n2 : Int) := by omega
  have hjm : (j : Int) < (m : Int) := by omega
  clear ho HTH hx hj hT hOk hP HROW
  go_enter Tryz.func11, Tryz.ntmps11
  go_wp2_with fail
  generalize (((w.alloc (.cells #[.slice A0 n0 c0, .slice A1 n1 c1, .slice (some ⟨bl, off, none⟩) n2 c2] 25)).alloc (.cells #[.int .i64 (i : Int), .int .i64 (j : Int)] 27)).alloc (.cells #[.int .i64 0, .int .i64 0] 30)) = w1 at *
  have hbr : bl < w1.heap.size := by have := HO1.out.size; omega
  have hbor : bo < w1.heap.size := by have := HO1.out.size; omega
  generalize hgr : w.heap.size + 1 + 1 = gr at *
  generalize hgp : w.heap.size + 1 = gp at *
  generalize hgg : w.heap.size = g at *
  refine (HF.out).mono ?_
  rintro e w2 ⟨rfl, O2⟩
  have HO2 := Lib.hid (HO1.out.trans O2)
  have HR2 := Lib.hid (O2.blk HR1.out (by simp))
  have HB2 := Lib.hid (O2.blk HB1.out (by simp))
  have HP2 := Lib.hid (O2.blk HP1.out (by simp))
  obtain ⟨t0, t1, t2⟩ := HT.out.only O2 hbr (by simp)
  dsimp only at t0 t1 t2
  rw [hmm] at t2
  have HC0 := Lib.hid t0
  have HC1 := Lib.hid t1
  have HC2 := Lib.hid t2
  have HCK := Lib.hid ((O2.cell (p := ⟨bo, oo + j * 4 + 1, none⟩) hbor (by simp)).trans HPO.out)
  have hbr2 : bl < w2.heap.size := by have := O2.size; omega
  have hbo2 : bo < w2.heap.size := by have := O2.size; omega
  clear O2 HF t0 t1 t2
  go_upto_region 3 with (fail)
  refine wp_region_noPanic ?_
  refine wp_region_timed (F := [⟨[], [], fun w' => Only [gr] w2 w'⟩]) (by kernel_rfl) (timed_holds ((Only.refl [gr] w2).drew) (timed_nil)) ?_
  refine timed_pure (i := 0) (v := ?_) rfl (by kernel_rfl) (by kernel_rfl) (by kernel_rfl) (fun _ _ _ h => h) (by kernel_rfl) (by kernel_rfl) ?_ ?_
  rotate_left
  ·(intro w; go_simp; try with_reducible rfl)
  try simp only [Act.put, tdy]
  refine timed_read (i := 1) (v := ?_) 0 rfl (by kernel_rfl) (by kernel_rfl) (by kernel_rfl) (fun _ _ _ h => h) (by kernel_rfl) (by kernel_rfl) rfl (by kernel_rfl) ?_ ?_
  rotate_left
  ·(intro wq hSw; (try dsimp only at hSw); have hb_H := hSw.blk HB2.out (by simp; omega); have lb_H := hb_H.lt; have y2 := hb_H.at_ 2; simp at y2; clear hb_H; have hb_P := hSw.blk HP2.out (by simp; omega); have lb_P := hb_P.lt; have p0 := hb_P.at_ 0; have p1 := hb_P.at_ 1; simp at p0 p1; clear hb_P; have t0 := (hSw.cell (p := ⟨bl, off + i * 3, none⟩) hbr2 (by simp; omega)).trans HC0.out; have t1 := (hSw.cell (p := ⟨bl, off + i * 3 + 1, none⟩) hbr2 (by simp; omega)).trans HC1.out; have t2 := (hSw.cell (p := ⟨bl, off + i * 3 + 2, none⟩) hbr2 (by simp; omega)).trans HC2.out; have q1 := (hSw.cell (p := ⟨bo, oo + j * 4 + 1, none⟩) hbo2 (by simp; omega)).trans HCK.out; clear hSw; go_simp; try with_reducible rfl)
  try simp only [Act.put, tdy]
  refine timed_pure (i := 2) (v := ?_) rfl (by kernel_rfl) (by kernel_rfl) (by kernel_rfl) (fun _ _ _ h => h) (by kernel_rfl) (by kernel_rfl) ?_ ?_
  rotate_left
  ·(intro w; go_simp; try with_reducible rfl)
  try simp only [Act.put, tdy]
  refine timed_read (i := 3) (v := ?_) 0 rfl (by kernel_rfl) (by kernel_rfl) (by kernel_rfl) (fun _ _ _ h => h) (by kernel_rfl) (by kernel_rfl) rfl (by kernel_rfl) ?_ ?_
  rotate_left
  ·(intro wq hSw; (try dsimp only at hSw); have hb_H := hSw.blk HB2.out (by simp; omega); have lb_H := hb_H.lt; have y2 := hb_H.at_ 2; simp at y2; clear hb_H; have hb_P := hSw.blk HP2.out (by simp; omega); have lb_P := hb_P.lt; have p0 := hb_P.at_ 0; have p1 := hb_P.at_ 1; simp at p0 p1; clear hb_P; have t0 := (hSw.cell (p := ⟨bl, off + i * 3, none⟩) hbr2 (by simp; omega)).trans HC0.out; have t1 := (hSw.cell (p := ⟨bl, off + i * 3 + 1, none⟩) hbr2 (by simp; omega)).trans HC1.out; have t2 := (hSw.cell (p := ⟨bl, off + i * 3 + 2, none⟩) hbr2 (by simp; omega)).trans HC2.out; have q1 := (hSw.cell (p := ⟨bo, oo + j * 4 + 1, none⟩) hbo2 (by simp; omega)).trans HCK.out; clear hSw; go_simp; try with_reducible rfl)
  try simp only [Act.put, tdy]
  refine timed_pure (i := 4) (v := ?_) rfl (by kernel_rfl) (by kernel_rfl) (by kernel_rfl) (fun _ _ _ h => h) (by kernel_rfl) (by kernel_rfl) ?_ ?_
  rotate_left
  ·(intro w; go_simp; try with_reducible rfl)
  try simp only [Act.put, tdy]
  refine timed_read (i := 5) (v := ?_) 0 rfl (by kernel_rfl) (by kernel_rfl) (by kernel_rfl) (fun _ _ _ h => h) (by kernel_rfl) (by kernel_rfl) rfl (by kernel_rfl) ?_ ?_
  rotate_left
  ·(intro wq hSw; (try dsimp only at hSw); have hb_H := hSw.blk HB2.out (by simp; omega); have lb_H := hb_H.lt; have y2 := hb_H.at_ 2; simp at y2; clear hb_H; have hb_P := hSw.blk HP2.out (by simp; omega); have lb_P := hb_P.lt; have p0 := hb_P.at_ 0; have p1 := hb_P.at_ 1; simp at p0 p1; clear hb_P; have t0 := (hSw.cell (p := ⟨bl, off + i * 3, none⟩) hbr2 (by simp; omega)).trans HC0.out; have t1 := (hSw.cell (p := ⟨bl, off + i * 3 + 1, none⟩) hbr2 (by simp; omega)).trans HC1.out; have t2 := (hSw.cell (p := ⟨bl, off + i * 3 + 2, none⟩) hbr2 (by simp; omega)).trans HC2.out; have q1 := (hSw.cell (p := ⟨bo, oo + j * 4 + 1, none⟩) hbo2 (by simp; omega)).trans HCK.out; clear hSw; go_simp; try with_reducible rfl)
  try simp only [Act.put, tdy]
  refine timed_pure (i := 6) (v := ?_) rfl (by kernel_rfl) (by kernel_rfl) (by kernel_rfl) (fun _ _ _ h => h) (by kernel_rfl) (by kernel_rfl) ?_ ?_
  rotate_left
  ·(intro w; go_simp; try with_reducible rfl)
  try simp only [Act.put, tdy]
  refine timed_read (i := 7) (v := ?_) 0 rfl (by kernel_rfl) (by kernel_rfl) (by kernel_rfl) (fun _ _ _ h => h) (by kernel_rfl) (by kernel_rfl) rfl (by kernel_rfl) ?_ ?_
  rotate_left
  ·(intro wq hSw; (try dsimp only at hSw); have hb_H := hSw.blk HB2.out (by simp; omega); have lb_H := hb_H.lt; have y2 := hb_H.at_ 2; simp at y2; clear hb_H; have hb_P := hSw.blk HP2.out (by simp; omega); have lb_P := hb_P.lt; have p0 := hb_P.at_ 0; have p1 := hb_P.at_ 1; simp at p0 p1; clear hb_P; have t0 := (hSw.cell (p := ⟨bl, off + i * 3, none⟩) hbr2 (by simp; omega)).trans HC0.out; have t1 := (hSw.cell (p := ⟨bl, off + i * 3 + 1, none⟩) hbr2 (by simp; omega)).trans HC1.out; have t2 := (hSw.cell (p := ⟨bl, off + i * 3 + 2, none⟩) hbr2 (by simp; omega)).trans HC2.out; have q1 := (hSw.cell (p := ⟨bo, oo + j * 4 + 1, none⟩) hbo2 (by simp; omega)).trans HCK.out; clear hSw; go_simp; try with_reducible rfl)
  try simp only [Act.put, tdy]
  refine timed_pure (i := 8) (v := ?_) rfl (by kernel_rfl) (by kernel_rfl) (by kernel_rfl) (fun _ _ _ h => h) (by kernel_rfl) (by kernel_rfl) ?_ ?_
  rotate_left
  ·(intro w; go_simp; try with_reducible rfl)
  try simp only [Act.put, tdy]
  refine timed_read (i := 9) (v := ?_) 0 rfl (by kernel_rfl) (by kernel_rfl) (by kernel_rfl) (fun _ _ _ h => h) (by kernel_rfl) (by kernel_rfl) rfl (by kernel_rfl) ?_ ?_
  rotate_left
  ·(intro wq hSw; (try dsimp only at hSw); have hb_H := hSw.blk HB2.out (by simp; omega); have lb_H := hb_H.lt; have y2 := hb_H.at_ 2; simp at y2; clear hb_H; have hb_P := hSw.blk HP2.out (by simp; omega); have lb_P := hb_P.lt; have p0 := hb_P.at_ 0; have p1 := hb_P.at_ 1; simp at p0 p1; clear hb_P; have t0 := (hSw.cell (p := ⟨bl, off + i * 3, none⟩) hbr2 (by simp; omega)).trans HC0.out; have t1 := (hSw.cell (p := ⟨bl, off + i * 3 + 1, none⟩) hbr2 (by simp; omega)).trans HC1.out; have t2 := (hSw.cell (p := ⟨bl, off + i * 3 + 2, none⟩) hbr2 (by simp; omega)).trans HC2.out; have q1 := (hSw.cell (p := ⟨bo, oo + j * 4 + 1, none⟩) hbo2 (by simp; omega)).trans HCK.out; clear hSw; go_simp; try with_reducible rfl)
  try simp only [Act.put, tdy]
  refine timed_pure (i := 10) (v := ?_) rfl (by kernel_rfl) (by kernel_rfl) (by kernel_rfl) (fun _ _ _ h => h) (by kernel_rfl) (by kernel_rfl) ?_ ?_
  rotate_left
  ·(intro w; go_simp; try with_reducible rfl)
  try simp only [Act.put, tdy]
  refine timed_read (i := 11) (v := ?_) 0 rfl (by kernel_rfl) (by kernel_rfl) (by kernel_rfl) (fun _ _ _ h => h) (by kernel_rfl) (by kernel_rfl) rfl (by kernel_rfl) ?_ ?_
  rotate_left
  ·(intro wq hSw; (try dsimp only at hSw); have hb_H := hSw.blk HB2.out (by simp; omega); have lb_H := hb_H.lt; have y2 := hb_H.at_ 2; simp at y2; clear hb_H; have hb_P := hSw.blk HP2.out (by simp; omega); have lb_P := hb_P.lt; have p0 := hb_P.at_ 0; have p1 := hb_P.at_ 1; simp at p0 p1; clear hb_P; have t0 := (hSw.cell (p := ⟨bl, off + i * 3, none⟩) hbr2 (by simp; omega)).trans HC0.out; have t1 := (hSw.cell (p := ⟨bl, off + i * 3 + 1, none⟩) hbr2 (by simp; omega)).trans HC1.out; have t2 := (hSw.cell (p := ⟨bl, off + i * 3 + 2, none⟩) hbr2 (by simp; omega)).trans HC2.out; have q1 := (hSw.cell (p := ⟨bo, oo + j * 4 + 1, none⟩) hbo2 (by simp; omega)).trans HCK.out; clear hSw; go_simp; try with_reducible rfl)
  try simp only [Act.put, tdy]
  refine timed_pure (i := 12) (v := ?_) rfl (by kernel_rfl) (by kernel_rfl) (by kernel_rfl) (fun _ _ _ h => h) (by kernel_rfl) (by kernel_rfl) ?_ ?_
  rotate_left
  ·(intro w; go_simp; try with_reducible rfl)
  try simp only [Act.put, tdy]
  refine timed_pure (i := 13) (v := ?_) rfl (by kernel_rfl) (by kernel_rfl) (by kernel_rfl) (fun _ _ _ h => h) (by kernel_rfl) (by kernel_rfl) ?_ ?_
  rotate_left
  ·(intro w; go_simp; try with_reducible rfl)
  try simp only [Act.put, tdy]
  refine timed_read (i := 14) (v := ?_) 0 rfl (by kernel_rfl) (by kernel_rfl) (by kernel_rfl) (fun _ _ _ h => h) (by kernel_rfl) (by kernel_rfl) rfl (by kernel_rfl) ?_ ?_
  rotate_left
  ·(intro wq hSw; (try dsimp only at hSw); have hb_H := hSw.blk HB2.out (by simp; omega); have lb_H := hb_H.lt; have y2 := hb_H.at_ 2; simp at y2; clear hb_H; have hb_P := hSw.blk HP2.out (by simp; omega); have lb_P := hb_P.lt; have p0 := hb_P.at_ 0; have p1 := hb_P.at_ 1; simp at p0 p1; clear hb_P; have t0 := (hSw.cell (p := ⟨bl, off + i * 3, none⟩) hbr2 (by simp; omega)).trans HC0.out; have t1 := (hSw.cell (p := ⟨bl, off + i * 3 + 1, none⟩) hbr2 (by simp; omega)).trans HC1.out; have t2 := (hSw.cell (p := ⟨bl, off + i * 3 + 2, none⟩) hbr2 (by simp; omega)).trans HC2.out; have q1 := (hSw.cell (p := ⟨bo, oo + j * 4 + 1, none⟩) hbo2 (by simp; omega)).trans HCK.out; clear hSw; go_simp; try with_reducible rfl)
  try simp only [Act.put, tdy]
  refine timed_pure (i := 15) (v := ?_) rfl (by kernel_rfl) (by kernel_rfl) (by kernel_rfl) (fun _ _ _ h => h) (by kernel_rfl) (by kernel_rfl) ?_ ?_
  rotate_left
  ·(intro w; go_simp; try with_reducible rfl)
  try simp only [Act.put, tdy]
  refine timed_read (i := 16) (v := ?_) 0 rfl (by kernel_rfl) (by kernel_rfl) (by kernel_rfl) (fun _ _ _ h => h) (by kernel_rfl) (by kernel_rfl) rfl (by kernel_rfl) ?_ ?_
  rotate_left
  ·(intro wq hSw; (try dsimp only at hSw); have hb_H := hSw.blk HB2.out (by simp; omega); have lb_H := hb_H.lt; have y2 := hb_H.at_ 2; simp at y2; clear hb_H; have hb_P := hSw.blk HP2.out (by simp; omega); have lb_P := hb_P.lt; have p0 := hb_P.at_ 0; have p1 := hb_P.at_ 1; simp at p0 p1; clear hb_P; have t0 := (hSw.cell (p := ⟨bl, off + i * 3, none⟩) hbr2 (by simp; omega)).trans HC0.out; have t1 := (hSw.cell (p := ⟨bl, off + i * 3 + 1, none⟩) hbr2 (by simp; omega)).trans HC1.out; have t2 := (hSw.cell (p := ⟨bl, off + i * 3 + 2, none⟩) hbr2 (by simp; omega)).trans HC2.out; have q1 := (hSw.cell (p := ⟨bo, oo + j * 4 + 1, none⟩) hbo2 (by simp; omega)).trans HCK.out; clear hSw; go_simp; try with_reducible rfl)
  try simp only [Act.put, tdy]
  refine timed_pure (i := 17) (v := ?_) rfl (by kernel_rfl) (by kernel_rfl) (by kernel_rfl) (fun _ _ _ h => h) (by kernel_rfl) (by kernel_rfl) ?_ ?_
  rotate_left
  ·(intro w; go_simp; try with_reducible rfl)
  try simp only [Act.put, tdy]
  refine timed_pure (i := 18) (v := ?_) rfl (by kernel_rfl) (by kernel_rfl) (by kernel_rfl) (fun _ _ _ h => h) (by kernel_rfl) (by kernel_rfl) ?_ ?_
  rotate_left
  ·(intro w; go_simp; try with_reducible rfl)
  try simp only [Act.put, tdy]
  refine timed_read (i := 19) (v := ?_) 0 rfl (by kernel_rfl) (by kernel_rfl) (by kernel_rfl) (fun _ _ _ h => h) (by kernel_rfl) (by kernel_rfl) rfl (by kernel_rfl) ?_ ?_
  rotate_left
  ·(intro wq hSw; (try dsimp only at hSw); have hb_H := hSw.blk HB2.out (by simp; omega); have lb_H := hb_H.lt; have y2 := hb_H.at_ 2; simp at y2; clear hb_H; have hb_P := hSw.blk HP2.out (by simp; omega); have lb_P := hb_P.lt; have p0 := hb_P.at_ 0; have p1 := hb_P.at_ 1; simp at p0 p1; clear hb_P; have t0 := (hSw.cell (p := ⟨bl, off + i * 3, none⟩) hbr2 (by simp; omega)).trans HC0.out; have t1 := (hSw.cell (p := ⟨bl, off + i * 3 + 1, none⟩) hbr2 (by simp; omega)).trans HC1.out; have t2 := (hSw.cell (p := ⟨bl, off + i * 3 + 2, none⟩) hbr2 (by simp; omega)).trans HC2.out; have q1 := (hSw.cell (p := ⟨bo, oo + j * 4 + 1, none⟩) hbo2 (by simp; omega)).trans HCK.out; clear hSw; go_simp; try with_reducible rfl)
  try simp only [Act.put, tdy]
  refine timed_step (i := 20) (by kernel_rfl) rfl (fun K hK => ?_)
  go_simp
  refine (HRW.out _ (HO2.out.trans (Only.refl [] w2).drew)).mono ?_
  rintro e w3 ⟨rfl, O3⟩
  unfold optT optV
  have HR3 := Lib.hid (O3.blk (HR2.out.drew) (by simp))
  have O3 := O3.wide (T := [gr]) (fun i hi => by cases hi)
  refine hK.out _ _ (timed_holds (((Only.refl [gr] w2).drew).trans O3) (timed_nil)) ?_
  clear hK K
  try simp only [Act.put, tdy]
  refine timed_pure (i := 21) (v := ?_) rfl (by kernel_rfl) (by kernel_rfl) (by kernel_rfl) (fun _ _ _ h => h) (by kernel_rfl) (by kernel_rfl) ?_ ?_
  rotate_left
  ·(intro w; go_simp; try with_reducible rfl)
  try simp only [Act.put, tdy]
  refine timed_pure (i := 22) (v := ?_) rfl (by kernel_rfl) (by kernel_rfl) (by kernel_rfl) (fun _ _ _ h => h) (by kernel_rfl) (by kernel_rfl) ?_ ?_
  rotate_left
  ·(intro w; go_simp; try with_reducible rfl)
  try simp only [Act.put, tdy]
  refine timed_step (i := 23) (by kernel_rfl) rfl (fun K hK => ?_)
  refine wp_store_blk 30 (.tmp 4) (.tmp 32) rfl gr 30 _ #[.int .i64 (v.getD (0, 0)).1, .int .i64 (v.getD (0, 0)).2] rfl rfl HR3.out rfl (by kernel_rfl) (by kernel_rfl) ?_
  intro w9 b9 o9
  have HB9 := Lib.hid b9
  refine hK.out _ _ (timed_holds ((((Only.refl [gr] w2).drew).trans O3).trans o9) (timed_nil)) ?_
  clear hK K
  try simp only [Act.put, tdy]
  refine timed_pure (i := 24) (v := ?_) rfl (by kernel_rfl) (by kernel_rfl) (by kernel_rfl) (fun _ _ _ h => h) (by kernel_rfl) (by kernel_rfl) ?_ ?_
  rotate_left
  ·(intro w; go_simp; try with_reducible rfl)
  try simp only [Act.put, tdy]
  refine timed_done (by kernel_rfl) ?_ _
  refine NoPanic.normal ?_
  have HNW := Lib.hid ( ((((Only.refl [gr] w2).drew).trans O3).trans o9))
  go_wp2
  refine bodyPost_ret (results_row2 Tryz.results11 _ _ gr 30 #[.int .i64 (v.getD (0, 0)).1, .int .i64 (v.getD (0, 0)).2] _ rfl HB9.out Tryz.underlying30 rfl (by kernel_rfl)) rfl ?_
  exact ⟨rfl, HO2.out.step HNW.out (fun i hi hl => by simp at hi; omega)⟩
end Go.Proofs.YtjhomlnlmpdklaaGreatDoor
