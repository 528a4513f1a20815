/- The document's inner: there. The document's layer 15: read, written. The document's layer 15: written, Fresh. The document's inner: Raw. The document's inner: Own. -/
import Derived.Test.YtjfbeeogiejopaaGreatDoorLaw15AllK29
import Derived.Test.YtjfbeeogiejopaaGreatDoorLaw15AllK44
import Derived.Test.YtjfbeeogiejopaaGreatDoorLaw15AllK8
import Derived.Test.YtjfbeeogiejopaaGreatDoorLaw15AllK28
import Derived.Test.YtjfbeeogiejopaaGreatDoorLaw15AllK32
import Derived.Test.YtjfbeeogiejopaaGreatDoorLaw15AllK16
import Derived.Test.YtjfbeeogiejopaaGreatDoorLaw15AllK26
import Derived.Deep.CutBlock
import Derived.Deep.DeepCutAuto
set_option linter.unusedVariables false
set_option linter.unusedSimpArgs false
namespace Go.Proofs.YtjfbeeogiejopaaGreatDoor
open Go.RowKit
open Go.Lib hiding intOf
attribute [local go_sem ↓] Go.wp_at_zero Go.wp_at_succ
end Go.Proofs.YtjfbeeogiejopaaGreatDoor

set_option linter.unusedVariables false
set_option linter.unusedSimpArgs false
namespace Go.Proofs.YtjfbeeogiejopaaGreatDoor
open Go.RowKit
open Go.Lib hiding intOf
attribute [local go_sem ↓] Go.wp_at_zero Go.wp_at_succ
end Go.Proofs.YtjfbeeogiejopaaGreatDoor

set_option linter.unusedVariables false
set_option linter.unusedSimpArgs false
namespace Go.Proofs.YtjfbeeogiejopaaGreatDoor
open Go.RowKit
open Go.Lib hiding intOf
attribute [local go_sem ↓] Go.wp_at_zero Go.wp_at_succ
theorem wroteN_take {l : List Tx} {key n : Int} {k : Nat} {t : Tx} (h : l[k]? = some t) : wroteN (l.take (k + 1)) key n = (wroteN (l.take k) key n || t.ops.any (hitN key n)) := by
 unfold wroteN
 rw [List.take_add_one, h, List.any_append]
 simp
theorem anyN_take {l : List Op4} {key n : Int} {k : Nat} {o : Op4} (h : l[k]? = some o) : (l.take (k + 1)).any (hitN key n) = ((l.take k).any (hitN key n) || hitN key n o) := by
 rw [List.take_add_one, h, List.any_append]
 simp
theorem wroteN_hit {l : List Tx} {key n : Int} {k j : Nat} {t : Tx} {o : Op4} (h : l[k]? = some t) (ho : t.ops[j]? = some o) (hh : hitN key n o = true) : wroteN l key n = true := by
 unfold wroteN
 exact List.any_eq_true.2 ⟨t, List.mem_of_getElem? h, List.any_eq_true.2 ⟨o, List.mem_of_getElem? ho, hh⟩⟩
set_option maxRecDepth 10000 in
set_option maxHeartbeats 8000000 in
theorem rwritten15_any (A0 A1 A2 : Option Addr) (n0 n1 n2 c0 c1 c2 B : Nat) (h : Hst) (key n : Int) (w : World) (hg : HIn w B A0 A1 A2 n0 n1 n2 h) :
  Calls Tryz.prog 48 #[hval A0 A1 A2 n0 n1 n2 c0 c1 c2, .int .i64 key, .int .i64 n] w fun e w' => e = .returned (.bool (wroteN h.l key n)) ∧ Only [] w w' := by
 have HL := Lib.hid hg.at_.r2
 have HN2 := Lib.hid hg.n2
 have HNO := Lib.hid hg.sm.no
 have hn2 : n2 ≤ 1000 := by have := hg.sm.nl; rw [hg.n2] at this; exact this
 unfold hval
 clear hg
 have HO1 := Lib.hid ((Only.refl [] w).alloc (.cells #[.slice A0 n0 c0, .slice A1 n1 c1, .slice A2 n2 c2] 25))
 have HB1 := Lib.hid (Blk.made w 25 #[.slice A0 n0 c0, .slice A1 n1 c1, .slice A2 n2 c2])
 go_enter Tryz.func48, Tryz.ntmps48
 go_wp2_with fail
 go_loopw [7] (fun iv wr => ∃ i : Nat, iv = .int .i64 (i : Int) ∧ i ≤ n2 ∧ Hid (wroteN (h.l.take i) key n = false) ∧ Hid (Blk wr w.heap.size 25 #[.slice A0 n0 c0, .slice A1 n1 c1, .slice A2 n2 c2]) ∧ Hid (Only [] w wr)) (fun iv _ => n2 - (intOf iv).toNat)
 case atStart => exact ⟨0, rfl, by omega, Lib.hid rfl, HB1, HO1⟩
 case round =>
  obtain ⟨i, rfl, hi, hW, hB, hO⟩ := hrel
  obtain ⟨wo, hwo⟩ : ∃ wo : World, wo = wr := ⟨_, rfl⟩
  subst hwo
  clear HB1 HO1
  by_cases hlt : i < n2
  ·obtain ⟨x, hx⟩ : ∃ x, h.l[i]? = some x := ⟨_, List.getElem?_eq_getElem (by rw [HN2.out]; exact hlt)⟩
   obtain ⟨bl, off, A', cp, rfl, -, hbw, hT, hOk⟩ := HL.out.at_ hx
   have HT2 := Lib.hid (hT.only hO.out hbw (by simp)).c2
   have HROW := Lib.hid hOk.row
   have HWT := Lib.hid (wroteN_take (key := key) (n := n) hx)
   have HHIT := Lib.hid (fun (j : Nat) (o : Op4) (ho : x.ops[j]? = some o) (hh : hitN key n o = true) => wroteN_hit hx ho hh)
   have hm := HNO.out x (List.mem_of_getElem? hx)
   have h01 : (i : Int) < (n2 : Int) := by omega
   have hi0 : (0 : Int) ≤ (i : Int) := Int.natCast_nonneg _
   have hwi : IntKind.i64.wrap ((i : Int) + 1) = (i : Int) + 1 := IntWalk.i64_in _ (by omega)
   have hbr : bl < wo.heap.size := by have := hO.out.size; omega
   dsimp only at HT2
   generalize hm0 : x.ops.length = m at *
   have HM0 := Lib.hid hm0
   clear hT hOk hx hm0
   have lB := hB.out.lt
   have y2 := hB.out.at_ 2
   simp at y2
   go_wp2_with fail
   go_loopw [8] (fun jv wr => ∃ j : Nat, jv = .int .i64 (j : Int) ∧ j ≤ m ∧ Hid ((x.ops.take j).any (hitN key n) = false) ∧ Hid (Only [] wo wr)) (fun jv _ => m - (intOf jv).toNat)
   case atStart => exact ⟨0, rfl, by omega, Lib.hid rfl, Lib.hid (Only.refl [] wo)⟩
   case round =>
    obtain ⟨j, rfl, hj, hA, hOi⟩ := hrel
    clear lB y2
    have hB2 := hOi.out.blk hB.out (by simp)
    have lB := hB2.lt
    have y2 := hB2.at_ 2
    simp at y2
    have t2 := (hOi.out.cell (p := ⟨bl, off + i * 3 + 2, none⟩) hbr (by simp)).trans HT2.out
    have hbr2 : bl < wr.heap.size := by have := hOi.out.size; omega
    clear hB2
    by_cases hlt2 : j < m
    ·obtain ⟨o, ho⟩ : ∃ o, x.ops[j]? = some o := ⟨_, List.getElem?_eq_getElem (by rw [HM0.out]; exact hlt2)⟩
     obtain ⟨bo, oo, rfl, -, hbo, hP⟩ := row_op HROW.out ho
     have hP2 := hP.only (hO.out.trans hOi.out) hbo (by simp)
     have p0 := hP2.c0
     have p1 := hP2.c1
     have p2 := hP2.c2
     have p3 := hP2.c3
     have HAT := Lib.hid (anyN_take (key := key) (n := n) ho)
     have HH := Lib.hid (fun hh => HHIT.out j o ho hh)
     have h02 : (j : Int) < (m : Int) := by omega
     have hj0 : (0 : Int) ≤ (j : Int) := Int.natCast_nonneg _
     have hwj : IntKind.i64.wrap ((j : Int) + 1) = (j : Int) + 1 := IntWalk.i64_in _ (by omega)
     have hbor : bo < wr.heap.size := by have := (hO.out.trans hOi.out).size; omega
     obtain ⟨ow, ok, ov, on⟩ := o
     dsimp only at p0 p1 p2 p3
     have HN : Hid (hitN key n ⟨ow, ok, ov, on⟩ = (ow && (decide (ok = key) && decide (on = n)))) := Lib.hid rfl
     generalize hitN key n ⟨ow, ok, ov, on⟩ = hb at *
     clear hP hP2 ho
     have MISS : hb = false → Hid ((x.ops.take (j + 1)).any (hitN key n) = false) := fun e => Lib.hid (by rw [HAT.out, hA.out, e]; rfl)
     cases ow with
     | false =>
      have HMS := MISS (by rw [HN.out]; rfl)
      clear MISS
      go_wp2
      go_roundw
      case rel => exact ⟨j + 1, by go_num, by omega, HMS, Lib.hid (hOi.out.alloc _)⟩
      case measure => simp [intOf]; omega
     | true =>
      by_cases q1 : ok = key
      ·have d1 : (ok == key) = true := by simpa using q1
       by_cases q2 : on = n
       ·have d2 : (on == n) = true := by simpa using q2
        have HW1 := Lib.hid (HH.out (by rw [HN.out]; simp [q1, q2]))
        clear MISS q1 q2
        go_wp2
        go_ret
        exact ⟨by rw [HW1.out]; rfl, (hO.out.trans hOi.out).alloc _⟩
       ·have d2 : (on == n) = false := by simpa using q2
        have HMS := MISS (by rw [HN.out]; simp [q2])
        clear MISS q1 q2
        go_wp2
        go_roundw
        case rel => exact ⟨j + 1, by go_num, by omega, HMS, Lib.hid (hOi.out.alloc _)⟩
        case measure => simp [intOf]; omega
      ·have d1 : (ok == key) = false := by simpa using q1
       have HMS := MISS (by rw [HN.out]; simp [q1])
       clear MISS q1
       go_wp2
       go_roundw
       case rel => exact ⟨j + 1, by go_num, by omega, HMS, Lib.hid (hOi.out.alloc _)⟩
       case measure => simp [intOf]; omega
    ·have hjm : j = m := by omega
     subst hjm
     have hd2 : decide ((j : Int) < (j : Int)) = false := by simp
     have HW2 : Hid (wroteN (h.l.take (i + 1)) key n = false) := Lib.hid (by
      have := hA.out
      rw [List.take_of_length_le (by rw [HM0.out]; exact Nat.le_refl _)] at this
      rw [HWT.out, hW.out, this]
      rfl)
     go_wp2
     go_roundw
     case rel => exact ⟨i + 1, by go_num, by omega, HW2, Lib.hid (hOi.out.blk hB.out (by simp)), Lib.hid (hO.out.trans hOi.out)⟩
     case measure => simp [intOf]; omega
  ·have hin : i = n2 := by omega
   subst hin
   have hd2 : decide ((i : Int) < (i : Int)) = false := by simp
   have HWE : Hid (wroteN h.l key n = false) := Lib.hid (by
    have := hW.out
    rwa [List.take_of_length_le (by rw [HN2.out]; exact Nat.le_refl _)] at this)
   have lB := hB.out.lt
   have y2 := hB.out.at_ 2
   simp at y2
   go_wp2
   go_ret
   exact ⟨by rw [HWE.out]; rfl, hO.out⟩
set_option maxRecDepth 10000 in
set_option maxHeartbeats 8000000 in
theorem rfresh15_any (A0 A1 A2 : Option Addr) (n0 n1 n2 c0 c1 c2 B : Nat) (h : Hst) (key : Int) (w : World) (hg : HIn w B A0 A1 A2 n0 n1 n2 h) (hX : mayH h = true → h.l.length ≤ 40 ∧ ∀ t ∈ h.l, t.ops.length ≤ 20) :
  Calls Tryz.prog 18 #[hval A0 A1 A2 n0 n1 n2 c0 c1 c2, .int .i64 key] w fun e w' => e = .returned (agV (freshV h key)) ∧ Only [] w w' := by
 have HF := Lib.hid (fun w' (O : Only [] w w') => refmay_any A0 A1 A2 n0 n1 n2 c0 c1 c2 B h w' (hg.same O))
 have HKF := Lib.hid (fun (q : Nat) w' (O : Only [] w w') => rwritten15_any A0 A1 A2 n0 n1 n2 c0 c1 c2 B h key (q : Int) w' (hg.same O))
 have HN1 := Lib.hid hg.n1
 unfold hval at HF HKF ⊢
 clear hg
 have HO1 := Lib.hid (((Only.refl [] w).alloc (.cells #[.slice A0 n0 c0, .slice A1 n1 c1, .slice A2 n2 c2] 25)).alloc (.cells #[.int .i64 0, .int .i64 0] 38))
 have HB1 := Lib.hid ((Blk.made w 25 #[.slice A0 n0 c0, .slice A1 n1 c1, .slice A2 n2 c2]).alloc (.cells #[.int .i64 0, .int .i64 0] 38))
 have HR1 := Lib.hid (Blk.made (w.alloc (.cells #[.slice A0 n0 c0, .slice A1 n1 c1, .slice A2 n2 c2] 25)) 38 #[.int .i64 0, .int .i64 0])
 simp only [World.size_alloc] at HR1
 by_cases hc : mayH h = true ∧ 0 ≤ key ∧ key < (h.ks.length : Int)
 ·have HE : Hid (freshV h key = (1, (freshN h.l key : Int))) := Lib.hid (by unfold freshV; rw [if_pos hc])
  have HBD := Lib.hid (fun (q : Nat) (hq : ∀ m : Nat, m < q → wroteN h.l key (m : Int) = true) => fresh_bound (hX hc.1).1 (hX hc.1).2 hq)
  have HIS := Lib.hid (fun (q : Nat) (hq : ∀ m : Nat, m < q → wroteN h.l key (m : Int) = true) (hb : q ≤ 800) (hw : wroteN h.l key (q : Int) = false) => fresh_is (by omega) hq hw)
  obtain ⟨hm, h1, h2⟩ := hc
  rw [HN1.out] at h2
  rw [mayH_err2 hm] at HF
  have d1 : decide (key < 0) = false := decide_eq_false (by omega)
  have d2 : decide ((n1 : Int) ≤ key) = false := decide_eq_false (by omega)
  clear hm h1 h2 hX
  go_enter Tryz.func18, Tryz.ntmps18
  go_upto_region 1 with (fail)
  generalize ((w.alloc (.cells #[.slice A0 n0 c0, .slice A1 n1 c1, .slice A2 n2 c2] 25)).alloc (.cells #[.int .i64 0, .int .i64 0] 38)) = w1 at *
  generalize hgr : w.heap.size + 1 = gr at *
  generalize hgg : w.heap.size = g at *
  have lB := HB1.out.lt
  have y0 := HB1.out.at_ 0
  have y1 := HB1.out.at_ 1
  have y2 := HB1.out.at_ 2
  simp at y0 y1 y2
  go_wp2_with fail
  refine (HF.out _ HO1.out).mono ?_
  rintro e w2 ⟨rfl, O2⟩
  have HO2 := Lib.hid (HO1.out.trans O2)
  have HB2 := Lib.hid (O2.blk HB1.out (by simp))
  have HR2 := Lib.hid (O2.blk HR1.out (by simp))
  clear O2 HO1 HB1 HR1 HF lB y0 y1 y2
  have lB := HB2.out.lt
  have y1 := HB2.out.at_ 1
  simp at y1
  go_wp2_with fail
  go_loopw [5] (fun v wr => ∃ q : Nat, v = .int .i64 (q : Int) ∧ q ≤ 800 ∧ Hid (∀ m : Nat, m < q → wroteN h.l key (m : Int) = true) ∧ Hid (Blk wr g 25 #[.slice A0 n0 c0, .slice A1 n1 c1, .slice A2 n2 c2]) ∧ Hid (Blk wr gr 38 #[.int .i64 0, .int .i64 0]) ∧ Hid (Only [] w wr)) (fun v _ => 801 - (intOf v).toNat)
  case atStart => exact ⟨0, rfl, by omega, Lib.hid (fun m hm => by omega), HB2, HR2, HO2⟩
  case round =>
   obtain ⟨q, rfl, hq, hall, hB, hR, hO⟩ := hrel
   clear HB2 HR2 HO2 lB y1
   have HCALL := Lib.hid (HKF.out q wr hO.out)
   have hwq : IntKind.i64.wrap ((q : Int) + 1) = (q : Int) + 1 := IntWalk.i64_in _ (by omega)
   obtain ⟨bb, hbb⟩ : ∃ bb, bb = wroteN h.l key (q : Int) := ⟨_, rfl⟩
   rw [← hbb] at HCALL
   have HBB := Lib.hid hbb
   clear hbb
   have lB := hB.out.lt
   have y0 := hB.out.at_ 0
   have y1 := hB.out.at_ 1
   have y2 := hB.out.at_ 2
   simp at y0 y1 y2
   go_wp2_with fail
   refine (HCALL.out).mono ?_
   rintro e w3 ⟨rfl, O3⟩
   have HB3 := Lib.hid (O3.blk hB.out (by simp))
   have HR3 := Lib.hid (O3.blk hR.out (by simp))
   have HO3 := Lib.hid (hO.out.trans O3)
   clear O3 hB hR hO lB y0 y1 y2 HCALL
   cases bb with
   | true =>
    have HALL : Hid (∀ m : Nat, m < q + 1 → wroteN h.l key (m : Int) = true) := Lib.hid (fun m hm => by
     by_cases e : m = q
     ·subst e; exact HBB.out.symm
     ·exact hall.out m (by omega))
    have hq8 := HBD.out (q + 1) HALL.out
    go_wp2
    go_roundw
    case rel => exact ⟨q + 1, by go_num, hq8, HALL, HB3, HR3, HO3⟩
    case measure => simp [intOf]; omega
   | false =>
    have HFE := Lib.hid (HIS.out q hall.out hq HBB.out.symm)
    go_wp2_with (refine wpList_store_blk rfl 38 (.tmp 4) (.tmp 28) rfl gr 38 _ #[.int .i64 1, .int .i64 (q : Int)] rfl rfl HR3.out rfl (by kernel_rfl) (by kernel_rfl) ?_; intro w9 b9 o9; have HB9 := Lib.hid b9; have HN9 := Lib.hid o9; clear b9 o9)
    refine bodyPost_ret (results_row1 Tryz.results18 _ _ gr 38 #[.int .i64 1, .int .i64 (q : Int)] _ rfl HB9.out Tryz.underlying38 rfl (by kernel_rfl)) rfl ?_
    exact ⟨by rw [HE.out, HFE.out]; rfl, HO3.out.step HN9.out (fun i hi hl => by simp at hi; omega)⟩
 ·have HE : Hid (freshV h key = (0, 0)) := Lib.hid (by unfold freshV; rw [if_neg hc])
  rw [HN1.out] at hc
  obtain ⟨ee, hee⟩ : ∃ ee, ee = errH h := ⟨_, rfl⟩
  rw [← hee] at HF
  have hc2 : ee ≠ 0 ∨ ee = 0 ∧ (key < 0 ∨ (n1 : Int) ≤ key) := by
   cases hm : mayH h with
   | false => exact .inl (by rw [hee, mayH_errn2 hm]; decide)
   | true =>
    refine .inr ⟨by rw [hee, mayH_err2 hm], ?_⟩
    by_cases h1 : 0 ≤ key
    ·by_cases h2 : key < (n1 : Int)
     ·exact absurd ⟨hm, h1, h2⟩ hc
     ·exact .inr (by omega)
    ·exact .inl (by omega)
  clear hc hee HKF hX
  go_enter Tryz.func18, Tryz.ntmps18
  go_upto_region 1 with (fail)
  generalize ((w.alloc (.cells #[.slice A0 n0 c0, .slice A1 n1 c1, .slice A2 n2 c2] 25)).alloc (.cells #[.int .i64 0, .int .i64 0] 38)) = w1 at *
  generalize hgr : w.heap.size + 1 = gr at *
  generalize hgg : w.heap.size = g at *
  have lB := HB1.out.lt
  have y0 := HB1.out.at_ 0
  have y1 := HB1.out.at_ 1
  have y2 := HB1.out.at_ 2
  simp at y0 y1 y2
  go_wp2_with fail
  refine (HF.out _ HO1.out).mono ?_
  rintro e w2 ⟨rfl, O2⟩
  have HO2 := Lib.hid (HO1.out.trans O2)
  have HB2 := Lib.hid (O2.blk HB1.out (by simp))
  have HR2 := Lib.hid (O2.blk HR1.out (by simp))
  clear O2 HO1 HB1 HR1 HF lB y0 y1 y2
  have lB := HB2.out.lt
  have y1 := HB2.out.at_ 1
  simp at y1
  rcases hc2 with q0 | ⟨rfl, hc2⟩
  ·have d0 : (ee != 0) = true := by simpa using q0
   clear q0
   go_wp2_with (refine wpList_store_blk rfl 38 (.tmp 4) (.tmp 20) rfl gr 38 _ #[.int .i64 0, .int .i64 0] rfl rfl HR2.out rfl (by kernel_rfl) (by kernel_rfl) ?_; intro w9 b9 o9; have HB9 := Lib.hid b9; have HN9 := Lib.hid o9; clear b9 o9)
   refine bodyPost_ret (results_row1 Tryz.results18 _ _ gr 38 #[.int .i64 0, .int .i64 0] _ rfl HB9.out Tryz.underlying38 rfl (by kernel_rfl)) rfl ?_
   exact ⟨by rw [HE.out]; rfl, HO2.out.step HN9.out (fun i hi hl => by simp at hi; omega)⟩
  ·by_cases q1 : key < 0
   ·have d1 : decide (key < 0) = true := decide_eq_true q1
    clear hc2 q1
    go_wp2_with (refine wpList_store_blk rfl 38 (.tmp 4) (.tmp 20) rfl gr 38 _ #[.int .i64 0, .int .i64 0] rfl rfl HR2.out rfl (by kernel_rfl) (by kernel_rfl) ?_; intro w9 b9 o9; have HB9 := Lib.hid b9; have HN9 := Lib.hid o9; clear b9 o9)
    refine bodyPost_ret (results_row1 Tryz.results18 _ _ gr 38 #[.int .i64 0, .int .i64 0] _ rfl HB9.out Tryz.underlying38 rfl (by kernel_rfl)) rfl ?_
    exact ⟨by rw [HE.out]; rfl, HO2.out.step HN9.out (fun i hi hl => by simp at hi; omega)⟩
   ·have d1 : decide (key < 0) = false := decide_eq_false q1
    have d2 : decide ((n1 : Int) ≤ key) = true := decide_eq_true (hc2.resolve_left q1)
    clear hc2 q1
    go_wp2_with (refine wpList_store_blk rfl 38 (.tmp 4) (.tmp 20) rfl gr 38 _ #[.int .i64 0, .int .i64 0] rfl rfl HR2.out rfl (by kernel_rfl) (by kernel_rfl) ?_; intro w9 b9 o9; have HB9 := Lib.hid b9; have HN9 := Lib.hid o9; clear b9 o9)
    refine bodyPost_ret (results_row1 Tryz.results18 _ _ gr 38 #[.int .i64 0, .int .i64 0] _ rfl HB9.out Tryz.underlying38 rfl (by kernel_rfl)) rfl ?_
    exact ⟨by rw [HE.out]; rfl, HO2.out.step HN9.out (fun i hi hl => by simp at hi; omega)⟩
end Go.Proofs.YtjfbeeogiejopaaGreatDoor

set_option linter.unusedVariables false
set_option linter.unusedSimpArgs false
namespace Go.Proofs.YtjfbeeogiejopaaGreatDoor
open Go.RowKit
open Go.Lib hiding intOf
attribute [local go_sem ↓] Go.wp_at_zero Go.wp_at_succ
def valC (v : Int × Int) : Array Value := #[.int .i64 v.1, .int .i64 v.2]
set_option maxRecDepth 10000 in
set_option maxHeartbeats 4000000 in
theorem rraw_any (s f : Int) (A : Option Addr) (m cp B many : Nat) (ops : List Op4) (key : Int) (w : World) (hg : Row w B A (opC ops)) (hm : ops.length = m) (hM : m ≤ 1000) (hmany : many ≤ 1000) :
  Calls Tryz.prog 42 #[.agg #[.int .i64 s, .int .i64 f, .slice A m cp], .int .i64 (many : Int), .int .i64 key] w fun e w' => e = .returned (optT (leftW key (ops.take many))) ∧ Only [] w w' := by
 have HG := Lib.hid hg
 have HMM := Lib.hid hm
 obtain ⟨r, hr⟩ : ∃ r, r = leftW key (ops.take many) := ⟨_, rfl⟩
 rw [← hr]
 have HR := Lib.hid hr
 have HO0 := Lib.hid ((((Only.refl [] w).alloc (.cells #[.int .i64 s, .int .i64 f, .slice A m cp] 46)).alloc (.cells #[.int .i64 0, .int .i64 0] 38)).alloc (.cells #[.int .i64 0, .int .i64 0] 38))
 have HT0 := Lib.hid (((Blk.made w 46 #[.int .i64 s, .int .i64 f, .slice A m cp]).alloc (.cells #[.int .i64 0, .int .i64 0] 38)).alloc (.cells #[.int .i64 0, .int .i64 0] 38))
 have HV0 := Lib.hid ((Blk.made (w.alloc (.cells #[.int .i64 s, .int .i64 f, .slice A m cp] 46)) 38 #[.int .i64 0, .int .i64 0]).alloc (.cells #[.int .i64 0, .int .i64 0] 38))
 have HU0 := Lib.hid (Blk.made ((w.alloc (.cells #[.int .i64 s, .int .i64 f, .slice A m cp] 46)).alloc (.cells #[.int .i64 0, .int .i64 0] 38)) 38 #[.int .i64 0, .int .i64 0])
 simp only [World.size_alloc] at HV0 HU0
 clear hg hm hr
 go_enter Tryz.func42, Tryz.ntmps42
 go_wp2_with fail
 go_loopw [9, 10] (fun iz iv wr => ∃ i : Nat, iv = .int .i64 i ∧ i ≤ many ∧ i ≤ m ∧ iz = .bool (leftW key (ops.take i)).isSome ∧ Hid (Blk wr (w.heap.size + 1 + 1) 38 (valC (leftV key (ops.take i)))) ∧ Hid (Blk wr (w.heap.size + 1) 38 #[.int .i64 0, .int .i64 0]) ∧ Hid (Blk wr w.heap.size 46 #[.int .i64 s, .int .i64 f, .slice A m cp]) ∧ Hid (Only [] w wr)) (fun _ iv _ => m - (intOf iv).toNat)
 case atStart => exact ⟨0, rfl, by omega, by omega, rfl, HU0, HV0, HT0, HO0⟩
 case round =>
  obtain ⟨i, rfl, hi1, hi2, rfl, hU, hV, hT, hO⟩ := hrel
  have hsz := hO.out.size
  have lT := hT.out.lt
  have t2 := hT.out.at_ 2
  simp at t2
  clear HO0 HT0 HV0 HU0
  by_cases hlt1 : i < many
  ·by_cases hlt2 : i < m
   ·obtain ⟨y, hy⟩ : ∃ y, ops[i]? = some y := ⟨_, List.getElem?_eq_getElem (by rw [HMM.out]; exact hlt2)⟩
    obtain ⟨b, off, rfl, -, hbw, hP⟩ := row_op HG.out hy
    obtain ⟨p0, p1, p2, p3⟩ := hP.only hO.out hbw (by simp)
    have HLT := Lib.hid (leftW_take (key := key) hy)
    obtain ⟨yw, yk, yv, yn⟩ := y
    dsimp only at p0 p1 p2 p3 HLT
    have h01 : (i : Int) < (many : Int) := by omega
    have h02 : (i : Int) < (m : Int) := by omega
    have hi0 : (0 : Int) ≤ (i : Int) := Int.natCast_nonneg _
    have hwi : IntKind.i64.wrap ((i : Int) + 1) = (i : Int) + 1 := IntWalk.i64_in _ (by omega)
    have hbr : b < wr.heap.size := by omega
    clear hP hy
    by_cases hw : yw = true ∧ yk = key
    ·obtain ⟨rfl, rfl⟩ := hw
     have HE : Hid (leftW yk (ops.take (i + 1)) = some (yv, yn)) := Lib.hid (by rw [HLT.out]; simp [hitO])
     have HVE : Hid (leftV yk (ops.take (i + 1)) = (yv, yn)) := Lib.hid (by unfold leftV; rw [HE.out]; rfl)
     generalize leftW yk (ops.take i) = l0 at *
     generalize leftV yk (ops.take i) = v0 at *
     go_wp2_with (refine wpList_store_blk rfl 38 (.tmp 8) (.tmp 45) rfl (w.heap.size + 1 + 1) 38 (valC v0) #[.int .i64 yv, .int .i64 yn] rfl rfl hU.out rfl (by kernel_rfl) (by kernel_rfl) ?_; intro w9 b9 o9; have HB9 := Lib.hid b9; have HV9 := Lib.hid (o9.blk hV.out (by simp)); have HT9 := Lib.hid (o9.blk hT.out (by simp; omega)); have HN9 := Lib.hid (hO.out.step o9 (fun i hi hl => by simp at hi; omega)); clear b9 o9)
     go_roundw
     case rel => first | exact ⟨i + 1, by go_num, by omega, by omega, by rw [HE.out]; rfl, Lib.hid (by rw [HVE.out]; exact HB9.out), HV9, HT9, HN9⟩ | exact ⟨_, _, ⟨i + 1, by go_num, by omega, by omega, by rw [HE.out]; rfl, Lib.hid (by rw [HVE.out]; exact HB9.out), HV9, HT9, HN9⟩, rfl, rfl⟩
     case measure => simp [intOf]; omega
    ·have HE : Hid (leftW key (ops.take (i + 1)) = leftW key (ops.take i)) := Lib.hid (by
      rw [HLT.out, if_neg]
      unfold hitO
      simp
      exact fun h => fun h' => hw ⟨h, h'⟩)
     have HVE : Hid (leftV key (ops.take (i + 1)) = leftV key (ops.take i)) := Lib.hid (by unfold leftV; rw [HE.out])
     clear HLT
     cases yw with
     | false =>
      clear hw
      go_wp2
      go_roundw
      case rel => first | exact ⟨i + 1, by go_num, by omega, by omega, by rw [HE.out], Lib.hid (by rw [HVE.out]; exact hU.out), hV, hT, hO⟩ | exact ⟨_, _, ⟨i + 1, by go_num, by omega, by omega, by rw [HE.out], Lib.hid (by rw [HVE.out]; exact hU.out), hV, hT, hO⟩, rfl, rfl⟩
      case measure => simp [intOf]; omega
     | true =>
      have hk1 : (yk == key) = false := by simpa using hw
      clear hw
      go_wp2
      go_roundw
      case rel => first | exact ⟨i + 1, by go_num, by omega, by omega, by rw [HE.out], Lib.hid (by rw [HVE.out]; exact hU.out), hV, hT, hO⟩ | exact ⟨_, _, ⟨i + 1, by go_num, by omega, by omega, by rw [HE.out], Lib.hid (by rw [HVE.out]; exact hU.out), hV, hT, hO⟩, rfl, rfl⟩
      case measure => simp [intOf]; omega
   ·have him : i = m := by omega
    subst him
    have HRE : Hid (leftW key (ops.take i) = r) := Lib.hid (by rw [HR.out, List.take_of_length_le (by rw [HMM.out]; exact Nat.le_refl _), List.take_of_length_le (by rw [HMM.out]; omega)])
    have HVE : Hid (leftV key (ops.take i) = r.getD (0, 0)) := Lib.hid (by unfold leftV; rw [HRE.out])
    have h01 : (i : Int) < (many : Int) := by omega
    have hd2 : decide ((i : Int) < (i : Int)) = false := by simp
    rw [HRE.out]
    rw [HVE.out] at hU
    generalize hgr : w.heap.size + 1 = gr at *
    have lU := hU.out.lt
    have u0 := hU.out.at_ 0
    have u1 := hU.out.at_ 1
    simp [valC] at u0 u1
    go_wp2_with (refine wpList_store_blk rfl 38 (.tmp 6) (.tmp 46) rfl gr 38 #[.int .i64 0, .int .i64 0] #[.int .i64 (r.getD (0, 0)).1, .int .i64 (r.getD (0, 0)).2] rfl rfl hV.out rfl (by kernel_rfl) (by kernel_rfl) ?_; intro w9 b9 o9; have HB9 := Lib.hid b9; have HN9 := Lib.hid o9; clear b9 o9)
    refine bodyPost_ret (results_row2 Tryz.results42 _ _ gr 38 #[.int .i64 (r.getD (0, 0)).1, .int .i64 (r.getD (0, 0)).2] _ rfl HB9.out Tryz.underlying38 rfl (by kernel_rfl)) rfl ?_
    exact ⟨rfl, hO.out.step HN9.out (fun i hi hl => by simp at hi; omega)⟩
  ·have him : i = many := by omega
   subst him
   have HRE : Hid (leftW key (ops.take i) = r) := Lib.hid HR.out.symm
   have HVE : Hid (leftV key (ops.take i) = r.getD (0, 0)) := Lib.hid (by unfold leftV; rw [HRE.out])
   have hd2 : decide ((i : Int) < (i : Int)) = false := by simp
   rw [HRE.out]
   rw [HVE.out] at hU
   generalize hgr : w.heap.size + 1 = gr at *
   have lU := hU.out.lt
   have u0 := hU.out.at_ 0
   have u1 := hU.out.at_ 1
   simp [valC] at u0 u1
   go_wp2_with (refine wpList_store_blk rfl 38 (.tmp 6) (.tmp 46) rfl gr 38 #[.int .i64 0, .int .i64 0] #[.int .i64 (r.getD (0, 0)).1, .int .i64 (r.getD (0, 0)).2] rfl rfl hV.out rfl (by kernel_rfl) (by kernel_rfl) ?_; intro w9 b9 o9; have HB9 := Lib.hid b9; have HN9 := Lib.hid o9; clear b9 o9)
   refine bodyPost_ret (results_row2 Tryz.results42 _ _ gr 38 #[.int .i64 (r.getD (0, 0)).1, .int .i64 (r.getD (0, 0)).2] _ rfl HB9.out Tryz.underlying38 rfl (by kernel_rfl)) rfl ?_
   exact ⟨rfl, hO.out.step HN9.out (fun i hi hl => by simp at hi; omega)⟩
end Go.Proofs.YtjfbeeogiejopaaGreatDoor

set_option linter.unusedVariables false
set_option linter.unusedSimpArgs false
namespace Go.Proofs.YtjfbeeogiejopaaGreatDoor
open Go.RowKit
open Go.Lib hiding intOf
attribute [local go_sem ↓] Go.wp_at_zero Go.wp_at_succ
end Go.Proofs.YtjfbeeogiejopaaGreatDoor
