/- The document's inner: Raw. -/
import Derived.Test.YtjfbeeogiejopaaGreatDoorWriterOfCardK24
import Derived.Test.YtjfbeeogiejopaaGreatDoorWriterOfCardK15
import Derived.Deep.CutBlock
import Derived.Deep.DeepCutAuto
set_option linter.unusedVariables false
set_option linter.unusedSimpArgs false
namespace Go.Proofs.YtjfbeeogiejopaaGreatDoor
open Go.RowKit
open Go.Lib hiding intOf
attribute [local go_sem ↓] Go.wp_at_zero Go.wp_at_succ
def valC (v : Int × Int) : Array Value := #[.int .i64 v.1, .int .i64 v.2]
set_option maxRecDepth 10000 in
set_option maxHeartbeats 4000000 in
theorem rraw_any (s f : Int) (A : Option Addr) (m cp B many : Nat) (ops : List Op4) (key : Int) (w : World) (hg : Row w B A (opC ops)) (hm : ops.length = m) (hM : m ≤ 1000) (hmany : many ≤ 1000) :
  Calls Tryz.prog 42 #[.agg #[.int .i64 s, .int .i64 f, .slice A m cp], .int .i64 (many : Int), .int .i64 key] w fun e w' => e = .returned (optT (leftW key (ops.take many))) ∧ Only [] w w' := by
 have HG := Lib.hid hg
 have HMM := Lib.hid hm
 obtain ⟨r, hr⟩ : ∃ r, r = leftW key (ops.take many) := ⟨_, rfl⟩
 rw [← hr]
 have HR := Lib.hid hr
 have HO0 := Lib.hid ((((Only.refl [] w).alloc (.cells #[.int .i64 s, .int .i64 f, .slice A m cp] 46)).alloc (.cells #[.int .i64 0, .int .i64 0] 38)).alloc (.cells #[.int .i64 0, .int .i64 0] 38))
 have HT0 := Lib.hid (((Blk.made w 46 #[.int .i64 s, .int .i64 f, .slice A m cp]).alloc (.cells #[.int .i64 0, .int .i64 0] 38)).alloc (.cells #[.int .i64 0, .int .i64 0] 38))
 have HV0 := Lib.hid ((Blk.made (w.alloc (.cells #[.int .i64 s, .int .i64 f, .slice A m cp] 46)) 38 #[.int .i64 0, .int .i64 0]).alloc (.cells #[.int .i64 0, .int .i64 0] 38))
 have HU0 := Lib.hid (Blk.made ((w.alloc (.cells #[.int .i64 s, .int .i64 f, .slice A m cp] 46)).alloc (.cells #[.int .i64 0, .int .i64 0] 38)) 38 #[.int .i64 0, .int .i64 0])
 simp only [World.size_alloc] at HV0 HU0
 clear hg hm hr
 go_enter Tryz.func42, Tryz.ntmps42
 go_wp2_with fail
 go_loopw [9, 10] (fun iz iv wr => ∃ i : Nat, iv = .int .i64 i ∧ i ≤ many ∧ i ≤ m ∧ iz = .bool (leftW key (ops.take i)).isSome ∧ Hid (Blk wr (w.heap.size + 1 + 1) 38 (valC (leftV key (ops.take i)))) ∧ Hid (Blk wr (w.heap.size + 1) 38 #[.int .i64 0, .int .i64 0]) ∧ Hid (Blk wr w.heap.size 46 #[.int .i64 s, .int .i64 f, .slice A m cp]) ∧ Hid (Only [] w wr)) (fun _ iv _ => m - (intOf iv).toNat)
 case atStart => exact ⟨0, rfl, by omega, by omega, rfl, HU0, HV0, HT0, HO0⟩
 case round =>
  obtain ⟨i, rfl, hi1, hi2, rfl, hU, hV, hT, hO⟩ := hrel
  have hsz := hO.out.size
  have lT := hT.out.lt
  have t2 := hT.out.at_ 2
  simp at t2
  clear HO0 HT0 HV0 HU0
  by_cases hlt1 : i < many
  ·by_cases hlt2 : i < m
   ·obtain ⟨y, hy⟩ : ∃ y, ops[i]? = some y := ⟨_, List.getElem?_eq_getElem (by rw [HMM.out]; exact hlt2)⟩
    obtain ⟨b, off, rfl, -, hbw, hP⟩ := row_op HG.out hy
    obtain ⟨p0, p1, p2, p3⟩ := hP.only hO.out hbw (by simp)
    have HLT := Lib.hid (leftW_take (key := key) hy)
    obtain ⟨yw, yk, yv, yn⟩ := y
    dsimp only at p0 p1 p2 p3 HLT
    have h01 : (i : Int) < (many : Int) := by omega
    have h02 : (i : Int) < (m : Int) := by omega
    have hi0 : (0 : Int) ≤ (i : Int) := Int.natCast_nonneg _
    have hwi : IntKind.i64.wrap ((i : Int) + 1) = (i : Int) + 1 := IntWalk.i64_in _ (by omega)
    have hbr : b < wr.heap.size := by omega
    clear hP hy
    by_cases hw : yw = true ∧ yk = key
    ·obtain ⟨rfl, rfl⟩ := hw
     have HE : Hid (leftW yk (ops.take (i + 1)) = some (yv, yn)) := Lib.hid (by rw [HLT.out]; simp [hitO])
     have HVE : Hid (leftV yk (ops.take (i + 1)) = (yv, yn)) := Lib.hid (by unfold leftV; rw [HE.out]; rfl)
     generalize leftW yk (ops.take i) = l0 at *
     generalize leftV yk (ops.take i) = v0 at *
     go_wp2_with (refine wpList_store_blk rfl 38 (.tmp 8) (.tmp 45) rfl (w.heap.size + 1 + 1) 38 (valC v0) #[.int .i64 yv, .int .i64 yn] rfl rfl hU.out rfl (by kernel_rfl) (by kernel_rfl) ?_; intro w9 b9 o9; have HB9 := Lib.hid b9; have HV9 := Lib.hid (o9.blk hV.out (by simp)); have HT9 := Lib.hid (o9.blk hT.out (by simp; omega)); have HN9 := Lib.hid (hO.out.step o9 (fun i hi hl => by simp at hi; omega)); clear b9 o9)
     go_roundw
     case rel => first | exact ⟨i + 1, by go_num, by omega, by omega, by rw [HE.out]; rfl, Lib.hid (by rw [HVE.out]; exact HB9.out), HV9, HT9, HN9⟩ | exact ⟨_, _, ⟨i + 1, by go_num, by omega, by omega, by rw [HE.out]; rfl, Lib.hid (by rw [HVE.out]; exact HB9.out), HV9, HT9, HN9⟩, rfl, rfl⟩
     case measure => simp [intOf]; omega
    ·have HE : Hid (leftW key (ops.take (i + 1)) = leftW key (ops.take i)) := Lib.hid (by
      rw [HLT.out, if_neg]
      unfold hitO
      simp
      exact fun h => fun h' => hw ⟨h, h'⟩)
     have HVE : Hid (leftV key (ops.take (i + 1)) = leftV key (ops.take i)) := Lib.hid (by unfold leftV; rw [HE.out])
     clear HLT
     cases yw with
     | false =>
      clear hw
      go_wp2
      go_roundw
      case rel => first | exact ⟨i + 1, by go_num, by omega, by omega, by rw [HE.out], Lib.hid (by rw [HVE.out]; exact hU.out), hV, hT, hO⟩ | exact ⟨_, _, ⟨i + 1, by go_num, by omega, by omega, by rw [HE.out], Lib.hid (by rw [HVE.out]; exact hU.out), hV, hT, hO⟩, rfl, rfl⟩
      case measure => simp [intOf]; omega
     | true =>
      have hk1 : (yk == key) = false := by simpa using hw
      clear hw
      go_wp2
      go_roundw
      case rel => first | exact ⟨i + 1, by go_num, by omega, by omega, by rw [HE.out], Lib.hid (by rw [HVE.out]; exact hU.out), hV, hT, hO⟩ | exact ⟨_, _, ⟨i + 1, by go_num, by omega, by omega, by rw [HE.out], Lib.hid (by rw [HVE.out]; exact hU.out), hV, hT, hO⟩, rfl, rfl⟩
      case measure => simp [intOf]; omega
   ·have him : i = m := by omega
    subst him
    have HRE : Hid (leftW key (ops.take i) = r) := Lib.hid (by rw [HR.out, List.take_of_length_le (by rw [HMM.out]; exact Nat.le_refl _), List.take_of_length_le (by rw [HMM.out]; omega)])
    have HVE : Hid (leftV key (ops.take i) = r.getD (0, 0)) := Lib.hid (by unfold leftV; rw [HRE.out])
    have h01 : (i : Int) < (many : Int) := by omega
    have hd2 : decide ((i : Int) < (i : Int)) = false := by simp
    rw [HRE.out]
    rw [HVE.out] at hU
    generalize hgr : w.heap.size + 1 = gr at *
    have lU := hU.out.lt
    have u0 := hU.out.at_ 0
    have u1 := hU.out.at_ 1
    simp [valC] at u0 u1
    go_wp2_with (refine wpList_store_blk rfl 38 (.tmp 6) (.tmp 46) rfl gr 38 #[.int .i64 0, .int .i64 0] #[.int .i64 (r.getD (0, 0)).1, .int .i64 (r.getD (0, 0)).2] rfl rfl hV.out rfl (by kernel_rfl) (by kernel_rfl) ?_; intro w9 b9 o9; have HB9 := Lib.hid b9; have HN9 := Lib.hid o9; clear b9 o9)
    refine bodyPost_ret (results_row2 Tryz.results42 _ _ gr 38 #[.int .i64 (r.getD (0, 0)).1, .int .i64 (r.getD (0, 0)).2] _ rfl HB9.out Tryz.underlying38 rfl (by kernel_rfl)) rfl ?_
    exact ⟨rfl, hO.out.step HN9.out (fun i hi hl => by simp at hi; omega)⟩
  ·have him : i = many := by omega
   subst him
   have HRE : Hid (leftW key (ops.take i) = r) := Lib.hid HR.out.symm
   have HVE : Hid (leftV key (ops.take i) = r.getD (0, 0)) := Lib.hid (by unfold leftV; rw [HRE.out])
   have hd2 : decide ((i : Int) < (i : Int)) = false := by simp
   rw [HRE.out]
   rw [HVE.out] at hU
   generalize hgr : w.heap.size + 1 = gr at *
   have lU := hU.out.lt
   have u0 := hU.out.at_ 0
   have u1 := hU.out.at_ 1
   simp [valC] at u0 u1
   go_wp2_with (refine wpList_store_blk rfl 38 (.tmp 6) (.tmp 46) rfl gr 38 #[.int .i64 0, .int .i64 0] #[.int .i64 (r.getD (0, 0)).1, .int .i64 (r.getD (0, 0)).2] rfl rfl hV.out rfl (by kernel_rfl) (by kernel_rfl) ?_; intro w9 b9 o9; have HB9 := Lib.hid b9; have HN9 := Lib.hid o9; clear b9 o9)
   refine bodyPost_ret (results_row2 Tryz.results42 _ _ gr 38 #[.int .i64 (r.getD (0, 0)).1, .int .i64 (r.getD (0, 0)).2] _ rfl HB9.out Tryz.underlying38 rfl (by kernel_rfl)) rfl ?_
   exact ⟨rfl, hO.out.step HN9.out (fun i hi hl => by simp at hi; omega)⟩
end Go.Proofs.YtjfbeeogiejopaaGreatDoor
