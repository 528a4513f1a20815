/- writer.Of: who may have written what is read at a place. -/
import Derived.Test.YtjfbeeogiejopaaGreatDoorLaw15AllK30
import Derived.Test.YtjfbeeogiejopaaGreatDoorLaw15AllK21
import Derived.Deep.CutBlock
import Derived.Deep.DeepCutAuto
set_option linter.unusedVariables false
set_option linter.unusedSimpArgs false
namespace Go.Proofs.YtjfbeeogiejopaaGreatDoor
open Go.RowKit
open Go.Lib hiding intOf
attribute [local go_sem ↓] Go.wp_at_zero Go.wp_at_succ
set_option maxRecDepth 10000 in
set_option maxHeartbeats 8000000 in
theorem wof_any (A0 A1 A2 : Option Addr) (n0 n1 n2 c0 c1 c2 B : Nat) (h : Hst) (a b : Int) (w : World) (hg : HIn w B A0 A1 A2 n0 n1 n2 h) :
  Calls Tryz.prog 11 #[hval A0 A1 A2 n0 n1 n2 c0 c1 c2, .agg #[.int .i64 a, .int .i64 b]] w fun e w' => ∃ V, (e = .returned V ∧ w'.ownsRow w.heap.size 3 1 V (wrOf h a b).length ((wrOf h a b).map (Value.int .i64))) ∧ Only [] w w' := by
 obtain ⟨i0, hi, hz0, hz1, hz2⟩ := info_parts info_int
 have HRD := Lib.hid (fun w' (O : Only [] w w') => wreadAt_any A0 A1 A2 n0 n1 n2 c0 c1 c2 B h a b w' (hg.same O))
 have HFR := Lib.hid (fun (key : Int) (i : Nat) (t : Tx) w' (ht : h.l[i]? = some t) (O : Only [] w w') => kforread_any A0 A1 A2 n0 n1 n2 c0 c1 c2 B h a b key i t w' (hg.same O) ht)
 have HN2 := Lib.hid hg.n2
 have hn2 : n2 ≤ 1000 := by have := hg.sm.nl; rw [hg.n2] at this; exact this
 unfold hval at HRD HFR ⊢
 clear hg
 have HO1 := Lib.hid (((Only.refl [] w).alloc (.cells #[.slice A0 n0 c0, .slice A1 n1 c1, .slice A2 n2 c2] 25)).alloc (.cells #[.int .i64 a, .int .i64 b] 27))
 have HB1 := Lib.hid ((Blk.made w 25 #[.slice A0 n0 c0, .slice A1 n1 c1, .slice A2 n2 c2]).alloc (.cells #[.int .i64 a, .int .i64 b] 27))
 have HP1 := Lib.hid (Blk.made (w.alloc (.cells #[.slice A0 n0 c0, .slice A1 n1 c1, .slice A2 n2 c2] 25)) 27 #[.int .i64 a, .int .i64 b])
 simp only [World.size_alloc] at HP1
 go_enter Tryz.func11, Tryz.ntmps11
 go_upto_region 1 with (fail)
 generalize ((w.alloc (.cells #[.slice A0 n0 c0, .slice A1 n1 c1, .slice A2 n2 c2] 25)).alloc (.cells #[.int .i64 a, .int .i64 b] 27)) = w1 at *
 generalize hgp : w.heap.size + 1 = gp at *
 generalize hgg : w.heap.size = g at *
 have hgz : g ≤ w1.heap.size := by have := HO1.out.size; omega
 have lB := HB1.out.lt
 have y0 := HB1.out.at_ 0
 have y1 := HB1.out.at_ 1
 have y2 := HB1.out.at_ 2
 have lP := HP1.out.lt
 have p0 := HP1.out.at_ 0
 have p1 := HP1.out.at_ 1
 simp at y0 y1 y2 p0 p1
 go_wp2_with fail
 refine (HRD.out _ HO1.out).mono ?_
 rintro e w2 ⟨o, ⟨rfl, ho⟩, O2⟩
 have HO2 := Lib.hid (HO1.out.trans O2)
 have HB2 := Lib.hid (O2.blk HB1.out (by simp))
 have HP2 := Lib.hid (O2.blk HP1.out (by simp))
 have hgz2 : g ≤ w2.heap.size := by have := HO2.out.size; omega
 have HRO := Lib.hid ho
 obtain ⟨ow, ok, ov, on⟩ := o
 unfold opV
 dsimp only
 clear O2 HO1 HB1 HP1 HRD lB y0 y1 y2 lP p0 p1 ho hgz
 cases hr : readO h a b with
 | none =>
  have HE := Lib.hid (wrOf_none hr)
  rw [Option.isSome_none]
  clear hr HRO
  go_upto_region 2 with (fail)
  have HO3 := Lib.hid (HO2.out.alloc (.cells #[.bool ow, .int .i64 ok, .int .i64 ov, .int .i64 on] 48))
  generalize (w2.alloc (.cells #[.bool ow, .int .i64 ok, .int .i64 ov, .int .i64 on] 48)) = w3 at *
  go_wp2
  go_ret
  exact ⟨_, ⟨rfl, by rw [HE.out]; exact ⟨rfl, .inl ⟨rfl, rfl⟩⟩⟩, HO3.out⟩
 | some x =>
  obtain ⟨t0, o0⟩ := x
  have e0 := HRO.out _ hr
  dsimp only at e0
  subst e0
  have HE := Lib.hid (wrOf_some hr)
  dsimp only at HE
  rw [Option.isSome_some]
  clear hr HRO
  go_upto_region 2 with (fail)
  have HO3 := Lib.hid (HO2.out.alloc (.cells #[.bool ow, .int .i64 ok, .int .i64 ov, .int .i64 on] 48))
  have HR3 := Lib.hid (Blk.made w2 48 #[.bool ow, .int .i64 ok, .int .i64 ov, .int .i64 on])
  have HB3 := Lib.hid (HB2.out.alloc (.cells #[.bool ow, .int .i64 ok, .int .i64 ov, .int .i64 on] 48))
  have HP3 := Lib.hid (HP2.out.alloc (.cells #[.bool ow, .int .i64 ok, .int .i64 ov, .int .i64 on] 48))
  clear HO2 HB2 HP2
  generalize (w2.alloc (.cells #[.bool ow, .int .i64 ok, .int .i64 ov, .int .i64 on] 48)) = w3 at *
  generalize hgr : w2.heap.size = gr at *
  have hgz3 : g ≤ w3.heap.size := by have := HR3.out.lt; omega
  have lR := HR3.out.lt
  have r1 := HR3.out.at_ 1
  have r2 := HR3.out.at_ 2
  have r3 := HR3.out.at_ 3
  simp at r1 r2 r3
  go_upto_region 5 with (fail)
  go_upto_if 22 with (fail)
  go_cut [7] (fun v wx => Hid (wx.ownsRow g 3 1 v (headW (ov, on)).length ((headW (ov, on)).map (Value.int .i64))) ∧ Hid (Only [] w3 wx))
  case first =>
   by_cases hv : ov = 1
   ·have d1 : (ov != 1) = false := by simp [hv]
    have HW : Hid (headW (ov, on) = []) := Lib.hid (by unfold headW; rw [if_pos hv])
    clear hv
    go_wp2
    go_meet
    exact ⟨Lib.hid (by rw [HW.out]; exact ⟨rfl, .inl ⟨rfl, rfl⟩⟩), Lib.hid (Only.refl _ _)⟩
   ·have d1 : (ov != 1) = true := by simp [hv]
    have HW : Hid (headW (ov, on) = [-1]) := Lib.hid (by unfold headW; rw [if_neg hv])
    clear hv
    go_wp2_with (at_builtin; refine wpList_append_row _ rfl (.tmp 23) (.tmp 24) _ rfl g 3 i0 _ 1 8 Tryz.underlying30 hi hz0 hz1 hz2 rfl (by omega) _ 0 [] rfl ⟨rfl, .inl ⟨rfl, rfl⟩⟩ (w3.heap.size + 1) (some ⟨w3.heap.size, 0, none⟩) 1 1 [.int .i64 (-1)] rfl rfl (row_lit w3 3 #[.int .i64 (-1)]) (by simp [Value.oneCell']) (by unfold maxLen; omega) (by omega) (by simp; omega) ?_; intro v4 w4 hown4 hgrow hat)
    go_meet
    refine ⟨Lib.hid ?_, Lib.hid (((Only.refl [] w3).alloc (.cells #[.int .i64 (-1)] 3)).step (only_grown hgrow) (fun i (hi : i ∈ ([] : List Nat)) => by cases hi))⟩
    rw [HW.out]
    simpa using hown4
  case rest =>
   obtain ⟨HV, HOC⟩ := hcut
   have HO5 := Lib.hid (HO3.out.trans HOC.out)
   have HR5 := Lib.hid (HOC.out.blk HR3.out (by simp))
   have HB5 := Lib.hid (HOC.out.blk HB3.out (by simp))
   have HP5 := Lib.hid (HOC.out.blk HP3.out (by simp))
   clear HOC HO3 HR3 HB3 HP3 lR r1 r2 r3
   have lB := HB5.out.lt
   have y2 := HB5.out.at_ 2
   simp at y2
   have HW5 := Lib.hid (Only.refl [] wc)
   obtain ⟨w5, hw5⟩ : ∃ w5 : World, w5 = wc := ⟨_, rfl⟩
   subst hw5
   have hgw5 : g ≤ w5.heap.size := by have := HO5.out.size; omega
   have hgr5 : gr < w5.heap.size := HR5.out.lt
   go_wp2_with fail
   go_loopw [7, 29] (fun V iv wr => ∃ k : Nat, iv = .int .i64 k ∧ k ≤ n2 ∧ Hid (wr.ownsRow g 3 1 V (headW (ov, on) ++ whoL a ok (ov, on) (h.l.take k)).length ((headW (ov, on) ++ whoL a ok (ov, on) (h.l.take k)).map (Value.int .i64))) ∧ Hid (Blk wr gr 48 #[.bool ow, .int .i64 ok, .int .i64 ov, .int .i64 on]) ∧ Hid (Blk wr g 25 #[.slice A0 n0 c0, .slice A1 n1 c1, .slice A2 n2 c2]) ∧ Hid (Blk wr gp 27 #[.int .i64 a, .int .i64 b]) ∧ Hid (Only [] w wr)) (fun _ iv _ => n2 - (intOf iv).toNat)
   case atStart => exact ⟨0, rfl, by omega, Lib.hid (by simpa [whoL] using HV.out), HR5, HB5, HP5, HO5⟩
   case round =>
    obtain ⟨k, rfl, hk, hV, hR, hB, hP, hO⟩ := hrel
    clear HV HR5 HB5 HP5 HO5 HW5 lB y2
    have hsz : g ≤ wr.heap.size := by have := hO.out.size; omega
    by_cases hlt : k < n2
    ·obtain ⟨x, hx⟩ : ∃ x, h.l[k]? = some x := ⟨_, List.getElem?_eq_getElem (by rw [HN2.out]; exact hlt)⟩
     have HWT : Hid (headW (ov, on) ++ whoL a ok (ov, on) (h.l.take (k + 1)) = (headW (ov, on) ++ whoL a ok (ov, on) (h.l.take k)) ++ if fitsO (ov, on) (forT a ok k x) = true then [(k : Int)] else []) := Lib.hid (by rw [whoL_take hx, List.append_assoc])
     have hwl := whoL_le a ok (ov, on) (h.l.take k)
     have hhl := headW_le (ov, on)
     rw [List.length_take] at hwl
     have HCALL := Lib.hid (HFR.out ok k x wr hx hO.out)
     have hlen : (headW (ov, on) ++ whoL a ok (ov, on) (h.l.take k)).length ≤ 1 + k := by rw [List.length_append]; omega
     generalize headW (ov, on) ++ whoL a ok (ov, on) (h.l.take k) = pre at *
     have h01 : (k : Int) < (n2 : Int) := by omega
     have hk0 : (0 : Int) ≤ (k : Int) := Int.natCast_nonneg _
     have hwk : IntKind.i64.wrap ((k : Int) + 1) = (k : Int) + 1 := IntWalk.i64_in _ (by omega)
     generalize hfv : forT a ok k x = fv at *
     have lB := hB.out.lt
     have y0 := hB.out.at_ 0
     have y1 := hB.out.at_ 1
     have y2 := hB.out.at_ 2
     have lP := hP.out.lt
     have p0 := hP.out.at_ 0
     have p1 := hP.out.at_ 1
     have lR := hR.out.lt
     have r1 := hR.out.at_ 1
     simp at y0 y1 y2 p0 p1 r1
     clear hx hwl hhl hfv
     go_wp2_with fail
     refine (HCALL.out).mono ?_
     rintro e w6 ⟨rfl, O6⟩
     have HO6 := Lib.hid (hO.out.trans O6)
     have HV6 := Lib.hid (own_only hV.out O6 (by simp))
     have HR6 := Lib.hid (O6.blk hR.out (by simp))
     have HB6 := Lib.hid (O6.blk hB.out (by simp))
     have HP6 := Lib.hid (O6.blk hP.out (by simp))
     unfold optT optV
     clear O6 lB y0 y1 y2 lP p0 p1 lR r1 hV hR hB hP hO HCALL
     generalize hf1 : (fv.getD (0, 0)).1 = f1 at *
     generalize hf2 : (fv.getD (0, 0)).2 = f2 at *
     have HFIT : Hid (fitsO (ov, on) fv = (fv.isSome && (decide (ov = 2) || (decide (ov = f1) && decide (on = f2))))) := Lib.hid (by
      cases fv with
      | none => rfl
      | some u => subst hf1 hf2; simp [fitsO, fitsV, Prod.ext_iff])
     generalize hfs : fv.isSome = fs at *
     clear hf1 hf2 hfs
     generalize hft : fitsO (ov, on) fv = ft at *
     clear hft
     go_upto_region 11 with (fail)
     have HO7 := Lib.hid (HO6.out.alloc (.cells #[.int .i64 f1, .int .i64 f2] 38))
     have HV7 := Lib.hid (own_only HV6.out ((Only.refl [] w6).alloc (.cells #[.int .i64 f1, .int .i64 f2] 38)) (by simp))
     have HR7 := Lib.hid (HR6.out.alloc (.cells #[.int .i64 f1, .int .i64 f2] 38))
     have HB7 := Lib.hid (HB6.out.alloc (.cells #[.int .i64 f1, .int .i64 f2] 38))
     have HP7 := Lib.hid (HP6.out.alloc (.cells #[.int .i64 f1, .int .i64 f2] 38))
     have HU7 := Lib.hid (Blk.made w6 38 #[.int .i64 f1, .int .i64 f2])
     clear HO6 HV6 HR6 HB6 HP6
     generalize (w6.alloc (.cells #[.int .i64 f1, .int .i64 f2] 38)) = w7 at *
     generalize w6.heap.size = gu at *
     have hsz7 : g ≤ w7.heap.size := by have := HO7.out.size; omega
     go_cut [53] (fun z wx => z = .bool ft ∧ wx = w7)
     case first =>
      have lU := HU7.out.lt
      have u0 := HU7.out.at_ 0
      have u1 := HU7.out.at_ 1
      have lR := HR7.out.lt
      have r2 := HR7.out.at_ 2
      have r3 := HR7.out.at_ 3
      simp at u0 u1 r2 r3
      cases fs with
      | false =>
       obtain rfl : ft = false := by rw [HFIT.out]; rfl
       go_wp2
       go_meet
       exact ⟨rfl, rfl⟩
      | true =>
       by_cases q1 : ov = 2
       ·obtain rfl : ft = true := by rw [HFIT.out]; simp [q1]
        have d1 : (ov == 2) = true := by simpa using q1
        clear q1
        go_wp2
        go_meet
        exact ⟨rfl, rfl⟩
       ·have d1 : (ov == 2) = false := by simpa using q1
        by_cases q2 : ov = f1
        ·by_cases q3 : on = f2
         ·obtain rfl : ft = true := by rw [HFIT.out]; simp [q2, q3]
          subst q2 q3
          clear q1
          go_wp2
          go_meet
          exact ⟨rfl, rfl⟩
         ·obtain rfl : ft = false := by rw [HFIT.out]; simp [q1, q3]
          have d3 : (on == f2) = false := by simpa using q3
          subst q2
          clear q1 q3
          go_wp2
          go_meet
          exact ⟨rfl, rfl⟩
        ·obtain rfl : ft = false := by rw [HFIT.out]; simp [q1, q2]
         have d3 : (ov == f1) = false := by simpa using q2
         clear q1 q2
         go_wp2
         go_meet
         exact ⟨rfl, rfl⟩
     case rest =>
      obtain ⟨rfl, rfl⟩ := hcut
      cases ft with
      | false =>
       have HE2 : Hid (headW (ov, on) ++ whoL a ok (ov, on) (h.l.take (k + 1)) = pre) := Lib.hid (by rw [HWT.out]; simp)
       clear HWT
       go_wp2
       go_roundw
       case rel => exact ⟨k + 1, by go_num, by omega, Lib.hid (by rw [HE2.out]; exact HV7.out), HR7, HB7, HP7, HO7⟩
       case measure => simp [intOf]; omega
      | true =>
       go_wp2_with (at_builtin; refine wpList_append_row _ rfl (.tmp 54) (.tmp 56) _ rfl g 3 i0 _ 1 8 Tryz.underlying30 hi hz0 hz1 hz2 rfl (by omega) _ _ _ rfl (own_only HV7.out ((Only.refl [] _).alloc _) (by simp)) (wc.heap.size + 1) (some ⟨wc.heap.size, 0, none⟩) 1 1 [.int .i64 (k : Int)] rfl rfl (row_lit wc 3 #[.int .i64 (k : Int)]) (by simp [Value.oneCell']) (by unfold maxLen; omega) (by omega) (by simp; omega) ?_; intro v8 w8 hown8 hgrow hat)
       have REL : w8.ownsRow g 3 1 v8 (headW (ov, on) ++ whoL a ok (ov, on) (h.l.take (k + 1))).length ((headW (ov, on) ++ whoL a ok (ov, on) (h.l.take (k + 1))).map (Value.int .i64)) := by
        rw [HWT.out]
        simpa using hown8
       have HV9 := Lib.hid REL
       have HVa := own_only HV7.out ((Only.refl [] wc).alloc (.cells #[.int .i64 (k : Int)] 3)) (by simp)
       have HR9 := Lib.hid ((only_grown hgrow).blk (HR7.out.alloc (.cells #[.int .i64 (k : Int)] 3)) (own_apart HVa (HR7.out.alloc (.cells #[.int .i64 (k : Int)] 3)) (by decide)))
       have HB9 := Lib.hid ((only_grown hgrow).blk (HB7.out.alloc (.cells #[.int .i64 (k : Int)] 3)) (own_apart HVa (HB7.out.alloc (.cells #[.int .i64 (k : Int)] 3)) (by decide)))
       have HP9 := Lib.hid ((only_grown hgrow).blk (HP7.out.alloc (.cells #[.int .i64 (k : Int)] 3)) (own_apart HVa (HP7.out.alloc (.cells #[.int .i64 (k : Int)] 3)) (by decide)))
       have HO9 := Lib.hid ((HO7.out.alloc (.cells #[.int .i64 (k : Int)] 3)).step (only_grown hgrow) (fun i hi hl => by have := own_new HVa (S := []) i hi; rw [hgg] at hl; exact this hl))
       clear REL hown8 hgrow hat HVa HWT
       go_wp2
       go_roundw
       case rel => first | exact ⟨k + 1, by go_num, by omega, HV9, HR9, HB9, HP9, HO9⟩ | exact ⟨_, ⟨k + 1, by go_num, by omega, HV9, HR9, HB9, HP9, HO9⟩, rfl⟩
       case measure => simp [intOf]; omega
    ·have hkn : k = n2 := by omega
     subst hkn
     have hd2 : decide ((k : Int) < (k : Int)) = false := by simp
     have HVV : Hid (wr.ownsRow g 3 1 u7 (wrOf h a b).length ((wrOf h a b).map (Value.int .i64))) := Lib.hid (by
      have := hV.out
      rw [List.take_of_length_le (by rw [HN2.out]; exact Nat.le_refl _)] at this
      rw [HE.out]
      exact this)
     clear hV
     go_wp2
     go_ret
     exact ⟨_, ⟨rfl, by rw [hgg]; exact HVV.out⟩, hO.out⟩
end Go.Proofs.YtjfbeeogiejopaaGreatDoor
