/- The document's values: SameList at the same values. A history as a value that a call has returned. WriterOf: the walk. A row's wrap that hands the walk both the laid variables and the world's shape. The table of an event's words and the tables of unicode/utf8 lie where the program's text lays them. -/
import Derived.Test.YtjfbeeogiejopaaGreatDoorWriterOfCardK31
import Derived.Test.YtjfbeeogiejopaaGreatDoorWriterOfCardK25
import Derived.Test.YtjfbeeogiejopaaGreatDoorWriterOfCardK24
import Derived.Test.YtjfbeeogiejopaaGreatDoorWriterOfCardK37
import Derived.Test.YtjfbeeogiejopaaGreatDoorWriterOfCardK45
import Derived.Test.YtjfbeeogiejopaaGreatDoorWriterOfCardK48
import Derived.Handed
import Derived.Shelf.Vars
import Derived.HandedShaped
import Derived.Test.YtjfbeeogiejopaaGreatDoorWriterOfCardK7
import Derived.Test.YtjfbeeogiejopaaGreatDoorWriterOfCardK2
import Derived.Test.YtjfbeeogiejopaaGreatDoorWriterOfCardK4
import Derived.LaidMore
import Derived.Lib.LaidIn
import Derived.Lib.LaidU8T
import Derived.Stop.Joined
import Derived.JoinedOf
set_option linter.unusedVariables false
set_option linter.unusedSimpArgs false
namespace Go.Proofs.YtjfbeeogiejopaaGreatDoor
open Go.RowKit
set_option maxHeartbeats 1000000 in
theorem sameList_eq (A A' : Option Addr) (n c d : Nat) (l : List (Int × Int)) (w : World) (B B' : Nat) (hA : Row w B A (edgeC l)) (hA' : Row w B' A' (edgeC l)) (hn : l.length = n) (hnm : n ≤ 9223372036854775807) :
  Calls Tryz.prog 13 #[.slice A n c, .slice A' n d] w fun e w' => e = .returned (.bool true) ∧ ∃ k, w.drewN k = w' := by
 have HA := Lib.hid hA
 have HA' := Lib.hid hA'
 have HN := Lib.hid hn
 clear hA hA' hn
 go_enter Tryz.func13, Tryz.ntmps13
 go_wp2_with fail
 go_loopw [5] (fun i wr => ∃ k q : Nat, i = .int .i64 k ∧ k ≤ n ∧ Hid (wr = w.drewN q)) (fun i _ => n - (intOf i).toNat)
 case atStart => exact ⟨0, 0, rfl, by omega, rfl⟩
 case round =>
  obtain ⟨k, q, rfl, hk, hw⟩ := hrel
  have hxl := HN.out
  by_cases hlt : k < n
  ·obtain ⟨b, off, rfl, -, hbw, hc⟩ := HA.out.open_ (k := k * 2) (by rw [edgeC_len]; omega)
   obtain ⟨b', off', rfl, -, hbw', hc'⟩ := HA'.out.open_ (k := k * 2) (by rw [edgeC_len]; omega)
   obtain ⟨e, he⟩ : ∃ e, l[k]? = some e := ⟨_, List.getElem?_eq_getElem (by omega)⟩
   obtain ⟨x, y⟩ := e
   have hee := edgeC_get l k _ he
   have hc0 : wr.cell? ⟨b, off + k * 2, none⟩ = some (.int .i64 x) := by rw [hw.out]; exact hc _ _ hee.1
   have hc1 : wr.cell? ⟨b, off + k * 2 + 1, none⟩ = some (.int .i64 y) := by rw [hw.out, Nat.add_assoc]; exact hc _ _ hee.2
   have hc2 : wr.cell? ⟨b', off' + k * 2, none⟩ = some (.int .i64 x) := by rw [hw.out]; exact hc' _ _ hee.1
   have hc3 : wr.cell? ⟨b', off' + k * 2 + 1, none⟩ = some (.int .i64 y) := by rw [hw.out, Nat.add_assoc]; exact hc' _ _ hee.2
   have hk0 : (0 : Int) ≤ (k : Int) := Int.natCast_nonneg _
   have hk1 : (k : Int) < (n : Int) := by omega
   clear hc hc' hxl hee he
   go_wp2_with fail
   go_quiet (fail)
   go_wp2
   go_roundw
   case rel =>
    refine ⟨k + 1, q + nq, by go_num, by omega, ?_⟩
    show _ = _
    rw [hw.out, World.drewN_drewN]
   case measure => simp [intOf]; omega
  ·have hge : n ≤ k := by omega
   clear hxl
   go_wp2
   go_ret
   exact ⟨rfl, q, hw.out.symm⟩
end Go.Proofs.YtjfbeeogiejopaaGreatDoor

set_option linter.unusedVariables false
set_option linter.unusedSimpArgs false
namespace Go.Proofs.YtjfbeeogiejopaaGreatDoor
/-- The value y is a history that lies there. -/
def HAgg (w : World) (m0 m1 m2 : Nat) (G : Hst) (y : Value) : Prop := ∃ B D0 D1 D2 f0 f1 f2, y = .agg #[.slice D0 m0 f0, .slice D1 m1 f1, .slice D2 m2 f2] ∧ HIn w B D0 D1 D2 m0 m1 m2 G
theorem HAgg.same {w w' : World} {m0 m1 m2 : Nat} {G : Hst} {y : Value} (h : HAgg w m0 m1 m2 G y) (O : Only [] w w') : HAgg w' m0 m1 m2 G y := by
 obtain ⟨B, D0, D1, D2, f0, f1, f2, e, hI⟩ := h
 exact ⟨B, D0, D1, D2, f0, f1, f2, e, hI.same O⟩
end Go.Proofs.YtjfbeeogiejopaaGreatDoor

set_option linter.unusedVariables false
set_option linter.unusedSimpArgs false
namespace Go.Proofs.YtjfbeeogiejopaaGreatDoor
open Go.RowKit
open Go.Lib hiding intOf
attribute [local go_sem ↓] Go.wp_at_zero Go.wp_at_succ
theorem few_int {h : Hst} (hI : HInt h) : HInt (fewH h) := fun t ht x hx => by
 obtain ⟨u, hu, rfl⟩ := List.mem_map.1 ht
 exact hI u (List.mem_of_mem_take hu) x (List.mem_of_mem_take hx)
theorem sortV_le (l : List (Int × Int)) : (sortV l).length ≤ l.length :=
 nodup_len _ _ ((List.nodup_iff_pairwise_ne.2 ((sortV_vals l).1.1.imp (fun {a b} hab e => by rw [e, lessV_irr] at hab; cases hab)))) (fun x hx => (((sortV_vals l).2 x).1 hx).1)
theorem valsH_le (h : Hst) (a b : Int) : (valsH h a b).length ≤ h.l.length + 1 := by
 unfold valsH
 cases readO h a b with
 | none => simp
 | some x =>
  have h1 := sortV_le (valsO a x.2.key h.l)
  have h2 := leftL_le a x.2.key h.l
  unfold valsO at *
  simp only [List.length_cons] at h1
  dsimp only
  omega
theorem wrOf_le (h : Hst) (a b : Int) : (wrOf h a b).length ≤ h.l.length + 1 := by
 unfold wrOf
 cases readO h a b with
 | none => simp
 | some x =>
  have h1 := whoL_le a x.2.key (x.2.vk, x.2.vn) h.l
  have h2 := headW_le (x.2.vk, x.2.vn)
  simp only [List.length_append]
  omega
set_option maxRecDepth 10000 in
set_option maxHeartbeats 8000000 in
theorem writerOf_walk (A0 A1 A2 : Option Addr) (c0 c1 c2 : Nat) (h : Hst) (a b : Int) (w : World) (hg : HAt w w.heap.size A0 A1 A2 h) (hm0 : h.ss.length ≤ maxLen) (hm1 : h.ks.length ≤ maxLen) (hm2 : h.l.length ≤ maxLen)
  (hz0 : ∀ z ∈ h.ss, z.size ≤ maxLen) (hz1 : ∀ z ∈ h.ks, z.size ≤ maxLen) (hI : HInt h) (hT : UTabs w) (hM : MLen w) (hV : Verbs w) :
  Calls Tryz.prog 3 #[hval A0 A1 A2 h.ss.length h.ks.length h.l.length c0 c1 c2, .agg #[.int .i64 a, .int .i64 b]] w fun e w' => e = .returned (.bool true) ∧ Only [] w w' := by
 unfold hval
 have HW := Lib.hid (fun w' (h : Only [] w w') => works15_any w' (hT.only h) (hM.only h) (hV.only h))
 have HF0 := Lib.hid (fun w' (O : Only [] w w') => few_first A0 A1 A2 c0 c1 c2 h w' (hg.only O (by simp)).up hm0 hm1 hm2 hz0 hz1 (hT.only O))
 have HFE := Lib.hid (few_few h)
 have HIG := few_int hI
 have HT := Lib.hid hT
 generalize fewH h = G at *
 generalize h.ss.length = n0 at *
 generalize h.ks.length = n1 at *
 generalize h.l.length = n2 at *
 generalize G.ss.length = m0 at *
 generalize G.ks.length = m1 at *
 generalize hm2e : G.l.length = m2 at *
 clear hg hm0 hm1 hm2 hz0 hz1 hT hM hV hI
 have HB := Lib.hid ((Blk.made w 25 #[.slice A0 n0 c0, .slice A1 n1 c1, .slice A2 n2 c2]).alloc (.cells #[.int .i64 a, .int .i64 b] 27))
 have HP := Lib.hid (Blk.made (w.alloc (.cells #[.slice A0 n0 c0, .slice A1 n1 c1, .slice A2 n2 c2] 25)) 27 #[.int .i64 a, .int .i64 b])
 rw [World.size_alloc] at HP
 have HO1 := Lib.hid (((Only.refl [] w).alloc (.cells #[.slice A0 n0 c0, .slice A1 n1 c1, .slice A2 n2 c2] 25)).alloc (.cells #[.int .i64 a, .int .i64 b] 27))
 have HOF := Lib.hid (fun (D0 D1 D2 : Option Addr) (f0 f1 f2 B : Nat) w' (hI : HIn w' B D0 D1 D2 m0 m1 m2 G) => wof_any D0 D1 D2 m0 m1 m2 f0 f1 f2 B G a b w' hI)
 have HROF := Lib.hid (fun (D0 D1 D2 : Option Addr) (f0 f1 f2 B : Nat) w' (hI : HIn w' B D0 D1 D2 m0 m1 m2 G) => rof15_any D0 D1 D2 m0 m1 m2 f0 f1 f2 B G a b w' hI)
 have HVA := Lib.hid (fun (D0 D1 D2 : Option Addr) (f0 f1 f2 B : Nat) w' (hI : HIn w' B D0 D1 D2 m0 m1 m2 G) => wvalues_any D0 D1 D2 m0 m1 m2 f0 f1 f2 B G a b w' hI HIG)
 have HRVA := Lib.hid (fun (D0 D1 D2 : Option Addr) (f0 f1 f2 B : Nat) w' (hI : HIn w' B D0 D1 D2 m0 m1 m2 G) => rvalues15_any D0 D1 D2 m0 m1 m2 f0 f1 f2 B G a b w' hI)
 have hle := wrOf_le G a b
 have hvl := valsH_le G a b
 unfold hval at HOF HROF HVA HRVA
 generalize hr1 : wrOf G a b = r1 at *
 generalize hr2 : valsH G a b = r2 at *
 clear hr1 hr2 HIG
 go_enter Tryz.func3, Tryz.ntmps3
 go_wp2_with fail
 refine (HF0.out _ HO1.out).mono ?_
 rintro e w2 ⟨B0, B1, B2, d0, d1, d2, ⟨rfl, hI⟩, O2⟩
 have HI := Lib.hid hI
 have HSM := Lib.hid hI.sm.nl
 have HB2 := Lib.hid (O2.blk HB.out (by simp))
 have HP2 := Lib.hid (O2.blk HP.out (by simp))
 have HO2 := Lib.hid (HO1.out.trans O2)
 clear hI O2 HB HP HO1 HF0
 go_wp2_with (refine wpList_store_blk rfl 25 (.tmp 2) (.tmp 6) rfl w.heap.size 25 _ #[.slice B0 m0 d0, .slice B1 m1 d1, .slice B2 m2 d2] rfl rfl HB2.out rfl (by kernel_rfl) (by kernel_rfl) ?_; intro w3 hb3 o3; have HB3 := Lib.hid hb3; have HP3 := Lib.hid (o3.blk HP2.out (by simp)); have HO3 := Lib.hid (HO2.out.step o3 (fun i hi hl => by simp at hi; omega)); have HI3 := Lib.hid (HI.out.past HB2.out o3 (HT.out.only HO3.out)); clear hb3 o3; generalize hg1 : w.heap.size = g at *; generalize hg2 : g + 1 = gp at *; clear HI HB2 HO2 HP2)
 have hr1l : r1.length ≤ 2000 := by have := HSM.out; rw [hm2e] at hle this; omega
 have hr2l : r2.length ≤ 2000 := by have := HSM.out; rw [hm2e] at hvl this; omega
 clear hle hvl HSM
 refine wp_region_noPanic ?_
 refine wp_region_timed (F := [⟨[], [], fun w' => Only [] w3 w'⟩]) (by kernel_rfl) (timed_holds ((Only.refl [] w3).drew) (timed_nil)) ?_
 refine timed_read (i := 0) (v := ?_) 0 rfl (by kernel_rfl) (by kernel_rfl) (by kernel_rfl) (fun _ _ _ h => h) (by kernel_rfl) (by kernel_rfl) rfl (by kernel_rfl) ?_ ?_
 rotate_left
 ·(intro wq hSw; (try dsimp only at hSw); have hb_H := hSw.blk HB3.out (by simp); have lb_H := hb_H.lt; have y0 := hb_H.at_ 0; have y1 := hb_H.at_ 1; have y2 := hb_H.at_ 2; simp at y0 y1 y2; clear hb_H; have hb_P := hSw.blk HP3.out (by simp); have lb_P := hb_P.lt; have p0 := hb_P.at_ 0; have p1 := hb_P.at_ 1; simp at p0 p1; clear hb_P; clear hSw; go_simp; try with_reducible rfl)
 try simp only [Act.put, tdy]
 refine timed_read (i := 2) (v := ?_) 0 rfl (by kernel_rfl) (by kernel_rfl) (by kernel_rfl) (fun _ _ _ h => h) (by kernel_rfl) (by kernel_rfl) rfl (by kernel_rfl) ?_ ?_
 rotate_left
 ·(intro wq hSw; (try dsimp only at hSw); have hb_H := hSw.blk HB3.out (by simp); have lb_H := hb_H.lt; have y0 := hb_H.at_ 0; have y1 := hb_H.at_ 1; have y2 := hb_H.at_ 2; simp at y0 y1 y2; clear hb_H; have hb_P := hSw.blk HP3.out (by simp); have lb_P := hb_P.lt; have p0 := hb_P.at_ 0; have p1 := hb_P.at_ 1; simp at p0 p1; clear hb_P; clear hSw; go_simp; try with_reducible rfl)
 try simp only [Act.put, tdy]
 refine timed_read (i := 4) (v := ?_) 0 rfl (by kernel_rfl) (by kernel_rfl) (by kernel_rfl) (fun _ _ _ h => h) (by kernel_rfl) (by kernel_rfl) rfl (by kernel_rfl) ?_ ?_
 rotate_left
 ·(intro wq hSw; (try dsimp only at hSw); have hb_H := hSw.blk HB3.out (by simp); have lb_H := hb_H.lt; have y0 := hb_H.at_ 0; have y1 := hb_H.at_ 1; have y2 := hb_H.at_ 2; simp at y0 y1 y2; clear hb_H; have hb_P := hSw.blk HP3.out (by simp); have lb_P := hb_P.lt; have p0 := hb_P.at_ 0; have p1 := hb_P.at_ 1; simp at p0 p1; clear hb_P; clear hSw; go_simp; try with_reducible rfl)
 try simp only [Act.put, tdy]
 refine timed_read (i := 5) (v := ?_) 0 rfl (by kernel_rfl) (by kernel_rfl) (by kernel_rfl) (fun _ _ _ h => h) (by kernel_rfl) (by kernel_rfl) rfl (by kernel_rfl) ?_ ?_
 rotate_left
 ·(intro wq hSw; (try dsimp only at hSw); have hb_H := hSw.blk HB3.out (by simp); have lb_H := hb_H.lt; have y0 := hb_H.at_ 0; have y1 := hb_H.at_ 1; have y2 := hb_H.at_ 2; simp at y0 y1 y2; clear hb_H; have hb_P := hSw.blk HP3.out (by simp); have lb_P := hb_P.lt; have p0 := hb_P.at_ 0; have p1 := hb_P.at_ 1; simp at p0 p1; clear hb_P; clear hSw; go_simp; try with_reducible rfl)
 try simp only [Act.put, tdy]
 refine timed_step (i := 1) (by kernel_rfl) rfl (fun K hK => ?_)
 go_simp
 refine (few_in _ _ _ _ _ _ _ _ _ _ _ _ (HI3.out.same (Only.refl [] w3).drew) HFE.out).mono ?_
 rintro e w4 ⟨D0, D1, D2, f0, f1, f2, ⟨rfl, hI4⟩, O4⟩
 have HI4 := Lib.hid hI4
 have HO4 := Lib.hid ((Only.refl [] w3).drew.trans O4)
 clear hI4 O4
 refine hK.out _ _ (timed_holds (HO4.out) (timed_nil)) ?_
 clear hK K
 try simp only [Act.put, tdy]
 refine timed_step (i := 3) (by kernel_rfl) rfl (fun K hK => ?_)
 go_simp
 refine (HOF.out _ _ _ _ _ _ _ _ HI4.out).mono ?_
 rintro e w5 ⟨V5, ⟨rfl, hV5⟩, O5⟩
 obtain ⟨A5, c5, rfl, -, -, -, hr5⟩ := own_row hV5
 have HR5 := Lib.hid hr5
 have HO5 := Lib.hid (HO4.out.trans O5)
 clear hV5 hr5 O5 HI4
 refine hK.out _ _ (timed_holds (HO5.out) (timed_nil)) ?_
 clear hK K
 try simp only [Act.put, tdy]
 refine timed_step (i := 6) (by kernel_rfl) rfl (fun K hK => ?_)
 go_simp
 refine (HROF.out _ _ _ _ _ _ _ _ (HI3.out.same HO5.out)).mono ?_
 rintro e w6 ⟨V6, ⟨rfl, hV6⟩, O6⟩
 obtain ⟨A6, c6, rfl, -, -, -, hr6⟩ := own_row hV6
 have HR6 := Lib.hid hr6
 have HR56 := Lib.hid (HR5.out.only O6 (by simp))
 have HO6 := Lib.hid (HO5.out.trans O6)
 clear hV6 hr6 O6 HR5
 refine hK.out _ _ (timed_holds (HO6.out) (timed_nil)) ?_
 clear hK K
 try simp only [Act.put, tdy]
 refine timed_step (i := 7) (by kernel_rfl) rfl (fun K hK => ?_)
 go_simp
 refine (sameInts_any _ _ _ _ _ _ r1 r1 _ _ _ HR56.out HR6.out rfl rfl (by omega) (by omega)).mono ?_
 rintro e w7 ⟨rfl, q7, rfl⟩
 rw [decide_eq_true (rfl : r1 = r1)]
 have HO7 := Lib.hid (HO6.out.drewN q7)
 clear HR56 HR6
 refine hK.out _ _ (timed_holds (HO7.out) (timed_nil)) ?_
 clear hK K
 try simp only [Act.put, tdy]
 refine timed_pure (i := 8) (v := ?_) rfl (by kernel_rfl) (by kernel_rfl) (by kernel_rfl) (fun _ _ _ h => h) (by kernel_rfl) (by kernel_rfl) ?_ ?_
 rotate_left
 ·(intro w; go_simp; try with_reducible rfl)
 try simp only [Act.put, tdy]
 refine timed_read (i := 9) (v := ?_) 0 rfl (by kernel_rfl) (by kernel_rfl) (by kernel_rfl) (fun _ _ _ h => h) (by kernel_rfl) (by kernel_rfl) rfl (by kernel_rfl) ?_ ?_
 rotate_left
 ·(intro wq hSw; (try dsimp only at hSw); have hb_H := hSw.blk HB3.out (by simp); have lb_H := hb_H.lt; have y0 := hb_H.at_ 0; have y1 := hb_H.at_ 1; have y2 := hb_H.at_ 2; simp at y0 y1 y2; clear hb_H; have hb_P := hSw.blk HP3.out (by simp); have lb_P := hb_P.lt; have p0 := hb_P.at_ 0; have p1 := hb_P.at_ 1; simp at p0 p1; clear hb_P; clear hSw; go_simp; try with_reducible rfl)
 try simp only [Act.put, tdy]
 refine timed_read (i := 11) (v := ?_) 0 rfl (by kernel_rfl) (by kernel_rfl) (by kernel_rfl) (fun _ _ _ h => h) (by kernel_rfl) (by kernel_rfl) rfl (by kernel_rfl) ?_ ?_
 rotate_left
 ·(intro wq hSw; (try dsimp only at hSw); have hb_H := hSw.blk HB3.out (by simp); have lb_H := hb_H.lt; have y0 := hb_H.at_ 0; have y1 := hb_H.at_ 1; have y2 := hb_H.at_ 2; simp at y0 y1 y2; clear hb_H; have hb_P := hSw.blk HP3.out (by simp); have lb_P := hb_P.lt; have p0 := hb_P.at_ 0; have p1 := hb_P.at_ 1; simp at p0 p1; clear hb_P; clear hSw; go_simp; try with_reducible rfl)
 try simp only [Act.put, tdy]
 refine timed_read (i := 13) (v := ?_) 0 rfl (by kernel_rfl) (by kernel_rfl) (by kernel_rfl) (fun _ _ _ h => h) (by kernel_rfl) (by kernel_rfl) rfl (by kernel_rfl) ?_ ?_
 rotate_left
 ·(intro wq hSw; (try dsimp only at hSw); have hb_H := hSw.blk HB3.out (by simp); have lb_H := hb_H.lt; have y0 := hb_H.at_ 0; have y1 := hb_H.at_ 1; have y2 := hb_H.at_ 2; simp at y0 y1 y2; clear hb_H; have hb_P := hSw.blk HP3.out (by simp); have lb_P := hb_P.lt; have p0 := hb_P.at_ 0; have p1 := hb_P.at_ 1; simp at p0 p1; clear hb_P; clear hSw; go_simp; try with_reducible rfl)
 try simp only [Act.put, tdy]
 refine timed_read (i := 14) (v := ?_) 0 rfl (by kernel_rfl) (by kernel_rfl) (by kernel_rfl) (fun _ _ _ h => h) (by kernel_rfl) (by kernel_rfl) rfl (by kernel_rfl) ?_ ?_
 rotate_left
 ·(intro wq hSw; (try dsimp only at hSw); have hb_H := hSw.blk HB3.out (by simp); have lb_H := hb_H.lt; have y0 := hb_H.at_ 0; have y1 := hb_H.at_ 1; have y2 := hb_H.at_ 2; simp at y0 y1 y2; clear hb_H; have hb_P := hSw.blk HP3.out (by simp); have lb_P := hb_P.lt; have p0 := hb_P.at_ 0; have p1 := hb_P.at_ 1; simp at p0 p1; clear hb_P; clear hSw; go_simp; try with_reducible rfl)
 try simp only [Act.put, tdy]
 refine timed_step (i := 10) (by kernel_rfl) rfl (fun K hK => ?_)
 go_simp
 refine (few_in _ _ _ _ _ _ _ _ _ _ _ _ (HI3.out.same HO7.out) HFE.out).mono ?_
 rintro e w8 ⟨E0, E1, E2, k0, k1, k2, ⟨rfl, hI8⟩, O8⟩
 have HI8 := Lib.hid hI8
 have HO8 := Lib.hid (HO7.out.trans O8)
 clear hI8 O8
 refine hK.out _ _ (timed_holds (HO8.out) (timed_nil)) ?_
 clear hK K
 try simp only [Act.put, tdy]
 refine timed_step (i := 12) (by kernel_rfl) rfl (fun K hK => ?_)
 go_simp
 refine (HVA.out _ _ _ _ _ _ _ _ HI8.out).mono ?_
 rintro e w9 ⟨A9, m9, c9, ⟨rfl, hm9, hr9⟩, O9⟩
 have HR9 := Lib.hid hr9
 have HM9 := Lib.hid hm9
 have HO9 := Lib.hid (HO8.out.trans O9)
 clear hr9 hm9 O9 HI8
 refine hK.out _ _ (timed_holds (HO9.out) (timed_nil)) ?_
 clear hK K
 try simp only [Act.put, tdy]
 refine timed_step (i := 15) (by kernel_rfl) rfl (fun K hK => ?_)
 go_simp
 refine (HRVA.out _ _ _ _ _ _ _ _ (HI3.out.same HO9.out)).mono ?_
 rintro e w10 ⟨A10, m10, c10, ⟨rfl, hm10, hr10⟩, O10⟩
 obtain rfl : m10 = m9 := by rw [← hm10, HM9.out]
 have HR10 := Lib.hid hr10
 have HR910 := Lib.hid (HR9.out.only O10 (by simp))
 have HO10 := Lib.hid (HO9.out.trans O10)
 clear hr10 hm10 O10 HR9
 refine hK.out _ _ (timed_holds (HO10.out) (timed_nil)) ?_
 clear hK K
 try simp only [Act.put, tdy]
 refine timed_step (i := 16) (by kernel_rfl) rfl (fun K hK => ?_)
 go_simp
 refine (sameList_eq _ _ _ _ _ r2 _ _ _ HR910.out HR10.out HM9.out (by rw [← HM9.out]; omega)).mono ?_
 rintro e w11 ⟨rfl, q11, rfl⟩
 have HO11 := Lib.hid (HO10.out.drewN q11)
 clear HR910 HR10
 refine hK.out _ _ (timed_holds (HO11.out) (timed_nil)) ?_
 clear hK K
 try simp only [Act.put, tdy]
 refine timed_pure (i := 17) (v := ?_) rfl (by kernel_rfl) (by kernel_rfl) (by kernel_rfl) (fun _ _ _ h => h) (by kernel_rfl) (by kernel_rfl) ?_ ?_
 rotate_left
 ·(intro w; go_simp; try with_reducible rfl)
 try simp only [Act.put, tdy]
 refine timed_pure (i := 18) (v := ?_) rfl (by kernel_rfl) (by kernel_rfl) (by kernel_rfl) (fun _ _ _ h => h) (by kernel_rfl) (by kernel_rfl) ?_ ?_
 rotate_left
 ·(intro w; go_simp; try with_reducible rfl)
 try simp only [Act.put, tdy]
 refine timed_step (i := 19) (by kernel_rfl) rfl (fun K hK => ?_)
 go_simp
 refine (HW.out _ (HO3.out.trans HO11.out)).mono ?_
 rintro e w12 ⟨rfl, O12⟩
 have HO12 := Lib.hid (HO11.out.trans O12)
 clear O12
 refine hK.out _ _ (timed_holds (HO12.out) (timed_nil)) ?_
 clear hK K
 try simp only [Act.put, tdy]
 refine timed_pure (i := 20) (v := ?_) rfl (by kernel_rfl) (by kernel_rfl) (by kernel_rfl) (fun _ _ _ h => h) (by kernel_rfl) (by kernel_rfl) ?_ ?_
 rotate_left
 ·(intro w; go_simp; try with_reducible rfl)
 try simp only [Act.put, tdy]
 refine timed_pure (i := 21) (v := ?_) rfl (by kernel_rfl) (by kernel_rfl) (by kernel_rfl) (fun _ _ _ h => h) (by kernel_rfl) (by kernel_rfl) ?_ ?_
 rotate_left
 ·(intro w; go_simp; try with_reducible rfl)
 try simp only [Act.put, tdy]
 refine timed_done (by kernel_rfl) ?_ _
 refine NoPanic.normal ?_
 have HNW := Lib.hid (HO3.out.trans (HO12.out))
 go_wp2
 go_ret
 exact ⟨rfl, HNW.out⟩
end Go.Proofs.YtjfbeeogiejopaaGreatDoor

set_option linter.unusedVariables false
set_option linter.unusedSimpArgs false
namespace Go.Proofs.YtjfbeeogiejopaaGreatDoor
open Go.ChangeShapes Go.WideShapes Go.ChangeAt Go.RowKit
theorem handed_and_shaped {H : Type} {enc : TypeId × Value → H} {a : Assume} {C : Checked} {os : Os} {f : FuncId} {fn : Func} {s : ChangeSpec} {conds : List PathCond} {apart fresh handsOn again : Bool} {X : World → Array Value → Prop}
  (hX : ∀ (w w' : World) (args : Array Value), w.heap = w'.heap → X w args → X w' args)
  (own : ownKnob C.prog.godebug = none) (started : os.Started) (noInit : C.prog.inits.idxOf? f = none) (hfn : C.prog.funcs[f]? = some fn)
  (witness : ∃ (w : World) (tape : Tape) (i : Input), w.os = os ∧ (w.forCall tape i).Shaped C.prog ∧ i.vars = [] ∧ Input.okWide C.prog (w.forCall tape i) .any w.heap.size f i ∧
   ((s.pre enc C.prog fn conds apart (w.forCall tape i).memory i.args ∧ X (w.forCall tape i).memory i.args) ∧ sizedMet enc C.prog fn (OpenSpec.ofChange s) apart (w.forCall tape i).memory i.args) ∧ a.holds C.prog (lone (Frame.enter C.prog f i.args .normal) [] (w.forCall tape i)))
  (contract : ∀ (W : World) (base : Nat) (args : Array Value) (ds gs : List (DataW H)) (before : List MemPlace),
   (∀ (j : Nat) t v, fn.params[j]? = some t → args[j]? = some v → Value.okWide C.prog W .any base t v) →
   DataW.Whole enc C.prog fn.params.toList s.vars apart W args.toList ds gs before →
   W.ShapedOpen C.prog →
   (DataW.weightsEach C.prog (fn.params.toList ++ s.plain.varTypes C.prog) (ds ++ gs)).all (· ≤ reachBytes) = true → X W args →
   a.holds C.prog (lone (Frame.enter C.prog f args .normal) [] W) →
   Calls C.prog f args W fun e W' => ∃ v, e = .returned v ∧ s.post enc C.prog fn apart fresh handsOn again W args v W') :
  ReturnsInHanded a C os f .any (fun w args => (s.pre enc C.prog fn conds apart w args ∧ X w args) ∧ sizedMet enc C.prog fn (OpenSpec.ofChange s) apart w args) (s.post enc C.prog fn apart fresh handsOn again) := by
 refine returnsInHanded_of_calls own started noInit witness ?_
 intro w tape i _ hsh _ hok hpre hholds
 obtain ⟨_, _, _, fn', hfn', _, _, _, _, hval⟩ := hok
 have e : fn' = fn := Option.some.inj (hfn'.symm.trans hfn)
 subst e
 obtain ⟨⟨⟨ds, gs, before, hw, hc⟩, hx⟩, hz⟩ := hpre
 have hw' := DataW.Whole.of_heap (w' := w.forCall tape i) (by rfl) hw
 refine (contract (w.forCall tape i) w.heap.size i.args ds gs before hval hw' hsh (hz.weights hw) (hX _ _ _ (by rfl) hx) hholds).mono fun e W' ⟨v, he, hp⟩ => ?_
 subst he
 exact ChangeSpec.post_blind hp
theorem mlen_of_shaped {W : World} (h : W.ShapedOpen Tryz.prog) : MLen W :=
 Go.Proofs.cell_of_shapedOpen_int (zero := #[.int .i64 0]) (t := 3) h (of_decide_eq_true (by kernel_rfl)) (by kernel_rfl) rfl (by kernel_rfl) (by kernel_rfl) Tryz.underlying3
end Go.Proofs.YtjfbeeogiejopaaGreatDoor

set_option linter.unusedVariables false
set_option linter.unusedSimpArgs false
namespace Go.Proofs.YtjfbeeogiejopaaGreatDoor
open Go.ChangeShapes Go.WideShapes Go.ChangeAt Go.RowKit
def laidL : List (String × DataW Unit) := [("unicode/utf8.acceptRanges", Rows.laid_unicode_utf8_acceptRanges), ("deemster/event.verbs", Rows.laid_deemster_event_verbs), ("unicode/utf8.first", Rows.laid_unicode_utf8_first)]
set_option maxRecDepth 100000 in
theorem laid_accept : (Rows.laid_unicode_utf8_acceptRanges : DataW Unit) = Lib.acceptData := by rfl
set_option maxRecDepth 100000 in
theorem laid_first : Rows.laid_unicode_utf8_first = Lib.firstData := by kernel_rfl
def verbD : List (Int × List UInt8 × Bool) := [(1, [98, 101, 103, 105, 110], false), (2, [114, 101, 97, 100], true), (3, [119, 114, 105, 116, 101], true), (4, [111, 107], false), (5, [102, 97, 105, 108], false), (6, [105, 110, 102, 111], false)]
def verbW (x : Int × List UInt8 × Bool) : DataW Unit := .agg [.lit (.int .i64 x.1), .lit (.string x.2.1), .lit (.bool x.2.2)]
theorem laid_verbs : (Rows.laid_deemster_event_verbs : DataW Unit) = .agg (verbD.map verbW) := by rfl
set_option maxRecDepth 100000 in
theorem tabs_of_laid {W : World} (h : laidMetH Tryz.prog laidL W) : UTabs W := by
 rw [MakeChecks.laidMetH_plain _ _ _ (by kernel_rfl)] at h
 unfold laidL at h
 rw [laid_accept, laid_first] at h
 exact utf8Tabs_of_readsT (U8Types.of196 Tryz.laysValid) ⟨by kernel_rfl, by kernel_rfl, by kernel_rfl, by kernel_rfl, by kernel_rfl, by kernel_rfl, by kernel_rfl⟩ (Lib.laidMet.reads h (.tail _ (.tail _ (.head _)))) (Lib.laidMet.reads h (.head _))
set_option maxRecDepth 100000 in
theorem verb_reads {W : World} {fuel : Nat} {cs : List Value} {x : Int × List UInt8 × Bool} {q : List MemPlace} (h : DataW.trod (fun _ => ()) Tryz.prog W 0 (fun _ => true) false fuel 151 cs = some (verbW x, q)) :
  cs = [.int .i64 x.1, .string ⟨x.2.1.toArray⟩, .bool x.2.2] := by
 obtain ⟨y0, y1, y2, n, hx, hl, h0, h1, h2⟩ := Go.Deep.trod_struct3 Tryz.underlying151 h
 rw [show Tryz.prog.cellsOf 151 = 3 by kernel_rfl] at hl
 match cs, hl with
 | [c0, c1, c2], _ =>
  have k0 : Tryz.prog.cellsOf 3 = 1 := by kernel_rfl
  have k1 : Tryz.prog.cellsOf 9 = 1 := by kernel_rfl
  have k2 : Tryz.prog.cellsOf 4 = 1 := by kernel_rfl
  dsimp only at h0 h1 h2
  rw [k0] at h0
  rw [k1] at h1
  rw [k2] at h2
  obtain ⟨a, e0, f0, -⟩ := DataW.trod_int Tryz.underlying3 (by simpa using h0)
  obtain ⟨s, e1, f1, -⟩ := DataW.trod_string Tryz.underlying9 (by simpa using h1)
  obtain ⟨b, e2, f2⟩ := DataW.trod_bool Tryz.underlying4 (by simpa using h2)
  simp at e0 e1 e2
  subst e0 e1 e2 f0 f1 f2
  obtain ⟨x0, x1, x2⟩ := x
  simp [verbW] at hx
  obtain ⟨⟨rfl, rfl, rfl⟩, -⟩ := hx
  rfl
set_option maxRecDepth 100000 in
theorem verbs_of_laid {W : World} (h : laidMetH Tryz.prog laidL W) : Verbs W := by
 rw [MakeChecks.laidMetH_plain _ _ _ (by kernel_rfl)] at h
 unfold laidL at h
 rw [laid_verbs] at h
 obtain ⟨g, t, cs, fuel, p, hg, hty, hvar, hd⟩ := Lib.laidMet.reads h (.tail _ (.head _))
 obtain rfl := Option.some.inj ((show Tryz.prog.globalNamed "deemster/event.verbs" = some 2 by kernel_rfl).symm.trans hg)
 obtain rfl := Option.some.inj ((show (Tryz.prog.globals[2]?).map (·.type) = some 196 by kernel_rfl).symm.trans hty)
 have key : ∀ (j : Nat) (x : Int × List UInt8 × Bool), j < 6 → verbD[j]? = some x → W.cell? ⟨2, j * 3, none⟩ = some (.int .i64 x.1) ∧ W.cell? ⟨2, j * 3 + 1, none⟩ = some (.string ⟨x.2.1.toArray⟩) ∧ W.cell? ⟨2, j * 3 + 2, none⟩ = some (.bool x.2.2) := by
  intro j x hj hx
  obtain ⟨fuel', d, q, hdi, he⟩ := Lib.array_elem Tryz.underlying196 hd j hj
  rw [List.getElem?_map, hx] at hdi
  simp only [Option.map_some, Option.some.injEq] at hdi
  subst hdi
  rw [show Tryz.prog.cellsOf 151 = 3 by kernel_rfl] at he
  have hcs := verb_reads he
  have e0 := congrArg (·[0]?) hcs
  have e1 := congrArg (·[1]?) hcs
  have e2 := congrArg (·[2]?) hcs
  simp only [List.getElem?_take, List.getElem?_drop] at e0 e1 e2
  refine ⟨?_, ?_, ?_⟩
  ·rw [World.var?_cell hg hvar (j * 3), ← Array.getElem?_toList]
   simpa using e0
  ·rw [World.var?_cell hg hvar (j * 3 + 1), ← Array.getElem?_toList]
   simpa using e1
  ·rw [World.var?_cell hg hvar (j * 3 + 2), ← Array.getElem?_toList]
   simpa using e2
 have k0 := key 0 _ (by omega) rfl
 have k1 := key 1 _ (by omega) rfl
 have k2 := key 2 _ (by omega) rfl
 have k3 := key 3 _ (by omega) rfl
 have k4 := key 4 _ (by omega) rfl
 have k5 := key 5 _ (by omega) rfl
 refine ⟨World.block_lt_of_cell? W _ k0.1, fun i u hu => ?_⟩
 have hi : i < 18 := by
  have := (List.getElem?_eq_some_iff.1 hu).1
  exact this
 have hc : i = 0 ∨ i = 1 ∨ i = 2 ∨ i = 3 ∨ i = 4 ∨ i = 5 ∨ i = 6 ∨ i = 7 ∨ i = 8 ∨ i = 9 ∨ i = 10 ∨ i = 11 ∨ i = 12 ∨ i = 13 ∨ i = 14 ∨ i = 15 ∨ i = 16 ∨ i = 17 := by omega
 rcases hc with rfl | rfl | rfl | rfl | rfl | rfl | rfl | rfl | rfl | rfl | rfl | rfl | rfl | rfl | rfl | rfl | rfl | rfl
 ·obtain rfl := Option.some.inj hu
  exact k0.1
 ·obtain rfl := Option.some.inj hu
  exact k0.2.1
 ·obtain rfl := Option.some.inj hu
  exact k0.2.2
 ·obtain rfl := Option.some.inj hu
  exact k1.1
 ·obtain rfl := Option.some.inj hu
  exact k1.2.1
 ·obtain rfl := Option.some.inj hu
  exact k1.2.2
 ·obtain rfl := Option.some.inj hu
  exact k2.1
 ·obtain rfl := Option.some.inj hu
  exact k2.2.1
 ·obtain rfl := Option.some.inj hu
  exact k2.2.2
 ·obtain rfl := Option.some.inj hu
  exact k3.1
 ·obtain rfl := Option.some.inj hu
  exact k3.2.1
 ·obtain rfl := Option.some.inj hu
  exact k3.2.2
 ·obtain rfl := Option.some.inj hu
  exact k4.1
 ·obtain rfl := Option.some.inj hu
  exact k4.2.1
 ·obtain rfl := Option.some.inj hu
  exact k4.2.2
 ·obtain rfl := Option.some.inj hu
  exact k5.1
 ·obtain rfl := Option.some.inj hu
  exact k5.2.1
 ·obtain rfl := Option.some.inj hu
  exact k5.2.2
end Go.Proofs.YtjfbeeogiejopaaGreatDoor
