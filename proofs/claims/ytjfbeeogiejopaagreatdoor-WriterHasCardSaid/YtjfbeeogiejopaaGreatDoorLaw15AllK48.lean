/- WriterHas: the walk. -/
import Derived.Test.YtjfbeeogiejopaaGreatDoorLaw15AllK39
import Derived.Test.YtjfbeeogiejopaaGreatDoorLaw15AllK47
import Derived.Test.YtjfbeeogiejopaaGreatDoorLaw15AllK44
import Derived.Test.YtjfbeeogiejopaaGreatDoorLaw15AllK46
import Derived.Test.YtjfbeeogiejopaaGreatDoorLaw15AllK34
import Derived.Deep.CutBlock
import Derived.Deep.DeepCutAuto
set_option linter.unusedVariables false
set_option linter.unusedSimpArgs false
namespace Go.Proofs.YtjfbeeogiejopaaGreatDoor
open Go.RowKit
open Go.Lib hiding intOf
attribute [local go_sem ↓] Go.wp_at_zero Go.wp_at_succ
theorem own_some0 {w : World} {base : Nat} {e : TypeId} {size : Nat} {v : Value} {n : Nat} {xs : List Value} (h : w.ownsRow base e size v n xs) (hn : 0 < n) : ∃ g cap, v = .slice (some ⟨g, 0, none⟩) n cap ∧ base ≤ g ∧ n ≤ cap ∧ cap ≤ maxLen := by
 obtain ⟨A, c, rfl, h1, h2, -, -⟩ := own_row h
 rcases h.2 with ⟨h3, h4⟩ | ⟨g, cap, cur, h3, h4, -⟩
 ·simp at h3
  omega
 ·simp at h3
  obtain ⟨rfl, rfl⟩ := h3
  exact ⟨g, c, rfl, h4, h1, h2⟩
theorem ownsRow_low {w : World} {base base' : Nat} {e : TypeId} {size : Nat} {v : Value} {n : Nat} {xs : List Value} (h : w.ownsRow base e size v n xs) (hb : base' ≤ base) : w.ownsRow base' e size v n xs := by
 obtain ⟨h0, h1 | ⟨g, cap, cur, h2, h3, h4⟩⟩ := h
 ·exact ⟨h0, .inl h1⟩
 ·exact ⟨h0, .inr ⟨g, cap, cur, h2, by omega, h4⟩⟩
theorem list_set_same {α : Type} {l : List α} {j : Nat} {x : α} (h : l[j]? = some x) : l.set j x = l := by
 refine List.ext_getElem? fun k => ?_
 rw [List.getElem?_set]
 split
 ·rename_i e
  subst e
  rw [if_pos (List.getElem?_eq_some_iff.1 h).1, h]
 ·rfl
theorem valsH_pos {h : Hst} {a b : Int} {x : Tx × Op4} (hr : readO h a b = some x) : 0 < (valsH h a b).length := by
 obtain ⟨t, o⟩ := x
 rw [valsH_some hr]
 exact List.length_pos_of_mem (((sortV_vals _).2 (0, 0)).2 ⟨List.mem_cons_self, by decide⟩)
set_option maxRecDepth 10000 in
set_option maxHeartbeats 8000000 in
theorem writerHas_walk (A0 A1 A2 : Option Addr) (c0 c1 c2 : Nat) (h : Hst) (a b : Int) (w : World) (hg : HAt w w.heap.size A0 A1 A2 h) (hm0 : h.ss.length ≤ maxLen) (hm1 : h.ks.length ≤ maxLen) (hm2 : h.l.length ≤ maxLen)
  (hz0 : ∀ z ∈ h.ss, z.size ≤ maxLen) (hz1 : ∀ z ∈ h.ks, z.size ≤ maxLen) (hI : HInt h) (hT : UTabs w) (hM : MLen w) (hV : Verbs w) :
  Calls Tryz.prog 5 #[hval A0 A1 A2 h.ss.length h.ks.length h.l.length c0 c1 c2, .agg #[.int .i64 a, .int .i64 b]] w fun e w' => e = .returned (.bool true) ∧ Only [] w w' := by
 unfold hval
 obtain ⟨iO, hiO, hzO0, hzO1, hzO2⟩ := info_parts info_op
 obtain ⟨iT, hiT, hzT0, hzT1, hzT2⟩ := info_parts info_txn
 have HW := Lib.hid (fun w' (h : Only [] w w') => works15_any w' (hT.only h) (hM.only h) (hV.only h))
 have HF0 := Lib.hid (fun w' (O : Only [] w w') => few_first A0 A1 A2 c0 c1 c2 h w' (hg.only O (by simp)).up hm0 hm1 hm2 hz0 hz1 (hT.only O))
 have HIG := few_int hI
 have HT := Lib.hid hT
 generalize fewH h = G at *
 generalize h.ss.length = n0 at *
 generalize h.ks.length = n1 at *
 generalize h.l.length = n2 at *
 generalize G.ss.length = m0 at *
 generalize G.ks.length = m1 at *
 generalize G.l.length = m2 at *
 clear hg hm0 hm1 hm2 hz0 hz1 hT hM hV hI
 have HB := Lib.hid ((Blk.made w 25 #[.slice A0 n0 c0, .slice A1 n1 c1, .slice A2 n2 c2]).alloc (.cells #[.int .i64 a, .int .i64 b] 27))
 have HP := Lib.hid (Blk.made (w.alloc (.cells #[.slice A0 n0 c0, .slice A1 n1 c1, .slice A2 n2 c2] 25)) 27 #[.int .i64 a, .int .i64 b])
 rw [World.size_alloc] at HP
 have HO1 := Lib.hid (((Only.refl [] w).alloc (.cells #[.slice A0 n0 c0, .slice A1 n1 c1, .slice A2 n2 c2] 25)).alloc (.cells #[.int .i64 a, .int .i64 b] 27))
 have HOF := Lib.hid (fun (H : Hst) (D0 D1 D2 : Option Addr) (f0 f1 f2 B : Nat) w' (hI : HIn w' B D0 D1 D2 m0 m1 m2 H) => wof_any D0 D1 D2 m0 m1 m2 f0 f1 f2 B H a b w' hI)
 have HVA := Lib.hid (fun (D0 D1 D2 : Option Addr) (f0 f1 f2 B : Nat) w' (hI : HIn w' B D0 D1 D2 m0 m1 m2 G) => wvalues_any D0 D1 D2 m0 m1 m2 f0 f1 f2 B G a b w' hI HIG)
 have HMY := Lib.hid (fun (D0 D1 D2 : Option Addr) (f0 f1 f2 B : Nat) w' (hI : HIn w' B D0 D1 D2 m0 m1 m2 G) => refmay_any D0 D1 D2 m0 m1 m2 f0 f1 f2 B G w' hI)
 have HFR := Lib.hid (fun (key : Int) (D0 D1 D2 : Option Addr) (f0 f1 f2 B : Nat) w' (hI : HIn w' B D0 D1 D2 m0 m1 m2 G) => wfresh_any D0 D1 D2 m0 m1 m2 f0 f1 f2 B G key w' hI HIG)
 unfold hval at HOF HVA HMY HFR
 unfold agV at HFR
 go_enter Tryz.func5, Tryz.ntmps5
 go_wp2_with fail
 refine (HW.out _ HO1.out).mono ?_
 rintro e w2 ⟨rfl, O2⟩
 have HB2 := Lib.hid (O2.blk HB.out (by simp))
 have HP2 := Lib.hid (O2.blk HP.out (by simp))
 have HO2 := Lib.hid (HO1.out.trans O2)
 clear O2 HB HP HO1 HW
 generalize hg1 : w.heap.size = g at *
 generalize hg2 : g + 1 = gp at *
 have lB := HB2.out.lt
 have y0 := HB2.out.at_ 0
 have y1 := HB2.out.at_ 1
 have y2 := HB2.out.at_ 2
 simp at y0 y1 y2
 go_wp2_with fail
 refine (HF0.out _ HO2.out).mono ?_
 rintro e w3 ⟨B0, B1, B2, d0, d1, d2, ⟨rfl, hI⟩, O3⟩
 have HI3 := Lib.hid hI
 have HB3 := Lib.hid (O3.blk HB2.out (by simp))
 have HP3 := Lib.hid (O3.blk HP2.out (by simp))
 have HO3 := Lib.hid (HO2.out.trans O3)
 clear hI O3 HB2 HP2 HO2 HF0 lB y0 y1 y2
 go_upto_region 4 with (refine wpList_store_blk rfl 25 (.tmp 2) (.tmp 13) rfl g 25 _ #[.slice B0 m0 d0, .slice B1 m1 d1, .slice B2 m2 d2] rfl rfl HB3.out rfl (by kernel_rfl) (by kernel_rfl) ?_; intro w4 hb4 o4; have HB4 := Lib.hid hb4; have HP4 := Lib.hid (o4.blk HP3.out (by simp; omega)); have HO4 := Lib.hid (HO3.out.step o4 (fun i hi hl => by simp at hi; omega)); have HI4 := Lib.hid (HI3.out.past HB3.out o4 (HT.out.only HO4.out)); clear hb4 o4; clear HI3 HB3 HO3 HP3)
 have lB := HB4.out.lt
 have y0 := HB4.out.at_ 0
 have y1 := HB4.out.at_ 1
 have y2 := HB4.out.at_ 2
 have lP := HP4.out.lt
 have p0 := HP4.out.at_ 0
 have p1 := HP4.out.at_ 1
 simp at y0 y1 y2 p0 p1
 go_wp2_with fail
 refine (HVA.out _ _ _ _ _ _ _ _ HI4.out).mono ?_
 rintro e w5 ⟨A5, m5, c5, ⟨rfl, hm5, hr5⟩, O5⟩
 have HR5 := Lib.hid hr5
 have HM5 := Lib.hid hm5
 have HB5 := Lib.hid (O5.blk HB4.out (by simp))
 have HP5 := Lib.hid (O5.blk HP4.out (by simp))
 have HO5 := Lib.hid (HO4.out.trans O5)
 have HI5 := Lib.hid (HI4.out.same O5).up
 clear O5 hr5 hm5 HB4 HP4 HO4 HI4 HVA lB y0 y1 y2 lP p0 p1
 have lB := HB5.out.lt
 have y0 := HB5.out.at_ 0
 have y1 := HB5.out.at_ 1
 have y2 := HB5.out.at_ 2
 have lP := HP5.out.lt
 have p0 := HP5.out.at_ 0
 have p1 := HP5.out.at_ 1
 simp at y0 y1 y2 p0 p1
 go_wp2_with fail
 refine (HMY.out _ _ _ _ _ _ _ _ HI5.out).mono ?_
 rintro e w6 ⟨rfl, O6⟩
 have HO6 := Lib.hid O6
 clear O6 HMY
 cases hr : readO G a b with
 | none =>
  obtain rfl : m5 = 0 := by rw [← HM5.out, valsH_none hr]; rfl
  have HCALL := Lib.hid (HOF.out G _ _ _ d0 d1 d2 _ w6 (HI5.out.same HO6.out))
  rw [wrOf_none hr] at HCALL
  have HB6 := Lib.hid (HO6.out.blk HB5.out (by simp))
  have HP6 := Lib.hid (HO6.out.blk HP5.out (by simp))
  clear lB y0 y1 y2 lP p0 p1 hr HOF
  have lB := HB6.out.lt
  have y0 := HB6.out.at_ 0
  have y1 := HB6.out.at_ 1
  have y2 := HB6.out.at_ 2
  have lP := HP6.out.lt
  have p0 := HP6.out.at_ 0
  have p1 := HP6.out.at_ 1
  simp at y0 y1 y2 p0 p1
  generalize errH G = ee at *
  by_cases he : ee = 0
  ·have d1 : (ee != 0) = false := by simp [he]
   clear he
   go_wp2_with fail
   refine (HCALL.out).mono ?_
   rintro e w7 ⟨V7, ⟨rfl, hV7⟩, O7⟩
   obtain ⟨A7, c7, rfl, -, -, -, -⟩ := own_row hV7
   have HO7 := Lib.hid ((HO5.out.trans HO6.out).trans O7)
   clear hV7 O7
   go_wp2
   go_ret
   exact ⟨rfl, HO7.out⟩
  ·have d1 : (ee != 0) = true := by simp [he]
   clear he
   go_wp2_with fail
   refine (HCALL.out).mono ?_
   rintro e w7 ⟨V7, ⟨rfl, hV7⟩, O7⟩
   obtain ⟨A7, c7, rfl, -, -, -, -⟩ := own_row hV7
   have HO7 := Lib.hid ((HO5.out.trans HO6.out).trans O7)
   clear hV7 O7
   go_wp2
   go_ret
   exact ⟨rfl, HO7.out⟩
 | some x =>
  obtain ⟨t0, o0⟩ := x
  have hpos := valsH_pos hr
  rw [HM5.out] at hpos
  have hvle := valsH_le G a b
  rw [HM5.out] at hvle
  have HVE : Hid (valsH G a b = sortV (valsO a o0.key G.l)) := Lib.hid (valsH_some hr)
  obtain ⟨hmay, i, j, rfl, rfl, hx, hj, hw0⟩ := read_inv hr
  rw [mayH_err2 hmay]
  have hmay1 := Lib.hid hmay
  have hx1 := Lib.hid hx
  have hj1 := Lib.hid hj
  have hw1 := Lib.hid hw0
  have hkr := (may_ops hmay).2.2 t0 (List.mem_of_getElem? hx) o0 (List.mem_of_getElem? hj)
  have HFV : Hid (freshV G o0.key = (1, (freshN G.l o0.key : Int))) := Lib.hid (by unfold freshV; rw [if_pos ⟨hmay, hkr.1, hkr.2.1⟩])
  obtain ⟨bl, off, A', cp, hA2, -, hbw, hTx, hOk⟩ := HI5.out.at_.r2.at_ hx
  have hm2e := Lib.hid HI5.out.n2
  have hi2 : i < m2 := by rw [← hm2e.out]; exact (List.getElem?_eq_some_iff.1 hx).1
  have hjm := (List.getElem?_eq_some_iff.1 hj).1
  have hm20 : t0.ops.length ≤ 20 := (may_ops hmay).2.1 t0 (List.mem_of_getElem? hx)
  have hm240 : m2 ≤ 40 := by rw [← hm2e.out]; exact (may_ops hmay).1
  have hm5l : m5 ≤ 41 := by have := hm2e.out; omega
  clear hvle
  subst hA2
  have HTX6 := Lib.hid (hTx.only HO6.out hbw (by simp))
  have HROW := Lib.hid hOk.row
  have hb6 : bl < w6.heap.size := by have := HO6.out.size; omega
  have hi0 : (0 : Int) ≤ (i : Int) := by omega
  have hj0 : (0 : Int) ≤ (j : Int) := by omega
  have hi2' : (i : Int) < (m2 : Int) := by omega
  obtain ⟨s0, f0, ops0⟩ := t0
  dsimp only at *
  generalize hmm : ops0.length = m at *
  have hjm' : (j : Int) < (m : Int) := by omega
  have HB6 := Lib.hid (HO6.out.blk HB5.out (by simp))
  have HP6 := Lib.hid (HO6.out.blk HP5.out (by simp))
  clear lB y0 y1 y2 lP p0 p1 hr hTx hOk hmay hx hj hw0 hkr
  have lB := HB6.out.lt
  have y2 := HB6.out.at_ 2
  have lP := HP6.out.lt
  have p0 := HP6.out.at_ 0
  have p1 := HP6.out.at_ 1
  simp at y2 p0 p1
  have x0 := HTX6.out.c0
  have x1 := HTX6.out.c1
  have x2 := HTX6.out.c2
  dsimp only at x0 x1 x2
  have d5 : ((m5 : Int) == 0) = false := by simp; omega
  have d5' : (m5 == 0) = false := by simp; omega
  rw [hmm] at x2
  go_upto_region 8 with (fail)
  have HT7 := Lib.hid (Blk.made w6 46 #[.int .i64 s0, .int .i64 f0, .slice A' m cp])
  have O7 : Only [] w6 (w6.alloc (.cells #[.int .i64 s0, .int .i64 f0, .slice A' m cp] 46)) := (Only.refl [] w6).alloc _
  have HO7 := Lib.hid (HO6.out.trans O7)
  have HR7 := Lib.hid ((HROW.out.only HO6.out (by simp)).only O7 (by simp))
  have hgt : Hid (w5.heap.size ≤ w6.heap.size) := Lib.hid HO6.out.size
  clear O7 lB y2 lP p0 p1 x0 x1 x2 HTX6 HB6 HP6 HROW hb6
  generalize (w6.alloc (.cells #[.int .i64 s0, .int .i64 f0, .slice A' m cp] 46)) = w7 at *
  generalize w6.heap.size = gt at *
  have lT := HT7.out.lt
  have t2 := HT7.out.at_ 2
  have ft2 := HT7.out.free 2
  simp at t2
  have hsz7 : w5.heap.size ≤ w7.heap.size := HO7.out.size
  go_upto_region 9 with (at_builtin; (refine wpList_append_row _ rfl (.tmp 36) (.tmp 38) _ rfl w7.heap.size 48 iO _ 4 32 Tryz.underlying44 hiO hzO0 hzO1 hzO2 rfl (by omega) _ 0 [] rfl (World.ownsRow_lit w7 #[] 0 (Nat.le_refl _) (by unfold maxLen; omega) rfl) _ _ m cp (opC ops0) rfl (by rw [opC_len, hmm]) (HR7.out.only ((Only.refl [] w7).alloc (.cells #[] 48)) (by simp)) (one_opC _) (by unfold maxLen; omega) (by omega) (by simp) ?_; intro V8 w8 hown8 hgrow8 hat8; rw [Nat.zero_add, List.nil_append] at hown8; obtain ⟨ob, cb, rfl, hob, hmc, hcm⟩ := own_some0 hown8 (by omega); have O8 : Only [] w7 w8 := ((Only.refl [] w7).alloc (.cells #[] 48)).step (only_grown hgrow8) (fun i (hi : i ∈ [w7.heap.size]) hl => by simp at hi; omega); have HT8 := Lib.hid (O8.blk HT7.out (by simp)); have lT8 := HT8.out.lt; have t82 := HT8.out.at_ 2; have ft82 := HT8.out.free 2; simp at t82))
  have HTA : Hid (Blk (w8.setCell ⟨gt, 2, none⟩ (.slice (some ⟨ob, 0, none⟩) m cb)) gt 46 #[.int .i64 s0, .int .i64 f0, .slice (some ⟨ob, 0, none⟩) m cb]) := Lib.hid (by have := HT8.out.put 2 (.slice (some ⟨ob, 0, none⟩) m cb); simpa using this)
  have OA : Only [gt] w8 (w8.setCell ⟨gt, 2, none⟩ (.slice (some ⟨ob, 0, none⟩) m cb)) := (Only.refl [gt] w8).put (fun _ => by simp) _
  have HOWA := Lib.hid (own_only hown8 OA (fun x hx => by simp [Value.ownBlock] at hx; subst hx; simp; omega))
  have HOA := Lib.hid ((HO7.out.trans O8).step OA (fun x hx hl => by simp at hx; have := hgt.out; omega))
  have hgob : Hid (gt < ob) := Lib.hid (by omega)
  have hob5 : Hid (w5.heap.size ≤ ob) := Lib.hid (by omega)
  have hgt5 : Hid (w5.heap.size ≤ gt) := hgt
  clear OA HT8 lT8 t82 ft82 O8 hown8 hgrow8 hat8 hob HT7 HO7 HR7 lT t2 ft2 HO6 hsz7
  generalize (w8.setCell ⟨gt, 2, none⟩ (.slice (some ⟨ob, 0, none⟩) m cb)) = wA at *
  have HOWB := Lib.hid (ownsRow_low HOWA.out (Nat.zero_le _))
  clear HOWA
  obtain ⟨vs, hvs⟩ : ∃ vs, vs = sortV (valsO (i : Int) o0.key G.l) := ⟨_, rfl⟩
  rw [← hvs] at HVE
  have HVM : Hid (∀ v ∈ vs, 0 < (wrOf (hstSet G i (txSet ⟨s0, f0, ops0⟩ j o0 v)) (i : Int) (j : Int)).length) := Lib.hid (fun v hv => wrOf_yes hmay1.out hx1.out hj1.out hw1.out (by rw [← hvs]; exact hv))
  have HVN : Hid ((wrOf (hstSet G i (txSet ⟨s0, f0, ops0⟩ j o0 (1, (freshN G.l o0.key : Int)))) (i : Int) (j : Int)).length = 0) := Lib.hid (wrOf_no hmay1.out hx1.out hj1.out hw1.out)
  rw [HVE.out] at HR5 HM5
  have HFRK := Lib.hid (fun (D0 D1 D2 : Option Addr) (f0 f1 f2 B : Nat) w' hI => HFR.out o0.key D0 D1 D2 f0 f1 f2 B w' hI)
  rw [HFV.out] at HFRK
  dsimp only at HFRK
  generalize (freshN G.l o0.key : Int) = fq at *
  clear HVE HFV HFR hvs
  go_wp2_with fail
  go_loopw [7] (fun qv wr => ∃ (q : Nat) (o' : Op4), qv = .int .i64 (q : Int) ∧ q ≤ m5 + 1 ∧ Hid (o'.wr = o0.wr ∧ o'.key = o0.key) ∧ Hid (wr.ownsRow 0 48 4 (.slice (some ⟨ob, 0, none⟩) m cb) m (opC (ops0.set j o'))) ∧ Hid (Blk wr gt 46 #[.int .i64 s0, .int .i64 f0, .slice (some ⟨ob, 0, none⟩) m cb]) ∧ Hid (Only [] w5 wr)) (fun qv _ => m5 + 2 - (intOf qv).toNat)
  case atStart => exact ⟨0, o0, rfl, by omega, Lib.hid ⟨rfl, rfl⟩, by rw [list_set_same hj1.out]; exact HOWB, HTA, HOA⟩
  case round =>
   obtain ⟨q, o', rfl, hq, HO', hOW, hT, hO⟩ := hrel
   clear HOWB HTA HOA
   by_cases hlt : q ≤ m5
   ·have h01 : (q : Int) ≤ (m5 : Int) := by omega
    have hq0 : (0 : Int) ≤ (q : Int) := Int.natCast_nonneg _
    have hwq : IntKind.i64.wrap ((q : Int) + 1) = (q : Int) + 1 := IntWalk.i64_in _ (by omega)
    have HK : Hid (wr.cell? ⟨ob, j * 4 + 1, none⟩ = some (.int .i64 o0.key)) := Lib.hid (by
     rw [← HO'.out.2]
     exact (own_cell hOW.out rfl (opC_get _ j o' (by rw [List.getElem?_set_self (by rw [hmm]; exact hjm)]) 1 (by omega))).1)
    have hob1 : ob < wr.heap.size := own_lt hOW.out (by simp [Value.ownBlock])
    go_upto_region 12 with (fail)
    refine wp_region_noPanic ?_
    refine wp_region_timed (F := [⟨[], [], fun w' => Only [] wr w'⟩]) (by kernel_rfl) (timed_holds ((Only.refl [] wr).drew) (timed_nil)) ?_
    have OW : Only [] wr wr.drew := (Only.refl [] wr).drew
    generalize hwz : wr.drew = wz at *
    clear hwz
    refine trd (i := 0) (v := ?_) 0 ?_ ?_
    rotate_left
    ·(intro wq hSw; (try dsimp only at hSw); have hb_H := (hO.out.trans hSw).blk HB5.out (by simp); have lb_H := hb_H.lt; have y0 := hb_H.at_ 0; have y1 := hb_H.at_ 1; have y2 := hb_H.at_ 2; have hb_P := (hO.out.trans hSw).blk HP5.out (by simp); have lb_P := hb_P.lt; have p0 := hb_P.at_ 0; have p1 := hb_P.at_ 1; have hb_T := hSw.blk hT.out (by simp); have lb_T := hb_T.lt; have t2 := hb_T.at_ 2; simp at y0 y1 y2 p0 p1 t2; clear hb_H hb_P hb_T; have k1 := (hSw.cell (p := ⟨ob, j * 4 + 1, none⟩) hob1 (by simp)).trans HK.out; clear hSw; go_simp; try with_reducible rfl)
    try simp only [Act.put, tdy]
    refine tpu (i := 1) (v := ?_) ?_ ?_
    rotate_left
    ·(intro w; go_simp; try with_reducible rfl)
    try simp only [Act.put, tdy]
    refine trd (i := 2) (v := ?_) 0 ?_ ?_
    rotate_left
    ·(intro wq hSw; (try dsimp only at hSw); have hb_H := (hO.out.trans hSw).blk HB5.out (by simp); have lb_H := hb_H.lt; have y0 := hb_H.at_ 0; have y1 := hb_H.at_ 1; have y2 := hb_H.at_ 2; have hb_P := (hO.out.trans hSw).blk HP5.out (by simp); have lb_P := hb_P.lt; have p0 := hb_P.at_ 0; have p1 := hb_P.at_ 1; have hb_T := hSw.blk hT.out (by simp); have lb_T := hb_T.lt; have t2 := hb_T.at_ 2; simp at y0 y1 y2 p0 p1 t2; clear hb_H hb_P hb_T; have k1 := (hSw.cell (p := ⟨ob, j * 4 + 1, none⟩) hob1 (by simp)).trans HK.out; clear hSw; go_simp; try with_reducible rfl)
    try simp only [Act.put, tdy]
    refine tpu (i := 3) (v := ?_) ?_ ?_
    rotate_left
    ·(intro w; go_simp; try with_reducible rfl)
    try simp only [Act.put, tdy]
    refine trd (i := 4) (v := ?_) 0 ?_ ?_
    rotate_left
    ·(intro wq hSw; (try dsimp only at hSw); have hb_H := (hO.out.trans hSw).blk HB5.out (by simp); have lb_H := hb_H.lt; have y0 := hb_H.at_ 0; have y1 := hb_H.at_ 1; have y2 := hb_H.at_ 2; have hb_P := (hO.out.trans hSw).blk HP5.out (by simp); have lb_P := hb_P.lt; have p0 := hb_P.at_ 0; have p1 := hb_P.at_ 1; have hb_T := hSw.blk hT.out (by simp); have lb_T := hb_T.lt; have t2 := hb_T.at_ 2; simp at y0 y1 y2 p0 p1 t2; clear hb_H hb_P hb_T; have k1 := (hSw.cell (p := ⟨ob, j * 4 + 1, none⟩) hob1 (by simp)).trans HK.out; clear hSw; go_simp; try with_reducible rfl)
    try simp only [Act.put, tdy]
    refine tpu (i := 5) (v := ?_) ?_ ?_
    rotate_left
    ·(intro w; go_simp; try with_reducible rfl)
    try simp only [Act.put, tdy]
    refine tpu (i := 6) (v := ?_) ?_ ?_
    rotate_left
    ·(intro w; go_simp; try with_reducible rfl)
    try simp only [Act.put, tdy]
    refine trd (i := 7) (v := ?_) 0 ?_ ?_
    rotate_left
    ·(intro wq hSw; (try dsimp only at hSw); have hb_H := (hO.out.trans hSw).blk HB5.out (by simp); have lb_H := hb_H.lt; have y0 := hb_H.at_ 0; have y1 := hb_H.at_ 1; have y2 := hb_H.at_ 2; have hb_P := (hO.out.trans hSw).blk HP5.out (by simp); have lb_P := hb_P.lt; have p0 := hb_P.at_ 0; have p1 := hb_P.at_ 1; have hb_T := hSw.blk hT.out (by simp); have lb_T := hb_T.lt; have t2 := hb_T.at_ 2; simp at y0 y1 y2 p0 p1 t2; clear hb_H hb_P hb_T; have k1 := (hSw.cell (p := ⟨ob, j * 4 + 1, none⟩) hob1 (by simp)).trans HK.out; clear hSw; go_simp; try with_reducible rfl)
    try simp only [Act.put, tdy]
    apply cut_1_0 (fun w gv => (Only [] wr w) ∧ (True) ∧ (Blk w gv 38 #[.int .i64 0, .int .i64 0]) ∧ (wr.heap.size ≤ gv))
    intro HST8_9
    apply cut_1_0 (fun w gv => (Only [] wr w) ∧ (True) ∧ (Blk w gv 38 #[.int .i64 0, .int .i64 0]) ∧ (wr.heap.size ≤ gv))
    intro HST9
    apply cut_0_0 (fun w  => (Only [] wr w) ∧ (True))
    intro HST8
    ·skip
     refine timed_forks (l := [8, 9]) (by kernel_rfl) (by simp) (fork_cons ⟨_, rfl, fun K hK => ?_⟩ (fork_cons ⟨_, rfl, fun K hK => ?_⟩ (fork_nil)))
     ·go_simp
      refine (HFRK.out _ _ _ _ _ _ _ _ (HI5.out.same (hO.out.trans OW))).mono ?_
      rintro e w3 ⟨rfl, O3⟩
      have OW1 := OW.trans O3
      have OS := O3
      refine hK.out _ _ (timed_holds (OW1) (timed_nil)) ?_
      clear hK K
      try simp only [Act.put, tdy]
      exact HST8 w3  ⟨OW1, trivial⟩
     ·go_simp
      have OW1 := OW.alloc (.cells #[.int .i64 0, .int .i64 0] 38)
      have OS : Only [] wz (wz.alloc (.cells #[.int .i64 0, .int .i64 0] 38)) := (Only.refl [] wz).alloc (.cells #[.int .i64 0, .int .i64 0] 38)
      have BV := Blk.made wz 38 #[.int .i64 0, .int .i64 0]
      have HGV : wr.heap.size ≤ wz.heap.size := OW.size
      generalize wz.alloc (.cells #[.int .i64 0, .int .i64 0] 38) = w1 at *
      generalize wz.heap.size = gv at *
      refine hK.out _ _ (timed_holds (OW1) (timed_nil)) ?_
      clear hK K
      try simp only [Act.put, tdy]
      exact HST9 w1 gv ⟨OW1, trivial, BV, HGV⟩
    ·skip
     intro wz  ⟨OW, HTT⟩
     refine timed_step (i := 9) (by kernel_rfl) rfl (fun K hK => ?_)
     go_simp
     have OW1 := OW.alloc (.cells #[.int .i64 0, .int .i64 0] 38)
     have OS : Only [] wz (wz.alloc (.cells #[.int .i64 0, .int .i64 0] 38)) := (Only.refl [] wz).alloc (.cells #[.int .i64 0, .int .i64 0] 38)
     have BV := Blk.made wz 38 #[.int .i64 0, .int .i64 0]
     have HGV : wr.heap.size ≤ wz.heap.size := OW.size
     generalize wz.alloc (.cells #[.int .i64 0, .int .i64 0] 38) = w1 at *
     generalize wz.heap.size = gv at *
     refine hK.out _ _ (timed_holds (OW1) (timed_nil)) ?_
     clear hK K
     try simp only [Act.put, tdy]
     exact HST8_9 w1 gv ⟨OW1, trivial, BV, HGV⟩
    ·skip
     intro wz gv ⟨OW, HTT, BV, HGV⟩
     refine timed_step (i := 8) (by kernel_rfl) rfl (fun K hK => ?_)
     go_simp
     refine (HFRK.out _ _ _ _ _ _ _ _ (HI5.out.same (hO.out.trans OW))).mono ?_
     rintro e w3 ⟨rfl, O3⟩
     have OW1 := OW.trans O3
     have OS := O3
     have BV1 := OS.blk BV (by simp)
     refine hK.out _ _ (timed_holds (OW1) (timed_nil)) ?_
     clear hK K
     try simp only [Act.put, tdy]
     exact HST8_9 w3 gv ⟨OW1, trivial, BV1, HGV⟩
    -- behind all of the crowd
    intro wz gv ⟨OW, HTT, BV, HGV⟩
    refine timed_step (i := 10) (by kernel_rfl) rfl (fun K hK => ?_)
    refine wp_store_blk 38 (.tmp 8) (.tmp 55) rfl gv 38 _ #[.int .i64 1, .int .i64 fq] rfl rfl BV rfl (by kernel_rfl) (by kernel_rfl) ?_
    intro w9 b9 o9
    have HV9b := Lib.hid b9
    have OW9 := OW.step o9 (fun i hi hl => by simp at hi; omega)
    clear o9 b9
    refine hK.out _ _ (timed_holds (OW9) (timed_nil)) ?_
    clear hK K
    try simp only [Act.put, tdy]
    refine timed_done (by kernel_rfl) ?_ _
    refine NoPanic.normal ?_
    have HW9 := Lib.hid OW9
    have HO2 := Lib.hid (hO.out.trans HW9.out)
    have HT2 := Lib.hid (HW9.out.blk hT.out (by simp))
    have HOW2 := Lib.hid (own_only hOW.out HW9.out (by simp))
    have hgv : Hid (w5.heap.size ≤ gv) := Lib.hid (by have := hO.out.size; have := HGV; omega)
    clear hO hT hOW HK hob1 HW9
    obtain ⟨v, hv⟩ : ∃ v : V2, v = if h : q < vs.length then vs[q] else (1, fq) := ⟨_, rfl⟩
    have HV := Lib.hid hv
    clear hv
    obtain ⟨v1, v2⟩ := v
    go_upto_region 13 with (fail)
    go_upto_if 59 with (fail)
    go_cut [8] (fun pv wx => pv = .pointer (some ⟨gv, 0, none⟩) ∧ Hid (Blk wx gv 38 #[.int .i64 v1, .int .i64 v2]) ∧ Hid (Only [gv] w9 wx))
    case first =>
     by_cases hql : q < m5
     ·have d1 : decide ((q : Int) < (m5 : Int)) = true := decide_eq_true (by omega)
      have d1' : decide (q < m5) = true := decide_eq_true hql
      have hqm' : (q : Int) < (m5 : Int) := by omega
      have hqv : vs[q]? = some (v1, v2) := by
       have := HV.out
       rw [dif_pos (by rw [HM5.out]; exact hql)] at this
       rw [this, List.getElem?_eq_getElem]
      obtain ⟨b5, o5, rfl, -, hb5, hc5⟩ := HR5.out.open_ (k := q * 2) (by rw [edgeC_len, HM5.out]; omega)
      have g5 := edgeC_get vs q _ hqv
      have c50 := (HO2.out.cell (p := ⟨b5, o5 + q * 2, none⟩) hb5 (by simp)).trans (hc5 _ _ g5.1)
      have c51 := (HO2.out.cell (p := ⟨b5, o5 + (q * 2 + 1), none⟩) hb5 (by simp)).trans (hc5 _ _ g5.2)
      rw [← Nat.add_assoc] at c51
      have hb59 : b5 < w9.heap.size := by have := HO2.out.size; omega
      clear hc5 g5
      go_wp2_with (refine wpList_store_blk rfl 38 (.tmp 8) (.tmp 63) rfl gv 38 _ #[.int .i64 v1, .int .i64 v2] rfl rfl HV9b.out rfl (by kernel_rfl) (by kernel_rfl) ?_; intro wq bq oq; have HBq := Lib.hid bq; have HOq := Lib.hid oq; clear bq oq)
      go_meet
      exact ⟨rfl, HBq, HOq⟩
     ·have d1 : decide ((q : Int) < (m5 : Int)) = false := decide_eq_false (by omega)
      have d1' : decide (q < m5) = false := decide_eq_false hql
      have hvv := HV.out
      rw [dif_neg (by rw [HM5.out]; exact hql)] at hvv
      obtain ⟨rfl, rfl⟩ := Prod.mk.inj hvv
      go_wp2
      go_meet
      exact ⟨rfl, HV9b, Lib.hid (Only.refl _ _)⟩
    case rest =>
     obtain ⟨rfl, HVc, HOc⟩ := hcut
     have HO3 := Lib.hid (HO2.out.step HOc.out (fun x hx hl => by simp at hx; have := hgv.out; omega))
     have HT3 := Lib.hid (HOc.out.blk HT2.out (by have := HT2.out.apart HV9b.out (by decide); simpa using this))
     have HOW3 := Lib.hid (own_only HOW2.out HOc.out (fun x hx => by have := own_apart HOW2.out HV9b.out (by decide); rw [hx] at this; simp at this ⊢; omega))
     clear HO2 HT2 HOW2 HV9b HOc
     have hb_P := HO3.out.blk HP5.out (by simp)
     have lP := hb_P.lt
     have p0 := hb_P.at_ 0
     have p1 := hb_P.at_ 1
     have lT := HT3.out.lt
     have t2 := HT3.out.at_ 2
     have lV := HVc.out.lt
     have u0 := HVc.out.at_ 0
     have u1 := HVc.out.at_ 1
     simp at p0 p1 t2 u0 u1
     clear hb_P
     have hol : j * 4 + 2 + 2 ≤ (opC (ops0.set j o')).length := by rw [opC_len, List.length_set, hmm]; omega
     go_upto_region 16 with (refine wpList_store_mid rfl 38 (.tmp 70) (.tmp 68) rfl ob (j * 4 + 2) #[.int .i64 v1, .int .i64 v2] rfl rfl (own_there HOW3.out rfl hol) (by kernel_rfl) (by kernel_rfl) ?_)
     have OD : Only [ob] wc (wc.setCells ob (j * 4 + 2) [.int .i64 v1, .int .i64 v2]) := setCells_only ob _ _ _ _ _ (Only.refl _ _) (fun _ => by simp)
     have HOW4 : Hid ((wc.setCells ob (j * 4 + 2) [.int .i64 v1, .int .i64 v2]).ownsRow 0 48 4 (.slice (some ⟨ob, 0, none⟩) m cb) m (opC (ops0.set j (opSet o0 (v1, v2))))) := Lib.hid (by
      have h1 := own_set2 HOW3.out rfl hol (.int .i64 v1) (.int .i64 v2)
      rw [opC_setV (List.getElem?_set_self (by rw [hmm]; exact hjm)), List.set_set, HO'.out.1, HO'.out.2] at h1
      exact h1)
     have HO4 := Lib.hid (HO3.out.step OD (fun x hx hl => by simp at hx; have := hob5.out; omega))
     have HT4 := Lib.hid (OD.blk HT3.out (by have := hgob.out; simp; omega))
     clear OD HO3 HT3 HOW3 lP p0 p1 lT t2 lV u0 u1 HVc hol
     generalize (wc.setCells ob (j * 4 + 2) [.int .i64 v1, .int .i64 v2]) = wd at *
     have hb_H := HO4.out.blk HB5.out (by simp)
     have lB := hb_H.lt
     have y0 := hb_H.at_ 0
     have y1 := hb_H.at_ 1
     have y2 := hb_H.at_ 2
     simp at y0 y1 y2
     clear hb_H
     go_upto_region 17 with (fail)
     have OE : Only [] wd (wd.alloc (.cells #[.slice B0 m0 d0, .slice B1 m1 d1, .slice (some ⟨bl, off, none⟩) m2 d2] 25)) := (Only.refl [] wd).alloc _
     have HG5 := Lib.hid (Blk.made wd 25 #[.slice B0 m0 d0, .slice B1 m1 d1, .slice (some ⟨bl, off, none⟩) m2 d2])
     have HO5' := Lib.hid (HO4.out.trans OE)
     have HT5 := Lib.hid (OE.blk HT4.out (by simp))
     have HOW5 := Lib.hid (own_only HOW4.out OE (by simp))
     have hgh : Hid (w5.heap.size ≤ wd.heap.size) := Lib.hid HO4.out.size
     clear OE HO4 HT4 HOW4 lB y0 y1 y2
     generalize (wd.alloc (.cells #[.slice B0 m0 d0, .slice B1 m1 d1, .slice (some ⟨bl, off, none⟩) m2 d2] 25)) = we at *
     generalize wd.heap.size = gh at *
     have hb_H := HO5'.out.blk HB5.out (by simp)
     have lB := hb_H.lt
     have y2 := hb_H.at_ 2
     simp at y2
     clear hb_H
     have lG := HG5.out.lt
     have z2 := HG5.out.at_ 2
     have fz2 := HG5.out.free 2
     simp at z2
     obtain ⟨xs0, hxs0, hrow0, hok0⟩ := HI5.out.at_.r2
     have hx0l : xs0.length = m2 := by rw [← hm2e.out, ← hxs0, List.length_map]
     have HXR := Lib.hid (hrow0.only HO5'.out (by simp))
     have HX0 := Lib.hid hxs0
     have HXK := Lib.hid hok0
     have HXL := Lib.hid hx0l
     have hsz5 : w5.heap.size ≤ we.heap.size := HO5'.out.size
     clear hrow0 hxs0 hok0 hx0l
     go_upto_region 18 with (at_builtin; refine wpList_append_row _ rfl (.tmp 72) (.tmp 74) _ rfl we.heap.size 46 iT _ 3 40 Tryz.underlying23 hiT hzT0 hzT1 hzT2 rfl (by omega) _ 0 [] rfl (World.ownsRow_lit we #[] 0 (Nat.le_refl _) (by unfold maxLen; omega) rfl) _ _ m2 d2 (txC xs0) rfl (by rw [txC_len, HXL.out]) (HXR.out.only ((Only.refl [] we).alloc (.cells #[] 46)) (by simp)) (one_txC _) (by unfold maxLen; omega) (by omega) (by simp) ?_; intro V9 wf hown9 hgrow9 hat9; rw [Nat.zero_add, List.nil_append] at hown9; obtain ⟨tb, ct, rfl, htb, hmct, hctm⟩ := own_some0 hown9 (by omega); have OF : Only [] we wf := ((Only.refl [] we).alloc (.cells #[] 46)).step (only_grown hgrow9) (fun i (hi : i ∈ [we.heap.size]) hl => by simp at hi; omega); have HG6 := Lib.hid (OF.blk HG5.out (by simp)); have lG6 := HG6.out.lt; have z62 := HG6.out.at_ 2; have fz62 := HG6.out.free 2; simp at z62)
     have OG : Only [gh] wf (wf.setCell ⟨gh, 2, none⟩ (.slice (some ⟨tb, 0, none⟩) m2 ct)) := (Only.refl [gh] wf).put (fun _ => by simp) _
     have HG7 : Hid (Blk (wf.setCell ⟨gh, 2, none⟩ (.slice (some ⟨tb, 0, none⟩) m2 ct)) gh 25 #[.slice B0 m0 d0, .slice B1 m1 d1, .slice (some ⟨tb, 0, none⟩) m2 ct]) := Lib.hid (by have := HG6.out.put 2 (.slice (some ⟨tb, 0, none⟩) m2 ct); simpa using this)
     have HOT7 := Lib.hid (own_only hown9 OG (fun x hx => by simp [Value.ownBlock] at hx; subst hx; simp; omega))
     have HOW7 := Lib.hid (own_only (own_only HOW5.out OF (by simp)) OG (fun x hx => by have := own_apart HOW5.out HG5.out (by decide); rw [hx] at this; simp at this ⊢; omega))
     have HT7 := Lib.hid (OG.blk (OF.blk HT5.out (by simp)) (by have := HT5.out.apart HG5.out (by decide); simpa using this))
     have HO7 := Lib.hid ((HO5'.out.trans OF).step OG (fun x hx hl => by simp at hx; have := hgh.out; omega))
     have htb5 : Hid (w5.heap.size ≤ tb) := Lib.hid (by omega)
     have hghtb : Hid (gh < tb) := Lib.hid (by omega)
     have hgttb : Hid (gt < tb) := Lib.hid (by have := HT5.out.lt; omega)
     clear OG OF HG6 lG6 z62 fz62 hown9 hgrow9 hat9 HG5 HO5' HT5 HOW5 lB y2 lG z2 fz2 HXR hsz5 htb
     generalize (wf.setCell ⟨gh, 2, none⟩ (.slice (some ⟨tb, 0, none⟩) m2 ct)) = wg at *
     have hb_P := HO7.out.blk HP5.out (by simp)
     have lP := hb_P.lt
     have p0 := hb_P.at_ 0
     have p1 := hb_P.at_ 1
     have lT := HT7.out.lt
     have t0 := HT7.out.at_ 0
     have t1 := HT7.out.at_ 1
     have t2 := HT7.out.at_ 2
     have lG := HG7.out.lt
     have z2 := HG7.out.at_ 2
     simp at p0 p1 t0 t1 t2 z2
     clear hb_P
     have htl : i * 3 + 3 ≤ (txC xs0).length := by rw [txC_len, HXL.out]; omega
     go_upto_region 19 with (refine wpList_store_mid rfl 46 (.tmp 82) (.tmp 81) rfl tb (i * 3) #[.int .i64 s0, .int .i64 f0, .slice (some ⟨ob, 0, none⟩) m cb] rfl rfl (own_there HOT7.out rfl htl) (by kernel_rfl) (by kernel_rfl) ?_)
     have OH : Only [tb] wg (wg.setCells tb (i * 3) [.int .i64 s0, .int .i64 f0, .slice (some ⟨ob, 0, none⟩) m cb]) := setCells_only tb _ _ _ _ _ (Only.refl _ _) (fun _ => by simp)
     obtain ⟨x0, hx0⟩ : ∃ x0, xs0[i]? = some x0 := ⟨_, List.getElem?_eq_getElem (by rw [HXL.out]; exact hi2)⟩
     obtain ⟨y, hy⟩ : ∃ y : TxA, y = ⟨txSet ⟨s0, f0, ops0⟩ j o0 (v1, v2), some ⟨ob, 0, none⟩, cb⟩ := ⟨_, rfl⟩
     have hyl : y.t.ops.length = m := by rw [hy]; show (ops0.set j _).length = m; rw [List.length_set, hmm]
     have HOT8 : Hid ((wg.setCells tb (i * 3) [.int .i64 s0, .int .i64 f0, .slice (some ⟨ob, 0, none⟩) m cb]).ownsRow we.heap.size 46 3 (.slice (some ⟨tb, 0, none⟩) m2 ct) m2 (txC (xs0.set i y))) := Lib.hid (by
      have h1 := own_set3 HOT7.out rfl htl (.int .i64 s0) (.int .i64 f0) (.slice (some ⟨ob, 0, none⟩) m cb)
      have h2 := txC_setT (y := y) hx0
      rw [hyl, hy] at h2
      dsimp only [txSet] at h2
      rw [h2] at h1
      rw [hy]
      exact h1)
     obtain ⟨ct7, hbt7⟩ := own_blk HOT7.out (g := tb) rfl
     have HOW8 := Lib.hid (own_only HOW7.out OH (fun x hx => by have := own_apart HOW7.out hbt7 (by decide); rw [hx] at this; simp at this ⊢; omega))
     have HG8 := Lib.hid (OH.blk HG7.out (by have := hghtb.out; simp; omega))
     have HT8 := Lib.hid (OH.blk HT7.out (by have := hgttb.out; simp; omega))
     have HO8 := Lib.hid (HO7.out.step OH (fun x hx hl => by simp at hx; have := htb5.out; omega))
     clear OH HG7 HOT7 HOW7 HT7 HO7 lP p0 p1 lT t0 t1 t2 lG z2 htl hbt7
     generalize (wg.setCells tb (i * 3) [.int .i64 s0, .int .i64 f0, .slice (some ⟨ob, 0, none⟩) m cb]) = wh at *
     have HI8 : HIn wh wh.heap.size B0 B1 (some ⟨tb, 0, none⟩) m0 m1 m2 (hstSet G i (txSet ⟨s0, f0, ops0⟩ j o0 (v1, v2))) := by
      have hS := (HI5.out.same HO8.out).up
      obtain ⟨AT, cT, eT, -, -, -, rT⟩ := own_row HOT8.out
      obtain ⟨AO, cO, eO, -, -, -, rO⟩ := own_row HOW8.out
      cases eT
      cases eO
      refine ⟨⟨hS.at_.r0, hS.at_.r1, ⟨xs0.set i y, ?_, rT, fun x hx => ?_⟩⟩, HI5.out.n0, HI5.out.n1, ?_, small_set HI5.out.sm hx1.out (by show (ops0.set j _).length = ops0.length; rw [List.length_set]), hS.u⟩
      ·show (xs0.set i y).map TxA.t = G.l.set i _
       rw [List.map_set, HX0.out, hy]
      ·rcases List.mem_or_eq_of_mem_set hx with h1 | rfl
       ·exact ((HXK.out x h1).only HO8.out (by simp)).up
       ·exact ⟨by rw [hy]; exact rO, by rw [hyl, hy]; exact hmc, by rw [hy]; exact hcm⟩
      ·show (G.l.set i _).length = m2
       rw [List.length_set]
       exact HI5.out.n2
     have HCALL := Lib.hid (HOF.out _ _ _ _ d0 d1 ct _ wh HI8)
     have HRL : Hid (if q < m5 then 0 < (wrOf (hstSet G i (txSet ⟨s0, f0, ops0⟩ j o0 (v1, v2))) (i : Int) (j : Int)).length else (wrOf (hstSet G i (txSet ⟨s0, f0, ops0⟩ j o0 (v1, v2))) (i : Int) (j : Int)).length = 0) := Lib.hid (by
      have hv := HV.out
      split
      ·rename_i hql
       rw [dif_pos (by rw [HM5.out]; exact hql)] at hv
       exact HVM.out _ (by rw [hv]; exact List.getElem_mem _)
      ·rename_i hql
       rw [dif_neg (by rw [HM5.out]; exact hql)] at hv
       rw [hv]
       exact HVN.out)
     generalize wrOf (hstSet G i (txSet ⟨s0, f0, ops0⟩ j o0 (v1, v2))) (i : Int) (j : Int) = rw at *
     clear HI8 HOT8 hx0 hy hyl HX0 HXK HXL HV
     have hb_P := HO8.out.blk HP5.out (by simp)
     have lP := hb_P.lt
     have p0 := hb_P.at_ 0
     have p1 := hb_P.at_ 1
     have lG := HG8.out.lt
     have z0 := HG8.out.at_ 0
     have z1 := HG8.out.at_ 1
     have z2 := HG8.out.at_ 2
     simp at p0 p1 z0 z1 z2
     clear hb_P
     go_wp2_with fail
     refine (HCALL.out).mono ?_
     rintro e wi ⟨Vi, ⟨rfl, hVi⟩, OI⟩
     obtain ⟨Ai, ci, rfl, -, -, -, -⟩ := own_row hVi
     have HOWi := Lib.hid (own_only HOW8.out OI (by simp))
     have HTi := Lib.hid (OI.blk HT8.out (by simp))
     have HOi := Lib.hid (HO8.out.trans OI)
     clear hVi OI HOW8 HT8 HO8 HG8 lP p0 p1 lG z0 z1 z2 HCALL
     generalize rw.length = rl at *
     by_cases hql : q < m5
     ·have d1 : decide ((q : Int) < (m5 : Int)) = true := decide_eq_true (by omega)
      have d1' : decide (q < m5) = true := decide_eq_true hql
      have hrl := HRL.out
      rw [if_pos hql] at hrl
      have d2 : decide ((0 : Int) < (rl : Int)) = true := decide_eq_true (by omega)
      have d2' : decide (0 < rl) = true := decide_eq_true hrl
      clear HRL hrl
      go_wp2
      go_roundw
      case rel => exact ⟨q + 1, opSet o0 (v1, v2), by go_num, by omega, Lib.hid ⟨rfl, rfl⟩, HOWi, HTi, HOi⟩
      case measure => simp [intOf]; omega
     ·have d1 : decide ((q : Int) < (m5 : Int)) = false := decide_eq_false (by omega)
      have d1' : decide (q < m5) = false := decide_eq_false hql
      have hrl := HRL.out
      rw [if_neg hql] at hrl
      subst hrl
      clear HRL
      go_wp2
      go_roundw
      case rel => exact ⟨q + 1, opSet o0 (v1, v2), by go_num, by omega, Lib.hid ⟨rfl, rfl⟩, HOWi, HTi, HOi⟩
      case measure => simp [intOf]; omega
   ·have hqm : q = m5 + 1 := by omega
    subst hqm
    have hd2 : decide (((m5 + 1 : Nat) : Int) ≤ (m5 : Int)) = false := decide_eq_false (by omega)
    have hd2' : decide (m5 + 1 ≤ m5) = false := decide_eq_false (by omega)
    have HOF1 := Lib.hid (HO5.out.trans hO.out)
    go_wp2
    go_ret
    exact ⟨rfl, HOF1.out⟩
end Go.Proofs.YtjfbeeogiejopaaGreatDoor
