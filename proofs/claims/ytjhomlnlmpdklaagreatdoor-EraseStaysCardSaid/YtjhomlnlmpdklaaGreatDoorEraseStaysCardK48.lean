/- EraseStays: the walk. -/
import Derived.Test.YtjhomlnlmpdklaaGreatDoorEraseStaysCardK35
import Derived.Test.YtjhomlnlmpdklaaGreatDoorEraseStaysCardK36
import Derived.Test.YtjhomlnlmpdklaaGreatDoorEraseStaysCardK37
import Derived.Test.YtjhomlnlmpdklaaGreatDoorEraseStaysCardK46
import Derived.Test.YtjhomlnlmpdklaaGreatDoorEraseStaysCardK47
import Derived.Test.YtjhomlnlmpdklaaGreatDoorEraseStaysCardK45
import Derived.Test.YtjhomlnlmpdklaaGreatDoorEraseStaysCardK10
set_option linter.unusedVariables false
set_option linter.unusedSimpArgs false
namespace Go.Proofs.YtjhomlnlmpdklaaGreatDoor
open Go.RowKit
open Go.Lib hiding intOf
attribute [local go_sem ↓] Go.wp_at_zero Go.wp_at_succ
set_option maxRecDepth 10000 in
set_option maxHeartbeats 8000000 in
theorem eraseStays_walk (A0 A1 A2 : Option Addr) (c0 c1 c2 : Nat) (h : Hst) (w : World) (hg : HAt w w.heap.size A0 A1 A2 h) (hm0 : h.ss.length ≤ maxLen) (hm1 : h.ks.length ≤ maxLen) (hm2 : h.l.length ≤ maxLen)
  (hz0 : ∀ z ∈ h.ss, z.size ≤ maxLen) (hz1 : ∀ z ∈ h.ks, z.size ≤ maxLen) (hT : UTabs w) (hM : MLen w) (hV : Verbs w) :
  Calls Tryz.prog 8 #[hval A0 A1 A2 h.ss.length h.ks.length h.l.length c0 c1 c2] w fun e w' => e = .returned (.bool true) ∧ Only [] w w' := by
 unfold hval
 have HW := Lib.hid (fun w' (h : Only [] w w') => works14_any w' (hT.only h) (hM.only h) (hV.only h))
 have HF0 := Lib.hid (fun w' (O : Only [] w w') => few_first A0 A1 A2 c0 c1 c2 h w' (hg.only O (by simp)).up hm0 hm1 hm2 hz0 hz1 (hT.only O))
 have HT := Lib.hid hT
 have HSM := Lib.hid (few_small h)
 generalize fewH h = G at *
 generalize h.ss.length = n0 at *
 generalize h.ks.length = n1 at *
 generalize h.l.length = n2 at *
 generalize G.ss.length = m0 at *
 generalize G.ks.length = m1 at *
 generalize hm2' : G.l.length = m2 at *
 have HN2 := Lib.hid hm2'
 clear hg hm0 hm1 hm2 hz0 hz1 hT hM hV hm2'
 have HOF := Lib.hid (fun (D0 D1 D2 : Option Addr) (f0 f1 f2 B : Nat) w' (hI : HIn w' B D0 D1 D2 m0 m1 m2 G) => eof_any D0 D1 D2 m0 m1 m2 f0 f1 f2 B G w' hI)
 have HMY := Lib.hid (fun (D0 D1 D2 : Option Addr) (f0 f1 f2 B : Nat) w' (hI : HIn w' B D0 D1 D2 m0 m1 m2 G) => refmay_any D0 D1 D2 m0 m1 m2 f0 f1 f2 B G w' hI)
 have HPL := Lib.hid (fun (a b : Int) (D0 D1 D2 : Option Addr) (f0 f1 f2 B : Nat) w' (hI : HIn w' B D0 D1 D2 m0 m1 m2 G) => eplace_any D0 D1 D2 m0 m1 m2 f0 f1 f2 B G a b w' hI)
 unfold hval at HOF HMY HPL
 have HB1 := Lib.hid (Blk.made w 25 #[.slice A0 n0 c0, .slice A1 n1 c1, .slice A2 n2 c2])
 have HO1 := Lib.hid ((Only.refl [] w).alloc (.cells #[.slice A0 n0 c0, .slice A1 n1 c1, .slice A2 n2 c2] 25))
 go_enter Tryz.func8, Tryz.ntmps8
 go_wp2_with fail
 refine (HW.out _ HO1.out).mono ?_
 rintro e w1 ⟨rfl, O1⟩
 have HB2 := Lib.hid (O1.blk HB1.out (by simp))
 have HO2 := Lib.hid (HO1.out.trans O1)
 clear O1 HB1 HO1 HW
 have lB := HB2.out.lt
 have y0 := HB2.out.at_ 0
 have y1 := HB2.out.at_ 1
 have y2 := HB2.out.at_ 2
 simp at y0 y1 y2
 go_wp2_with fail
 refine (HF0.out _ HO2.out).mono ?_
 rintro e w2 ⟨B0, B1, B2, d0, d1, d2, ⟨rfl, hI⟩, O2⟩
 have HI := Lib.hid hI
 have HB3 := Lib.hid (O2.blk HB2.out (by simp))
 have HO3 := Lib.hid (HO2.out.trans O2)
 clear hI O2 HB2 HO2 HF0 lB y0 y1 y2
 go_wp2_with (refine wpList_store_blk rfl 25 (.tmp 1) (.tmp 14) rfl w.heap.size 25 _ #[.slice B0 m0 d0, .slice B1 m1 d1, .slice B2 m2 d2] rfl rfl HB3.out rfl (by kernel_rfl) (by kernel_rfl) ?_; intro w3 hb3 o3; have HB4 := Lib.hid hb3; have HO4 := Lib.hid (HO3.out.step o3 (fun i hi hl => by simp at hi; omega)); have HI4 := Lib.hid (HI.out.past HB3.out o3 (HT.out.only HO4.out)); have lB := HB4.out.lt; have y0 := HB4.out.at_ 0; have y1 := HB4.out.at_ 1; have y2 := HB4.out.at_ 2; simp at y0 y1 y2; clear hb3 o3; clear HI HB3 HO3)
 generalize hgg : w.heap.size = g at *
 refine (HOF.out _ _ _ _ _ _ _ _ HI4.out).mono ?_
 rintro e w5 ⟨E0, E1, E2, a0, a1, a2, ⟨rfl, hN5⟩, O5⟩
 have HO5 := Lib.hid (HO4.out.trans O5)
 have HB5 := Lib.hid (O5.blk HB4.out (by simp))
 have HI5 := Lib.hid (HI4.out.same O5)
 have HN5 := Lib.hid hN5.at_
 clear O5 hN5 HO4 HB4 HI4 lB y0 y1 y2
 cases hm : mayH G with
 | false =>
  have hE : eraR notLost G = (⟨[], [], []⟩, 4) := by unfold eraR; rw [hm]; rfl
  rw [hE]
  rw [mayH_errn2 hm] at HMY
  dsimp only
  clear hE hm HN5
  go_upto_region 5 with (fail)
  have HX := Lib.hid ((Only.refl [] w5).alloc (.cells #[.slice E0 0 a0, .slice E1 0 a1, .slice E2 0 a2] 25))
  have HO6 := Lib.hid (HO5.out.trans HX.out)
  have HB6 := Lib.hid (HX.out.blk HB5.out (by simp))
  have HI6 := Lib.hid (HI5.out.same HX.out)
  clear HX HO5 HB5 HI5
  simp only [List.length_nil]
  generalize (w5.alloc (.cells #[.slice E0 0 a0, .slice E1 0 a1, .slice E2 0 a2] 25)) = w6 at *
  have lB := HB6.out.lt
  have y0 := HB6.out.at_ 0
  have y1 := HB6.out.at_ 1
  have y2 := HB6.out.at_ 2
  simp at y0 y1 y2
  go_wp2_with fail
  refine (HMY.out _ _ _ _ _ _ _ _ HI6.out).mono ?_
  rintro e w7 ⟨rfl, O7⟩
  have HO7 := Lib.hid (HO6.out.trans O7)
  clear O7
  go_wp2
  go_ret
  exact ⟨rfl, HO7.out⟩
 | true =>
  have HMG := Lib.hid hm
  have hE : eraR notLost G = (keptH notLost G, 0) := by unfold eraR; rw [hm]; rfl
  have HKM := Lib.hid (kept_may (p := notLost) hm)
  have HKS := Lib.hid (kept_stays hm)
  have HSK := Lib.hid (kept_small (p := notLost) HSM.out)
  have HKL := Lib.hid (kept_lost G)
  have HKA : Hid (∀ (i : Nat) (t : Tx), G.l[i]? = some t → (keptH notLost G).l[i]? = some (keptT notLost G.l t)) := Lib.hid (fun i t ht => by unfold keptH; dsimp only; rw [List.getElem?_map, ht]; rfl)
  have hKN : (keptH notLost G).l.length = m2 := by rw [← HN2.out]; simp [keptH]
  rw [hE] at HN5 ⊢
  dsimp only at HN5 ⊢
  have HK2 := Lib.hid hKN
  have hE2 : eraR notLost (keptH notLost G) = (keptH notLost G, 0) := by unfold eraR; rw [HKM.out, if_pos rfl, HKS.out]
  have HE2 := Lib.hid hE2
  clear hE hm HMY hE2
  generalize hKK : keptH notLost G = K at *
  have HIK := Lib.hid (fun (B0 B1 B2 : Option Addr) (w' w'' : World) (hA : HAt w' w'.heap.size B0 B1 B2 K) (O : Only [] w' w'') (Ow : Only [] w w'') => (⟨hA.only O (by simp), rfl, rfl, rfl, HSK.out, HT.out.only Ow⟩ : HIn w'' w'.heap.size B0 B1 B2 K.ss.length K.ks.length K.l.length K))
  have HOK := Lib.hid (fun (D0 D1 D2 : Option Addr) (f0 f1 f2 B : Nat) w' (hI : HIn w' B D0 D1 D2 K.ss.length K.ks.length K.l.length K) => eof_any D0 D1 D2 _ _ _ f0 f1 f2 B K w' hI)
  have HMK := Lib.hid (fun (D0 D1 D2 : Option Addr) (f0 f1 f2 B : Nat) w' (hI : HIn w' B D0 D1 D2 K.ss.length K.ks.length K.l.length K) => refmay_any D0 D1 D2 _ _ _ f0 f1 f2 B K w' hI)
  have HLK := Lib.hid (fun (D0 D1 D2 : Option Addr) (f0 f1 f2 B : Nat) w' (hI : HIn w' B D0 D1 D2 K.ss.length K.ks.length K.l.length K) => rlost_any D0 D1 D2 K.ss.length K.ks.length K.l.length f0 f1 f2 B K w' hI.at_.r2 rfl HSK.out.nl HSK.out.no)
  have HSA := Lib.hid (fun (B0 B1 B2 D0 D1 D2 : Option Addr) (d0 d1 d2 f0 f1 f2 B B' : Nat) w' (ha : HIn w' B B0 B1 B2 K.ss.length K.ks.length K.l.length K) (hb : HIn w' B' D0 D1 D2 K.ss.length K.ks.length K.l.length K) => rsame10_any B0 B1 B2 _ _ _ d0 d1 d2 B K D0 D1 D2 _ _ _ f0 f1 f2 B' K w' ha hb)
  unfold hval at HOK HMK HLK HSA
  rw [HE2.out] at HOK
  rw [mayH_err2 HKM.out] at HMK
  rw [HKL.out] at HLK
  rw [eqH_same] at HSA
  rw [hKN] at HIK HOK HMK HLK HSA ⊢
  clear hKN
  generalize K.ss.length = p0 at *
  generalize K.ks.length = p1 at *
  go_upto_region 5 with (fail)
  have HX := Lib.hid ((Only.refl [] w5).alloc (.cells #[.slice E0 p0 a0, .slice E1 p1 a1, .slice E2 m2 a2] 25))
  have HO6 := Lib.hid (HO5.out.trans HX.out)
  have HB6 := Lib.hid (HX.out.blk HB5.out (by simp))
  have HI6 := Lib.hid (HI5.out.same HX.out)
  have HA6 := Lib.hid (Blk.made w5 25 #[.slice E0 p0 a0, .slice E1 p1 a1, .slice E2 m2 a2])
  have HC6 := Lib.hid (HIK.out _ _ _ _ _ HN5.out HX.out HO6.out)
  clear HX HO5 HB5 HI5 HN5
  generalize (w5.alloc (.cells #[.slice E0 p0 a0, .slice E1 p1 a1, .slice E2 m2 a2] 25)) = w6 at *
  generalize w5.heap.size = ga at *
  have lA := HA6.out.lt
  have u0 := HA6.out.at_ 0
  have u1 := HA6.out.at_ 1
  have u2 := HA6.out.at_ 2
  simp at u0 u1 u2
  go_wp2_with fail
  refine (HOK.out _ _ _ _ _ _ _ _ HC6.out).mono ?_
  rintro e w7 ⟨F0, F1, F2, b0, b1, b2, ⟨rfl, hN7⟩, O7⟩
  have HO7 := Lib.hid (HO6.out.trans O7)
  have HB7 := Lib.hid (O7.blk HB6.out (by simp))
  have HI7 := Lib.hid (HI6.out.same O7)
  have HA7 := Lib.hid (O7.blk HA6.out (by simp))
  have HC7 := Lib.hid (HC6.out.same O7)
  have HN7 := Lib.hid hN7.at_
  clear O7 hN7 HO6 HB6 HI6 HA6 HC6 lA u0 u1 u2
  go_upto_region 8 with (fail)
  have HX := Lib.hid ((Only.refl [] w7).alloc (.cells #[.slice F0 p0 b0, .slice F1 p1 b1, .slice F2 m2 b2] 25))
  have HO8 := Lib.hid (HO7.out.trans HX.out)
  have HB8 := Lib.hid (HX.out.blk HB7.out (by simp))
  have HI8 := Lib.hid (HI7.out.same HX.out)
  have HA8 := Lib.hid (HX.out.blk HA7.out (by simp))
  have HC8 := Lib.hid (HC7.out.same HX.out)
  have HE8 := Lib.hid (Blk.made w7 25 #[.slice F0 p0 b0, .slice F1 p1 b1, .slice F2 m2 b2])
  have HD8 := Lib.hid (HIK.out _ _ _ _ _ HN7.out HX.out HO8.out)
  clear HX HO7 HB7 HI7 HN7 HA7 HC7
  generalize (w7.alloc (.cells #[.slice F0 p0 b0, .slice F1 p1 b1, .slice F2 m2 b2] 25)) = w8 at *
  generalize w7.heap.size = gb at *
  have lA := HA8.out.lt
  have u0 := HA8.out.at_ 0
  have u1 := HA8.out.at_ 1
  have u2 := HA8.out.at_ 2
  have lE := HE8.out.lt
  have v0 := HE8.out.at_ 0
  have v1 := HE8.out.at_ 1
  have v2 := HE8.out.at_ 2
  simp at u0 u1 u2 v0 v1 v2
  go_wp2_with fail
  refine (HSA.out _ _ _ _ _ _ _ _ _ _ _ _ _ _ _ HC8.out HD8.out).mono ?_
  rintro e w9 ⟨rfl, O9⟩
  have HO9 := Lib.hid (HO8.out.trans O9)
  have HB9 := Lib.hid (O9.blk HB8.out (by simp))
  have HI9 := Lib.hid (HI8.out.same O9)
  have HA9 := Lib.hid (O9.blk HA8.out (by simp))
  have HC9 := Lib.hid (HC8.out.same O9)
  clear O9 HO8 HB8 HI8 HA8 HC8 HE8 HD8 lA u0 u1 u2 lE v0 v1 v2
  have lA := HA9.out.lt
  have u0 := HA9.out.at_ 0
  have u1 := HA9.out.at_ 1
  have u2 := HA9.out.at_ 2
  simp at u0 u1 u2
  go_wp2_with fail
  refine (HMK.out _ _ _ _ _ _ _ _ HC9.out).mono ?_
  rintro e wa ⟨rfl, Oa⟩
  have HOa := Lib.hid (HO9.out.trans Oa)
  have HBa := Lib.hid (Oa.blk HB9.out (by simp))
  have HIa := Lib.hid (HI9.out.same Oa)
  have HAa := Lib.hid (Oa.blk HA9.out (by simp))
  have HCa := Lib.hid (HC9.out.same Oa)
  clear Oa HO9 HB9 HI9 HA9 HC9 lA u0 u1 u2
  have lA := HAa.out.lt
  have u0 := HAa.out.at_ 0
  have u1 := HAa.out.at_ 1
  have u2 := HAa.out.at_ 2
  simp at u0 u1 u2
  go_wp2_with fail
  refine (HLK.out _ _ _ _ _ _ _ _ HCa.out).mono ?_
  rintro e wb ⟨LA, lc, ⟨rfl, -⟩, Ob⟩
  have HOb := Lib.hid (HOa.out.trans Ob)
  have HBb := Lib.hid (Ob.blk HBa.out (by simp))
  have HIb := Lib.hid (HIa.out.same Ob)
  have HAb := Lib.hid (Ob.blk HAa.out (by simp))
  have HCb := Lib.hid (HCa.out.same Ob)
  generalize wa.heap.size = ba at *
  clear Ob HOa HBa HIa HAa HCa lA u0 u1 u2
  simp only [List.length_nil]
  go_wp2_with fail
  go_loopw [7] (fun iv wr => ∃ i : Nat, iv = .int .i64 i ∧ i ≤ m2 ∧ Hid (Only [] wb wr)) (fun iv _ => m2 - (intOf iv).toNat)
  case atStart => exact ⟨0, rfl, by omega, Lib.hid (Only.refl [] wb)⟩
  case round =>
   obtain ⟨i, rfl, hi, hO⟩ := hrel
   have HBc := Lib.hid (hO.out.blk HBb.out (by simp))
   have lB := HBc.out.lt
   have y2 := HBc.out.at_ 2
   simp at y2
   by_cases hlt : i < m2
   ·obtain ⟨t, ht⟩ : ∃ t, G.l[i]? = some t := ⟨_, List.getElem?_eq_getElem (by rw [HN2.out]; exact hlt)⟩
    have HTK := Lib.hid (HKA.out i t ht)
    have HTX := Lib.hid ht
    have hno := HSM.out.no t (List.mem_of_getElem? ht)
    obtain ⟨bt, ot, AT, cpt, hAT, hbtB, hbtw, hTA, hOk⟩ := HIb.out.at_.r2.at_ ht
    have HTA := Lib.hid hTA
    have HROW := Lib.hid hOk.row
    have h01 : (i : Int) < (m2 : Int) := by omega
    have hi0 : (0 : Int) ≤ (i : Int) := Int.natCast_nonneg _
    have hwi : IntKind.i64.wrap ((i : Int) + 1) = (i : Int) + 1 := IntWalk.i64_in _ (by have := HSM.out.nl; rw [HN2.out] at this; omega)
    have HPO := Lib.hid (fun (j : Nat) (o : Op4) (ho : t.ops[j]? = some o) => place_some (opAt_yes (txAt_yes HMG.out ht) ho))
    generalize hmm : t.ops.length = m at *
    have HMM := Lib.hid hmm
    subst hAT
    clear ht hTA hOk hmm
    have HO1c := Lib.hid (HOb.out.trans hO.out)
    have HIc := Lib.hid (HIb.out.same hO.out)
    have HAc := Lib.hid (hO.out.blk HAb.out (by simp))
    have HCc := Lib.hid (HCb.out.same hO.out)
    obtain ⟨wi, hwi'⟩ : ∃ wo : World, wo = wr := ⟨_, rfl⟩
    subst hwi'
    have hAT9 := (HTA.out.only hO.out hbtw (by simp))
    have HTAi := Lib.hid hAT9
    have hbti := Nat.lt_of_lt_of_le hbtw hO.out.size
    have HROWi := Lib.hid (HROW.out.only hO.out (by simp))
    have HOi := Lib.hid hO.out
    clear hAT9 hO HTA HROW hbtw
    obtain ⟨bk, ok_, AK, cpk, hAK, hbkB, hbkw, hTK, hOkk⟩ := HCc.out.at_.r2.at_ HTK.out
    subst hAK
    have HTKA := Lib.hid hTK
    have HKROW := Lib.hid hOkk.row
    clear hTK hOkk
    go_wp2_with fail
    go_loopw [8] (fun jv wr => ∃ j : Nat, jv = .int .i64 j ∧ j ≤ m ∧ Hid (Only [] wi wr)) (fun jv _ => m - (intOf jv).toNat)
    case atStart => exact ⟨0, rfl, by omega, Lib.hid (Only.refl [] wi)⟩
    case round =>
     obtain ⟨j, rfl, hj, hO2⟩ := hrel
     have HBd := Lib.hid (hO2.out.blk HBc.out (by simp))
     have lB := HBd.out.lt
     have y0 := HBd.out.at_ 0
     have y1 := HBd.out.at_ 1
     have y2 := HBd.out.at_ 2
     simp at y0 y1 y2
     obtain ⟨t0, t1, t2⟩ := HTAi.out.only hO2.out hbti (by simp)
     have hbtr : bt < wr.heap.size := Nat.lt_of_lt_of_le hbti hO2.out.size
     dsimp only at t0 t1 t2
     rw [HMM.out] at t2
     by_cases hlt2 : j < m
     ·obtain ⟨o, ho⟩ : ∃ o, t.ops[j]? = some o := ⟨_, List.getElem?_eq_getElem (by rw [HMM.out]; exact hlt2)⟩
      have HP := Lib.hid (HPO.out j o ho)
      have HKO := Lib.hid (fun hp => kept_at (l := G.l) ho hp)
      obtain ⟨bo, oo, hAo, hboB, hbo, hPo⟩ := row_op (HROWi.out.only hO2.out (by simp)) ho
      subst hAo
      have HPo := Lib.hid hPo
      obtain ⟨yw, yk, yv, yn⟩ := o
      dsimp only at HP HKO
      have h02 : (j : Int) < (m : Int) := by omega
      have hj0 : (0 : Int) ≤ (j : Int) := Int.natCast_nonneg _
      have hwj : IntKind.i64.wrap ((j : Int) + 1) = (j : Int) + 1 := IntWalk.i64_in _ (by omega)
      rw [show ((j : Int)).toNat = j from Int.toNat_natCast j] at HP
      have HPC := Lib.hid (HPL.out (i : Int) (j : Int) _ _ _ d0 d1 d2 _ wr (HIc.out.same hO2.out))
      clear ho hPo
      have HAd := Lib.hid (hO2.out.blk HAc.out (by simp))
      by_cases hv : yv = 2
      ·rw [HP.out, if_pos hv] at HPC
       unfold optT optV at HPC
       clear HP hv HKO
       go_wp2_with fail
       refine HPC.out.mono ?_
       rintro e wp ⟨rfl, Op⟩
       have HOp := Lib.hid (hO2.out.trans Op)
       clear Op
       go_upto_region 17 with (fail)
       have HX := Lib.hid ((Only.refl [] wp).alloc (.cells #[.int .i64 0, .int .i64 0] 27))
       have HOq := Lib.hid (HOp.out.trans HX.out)
       clear HX HOp
       generalize (wp.alloc (.cells #[.int .i64 0, .int .i64 0] 27)) = wq at *
       refine wp_region_noPanic ?_
       refine wp_region_timed (F := [⟨[], [], fun w' => Only [] wq w'⟩]) (by kernel_rfl) (timed_holds ((Only.refl [] wq).drew) (timed_nil)) ?_
       refine timed_pure (i := 0) (v := ?_) rfl (by kernel_rfl) (by kernel_rfl) (by kernel_rfl) (fun _ _ _ h => h) (by kernel_rfl) (by kernel_rfl) ?_ ?_
       rotate_left
       ·(intro w; go_simp; try with_reducible rfl)
       try simp only [Act.put, tdy]
       refine timed_pure (i := 1) (v := ?_) rfl (by kernel_rfl) (by kernel_rfl) (by kernel_rfl) (fun _ _ _ h => h) (by kernel_rfl) (by kernel_rfl) ?_ ?_
       rotate_left
       ·(intro w; go_simp; try with_reducible rfl)
       try simp only [Act.put, tdy]
       refine timed_idle (i := 2) rfl (by kernel_rfl) (by kernel_rfl) (by kernel_rfl) (fun _ _ _ h => h) (by kernel_rfl) (by kernel_rfl) ?_
       try simp only [Act.put, tdy]
       refine timed_idle (i := 3) rfl (by kernel_rfl) (by kernel_rfl) (by kernel_rfl) (fun _ _ _ h => h) (by kernel_rfl) (by kernel_rfl) ?_
       try simp only [Act.put, tdy]
       refine timed_idle (i := 4) rfl (by kernel_rfl) (by kernel_rfl) (by kernel_rfl) (fun _ _ _ h => h) (by kernel_rfl) (by kernel_rfl) ?_
       try simp only [Act.put, tdy]
       refine timed_idle (i := 5) rfl (by kernel_rfl) (by kernel_rfl) (by kernel_rfl) (fun _ _ _ h => h) (by kernel_rfl) (by kernel_rfl) ?_
       try simp only [Act.put, tdy]
       refine timed_idle (i := 6) rfl (by kernel_rfl) (by kernel_rfl) (by kernel_rfl) (fun _ _ _ h => h) (by kernel_rfl) (by kernel_rfl) ?_
       try simp only [Act.put, tdy]
       refine timed_idle (i := 7) rfl (by kernel_rfl) (by kernel_rfl) (by kernel_rfl) (fun _ _ _ h => h) (by kernel_rfl) (by kernel_rfl) ?_
       try simp only [Act.put, tdy]
       refine timed_idle (i := 8) rfl (by kernel_rfl) (by kernel_rfl) (by kernel_rfl) (fun _ _ _ h => h) (by kernel_rfl) (by kernel_rfl) ?_
       try simp only [Act.put, tdy]
       refine timed_idle (i := 9) rfl (by kernel_rfl) (by kernel_rfl) (by kernel_rfl) (fun _ _ _ h => h) (by kernel_rfl) (by kernel_rfl) ?_
       try simp only [Act.put, tdy]
       refine timed_idle (i := 10) rfl (by kernel_rfl) (by kernel_rfl) (by kernel_rfl) (fun _ _ _ h => h) (by kernel_rfl) (by kernel_rfl) ?_
       try simp only [Act.put, tdy]
       refine timed_idle (i := 11) rfl (by kernel_rfl) (by kernel_rfl) (by kernel_rfl) (fun _ _ _ h => h) (by kernel_rfl) (by kernel_rfl) ?_
       try simp only [Act.put, tdy]
       refine timed_idle (i := 12) rfl (by kernel_rfl) (by kernel_rfl) (by kernel_rfl) (fun _ _ _ h => h) (by kernel_rfl) (by kernel_rfl) ?_
       try simp only [Act.put, tdy]
       refine timed_idle (i := 13) rfl (by kernel_rfl) (by kernel_rfl) (by kernel_rfl) (fun _ _ _ h => h) (by kernel_rfl) (by kernel_rfl) ?_
       try simp only [Act.put, tdy]
       refine timed_idle (i := 14) rfl (by kernel_rfl) (by kernel_rfl) (by kernel_rfl) (fun _ _ _ h => h) (by kernel_rfl) (by kernel_rfl) ?_
       try simp only [Act.put, tdy]
       refine timed_idle (i := 15) rfl (by kernel_rfl) (by kernel_rfl) (by kernel_rfl) (fun _ _ _ h => h) (by kernel_rfl) (by kernel_rfl) ?_
       try simp only [Act.put, tdy]
       refine timed_idle (i := 16) rfl (by kernel_rfl) (by kernel_rfl) (by kernel_rfl) (fun _ _ _ h => h) (by kernel_rfl) (by kernel_rfl) ?_
       try simp only [Act.put, tdy]
       refine timed_idle (i := 17) rfl (by kernel_rfl) (by kernel_rfl) (by kernel_rfl) (fun _ _ _ h => h) (by kernel_rfl) (by kernel_rfl) ?_
       try simp only [Act.put, tdy]
       refine timed_idle (i := 18) rfl (by kernel_rfl) (by kernel_rfl) (by kernel_rfl) (fun _ _ _ h => h) (by kernel_rfl) (by kernel_rfl) ?_
       try simp only [Act.put, tdy]
       refine timed_idle (i := 19) rfl (by kernel_rfl) (by kernel_rfl) (by kernel_rfl) (fun _ _ _ h => h) (by kernel_rfl) (by kernel_rfl) ?_
       try simp only [Act.put, tdy]
       refine timed_idle (i := 20) rfl (by kernel_rfl) (by kernel_rfl) (by kernel_rfl) (fun _ _ _ h => h) (by kernel_rfl) (by kernel_rfl) ?_
       try simp only [Act.put, tdy]
       refine timed_idle (i := 21) rfl (by kernel_rfl) (by kernel_rfl) (by kernel_rfl) (fun _ _ _ h => h) (by kernel_rfl) (by kernel_rfl) ?_
       try simp only [Act.put, tdy]
       refine timed_idle (i := 22) rfl (by kernel_rfl) (by kernel_rfl) (by kernel_rfl) (fun _ _ _ h => h) (by kernel_rfl) (by kernel_rfl) ?_
       try simp only [Act.put, tdy]
       refine timed_idle (i := 23) rfl (by kernel_rfl) (by kernel_rfl) (by kernel_rfl) (fun _ _ _ h => h) (by kernel_rfl) (by kernel_rfl) ?_
       try simp only [Act.put, tdy]
       refine timed_idle (i := 24) rfl (by kernel_rfl) (by kernel_rfl) (by kernel_rfl) (fun _ _ _ h => h) (by kernel_rfl) (by kernel_rfl) ?_
       try simp only [Act.put, tdy]
       refine timed_pure (i := 25) (v := ?_) rfl (by kernel_rfl) (by kernel_rfl) (by kernel_rfl) (fun _ _ _ h => h) (by kernel_rfl) (by kernel_rfl) ?_ ?_
       rotate_left
       ·(intro w; go_simp; try with_reducible rfl)
       try simp only [Act.put, tdy]
       refine timed_done (by kernel_rfl) ?_ _
       refine NoPanic.normal ?_
       have HNX := Lib.hid ( ((Only.refl [] wq).drew))
       have HON := Lib.hid (HOq.out.trans HNX.out)
       go_wp2
       go_roundw
       case rel => first | exact ⟨j + 1, by go_num, by omega, HON⟩ | exact ⟨_, ⟨j + 1, by go_num, by omega, HON⟩, rfl⟩
       case measure => simp [intOf]; omega
      ·rw [HP.out, if_neg hv] at HPC
       have hat := HKO.out hv
       unfold optT optV at HPC
       clear HP
       have hnl : notL (t.ops.take j) < (keptO notLost G.l t.ops).length := (List.getElem?_eq_some_iff.1 hat).1
       have HAT := Lib.hid hat
       have hkml : (keptO notLost G.l t.ops).length ≤ 1000 := Nat.le_trans (keptO_len _ _ _) (by rw [HMM.out]; exact hno)
       clear hat HKO
       generalize notL (t.ops.take j) = q at *
       obtain ⟨bko, oko, hAK2, -, hbko, hPk⟩ := row_op HKROW.out HAT.out
       subst hAK2
       have HPk := Lib.hid hPk
       have HBK : Hid (bk < wi.heap.size) := Lib.hid hbkw
       have HBO : Hid (bko < wi.heap.size) := Lib.hid hbko
       have HKT2 : Hid (wi.cell? ⟨bk, ok_ + i * 3 + 2, none⟩ = some (.slice (some ⟨bko, oko, none⟩) (keptO notLost G.l t.ops).length cpk)) := Lib.hid HTKA.out.c2
       have HPk2 : Hid (wi.cell? ⟨bko, oko + q * 4 + 2, none⟩ = some (.int .i64 yv)) := Lib.hid HPk.out.c2
       have HPk3 : Hid (wi.cell? ⟨bko, oko + q * 4 + 3, none⟩ = some (.int .i64 yn)) := Lib.hid HPk.out.c3
       have HPo2 : Hid (wr.cell? ⟨bo, oo + j * 4 + 2, none⟩ = some (.int .i64 yv)) := Lib.hid HPo.out.c2
       have HPo3 : Hid (wr.cell? ⟨bo, oo + j * 4 + 3, none⟩ = some (.int .i64 yn)) := Lib.hid HPo.out.c3
       have HBOr : Hid (bo < wr.heap.size) := Lib.hid hbo
       have HBTr : Hid (bt < wr.heap.size) := Lib.hid hbtr
       have HT2 : Hid (wr.cell? ⟨bt, ot + i * 3 + 2, none⟩ = some (.slice (some ⟨bo, oo, none⟩) m cpt)) := Lib.hid t2
       clear hPk hbko HTKA HKROW HPk HPo hbo hbkw
       generalize (keptO notLost G.l t.ops).length = km at *
       have hq1 : (q : Int) < (km : Int) := by omega
       have hq0 : (0 : Int) ≤ (q : Int) := Int.natCast_nonneg _
       go_wp2_with fail
       refine HPC.out.mono ?_
       rintro e wp ⟨rfl, Op⟩
       have HOp := Lib.hid Op
       clear Op t0 t1 t2 lB y0 y1 y2 hbtr
       go_upto_region 17 with (fail)
       have HX := Lib.hid ((Only.refl [] wp).alloc (.cells #[.int .i64 (i : Int), .int .i64 (q : Int)] 27))
       have HPP := Lib.hid (Blk.made wp 27 #[.int .i64 (i : Int), .int .i64 (q : Int)])
       have HRZ := Lib.hid (HOp.out.trans HX.out)
       have HIZ := Lib.hid (hO2.out.trans HRZ.out)
       clear HX HOp
       generalize (wp.alloc (.cells #[.int .i64 (i : Int), .int .i64 (q : Int)] 27)) = wz at *
       generalize wp.heap.size = gp at *
       have HBz := Lib.hid (HRZ.out.blk HBd.out (by simp))
       have HAz := Lib.hid (HRZ.out.blk HAd.out (by simp))
       refine wp_region_noPanic ?_
       refine wp_region_timed (F := [⟨[], [], fun w' => Only [] wz w'⟩]) (by kernel_rfl) (timed_holds ((Only.refl [] wz).drew) (timed_nil)) ?_
       refine timed_pure (i := 0) (v := ?_) rfl (by kernel_rfl) (by kernel_rfl) (by kernel_rfl) (fun _ _ _ h => h) (by kernel_rfl) (by kernel_rfl) ?_ ?_
       rotate_left
       ·(intro w; go_simp; try with_reducible rfl)
       try simp only [Act.put, tdy]
       refine timed_pure (i := 1) (v := ?_) rfl (by kernel_rfl) (by kernel_rfl) (by kernel_rfl) (fun _ _ _ h => h) (by kernel_rfl) (by kernel_rfl) ?_ ?_
       rotate_left
       ·(intro w; go_simp; try with_reducible rfl)
       try simp only [Act.put, tdy]
       refine timed_pure (i := 2) (v := ?_) rfl (by kernel_rfl) (by kernel_rfl) (by kernel_rfl) (fun _ _ _ h => h) (by kernel_rfl) (by kernel_rfl) ?_ ?_
       rotate_left
       ·(intro w; go_simp; try with_reducible rfl)
       try simp only [Act.put, tdy]
       refine timed_read (i := 3) (v := ?_) 0 rfl (by kernel_rfl) (by kernel_rfl) (by kernel_rfl) (fun _ _ _ h => h) (by kernel_rfl) (by kernel_rfl) rfl (by kernel_rfl) ?_ ?_
       rotate_left
       ·(intro wq hSw; (try dsimp only at hSw); have hb_H := hSw.blk HBz.out (by simp); have lb_H := hb_H.lt; have y2 := hb_H.at_ 2; simp at y2; clear hb_H; have hb_A := hSw.blk HAz.out (by simp); have lb_A := hb_A.lt; have u2 := hb_A.at_ 2; simp at u2; clear hb_A; have hb_P := hSw.blk HPP.out (by simp); have lb_P := hb_P.lt; have p0 := hb_P.at_ 0; have p1 := hb_P.at_ 1; simp at p0 p1; clear hb_P; have k2 := ((HIZ.out.trans hSw).cell (p := ⟨bk, ok_ + i * 3 + 2, none⟩) HBK.out (by simp)).trans HKT2.out; have kb := Nat.lt_of_lt_of_le HBK.out (HIZ.out.trans hSw).size; have o2 := ((HIZ.out.trans hSw).cell (p := ⟨bko, oko + q * 4 + 2, none⟩) HBO.out (by simp)).trans HPk2.out; have o3 := ((HIZ.out.trans hSw).cell (p := ⟨bko, oko + q * 4 + 3, none⟩) HBO.out (by simp)).trans HPk3.out; have ob := Nat.lt_of_lt_of_le HBO.out (HIZ.out.trans hSw).size; have r2 := ((HRZ.out.trans hSw).cell (p := ⟨bo, oo + j * 4 + 2, none⟩) HBOr.out (by simp)).trans HPo2.out; have r3 := ((HRZ.out.trans hSw).cell (p := ⟨bo, oo + j * 4 + 3, none⟩) HBOr.out (by simp)).trans HPo3.out; have rb := Nat.lt_of_lt_of_le HBOr.out (HRZ.out.trans hSw).size; have t2 := ((HRZ.out.trans hSw).cell (p := ⟨bt, ot + i * 3 + 2, none⟩) HBTr.out (by simp)).trans HT2.out; have tb := Nat.lt_of_lt_of_le HBTr.out (HRZ.out.trans hSw).size; clear hSw; go_simp; try with_reducible rfl)
       try simp only [Act.put, tdy]
       refine timed_pure (i := 4) (v := ?_) rfl (by kernel_rfl) (by kernel_rfl) (by kernel_rfl) (fun _ _ _ h => h) (by kernel_rfl) (by kernel_rfl) ?_ ?_
       rotate_left
       ·(intro w; go_simp; try with_reducible rfl)
       try simp only [Act.put, tdy]
       refine timed_read (i := 5) (v := ?_) 0 rfl (by kernel_rfl) (by kernel_rfl) (by kernel_rfl) (fun _ _ _ h => h) (by kernel_rfl) (by kernel_rfl) rfl (by kernel_rfl) ?_ ?_
       rotate_left
       ·(intro wq hSw; (try dsimp only at hSw); have hb_H := hSw.blk HBz.out (by simp); have lb_H := hb_H.lt; have y2 := hb_H.at_ 2; simp at y2; clear hb_H; have hb_A := hSw.blk HAz.out (by simp); have lb_A := hb_A.lt; have u2 := hb_A.at_ 2; simp at u2; clear hb_A; have hb_P := hSw.blk HPP.out (by simp); have lb_P := hb_P.lt; have p0 := hb_P.at_ 0; have p1 := hb_P.at_ 1; simp at p0 p1; clear hb_P; have k2 := ((HIZ.out.trans hSw).cell (p := ⟨bk, ok_ + i * 3 + 2, none⟩) HBK.out (by simp)).trans HKT2.out; have kb := Nat.lt_of_lt_of_le HBK.out (HIZ.out.trans hSw).size; have o2 := ((HIZ.out.trans hSw).cell (p := ⟨bko, oko + q * 4 + 2, none⟩) HBO.out (by simp)).trans HPk2.out; have o3 := ((HIZ.out.trans hSw).cell (p := ⟨bko, oko + q * 4 + 3, none⟩) HBO.out (by simp)).trans HPk3.out; have ob := Nat.lt_of_lt_of_le HBO.out (HIZ.out.trans hSw).size; have r2 := ((HRZ.out.trans hSw).cell (p := ⟨bo, oo + j * 4 + 2, none⟩) HBOr.out (by simp)).trans HPo2.out; have r3 := ((HRZ.out.trans hSw).cell (p := ⟨bo, oo + j * 4 + 3, none⟩) HBOr.out (by simp)).trans HPo3.out; have rb := Nat.lt_of_lt_of_le HBOr.out (HRZ.out.trans hSw).size; have t2 := ((HRZ.out.trans hSw).cell (p := ⟨bt, ot + i * 3 + 2, none⟩) HBTr.out (by simp)).trans HT2.out; have tb := Nat.lt_of_lt_of_le HBTr.out (HRZ.out.trans hSw).size; clear hSw; go_simp; try with_reducible rfl)
       try simp only [Act.put, tdy]
       refine timed_pure (i := 6) (v := ?_) rfl (by kernel_rfl) (by kernel_rfl) (by kernel_rfl) (fun _ _ _ h => h) (by kernel_rfl) (by kernel_rfl) ?_ ?_
       rotate_left
       ·(intro w; go_simp; try with_reducible rfl)
       try simp only [Act.put, tdy]
       refine timed_pure (i := 7) (v := ?_) rfl (by kernel_rfl) (by kernel_rfl) (by kernel_rfl) (fun _ _ _ h => h) (by kernel_rfl) (by kernel_rfl) ?_ ?_
       rotate_left
       ·(intro w; go_simp; try with_reducible rfl)
       try simp only [Act.put, tdy]
       refine timed_read (i := 8) (v := ?_) 0 rfl (by kernel_rfl) (by kernel_rfl) (by kernel_rfl) (fun _ _ _ h => h) (by kernel_rfl) (by kernel_rfl) rfl (by kernel_rfl) ?_ ?_
       rotate_left
       ·(intro wq hSw; (try dsimp only at hSw); have hb_H := hSw.blk HBz.out (by simp); have lb_H := hb_H.lt; have y2 := hb_H.at_ 2; simp at y2; clear hb_H; have hb_A := hSw.blk HAz.out (by simp); have lb_A := hb_A.lt; have u2 := hb_A.at_ 2; simp at u2; clear hb_A; have hb_P := hSw.blk HPP.out (by simp); have lb_P := hb_P.lt; have p0 := hb_P.at_ 0; have p1 := hb_P.at_ 1; simp at p0 p1; clear hb_P; have k2 := ((HIZ.out.trans hSw).cell (p := ⟨bk, ok_ + i * 3 + 2, none⟩) HBK.out (by simp)).trans HKT2.out; have kb := Nat.lt_of_lt_of_le HBK.out (HIZ.out.trans hSw).size; have o2 := ((HIZ.out.trans hSw).cell (p := ⟨bko, oko + q * 4 + 2, none⟩) HBO.out (by simp)).trans HPk2.out; have o3 := ((HIZ.out.trans hSw).cell (p := ⟨bko, oko + q * 4 + 3, none⟩) HBO.out (by simp)).trans HPk3.out; have ob := Nat.lt_of_lt_of_le HBO.out (HIZ.out.trans hSw).size; have r2 := ((HRZ.out.trans hSw).cell (p := ⟨bo, oo + j * 4 + 2, none⟩) HBOr.out (by simp)).trans HPo2.out; have r3 := ((HRZ.out.trans hSw).cell (p := ⟨bo, oo + j * 4 + 3, none⟩) HBOr.out (by simp)).trans HPo3.out; have rb := Nat.lt_of_lt_of_le HBOr.out (HRZ.out.trans hSw).size; have t2 := ((HRZ.out.trans hSw).cell (p := ⟨bt, ot + i * 3 + 2, none⟩) HBTr.out (by simp)).trans HT2.out; have tb := Nat.lt_of_lt_of_le HBTr.out (HRZ.out.trans hSw).size; clear hSw; go_simp; try with_reducible rfl)
       try simp only [Act.put, tdy]
       refine timed_pure (i := 9) (v := ?_) rfl (by kernel_rfl) (by kernel_rfl) (by kernel_rfl) (fun _ _ _ h => h) (by kernel_rfl) (by kernel_rfl) ?_ ?_
       rotate_left
       ·(intro w; go_simp; try with_reducible rfl)
       try simp only [Act.put, tdy]
       refine timed_read (i := 10) (v := ?_) 0 rfl (by kernel_rfl) (by kernel_rfl) (by kernel_rfl) (fun _ _ _ h => h) (by kernel_rfl) (by kernel_rfl) rfl (by kernel_rfl) ?_ ?_
       rotate_left
       ·(intro wq hSw; (try dsimp only at hSw); have hb_H := hSw.blk HBz.out (by simp); have lb_H := hb_H.lt; have y2 := hb_H.at_ 2; simp at y2; clear hb_H; have hb_A := hSw.blk HAz.out (by simp); have lb_A := hb_A.lt; have u2 := hb_A.at_ 2; simp at u2; clear hb_A; have hb_P := hSw.blk HPP.out (by simp); have lb_P := hb_P.lt; have p0 := hb_P.at_ 0; have p1 := hb_P.at_ 1; simp at p0 p1; clear hb_P; have k2 := ((HIZ.out.trans hSw).cell (p := ⟨bk, ok_ + i * 3 + 2, none⟩) HBK.out (by simp)).trans HKT2.out; have kb := Nat.lt_of_lt_of_le HBK.out (HIZ.out.trans hSw).size; have o2 := ((HIZ.out.trans hSw).cell (p := ⟨bko, oko + q * 4 + 2, none⟩) HBO.out (by simp)).trans HPk2.out; have o3 := ((HIZ.out.trans hSw).cell (p := ⟨bko, oko + q * 4 + 3, none⟩) HBO.out (by simp)).trans HPk3.out; have ob := Nat.lt_of_lt_of_le HBO.out (HIZ.out.trans hSw).size; have r2 := ((HRZ.out.trans hSw).cell (p := ⟨bo, oo + j * 4 + 2, none⟩) HBOr.out (by simp)).trans HPo2.out; have r3 := ((HRZ.out.trans hSw).cell (p := ⟨bo, oo + j * 4 + 3, none⟩) HBOr.out (by simp)).trans HPo3.out; have rb := Nat.lt_of_lt_of_le HBOr.out (HRZ.out.trans hSw).size; have t2 := ((HRZ.out.trans hSw).cell (p := ⟨bt, ot + i * 3 + 2, none⟩) HBTr.out (by simp)).trans HT2.out; have tb := Nat.lt_of_lt_of_le HBTr.out (HRZ.out.trans hSw).size; clear hSw; go_simp; try with_reducible rfl)
       try simp only [Act.put, tdy]
       refine timed_pure (i := 11) (v := ?_) rfl (by kernel_rfl) (by kernel_rfl) (by kernel_rfl) (fun _ _ _ h => h) (by kernel_rfl) (by kernel_rfl) ?_ ?_
       rotate_left
       ·(intro w; go_simp; try with_reducible rfl)
       try simp only [Act.put, tdy]
       refine timed_pure (i := 12) (v := ?_) rfl (by kernel_rfl) (by kernel_rfl) (by kernel_rfl) (fun _ _ _ h => h) (by kernel_rfl) (by kernel_rfl) ?_ ?_
       rotate_left
       ·(intro w; go_simp; try with_reducible rfl)
       try simp only [Act.put, tdy]
       refine timed_read (i := 13) (v := ?_) 0 rfl (by kernel_rfl) (by kernel_rfl) (by kernel_rfl) (fun _ _ _ h => h) (by kernel_rfl) (by kernel_rfl) rfl (by kernel_rfl) ?_ ?_
       rotate_left
       ·(intro wq hSw; (try dsimp only at hSw); have hb_H := hSw.blk HBz.out (by simp); have lb_H := hb_H.lt; have y2 := hb_H.at_ 2; simp at y2; clear hb_H; have hb_A := hSw.blk HAz.out (by simp); have lb_A := hb_A.lt; have u2 := hb_A.at_ 2; simp at u2; clear hb_A; have hb_P := hSw.blk HPP.out (by simp); have lb_P := hb_P.lt; have p0 := hb_P.at_ 0; have p1 := hb_P.at_ 1; simp at p0 p1; clear hb_P; have k2 := ((HIZ.out.trans hSw).cell (p := ⟨bk, ok_ + i * 3 + 2, none⟩) HBK.out (by simp)).trans HKT2.out; have kb := Nat.lt_of_lt_of_le HBK.out (HIZ.out.trans hSw).size; have o2 := ((HIZ.out.trans hSw).cell (p := ⟨bko, oko + q * 4 + 2, none⟩) HBO.out (by simp)).trans HPk2.out; have o3 := ((HIZ.out.trans hSw).cell (p := ⟨bko, oko + q * 4 + 3, none⟩) HBO.out (by simp)).trans HPk3.out; have ob := Nat.lt_of_lt_of_le HBO.out (HIZ.out.trans hSw).size; have r2 := ((HRZ.out.trans hSw).cell (p := ⟨bo, oo + j * 4 + 2, none⟩) HBOr.out (by simp)).trans HPo2.out; have r3 := ((HRZ.out.trans hSw).cell (p := ⟨bo, oo + j * 4 + 3, none⟩) HBOr.out (by simp)).trans HPo3.out; have rb := Nat.lt_of_lt_of_le HBOr.out (HRZ.out.trans hSw).size; have t2 := ((HRZ.out.trans hSw).cell (p := ⟨bt, ot + i * 3 + 2, none⟩) HBTr.out (by simp)).trans HT2.out; have tb := Nat.lt_of_lt_of_le HBTr.out (HRZ.out.trans hSw).size; clear hSw; go_simp; try with_reducible rfl)
       try simp only [Act.put, tdy]
       refine timed_pure (i := 14) (v := ?_) rfl (by kernel_rfl) (by kernel_rfl) (by kernel_rfl) (fun _ _ _ h => h) (by kernel_rfl) (by kernel_rfl) ?_ ?_
       rotate_left
       ·(intro w; go_simp; try with_reducible rfl)
       try simp only [Act.put, tdy]
       refine timed_read (i := 15) (v := ?_) 0 rfl (by kernel_rfl) (by kernel_rfl) (by kernel_rfl) (fun _ _ _ h => h) (by kernel_rfl) (by kernel_rfl) rfl (by kernel_rfl) ?_ ?_
       rotate_left
       ·(intro wq hSw; (try dsimp only at hSw); have hb_H := hSw.blk HBz.out (by simp); have lb_H := hb_H.lt; have y2 := hb_H.at_ 2; simp at y2; clear hb_H; have hb_A := hSw.blk HAz.out (by simp); have lb_A := hb_A.lt; have u2 := hb_A.at_ 2; simp at u2; clear hb_A; have hb_P := hSw.blk HPP.out (by simp); have lb_P := hb_P.lt; have p0 := hb_P.at_ 0; have p1 := hb_P.at_ 1; simp at p0 p1; clear hb_P; have k2 := ((HIZ.out.trans hSw).cell (p := ⟨bk, ok_ + i * 3 + 2, none⟩) HBK.out (by simp)).trans HKT2.out; have kb := Nat.lt_of_lt_of_le HBK.out (HIZ.out.trans hSw).size; have o2 := ((HIZ.out.trans hSw).cell (p := ⟨bko, oko + q * 4 + 2, none⟩) HBO.out (by simp)).trans HPk2.out; have o3 := ((HIZ.out.trans hSw).cell (p := ⟨bko, oko + q * 4 + 3, none⟩) HBO.out (by simp)).trans HPk3.out; have ob := Nat.lt_of_lt_of_le HBO.out (HIZ.out.trans hSw).size; have r2 := ((HRZ.out.trans hSw).cell (p := ⟨bo, oo + j * 4 + 2, none⟩) HBOr.out (by simp)).trans HPo2.out; have r3 := ((HRZ.out.trans hSw).cell (p := ⟨bo, oo + j * 4 + 3, none⟩) HBOr.out (by simp)).trans HPo3.out; have rb := Nat.lt_of_lt_of_le HBOr.out (HRZ.out.trans hSw).size; have t2 := ((HRZ.out.trans hSw).cell (p := ⟨bt, ot + i * 3 + 2, none⟩) HBTr.out (by simp)).trans HT2.out; have tb := Nat.lt_of_lt_of_le HBTr.out (HRZ.out.trans hSw).size; clear hSw; go_simp; try with_reducible rfl)
       try simp only [Act.put, tdy]
       refine timed_pure (i := 16) (v := ?_) rfl (by kernel_rfl) (by kernel_rfl) (by kernel_rfl) (fun _ _ _ h => h) (by kernel_rfl) (by kernel_rfl) ?_ ?_
       rotate_left
       ·(intro w; go_simp; try with_reducible rfl)
       try simp only [Act.put, tdy]
       refine timed_pure (i := 17) (v := ?_) rfl (by kernel_rfl) (by kernel_rfl) (by kernel_rfl) (fun _ _ _ h => h) (by kernel_rfl) (by kernel_rfl) ?_ ?_
       rotate_left
       ·(intro w; go_simp; try with_reducible rfl)
       try simp only [Act.put, tdy]
       refine timed_pure (i := 18) (v := ?_) rfl (by kernel_rfl) (by kernel_rfl) (by kernel_rfl) (fun _ _ _ h => h) (by kernel_rfl) (by kernel_rfl) ?_ ?_
       rotate_left
       ·(intro w; go_simp; try with_reducible rfl)
       try simp only [Act.put, tdy]
       refine timed_read (i := 19) (v := ?_) 0 rfl (by kernel_rfl) (by kernel_rfl) (by kernel_rfl) (fun _ _ _ h => h) (by kernel_rfl) (by kernel_rfl) rfl (by kernel_rfl) ?_ ?_
       rotate_left
       ·(intro wq hSw; (try dsimp only at hSw); have hb_H := hSw.blk HBz.out (by simp); have lb_H := hb_H.lt; have y2 := hb_H.at_ 2; simp at y2; clear hb_H; have hb_A := hSw.blk HAz.out (by simp); have lb_A := hb_A.lt; have u2 := hb_A.at_ 2; simp at u2; clear hb_A; have hb_P := hSw.blk HPP.out (by simp); have lb_P := hb_P.lt; have p0 := hb_P.at_ 0; have p1 := hb_P.at_ 1; simp at p0 p1; clear hb_P; have k2 := ((HIZ.out.trans hSw).cell (p := ⟨bk, ok_ + i * 3 + 2, none⟩) HBK.out (by simp)).trans HKT2.out; have kb := Nat.lt_of_lt_of_le HBK.out (HIZ.out.trans hSw).size; have o2 := ((HIZ.out.trans hSw).cell (p := ⟨bko, oko + q * 4 + 2, none⟩) HBO.out (by simp)).trans HPk2.out; have o3 := ((HIZ.out.trans hSw).cell (p := ⟨bko, oko + q * 4 + 3, none⟩) HBO.out (by simp)).trans HPk3.out; have ob := Nat.lt_of_lt_of_le HBO.out (HIZ.out.trans hSw).size; have r2 := ((HRZ.out.trans hSw).cell (p := ⟨bo, oo + j * 4 + 2, none⟩) HBOr.out (by simp)).trans HPo2.out; have r3 := ((HRZ.out.trans hSw).cell (p := ⟨bo, oo + j * 4 + 3, none⟩) HBOr.out (by simp)).trans HPo3.out; have rb := Nat.lt_of_lt_of_le HBOr.out (HRZ.out.trans hSw).size; have t2 := ((HRZ.out.trans hSw).cell (p := ⟨bt, ot + i * 3 + 2, none⟩) HBTr.out (by simp)).trans HT2.out; have tb := Nat.lt_of_lt_of_le HBTr.out (HRZ.out.trans hSw).size; clear hSw; go_simp; try with_reducible rfl)
       try simp only [Act.put, tdy]
       refine timed_pure (i := 20) (v := ?_) rfl (by kernel_rfl) (by kernel_rfl) (by kernel_rfl) (fun _ _ _ h => h) (by kernel_rfl) (by kernel_rfl) ?_ ?_
       rotate_left
       ·(intro w; go_simp; try with_reducible rfl)
       try simp only [Act.put, tdy]
       refine timed_pure (i := 21) (v := ?_) rfl (by kernel_rfl) (by kernel_rfl) (by kernel_rfl) (fun _ _ _ h => h) (by kernel_rfl) (by kernel_rfl) ?_ ?_
       rotate_left
       ·(intro w; go_simp; try with_reducible rfl)
       try simp only [Act.put, tdy]
       refine timed_pure (i := 22) (v := ?_) rfl (by kernel_rfl) (by kernel_rfl) (by kernel_rfl) (fun _ _ _ h => h) (by kernel_rfl) (by kernel_rfl) ?_ ?_
       rotate_left
       ·(intro w; go_simp; try with_reducible rfl)
       try simp only [Act.put, tdy]
       refine timed_read (i := 23) (v := ?_) 0 rfl (by kernel_rfl) (by kernel_rfl) (by kernel_rfl) (fun _ _ _ h => h) (by kernel_rfl) (by kernel_rfl) rfl (by kernel_rfl) ?_ ?_
       rotate_left
       ·(intro wq hSw; (try dsimp only at hSw); have hb_H := hSw.blk HBz.out (by simp); have lb_H := hb_H.lt; have y2 := hb_H.at_ 2; simp at y2; clear hb_H; have hb_A := hSw.blk HAz.out (by simp); have lb_A := hb_A.lt; have u2 := hb_A.at_ 2; simp at u2; clear hb_A; have hb_P := hSw.blk HPP.out (by simp); have lb_P := hb_P.lt; have p0 := hb_P.at_ 0; have p1 := hb_P.at_ 1; simp at p0 p1; clear hb_P; have k2 := ((HIZ.out.trans hSw).cell (p := ⟨bk, ok_ + i * 3 + 2, none⟩) HBK.out (by simp)).trans HKT2.out; have kb := Nat.lt_of_lt_of_le HBK.out (HIZ.out.trans hSw).size; have o2 := ((HIZ.out.trans hSw).cell (p := ⟨bko, oko + q * 4 + 2, none⟩) HBO.out (by simp)).trans HPk2.out; have o3 := ((HIZ.out.trans hSw).cell (p := ⟨bko, oko + q * 4 + 3, none⟩) HBO.out (by simp)).trans HPk3.out; have ob := Nat.lt_of_lt_of_le HBO.out (HIZ.out.trans hSw).size; have r2 := ((HRZ.out.trans hSw).cell (p := ⟨bo, oo + j * 4 + 2, none⟩) HBOr.out (by simp)).trans HPo2.out; have r3 := ((HRZ.out.trans hSw).cell (p := ⟨bo, oo + j * 4 + 3, none⟩) HBOr.out (by simp)).trans HPo3.out; have rb := Nat.lt_of_lt_of_le HBOr.out (HRZ.out.trans hSw).size; have t2 := ((HRZ.out.trans hSw).cell (p := ⟨bt, ot + i * 3 + 2, none⟩) HBTr.out (by simp)).trans HT2.out; have tb := Nat.lt_of_lt_of_le HBTr.out (HRZ.out.trans hSw).size; clear hSw; go_simp; try with_reducible rfl)
       try simp only [Act.put, tdy]
       refine timed_pure (i := 24) (v := ?_) rfl (by kernel_rfl) (by kernel_rfl) (by kernel_rfl) (fun _ _ _ h => h) (by kernel_rfl) (by kernel_rfl) ?_ ?_
       rotate_left
       ·(intro w; go_simp; try with_reducible rfl)
       try simp only [Act.put, tdy]
       refine timed_pure (i := 25) (v := ?_) rfl (by kernel_rfl) (by kernel_rfl) (by kernel_rfl) (fun _ _ _ h => h) (by kernel_rfl) (by kernel_rfl) ?_ ?_
       rotate_left
       ·(intro w; go_simp; try with_reducible rfl)
       try simp only [Act.put, tdy]
       refine timed_done (by kernel_rfl) ?_ _
       refine NoPanic.normal ?_
       have HNX := Lib.hid ( ((Only.refl [] wz).drew))
       have HON := Lib.hid (HIZ.out.trans HNX.out)
       go_wp2
       go_roundw
       case rel => first | exact ⟨j + 1, by go_num, by omega, HON⟩ | exact ⟨_, ⟨j + 1, by go_num, by omega, HON⟩, rfl⟩
       case measure => simp [intOf]; omega
     ·have hjm : j = m := by omega
      subst hjm
      have hd3 : decide ((j : Int) < (j : Int)) = false := by simp
      have HO9 := Lib.hid (HOi.out.trans hO2.out)
      go_wp2
      go_roundw
      case rel => first | exact ⟨i + 1, by go_num, by omega, HO9⟩ | exact ⟨_, ⟨i + 1, by go_num, by omega, HO9⟩, rfl⟩
      case measure => simp [intOf]; omega
   ·have him : i = m2 := by omega
    subst him
    have hd2 : decide ((i : Int) < (i : Int)) = false := by simp
    have HOz := Lib.hid (HOb.out.trans hO.out)
    go_wp2
    go_ret
    exact ⟨rfl, HOz.out⟩
end Go.Proofs.YtjhomlnlmpdklaaGreatDoor
