/- Parts. -/
import Derived.Test.YtjfbeeogiejopaaGreatDoorWorldAllCardK48
import Derived.Test.YtjfbeeogiejopaaGreatDoorWorldAllCardK35
import Derived.Handed
import Derived.Shelf.Vars
import Derived.HandedShaped
import Derived.Test.YtjfbeeogiejopaaGreatDoorWorldAllCardK6
import Derived.Test.YtjfbeeogiejopaaGreatDoorWorldAllCardK2
import Derived.Test.YtjfbeeogiejopaaGreatDoorWorldAllCardK3
import Derived.LaidMore
import Derived.Lib.LaidIn
import Derived.Lib.LaidU8T
import Derived.Stop.Joined
import Derived.JoinedOf
set_option maxRecDepth 10000
set_option maxHeartbeats 16000000
set_option linter.unusedVariables false
set_option linter.unusedSimpArgs false
namespace Go.Proofs.YtjfbeeogiejopaaGreatDoor
open Go.RowKit
open Go.Lib hiding intOf
attribute [local go_sem ↓] Go.wp_at_zero Go.wp_at_succ
theorem worldAll_walk (A0 A1 A2 : Option Addr) (c0 c1 c2 : Nat) (h : Hst) (w : World) (hg : HAt w w.heap.size A0 A1 A2 h) (hm0 : h.ss.length ≤ maxLen) (hm1 : h.ks.length ≤ maxLen) (hm2 : h.l.length ≤ maxLen)
    (hz0 : ∀ z ∈ h.ss, z.size ≤ maxLen) (hz1 : ∀ z ∈ h.ks, z.size ≤ maxLen) (hI : HInt h) (hT : UTabs w) (hM : MLen w) (hV : Verbs w) :
    Calls Tryz.prog 8 #[hval A0 A1 A2 h.ss.length h.ks.length h.l.length c0 c1 c2] w fun e w' => e = .returned (.bool true) ∧ Only [] w w' := by
  unfold hval
  obtain ⟨iw, hiw, hw0, hw1, hw2⟩ := info_parts info_wld
  have HW := Hd (fun w' (h : Only [] w w') => works16_any w' (hT.only h) (hM.only h) (hV.only h))
  have HF0 := Hd (fun w' (O : Only [] w w') => few16_first A0 A1 A2 c0 c1 c2 h w' (hg.only O (by simp)).up hm0 hm1 hm2 hz0 hz1 (hT.only O))
  have HIG : HInt (few16 h) := cutH_int (few_int hI)
  have HBD := Hd (fun hm => few16_bd (h := h) hm)
  have HT := Hd hT
  generalize few16 h = G at *
  generalize h.ss.length = n0 at *
  generalize h.ks.length = n1 at *
  generalize h.l.length = n2 at *
  generalize G.ss.length = m0 at *
  generalize G.ks.length = m1 at *
  generalize G.l.length = m2 at *
  have HFI := Hd (fun (D0 D1 D2 : Option Addr) (f0 f1 f2 B : Nat) w' (hI : HIn w' B D0 D1 D2 m0 m1 m2 G) => wfirst_any D0 D1 D2 m0 m1 m2 f0 f1 f2 B G w' hI)
  have HCN := Hd (fun (D0 D1 D2 : Option Addr) (f0 f1 f2 B : Nat) w' (hI : HIn w' B D0 D1 D2 m0 m1 m2 G) => wcount_any D0 D1 D2 m0 m1 m2 f0 f1 f2 B G w' hI HIG)
  have HMY := Hd (fun (D0 D1 D2 : Option Addr) (f0 f1 f2 B : Nat) w' (hI : HIn w' B D0 D1 D2 m0 m1 m2 G) => refmay_any D0 D1 D2 m0 m1 m2 f0 f1 f2 B G w' hI)
  have HTD := Hd (fun (x : Wld) (Ac Al : Option Addr) (cc cl Bc Bl : Nat) (D0 D1 D2 : Option Addr) (f0 f1 f2 B : Nat) w' (hI : HIn w' B D0 D1 D2 m0 m1 m2 G) (hc : Row w' Bc Ac (x.c.map Value.bool)) (hl : Row w' Bl Al (edgeC x.l)) (hM : x.l.length ≤ 100000) => rtried16_any D0 D1 D2 Ac Al m0 m1 m2 x.c.length x.l.length f0 f1 f2 cc cl B Bc Bl G x w' hI hc hl rfl rfl hM)
  have HNX := Hd (fun (x : Wld) (Ac Al : Option Addr) (cc cl Bc Bl : Nat) (D0 D1 D2 : Option Addr) (f0 f1 f2 B : Nat) w' (hI : HIn w' B D0 D1 D2 m0 m1 m2 G) (hc : Row w' Bc Ac (x.c.map Value.bool)) (hl : Row w' Bl Al (edgeC x.l)) (hM : x.l.length ≤ 100000) (hMc : x.c.length ≤ 100000) (hAc : Ac = none → x.c.length = 0 ∧ cc = 0) (hAl : Al = none → x.l.length = 0 ∧ cl = 0) => wnext_any D0 D1 D2 Ac Al m0 m1 m2 x.c.length x.l.length f0 f1 f2 cc cl B Bc Bl G x w' hI HIG hc hl rfl rfl hM hMc hAc hAl)
  clear hg hm0 hm1 hm2 hz0 hz1 hT hM hV hI HIG
  unfold hval at HFI HCN HMY HTD HNX
  have HO1 := Hd ((Only.refl [] w).alloc (.cells #[.slice A0 n0 c0, .slice A1 n1 c1, .slice A2 n2 c2] 25))
  have HB1 := Hd (Blk.made w 25 #[.slice A0 n0 c0, .slice A1 n1 c1, .slice A2 n2 c2])
  go_enter Tryz.func8, Tryz.ntmps8
  go_upto_region 1 with (fail)
  generalize (w.alloc (.cells #[.slice A0 n0 c0, .slice A1 n1 c1, .slice A2 n2 c2] 25)) = w1 at *
  generalize hgg : w.heap.size = g at *
  go_wp2_with fail
  refine (HW.out _ HO1.out).mono ?_
  rintro e w2 ⟨rfl, O2⟩
  have HO2 := Hd (HO1.out.trans O2)
  have HB2 := Hd (O2.blk HB1.out (by simp))
  clear HO1 HB1
  clear O2 HW
  have lHB_ := HB2.out.lt
  have y0 := HB2.out.at_ 0
  have y1 := HB2.out.at_ 1
  have y2 := HB2.out.at_ 2
  simp at y0 y1 y2
  go_wp2_with fail
  refine (HF0.out _ HO2.out).mono ?_
  rintro e w3 ⟨B0, B1, B2, d0, d1, d2, ⟨rfl, hI⟩, O3⟩
  clear lHB_ y0 y1 y2
  have HI3 := Hd hI
  have HO3 := Hd (HO2.out.trans O3)
  have HB3 := Hd (O3.blk HB2.out (by simp))
  clear HO2 HB2
  clear hI O3 HF0
  go_upto_region 4 with (refine wpList_store_blk rfl 25 (.tmp 1) (.tmp 11) rfl g 25 _ #[.slice B0 m0 d0, .slice B1 m1 d1, .slice B2 m2 d2] rfl rfl HB3.out rfl (by kernel_rfl) (by kernel_rfl) ?_; intro w4 hb4 o4; have HB4 := Hd hb4; have HO4 := Hd (HO3.out.step o4 (fun i hi hl => by simp at hi; omega)); have HI4 := Hd (HI3.out.past HB3.out o4 (HT.out.only HO4.out)); clear hb4 o4; clear HI3 HB3 HO3)
  have lHB_ := HB4.out.lt
  have y0 := HB4.out.at_ 0
  have y1 := HB4.out.at_ 1
  have y2 := HB4.out.at_ 2
  simp at y0 y1 y2
  go_wp2_with fail
  refine (HFI.out _ _ _ _ _ _ _ _ HI4.out).mono ?_
  rintro e w5 ⟨V, V2, ⟨rfl, hv, hv2⟩, O5⟩
  clear lHB_ y0 y1 y2
  obtain ⟨AV, cV, rfl, -, -, -, -⟩ := own_row hv
  obtain ⟨AX, cX, rfl, -, -, -, -⟩ := own_row hv2
  have hg4 : g ≤ w4.heap.size := by have := HO4.out.size; omega
  have HV5 := Hd (own_low hv hg4)
  have HX5 := Hd (own_low hv2 hg4)
  have hBH : w4.heap.size ≤ w5.heap.size := O5.size
  have hgB : g ≤ w4.heap.size := hg4
  clear hv hv2 hg4
  have HO5 := Hd (HO4.out.trans O5)
  have HB5 := Hd (O5.blk HB4.out (by simp))
  have HI5 := Hd (HI4.out.same O5)
  clear HO4 HB4 HI4
  clear O5 HFI
  go_upto_region 5 with (fail)
  have hW6 := Hd (Blk.made w5 51 #[.slice AV (firstWC G).length cV, .slice AX (firstWL G).length cX])
  have O6 : Only [] w5 (w5.alloc (.cells #[.slice AV (firstWC G).length cV, .slice AX (firstWL G).length cX] 51)) := (Only.refl [] w5).alloc _
  have HO6 := Hd (HO5.out.trans O6)
  have HB6 := Hd (O6.blk HB5.out (by simp))
  have HI6 := Hd (HI5.out.same O6)
  have HV6 := Hd (own_only HV5.out O6 (by simp))
  have HX6 := Hd (own_only HX5.out O6 (by simp))
  clear HO5 HB5 HI5 HV5 HX5
  clear O6
  generalize (w5.alloc (.cells #[.slice AV (firstWC G).length cV, .slice AX (firstWL G).length cX] 51)) = w6 at *
  generalize w5.heap.size = gw at *
  generalize w4.heap.size = BH at *
  cases hm : mayH G with
  | false =>
    rw [errH_not hm]
    clear hm HTD HNX HCN HMY HBD
    go_wp2
    go_ret
    exact ⟨rfl, HO6.out⟩
  | true =>
    rw [errH_yes hm]
    have hcnt := countW_tot hm
    by_cases h3 : 300 < countW G
    · clear hcnt HTD HNX HBD
      have HMY6 := Hd (fun w' (O : Only [] w6 w') => HMY.out B0 B1 B2 d0 d1 d2 _ w' (HI6.out.same O))
      rw [errH_yes hm] at HMY6
      have HCN6 := Hd (HCN.out B0 B1 B2 d0 d1 d2 _ w6 HI6.out)
      generalize countW G = N at *
      have q1 : decide ((300 : Int) < (N : Int)) = true := by simp; omega
      have q2 : decide ((N : Int) > 300) = true := by simp; omega
      have q3 : decide (300 < N) = true := by simp; omega
      clear hm HMY HCN
      have lHB_ := HB6.out.lt
      have y0 := HB6.out.at_ 0
      have y1 := HB6.out.at_ 1
      have y2 := HB6.out.at_ 2
      simp at y0 y1 y2
      go_wp2_with fail
      refine (HCN6.out).mono ?_
      rintro e w7 ⟨rfl, O7⟩
      clear lHB_ y0 y1 y2
      have HO7 := Hd (HO6.out.trans O7)
      have HB7 := Hd (O7.blk HB6.out (by simp))
      clear HO6 HB6
      have HO67 := Hd O7
      clear O7 HCN6
      have lHB_ := HB7.out.lt
      have y0 := HB7.out.at_ 0
      have y1 := HB7.out.at_ 1
      have y2 := HB7.out.at_ 2
      simp at y0 y1 y2
      go_wp2_with fail
      refine (HMY6.out _ HO67.out).mono ?_
      rintro e w8 ⟨rfl, O8⟩
      have HO8 := Hd (HO7.out.trans O8)
      go_wp2
      go_ret
      exact ⟨rfl, HO8.out⟩
    · have hN : (worldsL G).length = countW G := by
        rw [worlds_len, hcnt]
        rw [hcnt] at h3
        unfold capN at h3 ⊢
        omega
      have HN := Hd hN
      have HW0 := Hd (worlds_zero hm)
      have HWS := Hd (fun (i : Nat) (x : Wld) (hx : (worldsL G)[i]? = some x) => worlds_step hm hx)
      have HWT := Hd (fun (i j : Nat) (x : Wld) (hi : (worldsL G)[i]? = some x) (hj : (worldsL G)[j]? = some x) => worlds_twice hm hi hj)
      have HWM : Hid (∀ (i : Nat) (x : Wld), (worldsL G)[i]? = some x → (mayW G x && isB (allT G x.c) x.l) = true ∧ x.c.length ≤ 1000 ∧ x.l.length ≤ 100000) := Hd (fun i x hx => by
        obtain ⟨h1, h2, h4, h5⟩ := world_may hm (List.mem_of_getElem? hx)
        have h6 := (mayW_inv h1).2
        have h7 := HBD.out hm
        unfold infosN at h7
        exact ⟨by rw [h1, h2]; rfl, by omega, by omega⟩)
      have HCN6 := Hd (HCN.out B0 B1 B2 d0 d1 d2 _ w6 HI6.out)
      have HCNZ := Hd (fun w' (O : Only [] w w') (hI : HIn w' BH B0 B1 B2 m0 m1 m2 G) => HCN.out B0 B1 B2 d0 d1 d2 _ w' hI)
      have HCUR : Hid (∀ w', Only [] w6 w' → CurW G w' g gw 0) := Hd (fun w' O => ⟨⟨⟨firstWC G, firstWL G⟩, AV, cV, AX, cX⟩, O.blk hW6.out (by simp), ⟨own_only HV6.out O (by simp), own_only HX6.out O (by simp)⟩, fun _ => HW0.out⟩)
      clear hN hcnt hm HMY HCN HBD
      generalize countW G = N at *
      have hN3 : N ≤ 300 := by omega
      have q1 : decide ((300 : Int) < (N : Int)) = false := by simp; omega
      have q2 : decide ((N : Int) > 300) = false := by simp; omega
      have q3 : decide (300 < N) = false := by simp; omega
      have hgw6 : gw < w6.heap.size := hW6.out.lt
      have lHB_ := HB6.out.lt
      have y0 := HB6.out.at_ 0
      have y1 := HB6.out.at_ 1
      have y2 := HB6.out.at_ 2
      simp at y0 y1 y2
      go_wp2_with fail
      refine (HCN6.out).mono ?_
      rintro e w7 ⟨rfl, O7⟩
      clear lHB_ y0 y1 y2
      have HC7 := Hd (HCUR.out w7 O7)
      have hgw7 : gw < w7.heap.size := by have := O7.size; omega
      have HO7 := Hd (HO6.out.trans O7)
      have HB7 := Hd (O7.blk HB6.out (by simp))
      have HI7 := Hd (HI6.out.same O7)
      clear HO6 HB6 HI6
      clear O7 HCN6 hW6 HV6 HX6
      go_upto_region 8 with (fail)
      clear q1 q2 q3
      have OA : Only [] w7 (w7.alloc (.cells #[] 51)) := (Only.refl [] w7).alloc _
      have hC8 : Hid (CurW G (w7.alloc (.cells #[] 51)) g gw 0) := Hd (by
        obtain ⟨y, h1, h2, h4⟩ := HC7.out
        exact ⟨y, OA.blk h1 (by simp), h2.same OA, h4⟩)
      have hBL8 : w7.heap.size ≤ (w7.alloc (.cells #[] 51)).heap.size := OA.size
      have HL8 := Hd (World.ownsRow_lit w7 (base := w7.heap.size) (e := 51) (size := 2) #[] 0 (Nat.le_refl _) (by unfold maxLen; omega) rfl)
      have HO8 := Hd (HO7.out.trans OA)
      have HB8 := Hd (OA.blk HB7.out (by simp))
      have HI8 := Hd (HI7.out.same OA)
      clear HO7 HB7 HI7
      clear OA HC7
      generalize (w7.alloc (.cells #[] 51)) = w8 at *
      generalize w7.heap.size = BL at *
      go_wp2_with fail
      go_loopw [5, 6] (fun lv iv wr => ∃ (k : Nat) (b : Bool) (Al : Option Addr) (cl : Nat) (ys : List WldA), lv = .slice Al k cl ∧ iv = .bool b ∧ k ≤ N ∧ BL ≤ wr.heap.size ∧ Hid (b = decide (k < N)) ∧ Hid (ys.map (fun y => y.x) = (worldsL G).take k) ∧ Hid (wr.ownsRow BL 51 2 (.slice Al k cl) k (wldsC ys)) ∧ Hid (∀ y ∈ ys, WAt wr g y) ∧ Hid (CurW G wr g gw k) ∧ Hid (HIn wr BH B0 B1 B2 m0 m1 m2 G) ∧ Hid (Blk wr g 25 #[.slice B0 m0 d0, .slice B1 m1 d1, .slice B2 m2 d2]) ∧ Hid (Only [] w wr)) (fun lv _ _ => N - slLen lv)
      case atStart =>
        refine ⟨0, true, _, _, [], rfl, rfl, by omega, hBL8, Hd (decide_eq_true ?_).symm, Hd rfl, HL8, Hd (fun y hy => by cases hy), hC8, HI8, HB8, HO8⟩
        have := (List.getElem?_eq_some_iff.1 HW0.out).1
        rw [HN.out] at this
        exact this
      case round =>
        obtain ⟨k, b, Al, cl, ys, rfl, rfl, hk, hBLr, hb, hys, hL, hY, hC, hI, hB, hO⟩ := hrel
        clear HL8 hC8 HI8 HB8 HO8 HW0 HCUR
        cases b with
        | false =>
          have hkN : N = k := by have := hb.out; by_cases h5 : k < N; · simp [h5] at this
                                 · omega
          subst hkN
          have HCZ := Hd (HCNZ.out wr hO.out hI.out)
          clear hb hys hL hY hC
          have lhB_ := hB.out.lt
          have y0 := hB.out.at_ 0
          have y1 := hB.out.at_ 1
          have y2 := hB.out.at_ 2
          simp at y0 y1 y2
          go_wp2_with fail
          refine (HCZ.out).mono ?_
          rintro e w9 ⟨rfl, O9⟩
          have HO9 := Hd (hO.out.trans O9)
          go_wp2
          go_ret
          exact ⟨by simp, HO9.out⟩
        | true =>
          have hlt : k < N := by have := hb.out; by_cases h5 : k < N; · exact h5
                                 · simp [h5] at this
          obtain ⟨y, hYb, hYw, hcur⟩ := hC.out
          have hx := hcur (by rw [HN.out]; exact hlt)
          have hxm := HWM.out k y.x hx
          have HNS := Hd (HWS.out k y.x hx)
          have HNE : Hid (∀ (i : Nat) (z : WldA), ys[i]? = some z → i < k → eqW z.x y.x = false) := Hd (fun i z hz hi => by
            have h1 : (worldsL G)[i]? = some z.x := by
              have h2 : ((worldsL G).take k)[i]? = some z.x := by rw [← hys.out, List.getElem?_map, hz]; rfl
              rwa [List.getElem?_take, if_pos hi] at h2
            cases he : eqW z.x y.x with
            | false => rfl
            | true =>
              have h3 := eqW_iff.1 he
              rw [h3] at h1
              have := HWT.out i k y.x h1 hx
              omega)
          have HYL : Hid (ys.length = k) := Hd (by
            have := congrArg List.length hys.out
            rw [List.length_map, List.length_take, HN.out] at this
            omega)
          have HX1 := Hd hx
          obtain ⟨⟨xc, xl⟩, Ay, cy, Az, cz⟩ := y
          have hYb' : Blk wr gw 51 #[.slice Ay xc.length cy, .slice Az xl.length cz] := hYb
          have HYb := Hd hYb'
          have HYc := Hd hYw.c
          have HYl := Hd hYw.l
          have hxm1 := hxm.1
          have hxm2 := hxm.2.1
          have hxm3 := hxm.2.2
          dsimp only at HYc HYl HNS HNE hxm2 hxm3 HX1
          have HTD1 := Hd (HTD.out ⟨xc, xl⟩ Ay Az cy cz _ _ B0 B1 B2 d0 d1 d2 _ wr hI.out (own_row_at HYc.out).1 (own_row_at HYl.out).1 hxm3)
          rw [hxm1] at HTD1
          dsimp only at HTD1
          have q0 : decide ((k : Int) ≤ 300) = true := by simp; omega
          have q1 : decide (k ≤ 300) = true := by simp; omega
          have hk0 : (0 : Int) ≤ (k : Int) := Int.natCast_nonneg _
          clear hYb hYb' hYw hcur hx hxm hxm1 hb hC
          have lhB_ := hB.out.lt
          have y0 := hB.out.at_ 0
          have y1 := hB.out.at_ 1
          have y2 := hB.out.at_ 2
          have lHYb_ := HYb.out.lt
          have x0 := HYb.out.at_ 0
          have x1 := HYb.out.at_ 1
          simp at y0 y1 y2 x0 x1
          go_wp2_with fail
          refine (HTD1.out).mono ?_
          rintro e w9 ⟨rfl, O9⟩
          clear lhB_ lHYb_ y0 y1 y2 x0 x1
          have hBL9 : BL ≤ w9.heap.size := Nat.le_trans hBLr O9.size
          have hY9 : Hid (∀ y ∈ ys, WAt w9 g y) := Hd (fun y hy => (hY.out y hy).same O9)
          have hL9 := Hd (own_only hL.out O9 (by simp))
          have hI9 := Hd (hI.out.same O9)
          have hB9 := Hd (O9.blk hB.out (by simp))
          have hO9 := Hd (hO.out.trans O9)
          have HYb9 := Hd (O9.blk HYb.out (by simp))
          have HYc9 := Hd (own_only HYc.out O9 (by simp))
          have HYl9 := Hd (own_only HYl.out O9 (by simp))
          clear hL hI hB hO HYb HYc HYl
          clear O9 HTD1 q0 q1 hY
          go_wp2_with fail
          go_loopw [7] (fun iv wr => ∃ i : Nat, iv = .int .i64 (i : Int) ∧ i ≤ k ∧ Hid (Only [] w9 wr)) (fun iv _ => k - (intOf iv).toNat)
          case atStart => exact ⟨0, rfl, by omega, Hd (Only.refl [] _)⟩
          case round =>
            obtain ⟨i, rfl, hi, hQ⟩ := hrel
            by_cases hik : i < k
            · obtain ⟨z, hz⟩ : ∃ z, ys[i]? = some z := ⟨_, List.getElem?_eq_getElem (by rw [HYL.out]; exact hik)⟩
              have hne := HNE.out i z hz hik
              have hzw := hY9.out z (List.mem_of_getElem? hz)
              have hzb : z.x.c.length ≤ 1000 ∧ z.x.l.length ≤ 100000 := by
                have h2 : ((worldsL G).take k)[i]? = some z.x := by rw [← hys.out, List.getElem?_map, hz]; rfl
                rw [List.getElem?_take, if_pos hik] at h2
                exact (HWM.out i z.x h2).2
              obtain ⟨bl, ol, rfl, -, hbl, hcl⟩ := (own_row_at hL9.out).1.open_ (k := i * 2) (by rw [wldsC_len, HYL.out]; omega)
              have hE := wldsC_get hz
              have HZ0 := Hd (hcl _ _ hE.1)
              have HZ1 := Hd (hcl _ _ hE.2)
              rw [← Nat.add_assoc] at HZ1
              have HSM := Hd (fun w' (O : Only [] w9 w') => rsame16_any z.A z.A' Ay Az _ _ _ _ z.ca z.cb cy cz _ _ _ _ z.x ⟨xc, xl⟩ w' ((own_row_at hzw.c).1.only O (by simp)) ((own_row_at hzw.l).1.only O (by simp)) ((own_row_at HYc9.out).1.only O (by simp)) ((own_row_at HYl9.out).1.only O (by simp)) rfl rfl rfl rfl (by omega) (by omega))
              rw [hne] at HSM
              obtain ⟨⟨zc, zl⟩, Az', ca', Az'', cb'⟩ := z
              dsimp only at HZ0 HZ1 HSM
              generalize hzc : zc.length = zn at *
              generalize hzl : zl.length = zm at *
              have hi0 : (0 : Int) ≤ (i : Int) := Int.natCast_nonneg _
              have hik' : (i : Int) < (k : Int) := by omega
              have hwi : IntKind.i64.wrap ((i : Int) + 1) = (i : Int) + 1 := IntWalk.i64_in _ (by omega)
              have hYq := Hd (hQ.out.blk HYb9.out (by simp))
              have HZ2 := Hd ((hQ.out.cell (p := ⟨bl, ol + i * 2, none⟩) hbl (by simp)).trans HZ0.out)
              have HZ3 := Hd ((hQ.out.cell (p := ⟨bl, ol + i * 2 + 1, none⟩) hbl (by simp)).trans HZ1.out)
              have hblr : bl < wr.heap.size := by have := hQ.out.size; omega
              clear hcl hE hz hne hzw hzb hzc hzl HZ0 HZ1
              go_upto_region 15 with (fail)
              have RD0 := Hd fun wq (hSw : Only [] wr wq) => And.intro (Bk2 (hSw.blk hYq.out (by simp))) (And.intro ((hSw.cell (p := ⟨bl, ol + i * 2, none⟩) hblr (by simp)).trans HZ2.out) ((hSw.cell (p := ⟨bl, ol + i * 2 + 1, none⟩) hblr (by simp)).trans HZ3.out))
              refine wp_region_noPanic ?_
              refine wp_region_timed (F := [⟨[], [], fun w' => Only [] wr w'⟩]) (by kernel_rfl) (th1 ((Only.refl [] wr).drew)) ?_
              have OW : Only [] wr wr.drew := (Only.refl [] wr).drew
              generalize wr.drew = wz at *
              refine tp (i := 0) ?_
              try simp only [tdz]
              refine tp (i := 1) ?_
              try simp only [tdz]
              refine tp (i := 2) ?_
              try simp only [tdz]
              refine trd (i := 3) (v := ?_) 0 ?_ ?_
              rotate_left
              · (intro wq q; obtain ⟨⟨lb_Y, x0, x1⟩, z0, z1⟩ := RD0.out wq q; simp at x0 x1; clear q; go_simp; try with_reducible rfl)
              try simp only [tdz]
              refine trd (i := 4) (v := ?_) 0 ?_ ?_
              rotate_left
              · (intro wq q; obtain ⟨⟨lb_Y, x0, x1⟩, z0, z1⟩ := RD0.out wq q; simp at x0 x1; clear q; go_simp; try with_reducible rfl)
              try simp only [tdz]
              refine tst (i := 5) fun K hK => ?_
              go_simp
              refine (HSM.out _ (hQ.out.trans OW)).mono ?_
              rintro e wa ⟨rfl, Oa⟩
              have OW1 := OW.trans Oa
              clear Oa
              refine hK.out _ _ (th1 (OW1)) ?_
              clear hK K
              try simp only [tdz]
              refine timed_done (by kernel_rfl) ?_ _
              refine NoPanic.normal ?_
              have hQ9 := Hd (hQ.out.trans OW1)
              clear OW OW1 hQ hYq HZ2 HZ3 HSM
              go_wp2
              go_roundw
              case rel => exact ⟨i + 1, by go_num, by omega, hQ9⟩
              case measure => simp [intOf]; omega
            · have hin : k = i := by omega
              subst hin
              have hd4 : decide ((k : Int) < (k : Int)) = false := by simp
              have hYr : Hid (∀ y ∈ ys, WAt wr g y) := Hd (fun y hy => (hY9.out y hy).same hQ.out)
              have HYbr := Hd (hQ.out.blk HYb9.out (by simp))
              have HYcr := Hd (own_only HYc9.out hQ.out (by simp))
              have HYlr := Hd (own_only HYl9.out hQ.out (by simp))
              have hLr := Hd (own_only hL9.out hQ.out (by simp))
              have hIr := Hd (hI9.out.same hQ.out)
              have hBr := Hd (hQ.out.blk hB9.out (by simp))
              have hOr := Hd (hO9.out.trans hQ.out)
              have hsz : BL ≤ wr.heap.size := Nat.le_trans hBL9 hQ.out.size
              clear hY9 HYb9 HYc9 HYl9 hL9 hI9 hB9 hO9 hQ HNE
              have lY := HYbr.out.lt
              have x0 := HYbr.out.at_ 0
              have x1 := HYbr.out.at_ 1
              simp at x0 x1
              go_upto_region 18 with (at_builtin; refine wpList_append_row _ rfl (.tmp 54) (.tmp 56) _ rfl BL 51 iw _ 2 48 Tryz.underlying63 hiw hw0 hw1 hw2 rfl (by omega) _ k (wldsC ys) rfl (own_only hLr.out ((Only.refl [] wr).alloc (.cells #[.slice Ay xc.length cy, .slice Az xl.length cz] 51)) (by simp)) (wr.heap.size + 1) (some ⟨wr.heap.size, 0, none⟩) 1 1 [.slice Ay xc.length cy, .slice Az xl.length cz] rfl rfl (row_lit wr 51 #[.slice Ay xc.length cy, .slice Az xl.length cz]) (by intro u hu; simp at hu; rcases hu with rfl | rfl <;> rfl) (by unfold maxLen; omega) (by omega) (by simp; omega) ?_; intro V10 w10 hown10 hgrow10 hat10)
              have OA : Only [] wr (wr.alloc (.cells #[.slice Ay xc.length cy, .slice Az xl.length cz] 51)) := (Only.refl [] wr).alloc _
              have OG : Only (Value.slice Al k cl).ownBlock.toList (wr.alloc (.cells #[.slice Ay xc.length cy, .slice Az xl.length cz] 51)) w10 := only_grown hgrow10
              have hLa := own_only hLr.out OA (by simp)
              have hBLa : ∀ i ∈ (Value.slice Al k cl).ownBlock.toList, BL ≤ i := fun i hi => (hLa.lt i (by simpa using hi)).1
              have e10 : wldsC ys ++ [.slice Ay xc.length cy, .slice Az xl.length cz] = wldsC (ys ++ [(⟨⟨xc, xl⟩, Ay, cy, Az, cz⟩ : WldA)]) := by simp [wldsC, wldC]
              rw [e10] at hown10
              obtain ⟨Al', cl', rfl, -, -, -, -⟩ := own_row hown10
              have hL10 := Hd hown10
              have hWy : WAt wr g ⟨⟨xc, xl⟩, Ay, cy, Az, cz⟩ := ⟨HYcr.out, HYlr.out⟩
              have hY10 : Hid (∀ y ∈ ys ++ [(⟨⟨xc, xl⟩, Ay, cy, Az, cz⟩ : WldA)], WAt w10 g y) := Hd (fun y hy => by
                have h1 : WAt wr g y := by
                  rcases List.mem_append.1 hy with hy | hy
                  · exact hYr.out y hy
                  · rw [List.mem_singleton] at hy
                    subst hy
                    exact hWy
                exact (h1.same OA).own hLa OG)
              have HYb10 := Hd (OG.blk (OA.blk HYbr.out (by simp)) (fun hm => by have := hBLa gw hm; omega))
              have hwy10 : WAt w10 g ⟨⟨xc, xl⟩, Ay, cy, Az, cz⟩ := (hWy.same OA).own hLa OG
              have HYc10 := Hd hwy10.c
              have HYl10 := Hd hwy10.l
              have hO10 := Hd ((hOr.out.trans OA).step OG (fun i hi hl => by have := hBLa i hi; omega))
              have hI10 := Hd ((hIr.out.same OA).only OG (fun i hi => by have := hBLa i hi; omega) (HT.out.only hO10.out))
              have hB10 := Hd (OG.blk (OA.blk hBr.out (by simp)) (own_apart hLa (OA.blk hBr.out (by simp)) (by decide)))
              have hsz10 : BL ≤ w10.heap.size := Nat.le_trans hsz (Nat.le_trans OA.size OG.size)
              have HYS : Hid ((ys ++ [(⟨⟨xc, xl⟩, Ay, cy, Az, cz⟩ : WldA)]).map (fun y => y.x) = (worldsL G).take (k + 1)) := Hd (by rw [List.take_add_one, HX1.out, List.map_append, hys.out]; rfl)
              clear OA OG hLa hBLa e10 hown10 hgrow10 hat10 hWy hYr HYbr HYcr HYlr hLr hIr hBr hOr hwy10 hys lY x0 x1 hsz
              have HN10 := Hd (HNX.out ⟨xc, xl⟩ Ay Az cy cz _ _ B0 B1 B2 d0 d1 d2 _ w10 hI10.out (own_row_at HYc10.out).1 (own_row_at HYl10.out).1 hxm3 (by dsimp only; omega) (own_nil0 HYc10.out) (own_nil0 HYl10.out))
              rw [HNS.out] at HN10
              have HNL : Hid ((worldsL G)[k + 1]? = none → N ≤ k + 1) := Hd (fun h => by have := List.getElem?_eq_none_iff.1 h; rw [HN.out] at this; exact this)
              have HNP : Hid (∀ z, (worldsL G)[k + 1]? = some z → k + 1 < N) := Hd (fun z h => by have := (List.getElem?_eq_some_iff.1 h).1; rw [HN.out] at this; exact this)
              have HNE2 : Hid (∃ nx, (worldsL G)[k + 1]? = nx) := Hd ⟨_, rfl⟩
              obtain ⟨nx, hnx⟩ := HNE2.out
              rw [hnx] at HN10 HNL HNP
              have HNXE := Hd hnx
              dsimp only at HN10
              clear hnx HNE2
              have lhB_ := hB10.out.lt
              have y0 := hB10.out.at_ 0
              have y1 := hB10.out.at_ 1
              have y2 := hB10.out.at_ 2
              have lHYb_ := HYb10.out.lt
              have x0 := HYb10.out.at_ 0
              have x1 := HYb10.out.at_ 1
              simp at y0 y1 y2 x0 x1
              go_wp2_with fail
              refine (HN10.out).mono ?_
              rintro e w11 ⟨V, V2, ⟨rfl, hv, hv2⟩, O11⟩
              clear lhB_ lHYb_ y0 y1 y2 x0 x1
              obtain ⟨AP, cP, rfl, -, -, -, -⟩ := own_row hv
              obtain ⟨AR, cR, rfl, -, -, -, -⟩ := own_row hv2
              have hg10 : g ≤ w10.heap.size := by have := hO10.out.size; omega
              have hsz11 : BL ≤ w11.heap.size := Nat.le_trans hsz10 O11.size
              have hv' := own_low hv hg10
              have hv2' := own_low hv2 hg10
              have hY11 : Hid (∀ y ∈ ys ++ [(⟨⟨xc, xl⟩, Ay, cy, Az, cz⟩ : WldA)], WAt w11 g y) := Hd (fun y hy => (hY10.out y hy).same O11)
              have HWN11 : Hid (WAt w11 g ⟨nx.getD ⟨[], []⟩, AP, cP, AR, cR⟩) := Hd ⟨hv', hv2'⟩
              have hL11 := Hd (own_only hL10.out O11 (by simp))
              have hI11 := Hd (hI10.out.same O11)
              have hB11 := Hd (O11.blk hB10.out (by simp))
              have hO11 := Hd (hO10.out.trans O11)
              have HYb11 := Hd (O11.blk HYb10.out (by simp))
              clear hL10 hI10 hB10 hO10 HYb10
              clear O11 HN10 hv hv2 hv' hv2' hY10 HYc10 HYl10 HNS
              obtain ⟨na, hna⟩ : ∃ na, (nx.getD ⟨[], []⟩).c.length = na := ⟨_, rfl⟩
              obtain ⟨nb, hnb⟩ : ∃ nb, (nx.getD ⟨[], []⟩).l.length = nb := ⟨_, rfl⟩
              rw [hna, hnb]
              have HNA := Hd hna
              have HNB := Hd hnb
              clear hna hnb
              generalize hbs : nx.isSome = bs at *
              have HBS := Hd hbs
              clear hbs
              go_wp2_with (refine wpList_store_blk rfl 51 (.tmp 3) (.tmp 62) rfl gw 51 _ #[.slice AP na cP, .slice AR nb cR] rfl rfl HYb11.out rfl (by kernel_rfl) (by kernel_rfl) ?_; intro w12 b12 o12)
              have hY12 : Hid (∀ y ∈ ys ++ [(⟨⟨xc, xl⟩, Ay, cy, Az, cz⟩ : WldA)], WAt w12 g y) := Hd (fun y hy => (hY11.out y hy).blkS HYb11.out o12)
              have hC12 : Hid (CurW G w12 g gw (k + 1)) := Hd (by
                refine ⟨⟨nx.getD ⟨[], []⟩, AP, cP, AR, cR⟩, ?_, HWN11.out.blkS HYb11.out o12, fun hk1 => ?_⟩
                · unfold wldC
                  dsimp only
                  rw [HNA.out, HNB.out]
                  exact b12
                · rw [HNXE.out]
                  cases nx with
                  | none => have := HNL.out rfl; rw [HN.out] at hk1; omega
                  | some z => rfl)
              have hb12 : Hid (bs = decide (k + 1 < N)) := Hd (by
                rw [← HBS.out]
                cases nx with
                | none => have := HNL.out rfl; simp; omega
                | some z => have := HNP.out z rfl; simp; omega)
              have hL12 := Hd (own_only hL11.out o12 (fun q hq hm => by simp at hm; have := (hL11.out.lt q hq).1; omega))
              have hO12 := Hd (hO11.out.step o12 (fun i hi hl => by simp at hi; omega))
              have hI12 := Hd (hI11.out.only o12 (fun i hi => by simp at hi; omega) (HT.out.only hO12.out))
              have hB12 := Hd (o12.blk hB11.out (by simp; exact hB11.out.apart HYb11.out (by decide)))
              have hsz12 : BL ≤ w12.heap.size := Nat.le_trans hsz11 o12.size
              clear o12 b12 hY11 hL11 hO11 hI11 hB11 HYb11 HWN11 HNL HNP HNXE HNA HNB HBS
              go_wp2
              go_roundw
              case rel => exact ⟨k + 1, bs, _, _, _, rfl, rfl, by omega, hsz12, hb12, HYS, hL12, hY12, hC12, hI12, hB12, hO12⟩
              case measure => simp [slLen]; omega
end Go.Proofs.YtjfbeeogiejopaaGreatDoor
namespace Go.Proofs.YtjfbeeogiejopaaGreatDoor
open Go.ChangeShapes Go.WideShapes Go.ChangeAt Go.RowKit
theorem handed_and_shaped {H : Type} {enc : TypeId × Value → H} {a : Assume} {C : Checked} {os : Os} {f : FuncId} {fn : Func} {s : ChangeSpec} {conds : List PathCond} {apart fresh handsOn again : Bool} {X : World → Array Value → Prop}
  (hX : ∀ (w w' : World) (args : Array Value), w.heap = w'.heap → X w args → X w' args)
  (own : ownKnob C.prog.godebug = none) (started : os.Started) (noInit : C.prog.inits.idxOf? f = none) (hfn : C.prog.funcs[f]? = some fn)
  (witness : ∃ (w : World) (tape : Tape) (i : Input), w.os = os ∧ (w.forCall tape i).Shaped C.prog ∧ i.vars = [] ∧ Input.okWide C.prog (w.forCall tape i) .any w.heap.size f i ∧
   ((s.pre enc C.prog fn conds apart (w.forCall tape i).memory i.args ∧ X (w.forCall tape i).memory i.args) ∧ sizedMet enc C.prog fn (OpenSpec.ofChange s) apart (w.forCall tape i).memory i.args) ∧ a.holds C.prog (lone (Frame.enter C.prog f i.args .normal) [] (w.forCall tape i)))
  (contract : ∀ (W : World) (base : Nat) (args : Array Value) (ds gs : List (DataW H)) (before : List MemPlace),
   (∀ (j : Nat) t v, fn.params[j]? = some t → args[j]? = some v → Value.okWide C.prog W .any base t v) →
   DataW.Whole enc C.prog fn.params.toList s.vars apart W args.toList ds gs before →
   W.ShapedOpen C.prog →
   (DataW.weightsEach C.prog (fn.params.toList ++ s.plain.varTypes C.prog) (ds ++ gs)).all (· ≤ reachBytes) = true → X W args →
   a.holds C.prog (lone (Frame.enter C.prog f args .normal) [] W) →
   Calls C.prog f args W fun e W' => ∃ v, e = .returned v ∧ s.post enc C.prog fn apart fresh handsOn again W args v W') :
  ReturnsInHanded a C os f .any (fun w args => (s.pre enc C.prog fn conds apart w args ∧ X w args) ∧ sizedMet enc C.prog fn (OpenSpec.ofChange s) apart w args) (s.post enc C.prog fn apart fresh handsOn again) := by
 refine returnsInHanded_of_calls own started noInit witness ?_;intro w tape i _ hsh _ hok hpre hholds;obtain ⟨_, _, _, fn', hfn', _, _, _, _, hval⟩ := hok;have e : fn' = fn := Option.some.inj (hfn'.symm.trans hfn);subst e;obtain ⟨⟨⟨ds, gs, before, hw, hc⟩, hx⟩, hz⟩ := hpre;have hw' := DataW.Whole.of_heap (w' := w.forCall tape i) (by rfl) hw;refine (contract (w.forCall tape i) w.heap.size i.args ds gs before hval hw' hsh (hz.weights hw) (hX _ _ _ (by rfl) hx) hholds).mono fun e W' ⟨v, he, hp⟩ => ?_;subst he;exact ChangeSpec.post_blind hp
theorem mlen_of_shaped {W : World} (h : W.ShapedOpen Tryz.prog) : MLen W :=
 Go.Proofs.cell_of_shapedOpen_int (zero := #[.int .i64 0]) (t := 3) h (of_decide_eq_true (by kernel_rfl)) (by kernel_rfl) rfl (by kernel_rfl) (by kernel_rfl) Tryz.underlying3
def laidL : List (String × DataW Unit) := [("unicode/utf8.acceptRanges", Rows.laid_unicode_utf8_acceptRanges), ("deemster/event.verbs", Rows.laid_deemster_event_verbs), ("unicode/utf8.first", Rows.laid_unicode_utf8_first)]
set_option maxRecDepth 100000 in
theorem laid_accept : (Rows.laid_unicode_utf8_acceptRanges : DataW Unit) = Lib.acceptData := by rfl
set_option maxRecDepth 100000 in
theorem laid_first : Rows.laid_unicode_utf8_first = Lib.firstData := by kernel_rfl
def verbD : List (Int × List UInt8 × Bool) := [(1, [98, 101, 103, 105, 110], false), (2, [114, 101, 97, 100], true), (3, [119, 114, 105, 116, 101], true), (4, [111, 107], false), (5, [102, 97, 105, 108], false), (6, [105, 110, 102, 111], false)]
def verbW (x : Int × List UInt8 × Bool) : DataW Unit := .agg [.lit (.int .i64 x.1), .lit (.string x.2.1), .lit (.bool x.2.2)]
theorem laid_verbs : (Rows.laid_deemster_event_verbs : DataW Unit) = .agg (verbD.map verbW) := by rfl
set_option maxRecDepth 100000 in
theorem tabs_of_laid {W : World} (h : laidMetH Tryz.prog laidL W) : UTabs W := by
 rw [MakeChecks.laidMetH_plain _ _ _ (by kernel_rfl)] at h;unfold laidL at h;rw [laid_accept, laid_first] at h;exact utf8Tabs_of_readsT (U8Types.of196 Tryz.laysValid) ⟨by kernel_rfl, by kernel_rfl, by kernel_rfl, by kernel_rfl, by kernel_rfl, by kernel_rfl, by kernel_rfl⟩ (Lib.laidMet.reads h (.tail _ (.tail _ (.head _)))) (Lib.laidMet.reads h (.head _))
set_option maxRecDepth 100000 in
theorem verb_reads {W : World} {fuel : Nat} {cs : List Value} {x : Int × List UInt8 × Bool} {q : List MemPlace} (h : DataW.trod (fun _ => ()) Tryz.prog W 0 (fun _ => true) false fuel 151 cs = some (verbW x, q)) :
  cs = [.int .i64 x.1, .string ⟨x.2.1.toArray⟩, .bool x.2.2] := by
 obtain ⟨y0, y1, y2, n, hx, hl, h0, h1, h2⟩ := Go.Deep.trod_struct3 Tryz.underlying151 h;rw [show Tryz.prog.cellsOf 151 = 3 by kernel_rfl] at hl
 match cs, hl with
 | [c0, c1, c2], _ =>
  have k0 : Tryz.prog.cellsOf 3 = 1 := by kernel_rfl
  have k1 : Tryz.prog.cellsOf 9 = 1 := by kernel_rfl
  have k2 : Tryz.prog.cellsOf 4 = 1 := by kernel_rfl
  dsimp only at h0 h1 h2;rw [k0] at h0;rw [k1] at h1;rw [k2] at h2;obtain ⟨a, e0, f0, -⟩ := DataW.trod_int Tryz.underlying3 (by simpa using h0);obtain ⟨s, e1, f1, -⟩ := DataW.trod_string Tryz.underlying9 (by simpa using h1);obtain ⟨b, e2, f2⟩ := DataW.trod_bool Tryz.underlying4 (by simpa using h2);simp at e0 e1 e2;subst e0 e1 e2 f0 f1 f2;obtain ⟨x0, x1, x2⟩ := x;simp [verbW] at hx;obtain ⟨⟨rfl, rfl, rfl⟩, -⟩ := hx
  rfl
set_option maxRecDepth 100000 in
theorem verbs_of_laid {W : World} (h : laidMetH Tryz.prog laidL W) : Verbs W := by
 rw [MakeChecks.laidMetH_plain _ _ _ (by kernel_rfl)] at h;unfold laidL at h;rw [laid_verbs] at h;obtain ⟨g, t, cs, fuel, p, hg, hty, hvar, hd⟩ := Lib.laidMet.reads h (.tail _ (.head _));obtain rfl := Option.some.inj ((show Tryz.prog.globalNamed "deemster/event.verbs" = some 2 by kernel_rfl).symm.trans hg);obtain rfl := Option.some.inj ((show (Tryz.prog.globals[2]?).map (·.type) = some 196 by kernel_rfl).symm.trans hty);have key : ∀ (j : Nat) (x : Int × List UInt8 × Bool), j < 6 → verbD[j]? = some x → W.cell? ⟨2, j * 3, none⟩ = some (.int .i64 x.1) ∧ W.cell? ⟨2, j * 3 + 1, none⟩ = some (.string ⟨x.2.1.toArray⟩) ∧ W.cell? ⟨2, j * 3 + 2, none⟩ = some (.bool x.2.2) := by
  intro j x hj hx;obtain ⟨fuel', d, q, hdi, he⟩ := Lib.array_elem Tryz.underlying196 hd j hj;rw [List.getElem?_map, hx] at hdi;simp only [Option.map_some, Option.some.injEq] at hdi;subst hdi;rw [show Tryz.prog.cellsOf 151 = 3 by kernel_rfl] at he;have hcs := verb_reads he;have e0 := congrArg (·[0]?) hcs;have e1 := congrArg (·[1]?) hcs;have e2 := congrArg (·[2]?) hcs;simp only [List.getElem?_take, List.getElem?_drop] at e0 e1 e2;refine ⟨?_, ?_, ?_⟩
  ·rw [World.var?_cell hg hvar (j * 3), ← Array.getElem?_toList]
   simpa using e0
  ·rw [World.var?_cell hg hvar (j * 3 + 1), ← Array.getElem?_toList]
   simpa using e1
  ·rw [World.var?_cell hg hvar (j * 3 + 2), ← Array.getElem?_toList]
   simpa using e2
 have k0 := key 0 _ (by omega) rfl;have k1 := key 1 _ (by omega) rfl;have k2 := key 2 _ (by omega) rfl;have k3 := key 3 _ (by omega) rfl;have k4 := key 4 _ (by omega) rfl;have k5 := key 5 _ (by omega) rfl;refine ⟨World.block_lt_of_cell? W _ k0.1, fun i u hu => ?_⟩;have hi : i < 18 := by
  have := (List.getElem?_eq_some_iff.1 hu).1;exact this
 have hc : i = 0 ∨ i = 1 ∨ i = 2 ∨ i = 3 ∨ i = 4 ∨ i = 5 ∨ i = 6 ∨ i = 7 ∨ i = 8 ∨ i = 9 ∨ i = 10 ∨ i = 11 ∨ i = 12 ∨ i = 13 ∨ i = 14 ∨ i = 15 ∨ i = 16 ∨ i = 17 := by omega
 rcases hc with rfl | rfl | rfl | rfl | rfl | rfl | rfl | rfl | rfl | rfl | rfl | rfl | rfl | rfl | rfl | rfl | rfl | rfl
 ·obtain rfl := Option.some.inj hu;exact k0.1
 ·obtain rfl := Option.some.inj hu;exact k0.2.1
 ·obtain rfl := Option.some.inj hu;exact k0.2.2
 ·obtain rfl := Option.some.inj hu;exact k1.1
 ·obtain rfl := Option.some.inj hu;exact k1.2.1
 ·obtain rfl := Option.some.inj hu;exact k1.2.2
 ·obtain rfl := Option.some.inj hu;exact k2.1
 ·obtain rfl := Option.some.inj hu;exact k2.2.1
 ·obtain rfl := Option.some.inj hu;exact k2.2.2
 ·obtain rfl := Option.some.inj hu;exact k3.1
 ·obtain rfl := Option.some.inj hu;exact k3.2.1
 ·obtain rfl := Option.some.inj hu;exact k3.2.2
 ·obtain rfl := Option.some.inj hu;exact k4.1
 ·obtain rfl := Option.some.inj hu;exact k4.2.1
 ·obtain rfl := Option.some.inj hu;exact k4.2.2
 ·obtain rfl := Option.some.inj hu;exact k5.1
 ·obtain rfl := Option.some.inj hu;exact k5.2.1
 ·obtain rfl := Option.some.inj hu;exact k5.2.2
end Go.Proofs.YtjfbeeogiejopaaGreatDoor
