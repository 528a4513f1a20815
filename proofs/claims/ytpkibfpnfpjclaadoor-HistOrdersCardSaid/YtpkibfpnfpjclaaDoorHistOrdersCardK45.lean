/- The package hist: Same. -/
import Derived.Test.YtpkibfpnfpjclaaDoorHistOrdersCardK44
set_option linter.unusedVariables false
set_option linter.unusedSimpArgs false
namespace Go.Proofs.YtpkibfpnfpjclaaDoor
open Go.RowKit
open Go.Lib hiding intOf
attribute [local go_sem ↓] Go.wp_at_zero Go.wp_at_succ

def eqH (g h : Hst) : Bool := decide (g.ss = h.ss) && (decide (g.ks = h.ks) && decide (g.l = h.l))
def sameH (g h : Hst) : Bool := mayH g && (mayH h && eqH g h)

set_option maxRecDepth 10000 in
set_option maxHeartbeats 4000000 in
theorem hsame_any (A0 A1 A2 : Option Addr) (n0 n1 n2 c0 c1 c2 B : Nat) (g : Hst) (Z0 Z1 Z2 : Option Addr) (m0 m1 m2 d0 d1 d2 B' : Nat) (h : Hst) (w : World) (hg : HIn w B A0 A1 A2 n0 n1 n2 g) (hh : HIn w B' Z0 Z1 Z2 m0 m1 m2 h) :
    Calls Tryd.prog 21 #[hval A0 A1 A2 n0 n1 n2 c0 c1 c2, hval Z0 Z1 Z2 m0 m1 m2 d0 d1 d2] w fun e w' => e = .returned (.bool (sameH g h)) ∧ Only [] w w' := by
  unfold hval
  have HB0 := Lib.hid ((Blk.made w 25 #[.slice A0 n0 c0, .slice A1 n1 c1, .slice A2 n2 c2]).alloc (.cells #[.slice Z0 m0 d0, .slice Z1 m1 d1, .slice Z2 m2 d2] 25))
  have hb1 := Blk.made (w.alloc (.cells #[.slice A0 n0 c0, .slice A1 n1 c1, .slice A2 n2 c2] 25)) 25 #[.slice Z0 m0 d0, .slice Z1 m1 d1, .slice Z2 m2 d2]
  simp only [World.size_alloc] at hb1
  have HB1 := Lib.hid hb1
  have HO1 := Lib.hid (((Only.refl [] w).alloc (.cells #[.slice A0 n0 c0, .slice A1 n1 c1, .slice A2 n2 c2] 25)).alloc (.cells #[.slice Z0 m0 d0, .slice Z1 m1 d1, .slice Z2 m2 d2] 25))
  have HG := Lib.hid (hg.same HO1.out)
  have HH := Lib.hid (hh.same HO1.out)
  clear hg hh hb1
  go_enter Tryd.func21, Tryd.ntmps21
  go_upto_region 1 with (fail)
  generalize ((w.alloc (.cells #[.slice A0 n0 c0, .slice A1 n1 c1, .slice A2 n2 c2] 25)).alloc (.cells #[.slice Z0 m0 d0, .slice Z1 m1 d1, .slice Z2 m2 d2] 25)) = w1 at *
  generalize w.heap.size + 1 = g1 at *
  generalize w.heap.size = g0 at *
  have p0 := (Only.refl [] w1).blk HB0.out (by simp)
  have p1 := (Only.refl [] w1).blk HB1.out (by simp)
  have l0 := p0.lt
  have l1 := p1.lt
  have x0 := p0.at_ 0
  have x1 := p0.at_ 1
  have x2 := p0.at_ 2
  have y0 := p1.at_ 0
  have y1 := p1.at_ 1
  have y2 := p1.at_ 2
  simp at x0 x1 x2 y0 y1 y2
  clear p0 p1
  have HMA := Lib.hid (fun w' (O : Only [] w1 w') => hmay_any A0 A1 A2 n0 n1 n2 c0 c1 c2 B g w' (HG.out.same O))
  have HMB := Lib.hid (fun w' (O : Only [] w1 w') => hmay_any Z0 Z1 Z2 m0 m1 m2 d0 d1 d2 B' h w' (HH.out.same O))
  unfold hval at HMA HMB
  have HS := Lib.hid (fun w' (O : Only [] w1 w') => eqstr_any A0 Z0 n0 m0 c0 d0 g.ss h.ss w' B B' (HG.out.same O).at_.r0 (HH.out.same O).at_.r0 HG.out.n0 HH.out.n0 (by have := HG.out.n0; have := HG.out.sm.ns; omega) (by have := HH.out.n0; have := HH.out.sm.ns; omega))
  have HK := Lib.hid (fun w' (O : Only [] w1 w') => eqstr_any A1 Z1 n1 m1 c1 d1 g.ks h.ks w' B B' (HG.out.same O).at_.r1 (HH.out.same O).at_.r1 HG.out.n1 HH.out.n1 (by have := HG.out.n1; have := HG.out.sm.nk; omega) (by have := HH.out.n1; have := HH.out.sm.nk; omega))
  have HX := Lib.hid (fun w' (O : Only [] w1 w') => eqtx_any A2 Z2 n2 m2 c2 d2 B B' g.l h.l w' (HG.out.same O).at_.r2 (HH.out.same O).at_.r2 HG.out.n2 HH.out.n2 (by rw [← HG.out.n2]; exact HG.out.sm.nl) (by rw [← HH.out.n2]; exact HH.out.sm.nl) HG.out.sm.no HH.out.sm.no)
  cases e1 : mayH g with
  | false =>
    rw [mayH_errn e1] at HMA
    have HE := Lib.hid (show sameH g h = false by unfold sameH; rw [e1]; simp)
    clear e1
    go_wp2_with fail
    refine (HMA.out _ (Only.refl [] _)).mono ?_
    rintro e w2 ⟨rfl, O⟩
    have HN2 := Lib.hid (O)
    clear O l0 l1 x0 x1 x2 y0 y1 y2
    go_wp2
    go_ret
    exact ⟨by rw [HE.out]; rfl, HO1.out.trans HN2.out⟩
  | true =>
    rw [mayH_err e1] at HMA
    have E1 := Lib.hid e1
    clear e1
    go_wp2_with fail
    refine (HMA.out _ (Only.refl [] _)).mono ?_
    rintro e w2 ⟨rfl, O⟩
    have HN2 := Lib.hid (O)
    clear O l0 l1 x0 x1 x2 y0 y1 y2
    have p0 := HN2.out.blk HB0.out (by simp)
    have p1 := HN2.out.blk HB1.out (by simp)
    have l0 := p0.lt
    have l1 := p1.lt
    have x0 := p0.at_ 0
    have x1 := p0.at_ 1
    have x2 := p0.at_ 2
    have y0 := p1.at_ 0
    have y1 := p1.at_ 1
    have y2 := p1.at_ 2
    simp at x0 x1 x2 y0 y1 y2
    clear p0 p1
    cases e2 : mayH h with
    | false =>
      rw [mayH_errn e2] at HMB
      have HE := Lib.hid (show sameH g h = false by unfold sameH; rw [e2]; simp)
      clear e2
      go_wp2_with fail
      refine (HMB.out _ HN2.out).mono ?_
      rintro e w3 ⟨rfl, O⟩
      have HN3 := Lib.hid (HN2.out.trans (O))
      clear O l0 l1 x0 x1 x2 y0 y1 y2
      go_wp2
      go_ret
      exact ⟨by rw [HE.out]; rfl, HO1.out.trans HN3.out⟩
    | true =>
      rw [mayH_err e2] at HMB
      have E2 := Lib.hid e2
      clear e2
      go_wp2_with fail
      refine (HMB.out _ HN2.out).mono ?_
      rintro e w3 ⟨rfl, O⟩
      have HN3 := Lib.hid (HN2.out.trans (O))
      clear O l0 l1 x0 x1 x2 y0 y1 y2
      have p0 := HN3.out.blk HB0.out (by simp)
      have p1 := HN3.out.blk HB1.out (by simp)
      have l0 := p0.lt
      have l1 := p1.lt
      have x0 := p0.at_ 0
      have x1 := p0.at_ 1
      have x2 := p0.at_ 2
      have y0 := p1.at_ 0
      have y1 := p1.at_ 1
      have y2 := p1.at_ 2
      simp at x0 x1 x2 y0 y1 y2
      clear p0 p1
      cases e3 : decide (g.ss = h.ss) with
      | false =>
        rw [e3] at HS
        have HE := Lib.hid (show sameH g h = false by unfold sameH eqH; rw [e3]; simp)
        clear e3
        go_wp2_with fail
        refine (HS.out _ HN3.out).mono ?_
        rintro e w4 ⟨rfl, q4, rfl⟩
        have HN4 := Lib.hid (HN3.out.drewN q4)
        clear l0 l1 x0 x1 x2 y0 y1 y2
        generalize w3.drewN q4 = w4 at *
        go_wp2
        go_ret
        exact ⟨by rw [HE.out]; rfl, HO1.out.trans HN4.out⟩
      | true =>
        rw [e3] at HS
        have E3 := Lib.hid e3
        clear e3
        go_wp2_with fail
        refine (HS.out _ HN3.out).mono ?_
        rintro e w4 ⟨rfl, q4, rfl⟩
        have HN4 := Lib.hid (HN3.out.drewN q4)
        clear l0 l1 x0 x1 x2 y0 y1 y2
        generalize w3.drewN q4 = w4 at *
        have p0 := HN4.out.blk HB0.out (by simp)
        have p1 := HN4.out.blk HB1.out (by simp)
        have l0 := p0.lt
        have l1 := p1.lt
        have x0 := p0.at_ 0
        have x1 := p0.at_ 1
        have x2 := p0.at_ 2
        have y0 := p1.at_ 0
        have y1 := p1.at_ 1
        have y2 := p1.at_ 2
        simp at x0 x1 x2 y0 y1 y2
        clear p0 p1
        cases e4 : decide (g.ks = h.ks) with
        | false =>
          rw [e4] at HK
          have HE := Lib.hid (show sameH g h = false by unfold sameH eqH; rw [e4]; simp)
          clear e4
          go_wp2_with fail
          refine (HK.out _ HN4.out).mono ?_
          rintro e w5 ⟨rfl, q5, rfl⟩
          have HN5 := Lib.hid (HN4.out.drewN q5)
          clear l0 l1 x0 x1 x2 y0 y1 y2
          generalize w4.drewN q5 = w5 at *
          go_wp2
          go_ret
          exact ⟨by rw [HE.out]; rfl, HO1.out.trans HN5.out⟩
        | true =>
          rw [e4] at HK
          have E4 := Lib.hid e4
          clear e4
          go_wp2_with fail
          refine (HK.out _ HN4.out).mono ?_
          rintro e w5 ⟨rfl, q5, rfl⟩
          have HN5 := Lib.hid (HN4.out.drewN q5)
          clear l0 l1 x0 x1 x2 y0 y1 y2
          generalize w4.drewN q5 = w5 at *
          obtain ⟨b5, h5⟩ : ∃ b5, b5 = decide (g.l = h.l) := ⟨_, rfl⟩
          rw [← h5] at HX
          have HE := Lib.hid (show sameH g h = b5 by unfold sameH eqH; rw [E1.out, E2.out, E3.out, E4.out, h5]; simp)
          clear h5
          have p0 := HN5.out.blk HB0.out (by simp)
          have p1 := HN5.out.blk HB1.out (by simp)
          have l0 := p0.lt
          have l1 := p1.lt
          have x0 := p0.at_ 0
          have x1 := p0.at_ 1
          have x2 := p0.at_ 2
          have y0 := p1.at_ 0
          have y1 := p1.at_ 1
          have y2 := p1.at_ 2
          simp at x0 x1 x2 y0 y1 y2
          clear p0 p1
          go_wp2_with fail
          refine (HX.out _ HN5.out).mono ?_
          rintro e w6 ⟨rfl, O⟩
          have HN6 := Lib.hid (HN5.out.trans (O))
          clear O l0 l1 x0 x1 x2 y0 y1 y2
          go_wp2
          go_ret
          exact ⟨by rw [HE.out]; rfl, HO1.out.trans HN6.out⟩

end Go.Proofs.YtpkibfpnfpjclaaDoor
