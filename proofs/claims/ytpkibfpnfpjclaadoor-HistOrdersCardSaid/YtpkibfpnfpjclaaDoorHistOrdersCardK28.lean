/- The package hist: Session, Infos, Lost. -/
import Derived.Test.YtpkibfpnfpjclaaDoorHistOrdersCardK24
import Derived.Test.YtpkibfpnfpjclaaDoorHistOrdersCardK27
set_option linter.unusedVariables false
set_option linter.unusedSimpArgs false
namespace Go.Proofs.YtpkibfpnfpjclaaDoor
open Go.RowKit
open Go.Lib hiding intOf
attribute [local go_sem ↓] Go.wp_at_zero Go.wp_at_succ

theorem mayH_err {h : Hst} (hm : mayH h = true) : errH h = 0 := by unfold errH; rw [hm]; rfl
theorem mayH_errn {h : Hst} (hm : mayH h = false) : errH h = 4 := by unfold errH; rw [hm]; rfl
def sesL (h : Hst) (s : Int) : List Int := if mayH h = true then whichL (fun t => decide (t.s = s)) h.l else []
def infL (h : Hst) : List Int := if mayH h = true then whichL (fun t => decide (t.f = 3)) h.l else []
def losL (h : Hst) : List (Int × Int) := if mayH h = true then lostP (plsL h.l) else []

set_option maxHeartbeats 1000000 in
theorem kinfos_any (A0 A1 A2 : Option Addr) (n0 n1 n2 c0 c1 c2 B : Nat) (h : Hst) (w : World) (hg : LRow w B A2 h.l) (hn2 : h.l.length = n2) (hM : n2 ≤ 1000) :
    Calls Tryd.prog 31 #[hval A0 A1 A2 n0 n1 n2 c0 c1 c2] w fun e w' =>
      ∃ A c, (e = .returned (.slice A (whichL (fun t => decide (t.f = 3)) h.l).length c) ∧ Row w' w'.heap.size A ((whichL (fun t => decide (t.f = 3)) h.l).map (Value.int .i64))) ∧ Only [] w w' := by
  have HX := Lib.hid (fun w' (O : Only [] w w') => whichI_any A0 A1 A2 n0 n1 n2 c0 c1 c2 B h w' (hg.only O (fun _ h => by cases h)) hn2 hM)
  unfold hval at HX ⊢
  clear hg hn2
  have O1 : Only [] w (w.alloc (.cells #[.slice A0 n0 c0, .slice A1 n1 c1, .slice A2 n2 c2] 25)) := (Only.refl [] w).alloc _
  have HF := Lib.hid (HX.out _ O1)
  have HO1 := Lib.hid O1
  clear O1
  generalize (whichL (fun t => decide (t.f = 3)) h.l) = L at *
  go_enter Tryd.func31, Tryd.ntmps31
  go_wp2_with fail
  refine (HF.out).mono ?_
  rintro e w3 ⟨V, ⟨rfl, hV⟩, O3⟩
  have HO3 := Lib.hid (HO1.out.trans O3)
  obtain ⟨A, c, rfl, -, -, -, hR⟩ := own_row hV
  have HR := Lib.hid hR
  clear O3 hV hR
  go_wp2
  go_ret
  exact ⟨_, _, ⟨rfl, HR.out⟩, HO3.out⟩

set_option maxHeartbeats 1000000 in
theorem hinfos_any (A0 A1 A2 : Option Addr) (n0 n1 n2 c0 c1 c2 B : Nat) (h : Hst) (w : World) (hg : HIn w B A0 A1 A2 n0 n1 n2 h) :
    Calls Tryd.prog 16 #[hval A0 A1 A2 n0 n1 n2 c0 c1 c2] w fun e w' => ∃ A c, (e = .returned (.slice A (infL h).length c) ∧ Row w' w'.heap.size A ((infL h).map (Value.int .i64))) ∧ Only [] w w' := by
  have HM := Lib.hid (fun w' (O : Only [] w w') => hmay_any A0 A1 A2 n0 n1 n2 c0 c1 c2 B h w' (hg.same O))
  have hM : n2 ≤ 1000 := by
    have := hg.sm.nl
    rw [hg.n2] at this
    exact this
  have HX := Lib.hid (fun w' (O : Only [] w w') => kinfos_any A0 A1 A2 n0 n1 n2 c0 c1 c2 B h w' (hg.same O).at_.r2 hg.n2 hM)
  unfold infL
  unfold hval at HM HX ⊢
  clear hg
  have O1 : Only [] w (w.alloc (.cells #[.slice A0 n0 c0, .slice A1 n1 c1, .slice A2 n2 c2] 25)) := (Only.refl [] w).alloc _
  have HB1 := Lib.hid (Blk.made w 25 #[.slice A0 n0 c0, .slice A1 n1 c1, .slice A2 n2 c2])
  have HF := Lib.hid (HM.out _ O1)
  have HO1 := Lib.hid O1
  clear O1
  cases hm : mayH h with
  | false =>
    rw [mayH_errn hm] at HF
    clear hm
    go_enter Tryd.func16, Tryd.ntmps16
    go_wp2_with fail
    refine (HF.out).mono ?_
    rintro e w2 ⟨rfl, O2⟩
    have HO2 := Lib.hid (HO1.out.trans O2)
    clear O2
    go_wp2
    go_ret
    exact ⟨⟨none, ⟨0, rfl⟩, .inl rfl⟩, HO2.out⟩
  | true =>
    rw [mayH_err hm] at HF
    clear hm
    rw [if_pos rfl]
    go_enter Tryd.func16, Tryd.ntmps16
    go_wp2_with fail
    refine (HF.out).mono ?_
    rintro e w2 ⟨rfl, O2⟩
    have HO2 := Lib.hid (HO1.out.trans O2)
    have b2 := O2.blk HB1.out (by simp)
    clear O2
    have HW := Lib.hid (HX.out w2 HO2.out)
    have l2 := b2.lt
    have y0 := b2.at_ 0
    have y1 := b2.at_ 1
    have y2 := b2.at_ 2
    simp at y0 y1 y2
    clear b2
    go_wp2_with fail
    refine (HW.out).mono ?_
    rintro e w3 ⟨A, c, ⟨rfl, hR⟩, O3⟩
    have HO3 := Lib.hid (HO2.out.trans O3)
    have HR := Lib.hid hR
    clear O3 hR
    go_wp2
    go_ret
    first | exact ⟨_, _, ⟨rfl, HR.out⟩, HO3.out⟩ | exact ⟨⟨_, ⟨_, rfl⟩, HR.out⟩, HO3.out⟩

set_option maxHeartbeats 1000000 in
theorem hlost_any (A0 A1 A2 : Option Addr) (n0 n1 n2 c0 c1 c2 B : Nat) (h : Hst) (w : World) (hg : HIn w B A0 A1 A2 n0 n1 n2 h) :
    Calls Tryd.prog 18 #[hval A0 A1 A2 n0 n1 n2 c0 c1 c2] w fun e w' => ∃ A c, (e = .returned (.slice A (losL h).length c) ∧ Row w' w'.heap.size A (placeC (losL h))) ∧ Only [] w w' := by
  have HM := Lib.hid (fun w' (O : Only [] w w') => hmay_any A0 A1 A2 n0 n1 n2 c0 c1 c2 B h w' (hg.same O))
  have hM : n2 ≤ 1000 := by
    have := hg.sm.nl
    rw [hg.n2] at this
    exact this
  have HX := Lib.hid (fun w' (O : Only [] w w') => klost_any A0 A1 A2 n0 n1 n2 c0 c1 c2 B h w' (hg.same O).at_.r2 hg.n2 hM hg.sm.no)
  unfold losL
  unfold hval at HM HX ⊢
  clear hg
  have O1 : Only [] w (w.alloc (.cells #[.slice A0 n0 c0, .slice A1 n1 c1, .slice A2 n2 c2] 25)) := (Only.refl [] w).alloc _
  have HB1 := Lib.hid (Blk.made w 25 #[.slice A0 n0 c0, .slice A1 n1 c1, .slice A2 n2 c2])
  have HF := Lib.hid (HM.out _ O1)
  have HO1 := Lib.hid O1
  clear O1
  cases hm : mayH h with
  | false =>
    rw [mayH_errn hm] at HF
    clear hm
    go_enter Tryd.func18, Tryd.ntmps18
    go_wp2_with fail
    refine (HF.out).mono ?_
    rintro e w2 ⟨rfl, O2⟩
    have HO2 := Lib.hid (HO1.out.trans O2)
    clear O2
    go_wp2
    go_ret
    exact ⟨⟨none, ⟨0, rfl⟩, .inl rfl⟩, HO2.out⟩
  | true =>
    rw [mayH_err hm] at HF
    clear hm
    rw [if_pos rfl]
    go_enter Tryd.func18, Tryd.ntmps18
    go_wp2_with fail
    refine (HF.out).mono ?_
    rintro e w2 ⟨rfl, O2⟩
    have HO2 := Lib.hid (HO1.out.trans O2)
    have b2 := O2.blk HB1.out (by simp)
    clear O2
    have HW := Lib.hid (HX.out w2 HO2.out)
    have l2 := b2.lt
    have y0 := b2.at_ 0
    have y1 := b2.at_ 1
    have y2 := b2.at_ 2
    simp at y0 y1 y2
    clear b2
    go_wp2_with fail
    refine (HW.out).mono ?_
    rintro e w3 ⟨V, ⟨rfl, hV⟩, O3⟩
    obtain ⟨A, c, rfl, -, -, -, hR⟩ := own_row hV
    clear hV
    have HO3 := Lib.hid (HO2.out.trans O3)
    have HR := Lib.hid hR
    clear O3 hR
    go_wp2
    go_ret
    first | exact ⟨_, _, ⟨rfl, HR.out⟩, HO3.out⟩ | exact ⟨⟨_, ⟨_, rfl⟩, HR.out⟩, HO3.out⟩

set_option maxHeartbeats 1000000 in
theorem hsession_any (A0 A1 A2 : Option Addr) (n0 n1 n2 c0 c1 c2 B : Nat) (h : Hst) (x : Int) (w : World) (hg : HIn w B A0 A1 A2 n0 n1 n2 h) :
    Calls Tryd.prog 12 #[hval A0 A1 A2 n0 n1 n2 c0 c1 c2, .int .i64 x] w fun e w' => ∃ A c, (e = .returned (.slice A (sesL h x).length c) ∧ Row w' w'.heap.size A ((sesL h x).map (Value.int .i64))) ∧ Only [] w w' := by
  have HM := Lib.hid (fun w' (O : Only [] w w') => hmay_any A0 A1 A2 n0 n1 n2 c0 c1 c2 B h w' (hg.same O))
  have hM : n2 ≤ 1000 := by
    have := hg.sm.nl
    rw [hg.n2] at this
    exact this
  have HX := Lib.hid (fun w' (O : Only [] w w') (p : Nat) (hp : p < w'.heap.size) (hx : w'.cell? ⟨p, 0, none⟩ = some (.int .i64 x)) => whichS_any A0 A1 A2 n0 n1 n2 c0 c1 c2 B h x p w' hp hx (hg.same O).at_.r2 hg.n2 hM)
  unfold sesL
  unfold hval at HM HX ⊢
  clear hg
  have O1 : Only [] w ((w.alloc (.cells #[.slice A0 n0 c0, .slice A1 n1 c1, .slice A2 n2 c2] 25)).alloc (.cells #[.int .i64 x] 3)) := ((Only.refl [] w).alloc _).alloc _
  have HB1 := Lib.hid ((Blk.made w 25 #[.slice A0 n0 c0, .slice A1 n1 c1, .slice A2 n2 c2]).alloc (.cells #[.int .i64 x] 3))
  have HB2 := Lib.hid (Blk.made (w.alloc (.cells #[.slice A0 n0 c0, .slice A1 n1 c1, .slice A2 n2 c2] 25)) 3 #[.int .i64 x])
  rw [World.size_alloc] at HB2
  have HF := Lib.hid (HM.out _ O1)
  have HO1 := Lib.hid O1
  clear O1
  cases hm : mayH h with
  | false =>
    rw [mayH_errn hm] at HF
    clear hm
    go_enter Tryd.func12, Tryd.ntmps12
    go_wp2_with fail
    refine (HF.out).mono ?_
    rintro e w2 ⟨rfl, O2⟩
    have HO2 := Lib.hid (HO1.out.trans O2)
    clear O2
    go_wp2
    go_ret
    exact ⟨⟨none, ⟨0, rfl⟩, .inl rfl⟩, HO2.out⟩
  | true =>
    rw [mayH_err hm] at HF
    clear hm
    rw [if_pos rfl]
    go_enter Tryd.func12, Tryd.ntmps12
    go_wp2_with fail
    refine (HF.out).mono ?_
    rintro e w2 ⟨rfl, O2⟩
    have HO2 := Lib.hid (HO1.out.trans O2)
    have b2 := O2.blk HB1.out (by simp)
    have c2 := O2.blk HB2.out (by simp)
    have lc := c2.lt
    have z0 := c2.at_ 0
    simp at z0
    clear c2
    clear O2
    have HW := Lib.hid (HX.out w2 HO2.out _ lc z0)
    have l2 := b2.lt
    have y0 := b2.at_ 0
    have y1 := b2.at_ 1
    have y2 := b2.at_ 2
    simp at y0 y1 y2
    clear b2
    go_wp2_with fail
    refine (HW.out).mono ?_
    rintro e w3 ⟨V, ⟨rfl, hV⟩, O3⟩
    obtain ⟨A, c, rfl, -, -, -, hR⟩ := own_row hV
    clear hV
    have HO3 := Lib.hid (HO2.out.trans O3)
    have HR := Lib.hid hR
    clear O3 hR
    go_wp2
    go_ret
    first | exact ⟨_, _, ⟨rfl, HR.out⟩, HO3.out⟩ | exact ⟨⟨_, ⟨_, rfl⟩, HR.out⟩, HO3.out⟩

end Go.Proofs.YtpkibfpnfpjclaaDoor
