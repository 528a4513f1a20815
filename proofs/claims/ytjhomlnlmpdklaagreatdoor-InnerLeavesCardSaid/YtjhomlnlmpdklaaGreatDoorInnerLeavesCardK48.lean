/- Few of a history that has few parts already; the contracts of law 11, said of a history that lies there. InnerLeaves: the walk. -/
import Derived.Test.YtjhomlnlmpdklaaGreatDoorInnerLeavesCardK47
import Derived.Test.YtjhomlnlmpdklaaGreatDoorInnerLeavesCardK46
import Derived.Test.YtjhomlnlmpdklaaGreatDoorInnerLeavesCardK30
import Derived.Test.YtjhomlnlmpdklaaGreatDoorInnerLeavesCardK18
import Derived.Test.YtjhomlnlmpdklaaGreatDoorInnerLeavesCardK35
import Derived.Test.YtjhomlnlmpdklaaGreatDoorInnerLeavesCardK44
import Derived.Test.YtjhomlnlmpdklaaGreatDoorInnerLeavesCardK45
import Derived.Test.YtjhomlnlmpdklaaGreatDoorInnerLeavesCardK9
set_option linter.unusedVariables false
set_option linter.unusedSimpArgs false
namespace Go.Proofs.YtjhomlnlmpdklaaGreatDoor
open Go.RowKit
open Go.Lib hiding intOf
/-- Few of what came in. -/
theorem few_first (A0 A1 A2 : Option Addr) (c0 c1 c2 : Nat) (h : Hst) (w : World) (hg : HAt w w.heap.size A0 A1 A2 h) (hm0 : h.ss.length ≤ maxLen) (hm1 : h.ks.length ≤ maxLen) (hm2 : h.l.length ≤ maxLen)
  (hz0 : ∀ z ∈ h.ss, z.size ≤ maxLen) (hz1 : ∀ z ∈ h.ks, z.size ≤ maxLen) (hT : UTabs w) :
  Calls Tryz.prog 9 #[.agg #[.slice A0 h.ss.length c0, .slice A1 h.ks.length c1, .slice A2 h.l.length c2]] w fun e w' => ∃ A0' A1' A2' c0' c1' c2', (e = .returned (.agg #[.slice A0' (fewH h).ss.length c0', .slice A1' (fewH h).ks.length c1', .slice A2' (fewH h).l.length c2']) ∧ HIn w' w'.heap.size A0' A1' A2' (fewH h).ss.length (fewH h).ks.length (fewH h).l.length (fewH h)) ∧ Only [] w w' := by
 unfold maxLen at *
 refine (few11_any A0 A1 A2 _ _ _ c0 c1 c2 w.heap.size h w hg rfl rfl rfl (by omega) (by omega) (by omega) (fun z hz => by have := hz0 z hz; omega) (fun z hz => by have := hz1 z hz; omega)).mono ?_
 rintro e w' ⟨A0', A1', A2', c0', c1', c2', ⟨rfl, hA⟩, O⟩
 exact ⟨A0', A1', A2', c0', c1', c2', ⟨rfl, ⟨hA, rfl, rfl, rfl, few_small h, hT.only O⟩⟩, O⟩
/-- Few of what it made. -/
theorem few_in (A0 A1 A2 : Option Addr) (n0 n1 n2 c0 c1 c2 B : Nat) (h : Hst) (w : World) (hg : HIn w B A0 A1 A2 n0 n1 n2 h) (hf : fewH h = h) :
  Calls Tryz.prog 9 #[.agg #[.slice A0 n0 c0, .slice A1 n1 c1, .slice A2 n2 c2]] w fun e w' => ∃ A0' A1' A2' c0' c1' c2', (e = .returned (.agg #[.slice A0' n0 c0', .slice A1' n1 c1', .slice A2' n2 c2']) ∧ HIn w' w'.heap.size A0' A1' A2' n0 n1 n2 h) ∧ Only [] w w' := by
 have a0 := hg.sm.ns
 have a1 := hg.sm.nk
 have a2 := hg.sm.nl
 have e0 := hg.n0
 have e1 := hg.n1
 have e2 := hg.n2
 refine (few11_any A0 A1 A2 n0 n1 n2 c0 c1 c2 B h w hg.at_ e0 e1 e2 (by omega) (by omega) (by omega) (fun z hz => by have := hg.sm.s z hz; omega) (fun z hz => by have := hg.sm.k z hz; omega)).mono ?_
 rintro e w' ⟨A0', A1', A2', c0', c1', c2', ⟨rfl, hA⟩, O⟩
 rw [hf] at hA
 refine ⟨A0', A1', A2', c0', c1', c2', ⟨?_, ⟨hA, e0, e1, e2, hg.sm, hg.u.only O⟩⟩, O⟩
 unfold hval
 rw [hf, e0, e1, e2]
/-- A row does not lie in a block that holds nothing like its first cell. -/
theorem row_past {w w' : World} {B : Nat} {A : Option Addr} {xs : List Value} {g : Nat} {t : TypeId} {cs : Array Value} (h : Row w B A xs) (hb : Blk w g t cs) (hne : ∀ u : Value, xs[0]? = some u → ∀ j : Nat, cs[j]? ≠ some u) (ho : Only [g] w w') : Row w' w'.heap.size A xs := by
 rcases h with rfl | ⟨b, off, rfl, h1, h2, hc⟩
 ·exact .inl rfl
 ·cases xs with
  | nil => exact .inl rfl
  | cons u xs =>
   have h0 := hc 0 u rfl
   have hbg : b ≠ g := fun e => by
    subst e
    rw [hb.at_] at h0
    exact hne u rfl _ h0
   have := ho.size
   exact .inr ⟨b, off, rfl, by omega, by omega, fun j v hv => (ho.cell (p := ⟨b, off + j, none⟩) (by show b < _; omega) (by simp [hbg])).trans (hc j v hv)⟩
theorem HIn.past {w w' : World} {B : Nat} {A0 A1 A2 : Option Addr} {n0 n1 n2 : Nat} {h : Hst} {g : Nat} {t : TypeId} {a0 a1 a2 : Option Addr} {k0 k1 k2 e0 e1 e2 : Nat} (hI : HIn w B A0 A1 A2 n0 n1 n2 h) (hb : Blk w g t #[.slice a0 k0 e0, .slice a1 k1 e1, .slice a2 k2 e2]) (ho : Only [g] w w') (hU : UTabs w') :
  HIn w' w'.heap.size A0 A1 A2 n0 n1 n2 h := by
 have key : ∀ (u : Value), (∀ a n c, u ≠ .slice a n c) → ∀ j : Nat, (#[Value.slice a0 k0 e0, .slice a1 k1 e1, .slice a2 k2 e2] : Array Value)[j]? ≠ some u := by
  intro u hu j hj
  match j with
  | 0 => simp at hj; exact hu _ _ _ hj.symm
  | 1 => simp at hj; exact hu _ _ _ hj.symm
  | 2 => simp at hj; exact hu _ _ _ hj.symm
  | j + 3 => simp at hj
 obtain ⟨⟨r0, r1, ⟨xs, hx, r2, hxs⟩⟩, q0, q1, q2, q3, -⟩ := hI
 have ks : ∀ l : List ByteArray, ∀ u : Value, (strs l)[0]? = some u → ∀ a n c, u ≠ .slice a n c := by
  intro l u hu a n c e
  subst e
  cases l <;> simp [strs] at hu
 refine ⟨⟨row_past r0 hb (fun u hu => key u (ks _ u hu)) ho, row_past r1 hb (fun u hu => key u (ks _ u hu)) ho, ⟨xs, hx, row_past r2 hb (fun u hu => key u ?_) ho, fun x hx => ⟨row_past (hxs x hx).row hb (fun u hu => key u ?_) ho, (hxs x hx).le, (hxs x hx).cap⟩⟩⟩, q0, q1, q2, q3, hU⟩
 ·intro a n c e
  subst e
  cases xs <;> simp [txC, TxA.c] at hu
 ·intro a n c e
  subst e
  cases hxo : x.t.ops with
  | nil => rw [hxo] at hu; simp [opC] at hu
  | cons y l => rw [hxo] at hu; simp [opC, Op4.c] at hu
end Go.Proofs.YtjhomlnlmpdklaaGreatDoor

set_option linter.unusedVariables false
set_option linter.unusedSimpArgs false
namespace Go.Proofs.YtjhomlnlmpdklaaGreatDoor
open Go.RowKit
open Go.Lib hiding intOf
attribute [local go_sem ↓] Go.wp_at_zero Go.wp_at_succ
theorem bad_len {h : Hst} (hs : HSmall h) (a : Int) : (badH h a).length ≤ 1000 := by
 cases ht : txAtH h a with
 | none => rw [bad_none ht]; simp
 | some t => rw [bad_some ht]; exact Nat.le_trans (bdL_le _) (txn_ops hs ht)
theorem wrt_len {h : Hst} (hs : HSmall h) (key : Int) : (wrtH h key).length ≤ 1000 := by
 unfold wrtH
 split
 ·exact Nat.le_trans (which_le _ _) hs.nl
 ·simp
set_option maxRecDepth 10000 in
set_option maxHeartbeats 8000000 in
theorem innerLeaves_walk (A0 A1 A2 : Option Addr) (c0 c1 c2 : Nat) (h : Hst) (a key : Int) (w : World) (hg : HAt w w.heap.size A0 A1 A2 h) (hm0 : h.ss.length ≤ maxLen) (hm1 : h.ks.length ≤ maxLen) (hm2 : h.l.length ≤ maxLen)
  (hz0 : ∀ z ∈ h.ss, z.size ≤ maxLen) (hz1 : ∀ z ∈ h.ks, z.size ≤ maxLen) (hT : UTabs w) (hM : MLen w) (hV : Verbs w) :
  Calls Tryz.prog 4 #[hval A0 A1 A2 h.ss.length h.ks.length h.l.length c0 c1 c2, .int .i64 a, .int .i64 key] w fun e w' => e = .returned (.bool true) ∧ Only [] w w' := by
 unfold hval
 have HW := Lib.hid (fun w' (h : Only [] w w') => works13_any w' (hT.only h) (hM.only h) (hV.only h))
 have HF0 := Lib.hid (fun w' (O : Only [] w w') => few_first A0 A1 A2 c0 c1 c2 h w' (hg.only O (by simp)).up hm0 hm1 hm2 hz0 hz1 (hT.only O))
 have HFE := Lib.hid (few_few h)
 have HSM := Lib.hid (few_small h)
 have HT := Lib.hid hT
 generalize fewH h = G at *
 have hbl := bad_len HSM.out a
 have hwl := wrt_len HSM.out key
 generalize h.ss.length = n0 at *
 generalize h.ks.length = n1 at *
 generalize h.l.length = n2 at *
 generalize G.ss.length = m0 at *
 generalize G.ks.length = m1 at *
 generalize G.l.length = m2 at *
 clear hg hm0 hm1 hm2 hz0 hz1 hT hM hV
 have HB := Lib.hid (Blk.made w 25 #[.slice A0 n0 c0, .slice A1 n1 c1, .slice A2 n2 c2])
 have HO1 := Lib.hid ((Only.refl [] w).alloc (.cells #[.slice A0 n0 c0, .slice A1 n1 c1, .slice A2 n2 c2] 25))
 have HLV := Lib.hid (fun (D0 D1 D2 : Option Addr) (f0 f1 f2 B : Nat) w' (hI : HIn w' B D0 D1 D2 m0 m1 m2 G) => ileaves_any D0 D1 D2 m0 m1 m2 f0 f1 f2 B G a key w' hI)
 have HRL := Lib.hid (fun (D0 D1 D2 : Option Addr) (f0 f1 f2 B : Nat) w' (hI : HIn w' B D0 D1 D2 m0 m1 m2 G) => rleaves_any D0 D1 D2 m0 m1 m2 f0 f1 f2 B G a key w' hI)
 have HBD := Lib.hid (fun (D0 D1 D2 : Option Addr) (f0 f1 f2 B : Nat) w' (hI : HIn w' B D0 D1 D2 m0 m1 m2 G) => ibad_any D0 D1 D2 m0 m1 m2 f0 f1 f2 B G a w' hI)
 have HRB := Lib.hid (fun (D0 D1 D2 : Option Addr) (f0 f1 f2 B : Nat) w' (hI : HIn w' B D0 D1 D2 m0 m1 m2 G) => rbad_any D0 D1 D2 m0 m1 m2 f0 f1 f2 B G a w' hI)
 have HWR := Lib.hid (fun (D0 D1 D2 : Option Addr) (f0 f1 f2 B : Nat) w' (hI : HIn w' B D0 D1 D2 m0 m1 m2 G) => iwriters_any D0 D1 D2 m0 m1 m2 f0 f1 f2 B G key w' hI)
 have HRW := Lib.hid (fun (D0 D1 D2 : Option Addr) (f0 f1 f2 B : Nat) w' (hI : HIn w' B D0 D1 D2 m0 m1 m2 G) => rwriters_any D0 D1 D2 m0 m1 m2 f0 f1 f2 B G key w' hI)
 unfold hval at HLV HRL HBD HRB HWR HRW
 generalize leavesO G a key = v at *
 generalize badH G a = lb at *
 generalize wrtH G key = lw at *
 go_enter Tryz.func4, Tryz.ntmps4
 go_wp2_with fail
 refine (HF0.out _ HO1.out).mono ?_
 rintro e w2 ⟨B0, B1, B2, d0, d1, d2, ⟨rfl, hI⟩, O2⟩
 have HI := Lib.hid hI
 have HB2 := Lib.hid (O2.blk HB.out (by simp))
 have HO2 := Lib.hid (HO1.out.trans O2)
 clear hI O2 HB HO1 HF0
 go_wp2_with (refine wpList_store_blk rfl 25 (.tmp 3) (.tmp 12) rfl w.heap.size 25 _ #[.slice B0 m0 d0, .slice B1 m1 d1, .slice B2 m2 d2] rfl rfl HB2.out rfl (by kernel_rfl) (by kernel_rfl) ?_; intro w3 hb3 o3; have HB3 := Lib.hid hb3; have HO3 := Lib.hid (HO2.out.step o3 (fun i hi hl => by simp at hi; omega)); have HI3 := Lib.hid (HI.out.past HB2.out o3 (HT.out.only HO3.out)); have lB := HB3.out.lt; have y0 := HB3.out.at_ 0; have y1 := HB3.out.at_ 1; have y2 := HB3.out.at_ 2; simp at y0 y1 y2; clear hb3 o3; generalize hg1 : w.heap.size = g at *; clear HI HB2 HO2)
 refine (few_in _ _ _ _ _ _ _ _ _ _ _ _ HI3.out HFE.out).mono ?_
 rintro e w4 ⟨D0, D1, D2, f0, f1, f2, ⟨rfl, hI4⟩, O4⟩
 have HI4 := Lib.hid hI4
 have HO4 := Lib.hid (HO3.out.trans O4)
 have HB4 := Lib.hid (O4.blk HB3.out (by simp))
 have HJ4 := Lib.hid (HI3.out.same O4)
 clear hI4 O4 HO3 HB3 HI3 lB y0 y1 y2
 go_wp2_with fail
 refine (HLV.out _ _ _ _ _ _ _ _ HI4.out).mono ?_
 rintro e w5 ⟨rfl, O5⟩
 unfold optT optV
 have HO5 := Lib.hid (HO4.out.trans O5)
 have HB5 := Lib.hid (O5.blk HB4.out (by simp))
 have HJ5 := Lib.hid (HJ4.out.same O5)
 clear O5 HO4 HB4 HJ4 HI4
 go_upto_region 3 with (fail)
 have HX := Lib.hid ((Only.refl [] w5).alloc (.cells #[.int .i64 (v.getD (0, 0)).1, .int .i64 (v.getD (0, 0)).2] 30))
 have HV9 := Lib.hid (Blk.made w5 30 #[.int .i64 (v.getD (0, 0)).1, .int .i64 (v.getD (0, 0)).2])
 have HO9 := Lib.hid (HO5.out.trans HX.out)
 have HB9 := Lib.hid (HX.out.blk HB5.out (by simp))
 have HI9 := Lib.hid (HJ5.out.same HX.out)
 clear HX HO5 HB5 HJ5
 generalize (w5.alloc (.cells #[.int .i64 (v.getD (0, 0)).1, .int .i64 (v.getD (0, 0)).2] 30)) = w9 at *
 generalize w5.heap.size = gv at *
 have lB := HB9.out.lt
 have y0 := HB9.out.at_ 0
 have y1 := HB9.out.at_ 1
 have y2 := HB9.out.at_ 2
 simp at y0 y1 y2
 go_wp2_with fail
 refine (HRL.out _ _ _ _ _ _ _ _ HI9.out).mono ?_
 rintro e w10 ⟨rfl, O10⟩
 unfold optT optV
 have HV10 := Lib.hid (O10.blk HV9.out (by simp))
 have HO10 := Lib.hid (HO9.out.trans O10)
 have HB10 := Lib.hid (O10.blk HB9.out (by simp))
 have HI10 := Lib.hid (HI9.out.same O10)
 clear O10 lB y0 y1 y2 HO9 HB9 HI9 HV9
 go_upto_region 4 with (fail)
 have HX := Lib.hid ((Only.refl [] w10).alloc (.cells #[.int .i64 (v.getD (0, 0)).1, .int .i64 (v.getD (0, 0)).2] 30))
 have HU11 := Lib.hid (Blk.made w10 30 #[.int .i64 (v.getD (0, 0)).1, .int .i64 (v.getD (0, 0)).2])
 have HV11 := Lib.hid (HX.out.blk HV10.out (by simp))
 have HO11 := Lib.hid (HO10.out.trans HX.out)
 have HB11 := Lib.hid (HX.out.blk HB10.out (by simp))
 have HI11 := Lib.hid (HI10.out.same HX.out)
 clear HX HO10 HB10 HI10 HV10
 generalize (w10.alloc (.cells #[.int .i64 (v.getD (0, 0)).1, .int .i64 (v.getD (0, 0)).2] 30)) = w11 at *
 generalize w10.heap.size = gu at *
 generalize (v.getD (0, 0)).1 = v1 at *
 generalize (v.getD (0, 0)).2 = v2 at *
 generalize v.isSome = vb at *
 refine wp_region_noPanic ?_
 refine wp_region_timed (F := [⟨[], [], fun w' => Only [] w11 w'⟩]) (by kernel_rfl) (timed_holds ((Only.refl [] w11).drew) (timed_nil)) ?_
 refine timed_read (i := 0) (v := ?_) 0 rfl (by kernel_rfl) (by kernel_rfl) (by kernel_rfl) (fun _ _ _ h => h) (by kernel_rfl) (by kernel_rfl) rfl (by kernel_rfl) ?_ ?_
 rotate_left
 ·(intro wq hSw; (try dsimp only at hSw); have hb_H := hSw.blk HB11.out (by simp); have lb_H := hb_H.lt; have y0 := hb_H.at_ 0; have y1 := hb_H.at_ 1; have y2 := hb_H.at_ 2; simp at y0 y1 y2; clear hb_H; have hb_V := hSw.blk HV11.out (by simp); have lb_V := hb_V.lt; have u0 := hb_V.at_ 0; have u1 := hb_V.at_ 1; simp at u0 u1; clear hb_V; have hb_U := hSw.blk HU11.out (by simp); have lb_U := hb_U.lt; have q0 := hb_U.at_ 0; have q1 := hb_U.at_ 1; simp at q0 q1; clear hb_U; clear hSw; go_simp; try with_reducible rfl)
 try simp only [Act.put, tdy]
 refine timed_read (i := 1) (v := ?_) 0 rfl (by kernel_rfl) (by kernel_rfl) (by kernel_rfl) (fun _ _ _ h => h) (by kernel_rfl) (by kernel_rfl) rfl (by kernel_rfl) ?_ ?_
 rotate_left
 ·(intro wq hSw; (try dsimp only at hSw); have hb_H := hSw.blk HB11.out (by simp); have lb_H := hb_H.lt; have y0 := hb_H.at_ 0; have y1 := hb_H.at_ 1; have y2 := hb_H.at_ 2; simp at y0 y1 y2; clear hb_H; have hb_V := hSw.blk HV11.out (by simp); have lb_V := hb_V.lt; have u0 := hb_V.at_ 0; have u1 := hb_V.at_ 1; simp at u0 u1; clear hb_V; have hb_U := hSw.blk HU11.out (by simp); have lb_U := hb_U.lt; have q0 := hb_U.at_ 0; have q1 := hb_U.at_ 1; simp at q0 q1; clear hb_U; clear hSw; go_simp; try with_reducible rfl)
 try simp only [Act.put, tdy]
 refine timed_pure (i := 2) (v := ?_) rfl (by kernel_rfl) (by kernel_rfl) (by kernel_rfl) (fun _ _ _ h => h) (by kernel_rfl) (by kernel_rfl) ?_ ?_
 rotate_left
 ·(intro w; go_simp; try with_reducible rfl)
 try simp only [Act.put, tdy]
 refine timed_pure (i := 3) (v := ?_) rfl (by kernel_rfl) (by kernel_rfl) (by kernel_rfl) (fun _ _ _ h => h) (by kernel_rfl) (by kernel_rfl) ?_ ?_
 rotate_left
 ·(intro w; go_simp; try with_reducible rfl)
 try simp only [Act.put, tdy]
 refine timed_pure (i := 4) (v := ?_) rfl (by kernel_rfl) (by kernel_rfl) (by kernel_rfl) (fun _ _ _ h => h) (by kernel_rfl) (by kernel_rfl) ?_ ?_
 rotate_left
 ·(intro w; go_simp; try with_reducible rfl)
 try simp only [Act.put, tdy]
 refine timed_pure (i := 5) (v := ?_) rfl (by kernel_rfl) (by kernel_rfl) (by kernel_rfl) (fun _ _ _ h => h) (by kernel_rfl) (by kernel_rfl) ?_ ?_
 rotate_left
 ·(intro w; go_simp; try with_reducible rfl)
 try simp only [Act.put, tdy]
 refine timed_pure (i := 6) (v := ?_) rfl (by kernel_rfl) (by kernel_rfl) (by kernel_rfl) (fun _ _ _ h => h) (by kernel_rfl) (by kernel_rfl) ?_ ?_
 rotate_left
 ·(intro w; go_simp; try with_reducible rfl)
 try simp only [Act.put, tdy]
 refine timed_pure (i := 7) (v := ?_) rfl (by kernel_rfl) (by kernel_rfl) (by kernel_rfl) (fun _ _ _ h => h) (by kernel_rfl) (by kernel_rfl) ?_ ?_
 rotate_left
 ·(intro w; go_simp; try with_reducible rfl)
 try simp only [Act.put, tdy]
 refine timed_pure (i := 8) (v := ?_) rfl (by kernel_rfl) (by kernel_rfl) (by kernel_rfl) (fun _ _ _ h => h) (by kernel_rfl) (by kernel_rfl) ?_ ?_
 rotate_left
 ·(intro w; go_simp; try with_reducible rfl)
 try simp only [Act.put, tdy]
 refine timed_read (i := 9) (v := ?_) 0 rfl (by kernel_rfl) (by kernel_rfl) (by kernel_rfl) (fun _ _ _ h => h) (by kernel_rfl) (by kernel_rfl) rfl (by kernel_rfl) ?_ ?_
 rotate_left
 ·(intro wq hSw; (try dsimp only at hSw); have hb_H := hSw.blk HB11.out (by simp); have lb_H := hb_H.lt; have y0 := hb_H.at_ 0; have y1 := hb_H.at_ 1; have y2 := hb_H.at_ 2; simp at y0 y1 y2; clear hb_H; have hb_V := hSw.blk HV11.out (by simp); have lb_V := hb_V.lt; have u0 := hb_V.at_ 0; have u1 := hb_V.at_ 1; simp at u0 u1; clear hb_V; have hb_U := hSw.blk HU11.out (by simp); have lb_U := hb_U.lt; have q0 := hb_U.at_ 0; have q1 := hb_U.at_ 1; simp at q0 q1; clear hb_U; clear hSw; go_simp; try with_reducible rfl)
 try simp only [Act.put, tdy]
 refine timed_pure (i := 11) (v := ?_) rfl (by kernel_rfl) (by kernel_rfl) (by kernel_rfl) (fun _ _ _ h => h) (by kernel_rfl) (by kernel_rfl) ?_ ?_
 rotate_left
 ·(intro w; go_simp; try with_reducible rfl)
 try simp only [Act.put, tdy]
 refine timed_read (i := 13) (v := ?_) 0 rfl (by kernel_rfl) (by kernel_rfl) (by kernel_rfl) (fun _ _ _ h => h) (by kernel_rfl) (by kernel_rfl) rfl (by kernel_rfl) ?_ ?_
 rotate_left
 ·(intro wq hSw; (try dsimp only at hSw); have hb_H := hSw.blk HB11.out (by simp); have lb_H := hb_H.lt; have y0 := hb_H.at_ 0; have y1 := hb_H.at_ 1; have y2 := hb_H.at_ 2; simp at y0 y1 y2; clear hb_H; have hb_V := hSw.blk HV11.out (by simp); have lb_V := hb_V.lt; have u0 := hb_V.at_ 0; have u1 := hb_V.at_ 1; simp at u0 u1; clear hb_V; have hb_U := hSw.blk HU11.out (by simp); have lb_U := hb_U.lt; have q0 := hb_U.at_ 0; have q1 := hb_U.at_ 1; simp at q0 q1; clear hb_U; clear hSw; go_simp; try with_reducible rfl)
 try simp only [Act.put, tdy]
 refine timed_pure (i := 14) (v := ?_) rfl (by kernel_rfl) (by kernel_rfl) (by kernel_rfl) (fun _ _ _ h => h) (by kernel_rfl) (by kernel_rfl) ?_ ?_
 rotate_left
 ·(intro w; go_simp; try with_reducible rfl)
 try simp only [Act.put, tdy]
 refine timed_step (i := 10) (by kernel_rfl) rfl (fun K hK => ?_)
 go_simp
 refine (few_in _ _ _ _ _ _ _ _ _ _ _ _ (HI11.out.same ((Only.refl [] w11).drew)) HFE.out).mono ?_
 rintro e w12 ⟨D120, D121, D122, f120, f121, f122, ⟨rfl, hI12⟩, O12⟩
 refine hK.out _ _ (timed_holds (((Only.refl [] w11).drew).trans O12) (timed_nil)) ?_
 clear hK K
 try simp only [Act.put, tdy]
 refine timed_step (i := 12) (by kernel_rfl) rfl (fun K hK => ?_)
 go_simp
 refine (HBD.out _ _ _ _ _ _ _ _ hI12).mono ?_
 rintro e w13 ⟨A13, c13, ⟨rfl, hR13⟩, O13⟩
 refine hK.out _ _ (timed_holds ((((Only.refl [] w11).drew).trans O12).trans O13) (timed_nil)) ?_
 clear hK K
 try simp only [Act.put, tdy]
 refine timed_step (i := 15) (by kernel_rfl) rfl (fun K hK => ?_)
 go_simp
 refine (HRB.out _ _ _ _ _ _ _ _ (HI11.out.same ((((Only.refl [] w11).drew).trans O12).trans O13))).mono ?_
 rintro e w14 ⟨A14, c14, ⟨rfl, hR14⟩, O14⟩
 refine hK.out _ _ (timed_holds (((((Only.refl [] w11).drew).trans O12).trans O13).trans O14) (timed_nil)) ?_
 clear hK K
 try simp only [Act.put, tdy]
 refine timed_step (i := 16) (by kernel_rfl) rfl (fun K hK => ?_)
 go_simp
 refine (sameInts_any _ _ _ _ _ _ lb lb _ _ _ (hR13.only O14 (by simp)) hR14 rfl rfl (by omega) (by omega)).mono ?_
 rintro e w15 ⟨rfl, q15, rfl⟩
 rw [decide_eq_true (rfl : lb = lb)]
 refine hK.out _ _ (timed_holds ((((((Only.refl [] w11).drew).trans O12).trans O13).trans O14).trans ((Only.refl [] w14).drewN q15)) (timed_nil)) ?_
 clear hK K
 try simp only [Act.put, tdy]
 refine timed_pure (i := 17) (v := ?_) rfl (by kernel_rfl) (by kernel_rfl) (by kernel_rfl) (fun _ _ _ h => h) (by kernel_rfl) (by kernel_rfl) ?_ ?_
 rotate_left
 ·(intro w; go_simp; try with_reducible rfl)
 try simp only [Act.put, tdy]
 refine timed_pure (i := 18) (v := ?_) rfl (by kernel_rfl) (by kernel_rfl) (by kernel_rfl) (fun _ _ _ h => h) (by kernel_rfl) (by kernel_rfl) ?_ ?_
 rotate_left
 ·(intro w; go_simp; try with_reducible rfl)
 try simp only [Act.put, tdy]
 refine timed_read (i := 19) (v := ?_) 0 rfl (by kernel_rfl) (by kernel_rfl) (by kernel_rfl) (fun _ _ _ h => h) (by kernel_rfl) (by kernel_rfl) rfl (by kernel_rfl) ?_ ?_
 rotate_left
 ·(intro wq hSw; (try dsimp only at hSw); have hb_H := hSw.blk HB11.out (by simp); have lb_H := hb_H.lt; have y0 := hb_H.at_ 0; have y1 := hb_H.at_ 1; have y2 := hb_H.at_ 2; simp at y0 y1 y2; clear hb_H; have hb_V := hSw.blk HV11.out (by simp); have lb_V := hb_V.lt; have u0 := hb_V.at_ 0; have u1 := hb_V.at_ 1; simp at u0 u1; clear hb_V; have hb_U := hSw.blk HU11.out (by simp); have lb_U := hb_U.lt; have q0 := hb_U.at_ 0; have q1 := hb_U.at_ 1; simp at q0 q1; clear hb_U; clear hSw; go_simp; try with_reducible rfl)
 try simp only [Act.put, tdy]
 refine timed_pure (i := 21) (v := ?_) rfl (by kernel_rfl) (by kernel_rfl) (by kernel_rfl) (fun _ _ _ h => h) (by kernel_rfl) (by kernel_rfl) ?_ ?_
 rotate_left
 ·(intro w; go_simp; try with_reducible rfl)
 try simp only [Act.put, tdy]
 refine timed_read (i := 23) (v := ?_) 0 rfl (by kernel_rfl) (by kernel_rfl) (by kernel_rfl) (fun _ _ _ h => h) (by kernel_rfl) (by kernel_rfl) rfl (by kernel_rfl) ?_ ?_
 rotate_left
 ·(intro wq hSw; (try dsimp only at hSw); have hb_H := hSw.blk HB11.out (by simp); have lb_H := hb_H.lt; have y0 := hb_H.at_ 0; have y1 := hb_H.at_ 1; have y2 := hb_H.at_ 2; simp at y0 y1 y2; clear hb_H; have hb_V := hSw.blk HV11.out (by simp); have lb_V := hb_V.lt; have u0 := hb_V.at_ 0; have u1 := hb_V.at_ 1; simp at u0 u1; clear hb_V; have hb_U := hSw.blk HU11.out (by simp); have lb_U := hb_U.lt; have q0 := hb_U.at_ 0; have q1 := hb_U.at_ 1; simp at q0 q1; clear hb_U; clear hSw; go_simp; try with_reducible rfl)
 try simp only [Act.put, tdy]
 refine timed_pure (i := 24) (v := ?_) rfl (by kernel_rfl) (by kernel_rfl) (by kernel_rfl) (fun _ _ _ h => h) (by kernel_rfl) (by kernel_rfl) ?_ ?_
 rotate_left
 ·(intro w; go_simp; try with_reducible rfl)
 try simp only [Act.put, tdy]
 refine timed_step (i := 20) (by kernel_rfl) rfl (fun K hK => ?_)
 go_simp
 refine (few_in _ _ _ _ _ _ _ _ _ _ _ _ (HI11.out.same ((((((Only.refl [] w11).drew).trans O12).trans O13).trans O14).trans ((Only.refl [] w14).drewN q15))) HFE.out).mono ?_
 rintro e w16 ⟨D160, D161, D162, f160, f161, f162, ⟨rfl, hI16⟩, O16⟩
 refine hK.out _ _ (timed_holds (((((((Only.refl [] w11).drew).trans O12).trans O13).trans O14).trans ((Only.refl [] w14).drewN q15)).trans O16) (timed_nil)) ?_
 clear hK K
 try simp only [Act.put, tdy]
 refine timed_step (i := 22) (by kernel_rfl) rfl (fun K hK => ?_)
 go_simp
 refine (HWR.out _ _ _ _ _ _ _ _ hI16).mono ?_
 rintro e w17 ⟨A17, c17, ⟨rfl, hR17⟩, O17⟩
 refine hK.out _ _ (timed_holds ((((((((Only.refl [] w11).drew).trans O12).trans O13).trans O14).trans ((Only.refl [] w14).drewN q15)).trans O16).trans O17) (timed_nil)) ?_
 clear hK K
 try simp only [Act.put, tdy]
 refine timed_step (i := 25) (by kernel_rfl) rfl (fun K hK => ?_)
 go_simp
 refine (HRW.out _ _ _ _ _ _ _ _ (HI11.out.same ((((((((Only.refl [] w11).drew).trans O12).trans O13).trans O14).trans ((Only.refl [] w14).drewN q15)).trans O16).trans O17))).mono ?_
 rintro e w18 ⟨A18, c18, ⟨rfl, hR18⟩, O18⟩
 refine hK.out _ _ (timed_holds (((((((((Only.refl [] w11).drew).trans O12).trans O13).trans O14).trans ((Only.refl [] w14).drewN q15)).trans O16).trans O17).trans O18) (timed_nil)) ?_
 clear hK K
 try simp only [Act.put, tdy]
 refine timed_step (i := 26) (by kernel_rfl) rfl (fun K hK => ?_)
 go_simp
 refine (sameInts_any _ _ _ _ _ _ lw lw _ _ _ (hR17.only O18 (by simp)) hR18 rfl rfl (by omega) (by omega)).mono ?_
 rintro e w19 ⟨rfl, q19, rfl⟩
 rw [decide_eq_true (rfl : lw = lw)]
 refine hK.out _ _ (timed_holds ((((((((((Only.refl [] w11).drew).trans O12).trans O13).trans O14).trans ((Only.refl [] w14).drewN q15)).trans O16).trans O17).trans O18).trans ((Only.refl [] w18).drewN q19)) (timed_nil)) ?_
 clear hK K
 try simp only [Act.put, tdy]
 refine timed_pure (i := 27) (v := ?_) rfl (by kernel_rfl) (by kernel_rfl) (by kernel_rfl) (fun _ _ _ h => h) (by kernel_rfl) (by kernel_rfl) ?_ ?_
 rotate_left
 ·(intro w; go_simp; try with_reducible rfl)
 try simp only [Act.put, tdy]
 refine timed_pure (i := 28) (v := ?_) rfl (by kernel_rfl) (by kernel_rfl) (by kernel_rfl) (fun _ _ _ h => h) (by kernel_rfl) (by kernel_rfl) ?_ ?_
 rotate_left
 ·(intro w; go_simp; try with_reducible rfl)
 try simp only [Act.put, tdy]
 refine timed_step (i := 29) (by kernel_rfl) rfl (fun K hK => ?_)
 go_simp
 refine (HW.out _ (HO11.out.trans ((((((((((Only.refl [] w11).drew).trans O12).trans O13).trans O14).trans ((Only.refl [] w14).drewN q15)).trans O16).trans O17).trans O18).trans ((Only.refl [] w18).drewN q19)))).mono ?_
 rintro e w20 ⟨rfl, O20⟩
 refine hK.out _ _ (timed_holds (((((((((((Only.refl [] w11).drew).trans O12).trans O13).trans O14).trans ((Only.refl [] w14).drewN q15)).trans O16).trans O17).trans O18).trans ((Only.refl [] w18).drewN q19)).trans O20) (timed_nil)) ?_
 clear hK K
 try simp only [Act.put, tdy]
 refine timed_pure (i := 30) (v := ?_) rfl (by kernel_rfl) (by kernel_rfl) (by kernel_rfl) (fun _ _ _ h => h) (by kernel_rfl) (by kernel_rfl) ?_ ?_
 rotate_left
 ·(intro w; go_simp; try with_reducible rfl)
 try simp only [Act.put, tdy]
 refine timed_pure (i := 31) (v := ?_) rfl (by kernel_rfl) (by kernel_rfl) (by kernel_rfl) (fun _ _ _ h => h) (by kernel_rfl) (by kernel_rfl) ?_ ?_
 rotate_left
 ·(intro w; go_simp; try with_reducible rfl)
 try simp only [Act.put, tdy]
 refine timed_done (by kernel_rfl) ?_ _
 refine NoPanic.normal ?_
 have HNW := Lib.hid (HO11.out.trans (((((((((((Only.refl [] w11).drew).trans O12).trans O13).trans O14).trans ((Only.refl [] w14).drewN q15)).trans O16).trans O17).trans O18).trans ((Only.refl [] w18).drewN q19)).trans O20))
 go_wp2
 go_ret
 exact ⟨rfl, HNW.out⟩
end Go.Proofs.YtjhomlnlmpdklaaGreatDoor
