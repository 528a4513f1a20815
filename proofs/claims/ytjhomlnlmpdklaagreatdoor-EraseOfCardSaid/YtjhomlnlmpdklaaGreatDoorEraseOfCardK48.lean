/- Few of a history that has few parts already; the contracts of law 11, said of a history that lies there. EraseOf: the walk. -/
import Derived.Test.YtjhomlnlmpdklaaGreatDoorEraseOfCardK34
import Derived.Test.YtjhomlnlmpdklaaGreatDoorEraseOfCardK33
import Derived.Test.YtjhomlnlmpdklaaGreatDoorEraseOfCardK32
import Derived.Test.YtjhomlnlmpdklaaGreatDoorEraseOfCardK20
import Derived.Test.YtjhomlnlmpdklaaGreatDoorEraseOfCardK36
import Derived.Test.YtjhomlnlmpdklaaGreatDoorEraseOfCardK46
import Derived.Test.YtjhomlnlmpdklaaGreatDoorEraseOfCardK47
import Derived.Test.YtjhomlnlmpdklaaGreatDoorEraseOfCardK11
set_option linter.unusedVariables false
set_option linter.unusedSimpArgs false
namespace Go.Proofs.YtjhomlnlmpdklaaGreatDoor
open Go.RowKit
open Go.Lib hiding intOf
/-- Few of what came in. -/
theorem few_first (A0 A1 A2 : Option Addr) (c0 c1 c2 : Nat) (h : Hst) (w : World) (hg : HAt w w.heap.size A0 A1 A2 h) (hm0 : h.ss.length ≤ maxLen) (hm1 : h.ks.length ≤ maxLen) (hm2 : h.l.length ≤ maxLen)
  (hz0 : ∀ z ∈ h.ss, z.size ≤ maxLen) (hz1 : ∀ z ∈ h.ks, z.size ≤ maxLen) (hT : UTabs w) :
  Calls Tryz.prog 9 #[.agg #[.slice A0 h.ss.length c0, .slice A1 h.ks.length c1, .slice A2 h.l.length c2]] w fun e w' => ∃ A0' A1' A2' c0' c1' c2', (e = .returned (.agg #[.slice A0' (fewH h).ss.length c0', .slice A1' (fewH h).ks.length c1', .slice A2' (fewH h).l.length c2']) ∧ HIn w' w'.heap.size A0' A1' A2' (fewH h).ss.length (fewH h).ks.length (fewH h).l.length (fewH h)) ∧ Only [] w w' := by
 unfold maxLen at *
 refine (few11_any A0 A1 A2 _ _ _ c0 c1 c2 w.heap.size h w hg rfl rfl rfl (by omega) (by omega) (by omega) (fun z hz => by have := hz0 z hz; omega) (fun z hz => by have := hz1 z hz; omega)).mono ?_
 rintro e w' ⟨A0', A1', A2', c0', c1', c2', ⟨rfl, hA⟩, O⟩
 exact ⟨A0', A1', A2', c0', c1', c2', ⟨rfl, ⟨hA, rfl, rfl, rfl, few_small h, hT.only O⟩⟩, O⟩
/-- Few of what it made. -/
theorem few_in (A0 A1 A2 : Option Addr) (n0 n1 n2 c0 c1 c2 B : Nat) (h : Hst) (w : World) (hg : HIn w B A0 A1 A2 n0 n1 n2 h) (hf : fewH h = h) :
  Calls Tryz.prog 9 #[.agg #[.slice A0 n0 c0, .slice A1 n1 c1, .slice A2 n2 c2]] w fun e w' => ∃ A0' A1' A2' c0' c1' c2', (e = .returned (.agg #[.slice A0' n0 c0', .slice A1' n1 c1', .slice A2' n2 c2']) ∧ HIn w' w'.heap.size A0' A1' A2' n0 n1 n2 h) ∧ Only [] w w' := by
 have a0 := hg.sm.ns
 have a1 := hg.sm.nk
 have a2 := hg.sm.nl
 have e0 := hg.n0
 have e1 := hg.n1
 have e2 := hg.n2
 refine (few11_any A0 A1 A2 n0 n1 n2 c0 c1 c2 B h w hg.at_ e0 e1 e2 (by omega) (by omega) (by omega) (fun z hz => by have := hg.sm.s z hz; omega) (fun z hz => by have := hg.sm.k z hz; omega)).mono ?_
 rintro e w' ⟨A0', A1', A2', c0', c1', c2', ⟨rfl, hA⟩, O⟩
 rw [hf] at hA
 refine ⟨A0', A1', A2', c0', c1', c2', ⟨?_, ⟨hA, e0, e1, e2, hg.sm, hg.u.only O⟩⟩, O⟩
 unfold hval
 rw [hf, e0, e1, e2]
/-- A row does not lie in a block that holds nothing like its first cell. -/
theorem row_past {w w' : World} {B : Nat} {A : Option Addr} {xs : List Value} {g : Nat} {t : TypeId} {cs : Array Value} (h : Row w B A xs) (hb : Blk w g t cs) (hne : ∀ u : Value, xs[0]? = some u → ∀ j : Nat, cs[j]? ≠ some u) (ho : Only [g] w w') : Row w' w'.heap.size A xs := by
 rcases h with rfl | ⟨b, off, rfl, h1, h2, hc⟩
 ·exact .inl rfl
 ·cases xs with
  | nil => exact .inl rfl
  | cons u xs =>
   have h0 := hc 0 u rfl
   have hbg : b ≠ g := fun e => by
    subst e
    rw [hb.at_] at h0
    exact hne u rfl _ h0
   have := ho.size
   exact .inr ⟨b, off, rfl, by omega, by omega, fun j v hv => (ho.cell (p := ⟨b, off + j, none⟩) (by show b < _; omega) (by simp [hbg])).trans (hc j v hv)⟩
theorem HIn.past {w w' : World} {B : Nat} {A0 A1 A2 : Option Addr} {n0 n1 n2 : Nat} {h : Hst} {g : Nat} {t : TypeId} {a0 a1 a2 : Option Addr} {k0 k1 k2 e0 e1 e2 : Nat} (hI : HIn w B A0 A1 A2 n0 n1 n2 h) (hb : Blk w g t #[.slice a0 k0 e0, .slice a1 k1 e1, .slice a2 k2 e2]) (ho : Only [g] w w') (hU : UTabs w') :
  HIn w' w'.heap.size A0 A1 A2 n0 n1 n2 h := by
 have key : ∀ (u : Value), (∀ a n c, u ≠ .slice a n c) → ∀ j : Nat, (#[Value.slice a0 k0 e0, .slice a1 k1 e1, .slice a2 k2 e2] : Array Value)[j]? ≠ some u := by
  intro u hu j hj
  match j with
  | 0 => simp at hj; exact hu _ _ _ hj.symm
  | 1 => simp at hj; exact hu _ _ _ hj.symm
  | 2 => simp at hj; exact hu _ _ _ hj.symm
  | j + 3 => simp at hj
 obtain ⟨⟨r0, r1, ⟨xs, hx, r2, hxs⟩⟩, q0, q1, q2, q3, -⟩ := hI
 have ks : ∀ l : List ByteArray, ∀ u : Value, (strs l)[0]? = some u → ∀ a n c, u ≠ .slice a n c := by
  intro l u hu a n c e
  subst e
  cases l <;> simp [strs] at hu
 refine ⟨⟨row_past r0 hb (fun u hu => key u (ks _ u hu)) ho, row_past r1 hb (fun u hu => key u (ks _ u hu)) ho, ⟨xs, hx, row_past r2 hb (fun u hu => key u ?_) ho, fun x hx => ⟨row_past (hxs x hx).row hb (fun u hu => key u ?_) ho, (hxs x hx).le, (hxs x hx).cap⟩⟩⟩, q0, q1, q2, q3, hU⟩
 ·intro a n c e
  subst e
  cases xs <;> simp [txC, TxA.c] at hu
 ·intro a n c e
  subst e
  cases hxo : x.t.ops with
  | nil => rw [hxo] at hu; simp [opC] at hu
  | cons y l => rw [hxo] at hu; simp [opC, Op4.c] at hu
end Go.Proofs.YtjhomlnlmpdklaaGreatDoor

set_option linter.unusedVariables false
set_option linter.unusedSimpArgs false
namespace Go.Proofs.YtjhomlnlmpdklaaGreatDoor
open Go.RowKit
open Go.Lib hiding intOf
attribute [local go_sem ↓] Go.wp_at_zero Go.wp_at_succ
theorem eqH_same (g : Hst) : eqH g g = true := by unfold eqH; simp
set_option maxRecDepth 10000 in
set_option maxHeartbeats 8000000 in
theorem eraseOf_walk (A0 A1 A2 : Option Addr) (c0 c1 c2 : Nat) (h : Hst) (y : Int) (w : World) (hg : HAt w w.heap.size A0 A1 A2 h) (hm0 : h.ss.length ≤ maxLen) (hm1 : h.ks.length ≤ maxLen) (hm2 : h.l.length ≤ maxLen)
  (hz0 : ∀ z ∈ h.ss, z.size ≤ maxLen) (hz1 : ∀ z ∈ h.ks, z.size ≤ maxLen) (hT : UTabs w) (hM : MLen w) (hV : Verbs w) :
  Calls Tryz.prog 6 #[hval A0 A1 A2 h.ss.length h.ks.length h.l.length c0 c1 c2, .int .i64 y] w fun e w' => e = .returned (.bool true) ∧ Only [] w w' := by
 unfold hval
 have HW := Lib.hid (fun w' (h : Only [] w w') => works14_any w' (hT.only h) (hM.only h) (hV.only h))
 have HF0 := Lib.hid (fun w' (O : Only [] w w') => few_first A0 A1 A2 c0 c1 c2 h w' (hg.only O (by simp)).up hm0 hm1 hm2 hz0 hz1 (hT.only O))
 have HFE := Lib.hid (few_few h)
 have HT := Lib.hid hT
 have HSM := Lib.hid (few_small h)
 generalize fewH h = G at *
 have HS2 := Lib.hid (by_small HSM.out 2)
 have HSY := Lib.hid (by_small HSM.out y)
 generalize h.ss.length = n0 at *
 generalize h.ks.length = n1 at *
 generalize h.l.length = n2 at *
 generalize G.ss.length = m0 at *
 generalize G.ks.length = m1 at *
 generalize G.l.length = m2 at *
 clear hg hm0 hm1 hm2 hz0 hz1 hT hM hV
 have HOF := Lib.hid (fun (D0 D1 D2 : Option Addr) (f0 f1 f2 B : Nat) w' (hI : HIn w' B D0 D1 D2 m0 m1 m2 G) => eof_any D0 D1 D2 m0 m1 m2 f0 f1 f2 B G w' hI)
 have HBY := Lib.hid (fun (D0 D1 D2 : Option Addr) (f0 f1 f2 B : Nat) w' (hI : HIn w' B D0 D1 D2 m0 m1 m2 G) => eby_any D0 D1 D2 m0 m1 m2 f0 f1 f2 B G y w' hI)
 have HR2 := Lib.hid (fun (D0 D1 D2 : Option Addr) (f0 f1 f2 B : Nat) w' (hI : HIn w' B D0 D1 D2 m0 m1 m2 G) => rby_any D0 D1 D2 m0 m1 m2 f0 f1 f2 B G 2 w' hI)
 have HRY := Lib.hid (fun (D0 D1 D2 : Option Addr) (f0 f1 f2 B : Nat) w' (hI : HIn w' B D0 D1 D2 m0 m1 m2 G) => rby_any D0 D1 D2 m0 m1 m2 f0 f1 f2 B G y w' hI)
 unfold hval at HOF HBY HR2 HRY
 rw [era_by] at HOF
 generalize byR G 2 = R2 at *
 generalize byR G y = RY at *
 obtain ⟨G2, e2⟩ := R2
 obtain ⟨GY, eY⟩ := RY
 dsimp only at HOF HBY HR2 HRY HS2 HSY
 have HSA := Lib.hid (fun (B0 B1 B2 D0 D1 D2 : Option Addr) (d0 d1 d2 f0 f1 f2 B B' : Nat) w' (ha : HIn w' B B0 B1 B2 G2.ss.length G2.ks.length G2.l.length G2) (hb : HIn w' B' D0 D1 D2 G2.ss.length G2.ks.length G2.l.length G2) => rsame10_any B0 B1 B2 _ _ _ d0 d1 d2 B G2 D0 D1 D2 _ _ _ f0 f1 f2 B' G2 w' ha hb)
 have HSB := Lib.hid (fun (B0 B1 B2 D0 D1 D2 : Option Addr) (d0 d1 d2 f0 f1 f2 B B' : Nat) w' (ha : HIn w' B B0 B1 B2 GY.ss.length GY.ks.length GY.l.length GY) (hb : HIn w' B' D0 D1 D2 GY.ss.length GY.ks.length GY.l.length GY) => rsame10_any B0 B1 B2 _ _ _ d0 d1 d2 B GY D0 D1 D2 _ _ _ f0 f1 f2 B' GY w' ha hb)
 unfold hval at HSA HSB
 rw [eqH_same] at HSA HSB
 have HI2 := Lib.hid (fun (B0 B1 B2 : Option Addr) (w' w'' : World) (hA : HAt w' w'.heap.size B0 B1 B2 G2) (O : Only [] w' w'') (Ow : Only [] w w'') => (⟨hA.only O (by simp), rfl, rfl, rfl, HS2.out, HT.out.only Ow⟩ : HIn w'' w'.heap.size B0 B1 B2 G2.ss.length G2.ks.length G2.l.length G2))
 have HIY := Lib.hid (fun (B0 B1 B2 : Option Addr) (w' w'' : World) (hA : HAt w' w'.heap.size B0 B1 B2 GY) (O : Only [] w' w'') (Ow : Only [] w w'') => (⟨hA.only O (by simp), rfl, rfl, rfl, HSY.out, HT.out.only Ow⟩ : HIn w'' w'.heap.size B0 B1 B2 GY.ss.length GY.ks.length GY.l.length GY))
 generalize G2.ss.length = p0 at *
 generalize G2.ks.length = p1 at *
 generalize G2.l.length = p2 at *
 generalize GY.ss.length = q0 at *
 generalize GY.ks.length = q1 at *
 generalize GY.l.length = q2 at *
 have HB1 := Lib.hid (Blk.made w 25 #[.slice A0 n0 c0, .slice A1 n1 c1, .slice A2 n2 c2])
 have HO1 := Lib.hid ((Only.refl [] w).alloc (.cells #[.slice A0 n0 c0, .slice A1 n1 c1, .slice A2 n2 c2] 25))
 clear HS2 HSY HSM
 go_enter Tryz.func6, Tryz.ntmps6
 go_wp2_with fail
 refine (HF0.out _ HO1.out).mono ?_
 rintro e w2 ⟨B0, B1, B2, d0, d1, d2, ⟨rfl, hI⟩, O2⟩
 have HI := Lib.hid hI
 have HB2 := Lib.hid (O2.blk HB1.out (by simp))
 have HO2 := Lib.hid (HO1.out.trans O2)
 clear hI O2 HB1 HO1 HF0
 go_wp2_with (refine wpList_store_blk rfl 25 (.tmp 2) (.tmp 14) rfl w.heap.size 25 _ #[.slice B0 m0 d0, .slice B1 m1 d1, .slice B2 m2 d2] rfl rfl HB2.out rfl (by kernel_rfl) (by kernel_rfl) ?_; intro w3 hb3 o3; have HB3 := Lib.hid hb3; have HO3 := Lib.hid (HO2.out.step o3 (fun i hi hl => by simp at hi; omega)); have HI3 := Lib.hid (HI.out.past HB2.out o3 (HT.out.only HO3.out)); have lB := HB3.out.lt; have y0 := HB3.out.at_ 0; have y1 := HB3.out.at_ 1; have y2 := HB3.out.at_ 2; simp at y0 y1 y2; clear hb3 o3; clear HI HB2 HO2)
 generalize hgg : w.heap.size = g at *
 refine (few_in _ _ _ _ _ _ _ _ _ _ _ _ HI3.out HFE.out).mono ?_
 rintro e w4 ⟨D0, D1, D2, f0, f1, f2, ⟨rfl, hI4⟩, O4⟩
 have HO4 := Lib.hid (HO3.out.trans O4)
 have HB4 := Lib.hid (O4.blk HB3.out (by simp))
 have HI4 := Lib.hid (HI3.out.same O4)
 have HJ4 := Lib.hid hI4
 clear O4 hI4 HO3 HB3 HI3 lB y0 y1 y2
 go_wp2_with fail
 refine (HOF.out _ _ _ _ _ _ _ _ HJ4.out).mono ?_
 rintro e w5 ⟨E0, E1, E2, a0, a1, a2, ⟨rfl, hN5⟩, O5⟩
 have HO5 := Lib.hid (HO4.out.trans O5)
 have HB5 := Lib.hid (O5.blk HB4.out (by simp))
 have HI5 := Lib.hid (HI4.out.same O5)
 have HN5 := Lib.hid hN5.at_
 clear O5 hN5 HO4 HB4 HI4 HJ4
 go_upto_region 3 with (fail)
 have HX := Lib.hid ((Only.refl [] w5).alloc (.cells #[.slice E0 p0 a0, .slice E1 p1 a1, .slice E2 p2 a2] 25))
 have HO6 := Lib.hid (HO5.out.trans HX.out)
 have HB6 := Lib.hid (HX.out.blk HB5.out (by simp))
 have HI6 := Lib.hid (HI5.out.same HX.out)
 have HA6 := Lib.hid (Blk.made w5 25 #[.slice E0 p0 a0, .slice E1 p1 a1, .slice E2 p2 a2])
 have HC6 := Lib.hid (HI2.out _ _ _ _ _ HN5.out HX.out HO6.out)
 clear HX HO5 HB5 HI5 HN5
 generalize (w5.alloc (.cells #[.slice E0 p0 a0, .slice E1 p1 a1, .slice E2 p2 a2] 25)) = w6 at *
 generalize w5.heap.size = ga at *
 have lB := HB6.out.lt
 have y0 := HB6.out.at_ 0
 have y1 := HB6.out.at_ 1
 have y2 := HB6.out.at_ 2
 simp at y0 y1 y2
 go_wp2_with fail
 refine (HR2.out _ _ _ _ _ _ _ _ HI6.out).mono ?_
 rintro e w7 ⟨F0, F1, F2, b0, b1, b2, ⟨rfl, hN7⟩, O7⟩
 have HO7 := Lib.hid (HO6.out.trans O7)
 have HB7 := Lib.hid (O7.blk HB6.out (by simp))
 have HI7 := Lib.hid (HI6.out.same O7)
 have HA7 := Lib.hid (O7.blk HA6.out (by simp))
 have HC7 := Lib.hid (HC6.out.same O7)
 have HN7 := Lib.hid hN7
 clear O7 hN7 HO6 HB6 HI6 HA6 HC6 lB y0 y1 y2
 go_upto_region 4 with (fail)
 have HX := Lib.hid ((Only.refl [] w7).alloc (.cells #[.slice F0 p0 b0, .slice F1 p1 b1, .slice F2 p2 b2] 25))
 have HO8 := Lib.hid (HO7.out.trans HX.out)
 have HB8 := Lib.hid (HX.out.blk HB7.out (by simp))
 have HI8 := Lib.hid (HI7.out.same HX.out)
 have HA8 := Lib.hid (HX.out.blk HA7.out (by simp))
 have HC8 := Lib.hid (HC7.out.same HX.out)
 have HE8 := Lib.hid (Blk.made w7 25 #[.slice F0 p0 b0, .slice F1 p1 b1, .slice F2 p2 b2])
 have HD8 := Lib.hid (HI2.out _ _ _ _ _ HN7.out HX.out HO8.out)
 clear HX HO7 HB7 HI7 HN7 HA7 HC7
 generalize (w7.alloc (.cells #[.slice F0 p0 b0, .slice F1 p1 b1, .slice F2 p2 b2] 25)) = w8 at *
 generalize w7.heap.size = gb at *
 have lB := HB8.out.lt
 have y0 := HB8.out.at_ 0
 have y1 := HB8.out.at_ 1
 have y2 := HB8.out.at_ 2
 simp at y0 y1 y2
 go_wp2_with fail
 refine (few_in _ _ _ _ _ _ _ _ _ _ _ _ HI8.out HFE.out).mono ?_
 rintro e w9 ⟨D0', D1', D2', f0', f1', f2', ⟨rfl, hI9⟩, O9⟩
 have HO9 := Lib.hid (HO8.out.trans O9)
 have HB9 := Lib.hid (O9.blk HB8.out (by simp))
 have HI9 := Lib.hid (HI8.out.same O9)
 have HA9 := Lib.hid (O9.blk HA8.out (by simp))
 have HC9 := Lib.hid (HC8.out.same O9)
 have HE9 := Lib.hid (O9.blk HE8.out (by simp))
 have HD9 := Lib.hid (HD8.out.same O9)
 have HJ9 := Lib.hid hI9
 clear O9 hI9 HO8 HB8 HI8 HA8 HC8 HE8 HD8 lB y0 y1 y2
 go_wp2_with fail
 refine (HBY.out _ _ _ _ _ _ _ _ HJ9.out).mono ?_
 rintro e wa ⟨E0', E1', E2', a0', a1', a2', ⟨rfl, hNa⟩, Oa⟩
 have HOa := Lib.hid (HO9.out.trans Oa)
 have HBa := Lib.hid (Oa.blk HB9.out (by simp))
 have HIa := Lib.hid (HI9.out.same Oa)
 have HAa := Lib.hid (Oa.blk HA9.out (by simp))
 have HCa := Lib.hid (HC9.out.same Oa)
 have HEa := Lib.hid (Oa.blk HE9.out (by simp))
 have HDa := Lib.hid (HD9.out.same Oa)
 have HNa := Lib.hid hNa.at_
 clear Oa hNa HO9 HB9 HI9 HA9 HC9 HE9 HD9 HJ9
 go_upto_region 5 with (fail)
 have HX := Lib.hid ((Only.refl [] wa).alloc (.cells #[.slice E0' q0 a0', .slice E1' q1 a1', .slice E2' q2 a2'] 25))
 have HOb := Lib.hid (HOa.out.trans HX.out)
 have HBb := Lib.hid (HX.out.blk HBa.out (by simp))
 have HIb := Lib.hid (HIa.out.same HX.out)
 have HAb := Lib.hid (HX.out.blk HAa.out (by simp))
 have HCb := Lib.hid (HCa.out.same HX.out)
 have HEb := Lib.hid (HX.out.blk HEa.out (by simp))
 have HDb := Lib.hid (HDa.out.same HX.out)
 have HFb := Lib.hid (Blk.made wa 25 #[.slice E0' q0 a0', .slice E1' q1 a1', .slice E2' q2 a2'])
 have HGb := Lib.hid (HIY.out _ _ _ _ _ HNa.out HX.out HOb.out)
 clear HX HOa HBa HIa HNa HAa HCa HEa HDa
 generalize (wa.alloc (.cells #[.slice E0' q0 a0', .slice E1' q1 a1', .slice E2' q2 a2'] 25)) = wb at *
 generalize wa.heap.size = gc at *
 have lB := HBb.out.lt
 have y0 := HBb.out.at_ 0
 have y1 := HBb.out.at_ 1
 have y2 := HBb.out.at_ 2
 simp at y0 y1 y2
 go_wp2_with fail
 refine (HRY.out _ _ _ _ _ _ _ _ HIb.out).mono ?_
 rintro e wd ⟨F0', F1', F2', b0', b1', b2', ⟨rfl, hNd⟩, Od⟩
 have HOd := Lib.hid (HOb.out.trans Od)
 have HAd := Lib.hid (Od.blk HAb.out (by simp))
 have HCd := Lib.hid (HCb.out.same Od)
 have HEd := Lib.hid (Od.blk HEb.out (by simp))
 have HDd := Lib.hid (HDb.out.same Od)
 have HFd := Lib.hid (Od.blk HFb.out (by simp))
 have HGd := Lib.hid (HGb.out.same Od)
 have HNd := Lib.hid hNd
 clear Od hNd HOb HBb HIb HAb HCb HEb HDb HFb HGb lB y0 y1 y2
 go_upto_region 6 with (fail)
 have HX := Lib.hid ((Only.refl [] wd).alloc (.cells #[.slice F0' q0 b0', .slice F1' q1 b1', .slice F2' q2 b2'] 25))
 have HOe := Lib.hid (HOd.out.trans HX.out)
 have HAe := Lib.hid (HX.out.blk HAd.out (by simp))
 have HCe := Lib.hid (HCd.out.same HX.out)
 have HEe := Lib.hid (HX.out.blk HEd.out (by simp))
 have HDe := Lib.hid (HDd.out.same HX.out)
 have HFe := Lib.hid (HX.out.blk HFd.out (by simp))
 have HGe := Lib.hid (HGd.out.same HX.out)
 have HHe := Lib.hid (Blk.made wd 25 #[.slice F0' q0 b0', .slice F1' q1 b1', .slice F2' q2 b2'])
 have HKe := Lib.hid (HIY.out _ _ _ _ _ HNd.out HX.out HOe.out)
 clear HX HOd HNd HAd HCd HEd HDd HFd HGd
 generalize (wd.alloc (.cells #[.slice F0' q0 b0', .slice F1' q1 b1', .slice F2' q2 b2'] 25)) = we at *
 generalize wd.heap.size = gd at *
 have lA := HAe.out.lt
 have u0 := HAe.out.at_ 0
 have u1 := HAe.out.at_ 1
 have u2 := HAe.out.at_ 2
 have lE := HEe.out.lt
 have v0 := HEe.out.at_ 0
 have v1 := HEe.out.at_ 1
 have v2 := HEe.out.at_ 2
 simp at u0 u1 u2 v0 v1 v2
 go_wp2_with fail
 refine (HSA.out _ _ _ _ _ _ _ _ _ _ _ _ _ _ _ HCe.out HDe.out).mono ?_
 rintro e wf ⟨rfl, Of⟩
 have HOf := Lib.hid (HOe.out.trans Of)
 have HFf := Lib.hid (Of.blk HFe.out (by simp))
 have HGf := Lib.hid (HGe.out.same Of)
 have HHf := Lib.hid (Of.blk HHe.out (by simp))
 have HKf := Lib.hid (HKe.out.same Of)
 clear Of lA u0 u1 u2 lE v0 v1 v2 HOe HFe HGe HHe HKe HAe HCe HEe HDe
 have lA := HFf.out.lt
 have u0 := HFf.out.at_ 0
 have u1 := HFf.out.at_ 1
 have u2 := HFf.out.at_ 2
 have lE := HHf.out.lt
 have v0 := HHf.out.at_ 0
 have v1 := HHf.out.at_ 1
 have v2 := HHf.out.at_ 2
 simp at u0 u1 u2 v0 v1 v2
 go_wp2_with fail
 refine (HSB.out _ _ _ _ _ _ _ _ _ _ _ _ _ _ _ HGf.out HKf.out).mono ?_
 rintro e wg ⟨rfl, Og⟩
 have HOg := Lib.hid (HOf.out.trans Og)
 clear Og lA u0 u1 u2 lE v0 v1 v2
 go_wp2_with fail
 refine (HW.out _ HOg.out).mono ?_
 rintro e wh ⟨rfl, Oh⟩
 have HOh := Lib.hid (HOg.out.trans Oh)
 clear Oh
 go_wp2
 go_ret
 exact ⟨rfl, HOh.out⟩
end Go.Proofs.YtjhomlnlmpdklaaGreatDoor
