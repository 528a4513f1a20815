/- Few of a history that has few parts already; the contracts of law 11, said of a history that lies there. A history as a value that a call has returned. A region that draws its order: several operations may come up next; what comes behind some of them is shown once, in whatever order they came up. ErasePlace: the walk. -/
import Derived.Test.YtjhomlnlmpdklaaGreatDoorErasePlaceCardK35
import Derived.Test.YtjhomlnlmpdklaaGreatDoorErasePlaceCardK34
import Derived.Test.YtjhomlnlmpdklaaGreatDoorErasePlaceCardK32
import Derived.Test.YtjhomlnlmpdklaaGreatDoorErasePlaceCardK20
import Derived.Test.YtjhomlnlmpdklaaGreatDoorErasePlaceCardK11
import Derived.Test.YtjhomlnlmpdklaaGreatDoorErasePlaceCardK4
import Derived.Test.YtjhomlnlmpdklaaGreatDoorErasePlaceCardK37
import Derived.Test.YtjhomlnlmpdklaaGreatDoorErasePlaceCardK47
set_option linter.unusedVariables false
set_option linter.unusedSimpArgs false
namespace Go.Proofs.YtjhomlnlmpdklaaGreatDoor
open Go.RowKit
open Go.Lib hiding intOf
/-- Few of what came in. -/
theorem few_first (A0 A1 A2 : Option Addr) (c0 c1 c2 : Nat) (h : Hst) (w : World) (hg : HAt w w.heap.size A0 A1 A2 h) (hm0 : h.ss.length ≤ maxLen) (hm1 : h.ks.length ≤ maxLen) (hm2 : h.l.length ≤ maxLen)
  (hz0 : ∀ z ∈ h.ss, z.size ≤ maxLen) (hz1 : ∀ z ∈ h.ks, z.size ≤ maxLen) (hT : UTabs w) :
  Calls Tryz.prog 9 #[.agg #[.slice A0 h.ss.length c0, .slice A1 h.ks.length c1, .slice A2 h.l.length c2]] w fun e w' => ∃ A0' A1' A2' c0' c1' c2', (e = .returned (.agg #[.slice A0' (fewH h).ss.length c0', .slice A1' (fewH h).ks.length c1', .slice A2' (fewH h).l.length c2']) ∧ HIn w' w'.heap.size A0' A1' A2' (fewH h).ss.length (fewH h).ks.length (fewH h).l.length (fewH h)) ∧ Only [] w w' := by
 unfold maxLen at *
 refine (few11_any A0 A1 A2 _ _ _ c0 c1 c2 w.heap.size h w hg rfl rfl rfl (by omega) (by omega) (by omega) (fun z hz => by have := hz0 z hz; omega) (fun z hz => by have := hz1 z hz; omega)).mono ?_
 rintro e w' ⟨A0', A1', A2', c0', c1', c2', ⟨rfl, hA⟩, O⟩
 exact ⟨A0', A1', A2', c0', c1', c2', ⟨rfl, ⟨hA, rfl, rfl, rfl, few_small h, hT.only O⟩⟩, O⟩
/-- Few of what it made. -/
theorem few_in (A0 A1 A2 : Option Addr) (n0 n1 n2 c0 c1 c2 B : Nat) (h : Hst) (w : World) (hg : HIn w B A0 A1 A2 n0 n1 n2 h) (hf : fewH h = h) :
  Calls Tryz.prog 9 #[.agg #[.slice A0 n0 c0, .slice A1 n1 c1, .slice A2 n2 c2]] w fun e w' => ∃ A0' A1' A2' c0' c1' c2', (e = .returned (.agg #[.slice A0' n0 c0', .slice A1' n1 c1', .slice A2' n2 c2']) ∧ HIn w' w'.heap.size A0' A1' A2' n0 n1 n2 h) ∧ Only [] w w' := by
 have a0 := hg.sm.ns
 have a1 := hg.sm.nk
 have a2 := hg.sm.nl
 have e0 := hg.n0
 have e1 := hg.n1
 have e2 := hg.n2
 refine (few11_any A0 A1 A2 n0 n1 n2 c0 c1 c2 B h w hg.at_ e0 e1 e2 (by omega) (by omega) (by omega) (fun z hz => by have := hg.sm.s z hz; omega) (fun z hz => by have := hg.sm.k z hz; omega)).mono ?_
 rintro e w' ⟨A0', A1', A2', c0', c1', c2', ⟨rfl, hA⟩, O⟩
 rw [hf] at hA
 refine ⟨A0', A1', A2', c0', c1', c2', ⟨?_, ⟨hA, e0, e1, e2, hg.sm, hg.u.only O⟩⟩, O⟩
 unfold hval
 rw [hf, e0, e1, e2]
/-- A row does not lie in a block that holds nothing like its first cell. -/
theorem row_past {w w' : World} {B : Nat} {A : Option Addr} {xs : List Value} {g : Nat} {t : TypeId} {cs : Array Value} (h : Row w B A xs) (hb : Blk w g t cs) (hne : ∀ u : Value, xs[0]? = some u → ∀ j : Nat, cs[j]? ≠ some u) (ho : Only [g] w w') : Row w' w'.heap.size A xs := by
 rcases h with rfl | ⟨b, off, rfl, h1, h2, hc⟩
 ·exact .inl rfl
 ·cases xs with
  | nil => exact .inl rfl
  | cons u xs =>
   have h0 := hc 0 u rfl
   have hbg : b ≠ g := fun e => by
    subst e
    rw [hb.at_] at h0
    exact hne u rfl _ h0
   have := ho.size
   exact .inr ⟨b, off, rfl, by omega, by omega, fun j v hv => (ho.cell (p := ⟨b, off + j, none⟩) (by show b < _; omega) (by simp [hbg])).trans (hc j v hv)⟩
theorem HIn.past {w w' : World} {B : Nat} {A0 A1 A2 : Option Addr} {n0 n1 n2 : Nat} {h : Hst} {g : Nat} {t : TypeId} {a0 a1 a2 : Option Addr} {k0 k1 k2 e0 e1 e2 : Nat} (hI : HIn w B A0 A1 A2 n0 n1 n2 h) (hb : Blk w g t #[.slice a0 k0 e0, .slice a1 k1 e1, .slice a2 k2 e2]) (ho : Only [g] w w') (hU : UTabs w') :
  HIn w' w'.heap.size A0 A1 A2 n0 n1 n2 h := by
 have key : ∀ (u : Value), (∀ a n c, u ≠ .slice a n c) → ∀ j : Nat, (#[Value.slice a0 k0 e0, .slice a1 k1 e1, .slice a2 k2 e2] : Array Value)[j]? ≠ some u := by
  intro u hu j hj
  match j with
  | 0 => simp at hj; exact hu _ _ _ hj.symm
  | 1 => simp at hj; exact hu _ _ _ hj.symm
  | 2 => simp at hj; exact hu _ _ _ hj.symm
  | j + 3 => simp at hj
 obtain ⟨⟨r0, r1, ⟨xs, hx, r2, hxs⟩⟩, q0, q1, q2, q3, -⟩ := hI
 have ks : ∀ l : List ByteArray, ∀ u : Value, (strs l)[0]? = some u → ∀ a n c, u ≠ .slice a n c := by
  intro l u hu a n c e
  subst e
  cases l <;> simp [strs] at hu
 refine ⟨⟨row_past r0 hb (fun u hu => key u (ks _ u hu)) ho, row_past r1 hb (fun u hu => key u (ks _ u hu)) ho, ⟨xs, hx, row_past r2 hb (fun u hu => key u ?_) ho, fun x hx => ⟨row_past (hxs x hx).row hb (fun u hu => key u ?_) ho, (hxs x hx).le, (hxs x hx).cap⟩⟩⟩, q0, q1, q2, q3, hU⟩
 ·intro a n c e
  subst e
  cases xs <;> simp [txC, TxA.c] at hu
 ·intro a n c e
  subst e
  cases hxo : x.t.ops with
  | nil => rw [hxo] at hu; simp [opC] at hu
  | cons y l => rw [hxo] at hu; simp [opC, Op4.c] at hu
end Go.Proofs.YtjhomlnlmpdklaaGreatDoor

set_option linter.unusedVariables false
set_option linter.unusedSimpArgs false
namespace Go.Proofs.YtjhomlnlmpdklaaGreatDoor
/-- The value y is a history that lies there. -/
def HAgg (w : World) (m0 m1 m2 : Nat) (G : Hst) (y : Value) : Prop := ∃ B D0 D1 D2 f0 f1 f2, y = .agg #[.slice D0 m0 f0, .slice D1 m1 f1, .slice D2 m2 f2] ∧ HIn w B D0 D1 D2 m0 m1 m2 G
theorem HAgg.same {w w' : World} {m0 m1 m2 : Nat} {G : Hst} {y : Value} (h : HAgg w m0 m1 m2 G y) (O : Only [] w w') : HAgg w' m0 m1 m2 G y := by
 obtain ⟨B, D0, D1, D2, f0, f1, f2, e, hI⟩ := h
 exact ⟨B, D0, D1, D2, f0, f1, f2, e, hI.same O⟩
end Go.Proofs.YtjhomlnlmpdklaaGreatDoor

set_option linter.unusedVariables false
set_option linter.unusedSimpArgs false
namespace Go.Proofs.YtjhomlnlmpdklaaGreatDoor
open Go.RowKit
section
variable {P : Program} {ops : Array Oper} {Q : Exit → Act → World → Prop} {md : Region.Mode} {S : Array Bool → World → Prop}
theorem timed_forks {l : List Nat} {fuel : Nat} {listed : Array Bool} {a : Act} {w : World} (hr : Region.ready md ops listed = l) (hl : l ≠ [])
  (h : ∀ k ∈ l, ∃ ok, ops[k]? = some ok ∧ ∀ K' : Act → World → Prop, Shut (∀ a w, S (listed.setIfInBounds k true) w → (S (listed.setIfInBounds k true) w → wpAnyT P md ops Q S fuel (listed.setIfInBounds k true) a w) → K' a w) →
   if Region.wanted ok (yielded ops a.tmps) = true then Oper.wp P ok a w K' Q else K' (a.put ok.dst undef) w) : S listed w → wpAnyT P md ops Q S (fuel + 1) listed a w := by
 intro _
 refine ⟨fun h0 => (by rw [hr] at h0; exact absurd h0 hl), fun k hk => ?_⟩
 rw [hr] at hk
 obtain ⟨ok, ho, hs⟩ := h k hk
 exact wpOp_step ho (fun K' hK => hs K' (fun a w hS hW => hK a w ⟨hS, hW hS⟩))
end
section
variable {G : Prop}
theorem cut_0_1 (F : World → Value → Prop) {L : World → Value → Prop} (h1 : (∀ (w : World) (y0 : Value), F w y0 → L w y0) → G) (h2 : ∀ (w : World) (y0 : Value), F w y0 → L w y0) : G := h1 h2
theorem cut_1_0 (F : World → Nat → Prop) {L : World → Nat → Prop} (h1 : (∀ (w : World) (g0 : Nat), F w g0  → L w g0 ) → G) (h2 : ∀ (w : World) (g0 : Nat), F w g0  → L w g0 ) : G := h1 h2
theorem cut_1_1 (F : World → Nat → Value → Prop) {L : World → Nat → Value → Prop} (h1 : (∀ (w : World) (g0 : Nat) (y0 : Value), F w g0 y0 → L w g0 y0) → G) (h2 : ∀ (w : World) (g0 : Nat) (y0 : Value), F w g0 y0 → L w g0 y0) : G := h1 h2
end
theorem fork_cons {p : Nat → Prop} {k : Nat} {l : List Nat} (h : p k) (r : ∀ j ∈ l, p j) : ∀ j ∈ k :: l, p j := List.forall_mem_cons.2 ⟨h, r⟩
theorem fork_nil {p : Nat → Prop} : ∀ j ∈ ([] : List Nat), p j := fun _ h => by cases h
end Go.Proofs.YtjhomlnlmpdklaaGreatDoor

set_option linter.unusedVariables false
set_option linter.unusedSimpArgs false
namespace Go.Proofs.YtjhomlnlmpdklaaGreatDoor
open Go.RowKit
open Go.Lib hiding intOf
attribute [local go_sem ↓] Go.wp_at_zero Go.wp_at_succ
set_option maxRecDepth 10000 in
set_option maxHeartbeats 8000000 in
theorem erasePlace_walk (A0 A1 A2 : Option Addr) (c0 c1 c2 : Nat) (h : Hst) (a b : Int) (w : World) (hg : HAt w w.heap.size A0 A1 A2 h) (hm0 : h.ss.length ≤ maxLen) (hm1 : h.ks.length ≤ maxLen) (hm2 : h.l.length ≤ maxLen)
  (hz0 : ∀ z ∈ h.ss, z.size ≤ maxLen) (hz1 : ∀ z ∈ h.ks, z.size ≤ maxLen) (hT : UTabs w) (hM : MLen w) (hV : Verbs w) :
  Calls Tryz.prog 7 #[hval A0 A1 A2 h.ss.length h.ks.length h.l.length c0 c1 c2, .agg #[.int .i64 a, .int .i64 b]] w fun e w' => e = .returned (.bool true) ∧ Only [] w w' := by
 unfold hval
 have HW := Lib.hid (fun w' (h : Only [] w w') => works14_any w' (hT.only h) (hM.only h) (hV.only h))
 have HF0 := Lib.hid (fun w' (O : Only [] w w') => few_first A0 A1 A2 c0 c1 c2 h w' (hg.only O (by simp)).up hm0 hm1 hm2 hz0 hz1 (hT.only O))
 have HFE := Lib.hid (few_few h)
 have HT := Lib.hid hT
 generalize fewH h = G at *
 generalize h.ss.length = n0 at *
 generalize h.ks.length = n1 at *
 generalize h.l.length = n2 at *
 generalize G.ss.length = m0 at *
 generalize G.ks.length = m1 at *
 generalize G.l.length = m2 at *
 clear hg hm0 hm1 hm2 hz0 hz1 hT hM hV
 have HB := Lib.hid ((Blk.made w 25 #[.slice A0 n0 c0, .slice A1 n1 c1, .slice A2 n2 c2]).alloc (.cells #[.int .i64 a, .int .i64 b] 27))
 have HP := Lib.hid (Blk.made (w.alloc (.cells #[.slice A0 n0 c0, .slice A1 n1 c1, .slice A2 n2 c2] 25)) 27 #[.int .i64 a, .int .i64 b])
 rw [World.size_alloc] at HP
 have HO1 := Lib.hid (((Only.refl [] w).alloc (.cells #[.slice A0 n0 c0, .slice A1 n1 c1, .slice A2 n2 c2] 25)).alloc (.cells #[.int .i64 a, .int .i64 b] 27))
 have HOWN := Lib.hid (fun (yF : Value) w' (HY : HAgg w' m0 m1 m2 G yF) => (show Calls Tryz.prog 29 #[yF, .agg #[.int .i64 a, .int .i64 b]] w' fun e w'' => e = .returned (optT (placeO G a b)) ∧ Only [] w' w'' from by
  obtain ⟨B, D0, D1, D2, f0, f1, f2, rfl, hI⟩ := HY
  exact eplace_any D0 D1 D2 m0 m1 m2 f0 f1 f2 B G a b w' hI))
 have HROW := Lib.hid (fun (D0 D1 D2 : Option Addr) (f0 f1 f2 B : Nat) w' (hI : HIn w' B D0 D1 D2 m0 m1 m2 G) => rplace_any D0 D1 D2 m0 m1 m2 f0 f1 f2 B G a b w' hI)
 unfold hval at HROW
 generalize placeO G a b = v at *
 go_enter Tryz.func7, Tryz.ntmps7
 go_wp2_with fail
 refine (HF0.out _ HO1.out).mono ?_
 rintro e w2 ⟨B0, B1, B2, d0, d1, d2, ⟨rfl, hI⟩, O2⟩
 have HI := Lib.hid hI
 have HB2 := Lib.hid (O2.blk HB.out (by simp))
 have HP2 := Lib.hid (O2.blk HP.out (by simp))
 have HO2 := Lib.hid (HO1.out.trans O2)
 clear hI O2 HB HP HO1 HF0
 go_wp2_with (refine wpList_store_blk rfl 25 (.tmp 2) (.tmp 10) rfl w.heap.size 25 _ #[.slice B0 m0 d0, .slice B1 m1 d1, .slice B2 m2 d2] rfl rfl HB2.out rfl (by kernel_rfl) (by kernel_rfl) ?_; intro w3 hb3 o3; have HB3 := Lib.hid hb3; have HP3 := Lib.hid (o3.blk HP2.out (by simp)); have HO3 := Lib.hid (HO2.out.step o3 (fun i hi hl => by simp at hi; omega)); have HI3 := Lib.hid (HI.out.past HB2.out o3 (HT.out.only HO3.out)); clear hb3 o3; generalize hg1 : w.heap.size = g at *; generalize hg2 : g + 1 = gp at *; clear HI HB2 HO2 HP2)
 refine wp_region_noPanic ?_
 refine wp_region_timed (F := [⟨[], [], fun w' => Only [] w3 w'⟩]) (by kernel_rfl) (timed_holds ((Only.refl [] w3).drew) (timed_nil)) ?_
 have OW : Only [] w3 w3.drew := (Only.refl [] w3).drew
 generalize hwz : w3.drew = wz at *
 clear hwz
 refine timed_read (i := 0) (v := ?_) 0 rfl (by kernel_rfl) (by kernel_rfl) (by kernel_rfl) (fun _ _ _ h => h) (by kernel_rfl) (by kernel_rfl) rfl (by kernel_rfl) ?_ ?_
 rotate_left
 ·(intro wq hSw; (try dsimp only at hSw); have hb_H := hSw.blk HB3.out (by simp); have lb_H := hb_H.lt; have y0 := hb_H.at_ 0; have y1 := hb_H.at_ 1; have y2 := hb_H.at_ 2; simp at y0 y1 y2; clear hb_H; have hb_P := hSw.blk HP3.out (by simp); have lb_P := hb_P.lt; have p0 := hb_P.at_ 0; have p1 := hb_P.at_ 1; simp at p0 p1; clear hb_P; clear hSw; go_simp; try with_reducible rfl)
 try simp only [Act.put, tdy]
 refine timed_read (i := 2) (v := ?_) 0 rfl (by kernel_rfl) (by kernel_rfl) (by kernel_rfl) (fun _ _ _ h => h) (by kernel_rfl) (by kernel_rfl) rfl (by kernel_rfl) ?_ ?_
 rotate_left
 ·(intro wq hSw; (try dsimp only at hSw); have hb_H := hSw.blk HB3.out (by simp); have lb_H := hb_H.lt; have y0 := hb_H.at_ 0; have y1 := hb_H.at_ 1; have y2 := hb_H.at_ 2; simp at y0 y1 y2; clear hb_H; have hb_P := hSw.blk HP3.out (by simp); have lb_P := hb_P.lt; have p0 := hb_P.at_ 0; have p1 := hb_P.at_ 1; simp at p0 p1; clear hb_P; clear hSw; go_simp; try with_reducible rfl)
 try simp only [Act.put, tdy]
 apply cut_1_1 (fun w gv yF => (Only [] w3 w) ∧ (True) ∧ (Blk w gv 27 #[.int .i64 0, .int .i64 0]) ∧ (w3.heap.size ≤ gv) ∧ (HAgg w m0 m1 m2 G yF))
 intro HST1_3_7
 apply cut_1_1 (fun w gv yF => (Only [] w3 w) ∧ (True) ∧ (Blk w gv 27 #[.int .i64 0, .int .i64 0]) ∧ (w3.heap.size ≤ gv) ∧ (HAgg w m0 m1 m2 G yF))
 intro HST1_7
 apply cut_0_1 (fun w yF => (Only [] w3 w) ∧ (True) ∧ (HAgg w m0 m1 m2 G yF))
 intro HST1_3
 apply cut_1_0 (fun w gv => (Only [] w3 w) ∧ (True) ∧ (Blk w gv 27 #[.int .i64 0, .int .i64 0]) ∧ (w3.heap.size ≤ gv))
 intro HST7
 apply cut_0_1 (fun w yF => (Only [] w3 w) ∧ (True) ∧ (HAgg w m0 m1 m2 G yF))
 intro HST1
 ·skip
  refine timed_forks (l := [1, 7]) (by kernel_rfl) (by simp) (fork_cons ⟨_, rfl, fun K hK => ?_⟩ (fork_cons ⟨_, rfl, fun K hK => ?_⟩ (fork_nil)))
  ·go_simp
   refine (few_in _ _ _ _ _ _ _ _ _ _ _ _ (HI3.out.same OW) HFE.out).mono ?_
   rintro e w4 ⟨D0, D1, D2, f0, f1, f2, ⟨rfl, hI4⟩, O3⟩
   obtain ⟨yF, hyF⟩ : ∃ y, y = Value.agg #[.slice D0 m0 f0, .slice D1 m1 f1, .slice D2 m2 f2] := ⟨_, rfl⟩
   rw [← hyF]
   have HY : HAgg w4 m0 m1 m2 G yF := ⟨_, _, _, _, _, _, _, hyF, hI4⟩
   clear hyF
   have OW1 := OW.trans O3
   have OS := O3
   refine hK.out _ _ (timed_holds (OW1) (timed_nil)) ?_
   clear hK K
   try simp only [Act.put, tdy]
   exact HST1 w4 yF ⟨OW1, trivial, HY⟩
  ·go_simp
   have OW1 := OW.alloc (.cells #[.int .i64 0, .int .i64 0] 27)
   have OS : Only [] wz (wz.alloc (.cells #[.int .i64 0, .int .i64 0] 27)) := (Only.refl [] wz).alloc (.cells #[.int .i64 0, .int .i64 0] 27)
   have BV := Blk.made wz 27 #[.int .i64 0, .int .i64 0]
   have HGV : w3.heap.size ≤ wz.heap.size := OW.size
   generalize wz.alloc (.cells #[.int .i64 0, .int .i64 0] 27) = w1 at *
   generalize wz.heap.size = gv at *
   refine hK.out _ _ (timed_holds (OW1) (timed_nil)) ?_
   clear hK K
   try simp only [Act.put, tdy]
   exact HST7 w1 gv ⟨OW1, trivial, BV, HGV⟩
 ·skip
  intro wz yF ⟨OW, HTT, HY⟩
  refine timed_forks (l := [3, 7]) (by kernel_rfl) (by simp) (fork_cons ⟨_, rfl, fun K hK => ?_⟩ (fork_cons ⟨_, rfl, fun K hK => ?_⟩ (fork_nil)))
  ·go_simp
   refine (HOWN.out yF _ HY).mono ?_
   rintro e w4 ⟨rfl, O3⟩
   unfold optT optV
   have OW1 := OW.trans O3
   have OS := O3
   have HY1 := HY.same OS
   refine hK.out _ _ (timed_holds (OW1) (timed_nil)) ?_
   clear hK K
   try simp only [Act.put, tdy]
   refine timed_pure (i := 4) (v := ?_) rfl (by kernel_rfl) (by kernel_rfl) (by kernel_rfl) (fun _ _ _ h => h) (by kernel_rfl) (by kernel_rfl) ?_ ?_
   rotate_left
   ·(intro w; go_simp; try with_reducible rfl)
   try simp only [Act.put, tdy]
   refine timed_pure (i := 5) (v := ?_) rfl (by kernel_rfl) (by kernel_rfl) (by kernel_rfl) (fun _ _ _ h => h) (by kernel_rfl) (by kernel_rfl) ?_ ?_
   rotate_left
   ·(intro w; go_simp; try with_reducible rfl)
   try simp only [Act.put, tdy]
   refine timed_pure (i := 6) (v := ?_) rfl (by kernel_rfl) (by kernel_rfl) (by kernel_rfl) (fun _ _ _ h => h) (by kernel_rfl) (by kernel_rfl) ?_ ?_
   rotate_left
   ·(intro w; go_simp; try with_reducible rfl)
   try simp only [Act.put, tdy]
   exact HST1_3 w4 yF ⟨OW1, trivial, HY1⟩
  ·go_simp
   have OW1 := OW.alloc (.cells #[.int .i64 0, .int .i64 0] 27)
   have OS : Only [] wz (wz.alloc (.cells #[.int .i64 0, .int .i64 0] 27)) := (Only.refl [] wz).alloc (.cells #[.int .i64 0, .int .i64 0] 27)
   have BV := Blk.made wz 27 #[.int .i64 0, .int .i64 0]
   have HGV : w3.heap.size ≤ wz.heap.size := OW.size
   have HY1 := HY.same OS
   generalize wz.alloc (.cells #[.int .i64 0, .int .i64 0] 27) = w1 at *
   generalize wz.heap.size = gv at *
   refine hK.out _ _ (timed_holds (OW1) (timed_nil)) ?_
   clear hK K
   try simp only [Act.put, tdy]
   exact HST1_7 w1 gv yF ⟨OW1, trivial, BV, HGV, HY1⟩
 ·skip
  intro wz gv ⟨OW, HTT, BV, HGV⟩
  refine timed_step (i := 1) (by kernel_rfl) rfl (fun K hK => ?_)
  go_simp
  refine (few_in _ _ _ _ _ _ _ _ _ _ _ _ (HI3.out.same OW) HFE.out).mono ?_
  rintro e w4 ⟨D0, D1, D2, f0, f1, f2, ⟨rfl, hI4⟩, O3⟩
  obtain ⟨yF, hyF⟩ : ∃ y, y = Value.agg #[.slice D0 m0 f0, .slice D1 m1 f1, .slice D2 m2 f2] := ⟨_, rfl⟩
  rw [← hyF]
  have HY : HAgg w4 m0 m1 m2 G yF := ⟨_, _, _, _, _, _, _, hyF, hI4⟩
  clear hyF
  have OW1 := OW.trans O3
  have OS := O3
  have BV1 := OS.blk BV (by simp)
  refine hK.out _ _ (timed_holds (OW1) (timed_nil)) ?_
  clear hK K
  try simp only [Act.put, tdy]
  exact HST1_7 w4 gv yF ⟨OW1, trivial, BV1, HGV, HY⟩
 ·skip
  intro wz yF ⟨OW, HTT, HY⟩
  refine timed_step (i := 7) (by kernel_rfl) rfl (fun K hK => ?_)
  go_simp
  have OW1 := OW.alloc (.cells #[.int .i64 0, .int .i64 0] 27)
  have OS : Only [] wz (wz.alloc (.cells #[.int .i64 0, .int .i64 0] 27)) := (Only.refl [] wz).alloc (.cells #[.int .i64 0, .int .i64 0] 27)
  have BV := Blk.made wz 27 #[.int .i64 0, .int .i64 0]
  have HGV : w3.heap.size ≤ wz.heap.size := OW.size
  have HY1 := HY.same OS
  generalize wz.alloc (.cells #[.int .i64 0, .int .i64 0] 27) = w1 at *
  generalize wz.heap.size = gv at *
  refine hK.out _ _ (timed_holds (OW1) (timed_nil)) ?_
  clear hK K
  try simp only [Act.put, tdy]
  exact HST1_3_7 w1 gv yF ⟨OW1, trivial, BV, HGV, HY1⟩
 ·skip
  intro wz gv yF ⟨OW, HTT, BV, HGV, HY⟩
  refine timed_step (i := 3) (by kernel_rfl) rfl (fun K hK => ?_)
  go_simp
  refine (HOWN.out yF _ HY).mono ?_
  rintro e w4 ⟨rfl, O3⟩
  unfold optT optV
  have OW1 := OW.trans O3
  have OS := O3
  have BV1 := OS.blk BV (by simp)
  have HY1 := HY.same OS
  refine hK.out _ _ (timed_holds (OW1) (timed_nil)) ?_
  clear hK K
  try simp only [Act.put, tdy]
  refine timed_pure (i := 4) (v := ?_) rfl (by kernel_rfl) (by kernel_rfl) (by kernel_rfl) (fun _ _ _ h => h) (by kernel_rfl) (by kernel_rfl) ?_ ?_
  rotate_left
  ·(intro w; go_simp; try with_reducible rfl)
  try simp only [Act.put, tdy]
  refine timed_pure (i := 5) (v := ?_) rfl (by kernel_rfl) (by kernel_rfl) (by kernel_rfl) (fun _ _ _ h => h) (by kernel_rfl) (by kernel_rfl) ?_ ?_
  rotate_left
  ·(intro w; go_simp; try with_reducible rfl)
  try simp only [Act.put, tdy]
  refine timed_pure (i := 6) (v := ?_) rfl (by kernel_rfl) (by kernel_rfl) (by kernel_rfl) (fun _ _ _ h => h) (by kernel_rfl) (by kernel_rfl) ?_ ?_
  rotate_left
  ·(intro w; go_simp; try with_reducible rfl)
  try simp only [Act.put, tdy]
  exact HST1_3_7 w4 gv yF ⟨OW1, trivial, BV1, HGV, HY1⟩
 -- behind all of the crowd
 intro wz gv yF ⟨OW, HTT, BV, HGV, HY⟩
 refine timed_step (i := 8) (by kernel_rfl) rfl (fun K hK => ?_)
 refine wp_store_blk 27 (.tmp 5) (.tmp 16) rfl gv 27 _ #[.int .i64 (v.getD (0, 0)).1, .int .i64 (v.getD (0, 0)).2] rfl rfl BV rfl (by kernel_rfl) (by kernel_rfl) ?_
 intro w9 b9 o9
 have HV9b := Lib.hid b9
 have OW9 := OW.step o9 (fun i hi hl => by simp at hi; omega)
 clear o9 b9
 refine hK.out _ _ (timed_holds (OW9) (timed_nil)) ?_
 clear hK K
 try simp only [Act.put, tdy]
 refine timed_pure (i := 9) (v := ?_) rfl (by kernel_rfl) (by kernel_rfl) (by kernel_rfl) (fun _ _ _ h => h) (by kernel_rfl) (by kernel_rfl) ?_ ?_
 rotate_left
 ·(intro w; go_simp; try with_reducible rfl)
 try simp only [Act.put, tdy]
 refine timed_done (by kernel_rfl) ?_ _
 refine NoPanic.normal ?_
 have HW9 := Lib.hid OW9
 have HO9 := Lib.hid (HO3.out.trans HW9.out)
 have HB9 := Lib.hid (HW9.out.blk HB3.out (by simp))
 have HP9 := Lib.hid (HW9.out.blk HP3.out (by simp))
 have HI9 := Lib.hid (HI3.out.same HW9.out)
 clear OW OW9 BV HW9 HB3 HP3 HI3 HO3 HY
 have lB := HB9.out.lt
 have y0 := HB9.out.at_ 0
 have y1 := HB9.out.at_ 1
 have y2 := HB9.out.at_ 2
 have lP := HP9.out.lt
 have p0 := HP9.out.at_ 0
 have p1 := HP9.out.at_ 1
 simp at y0 y1 y2 p0 p1
 go_wp2_with fail
 refine (HROW.out _ _ _ _ _ _ _ _ HI9.out).mono ?_
 rintro e w10 ⟨rfl, O10⟩
 unfold optT optV
 have HV10 := Lib.hid (O10.blk HV9b.out (by simp))
 have HO10 := Lib.hid (HO9.out.trans O10)
 have HB10 := Lib.hid (O10.blk HB9.out (by simp))
 have HP10 := Lib.hid (O10.blk HP9.out (by simp))
 have HI10 := Lib.hid (HI9.out.same O10)
 clear O10 lB y0 y1 y2 lP p0 p1 HO9 HB9 HP9 HI9 HV9b
 go_upto_region 4 with (fail)
 have HX := Lib.hid ((Only.refl [] w10).alloc (.cells #[.int .i64 (v.getD (0, 0)).1, .int .i64 (v.getD (0, 0)).2] 27))
 have HU11 := Lib.hid (Blk.made w10 27 #[.int .i64 (v.getD (0, 0)).1, .int .i64 (v.getD (0, 0)).2])
 have HV11 := Lib.hid (HX.out.blk HV10.out (by simp))
 have HO11 := Lib.hid (HO10.out.trans HX.out)
 have HB11 := Lib.hid (HX.out.blk HB10.out (by simp))
 have HP11 := Lib.hid (HX.out.blk HP10.out (by simp))
 have HI11 := Lib.hid (HI10.out.same HX.out)
 clear HX HO10 HB10 HP10 HI10 HV10
 generalize (w10.alloc (.cells #[.int .i64 (v.getD (0, 0)).1, .int .i64 (v.getD (0, 0)).2] 27)) = w11 at *
 generalize w10.heap.size = gu at *
 generalize (v.getD (0, 0)).1 = v1 at *
 generalize (v.getD (0, 0)).2 = v2 at *
 generalize v.isSome = vb at *
 clear HB11 HP11 HI11
 have lV := HV11.out.lt
 have u0 := HV11.out.at_ 0
 have u1 := HV11.out.at_ 1
 have lU := HU11.out.lt
 have q0 := HU11.out.at_ 0
 have q1 := HU11.out.at_ 1
 simp at u0 u1 q0 q1
 go_wp2_with fail
 refine (HW.out _ HO11.out).mono ?_
 rintro e w15 ⟨rfl, O15⟩
 have HNW := Lib.hid (HO11.out.trans O15)
 go_wp2
 go_ret
 exact ⟨rfl, HNW.out⟩
end Go.Proofs.YtjhomlnlmpdklaaGreatDoor
