/- Few of a history that has few parts already; the contracts of law 11, said of a history that lies there. SameInts: whether two lists of numbers are the same. The chapter's example of layer 15; works. Contracts of the reference of layer 5. Rows of marks. The document's ops of a transaction: may they be, and which keys they have. -/
import Derived.Test.YtjfbeeogiejopaaGreatDoorLaw15AllK38
import Derived.Test.YtjfbeeogiejopaaGreatDoorLaw15AllK37
import Derived.Test.YtjfbeeogiejopaaGreatDoorLaw15AllK26
import Derived.Test.YtjfbeeogiejopaaGreatDoorLaw15AllK16
import Derived.Test.YtjfbeeogiejopaaGreatDoorLaw15AllK3
import Derived.Test.YtjfbeeogiejopaaGreatDoorLaw15AllK23
import Derived.Test.YtjfbeeogiejopaaGreatDoorLaw15AllK31
import Derived.Test.YtjfbeeogiejopaaGreatDoorLaw15AllK5
import Derived.Test.YtjfbeeogiejopaaGreatDoorLaw15AllK25
set_option linter.unusedVariables false
set_option linter.unusedSimpArgs false
namespace Go.Proofs.YtjfbeeogiejopaaGreatDoor
open Go.RowKit
open Go.Lib hiding intOf
/-- Few of what came in. -/
theorem few_first (A0 A1 A2 : Option Addr) (c0 c1 c2 : Nat) (h : Hst) (w : World) (hg : HAt w w.heap.size A0 A1 A2 h) (hm0 : h.ss.length ≤ maxLen) (hm1 : h.ks.length ≤ maxLen) (hm2 : h.l.length ≤ maxLen)
  (hz0 : ∀ z ∈ h.ss, z.size ≤ maxLen) (hz1 : ∀ z ∈ h.ks, z.size ≤ maxLen) (hT : UTabs w) :
  Calls Tryz.prog 9 #[.agg #[.slice A0 h.ss.length c0, .slice A1 h.ks.length c1, .slice A2 h.l.length c2]] w fun e w' => ∃ A0' A1' A2' c0' c1' c2', (e = .returned (.agg #[.slice A0' (fewH h).ss.length c0', .slice A1' (fewH h).ks.length c1', .slice A2' (fewH h).l.length c2']) ∧ HIn w' w'.heap.size A0' A1' A2' (fewH h).ss.length (fewH h).ks.length (fewH h).l.length (fewH h)) ∧ Only [] w w' := by
 unfold maxLen at *
 refine (few11_any A0 A1 A2 _ _ _ c0 c1 c2 w.heap.size h w hg rfl rfl rfl (by omega) (by omega) (by omega) (fun z hz => by have := hz0 z hz; omega) (fun z hz => by have := hz1 z hz; omega)).mono ?_
 rintro e w' ⟨A0', A1', A2', c0', c1', c2', ⟨rfl, hA⟩, O⟩
 exact ⟨A0', A1', A2', c0', c1', c2', ⟨rfl, ⟨hA, rfl, rfl, rfl, few_small h, hT.only O⟩⟩, O⟩
/-- Few of what it made. -/
theorem few_in (A0 A1 A2 : Option Addr) (n0 n1 n2 c0 c1 c2 B : Nat) (h : Hst) (w : World) (hg : HIn w B A0 A1 A2 n0 n1 n2 h) (hf : fewH h = h) :
  Calls Tryz.prog 9 #[.agg #[.slice A0 n0 c0, .slice A1 n1 c1, .slice A2 n2 c2]] w fun e w' => ∃ A0' A1' A2' c0' c1' c2', (e = .returned (.agg #[.slice A0' n0 c0', .slice A1' n1 c1', .slice A2' n2 c2']) ∧ HIn w' w'.heap.size A0' A1' A2' n0 n1 n2 h) ∧ Only [] w w' := by
 have a0 := hg.sm.ns
 have a1 := hg.sm.nk
 have a2 := hg.sm.nl
 have e0 := hg.n0
 have e1 := hg.n1
 have e2 := hg.n2
 refine (few11_any A0 A1 A2 n0 n1 n2 c0 c1 c2 B h w hg.at_ e0 e1 e2 (by omega) (by omega) (by omega) (fun z hz => by have := hg.sm.s z hz; omega) (fun z hz => by have := hg.sm.k z hz; omega)).mono ?_
 rintro e w' ⟨A0', A1', A2', c0', c1', c2', ⟨rfl, hA⟩, O⟩
 rw [hf] at hA
 refine ⟨A0', A1', A2', c0', c1', c2', ⟨?_, ⟨hA, e0, e1, e2, hg.sm, hg.u.only O⟩⟩, O⟩
 unfold hval
 rw [hf, e0, e1, e2]
/-- A row does not lie in a block that holds nothing like its first cell. -/
theorem row_past {w w' : World} {B : Nat} {A : Option Addr} {xs : List Value} {g : Nat} {t : TypeId} {cs : Array Value} (h : Row w B A xs) (hb : Blk w g t cs) (hne : ∀ u : Value, xs[0]? = some u → ∀ j : Nat, cs[j]? ≠ some u) (ho : Only [g] w w') : Row w' w'.heap.size A xs := by
 rcases h with rfl | ⟨b, off, rfl, h1, h2, hc⟩
 ·exact .inl rfl
 ·cases xs with
  | nil => exact .inl rfl
  | cons u xs =>
   have h0 := hc 0 u rfl
   have hbg : b ≠ g := fun e => by
    subst e
    rw [hb.at_] at h0
    exact hne u rfl _ h0
   have := ho.size
   exact .inr ⟨b, off, rfl, by omega, by omega, fun j v hv => (ho.cell (p := ⟨b, off + j, none⟩) (by show b < _; omega) (by simp [hbg])).trans (hc j v hv)⟩
theorem HIn.past {w w' : World} {B : Nat} {A0 A1 A2 : Option Addr} {n0 n1 n2 : Nat} {h : Hst} {g : Nat} {t : TypeId} {a0 a1 a2 : Option Addr} {k0 k1 k2 e0 e1 e2 : Nat} (hI : HIn w B A0 A1 A2 n0 n1 n2 h) (hb : Blk w g t #[.slice a0 k0 e0, .slice a1 k1 e1, .slice a2 k2 e2]) (ho : Only [g] w w') (hU : UTabs w') :
  HIn w' w'.heap.size A0 A1 A2 n0 n1 n2 h := by
 have key : ∀ (u : Value), (∀ a n c, u ≠ .slice a n c) → ∀ j : Nat, (#[Value.slice a0 k0 e0, .slice a1 k1 e1, .slice a2 k2 e2] : Array Value)[j]? ≠ some u := by
  intro u hu j hj
  match j with
  | 0 => simp at hj; exact hu _ _ _ hj.symm
  | 1 => simp at hj; exact hu _ _ _ hj.symm
  | 2 => simp at hj; exact hu _ _ _ hj.symm
  | j + 3 => simp at hj
 obtain ⟨⟨r0, r1, ⟨xs, hx, r2, hxs⟩⟩, q0, q1, q2, q3, -⟩ := hI
 have ks : ∀ l : List ByteArray, ∀ u : Value, (strs l)[0]? = some u → ∀ a n c, u ≠ .slice a n c := by
  intro l u hu a n c e
  subst e
  cases l <;> simp [strs] at hu
 refine ⟨⟨row_past r0 hb (fun u hu => key u (ks _ u hu)) ho, row_past r1 hb (fun u hu => key u (ks _ u hu)) ho, ⟨xs, hx, row_past r2 hb (fun u hu => key u ?_) ho, fun x hx => ⟨row_past (hxs x hx).row hb (fun u hu => key u ?_) ho, (hxs x hx).le, (hxs x hx).cap⟩⟩⟩, q0, q1, q2, q3, hU⟩
 ·intro a n c e
  subst e
  cases xs <;> simp [txC, TxA.c] at hu
 ·intro a n c e
  subst e
  cases hxo : x.t.ops with
  | nil => rw [hxo] at hu; simp [opC] at hu
  | cons y l => rw [hxo] at hu; simp [opC, Op4.c] at hu
end Go.Proofs.YtjfbeeogiejopaaGreatDoor

set_option linter.unusedVariables false
set_option linter.unusedSimpArgs false
namespace Go.Proofs.YtjfbeeogiejopaaGreatDoor
open Go.RowKit
theorem take_eq_of {xs ys : List Int} {k : Nat} {x y : Int} (h : xs.take k = ys.take k) (hx : xs[k]? = some x) (hy : ys[k]? = some y) : (xs.take (k + 1) = ys.take (k + 1)) ↔ x = y := by
 rw [List.take_add_one, List.take_add_one, hx, hy, h]
 simp
set_option maxHeartbeats 1000000 in
theorem sameInts_any (A A' : Option Addr) (n m c d : Nat) (xs ys : List Int) (w : World) (B B' : Nat) (hA : Row w B A (xs.map (Value.int .i64))) (hA' : Row w B' A' (ys.map (Value.int .i64)))
  (hn : xs.length = n) (hm : ys.length = m) (hnm : n ≤ 9223372036854775807) (hmm : m ≤ 9223372036854775807) :
  Calls Tryz.prog 10 #[.slice A n c, .slice A' m d] w fun e w' => e = .returned (.bool (decide (xs = ys))) ∧ ∃ k, w.drewN k = w' := by
 have HA := Lib.hid hA
 have HA' := Lib.hid hA'
 have HN := Lib.hid hn
 have HM := Lib.hid hm
 clear hA hA' hn hm
 by_cases hlen : n = m
 ·subst hlen
  go_enter Tryz.func10, Tryz.ntmps10
  go_wp2_with fail
  go_loopw [5] (fun i wr => ∃ k q : Nat, i = .int .i64 k ∧ k ≤ n ∧ Hid (xs.take k = ys.take k) ∧ Hid (wr = w.drewN q)) (fun i _ => n - (intOf i).toNat)
  case atStart => exact ⟨0, 0, rfl, by omega, rfl, rfl⟩
  case round =>
   obtain ⟨k, q, rfl, hk, hsame, hw⟩ := hrel
   have hxl := HN.out
   have hyl := HM.out
   by_cases hlt : k < n
   ·obtain ⟨b, off, rfl, -, hbw, hc⟩ := HA.out.open_ (k := k) (by simpa using (by omega : k < xs.length))
    obtain ⟨b', off', rfl, -, hbw', hc'⟩ := HA'.out.open_ (k := k) (by simpa using (by omega : k < ys.length))
    obtain ⟨x, hx⟩ : ∃ x, xs[k]? = some x := ⟨_, List.getElem?_eq_getElem (by omega)⟩
    obtain ⟨y, hy⟩ : ∃ y, ys[k]? = some y := ⟨_, List.getElem?_eq_getElem (by omega)⟩
    have hcx : wr.cell? ⟨b, off + k, none⟩ = some (.int .i64 x) := by rw [hw.out]; exact hc k _ (by simp [hx])
    have hcy : wr.cell? ⟨b', off' + k, none⟩ = some (.int .i64 y) := by rw [hw.out]; exact hc' k _ (by simp [hy])
    have hk0 : (0 : Int) ≤ (k : Int) := Int.natCast_nonneg _
    have hk1 : (k : Int) < (n : Int) := by omega
    have HX := Lib.hid hx
    have HY := Lib.hid hy
    clear hx hy hc hc' hxl hyl
    go_wp2_with fail
    go_quiet (fail)
    by_cases hxy : x = y
    ·have hb : (x != y) = false := by simp [hxy]
     have HXY := Lib.hid hxy
     clear hxy
     go_wp2
     go_roundw
     case rel =>
      refine ⟨k + 1, q + nq, by go_num, by omega, (take_eq_of hsame.out HX.out HY.out).2 HXY.out, ?_⟩
      show _ = _
      rw [hw.out, World.drewN_drewN]
     case measure => simp [intOf]; omega
    ·have hb : (x != y) = true := by simp [hxy]
     have HXY := Lib.hid hxy
     clear hxy
     go_wp2
     go_ret
     refine ⟨?_, q + nq, ?_⟩
     ·have : xs ≠ ys := fun e => HXY.out (by
       have h1 := HX.out
       have h2 := HY.out
       rw [e] at h1
       rw [h1] at h2
       exact Option.some.inj h2)
      simp [this]
     ·rw [hw.out, World.drewN_drewN]
   ·have hge : n ≤ k := by omega
    clear hxl hyl
    go_wp2
    go_ret
    refine ⟨?_, q, hw.out.symm⟩
    have h1 := hsame.out
    have h2 := HN.out
    have h3 := HM.out
    rw [List.take_of_length_le (by omega), List.take_of_length_le (by omega)] at h1
    simp [h1]
 ·have hb : ((n : Int) != (m : Int)) = true := by simp; omega
  have hne : xs ≠ ys := fun e => hlen (by rw [← HN.out, ← HM.out, e])
  have HNE := Lib.hid hne
  clear hlen hne
  go_enter Tryz.func10, Tryz.ntmps10
  go_wp2
  go_ret
  exact ⟨by simp [HNE.out], 0, rfl⟩
end Go.Proofs.YtjfbeeogiejopaaGreatDoor

set_option linter.unusedVariables false
set_option linter.unusedSimpArgs false
namespace Go.Proofs.YtjfbeeogiejopaaGreatDoor
open Go.RowKit
open Go.Lib hiding intOf
attribute [local go_sem ↓] Go.wp_at_zero Go.wp_at_succ
def ex15 : ByteArray := ⟨#[98, 101, 103, 105, 110, 32, 115, 10, 119, 114, 105, 116, 101, 32, 115, 32, 120, 32, 49, 10, 111, 107, 32, 115, 10, 98, 101, 103, 105, 110, 32, 115, 10, 119, 114, 105, 116, 101, 32, 115, 32, 120, 32, 49, 10, 105, 110, 102, 111, 32, 115, 10, 98, 101, 103, 105, 110, 32, 116, 10, 114, 101, 97, 100, 32, 116, 32, 120, 32, 49, 10, 111, 107, 32, 116]⟩
def hist15 : Hst := ⟨[⟨#[115]⟩, ⟨#[116]⟩], [⟨#[120]⟩], [⟨0, 1, [⟨true, 0, 1, 1⟩]⟩, ⟨0, 3, [⟨true, 0, 1, 1⟩]⟩, ⟨1, 1, [⟨false, 0, 1, 1⟩]⟩]⟩
def evs15 : List Ev6 := [⟨1, ⟨#[115]⟩, ⟨#[]⟩, 0, 0, 1⟩, ⟨3, ⟨#[115]⟩, ⟨#[120]⟩, 1, 1, 2⟩, ⟨4, ⟨#[115]⟩, ⟨#[]⟩, 0, 0, 3⟩, ⟨1, ⟨#[115]⟩, ⟨#[]⟩, 0, 0, 4⟩, ⟨3, ⟨#[115]⟩, ⟨#[120]⟩, 1, 1, 5⟩, ⟨6, ⟨#[115]⟩, ⟨#[]⟩, 0, 0, 6⟩, ⟨1, ⟨#[116]⟩, ⟨#[]⟩, 0, 0, 7⟩, ⟨2, ⟨#[116]⟩, ⟨#[120]⟩, 1, 1, 8⟩, ⟨4, ⟨#[116]⟩, ⟨#[]⟩, 0, 0, 9⟩]
theorem ex15_log : logParse ex15 = (evs15, 0, 0) := by kernel_rfl
theorem ex15_rows : (linesOf (by_ ex15)).all (fun x => decide (x.length ≤ 65535)) = true := by kernel_rfl
theorem ex15_h : pairH evs15 = hist15 := by kernel_rfl
theorem ex15_e : pairE evs15 = 0 := by kernel_rfl
theorem ex15_l : pairL evs15 = 0 := by kernel_rfl
theorem ex15_show : showR ex15 = (hist15, 0, 0) := by
 unfold showR
 rw [ex15_log]
 dsimp only
 rw [if_pos rfl, ex15_h, ex15_e, ex15_l]
theorem ex15_of : wrOf hist15 2 0 = [0, 1] := by decide +kernel
theorem ex15_most : mostH hist15 = 2 := by decide +kernel
theorem ex15_fresh : freshV hist15 0 = (1, 0) := by decide +kernel
theorem ex15_int : HInt hist15 := by
 intro t ht x hx
 simp [hist15] at ht
 rcases ht with rfl | rfl | rfl <;> (simp at hx; subst hx; unfold OpI; decide)
theorem ex15_small : HSmall hist15 where
 s := fun x hx => by
  simp [hist15] at hx
  rcases hx with rfl | rfl <;> decide
 k := fun x hx => by
  simp [hist15] at hx
  subst hx
  decide
 ns := by decide
 nk := by decide
 nl := by decide
 no := fun t ht => by
  simp [hist15] at ht
  rcases ht with rfl | rfl | rfl <;> simp
set_option maxRecDepth 10000 in
set_option maxHeartbeats 4000000 in
theorem works15_any (w : World) (hT : UTabs w) (hM : MLen w) (hV : Verbs w) :
  Calls Tryz.prog 16 #[] w fun e w' => e = .returned (.bool true) ∧ Only [] w w' := by
 have HP := Lib.hid (fun w' (O : Only [] w w') => sparse_any ex15 w' (by decide) (fun x hx => by simpa using List.all_eq_true.1 ex15_rows x hx) (by rw [ex15_log]; decide) (fun x hx => by
  rw [ex15_log] at hx
  simp [evs15] at hx
  rcases hx with rfl | rfl | rfl | rfl | rfl | rfl | rfl | rfl | rfl <;> exact ⟨by decide, by decide⟩) (hT.only O) (hM.only O) (hV.only O))
 have HI := Lib.hid (fun (A0 A1 A2 : Option Addr) (B : Nat) w' (hA : HAt w' B A0 A1 A2 hist15) (O : Only [] w w') => (⟨hA, rfl, rfl, rfl, ex15_small, hT.only O⟩ : HIn w' B A0 A1 A2 2 1 3 hist15))
 have HOF := Lib.hid (fun (A0 A1 A2 : Option Addr) (c0 c1 c2 B : Nat) w' (hA : HIn w' B A0 A1 A2 2 1 3 hist15) => wof_any A0 A1 A2 2 1 3 c0 c1 c2 B hist15 2 0 w' hA)
 have HMO := Lib.hid (fun (A0 A1 A2 : Option Addr) (c0 c1 c2 B : Nat) w' (hA : HIn w' B A0 A1 A2 2 1 3 hist15) => wmost_any A0 A1 A2 2 1 3 c0 c1 c2 B hist15 w' hA)
 have HFR := Lib.hid (fun (A0 A1 A2 : Option Addr) (c0 c1 c2 B : Nat) w' (hA : HIn w' B A0 A1 A2 2 1 3 hist15) => wfresh_any A0 A1 A2 2 1 3 c0 c1 c2 B hist15 0 w' hA ex15_int)
 rw [ex15_show] at HP
 rw [ex15_of] at HOF
 rw [ex15_most] at HMO
 rw [ex15_fresh] at HFR
 unfold ex15 at HP
 unfold hval at HOF HMO HFR
 unfold agV at HFR
 clear hT hM hV
 go_enter Tryz.func16, Tryz.ntmps16
 go_wp2_with fail
 refine (HP.out _ (Only.refl [] w)).mono ?_
 rintro e w2 ⟨B0, B1, B2, d0, d1, d2, ⟨rfl, hA⟩, O2⟩
 have HA := Lib.hid hA
 have HO2 := Lib.hid O2
 clear hA O2 HP
 rw [show hist15.ss.length = 2 from rfl, show hist15.ks.length = 1 from rfl, show hist15.l.length = 3 from rfl]
 go_upto_region 2 with (fail)
 have HO3 := Lib.hid (HO2.out.alloc (.cells #[.slice B0 2 d0, .slice B1 1 d1, .slice B2 3 d2] 25))
 have HB3 := Lib.hid (Blk.made w2 25 #[.slice B0 2 d0, .slice B1 1 d1, .slice B2 3 d2])
 have HI3 := Lib.hid (HI.out B0 B1 B2 w2.heap.size _ (HA.out.only ((Only.refl [] w2).alloc (.cells #[.slice B0 2 d0, .slice B1 1 d1, .slice B2 3 d2] 25)) (by simp)) HO3.out)
 clear HA HO2 HI
 generalize (w2.alloc (.cells #[.slice B0 2 d0, .slice B1 1 d1, .slice B2 3 d2] 25)) = w3 at *
 generalize hg2 : w2.heap.size = g2 at *
 have l3 := HB3.out.lt
 have y0 := HB3.out.at_ 0
 have y1 := HB3.out.at_ 1
 have y2 := HB3.out.at_ 2
 simp at y0 y1 y2
 go_wp2_with fail
 refine (HOF.out _ _ _ _ _ _ _ _ HI3.out).mono ?_
 rintro e w4 ⟨V4, ⟨rfl, hV4⟩, O4⟩
 obtain ⟨A6, c6, rfl, -, -, -, hr6⟩ := own_row hV4
 have HR4 := Lib.hid hr6
 have HO4 := Lib.hid (HO3.out.trans O4)
 have HB4 := Lib.hid (O4.blk HB3.out (by simp))
 have HI4 := Lib.hid (HI3.out.same O4)
 clear O4 HOF l3 y0 y1 y2 HI3 HB3 HO3 hV4 hr6
 go_wp2_with fail
 refine (sameInts_any _ _ _ _ _ _ [0, 1] [0, 1] _ _ _ (HR4.out.only ((Only.refl [] w4).alloc (.cells #[.int .i64 0, .int .i64 1] 3)) (by simp)) (row_lit w4 3 #[.int .i64 0, .int .i64 1]) rfl rfl (by simp) (by simp)).mono ?_
 rintro e w7 ⟨rfl, q7, rfl⟩
 rw [decide_eq_true (rfl : ([0, 1] : List Int) = [0, 1])]
 have HX := Lib.hid (((Only.refl [] w4).alloc (.cells #[.int .i64 0, .int .i64 1] 3)).drewN q7)
 have HO7 := Lib.hid (HO4.out.trans HX.out)
 have HB7 := Lib.hid (HX.out.blk HB4.out (by simp))
 have HI7 := Lib.hid (HI4.out.same HX.out)
 clear HX HO4 HB4 HI4 HR4
 generalize ((w4.alloc (.cells #[.int .i64 0, .int .i64 1] 3)).drewN q7) = w7 at *
 have l5 := HB7.out.lt
 have y0 := HB7.out.at_ 0
 have y1 := HB7.out.at_ 1
 have y2 := HB7.out.at_ 2
 simp at y0 y1 y2
 go_wp2_with fail
 refine (HMO.out _ _ _ _ _ _ _ _ HI7.out).mono ?_
 rintro e w8 ⟨rfl, O8⟩
 have HO8 := Lib.hid (HO7.out.trans O8)
 have HB8 := Lib.hid (O8.blk HB7.out (by simp))
 have HI8 := Lib.hid (HI7.out.same O8)
 clear O8 l5 y0 y1 y2 HO7 HB7 HI7 HMO
 have l5 := HB8.out.lt
 have y0 := HB8.out.at_ 0
 have y1 := HB8.out.at_ 1
 have y2 := HB8.out.at_ 2
 simp at y0 y1 y2
 go_wp2_with fail
 refine (HFR.out _ _ _ _ _ _ _ _ HI8.out).mono ?_
 rintro e w9 ⟨rfl, O9⟩
 have HZ := Lib.hid (HO8.out.trans O9)
 go_wp2
 go_ret
 exact ⟨rfl, HZ.out⟩
end Go.Proofs.YtjfbeeogiejopaaGreatDoor

set_option linter.unusedVariables false
set_option linter.unusedSimpArgs false
namespace Go.Proofs.YtjfbeeogiejopaaGreatDoor
open Go.RowKit
set_option maxHeartbeats 400000 in
theorem rmay_any (k n : Int) (w : World) : Calls Tryz.prog 73 #[.agg #[.int .i64 k, .int .i64 n]] w fun e w' => e = .returned (.bool (mayB k n)) ∧ Only [] w w' := by
 unfold mayB
 by_cases h1 : k = 1
 ·subst h1
  go_enter Tryz.func73, Tryz.ntmps73
  go_wp2
  go_ret
  exact ⟨by simp, (Only.refl _ _).alloc _⟩
 ·have h1' : (k == 1) = false := by simp [h1]
  have H1 := Lib.hid h1
  clear h1
  by_cases h0 : k = 0
  ·subst h0
   go_enter Tryz.func73, Tryz.ntmps73
   go_wp2
   go_ret
   exact ⟨ret_boolv (by simp; try (rw [Bool.eq_iff_iff]; simp)), (Only.refl _ _).alloc _⟩
  ·have h0' : (k == 0) = false := by simp [h0]
   have H0 := Lib.hid h0
   clear h0
   by_cases h2 : k = 2
   ·subst h2
    go_enter Tryz.func73, Tryz.ntmps73
    go_wp2
    go_ret
    exact ⟨ret_boolv (by simp; try (rw [Bool.eq_iff_iff]; simp)), (Only.refl _ _).alloc _⟩
   ·have h2' : (k == 2) = false := by simp [h2]
    have H2 := Lib.hid h2
    clear h2
    go_enter Tryz.func73, Tryz.ntmps73
    go_wp2
    go_ret
    exact ⟨ret_boolv (by simp [H0.out, H1.out, H2.out]), (Only.refl _ _).alloc _⟩
end Go.Proofs.YtjfbeeogiejopaaGreatDoor

set_option linter.unusedVariables false
set_option linter.unusedSimpArgs false
namespace Go.Proofs.YtjfbeeogiejopaaGreatDoor
open Go.RowKit
def markC (n : Nat) (l : List Int) : Array Value := ((List.range n).map fun i : Nat => Value.bool (decide ((i : Int) ∈ l))).toArray
theorem markC_size (n : Nat) (l : List Int) : (markC n l).size = n := by simp [markC]
theorem markC_at (n : Nat) (l : List Int) (i : Nat) (hi : i < n) : (markC n l)[i]? = some (.bool (decide ((i : Int) ∈ l))) := by simp [markC, hi]
theorem markC_snoc (n : Nat) (l : List Int) (i : Nat) (hi : i < n) : markC n (l ++ [(i : Int)]) = (markC n l).setIfInBounds i (.bool true) := by
 apply Array.ext_getElem?
 intro j
 by_cases hj : j < n
 ·rw [markC_at _ _ _ hj, Array.getElem?_setIfInBounds]
  by_cases hij : i = j
  ·subst hij
   rw [if_pos rfl, if_pos (by rw [markC_size]; exact hi)]
   simp
  ·rw [if_neg hij, markC_at _ _ _ hj]
   have : (j : Int) ∈ l ++ [(i : Int)] ↔ (j : Int) ∈ l := by
    simp
    omega
   simp [this]
 ·rw [Array.getElem?_eq_none (by rw [markC_size]; omega), Array.getElem?_eq_none (by simp [markC_size]; omega)]
theorem made_mark (n : Nat) : madeCells #[.bool false] n = markC n [] := by
 apply Array.ext_getElem?
 intro j
 by_cases hj : j < n <;> simp [madeCells, markC, Nat.mod_one, hj]
theorem info_bool : (Tryz.prog.info? 4).map (fun i => (i.zero, i.size, i.bytes)) = some (some (.bool false), 1, 1) := by kernel_rfl
end Go.Proofs.YtjfbeeogiejopaaGreatDoor

set_option linter.unusedVariables false
set_option linter.unusedSimpArgs false
namespace Go.Proofs.YtjfbeeogiejopaaGreatDoor
open Go.RowKit
open Go.Lib hiding intOf
attribute [local go_sem ↓] Go.wp_at_zero Go.wp_at_succ
def txOps (n0 n1 : Nat) (t : Tx) : Bool := txB n0 t && t.ops.all (opB n1)
set_option maxRecDepth 10000 in
set_option maxHeartbeats 8000000 in
theorem rops_any (A0 A1 A2 : Option Addr) (n0 n1 n2 c0 c1 c2 B : Nat) (s f : Int) (ops : List Op4) (A' : Option Addr) (m cp : Nat) (gu cu : Nat) (K0 : List Int) (w : World) (hrow : Row w B A' (opC ops)) (hm : ops.length = m) (hmm : m ≤ 1000) (hU : Blk w gu 4 (markC n1 K0)) (hB : B ≤ gu) (h40 : n1 ≤ 1000) :
  Calls Tryz.prog 52 #[hval A0 A1 A2 n0 n1 n2 c0 c1 c2, .agg #[.int .i64 s, .int .i64 f, .slice A' m cp], .slice (some ⟨gu, 0, none⟩) n1 cu] w fun e w' => e = .returned (.bool (txOps n0 n1 ⟨s, f, ops⟩)) ∧
   Only [gu] w w' ∧ (txOps n0 n1 ⟨s, f, ops⟩ = true → Blk w' gu 4 (markC n1 (K0 ++ ops.map Op4.key))) := by
 unfold hval
 have HMAY := Lib.hid (fun vk vn w' => rmay_any vk vn w')
 have HROW := Lib.hid hrow
 have HMM := Lib.hid hm
 have hgu := hU.lt
 have W1 : Only [gu] w ((w.alloc (.cells #[.slice A0 n0 c0, .slice A1 n1 c1, .slice A2 n2 c2] 25)).alloc (.cells #[.int .i64 s, .int .i64 f, .slice A' m cp] 46)) := ((Only.refl _ w).alloc _).alloc _
 have HO := Lib.hid W1
 have HBH := Lib.hid ((Blk.made w 25 #[.slice A0 n0 c0, .slice A1 n1 c1, .slice A2 n2 c2]).alloc (.cells #[.int .i64 s, .int .i64 f, .slice A' m cp] 46))
 have HBT := Lib.hid (Blk.made (w.alloc (.cells #[.slice A0 n0 c0, .slice A1 n1 c1, .slice A2 n2 c2] 25)) 46 #[.int .i64 s, .int .i64 f, .slice A' m cp])
 have HU := Lib.hid ((hU.alloc (.cells #[.slice A0 n0 c0, .slice A1 n1 c1, .slice A2 n2 c2] 25)).alloc (.cells #[.int .i64 s, .int .i64 f, .slice A' m cp] 46))
 rw [World.size_alloc] at HBT
 obtain ⟨r, hr⟩ : ∃ r, r = txOps n0 n1 ⟨s, f, ops⟩ := ⟨_, rfl⟩
 rw [← hr]
 have HR := Lib.hid hr
 clear hr hrow W1 hU hm
 have hcase : (s < 0 ∧ txB n0 ⟨s, f, ops⟩ = false) ∨ (decide (s < 0) = false ∧ (n0 : Int) ≤ s ∧ txB n0 ⟨s, f, ops⟩ = false) ∨ (decide (s < 0) = false ∧ decide ((n0 : Int) ≤ s) = false ∧ f < 1 ∧ txB n0 ⟨s, f, ops⟩ = false) ∨
   (decide (s < 0) = false ∧ decide ((n0 : Int) ≤ s) = false ∧ decide (f < 1) = false ∧ 3 < f ∧ txB n0 ⟨s, f, ops⟩ = false) ∨
   (decide (s < 0) = false ∧ decide ((n0 : Int) ≤ s) = false ∧ decide (f < 1) = false ∧ decide (3 < f) = false ∧ decide ((20 : Int) < (m : Int)) = true ∧ txB n0 ⟨s, f, ops⟩ = false) ∨
   (decide (s < 0) = false ∧ decide ((n0 : Int) ≤ s) = false ∧ decide (f < 1) = false ∧ decide (3 < f) = false ∧ decide ((20 : Int) < (m : Int)) = false ∧ txB n0 ⟨s, f, ops⟩ = true) := by
  unfold txB fateB
  dsimp only
  rw [HMM.out]
  by_cases q1 : s < 0
  ·exact .inl ⟨q1, by rw [decide_eq_false (by omega)]; rfl⟩
  ·by_cases q2 : (n0 : Int) ≤ s
   ·exact .inr (.inl ⟨decide_eq_false q1, q2, by rw [decide_eq_false (by omega)]; rfl⟩)
   ·by_cases q3 : f < 1
    ·exact .inr (.inr (.inl ⟨decide_eq_false q1, decide_eq_false q2, q3, by rw [decide_eq_false (show ¬ (1 ≤ f ∧ f ≤ 3) by omega)]; simp⟩))
    ·by_cases q4 : 3 < f
     ·exact .inr (.inr (.inr (.inl ⟨decide_eq_false q1, decide_eq_false q2, decide_eq_false q3, q4, by rw [decide_eq_false (show ¬ (1 ≤ f ∧ f ≤ 3) by omega)]; simp⟩)))
     ·by_cases q5 : 20 < m
      ·exact .inr (.inr (.inr (.inr (.inl ⟨decide_eq_false q1, decide_eq_false q2, decide_eq_false q3, decide_eq_false q4, decide_eq_true (by omega), by rw [decide_eq_false (show ¬ m ≤ 20 by omega)]; simp⟩))))
      ·exact .inr (.inr (.inr (.inr (.inr ⟨decide_eq_false q1, decide_eq_false q2, decide_eq_false q3, decide_eq_false q4, decide_eq_false (by omega), by rw [decide_eq_true (show 0 ≤ s ∧ s < (n0 : Int) by omega), decide_eq_true (show 1 ≤ f ∧ f ≤ 3 by omega), decide_eq_true (show m ≤ 20 by omega)]; rfl⟩))))
 have bad : txB n0 ⟨s, f, ops⟩ = false → r = false := fun hb => by rw [HR.out]; unfold txOps; rw [hb]; rfl
 rcases hcase with ⟨q1, q⟩ | ⟨q1, q2, q⟩ | ⟨q1, q2, q3, q⟩ | ⟨q1, q2, q3, q4, q⟩ | ⟨q1, q2, q3, q4, q5, q⟩ | ⟨q1, q2, q3, q4, q5, q⟩
 ·obtain rfl := bad q
  clear bad q
  go_enter Tryz.func52, Tryz.ntmps52
  go_wp2
  go_ret
  first | exact ⟨rfl, HO.out⟩ | exact ⟨rfl, HO.out, by simp⟩
 ·obtain rfl := bad q
  clear bad q
  go_enter Tryz.func52, Tryz.ntmps52
  go_wp2
  go_ret
  first | exact ⟨rfl, HO.out⟩ | exact ⟨rfl, HO.out, by simp⟩
 ·obtain rfl := bad q
  clear bad q
  go_enter Tryz.func52, Tryz.ntmps52
  go_wp2
  go_ret
  first | exact ⟨rfl, HO.out⟩ | exact ⟨rfl, HO.out, by simp⟩
 ·obtain rfl := bad q
  clear bad q
  go_enter Tryz.func52, Tryz.ntmps52
  go_wp2
  go_ret
  first | exact ⟨rfl, HO.out⟩ | exact ⟨rfl, HO.out, by simp⟩
 ·obtain rfl := bad q
  clear bad q
  go_enter Tryz.func52, Tryz.ntmps52
  go_wp2
  go_ret
  first | exact ⟨rfl, HO.out⟩ | exact ⟨rfl, HO.out, by simp⟩
 ·have HRR : Hid (r = ops.all (opB n1)) := Lib.hid (by rw [HR.out]; unfold txOps; rw [q]; rfl)
  have HBADX : Hid (∀ (j : Nat) y, ops[j]? = some y → opB n1 y = false → r = false) := Lib.hid (fun j y hj hb => by
   rw [HRR.out, List.all_eq_false]
   exact ⟨y, List.mem_of_getElem? hj, by rw [hb]; simp⟩)
  clear bad q HR
  go_enter Tryz.func52, Tryz.ntmps52
  go_wp2_with fail
  clear q1 q2 q3 q4 q5
  go_loopw [7] (fun iv wr => ∃ j : Nat, iv = .int .i64 j ∧ j ≤ m ∧ Hid ((ops.take j).all (opB n1) = true) ∧ Hid (Blk wr w.heap.size 25 #[.slice A0 n0 c0, .slice A1 n1 c1, .slice A2 n2 c2]) ∧ Hid (Blk wr (w.heap.size + 1) 46 #[.int .i64 s, .int .i64 f, .slice A' m cp]) ∧ Hid (Blk wr gu 4 (markC n1 (K0 ++ (ops.take j).map Op4.key))) ∧ Hid (Only [gu] w wr)) (fun iv _ => m - (intOf iv).toNat)
  case atStart => exact ⟨0, rfl, by omega, Lib.hid (by simp), HBH, HBT, by simpa using HU, HO⟩
  case round =>
   obtain ⟨j, rfl, hj, hall, hBH, hBT, hU, hO⟩ := hrel
   clear HBH HBT HU HO
   have hsz2 := hO.out.size
   have lT := hBT.out.lt
   have t2 := hBT.out.at_ 2
   simp at t2
   by_cases hlt2 : j < m
   ·obtain ⟨y, hy⟩ : ∃ y, ops[j]? = some y := ⟨_, List.getElem?_eq_getElem (by rw [HMM.out]; exact hlt2)⟩
    obtain ⟨b', off', rfl, hbB, hbw', hP⟩ := row_op HROW.out hy
    obtain ⟨p0, p1, p2, p3⟩ := hP.only hO.out hbw' (by simp; omega)
    have HALN : Hid (opB n1 y = true → (ops.take (j + 1)).all (opB n1) = true) := Lib.hid (fun h => takeTx_all hall.out hy h)
    have HBAD : Hid (opB n1 y = false → r = false) := Lib.hid (HBADX.out j y hy)
    have HTK : Hid ((ops.take (j + 1)).map Op4.key = (ops.take j).map Op4.key ++ [y.key]) := Lib.hid (by rw [List.take_add_one, hy]; simp)
    obtain ⟨yw, yk, yv, yn⟩ := y
    dsimp only at p0 p1 p2 p3 HTK
    have h01 : (j : Int) < (m : Int) := by omega
    have hj0 : (0 : Int) ≤ (j : Int) := Int.natCast_nonneg _
    have hwj : IntKind.i64.wrap ((j : Int) + 1) = (j : Int) + 1 := IntWalk.i64_in _ (by omega)
    have hbr' : b' < wr.heap.size := by omega
    clear hP hy hall
    go_upto_region 7 with (fail)
    have O2 : Only [] wr (wr.alloc (.cells #[.bool yw, .int .i64 yk, .int .i64 yv, .int .i64 yn] 48)) := (Only.refl [] wr).alloc _
    have bO := Blk.made wr 48 #[.bool yw, .int .i64 yk, .int .i64 yv, .int .i64 yn]
    have HB2 := Lib.hid (O2.blk hBH.out (by simp))
    have HT2 := Lib.hid (O2.blk hBT.out (by simp))
    have HU2 := Lib.hid (O2.blk hU.out (by simp))
    have HO2 := Lib.hid (hO.out.trans (O2.wide (fun _ h => by cases h)))
    clear p0 p1 p2 p3 O2 hBH hBT hU hO lT t2
    generalize (wr.alloc (.cells #[.bool yw, .int .i64 yk, .int .i64 yv, .int .i64 yn] 48)) = w2' at *
    generalize wr.heap.size = go at *
    have HBO := Lib.hid bO
    have lO := bO.lt
    have o0 := bO.at_ 0
    have o1 := bO.at_ 1
    have o2 := bO.at_ 2
    have o3 := bO.at_ 3
    have lB := HB2.out.lt
    have b1 := HB2.out.at_ 1
    simp at o0 o1 o2 o3 b1
    clear bO
    have hcase : (yk < 0 ∧ opB n1 ⟨yw, yk, yv, yn⟩ = false) ∨ (decide (yk < 0) = false ∧ (n1 : Int) ≤ yk ∧ opB n1 ⟨yw, yk, yv, yn⟩ = false) ∨ ∃ i : Nat, yk = (i : Int) ∧ i < n1 ∧ opB n1 ⟨yw, yk, yv, yn⟩ = (mayB yv yn && (!yw || decide (yv = 1))) := by
     unfold opB
     dsimp only
     by_cases q1 : yk < 0
     ·exact .inl ⟨q1, by rw [decide_eq_false (by omega)]; rfl⟩
     ·by_cases q2 : (n1 : Int) ≤ yk
      ·exact .inr (.inl ⟨decide_eq_false q1, q2, by rw [decide_eq_false (by omega)]; rfl⟩)
      ·exact .inr (.inr ⟨yk.toNat, by omega, by omega, by rw [decide_eq_true (show 0 ≤ yk ∧ yk < (n1 : Int) by omega)]; rfl⟩)
    rcases hcase with ⟨q1, q⟩ | ⟨q1, q2, q⟩ | ⟨i, rfl, hi, q⟩
    ·obtain rfl := HBAD.out q
     clear q
     go_wp2
     go_ret
     first | exact ⟨rfl, HO2.out⟩ | exact ⟨rfl, HO2.out, by simp⟩
    ·obtain rfl := HBAD.out q
     clear q
     go_wp2
     go_ret
     first | exact ⟨rfl, HO2.out⟩ | exact ⟨rfl, HO2.out, by simp⟩
    ·have HF := Lib.hid (HMAY.out yv yn w2')
     have q1 : decide ((i : Int) < 0) = false := by simp
     have q2 : decide ((n1 : Int) ≤ (i : Int)) = false := by simp; omega
     have q5 : (0 : Int) ≤ (i : Int) := by omega
     have q6 : (i : Int) < (n1 : Int) := by omega
     cases hmy : mayB yv yn with
     | false =>
      rw [hmy] at HF q
      obtain rfl := HBAD.out q
      clear q hmy
      go_wp2_with fail
      refine (HF.out).mono ?_
      rintro e w3 ⟨rfl, O3⟩
      have HO3 := Lib.hid (HO2.out.trans (O3.wide (fun _ h => by cases h)))
      clear O3
      go_wp2
      go_ret
      first | exact ⟨rfl, HO3.out⟩ | exact ⟨rfl, HO3.out, by simp⟩
     | true =>
      rw [hmy] at HF q
      have HCS := Lib.hid (markC_snoc n1 (K0 ++ (ops.take j).map Op4.key) i (by omega))
      have HCA := Lib.hid (markC_at n1 (K0 ++ (ops.take j).map Op4.key) i (by omega))
      generalize decide ((i : Int) ∈ K0 ++ (ops.take j).map Op4.key) = ci at *
      clear hmy
      have good : Hid ((ops.take (j + 1)).all (opB n1) = true) → ∀ w3, Only [] w2' w3 → Hid (Blk (w3.setCell ⟨gu, i, none⟩ (.bool true)) gu 4 (markC n1 (K0 ++ (ops.take (j + 1)).map Op4.key))) ∧ Hid (Only [gu] w (w3.setCell ⟨gu, i, none⟩ (.bool true))) ∧
        Hid (Blk (w3.setCell ⟨gu, i, none⟩ (.bool true)) w.heap.size 25 #[.slice A0 n0 c0, .slice A1 n1 c1, .slice A2 n2 c2]) ∧ Hid (Blk (w3.setCell ⟨gu, i, none⟩ (.bool true)) (w.heap.size + 1) 46 #[.int .i64 s, .int .i64 f, .slice (some ⟨b', off', none⟩) m cp]) := fun _ w3 O3 => by
       refine ⟨Lib.hid ?_, Lib.hid ((HO2.out.trans (O3.wide (fun _ h => by cases h))).put (fun _ => by simp) _), Lib.hid ((O3.blk HB2.out (by simp)).far (by simp only; omega) _), Lib.hid ((O3.blk HT2.out (by simp)).far (by simp only; omega) _)⟩
       rw [HTK.out, ← List.append_assoc, HCS.out]
       exact (O3.blk HU2.out (by simp)).put i _
      have HGOOD := Lib.hid good
      clear good
      cases yw with
      | true =>
       by_cases hv1 : yv = 1
       ·subst hv1
        have HQ := Lib.hid (HALN.out (by rw [q]; rfl))
        clear q
        go_wp2_with fail
        refine (HF.out).mono ?_
        rintro e w3 ⟨rfl, O3⟩
        have HP := HGOOD.out HQ w3 O3
        have bO3 := O3.blk HBO.out (by simp)
        have bU3 := O3.blk HU2.out (by simp)
        clear O3 lO o0 o1 o2 o3 lB b1
        have lO := bO3.lt
        have o0 := bO3.at_ 0
        have o1 := bO3.at_ 1
        have o2 := bO3.at_ 2
        have lU := bU3.lt
        have uj := (bU3.at_ i).trans HCA.out
        have gj := bU3.free i
        simp at o0 o1 o2
        clear bO3 bU3
        go_wp2
        go_roundw
        case rel => exact ⟨j + 1, by go_num, by omega, HQ, HP.2.2.1, HP.2.2.2, HP.1, HP.2.1⟩
        case measure => simp [intOf]; omega
       ·have hv1' : (yv == 1) = false := by simpa using hv1
        have hv1n : (yv != 1) = true := by simpa using hv1
        obtain rfl := HBAD.out (by rw [q, decide_eq_false hv1]; rfl)
        clear q hv1
        go_wp2_with fail
        refine (HF.out).mono ?_
        rintro e w3 ⟨rfl, O3⟩
        have HO3 := Lib.hid (HO2.out.trans (O3.wide (fun _ h => by cases h)))
        have bO3 := O3.blk HBO.out (by simp)
        clear O3 lO o0 o1 o2 o3 lB b1
        have lO := bO3.lt
        have o0 := bO3.at_ 0
        have o2 := bO3.at_ 2
        simp at o0 o2
        clear bO3
        go_wp2
        go_ret
        first | exact ⟨rfl, HO3.out⟩ | exact ⟨rfl, HO3.out, by simp⟩
      | false =>
       have HQ := Lib.hid (HALN.out (by rw [q]; rfl))
       clear q
       go_wp2_with fail
       refine (HF.out).mono ?_
       rintro e w3 ⟨rfl, O3⟩
       have HP := HGOOD.out HQ w3 O3
       have bO3 := O3.blk HBO.out (by simp)
       have bU3 := O3.blk HU2.out (by simp)
       clear O3 lO o0 o1 o2 o3 lB b1
       have lO := bO3.lt
       have o0 := bO3.at_ 0
       have o1 := bO3.at_ 1
       have lU := bU3.lt
       have uj := (bU3.at_ i).trans HCA.out
       have gj := bU3.free i
       simp at o0 o1
       clear bO3 bU3
       go_wp2
       go_roundw
       case rel => exact ⟨j + 1, by go_num, by omega, HQ, HP.2.2.1, HP.2.2.2, HP.1, HP.2.1⟩
       case measure => simp [intOf]; omega
   ·have hjm : j = m := by omega
    subst hjm
    have hd2 : decide ((j : Int) < (j : Int)) = false := by simp
    have ht : ops.take j = ops := List.take_of_length_le (by rw [HMM.out]; exact Nat.le_refl _)
    have hA := hall.out
    have hUU := hU.out
    rw [ht] at hA hUU
    obtain rfl : r = true := by rw [HRR.out, hA]
    have HUU := Lib.hid hUU
    clear hall hU hA hUU ht
    go_wp2
    go_ret
    first | exact ⟨rfl, hO.out, HUU.out⟩ | exact ⟨rfl, hO.out, fun _ => HUU.out⟩
end Go.Proofs.YtjfbeeogiejopaaGreatDoor
