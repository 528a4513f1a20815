/- inner.Writers: which transactions, but those that failed, write a key. SameInts: whether two lists of numbers are the same. The chapter's example of layer 13; works. Which numbers are among the bad reads, and among the writers. Mathematics. base.HasInt. The document's inner: Raw. Contracts of the reference of layer 5. -/
import Derived.Test.YtjhomlnlmpdklaaGreatDoorInnerAgreesCardK35
import Derived.Test.YtjhomlnlmpdklaaGreatDoorInnerAgreesCardK3
import Derived.Test.YtjhomlnlmpdklaaGreatDoorInnerAgreesCardK28
import Derived.Test.YtjhomlnlmpdklaaGreatDoorInnerAgreesCardK31
import Derived.Test.YtjhomlnlmpdklaaGreatDoorInnerAgreesCardK19
import Derived.Deep.CutBlock
import Derived.Deep.DeepCutAuto
import Derived.Test.YtjhomlnlmpdklaaGreatDoorInnerAgreesCardK6
set_option linter.unusedVariables false
set_option linter.unusedSimpArgs false
namespace Go.Proofs.YtjhomlnlmpdklaaGreatDoor
open Go.RowKit
open Go.Lib hiding intOf
attribute [local go_sem ↓] Go.wp_at_zero Go.wp_at_succ
set_option maxRecDepth 10000 in
set_option maxHeartbeats 4000000 in
theorem iwriters_any (A0 A1 A2 : Option Addr) (n0 n1 n2 c0 c1 c2 B : Nat) (h : Hst) (key : Int) (w : World) (hg : HIn w B A0 A1 A2 n0 n1 n2 h) :
  Calls Tryz.prog 20 #[hval A0 A1 A2 n0 n1 n2 c0 c1 c2, .int .i64 key] w fun e w' => ∃ A' c', (e = .returned (.slice A' (wrtH h key).length c') ∧ Row w' w'.heap.size A' ((wrtH h key).map (Value.int .i64))) ∧ Only [] w w' := by
 have HM := Lib.hid (fun w' (O : Only [] w w') => hmay_any A0 A1 A2 n0 n1 n2 c0 c1 c2 B h w' (hg.same O))
 have hM : n2 ≤ 1000 := by
  have := hg.sm.nl
  rw [hg.n2] at this
  exact this
 have HG := Lib.hid hg.at_.r2
 have HN2 := Lib.hid hg.n2
 have HNO := Lib.hid hg.sm.no
 obtain ⟨i0, hi, hz0, hz1, hz2⟩ := info_parts info_int
 unfold hval at HM ⊢
 unfold wrtH
 clear hg
 have O1 : Only [] w (w.alloc (.cells #[.slice A0 n0 c0, .slice A1 n1 c1, .slice A2 n2 c2] 25)) := (Only.refl [] w).alloc _
 have HB1 := Lib.hid (Blk.made w 25 #[.slice A0 n0 c0, .slice A1 n1 c1, .slice A2 n2 c2])
 have HF := Lib.hid (HM.out _ O1)
 have HO1 := Lib.hid O1
 clear O1 HM
 cases hm : mayH h with
 | false =>
  rw [errH_not hm] at HF
  clear hm
  go_enter Tryz.func20, Tryz.ntmps20
  go_wp2_with fail
  refine (HF.out).mono ?_
  rintro e w2 ⟨rfl, O2⟩
  have HO2 := Lib.hid (HO1.out.trans O2)
  clear O2
  go_wp2
  go_ret
  exact ⟨⟨none, ⟨0, rfl⟩, .inl rfl⟩, HO2.out⟩
 | true =>
  rw [errH_yes hm] at HF
  clear hm
  rw [if_pos rfl]
  obtain ⟨q, hq⟩ : ∃ q : Tx → Bool, q = writesB key := ⟨_, rfl⟩
  rw [← hq]
  have HQ := Lib.hid hq
  clear hq
  go_enter Tryz.func20, Tryz.ntmps20
  go_wp2_with fail
  refine (HF.out).mono ?_
  rintro e w2 ⟨rfl, O2⟩
  have HO2 := Lib.hid (HO1.out.trans O2)
  have b2 := O2.blk HB1.out (by simp)
  have l2 := b2.lt
  have y2 := b2.at_ 2
  simp at y2
  clear O2 b2 HB1 HF
  go_wp2_with fail
  go_loopw [5, 16] (fun V iv wr => ∃ k : Nat, iv = .int .i64 k ∧ k ≤ n2 ∧ Hid (wr.ownsRow w.heap.size 3 1 V (whichL q (h.l.take k)).length ((whichL q (h.l.take k)).map (Value.int .i64))) ∧ Hid (Only [] w wr)) (fun _ iv _ => n2 - (intOf iv).toNat)
  case atStart => exact ⟨0, rfl, by omega, Lib.hid ⟨rfl, .inl ⟨rfl, rfl⟩⟩, HO2⟩
  case round =>
   obtain ⟨k, rfl, hk, hV, hO⟩ := hrel
   have hsz := hO.out.size
   clear y2 l2 HO2 HO1
   by_cases hlt : k < n2
   ·obtain ⟨x, hx⟩ : ∃ x, h.l[k]? = some x := ⟨_, List.getElem?_eq_getElem (by rw [HN2.out]; exact hlt)⟩
    obtain ⟨b, off, A', cp, rfl, -, hbw, hT, hOk⟩ := HG.out.at_ hx
    obtain ⟨a0, a1, a2⟩ := hT.only hO.out hbw (by simp)
    have HWT := Lib.hid (which_take (p := q) hx)
    have hwl := which_le q (h.l.take k)
    rw [List.length_take] at hwl
    have hno := HNO.out x (List.mem_of_getElem? hx)
    have HROW := Lib.hid hOk.row
    obtain ⟨s, f, ops⟩ := x
    dsimp only at a0 a1 a2 hno HROW
    have HLF := Lib.hid (fun w' (O : Only [] w w') => left_any A' ops.length cp B ops key w' (HROW.out.only O (by simp)) rfl hno)
    have HQX : Hid (q ⟨s, f, ops⟩ = ((leftW key ops).isSome && !decide (f = 2))) := Lib.hid (by rw [HQ.out]; rfl)
    generalize leftW key ops = v at *
    generalize hm : ops.length = m at *
    have h01 : (k : Int) < (n2 : Int) := by omega
    have hk0 : (0 : Int) ≤ (k : Int) := Int.natCast_nonneg _
    have hwk : IntKind.i64.wrap ((k : Int) + 1) = (k : Int) + 1 := IntWalk.i64_in _ (by omega)
    have hbr : b < wr.heap.size := by omega
    clear hT hOk hx hm
    go_upto_region 7 with (fail)
    have O2 : Only [] wr (wr.alloc (.cells #[.int .i64 s, .int .i64 f, .slice A' m cp] 44)) := (Only.refl [] wr).alloc _
    have HT2 := Lib.hid (Blk.made wr 44 #[.int .i64 s, .int .i64 f, .slice A' m cp])
    have HV2 := Lib.hid (own_only hV.out O2 (by simp))
    have HO2 := Lib.hid (hO.out.trans O2)
    clear a0 a1 a2 O2 hV hO hbr
    generalize (wr.alloc (.cells #[.int .i64 s, .int .i64 f, .slice A' m cp] 44)) = w2 at *
    generalize wr.heap.size = gt at *
    have lT := HT2.out.lt
    have t1 := HT2.out.at_ 1
    have t2 := HT2.out.at_ 2
    simp at t1 t2
    go_wp2_with fail
    refine (HLF.out w2 HO2.out).mono ?_
    rintro e w3 ⟨rfl, O3⟩
    unfold optT optV
    have HO3 := Lib.hid (HO2.out.trans O3)
    have HT3 := Lib.hid (O3.blk HT2.out (by simp))
    have HV3 := Lib.hid (own_only HV2.out O3 (by simp))
    clear O3 t1 t2 lT HT2 HV2 HO2 HLF
    go_upto_region 8 with (fail)
    have HA3 := Lib.hid ((Only.refl [] w3).alloc (.cells #[.int .i64 (v.getD (0, 0)).1, .int .i64 (v.getD (0, 0)).2] 30))
    have HO4 := Lib.hid (HO3.out.trans HA3.out)
    have HT4 := Lib.hid (HA3.out.blk HT3.out (by simp))
    have HV4 := Lib.hid (own_only HV3.out HA3.out (by simp))
    clear HA3 HO3 HT3 HV3
    generalize (w3.alloc (.cells #[.int .i64 (v.getD (0, 0)).1, .int .i64 (v.getD (0, 0)).2] 30)) = w4 at *
    have lT := HT4.out.lt
    have t1 := HT4.out.at_ 1
    simp at t1
    generalize v.isSome = vb at *
    have hsz4 := HO4.out.size
    cases vb with
    | false =>
     have HE : Hid (whichL q (h.l.take (k + 1)) = whichL q (h.l.take k)) := Lib.hid (by rw [HWT.out, HQX.out]; simp)
     go_wp2
     go_roundw
     case rel => exact ⟨k + 1, by go_num, by omega, Lib.hid (by rw [HE.out]; exact HV4.out), HO4⟩
     case measure => simp [intOf]; omega
    | true =>
     by_cases hf : f = 2
     ·have hf1 : (f != 2) = false := by simp [hf]
      have HE : Hid (whichL q (h.l.take (k + 1)) = whichL q (h.l.take k)) := Lib.hid (by rw [HWT.out, HQX.out, hf]; simp)
      clear hf
      go_wp2
      go_roundw
      case rel => exact ⟨k + 1, by go_num, by omega, Lib.hid (by rw [HE.out]; exact HV4.out), HO4⟩
      case measure => simp [intOf]; omega
     ·have hf1 : (f != 2) = true := by simp [hf]
      have HE : Hid (whichL q (h.l.take (k + 1)) = whichL q (h.l.take k) ++ [(k : Int)]) := Lib.hid (by rw [HWT.out, HQX.out]; simp [hf])
      clear hf
      go_wp2_with (at_builtin; refine wpList_append_row _ rfl (.tmp 34) (.tmp 36) _ rfl w.heap.size 3 i0 _ 1 8 Tryz.underlying37 hi hz0 hz1 hz2 rfl (by omega) _ _ _ rfl (own_only HV4.out ((Only.refl [] _).alloc _) (by simp)) (w4.heap.size + 1) (some ⟨w4.heap.size, 0, none⟩) 1 1 [.int .i64 (k : Int)] rfl rfl (row_lit w4 3 #[.int .i64 (k : Int)]) (by simp [Value.oneCell']) (by unfold maxLen; omega) (by omega) (by have := HO4.out.size; simp; omega) ?_; intro v5 w5 hown5 hgrow hat)
      have REL : w5.ownsRow w.heap.size 3 1 v5 (whichL q (h.l.take (k + 1))).length ((whichL q (h.l.take (k + 1))).map (Value.int .i64)) ∧ Only [] w w5 := by
       refine ⟨?_, (HO4.out.alloc _).step (only_grown hgrow) (own_new HV4.out)⟩
       rw [HE.out]
       simpa using hown5
      have HREL := Lib.hid REL
      clear REL hown5
      go_wp2
      go_roundw
      case rel => first | exact ⟨k + 1, by go_num, by omega, Lib.hid HREL.out.1, Lib.hid HREL.out.2⟩ | exact ⟨_, ⟨k + 1, by go_num, by omega, Lib.hid HREL.out.1, Lib.hid HREL.out.2⟩, rfl⟩
      case measure => simp [intOf]; omega
   ·have hkn : k = n2 := by omega
    subst hkn
    have hd2 : decide ((k : Int) < (k : Int)) = false := by simp
    have HVV : Hid (wr.ownsRow w.heap.size 3 1 u5 (whichL q h.l).length ((whichL q h.l).map (Value.int .i64))) := Lib.hid (by
     have := hV.out
     rwa [List.take_of_length_le (by rw [HN2.out]; exact Nat.le_refl _)] at this)
    clear hV
    go_wp2
    go_ret
    obtain ⟨A', c', rfl, -, -, -, hR⟩ := own_row HVV.out
    first | exact ⟨_, _, ⟨rfl, hR⟩, hO.out⟩ | exact ⟨⟨_, ⟨_, rfl⟩, hR⟩, hO.out⟩
end Go.Proofs.YtjhomlnlmpdklaaGreatDoor

set_option linter.unusedVariables false
set_option linter.unusedSimpArgs false
namespace Go.Proofs.YtjhomlnlmpdklaaGreatDoor
open Go.RowKit
theorem take_eq_of {xs ys : List Int} {k : Nat} {x y : Int} (h : xs.take k = ys.take k) (hx : xs[k]? = some x) (hy : ys[k]? = some y) : (xs.take (k + 1) = ys.take (k + 1)) ↔ x = y := by
 rw [List.take_add_one, List.take_add_one, hx, hy, h]
 simp
set_option maxHeartbeats 1000000 in
theorem sameInts_any (A A' : Option Addr) (n m c d : Nat) (xs ys : List Int) (w : World) (B B' : Nat) (hA : Row w B A (xs.map (Value.int .i64))) (hA' : Row w B' A' (ys.map (Value.int .i64)))
  (hn : xs.length = n) (hm : ys.length = m) (hnm : n ≤ 9223372036854775807) (hmm : m ≤ 9223372036854775807) :
  Calls Tryz.prog 17 #[.slice A n c, .slice A' m d] w fun e w' => e = .returned (.bool (decide (xs = ys))) ∧ ∃ k, w.drewN k = w' := by
 have HA := Lib.hid hA
 have HA' := Lib.hid hA'
 have HN := Lib.hid hn
 have HM := Lib.hid hm
 clear hA hA' hn hm
 by_cases hlen : n = m
 ·subst hlen
  go_enter Tryz.func17, Tryz.ntmps17
  go_wp2_with fail
  go_loopw [5] (fun i wr => ∃ k q : Nat, i = .int .i64 k ∧ k ≤ n ∧ Hid (xs.take k = ys.take k) ∧ Hid (wr = w.drewN q)) (fun i _ => n - (intOf i).toNat)
  case atStart => exact ⟨0, 0, rfl, by omega, rfl, rfl⟩
  case round =>
   obtain ⟨k, q, rfl, hk, hsame, hw⟩ := hrel
   have hxl := HN.out
   have hyl := HM.out
   by_cases hlt : k < n
   ·obtain ⟨b, off, rfl, -, hbw, hc⟩ := HA.out.open_ (k := k) (by simpa using (by omega : k < xs.length))
    obtain ⟨b', off', rfl, -, hbw', hc'⟩ := HA'.out.open_ (k := k) (by simpa using (by omega : k < ys.length))
    obtain ⟨x, hx⟩ : ∃ x, xs[k]? = some x := ⟨_, List.getElem?_eq_getElem (by omega)⟩
    obtain ⟨y, hy⟩ : ∃ y, ys[k]? = some y := ⟨_, List.getElem?_eq_getElem (by omega)⟩
    have hcx : wr.cell? ⟨b, off + k, none⟩ = some (.int .i64 x) := by rw [hw.out]; exact hc k _ (by simp [hx])
    have hcy : wr.cell? ⟨b', off' + k, none⟩ = some (.int .i64 y) := by rw [hw.out]; exact hc' k _ (by simp [hy])
    have hk0 : (0 : Int) ≤ (k : Int) := Int.natCast_nonneg _
    have hk1 : (k : Int) < (n : Int) := by omega
    have HX := Lib.hid hx
    have HY := Lib.hid hy
    clear hx hy hc hc' hxl hyl
    go_wp2_with fail
    go_quiet (fail)
    by_cases hxy : x = y
    ·have hb : (x != y) = false := by simp [hxy]
     have HXY := Lib.hid hxy
     clear hxy
     go_wp2
     go_roundw
     case rel =>
      refine ⟨k + 1, q + nq, by go_num, by omega, (take_eq_of hsame.out HX.out HY.out).2 HXY.out, ?_⟩
      show _ = _
      rw [hw.out, World.drewN_drewN]
     case measure => simp [intOf]; omega
    ·have hb : (x != y) = true := by simp [hxy]
     have HXY := Lib.hid hxy
     clear hxy
     go_wp2
     go_ret
     refine ⟨?_, q + nq, ?_⟩
     ·have : xs ≠ ys := fun e => HXY.out (by
       have h1 := HX.out
       have h2 := HY.out
       rw [e] at h1
       rw [h1] at h2
       exact Option.some.inj h2)
      simp [this]
     ·rw [hw.out, World.drewN_drewN]
   ·have hge : n ≤ k := by omega
    clear hxl hyl
    go_wp2
    go_ret
    refine ⟨?_, q, hw.out.symm⟩
    have h1 := hsame.out
    have h2 := HN.out
    have h3 := HM.out
    rw [List.take_of_length_le (by omega), List.take_of_length_le (by omega)] at h1
    simp [h1]
 ·have hb : ((n : Int) != (m : Int)) = true := by simp; omega
  have hne : xs ≠ ys := fun e => hlen (by rw [← HN.out, ← HM.out, e])
  have HNE := Lib.hid hne
  clear hlen hne
  go_enter Tryz.func17, Tryz.ntmps17
  go_wp2
  go_ret
  exact ⟨by simp [HNE.out], 0, rfl⟩
end Go.Proofs.YtjhomlnlmpdklaaGreatDoor

set_option linter.unusedVariables false
set_option linter.unusedSimpArgs false
namespace Go.Proofs.YtjhomlnlmpdklaaGreatDoor
open Go.RowKit
open Go.Lib hiding intOf
attribute [local go_sem ↓] Go.wp_at_zero Go.wp_at_succ
def ex13 : ByteArray := ⟨#[98, 101, 103, 105, 110, 32, 115, 10, 119, 114, 105, 116, 101, 32, 115, 32, 120, 32, 49, 10, 114, 101, 97, 100, 32, 115, 32, 120, 32, 50, 10, 111, 107, 32, 115]⟩
def hist13 : Hst := ⟨[⟨#[115]⟩], [⟨#[120]⟩], [⟨0, 1, [⟨true, 0, 1, 1⟩, ⟨false, 0, 1, 2⟩]⟩]⟩
def evs13 : List Ev6 := [⟨1, ⟨#[115]⟩, ⟨#[]⟩, 0, 0, 1⟩, ⟨3, ⟨#[115]⟩, ⟨#[120]⟩, 1, 1, 2⟩, ⟨2, ⟨#[115]⟩, ⟨#[120]⟩, 1, 2, 3⟩, ⟨4, ⟨#[115]⟩, ⟨#[]⟩, 0, 0, 4⟩]
theorem ex13_log : logParse ex13 = (evs13, 0, 0) := by kernel_rfl
theorem ex13_rows : (linesOf (by_ ex13)).all (fun x => decide (x.length ≤ 65535)) = true := by kernel_rfl
theorem ex13_h : pairH evs13 = hist13 := by kernel_rfl
theorem ex13_e : pairE evs13 = 0 := by kernel_rfl
theorem ex13_l : pairL evs13 = 0 := by kernel_rfl
theorem ex13_show : showR ex13 = (hist13, 0, 0) := by
 unfold showR
 rw [ex13_log]
 dsimp only
 rw [if_pos rfl, ex13_h, ex13_e, ex13_l]
theorem ex13_own : ownO hist13 0 1 = some (1, 1) := by decide +kernel
theorem ex13_bad : badH hist13 0 = [1] := by decide +kernel
theorem ex13_wrt : wrtH hist13 0 = [0] := by decide +kernel
theorem ex13_small : HSmall hist13 where
 s := fun x hx => by
  simp [hist13] at hx
  subst hx
  decide
 k := fun x hx => by
  simp [hist13] at hx
  subst hx
  decide
 ns := by decide
 nk := by decide
 nl := by decide
 no := fun t ht => by
  simp [hist13] at ht
  subst ht
  simp
set_option maxRecDepth 10000 in
set_option maxHeartbeats 4000000 in
theorem works13_any (w : World) (hT : UTabs w) (hM : MLen w) (hV : Verbs w) :
  Calls Tryz.prog 14 #[] w fun e w' => e = .returned (.bool true) ∧ Only [] w w' := by
 have HP := Lib.hid (fun w' (O : Only [] w w') => sparse_any ex13 w' (by decide) (fun x hx => by simpa using List.all_eq_true.1 ex13_rows x hx) (by rw [ex13_log]; decide) (fun x hx => by
  rw [ex13_log] at hx
  simp [evs13] at hx
  rcases hx with rfl | rfl | rfl | rfl <;> exact ⟨by decide, by decide⟩) (hT.only O) (hM.only O) (hV.only O))
 have HI := Lib.hid (fun (A0 A1 A2 : Option Addr) (B : Nat) w' (hA : HAt w' B A0 A1 A2 hist13) (O : Only [] w w') => (⟨hA, rfl, rfl, rfl, ex13_small, hT.only O⟩ : HIn w' B A0 A1 A2 1 1 1 hist13))
 have HOW := Lib.hid (fun (A0 A1 A2 : Option Addr) (c0 c1 c2 B : Nat) w' (hA : HIn w' B A0 A1 A2 1 1 1 hist13) => iown_any A0 A1 A2 1 1 1 c0 c1 c2 B hist13 0 1 w' hA)
 have HBD := Lib.hid (fun (A0 A1 A2 : Option Addr) (c0 c1 c2 B : Nat) w' (hA : HIn w' B A0 A1 A2 1 1 1 hist13) => ibad_any A0 A1 A2 1 1 1 c0 c1 c2 B hist13 0 w' hA)
 have HWR := Lib.hid (fun (A0 A1 A2 : Option Addr) (c0 c1 c2 B : Nat) w' (hA : HIn w' B A0 A1 A2 1 1 1 hist13) => iwriters_any A0 A1 A2 1 1 1 c0 c1 c2 B hist13 0 w' hA)
 rw [ex13_show] at HP
 rw [ex13_own] at HOW
 rw [ex13_bad] at HBD
 rw [ex13_wrt] at HWR
 unfold ex13 at HP
 unfold hval at HOW HBD HWR
 clear hT hM hV
 go_enter Tryz.func14, Tryz.ntmps14
 go_wp2_with fail
 refine (HP.out _ (Only.refl [] w)).mono ?_
 rintro e w2 ⟨B0, B1, B2, d0, d1, d2, ⟨rfl, hA⟩, O2⟩
 have HA := Lib.hid hA
 have HO2 := Lib.hid O2
 clear hA O2 HP
 rw [show hist13.ss.length = 1 from rfl, show hist13.ks.length = 1 from rfl, show hist13.l.length = 1 from rfl]
 go_upto_region 2 with (fail)
 have HO3 := Lib.hid (HO2.out.alloc (.cells #[.slice B0 1 d0, .slice B1 1 d1, .slice B2 1 d2] 25))
 have HB3 := Lib.hid (Blk.made w2 25 #[.slice B0 1 d0, .slice B1 1 d1, .slice B2 1 d2])
 have HI3 := Lib.hid (HI.out B0 B1 B2 w2.heap.size _ (HA.out.only ((Only.refl [] w2).alloc (.cells #[.slice B0 1 d0, .slice B1 1 d1, .slice B2 1 d2] 25)) (by simp)) HO3.out)
 clear HA HO2 HI
 generalize (w2.alloc (.cells #[.slice B0 1 d0, .slice B1 1 d1, .slice B2 1 d2] 25)) = w3 at *
 generalize hg2 : w2.heap.size = g2 at *
 have l3 := HB3.out.lt
 have y0 := HB3.out.at_ 0
 have y1 := HB3.out.at_ 1
 have y2 := HB3.out.at_ 2
 simp at y0 y1 y2
 go_wp2_with fail
 refine (HOW.out _ _ _ _ _ _ _ _ HI3.out).mono ?_
 rintro e w4 ⟨rfl, O4⟩
 rw [show optT (some ((1 : Int), (1 : Int))) = .tuple #[.agg #[.int .i64 1, .int .i64 1], .bool true] from rfl]
 have HO4 := Lib.hid (HO3.out.trans O4)
 have HB4 := Lib.hid (O4.blk HB3.out (by simp))
 have HI4 := Lib.hid (HI3.out.same O4)
 clear O4 HOW l3 y0 y1 y2 HI3 HB3 HO3
 go_upto_region 3 with (fail)
 have HX := Lib.hid ((Only.refl [] w4).alloc (.cells #[.int .i64 1, .int .i64 1] 30))
 have HV5 := Lib.hid (Blk.made w4 30 #[.int .i64 1, .int .i64 1])
 have HO5 := Lib.hid (HO4.out.trans HX.out)
 have HB5 := Lib.hid (HX.out.blk HB4.out (by simp))
 have HI5 := Lib.hid (HI4.out.same HX.out)
 clear HX HO4 HB4 HI4
 have l5 := HB5.out.lt
 have y0 := HB5.out.at_ 0
 have y1 := HB5.out.at_ 1
 have y2 := HB5.out.at_ 2
 have lv := HV5.out.lt
 have u1 := HV5.out.at_ 1
 simp at y0 y1 y2 u1
 generalize (w4.alloc (.cells #[.int .i64 1, .int .i64 1] 30)) = w5 at *
 generalize w4.heap.size = gv at *
 go_wp2_with fail
 refine (HBD.out _ _ _ _ _ _ _ _ HI5.out).mono ?_
 rintro e w6 ⟨A6, c6, ⟨rfl, hr6⟩, O6⟩
 have HR6 := Lib.hid hr6
 have HO6 := Lib.hid (HO5.out.trans O6)
 have HB6 := Lib.hid (O6.blk HB5.out (by simp))
 have HV6 := Lib.hid (O6.blk HV5.out (by simp))
 have HI6 := Lib.hid (HI5.out.same O6)
 clear hr6 O6 l5 y0 y1 y2 lv u1 HO5 HB5 HV5 HI5 HBD
 go_wp2_with fail
 refine (sameInts_any _ _ _ _ _ _ [1] [1] _ _ _ (HR6.out.only ((Only.refl [] w6).alloc (.cells #[.int .i64 1] 3)) (by simp)) (row_lit w6 3 #[.int .i64 1]) rfl rfl (by simp) (by simp)).mono ?_
 rintro e w7 ⟨rfl, q7, rfl⟩
 rw [decide_eq_true (rfl : ([1] : List Int) = [1])]
 have HX := Lib.hid (((Only.refl [] w6).alloc (.cells #[.int .i64 1] 3)).drewN q7)
 have HO7 := Lib.hid (HO6.out.trans HX.out)
 have HB7 := Lib.hid (HX.out.blk HB6.out (by simp))
 have HV7 := Lib.hid (HX.out.blk HV6.out (by simp))
 have HI7 := Lib.hid (HI6.out.same HX.out)
 clear HX HO6 HB6 HV6 HI6 HR6
 generalize ((w6.alloc (.cells #[.int .i64 1] 3)).drewN q7) = w7 at *
 have l5 := HB7.out.lt
 have y0 := HB7.out.at_ 0
 have y1 := HB7.out.at_ 1
 have y2 := HB7.out.at_ 2
 have lv := HV7.out.lt
 have u1 := HV7.out.at_ 1
 simp at y0 y1 y2 u1
 go_wp2_with fail
 refine (HWR.out _ _ _ _ _ _ _ _ HI7.out).mono ?_
 rintro e w8 ⟨A8, c8, ⟨rfl, hr8⟩, O8⟩
 have HR8 := Lib.hid hr8
 have HO8 := Lib.hid (HO7.out.trans O8)
 clear hr8 O8 l5 y0 y1 y2 lv u1 HO7 HB7 HV7 HI7 HWR
 go_wp2_with fail
 refine (sameInts_any _ _ _ _ _ _ [0] [0] _ _ _ (HR8.out.only ((Only.refl [] w8).alloc (.cells #[.int .i64 0] 3)) (by simp)) (row_lit w8 3 #[.int .i64 0]) rfl rfl (by simp) (by simp)).mono ?_
 rintro e w9 ⟨rfl, q9, rfl⟩
 rw [decide_eq_true (rfl : ([0] : List Int) = [0])]
 have HZ := Lib.hid ((HO8.out.alloc (.cells #[.int .i64 0] 3)).drewN q9)
 go_wp2
 go_ret
 exact ⟨rfl, HZ.out⟩
end Go.Proofs.YtjhomlnlmpdklaaGreatDoor

set_option linter.unusedVariables false
set_option linter.unusedSimpArgs false
namespace Go.Proofs.YtjhomlnlmpdklaaGreatDoor
theorem mem_bdL {l : List Op4} {j : Nat} {o : Op4} (h : l[j]? = some o) : decide ((j : Int) ∈ bdL l) = badO l j o := by
 rw [Bool.eq_iff_iff, decide_eq_true_eq]
 unfold bdL
 rw [List.mem_map]
 constructor
 ·rintro ⟨⟨o', j'⟩, hm, he⟩
  rw [List.mem_filter] at hm
  have hj : j' = j := Int.ofNat.inj he
  subst hj
  have := List.mem_zipIdx_iff_getElem?.1 hm.1
  rw [h] at this
  obtain rfl := Option.some.inj this
  exact hm.2
 ·intro hb
  exact ⟨(o, j), List.mem_filter.2 ⟨List.mem_zipIdx_iff_getElem?.2 h, hb⟩, rfl⟩
theorem mem_which {p : Tx → Bool} {l : List Tx} {i : Nat} {t : Tx} (h : l[i]? = some t) : decide ((i : Int) ∈ whichL p l) = p t := by
 rw [Bool.eq_iff_iff, decide_eq_true_eq]
 unfold whichL
 rw [List.mem_map]
 constructor
 ·rintro ⟨⟨o', j'⟩, hm, he⟩
  rw [List.mem_filter] at hm
  have hj : j' = i := Int.ofNat.inj he
  subst hj
  have := List.mem_zipIdx_iff_getElem?.1 hm.1
  rw [h] at this
  obtain rfl := Option.some.inj this
  exact hm.2
 ·intro hb
  exact ⟨(t, i), List.mem_filter.2 ⟨List.mem_zipIdx_iff_getElem?.2 h, hb⟩, rfl⟩
theorem bad_has {h : Hst} {i j : Nat} {t : Tx} {o : Op4} (hm : mayH h = true) (ht : h.l[i]? = some t) (ho : t.ops[j]? = some o) :
  decide ((j : Int) ∈ badH h (i : Int)) = (!o.wr && ((ownO h (i : Int) (j : Int)).isSome && (!decide (o.vk = 2) && !decide ((o.vk, o.vn) = (ownO h (i : Int) (j : Int)).getD (0, 0))))) := by
 have htx := txAt_yes hm ht
 rw [bad_some htx, mem_bdL ho, own_some (opAt_yes htx ho)]
 rw [show ((j : Int).toNat) = j from by simp]
 rfl
theorem outer_at {h : Hst} {i j : Nat} {t : Tx} {o : Op4} (hm : mayH h = true) (ht : h.l[i]? = some t) (ho : t.ops[j]? = some o) : outerB h (i : Int) (j : Int) = (!o.wr && !(ownO h (i : Int) (j : Int)).isSome) := by
 have htx := txAt_yes hm ht
 rw [outer_some (opAt_yes htx ho), own_some (opAt_yes htx ho)]
theorem wrt_has {h : Hst} {i : Nat} {t : Tx} {key : Int} (hm : mayH h = true) (ht : h.l[i]? = some t) : decide ((i : Int) ∈ wrtH h key) = ((leavesO h (i : Int) key).isSome && !decide (t.f = 2)) := by
 unfold wrtH
 rw [if_pos hm, mem_which ht, leaves_some (txAt_yes hm ht)]
 rfl
end Go.Proofs.YtjhomlnlmpdklaaGreatDoor

set_option linter.unusedVariables false
set_option linter.unusedSimpArgs false
namespace Go.Proofs.YtjhomlnlmpdklaaGreatDoor
open Go.RowKit
open Go.Lib
attribute [local go_sem ↓] Go.wp_at_zero Go.wp_at_succ
set_option maxHeartbeats 1000000 in
theorem hasInt_any (A : Option Addr) (n c B : Nat) (zs : List Int) (x : Int) (w : World) (hn : zs.length = n) (hnm : n ≤ 1000000) (hA : Row w B A (zs.map (Value.int .i64))) :
  Calls Tryz.prog 23 #[.slice A n c, .int .i64 x] w fun e w' => e = .returned (.bool (decide (x ∈ zs))) ∧ w = w' := by
 have HA := Lib.hid hA
 have HN := Lib.hid hn
 clear hA hn
 go_enter Tryz.func23, Tryz.ntmps23
 go_wp2_with fail
 go_loopw [5] (fun iv wr => ∃ k : Nat, iv = .int .i64 k ∧ k ≤ n ∧ Hid (∀ j y, j < k → zs[j]? = some y → y ≠ x) ∧ wr = w) (fun iv _ => n - (intOf iv).toNat)
 case atStart => exact ⟨0, rfl, by omega, Lib.hid (fun j y h => by omega), rfl⟩
 case round =>
  obtain ⟨k, rfl, hk, hno, rfl⟩ := hrel
  by_cases hlt : k < n
  ·obtain ⟨b, off, rfl, -, hbw, hc⟩ := HA.out.open_ (k := k) (by rw [List.length_map, HN.out]; exact hlt)
   obtain ⟨y, hy⟩ : ∃ y, zs[k]? = some y := ⟨_, List.getElem?_eq_getElem (by rw [HN.out]; exact hlt)⟩
   have hcy : wr.cell? ⟨b, off + k, none⟩ = some (.int .i64 y) := hc k _ (by rw [List.getElem?_map, hy]; rfl)
   have h01 : (k : Int) < (n : Int) := by omega
   have hk0 : (0 : Int) ≤ (k : Int) := Int.natCast_nonneg _
   have hwk : IntKind.i64.wrap ((k : Int) + 1) = (k : Int) + 1 := IntWalk.i64_in _ (by omega)
   have HY := Lib.hid hy
   clear hc hy
   by_cases hxy : y = x
   ·subst hxy
    have HM : Hid (decide (y ∈ zs) = true) := Lib.hid (decide_eq_true (List.mem_of_getElem? HY.out))
    go_wp2
    go_ret
    exact ⟨by rw [HM.out]; rfl, rfl⟩
   ·have hb : (y == x) = false := by simpa using hxy
    have HXY := Lib.hid hxy
    clear hxy
    go_wp2
    go_roundw
    case rel =>
     refine ⟨k + 1, by go_num, by omega, Lib.hid (fun j y' hj hy' => ?_), trivial⟩
     by_cases h : j < k
     ·exact hno.out j y' h hy'
     ·obtain rfl : j = k := by omega
      rw [HY.out] at hy'
      obtain rfl := Option.some.inj hy'
      exact HXY.out
    case measure => simp [intOf]; omega
  ·have hkn : k = n := by omega
   subst hkn
   have hd : decide ((k : Int) < (k : Int)) = false := by simp
   have H : Hid (decide (x ∈ zs) = false) := Lib.hid (decide_eq_false (fun hm => by
    obtain ⟨j, hj⟩ := List.mem_iff_getElem?.1 hm
    exact hno.out j x (by rw [← HN.out]; exact (List.getElem?_eq_some_iff.1 hj).1) hj rfl))
   go_wp2
   go_ret
   exact ⟨by rw [H.out]; rfl, rfl⟩
end Go.Proofs.YtjhomlnlmpdklaaGreatDoor

set_option linter.unusedVariables false
set_option linter.unusedSimpArgs false
namespace Go.Proofs.YtjhomlnlmpdklaaGreatDoor
open Go.RowKit
open Go.Lib hiding intOf
attribute [local go_sem ↓] Go.wp_at_zero Go.wp_at_succ
end Go.Proofs.YtjhomlnlmpdklaaGreatDoor

set_option linter.unusedVariables false
set_option linter.unusedSimpArgs false
namespace Go.Proofs.YtjhomlnlmpdklaaGreatDoor
open Go.RowKit
set_option maxHeartbeats 400000 in
theorem rmay_any (k n : Int) (w : World) : Calls Tryz.prog 58 #[.agg #[.int .i64 k, .int .i64 n]] w fun e w' => e = .returned (.bool (mayB k n)) ∧ Only [] w w' := by
 unfold mayB
 by_cases h1 : k = 1
 ·subst h1
  go_enter Tryz.func58, Tryz.ntmps58
  go_wp2
  go_ret
  exact ⟨by simp, (Only.refl _ _).alloc _⟩
 ·have h1' : (k == 1) = false := by simp [h1]
  have H1 := Lib.hid h1
  clear h1
  by_cases h0 : k = 0
  ·subst h0
   go_enter Tryz.func58, Tryz.ntmps58
   go_wp2
   go_ret
   exact ⟨ret_boolv (by simp; try (rw [Bool.eq_iff_iff]; simp)), (Only.refl _ _).alloc _⟩
  ·have h0' : (k == 0) = false := by simp [h0]
   have H0 := Lib.hid h0
   clear h0
   by_cases h2 : k = 2
   ·subst h2
    go_enter Tryz.func58, Tryz.ntmps58
    go_wp2
    go_ret
    exact ⟨ret_boolv (by simp; try (rw [Bool.eq_iff_iff]; simp)), (Only.refl _ _).alloc _⟩
   ·have h2' : (k == 2) = false := by simp [h2]
    have H2 := Lib.hid h2
    clear h2
    go_enter Tryz.func58, Tryz.ntmps58
    go_wp2
    go_ret
    exact ⟨ret_boolv (by simp [H0.out, H1.out, H2.out]), (Only.refl _ _).alloc _⟩
end Go.Proofs.YtjhomlnlmpdklaaGreatDoor
