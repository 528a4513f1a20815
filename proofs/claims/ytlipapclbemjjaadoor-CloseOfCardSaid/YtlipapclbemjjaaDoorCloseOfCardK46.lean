/- The package close: From. -/
import Derived.Test.YtlipapclbemjjaaDoorCloseOfCardK45
import Derived.Test.YtlipapclbemjjaaDoorCloseOfCardK41
set_option linter.unusedVariables false
set_option linter.unusedSimpArgs false
namespace Go.Proofs.YtlipapclbemjjaaDoor
open Go.RowKit
attribute [local go_sem ↓] Go.wp_at_zero Go.wp_at_succ
def fromR (n a : Int) (l : List (Int × Int)) : List Int × Int := if mayL n l = true then (if 0 ≤ a ∧ a < n then (reachL n.toNat l a.toNat, 0) else ([], 2)) else ([], 2)
def qLen : Value → Nat
 | .slice _ n _ => n
 | _ => 0
def bitAt (w : World) (p m : Nat) : Bool := match w.cell? ⟨p, m / 64, none⟩ with
 | some (.int _ x) => x.toNat.testBit (m % 64)
 | _ => false
def leftB (w : World) (p n : Nat) : Nat := ((List.range n).filter fun i : Nat => !bitAt w p i).length
theorem leftB_found {w : World} {p n : Nat} {K : List Int} (hn : n ≤ 500) (h : BSet w p (makeW K)) (hK : ∀ z ∈ K, 0 ≤ z ∧ z < 500) : leftB w p n = leftK n K := by
 unfold leftB leftK
 congr 1
 refine List.filter_congr fun m hm => ?_
 have hm' := List.mem_range.1 hm
 congr 1
 rw [← (make_fits K hK).2 m (by omega)]
 unfold bitAt bitW
 have := h.cell (m / 64) (by omega)
 rw [this]
 simp
theorem islice_tail (b off t c : Nat) (h : 1 ≤ t) (hc : t ≤ c) (W : World) : (Instr.slice 28 (.slice (some ⟨b, off, none⟩) t c) (some (.int .i64 1)) none none).run Tryd.prog W = .ok (.slice (some ⟨b, if c = 1 then off else off + 1, none⟩) (t - 1) (c - 1)) W := by
 rw [run_slice_l (P := Tryd.prog) W 28 (some ⟨b, off, none⟩) t c (by kernel_rfl) .i64 (1 : Int) (by omega) (by omega)]
 have hs : (sizeOf (Tryd.prog.elem 28)).run Tryd.prog W = .ok 1 W := by kernel_rfl
 rw [hs]
 by_cases hc1 : c = 1 <;> simp [Result.andThen, sliced, hc1, Addr.add]
set_option maxRecDepth 10000 in
set_option maxHeartbeats 8000000 in
theorem cfrom_any (n a : Int) (A : Option Addr) (m c : Nat) (l : List (Int × Int)) (w : World) (hr : Row w w.heap.size A (edgeC l)) (hl : l.length = m) (hm : m ≤ 1000) (hT : Tab w) (h00 : 0 < w.heap.size) :
  Calls Tryd.prog 9 #[.int .i64 n, .int .i64 a, .slice A m c] w fun e w' => ∃ A' c', (e = .returned (.tuple #[.slice A' (fromR n a l).1.length c', .int .i64 (fromR n a l).2]) ∧ w'.ownsRow w.heap.size 3 1 (.slice A' (fromR n a l).1.length c') (fromR n a l).1.length ((fromR n a l).1.map (Value.int .i64))) ∧ Only [] w w' := by
 have bad : mayL n l = false → fromR n a l = ([], 2) := fun h => by unfold fromR; rw [h]; rfl
 by_cases hn : n < 0 ∨ 500 < n
 ·have hb : mayL n l = false := by unfold mayL; rw [decide_eq_false (by omega)]; rfl
  rw [bad hb]
  have HG := Lib.hid (gof_no n A m c w hn)
  clear bad hb hr hn
  go_enter Tryd.func9, Tryd.ntmps9
  go_wp2_with fail
  refine (HG.out).mono ?_
  rintro e w1 ⟨rfl, rfl⟩
  go_wp2
  exact bodyPost_ret (v := .tuple #[.slice none 0 0, .int .i64 2]) (by simp [results, Tryd.results9, go_sem]) rfl ⟨none, 0, ⟨rfl, World.ownsRow_nil _ _ _ _⟩, Only.refl [] _⟩
 ·obtain ⟨q, rfl⟩ : ∃ q : Nat, n = q := ⟨n.toNat, by omega⟩
  have hq : q ≤ 500 := by omega
  have HG := Lib.hid (gof_any q A m c l w hq hr hl hm)
  have HT := Lib.hid hT
  have h00' := h00
  have hmy : mayL (q : Int) l = l.all (goodE q) := by unfold mayL; rw [decide_eq_true (by omega), Bool.true_and, Int.toNat_natCast]
  clear hr hn hT hl
  cases hgd : l.all (goodE q) with
  | false =>
   rw [bad (by rw [hmy]; exact hgd)]
   have HGD := Lib.hid hgd
   clear hgd hmy bad
   go_enter Tryd.func9, Tryd.ntmps9
   go_wp2_with fail
   refine (HG.out).mono ?_
   rintro e w1 ⟨O1, ⟨-, rfl⟩ | ⟨hgd, -, -⟩⟩
   ·have HO1 := Lib.hid O1
    clear HG O1
    go_wp2
    exact bodyPost_ret (v := .tuple #[.slice none 0 0, .int .i64 2]) (by simp [results, Tryd.results9, go_sem]) rfl ⟨none, 0, ⟨rfl, World.ownsRow_nil _ _ _ _⟩, HO1.out⟩
   ·rw [HGD.out] at hgd
    cases hgd
  | true =>
   by_cases har : 0 ≤ a ∧ a < (q : Int)
   ·obtain ⟨s, rfl⟩ : ∃ s : Nat, a = s := ⟨a.toNat, by omega⟩
    have hsq : s < q := by omega
    have hres : fromR (q : Int) (s : Int) l = (reachL q l s, 0) := by unfold fromR; rw [hmy, hgd, if_pos rfl, if_pos har, Int.toNat_natCast, Int.toNat_natCast]
    rw [hres]
    dsimp only
    have HWF := Lib.hid (wf_good hgd)
    have hs : ∀ e, e ∈ (ofS q l).2.2 ↔ e ∈ l := fun e => by rw [(rel_of hq l).2]; exact mem_rof hgd e
    obtain ⟨N, hN⟩ : ∃ N : Nat → List Int, ∀ i : Nat, nextL q (ofS q l).2.2 (i : Int) = N i := ⟨fun i => nextL q (ofS q l).2.2 (i : Int), fun i => rfl⟩
    have HNX := Lib.hid (fun (w1 : World) (fp : List Nat) (i : Nat) (hi : i < q) (hz : w.heap.size ≤ w1.heap.size) (hTw : Tab w1) (hGr : Gr w1 w.heap.size q (ofS q l).1 (ofS q l).2.1 (ofS q l).2.2 fp) => by
     have := gnext_some w.heap.size q (ofS q l).1 (ofS q l).2.1 (ofS q l).2.2 fp i w1 hGr hi hTw (Nat.lt_of_lt_of_le h00' hz)
     rw [rel_next (rel_of hq l).1 hq i hi, hN i] at this
     exact this)
    have HNM : Hid (∀ i m : Nat, decide ((m : Int) ∈ N i) = edB l i m) := Lib.hid (fun i m => by rw [← hN]; exact next_ed (HWF.out) hs i m)
    have HNR : Hid (∀ i : Nat, ∀ z ∈ N i, 0 ≤ z ∧ z < (q : Int)) := Lib.hid (fun i z hz => by rw [← hN] at hz; exact nextL_range z hz)
    have HNL : Hid (∀ i : Nat, (N i).length ≤ q) := Lib.hid (fun i => by rw [← hN]; exact nextL_len q _ _)
    have HGD := Lib.hid hgd
    clear hres hgd hmy bad hs hN har
    obtain ⟨i0, hi, hz0, hz1, hz2⟩ := info_parts info_int
    have hs0 : (0 : Int) ≤ (s : Int) := Int.natCast_nonneg _
    have hsq1 : ¬ (q : Int) ≤ (s : Int) := by omega
    have hsq2 : ¬ (s : Int) < 0 := by omega
    have hsq3 : decide (q ≤ s) = false := by simp; omega
    go_enter Tryd.func9, Tryd.ntmps9
    go_wp2_with fail
    refine (HG.out).mono ?_
    rintro e w1 ⟨O1, ⟨hgd, -⟩ | ⟨-, rfl, fp, hGr, hfp⟩⟩
    ·rw [HGD.out] at hgd
     cases hgd
    have HO1 := Lib.hid O1
    have HT1 := Lib.hid (fun (W : World) (O : Only [] w1 W) => And.intro ((HT.out.only h00' O1 (by simp)).only (Nat.lt_of_lt_of_le h00' O1.size) O (by simp)) (Nat.lt_of_lt_of_le h00' (Nat.le_trans O1.size O.size)))
    have hs1 := O1.size
    have HNX1 := Lib.hid (fun (W : World) (O : Only [] w1 W) (i : Nat) (hi : i < q) => HNX.out W fp i hi (Nat.le_trans hs1 O.size) (HT1.out W O).1 (hGr.only O (by simp)))
    clear HG hGr hfp O1 HGD HNX HT
    go_wp2_with fail
    refine (new_any none 0 0 [] w1 Row.nil rfl (by omega)).mono ?_
    rintro e w2 ⟨rfl, hB, O2⟩
    have HB2 := Lib.hid hB
    have HO2 := Lib.hid O2
    clear hB O2
    go_wp2_with fail
    have HQ0 := Lib.hid (OwnQ.lit (e := 3) w2 w1.heap.size HO2.out.size (.int .i64 (s : Int)))
    have HO3 := Lib.hid (HO2.out.alloc (.cells #[.int .i64 (s : Int)] 3))
    have HB3 : Hid (BSet (w2.alloc (.cells #[.int .i64 (s : Int)] 3)) w1.heap.size (makeW [])) := Lib.hid (HB2.out.only ((Only.refl [] w2).alloc _) (by simp))
    have HK0 := Lib.hid (BfsK.start (n := q) (l := l) hsq)
    generalize (w2.alloc (.cells #[.int .i64 (s : Int)] 3)) = w3 at *
    clear HB2 HO2
    generalize w2.heap.size = b0 at *
    obtain ⟨p, hp⟩ : ∃ p, p = w1.heap.size := ⟨_, rfl⟩
    rw [← hp] at HQ0 HB3 ⊢
    have HP := Lib.hid hp
    clear hp
    go_loopw [11] (fun tv wr => ∃ (K T : List Int) (b off t c : Nat), tv = .slice (some ⟨b, off, none⟩) t c ∧ Hid (T.length = t) ∧ Hid (OwnQ wr p 3 b off c (T.map (Value.int .i64))) ∧ Hid (BSet wr p (makeW K)) ∧ Hid (BfsK q l s K T) ∧ Hid (Only [] w1 wr)) (fun tv wr => 2 * leftB wr p q + qLen tv)
    case atStart => exact ⟨[], [(s : Int)], b0, 0, 1, 1, rfl, Lib.hid rfl, HQ0, HB3, HK0, HO3⟩
    case round =>
     obtain ⟨K, T, b, off, t, c, rfl, HTL, hQ, hB, hK, hO⟩ := hrel
     clear HQ0 HB3 HK0 HO3
     have HKR : Hid (∀ z ∈ K, 0 ≤ z ∧ z < 500) := Lib.hid (fun z hz => by obtain ⟨u, rfl, hu, -⟩ := hK.out.mr.way z hz; omega)
     have HLB := Lib.hid (leftB_found hq hB.out HKR.out)
     cases T with
     | nil =>
      obtain rfl : t = 0 := HTL.out.symm
      have HAL := Lib.hid (all_some p _ wr hB.out (HT1.out wr hO.out).1 (HT1.out wr hO.out).2)
      rw [found_all hq HWF.out hK.out] at HAL
      clear HKR HLB hK hQ hB
      go_wp2_with fail
      refine (HAL.out).mono ?_
      rintro e w5 ⟨v, ⟨rfl, hv⟩, O5⟩
      have HV := Lib.hid (own_lower hv (Nat.le_trans hs1 hO.out.size))
      have HOO := Lib.hid (HO1.out.trans (hO.out.trans O5))
      obtain ⟨A', c', rfl, -, -, -, -⟩ := own_row hv
      clear hv O5 HAL hO
      go_wp2
      exact bodyPost_ret (v := .tuple #[.slice A' (reachL q l s).length c', .int .i64 0]) (by simp [results, Tryd.results9, go_sem]) rfl ⟨A', c', ⟨rfl, HV.out⟩, HOO.out⟩
     | cons x0 T =>
      obtain ⟨x, rfl, -, -⟩ := hK.out.tod x0 List.mem_cons_self
      obtain ⟨hJ0, hxq, hxa⟩ := hK.out.pop (N := N x)
      have HJ0 := Lib.hid hJ0
      have HXA := Lib.hid hxa
      have ht0 : 0 < t := by have := HTL.out; simp only [List.length_cons] at this; omega
      have hti : (0 : Int) < (t : Int) := by omega
      have HT2 : Hid (T.length = t - 1) := Lib.hid (by have := HTL.out; simp only [List.length_cons] at this; omega)
      have htc : t ≤ c := by have h1 := hQ.out.le; have h2 := HTL.out; rw [List.length_map] at h1; omega
      have hc0 := hQ.out.cell (j := 0) (u := .int .i64 (x : Int)) rfl
      have hbl := hQ.out.lt
      rw [Nat.add_zero] at hc0
      have HQT := Lib.hid (by have := hQ.out; rw [List.map_cons] at this; exact this.tail)
      have hsl := fun W => islice_tail b off t c ht0 htc W
      have HNW := Lib.hid (HNX1.out wr hO.out x hxq)
      have hnl := HNL.out x
      have HNX2 := Lib.hid (HNM.out x)
      have HRX := Lib.hid (HNR.out x)
      have htq : t ≤ 501 := by have h1 := hK.out.len; have h2 := HTL.out; omega
      clear hK hQ hJ0 hxa
      generalize (if c = 1 then off else off + 1) = off2 at *
      go_wp2_with fail
      refine (HNW.out).mono ?_
      rintro e w4 ⟨v, ⟨rfl, hv⟩, O4⟩
      obtain ⟨A3, c3, rfl, -, -, -, -⟩ := own_row hv
      have HO4 := Lib.hid (hO.out.trans O4)
      have HQ4 := Lib.hid (HQT.out.only O4 (by simp))
      have HB4 := Lib.hid (hB.out.only O4 (by simp))
      have HX4 := Lib.hid hv
      have HXB : Hid (w1.heap.size ≤ wr.heap.size) := Lib.hid hO.out.size
      have HAP4 : Hid (∀ g ∈ (Value.slice A3 (N x).length c3).ownBlock.toList, g ≠ b) := Lib.hid (fun g hg e => by have := (hv.lt g (by simpa using hg)).1; omega)
      clear hv O4 HNW HQT hB hO hc0
      generalize N x = X at *
      obtain ⟨d, hd⟩ : ∃ d, d = X.length := ⟨_, rfl⟩
      rw [← hd] at HX4 HAP4 hnl
      simp only [← hd]
      have HXL := Lib.hid hd
      clear hd
      obtain ⟨c4, hc4⟩ : ∃ c4, c4 = c - 1 := ⟨_, rfl⟩
      obtain ⟨t4, ht4⟩ : ∃ t4, t4 = t - 1 := ⟨_, rfl⟩
      rw [← hc4] at HQ4 
      rw [← ht4] at HT2
      simp only [← hc4, ← ht4] at hsl
      have ht41 : t4 + 1 ≤ t := by omega
      clear hc4 ht4
      go_wp2_with fail
      have HLE0 : Hid (leftK q K ≤ leftK q K) := Lib.hid (Nat.le_refl _)
      have HSUM0 : Hid (t4 + leftK q K = t4 + leftK q K) := Lib.hid rfl
      obtain ⟨k0, hk0⟩ : ∃ k0, k0 = leftK q K := ⟨_, rfl⟩
      rw [← hk0] at HLB
      have HK0 := Lib.hid hk0
      clear hk0 HLE0 HSUM0
      go_loopw [11, 46] (fun tv jv wr => ∃ (K' T' : List Int) (b off t' c j : Nat), tv = .slice (some ⟨b, off, none⟩) t' c ∧ jv = .int .i64 j ∧ j ≤ d ∧ Hid (T'.length = t') ∧ Hid (OwnQ wr p 3 b off c (T'.map (Value.int .i64))) ∧ Hid (BSet wr p (makeW K')) ∧ Hid (BfsJ q l s x X K' T' j) ∧ Hid (wr.ownsRow w1.heap.size 3 1 (.slice A3 d c3) d (X.map (Value.int .i64))) ∧ Hid (∀ g ∈ (Value.slice A3 d c3).ownBlock.toList, g ≠ b) ∧ Hid (x = s ∨ (x : Int) ∈ K') ∧ Hid (t' + leftK q K' = t4 + k0 ∧ leftK q K' ≤ k0) ∧ Hid (Only [] w1 wr)) (fun _ jv _ => d - (intOf jv).toNat)
      case atStart => exact ⟨K, T, b, off2, t4, c4, 0, rfl, rfl, by omega, HT2, HQ4, HB4, HJ0, Lib.hid (own_lower HX4.out HXB.out), HAP4, HXA, Lib.hid ⟨by rw [HK0.out], by rw [HK0.out]; exact Nat.le_refl _⟩, HO4⟩
      case round =>
       obtain ⟨K', T', b', off', t', c', j, rfl, rfl, hj, hTL, hQ, hB, hJ, hX, hAP, hXA, hSM, hO⟩ := hrel
       clear HQ4 HB4 HJ0 HX4 HAP4 HO4
       by_cases hlt : j < d
       ·obtain ⟨y0, hy0⟩ : ∃ y0, X[j]? = some y0 := ⟨_, List.getElem?_eq_getElem (by rw [← HXL.out]; exact hlt)⟩
        obtain ⟨y, rfl⟩ : ∃ y : Nat, y0 = y := ⟨y0.toNat, by have := HRX.out y0 (List.mem_of_getElem? hy0); omega⟩
        have hyq : y < q := by have := HRX.out _ (List.mem_of_getElem? hy0); omega
        have HED : Hid (edR l x y) := Lib.hid (by
         rw [← ed_iff, ← HNX2.out y]
         exact decide_eq_true (List.mem_of_getElem? hy0))
        have hRo := row_of_own hX.out
        obtain ⟨br, of_, rfl, -, hbw, hcell⟩ := hRo.open_ (k := j) (by rw [List.length_map, ← HXL.out]; exact hlt)
        have e0 := hcell j (.int .i64 (y : Int)) (by rw [List.getElem?_map, hy0]; rfl)
        have HKR : Hid (∀ z ∈ K', 0 ≤ z ∧ z < 500) := Lib.hid (fun z hz => by obtain ⟨u, rfl, hu, -⟩ := hJ.out.mr.way z hz; omega)
        have HHS : Hid (Calls Tryd.prog 23 #[.pointer (some ⟨p, 0, none⟩), .int .i64 (y : Int)] wr fun e w' => e = .returned (.bool (decide ((y : Int) ∈ K'))) ∧ wr = w') := Lib.hid (by
         have := has_any p y (makeW K') wr hB.out
         rw [hasW_bit _ y (by omega), (make_fits K' HKR.out).2 y (by omega)] at this
         exact this)
        have HY := Lib.hid hy0
        have h01 : (j : Int) < (d : Int) := by omega
        have hj0 : (0 : Int) ≤ (j : Int) := Int.natCast_nonneg _
        have hwj : IntKind.i64.wrap ((j : Int) + 1) = (j : Int) + 1 := IntWalk.i64_in _ (by omega)
        have ht'q : t' ≤ 500 := by have h1 := hJ.out.len; have h2 := hTL.out; omega
        clear hcell hy0 hRo
        by_cases hin : (y : Int) ∈ K'
        ·have HJN := Lib.hid (hJ.out.skip HY.out hin)
         rw [decide_eq_true hin] at HHS
         clear hin
         go_wp2_with fail
         refine (HHS.out).mono ?_
         rintro e w5 ⟨rfl, rfl⟩
         go_wp2
         go_roundw
         case rel => first | exact ⟨K', T', b', off', t', c', j + 1, rfl, by go_num, by omega, hTL, hQ, hB, HJN, hX, hAP, hXA, hSM, hO⟩ | exact ⟨_, _, ⟨K', T', b', off', t', c', j + 1, rfl, by go_num, by omega, hTL, hQ, hB, HJN, hX, hAP, hXA, hSM, hO⟩, rfl, rfl⟩
         case measure => simp [intOf]; omega
        ·have HJN := Lib.hid (hJ.out.add HWF.out HY.out hXA.out HED.out hin)
         have HKN := Lib.hid (leftK_snoc hyq hin)
         rw [decide_eq_false hin] at HHS
         have HPU := Lib.hid (by
          have := put_any p y (makeW K') wr hB.out
          rw [← makeW_snoc] at this
          exact this)
         have hpb : p ≠ b' := hQ.out.apart hB.out.1 (by decide)
         have HXP : Hid (∀ g ∈ (Value.slice (some ⟨br, of_, none⟩) d c3).ownBlock.toList, g ≠ p) := Lib.hid (fun g hg e => own_apart hX.out hB.out.1 (by decide) (by rw [← e]; exact hg))
         clear hin
         go_wp2_with fail
         refine (HHS.out).mono ?_
         rintro e w5 ⟨rfl, rfl⟩
         go_wp2_with fail
         refine (HPU.out).mono ?_
         rintro e w6 ⟨rfl, hB6, O6⟩
         have HB6 := Lib.hid hB6
         have HQ6 := Lib.hid (hQ.out.only O6 (by simpa using (Ne.symm hpb)))
         have HX6 := Lib.hid (own_only hX.out O6 (fun g hg => by simpa using HXP.out g (by simpa using hg)))
         have HO6 := Lib.hid (hO.out.step O6 (fun i hi hl => by simp at hi; have := HP.out; omega))
         clear hB6 O6 hQ hB hX hO HPU HHS e0 hbw
         have hpw : p ≤ w6.heap.size := by have := HP.out; have := HO6.out.size; omega
         go_wp2_with (
          at_builtin
          refine wpList_append_queue _ rfl (.tmp 57) (.tmp 59) 28 rfl 3 i0 _ 8 Tryd.underlying28 hi hz0 hz1 hz2 rfl p b' off' t' c' (T'.map (Value.int .i64)) (by rfl) (HQ6.out.only ((Only.refl [] w6).alloc (.cells #[.int .i64 (y : Int)] 3)) (by simp)) (by rw [List.length_map]; exact hTL.out) ⟨w6.heap.size, 0, none⟩ 1 (.int .i64 (y : Int)) (by rfl) (by simp) rfl (by unfold maxLen; omega) (by omega) (by simp; omega) ?_
          intro b7 off7 c7 w7 hq7 O7 hb7
          have OA := (Only.refl [] w6).alloc (.cells #[.int .i64 (y : Int)] 3)
          have HQ7 := Lib.hid hq7
          have HB7 := Lib.hid ((HB6.out.only OA (by simp)).only O7 (by simpa using hpb))
          have HX7 := Lib.hid (own_only (own_only HX6.out OA (by simp)) O7 (fun g hg => by simpa using hAP.out g (by rw [hg]; simp)))
          have HAP7 : Hid (∀ g ∈ (Value.slice (some ⟨br, of_, none⟩) d c3).ownBlock.toList, g ≠ b7) := Lib.hid (fun g hg e => by
           rcases hb7 with h | h
           ·exact hAP.out g hg (by rw [e, h])
           ·have h2 := own_lt HX6.out hg
            simp at h
            omega)
          have HO7 := Lib.hid ((HO6.out.trans OA).step O7 (fun i hi hl => by simp at hi; have h1 := HQ6.out.lo; have h2 := HP.out; omega))
          clear hq7 O7 OA)
         go_roundw
         case rel =>
          have HTN : Hid ((T' ++ [(y : Int)]).length = t' + 1) := Lib.hid (by rw [List.length_append, hTL.out]; rfl)
          have HQN : Hid (OwnQ w7 p 3 b7 off7 c7 ((T' ++ [(y : Int)]).map (Value.int .i64))) := Lib.hid (by rw [List.map_append]; exact HQ7.out)
          have HXN : Hid (x = s ∨ (x : Int) ∈ K' ++ [(y : Int)]) := Lib.hid (hXA.out.imp id (List.mem_append_left _))
          have HSN : Hid (t' + 1 + leftK q (K' ++ [(y : Int)]) = t4 + k0 ∧ leftK q (K' ++ [(y : Int)]) ≤ k0) := Lib.hid (by have h1 := hSM.out; have h2 := HKN.out; omega)
          first | exact ⟨_, _, b7, off7, _, c7, j + 1, rfl, by go_num, by omega, HTN, HQN, HB7, HJN, HX7, HAP7, HXN, HSN, HO7⟩ | exact ⟨_, _, ⟨_, _, b7, off7, _, c7, j + 1, rfl, by go_num, by omega, HTN, HQN, HB7, HJN, HX7, HAP7, HXN, HSN, HO7⟩, rfl, rfl⟩
         case measure => simp [intOf]; omega
       ·have hjd : j = d := by omega
        subst hjd
        have hd : decide ((j : Int) < (j : Int)) = false := by simp
        have HKN : Hid (BfsK q l s K' T') := Lib.hid (by
         have h1 := hJ.out
         rw [HXL.out] at h1
         exact h1.end_ HNX2.out)
        have HKR2 : Hid (∀ z ∈ K', 0 ≤ z ∧ z < 500) := Lib.hid (fun z hz => by obtain ⟨u, rfl, hu, -⟩ := hJ.out.mr.way z hz; omega)
        have HLB2 := Lib.hid (leftB_found hq hB.out HKR2.out)
        go_wp2
        go_roundw
        case rel => first | exact ⟨K', T', b', off', t', c', rfl, hTL, hQ, hB, HKN, hO⟩ | exact ⟨_, ⟨K', T', b', off', t', c', rfl, hTL, hQ, hB, HKN, hO⟩, rfl⟩
        case measure =>
         rw [HLB2.out, HLB.out]
         have := hSM.out
         simp [qLen]
         omega
   ·have hres : fromR (q : Int) a l = ([], 2) := by unfold fromR; rw [hmy, hgd, if_pos rfl, if_neg har]
    rw [hres]
    dsimp only
    have HGD := Lib.hid hgd
    have hcase : a < 0 ∨ (¬ a < 0 ∧ (q : Int) ≤ a) := by omega
    clear hres hgd hmy bad har
    rcases hcase with h1 | ⟨h1, h2⟩
    all_goals
     go_enter Tryd.func9, Tryd.ntmps9
     go_wp2_with fail
     refine (HG.out).mono ?_
     rintro e w1 ⟨O1, ⟨hgd, -⟩ | ⟨-, rfl, fp, hGr, hfp⟩⟩
     ·rw [HGD.out] at hgd
      cases hgd
     have HO1 := Lib.hid O1
     clear HG hGr hfp O1
     go_wp2
     exact bodyPost_ret (v := .tuple #[.slice none 0 0, .int .i64 2]) (by simp [results, Tryd.results9, go_sem]) rfl ⟨none, 0, ⟨rfl, World.ownsRow_nil _ _ _ _⟩, HO1.out⟩
end Go.Proofs.YtlipapclbemjjaaDoor
