/- The package close: Thin. -/
import Derived.Test.YtlipapclbemjjaaDoorCloseOfCardK41
set_option linter.unusedVariables false
set_option linter.unusedSimpArgs false
namespace Go.Proofs.YtlipapclbemjjaaDoor
open Go.RowKit
attribute [local go_sem ↓] Go.wp_at_zero Go.wp_at_succ
theorem thinL_filter {n : Nat} {l : List (Int × Int)} (h : roundB n l = false) : (redgesTo n l n).filter (fun x => !otherB n l x.1.toNat x.2.toNat) = thinL n l := by
 unfold thinL
 rw [h, if_neg (by decide)]
set_option maxRecDepth 10000 in
set_option maxHeartbeats 8000000 in
theorem cthin_any (n : Int) (A : Option Addr) (m c : Nat) (l : List (Int × Int)) (w : World) (hr : Row w w.heap.size A (edgeC l)) (hl : l.length = m) (hm : m ≤ 1000) (hT : Tab w) (h00 : 0 < w.heap.size) :
  Calls Tryd.prog 16 #[.int .i64 n, .slice A m c] w fun e w' => ∃ A' c', (e = .returned (.tuple #[.slice A' (thinR n l).1.length c', .int .i64 (thinR n l).2]) ∧ w'.ownsRow w.heap.size 47 2 (.slice A' (thinR n l).1.length c') (thinR n l).1.length (edgeC (thinR n l).1)) ∧ Only [] w w' := by
 have bad : mayL n l = false → thinR n l = ([], 2) := fun h => by unfold thinR; rw [h]; rfl
 by_cases hn : n < 0 ∨ 500 < n
 ·have hb : mayL n l = false := by unfold mayL; rw [decide_eq_false (by omega)]; rfl
  rw [bad hb]
  have HG := Lib.hid (gof_no n A m c w hn)
  clear bad hb hr hn
  go_enter Tryd.func16, Tryd.ntmps16
  go_wp2_with fail
  refine (HG.out).mono ?_
  rintro e w1 ⟨rfl, rfl⟩
  go_wp2
  exact bodyPost_ret (v := .tuple #[.slice none 0 0, .int .i64 2]) (by simp [results, Tryd.results16, go_sem]) rfl ⟨none, 0, ⟨rfl, World.ownsRow_nil _ _ _ _⟩, Only.refl [] _⟩
 ·obtain ⟨q, rfl⟩ : ∃ q : Nat, n = q := ⟨n.toNat, by omega⟩
  have hq : q ≤ 500 := by omega
  have HG := Lib.hid (gof_any q A m c l w hq hr hl hm)
  have HT := Lib.hid hT
  have h00' := h00
  have hmy : mayL (q : Int) l = l.all (goodE q) := by unfold mayL; rw [decide_eq_true (by omega), Bool.true_and, Int.toNat_natCast]
  have HLM : Hid (l.length ≤ 1000) := Lib.hid (by omega)
  clear hr hn hT hl
  cases hgd : l.all (goodE q) with
  | false =>
   rw [bad (by rw [hmy]; exact hgd)]
   have HGD := Lib.hid hgd
   clear hgd hmy bad
   go_enter Tryd.func16, Tryd.ntmps16
   go_wp2_with fail
   refine (HG.out).mono ?_
   rintro e w1 ⟨O1, ⟨-, rfl⟩ | ⟨hgd, -, -⟩⟩
   ·have HO1 := Lib.hid O1
    clear HG O1
    go_wp2
    exact bodyPost_ret (v := .tuple #[.slice none 0 0, .int .i64 2]) (by simp [results, Tryd.results16, go_sem]) rfl ⟨none, 0, ⟨rfl, World.ownsRow_nil _ _ _ _⟩, HO1.out⟩
   ·rw [HGD.out] at hgd
    cases hgd
  | true =>
   have hres : thinR (q : Int) l = (thinL q l, 0) := by unfold thinR; rw [hmy, hgd, if_pos rfl, Int.toNat_natCast]
   rw [hres]
   dsimp only
   have HWF := Lib.hid (wf_good hgd)
   have hs : ∀ e, e ∈ (ofS q l).2.2 ↔ e ∈ l := fun e => by rw [(rel_of hq l).2]; exact mem_rof hgd e
   have HHL : Hid ((ofS q l).2.2.length ≤ 1000000) := Lib.hid (by
    rw [(rel_of hq l).2]
    have := rof_len q l []
    simp only [List.length_nil] at this
    have := HLM.out
    omega)
   obtain ⟨N, hN⟩ : ∃ N : Nat → List Int, ∀ i : Nat, nextL q (ofS q l).2.2 (i : Int) = N i := ⟨fun i => nextL q (ofS q l).2.2 (i : Int), fun i => rfl⟩
   have HRN := Lib.hid (fun (w1 : World) (fp : List Nat) (hz : w.heap.size ≤ w1.heap.size) (hTw : Tab w1) (hGr : Gr w1 w.heap.size q (ofS q l).1 (ofS q l).2.1 (ofS q l).2.2 fp) => reach_back q w.heap.size l fp w1 hq hgd hGr hTw (Nat.lt_of_lt_of_le h00' hz))
   have HNX := Lib.hid (fun (w1 : World) (fp : List Nat) (i : Nat) (hi : i < q) (hz : w.heap.size ≤ w1.heap.size) (hTw : Tab w1) (hGr : Gr w1 w.heap.size q (ofS q l).1 (ofS q l).2.1 (ofS q l).2.2 fp) => by
    have := gnext_some w.heap.size q (ofS q l).1 (ofS q l).2.1 (ofS q l).2.2 fp i w1 hGr hi hTw (Nat.lt_of_lt_of_le h00' hz)
    rw [rel_next (rel_of hq l).1 hq i hi, hN i] at this
    exact this)
   have HED := Lib.hid (fun (w1 : World) (fp : List Nat) (hz : w.heap.size ≤ w1.heap.size) (hTw : Tab w1) (hGr : Gr w1 w.heap.size q (ofS q l).1 (ofS q l).2.1 (ofS q l).2.2 fp) => by
    have := gedges_any w.heap.size q (ofS q l).1 (ofS q l).2.1 (ofS q l).2.2 fp w1 hGr HHL.out hq hTw (Nat.lt_of_lt_of_le h00' hz)
    rw [rel_edges (rel_of hq l).1 hq, redges_mem hs] at this
    exact this)
   have HNM : Hid (∀ i m : Nat, decide ((m : Int) ∈ N i) = edB l i m) := Lib.hid (fun i m => by rw [← hN]; exact next_ed (HWF.out) hs i m)
   have HNL : Hid (∀ i : Nat, (N i).length ≤ q) := Lib.hid (fun i => by rw [← hN]; exact nextL_len q _ _)
   have HNR : Hid (∀ i : Nat, ∀ z ∈ N i, 0 ≤ z ∧ z < 500) := Lib.hid (fun i z hz => by rw [← hN] at hz; have := nextL_range z hz; omega)
   have HGE : Hid ((redgesTo q l q).length ≤ 1000) := Lib.hid (by have := redges_le HWF.out; have := HLM.out; omega)
   have HGD := Lib.hid hgd
   clear hres hgd hmy bad hs HHL hN
   go_enter Tryd.func16, Tryd.ntmps16
   go_wp2_with fail
   refine (HG.out).mono ?_
   rintro e w1 ⟨O1, ⟨hgd, -⟩ | ⟨-, rfl, fp, hGr, hfp⟩⟩
   ·rw [HGD.out] at hgd
    cases hgd
   have HO1 := Lib.hid O1
   have HT1 := Lib.hid (HT.out.only h00' O1 (by simp))
   have hs1 := O1.size
   have HRE := Lib.hid (HRN.out w1 fp hs1 HT1.out hGr)
   have h01' := Nat.lt_of_lt_of_le h00' hs1
   have HNX1 := Lib.hid (fun (W : World) (O : Only [] w1 W) (i : Nat) (hi : i < q) => HNX.out W fp i hi (Nat.le_trans hs1 O.size) (HT1.out.only h01' O (by simp)) (hGr.only O (by simp)))
   have HED1 := Lib.hid (fun (W : World) (O : Only [] w1 W) => HED.out W fp (Nat.le_trans hs1 O.size) (HT1.out.only h01' O (by simp)) (hGr.only O (by simp)))
   clear HG hGr hfp O1 HRN HGD HNX HED HT HT1 h01'
   obtain ⟨ie, hie, he0, he1, he2⟩ := info_parts info_edge
   go_wp2_with fail
   refine (HRE.out).mono ?_
   rintro e w2 ⟨b, ps, R, ⟨rfl, hS, hST⟩, O2⟩
   have HS2 := Lib.hid hS
   have HST := Lib.hid hST
   have HO2 := Lib.hid O2
   have hs2 := O2.size
   clear hS hST O2 HRE
   go_wp2_with fail
   have HO3 := Lib.hid (HO2.out.alloc (.cells #[.slice (some ⟨b, 0, none⟩) q q] 41))
   have HS3 := Lib.hid (HS2.out.same ((Only.refl [] w2).alloc (.cells #[.slice (some ⟨b, 0, none⟩) q q] 41)))
   have HB8 := Lib.hid (Blk.made w2 41 #[.slice (some ⟨b, 0, none⟩) q q])
   generalize w2.alloc (.cells #[.slice (some ⟨b, 0, none⟩) q q] 41) = w3 at *
   generalize w2.heap.size = b8 at *
   clear HO2 HS2
   have hmk := fun W => make_sets q hq W
   go_loopw [28] (fun av wr => ∃ a : Nat, av = .int .i64 a ∧ a ≤ q ∧ Hid (roundTo q l a = false) ∧ wr = w3) (fun av _ => q - (intOf av).toNat)
   case atStart => exact ⟨0, rfl, by omega, Lib.hid rfl, rfl⟩
   case round =>
    obtain ⟨a, rfl, ha, hR, rfl⟩ := hrel
    by_cases hlt : a < q
    ·obtain ⟨ws, hws⟩ : ∃ ws, R[a]? = some ws := ⟨_, List.getElem?_eq_getElem (by rw [HST.out.len]; exact hlt)⟩
     obtain ⟨u, hu⟩ : ∃ u, ps[a]? = some u := ⟨_, List.getElem?_eq_getElem (by rw [HS3.out.len, HST.out.len]; exact hlt)⟩
     have HAS : Hid (Calls Tryd.prog 23 #[.pointer (some ⟨u, 0, none⟩), .int .i64 (a : Int)] wr fun e w' => e = .returned (.bool (wayB q l a a)) ∧ wr = w') := Lib.hid (by
      have := has_any u a ws wr (HS3.out.set a u ws hu hws)
      rw [hasW_bit ws a (by omega), (stage_rev HWF.out HST.out hws).2 a (by omega)] at this
      exact this)
     have zq := (HS3.out.blk.at_ a).trans (setC_at hlt hu)
     have zl := HS3.out.blk.lt
     have h01 : (a : Int) < (q : Int) := by omega
     have ha0 : (0 : Int) ≤ (a : Int) := Int.natCast_nonneg _
     have hwa : IntKind.i64.wrap ((a : Int) + 1) = (a : Int) + 1 := IntWalk.i64_in _ (by omega)
     clear hws hu hmk
     cases hw : wayB q l a a with
     | true =>
      rw [hw] at HAS
      have HTL : Hid (redgesTo q l q = thinL q l) := Lib.hid (by unfold thinL; rw [roundTo_true hlt hw, if_pos rfl])
      have HEW := Lib.hid (HED1.out wr HO3.out)
      rw [HTL.out] at HEW
      have hs3 := HO3.out.size
      clear hw HED1 HNX1 HTL
      go_wp2_with fail
      refine (HAS.out).mono ?_
      rintro e w4 ⟨rfl, rfl⟩
      go_wp2_with fail
      refine (HEW.out).mono ?_
      rintro e w5 ⟨v, ⟨rfl, hv⟩, O5⟩
      have HVV := Lib.hid (own_lower hv (by omega : w.heap.size ≤ wr.heap.size))
      have HOO := Lib.hid (HO1.out.trans (HO3.out.trans O5))
      obtain ⟨A', c', rfl, -, -, -, -⟩ := own_row hv
      clear hv O5 HEW HAS zq zl HS3
      go_wp2
      exact bodyPost_ret (v := .tuple #[.slice A' (thinL q l).length c', .int .i64 0]) (by simp [results, Tryd.results16, go_sem]) rfl ⟨A', c', ⟨rfl, HVV.out⟩, HOO.out⟩
     | false =>
      rw [hw] at HAS
      have HRS : Hid (roundTo q l (a + 1) = false) := Lib.hid (by rw [roundTo_succ, hR.out, hw]; rfl)
      clear hw HED1 HNX1
      go_wp2_with fail
      refine (HAS.out).mono ?_
      rintro e w4 ⟨rfl, rfl⟩
      clear HAS zq zl
      go_wp2
      go_roundw
      case rel => exact ⟨a + 1, by go_num, by omega, HRS, trivial⟩
      case measure => simp [intOf]; omega
    ·have han : q = a := by omega
     subst han
     have hd : decide ((q : Int) < (q : Int)) = false := by simp
     have HRB : Hid (roundB q l = false) := Lib.hid hR.out
     clear hR
     go_wp2_with fail
     clear hmk
     obtain ⟨w3, hw3⟩ : ∃ wo : World, wo = wr := ⟨_, rfl⟩
     subst hw3
     have HSN : Hid (SetsAt ((w3.alloc (.cells (setC q []) 44)).alloc (.cells #[.slice (some ⟨w3.heap.size, 0, none⟩) q q] 41)) w3.heap.size w3.heap.size q [] []) := Lib.hid ((SetsAt.made w3 w3.heap.size q (Nat.le_refl _)).same ((Only.refl [] _).alloc _))
     have HB11 : Hid (Blk ((w3.alloc (.cells (setC q []) 44)).alloc (.cells #[.slice (some ⟨w3.heap.size, 0, none⟩) q q] 41)) (w3.heap.size + 1) 41 #[.slice (some ⟨w3.heap.size, 0, none⟩) q q]) := Lib.hid (by
      have := Blk.made (w3.alloc (.cells (setC q []) 44)) 41 #[.slice (some ⟨w3.heap.size, 0, none⟩) q q]
      rwa [World.size_alloc] at this)
     have HO4 : Hid (Only [] w3 ((w3.alloc (.cells (setC q []) 44)).alloc (.cells #[.slice (some ⟨w3.heap.size, 0, none⟩) q q] 41))) := Lib.hid (((Only.refl [] w3).alloc _).alloc _)
     have hs3 := HO3.out.size
     obtain ⟨b11, hb11⟩ : ∃ b11, b11 = w3.heap.size + 1 := ⟨_, rfl⟩
     rw [← hb11] at HB11 ⊢
     obtain ⟨bn, hbn⟩ : ∃ bn, bn = w3.heap.size := ⟨_, rfl⟩
     rw [← hbn] at HSN HB11 HO4 hb11 ⊢
     generalize ((w3.alloc (.cells (setC q []) 44)).alloc (.cells #[.slice (some ⟨bn, 0, none⟩) q q] 41)) = w4 at *
     have hne : b11 ≠ bn := by omega
     have HBN := Lib.hid hbn
     clear hbn hb11
     go_loopw [43] (fun av wr => ∃ (a : Nat) (ps' : List Nat), av = .int .i64 a ∧ a ≤ q ∧ ps'.length = a ∧ Hid (SetsAt wr bn bn q ps' (rowsN N a)) ∧ Hid (Blk wr b11 41 #[.slice (some ⟨bn, 0, none⟩) q q]) ∧ Hid (Only [] w3 wr)) (fun av _ => q - (intOf av).toNat)
     case atStart => exact ⟨0, [], rfl, by omega, rfl, HSN, HB11, HO4⟩
     case round =>
      obtain ⟨a, ps', rfl, ha, hpl, hS, hB11, hO⟩ := hrel
      clear HSN HB11 HO4
      by_cases hlt : a < q
      ·have h01 : (a : Int) < (q : Int) := by omega
       have ha0 : (0 : Int) ≤ (a : Int) := Int.natCast_nonneg _
       have hwa : IntKind.i64.wrap ((a : Int) + 1) = (a : Int) + 1 := IntWalk.i64_in _ (by omega)
       have HNW := Lib.hid (fun W (O : Only [] wr W) => HNX1.out W (HO3.out.trans (hO.out.trans O)) a hlt)
       have hnl := HNL.out a
       have HRS := Lib.hid (rowsN_succ N a)
       have HPL := Lib.hid hpl
       clear hpl
       go_upto_region 15 with (fail)
       refine wp_region_noPanic ?_
       refine wp_region_timed (F := [⟨[], [7], fun w' => Only [] wr w'⟩]) (by kernel_rfl) (timed_holds ((Only.refl [] wr).drew) (timed_nil)) ?_
       refine timed_read (i := 0) (v := ?_) 0 rfl (by kernel_rfl) (by kernel_rfl) (by kernel_rfl) (fun _ _ _ h => h) (by kernel_rfl) (by kernel_rfl) rfl (by kernel_rfl) ?_ ?_
       rotate_left
       ·(intro wq hSw; (try dsimp only at hSw); have cb := hSw.blk hB11.out (by simp); have c0 := cb.at_ 0; have cl := cb.lt; simp at c0; clear cb hSw; go_simp; try with_reducible rfl)
       try simp only [Act.put, tdy]
       refine timed_pure (i := 1) (v := ?_) rfl (by kernel_rfl) (by kernel_rfl) (by kernel_rfl) (fun _ _ _ h => h) (by kernel_rfl) (by kernel_rfl) ?_ ?_
       rotate_left
       ·(intro w; go_simp; try with_reducible rfl)
       try simp only [Act.put, tdy]
       refine timed_pure (i := 2) (v := ?_) rfl (by kernel_rfl) (by kernel_rfl) (by kernel_rfl) (fun _ _ _ h => h) (by kernel_rfl) (by kernel_rfl) ?_ ?_
       rotate_left
       ·(intro w; go_simp; try with_reducible rfl)
       try simp only [Act.put, tdy]
       refine timed_pure (i := 3) (v := ?_) rfl (by kernel_rfl) (by kernel_rfl) (by kernel_rfl) (fun _ _ _ h => h) (by kernel_rfl) (by kernel_rfl) ?_ ?_
       rotate_left
       ·(intro w; go_simp; try with_reducible rfl)
       try simp only [Act.put, tdy]
       refine timed_step (i := 4) (by kernel_rfl) rfl (fun K hK => ?_)
       go_simp
       refine (HNW.out _ (Only.refl [] wr).drew).mono ?_
       rintro e w5 ⟨v, ⟨rfl, hv⟩, O5⟩
       obtain ⟨A5, c5, rfl, -, -, -, hR5⟩ := own_row hv
       have HR5 := Lib.hid hR5
       have HO5 := Lib.hid ((Only.refl [] wr).drew.trans O5)
       clear hv hR5 O5
       refine hK.out _ _ (timed_holds (HO5.out) (timed_nil)) ?_
       clear hK K
       try simp only [Act.put, tdy]
       refine timed_step (i := 5) (by kernel_rfl) rfl (fun K hK => ?_)
       go_simp
       refine (new_any A5 _ c5 (N a) w5 HR5.out rfl (by omega)).mono ?_
       rintro e w6 ⟨rfl, hB6, O6⟩
       have HB6 := Lib.hid hB6
       have HO6 := Lib.hid (HO5.out.trans O6)
       have hs5 := (hO.out.trans HO5.out).size
       have HS6 := Lib.hid (hS.out.same HO6.out)
       have HNQ : Hid ((∀ x ∈ ps', x ≠ w5.heap.size) ∧ bn ≠ w5.heap.size ∧ bn ≤ w5.heap.size) := Lib.hid ⟨fun x hx e => by
        obtain ⟨j, hj⟩ := List.mem_iff_getElem?.1 hx
        have hjl : j < (rowsN N a).length := by rw [← hS.out.len]; exact (List.getElem?_eq_some_iff.1 hj).1
        have := ((hS.out.same HO5.out).set j x _ hj (List.getElem?_eq_getElem hjl)).lt
        omega, by have := (hS.out.same HO5.out).blk.lt; omega, by rw [HBN.out]; exact hs5⟩
       have z0 := (HS6.out.blk.at_ a).trans (setC_none (ps := ps') hlt (by rw [HPL.out]; exact Nat.le_refl _))
       have zf := HS6.out.blk.free a
       have zl := HS6.out.blk.lt
       clear hB6 O6 hs5 HR5
       generalize w5.heap.size = p6 at *
       refine hK.out _ _ (timed_holds (HO6.out) (timed_nil)) ?_
       clear hK K
       try simp only [Act.put, tdy]
       refine timed_pure (i := 6) (v := ?_) rfl (by kernel_rfl) (by kernel_rfl) (by kernel_rfl) (fun _ _ _ h => h) (by kernel_rfl) (by kernel_rfl) ?_ ?_
       rotate_left
       ·(intro w; go_simp; try with_reducible rfl)
       try simp only [Act.put, tdy]
       refine timed_step (i := 7) (by kernel_rfl) rfl (fun K hK => ?_)
       go_simp
       refine hK.out _ _ (timed_over (by kernel_rfl) (timed_nil)) ?_
       clear hK K
       try simp only [Act.put, tdy]
       refine timed_done (by kernel_rfl) ?_ _
       refine NoPanic.normal ?_
       have HS7 : Hid (SetsAt (w6.setCell ⟨bn, a, none⟩ (.pointer (some ⟨p6, 0, none⟩))) bn bn q (ps' ++ [p6]) (rowsN N (a + 1))) := Lib.hid (by
        rw [HRS.out]
        have := HS6.out.push HB6.out (by rw [HPL.out]; exact hlt) HNQ.out.1 HNQ.out.2.1 HNQ.out.2.2
        rwa [HPL.out] at this)
       have HB7 := Lib.hid (((Only.refl [bn] w6).put (p := ⟨bn, a, none⟩) (fun _ => by simp) (.pointer (some ⟨p6, 0, none⟩))).blk (HO6.out.blk hB11.out (by simp)) (by simpa using hne))
       have HO7 : Hid (Only [] w3 (w6.setCell ⟨bn, a, none⟩ (.pointer (some ⟨p6, 0, none⟩)))) := Lib.hid ((hO.out.trans HO6.out).put (p := ⟨bn, a, none⟩) (fun h9 => by simp at h9; have := HBN.out; omega) _)
       go_wp2
       go_roundw
       case rel => exact ⟨a + 1, ps' ++ [p6], by go_num, by omega, by simp [HPL.out], HS7, HB7, HO7⟩
       case measure => simp [intOf]; omega
      ·have haq : q = a := by omega
       subst haq
       have hd : decide ((q : Int) < (q : Int)) = false := by simp
       have HT1 : Hid (Stage q (edB l) 0 0 (rowsN N q)) := Lib.hid (rowsN_stage (fun i _ => HNR.out i) (fun i m _ _ => HNM.out i m))
       have HEW := Lib.hid (HED1.out wr (HO3.out.trans hO.out))
       have HSB := Lib.hid (HS3.out.same hO.out)
       have HB8w := Lib.hid (hO.out.blk HB8.out (by simp))
       have HOW := Lib.hid (HO1.out.trans (HO3.out.trans hO.out))
       clear HED1 HNX1 HNL HNR HNM HS3 HB8 hO
       go_wp2_with fail
       refine (HEW.out).mono ?_
       rintro e w7 ⟨v, ⟨rfl, hv⟩, O7⟩
       obtain ⟨A7, c7, rfl, -, -, -, -⟩ := own_row hv
       have HV7 := Lib.hid (own_lower hv HOW.out.size)
       have HS17 := Lib.hid (hS.out.same O7)
       have HS27 := Lib.hid (HSB.out.same O7)
       have HB117 := Lib.hid (O7.blk hB11.out (by simp))
       have HB87 := Lib.hid (O7.blk HB8w.out (by simp))
       have HO7 := Lib.hid (HOW.out.trans O7)
       have HASK : Hid (Asks (redgesTo q l q) (fun x => otherB q l x.1.toNat x.2.toNat) (.pointer (some ⟨b11, 0, none⟩)) (.pointer (some ⟨b8, 0, none⟩)) (Value.slice A7 (redgesTo q l q).length c7).ownBlock.toList w7) := Lib.hid (fun e he W O => by
        obtain ⟨a, b', rfl, h1, h2⟩ := HWF.out e ((mem_redges HWF.out).1 he)
        have hb1 := O.blk HB117.out (own_apart HV7.out HB117.out (by decide))
        have hb2 := O.blk HB87.out (own_apart HV7.out HB87.out (by decide))
        have c1 := hb1.at_ 0
        have c2 := hb2.at_ 0
        simp at c1 c2
        have := ask_any q a b' l b8 b11 _ _ _ _ _ _ _ _ W hq HWF.out h1 h2 c1 c2 (HS17.out.beside HV7.out (by decide) (by decide) O) HT1.out (HS27.out.beside HV7.out (by decide) (by decide) O) HST.out
        simpa using this)
       have HDEL := Lib.hid (delete_any w.heap.size A7 _ c7 _ _ _ _ w7 HV7.out rfl HGE.out HASK.out)
       rw [thinL_filter HRB.out] at HDEL
       have HOF : Hid (∀ W, Only (Value.slice A7 (redgesTo q l q).length c7).ownBlock.toList w7 W → Only [] w W) := Lib.hid (fun W O => HO7.out.step O (fun i hi hl => by have := (HV7.out.lt i (by simpa using hi)).1; omega))
       clear hv O7 HEW HSB HB8w HOW HASK HS17 HS27 HB117 HB87 HO7 HV7 hS hB11
       generalize (redgesTo q l q).length = d at *
       go_wp2_with fail
       refine (HDEL.out).mono ?_
       rintro e w8 ⟨m', ⟨rfl, hV8, hL8⟩, O8⟩
       subst hL8
       have HV8 := Lib.hid hV8
       have HO8 := Lib.hid (HOF.out w8 O8)
       clear hV8 O8 HDEL HOF
       go_wp2
       exact bodyPost_ret (v := .tuple #[.slice A7 (thinL q l).length c7, .int .i64 0]) (by simp [results, Tryd.results16, go_sem]) rfl ⟨A7, c7, ⟨rfl, HV8.out⟩, HO8.out⟩
end Go.Proofs.YtlipapclbemjjaaDoor
