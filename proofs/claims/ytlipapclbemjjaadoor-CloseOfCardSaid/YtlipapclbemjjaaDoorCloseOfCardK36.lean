/- The package close: Of. -/
import Derived.Test.YtlipapclbemjjaaDoorCloseOfCardK33
import Derived.Test.YtlipapclbemjjaaDoorCloseOfCardK35
set_option linter.unusedVariables false
set_option linter.unusedSimpArgs false
namespace Go.Proofs.YtlipapclbemjjaaDoor
open Go.RowKit
attribute [local go_sem ↓] Go.wp_at_zero Go.wp_at_succ
/-- What close.Of answers. -/
def closeR (n : Int) (l : List (Int × Int)) : List (Int × Int) × Int := if mayL n l = true then (closeL n.toNat l, 0) else ([], 2)
/-- A made graph: reach's conditions hold of it. -/
theorem reach_next (n p : Nat) (l : List (Int × Int)) (fp : List Nat) (w : World) (hn : n ≤ 500) (hg : l.all (goodE n) = true) (hG : Gr w p n (ofS n l).1 (ofS n l).2.1 (ofS n l).2.2 fp) (hT : Tab w) (h00 : 0 < w.heap.size) :
  Calls Tryd.prog 19 #[.int .i64 (n : Int), .func (.func 20) #[.pointer (some ⟨p, 0, none⟩)] #[]] w fun e w' => ∃ b ps R, (e = .returned (.slice (some ⟨b, 0, none⟩) n n) ∧ SetsAt w' w.heap.size b n ps R ∧ Stage n (edB l) n 0 R) ∧ Only [] w w' := by
 obtain ⟨r, hrl⟩ := rel_of hn l
 have hs : ∀ e, e ∈ (ofS n l).2.2 ↔ e ∈ l := fun e => by rw [hrl]; exact mem_rof hg e
 have wf := wf_good hg
 refine creach_any n p _ (.inl rfl) (fun i => nextL n (ofS n l).2.2 (i : Int)) (edB l) w hn (fun i hi z hz => by have := nextL_range z hz; omega) (fun i hi => by have := nextL_len n (ofS n l).2.2 (i : Int); omega) (fun i m hi hm => next_ed wf hs i m) (fun i w' hi O => ?_)
 rw [← rel_next r hn i hi]
 exact gnext_some p n _ _ _ fp i w' (hG.only O (by simp)) hi (hT.only h00 O (by simp)) (Nat.lt_of_lt_of_le h00 O.size)
set_option maxRecDepth 10000 in
set_option maxHeartbeats 8000000 in
theorem cclose_any (n : Int) (A : Option Addr) (m c : Nat) (l : List (Int × Int)) (w : World) (hr : Row w w.heap.size A (edgeC l)) (hl : l.length = m) (hm : m ≤ 1000) (hT : Tab w) (h00 : 0 < w.heap.size) :
  Calls Tryd.prog 8 #[.int .i64 n, .slice A m c] w fun e w' => ∃ A' c', (e = .returned (.tuple #[.slice A' (closeR n l).1.length c', .int .i64 (closeR n l).2]) ∧ w'.ownsRow w.heap.size 47 2 (.slice A' (closeR n l).1.length c') (closeR n l).1.length (edgeC (closeR n l).1)) ∧ Only [] w w' := by
 have bad : mayL n l = false → closeR n l = ([], 2) := fun h => by unfold closeR; rw [h]; rfl
 by_cases hn : n < 0 ∨ 500 < n
 ·have hb : mayL n l = false := by unfold mayL; rw [decide_eq_false (by omega)]; rfl
  rw [bad hb]
  have HG := Lib.hid (gof_no n A m c w hn)
  clear bad hb hr hn
  go_enter Tryd.func8, Tryd.ntmps8
  go_wp2_with fail
  refine (HG.out).mono ?_
  rintro e w1 ⟨rfl, rfl⟩
  go_wp2
  exact bodyPost_ret (v := .tuple #[.slice none 0 0, .int .i64 2]) (by simp [results, Tryd.results8, go_sem]) rfl ⟨none, 0, ⟨rfl, World.ownsRow_nil _ _ _ _⟩, Only.refl [] _⟩
 ·obtain ⟨q, rfl⟩ : ∃ q : Nat, n = q := ⟨n.toNat, by omega⟩
  have hq : q ≤ 500 := by omega
  have HG := Lib.hid (gof_any q A m c l w hq hr hl hm)
  have HT := Lib.hid hT
  have h00' := h00
  have hmy : mayL (q : Int) l = l.all (goodE q) := by unfold mayL; rw [decide_eq_true (by omega), Bool.true_and, Int.toNat_natCast]
  clear hr hn hT hl
  cases hgd : l.all (goodE q) with
  | false =>
   rw [bad (by rw [hmy]; exact hgd)]
   have HGD := Lib.hid hgd
   clear hgd hmy bad
   go_enter Tryd.func8, Tryd.ntmps8
   go_wp2_with fail
   refine (HG.out).mono ?_
   rintro e w1 ⟨O1, ⟨-, rfl⟩ | ⟨hgd, -, -⟩⟩
   ·have HO1 := Lib.hid O1
    clear HG O1
    go_wp2
    exact bodyPost_ret (v := .tuple #[.slice none 0 0, .int .i64 2]) (by simp [results, Tryd.results8, go_sem]) rfl ⟨none, 0, ⟨rfl, World.ownsRow_nil _ _ _ _⟩, HO1.out⟩
   ·rw [HGD.out] at hgd
    cases hgd
  | true =>
   have hres : closeR (q : Int) l = (closeL q l, 0) := by unfold closeR; rw [hmy, hgd, if_pos rfl, Int.toNat_natCast]
   rw [hres]
   dsimp only
   have HGD := Lib.hid hgd
   have HRN := Lib.hid (fun (w1 : World) (fp : List Nat) (O1 : Only [] w w1) hGr => reach_next q w.heap.size l fp w1 hq hgd hGr (HT.out.only h00' O1 (by simp)) (Nat.lt_of_lt_of_le h00' O1.size))
   clear hres hgd hmy bad
   go_enter Tryd.func8, Tryd.ntmps8
   go_wp2_with fail
   refine (HG.out).mono ?_
   rintro e w1 ⟨O1, ⟨hgd, -⟩ | ⟨-, rfl, fp, hGr, hfp⟩⟩
   ·rw [HGD.out] at hgd
    cases hgd
   have hgd := HGD.out
   have HWF := Lib.hid (wf_good hgd)
   have HO1 := Lib.hid O1
   have HRE := Lib.hid (HRN.out w1 fp O1 hGr)
   have hs1 := O1.size
   clear HG hgd hGr hfp O1 HRN HGD
   obtain ⟨ie, hie, he0, he1, he2⟩ := info_parts info_edge
   have hnn : q * q ≤ 500 * 500 := Nat.mul_le_mul hq hq
   go_wp2_with fail
   refine (HRE.out).mono ?_
   rintro e w2 ⟨b, ps, R, ⟨rfl, hS, hST⟩, O2⟩
   have HS := Lib.hid hS
   have HST := Lib.hid hST
   have HO2 := Lib.hid (HO1.out.trans O2)
   have HSB : Hid (w.heap.size ≤ w1.heap.size) := Lib.hid hs1
   have HV0 : Hid (w2.ownsRow w.heap.size 47 2 (.slice none 0 0) (closeTo q l 0).length (edgeC (closeTo q l 0))) := Lib.hid (World.ownsRow_nil _ _ _ _)
   clear hS hST O2 HRE HO1 hs1
   generalize w1.heap.size = b1 at *
   go_wp2_with fail
   go_loopw [8, 27] (fun V av wr => ∃ a : Nat, av = .int .i64 a ∧ a ≤ q ∧ Hid (SetsAt wr b1 b q ps R) ∧ Hid (wr.ownsRow w.heap.size 47 2 V (closeTo q l a).length (edgeC (closeTo q l a))) ∧ Hid (Only [] w wr)) (fun _ av _ => q - (intOf av).toNat)
   case atStart => exact ⟨0, rfl, by omega, HS, HV0, HO2⟩
   case round =>
    obtain ⟨a, rfl, ha, hS, hV, hO⟩ := hrel
    clear HV0 HO2 HS
    by_cases hlt : a < q
    ·have h01 : (a : Int) < (q : Int) := by omega
     have ha0 : (0 : Int) ≤ (a : Int) := Int.natCast_nonneg _
     have hwa : IntKind.i64.wrap ((a : Int) + 1) = (a : Int) + 1 := IntWalk.i64_in _ (by omega)
     obtain ⟨ws, hws⟩ : ∃ ws, R[a]? = some ws := ⟨_, List.getElem?_eq_getElem (by rw [HST.out.len]; exact hlt)⟩
     obtain ⟨u, hu⟩ : ∃ u, ps[a]? = some u := ⟨_, List.getElem?_eq_getElem (by rw [hS.out.len, HST.out.len]; exact hlt)⟩
     have hB := hS.out.set a u ws hu hws
     have HAL := Lib.hid (all_some u ws wr hB (HT.out.only h00' hO.out (by simp)) (Nat.lt_of_lt_of_le h00' hO.out.size))
     have HE := Lib.hid (stage_all hq HWF.out HST.out hws)
     rw [HE.out] at HAL
     have zq := (hS.out.blk.at_ a).trans (setC_at hlt hu)
     have zl := hS.out.blk.lt
     clear hws hu hB HE
     go_wp2_with fail
     refine (HAL.out).mono ?_
     rintro e w3 ⟨v, ⟨rfl, hv⟩, O3⟩
     have HO3 := Lib.hid (hO.out.trans O3)
     have HV3 := Lib.hid (own_only hV.out O3 (by simp))
     have HS3 := Lib.hid (hS.out.same O3)
     have HX0 := Lib.hid (own_lower hv (by exact hO.out.size : w.heap.size ≤ wr.heap.size))
     obtain ⟨A3, c3, rfl, -, -, -, -⟩ := own_row hv
     have hql := reach_len q l a
     have HJ := Lib.hid (fun (j : Nat) (b : Int) (h : (reachL q l a)[j]? = some b) => closeJ_succ h)
     have HA : Hid (closeJ q l a (reachL q l a).length = closeTo q l (a + 1)) := Lib.hid (closeJ_all rfl)
     have HL := Lib.hid (fun j => closeJ_len q l a j ha)
     have HZ := Lib.hid (closeJ_zero q l a)
     have HMM : Hid (∀ j : Nat, j < (reachL q l a).length → ∃ b, (reachL q l a)[j]? = some b) := Lib.hid (fun j hj => ⟨_, List.getElem?_eq_getElem hj⟩)
     clear HAL O3 hv hV hS hO zq zl
     generalize reachL q l a = X at *
     generalize hlen : X.length = d at *
     have HLX := Lib.hid hlen
     clear hlen
     go_wp2_with fail
     go_loopw [8, 35] (fun V jv wr => ∃ j : Nat, jv = .int .i64 j ∧ j ≤ d ∧ Hid (SetsAt wr b1 b q ps R) ∧ Hid (wr.ownsRow w.heap.size 3 1 (.slice A3 d c3) d (X.map (Value.int .i64))) ∧ Hid (wr.ownsRow w.heap.size 47 2 V (closeJ q l a j).length (edgeC (closeJ q l a j))) ∧ Hid (Only [] w wr)) (fun _ jv _ => d - (intOf jv).toNat)
     case atStart => exact ⟨0, rfl, by omega, HS3, HX0, Lib.hid (by rw [HZ.out]; exact HV3.out), HO3⟩
     case round =>
      obtain ⟨j, rfl, hj, hS, hX, hV, hO⟩ := hrel
      clear HS3 HX0 HV3 HO3
      by_cases hlt2 : j < d
      ·obtain ⟨b2, hb⟩ := HMM.out j hlt2
       have HJS := Lib.hid (HJ.out j b2 hb)
       have hll := HL.out j
       have hRo := row_of_own hX.out
       obtain ⟨br, off, rfl, -, hbw, hcell⟩ := hRo.open_ (k := j) (by rw [List.length_map, HLX.out]; exact hlt2)
       have e0 := hcell j (.int .i64 b2) (by rw [List.getElem?_map, hb]; rfl)
       have h02 : (j : Int) < (d : Int) := by omega
       have hj0 : (0 : Int) ≤ (j : Int) := Int.natCast_nonneg _
       have hwj : IntKind.i64.wrap ((j : Int) + 1) = (j : Int) + 1 := IntWalk.i64_in _ (by omega)
       have hsz := hO.out.size
       clear hcell hb hRo
       obtain ⟨M, hM⟩ : ∃ M, M = (closeJ q l a j).length := ⟨_, rfl⟩
       rw [← hM] at hV hll
       have HM := Lib.hid hM
       clear hM
       go_wp2_with (
        at_builtin
        refine wpList_append_row _ rfl (.tmp 39) (.tmp 43) 22 rfl w.heap.size 47 ie _ 2 16 Tryd.underlying22 hie he0 he1 he2 rfl (by omega) _ M (edgeC (closeJ q l a j)) (by rfl) (own_only hV.out ((Only.refl [] wr).alloc (.cells #[.int .i64 (a : Int), .int .i64 b2] 47)) (fun _ _ => by simp)) _ _ 1 1 [.int .i64 (a : Int), .int .i64 b2] (by rfl) (by rfl) (row_lit _ _ _) (by intro u hu; simp at hu; rcases hu with rfl | rfl <;> rfl) (by unfold maxLen; omega) (by omega) (by simp; omega) ?_
        intro v' w3 hown hgrow hat
        have OA := (Only.refl [] wr).alloc (.cells #[.int .i64 (a : Int), .int .i64 b2] 47)
        have OV := only_grown hgrow
        have HOWN := Lib.hid hown
        have OW3 : Only [] w w3 := (hO.out.trans OA).step OV (fun i hi hl => by have := ((own_only hV.out OA (by simp)).lt i (by simpa using hi)).1; omega)
        have HO3 := Lib.hid OW3
        have HGR := Lib.hid OV
        have HOA := Lib.hid OA
        clear hown OA OV OW3)
       go_roundw
       case rel =>
        have HX3 := Lib.hid (own_only (own_only hX.out HOA.out (by simp)) HGR.out (fun g hg hm => own_own (own_only hX.out HOA.out (by simp)) (own_only hV.out HOA.out (by simp)) (by decide) g hg hm))
        have HS3 := Lib.hid ((hS.out.same HOA.out).beside (own_only hV.out HOA.out (by simp)) (by decide) (by decide) HGR.out)
        have HV3 : Hid (w3.ownsRow w.heap.size 47 2 v' (closeJ q l a (j + 1)).length (edgeC (closeJ q l a (j + 1)))) := Lib.hid (by
         rw [HJS.out, List.length_append, edgeC_append, ← HM.out]
         exact HOWN.out)
        first | exact ⟨j + 1, by go_num, by omega, HS3, HX3, HV3, HO3⟩ | exact ⟨_, ⟨j + 1, by go_num, by omega, HS3, HX3, HV3, HO3⟩, rfl⟩
       case measure => simp [intOf]; omega
      ·have hjq : j = d := by omega
       subst hjq
       have hd : decide ((j : Int) < (j : Int)) = false := by simp
       have HVN := Lib.hid hV.out
       rw [HA.out] at HVN
       go_wp2
       go_roundw
       case rel => first | exact ⟨a + 1, by go_num, by omega, hS, HVN, hO⟩ | exact ⟨_, ⟨a + 1, by go_num, by omega, hS, HVN, hO⟩, rfl⟩
       case measure => simp [intOf]; omega
    ·have han : q = a := by omega
     subst han
     have hd : decide ((q : Int) < (q : Int)) = false := by simp
     have hVV := hV.out
     have hcl : closeTo q l q = closeL q l := rfl
     rw [hcl] at hVV
     obtain ⟨A', c', hV', -, -, -, -⟩ := own_row hVV
     subst hV'
     have HVV := Lib.hid hVV
     clear hV hVV hcl hS
     go_wp2
     exact bodyPost_ret (v := .tuple #[.slice A' (closeL q l).length c', .int .i64 0]) (by simp [results, Tryd.results8, go_sem]) rfl ⟨A', c', ⟨rfl, HVV.out⟩, hO.out⟩
end Go.Proofs.YtlipapclbemjjaaDoor
