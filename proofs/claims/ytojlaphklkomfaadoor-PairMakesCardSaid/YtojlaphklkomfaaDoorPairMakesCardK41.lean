/- Parts. -/
import Derived.Test.YtojlaphklkomfaaDoorPairMakesCardK25
import Derived.Test.YtojlaphklkomfaaDoorPairMakesCardK40
set_option maxRecDepth 10000
set_option maxHeartbeats 16000000
set_option linter.unusedVariables false
set_option linter.unusedSimpArgs false
namespace Go.Proofs.YtojlaphklkomfaaDoor
open Go.RowKit
open Go.Lib hiding intOf
attribute [local go_sem ↓] Go.wp_at_zero Go.wp_at_succ
theorem qinfo_string : (Tryd.prog.info? 9).map (fun i => (i.zero, i.size, i.bytes)) = some (some (.string ⟨#[]⟩), 1, 16) := by kernel_rfl
set_option maxRecDepth 100000 in
theorem ropen_any (A : Option Addr) (n c : Nat) (l : List Ev6) (w : World) (hn : l.length = n) (hnm : n ≤ 100000) (hA : Row w w.heap.size A (logC l)) (hz : ∀ x ∈ l, x.s.size ≤ 65537 ∧ x.y.size ≤ 65537) :
  Calls Tryd.prog 12 #[.slice A n c] w fun e w' => ∃ A' m c', (e = .returned (.slice A' m c') ∧ (openL l).length = m ∧ Row w' w'.heap.size A' (strs (openL l))) ∧ Only [] w w' := by
 have HP := Hd (rput_any A n c l w hn hnm hA hz);unfold PutAll at HP;obtain ⟨R, hR⟩ : ∃ R, R = openL l := ⟨_, rfl⟩;rw [← hR];obtain ⟨rr, hrr⟩ : ∃ rr, rr = runM mk0 l := ⟨_, rfl⟩;have HRE : Hid (R = if rr.2.2 = 0 then sortB ((rr.1.ps.filter opP).map Pt.s) else []) := Hd (by rw [hR, hrr]; rfl);rw [← hrr] at HP;obtain ⟨i0, hi, hz0, hz1, hz2⟩ := info_parts qinfo_string;clear hn hnm hA hz hR hrr;obtain ⟨M, ln, er⟩ := rr;dsimp only at HP HRE;go_enter Tryd.func12, Tryd.ntmps12;go_wp2_with fail
 refine (HP.out).mono ?_;rintro e w2 ⟨gw, ps, VL, VN, VK, VI, VO, xs, rfl, O2, hW, hps, hyes⟩;have HO2 := Hd O2;have HW := Hd hW;obtain ⟨-, ⟨AN, cN, rfl, hRN⟩, -, -, ⟨AO, cO, rfl, hRO⟩⟩ := hW.vals;have HRN := Hd hRN;have HRO := Hd hRO;have HYE := Hd hyes;clear O2 hW hRN hRO hyes HP;have OL : Only [] w2 (w2.alloc (.cells #[] 9)) := (Only.refl [] w2).alloc _;have HL0 : Hid ((w2.alloc (.cells #[] 9)).ownsRow w2.heap.size 9 1 (.slice (some ⟨w2.heap.size, 0, none⟩) ([] : List ByteArray).length 0) ([] : List ByteArray).length (strs [])) := Hd (World.ownsRow_lit w2 #[] 0 (Nat.le_refl _) (by unfold maxLen; omega) rfl);have HOL := Hd OL;clear OL;go_wp2_with fail
 generalize (w2.alloc (.cells #[] 9)) = w3 at *;obtain ⟨bs, hbs⟩ : ∃ bs, bs = w2.heap.size := ⟨_, rfl⟩;have HBS := Hd hbs;rw [← hbs] at HL0;simp only [← hbs];clear hbs
 by_cases her : er = 0
 ·subst her;obtain ⟨e1, hMB, -⟩ := HYE.out rfl;have HRF : Hid (R = sortB ((ps.filter opP).map Pt.s)) := Hd (by rw [HRE.out, if_pos rfl, e1]);have HNO : Hid (∀ p ∈ ps, p.s.size ≤ 65537) := Hd (fun p hp => (hMB.no p (by rw [← e1]; exact hp)).2.2.1);clear HYE e1 hMB HRE
  go_loopw [6, 7] (fun ov iv wr => ∃ (k : Nat) (P : List ByteArray) (A : Option Addr) (c : Nat), ov = .slice A P.length c ∧ iv = .int .i64 (k : Int) ∧ k ≤ ps.length ∧ P.length ≤ k ∧ Hid (P = ((ps.take k).filter opP).map Pt.s) ∧ Hid (wr.ownsRow bs 9 1 (.slice A P.length c) P.length (strs P)) ∧ Hid (Only [] w2 wr)) (fun _ iv _ => ps.length - (intOf iv).toNat)
  case atStart => exact ⟨0, [], _, 0, rfl, rfl, by omega, by simp, Hd (by simp), HL0, HOL⟩
  case round =>
   obtain ⟨k, P, A, c, rfl, rfl, hk, hPk, hP, hV, hO⟩ := hrel;clear HL0 HOL;have HWk := HW.out.same hO.out;have b3 := HWk.blk.at_ 3;have b6 := HWk.blk.at_ 6;have lb := HWk.blk.lt;simp at b3 b6;clear HWk
   by_cases hlt : k < ps.length
   ·obtain ⟨p, hp⟩ : ∃ p, ps[k]? = some p := ⟨_, List.getElem?_eq_getElem hlt⟩;obtain ⟨bo, oo, rfl, -, hbo, hco⟩ := HRO.out.open_ (k := k) (by rw [List.length_map]; exact hlt);obtain ⟨bn, on_, rfl, -, hbn, hcn⟩ := HRN.out.open_ (k := k) (by simp [strs]; exact hlt);have e0 : wr.cell? ⟨bo, oo + k, none⟩ = some (.bool (decide (p.f = 0))) := by rw [hO.out.cell hbo (by simp)]; exact hco k _ (by rw [List.getElem?_map, hp]; rfl)
    have e1 : wr.cell? ⟨bn, on_ + k, none⟩ = some (.string p.s) := by rw [hO.out.cell hbn (by simp)]; exact hcn k _ (by unfold strs; rw [List.getElem?_map, List.getElem?_map, hp]; rfl)
    have l1 : bo < wr.heap.size := Nat.lt_of_lt_of_le hbo hO.out.size;have l2 : bn < wr.heap.size := Nat.lt_of_lt_of_le hbn hO.out.size;have h01 : (k : Int) < (ps.length : Int) := by omega
    have hk0 : (0 : Int) ≤ (k : Int) := Int.natCast_nonneg _;have hwk : IntKind.i64.wrap ((k : Int) + 1) = (k : Int) + 1 := IntWalk.i64_in _ (by omega);have HTK : Hid (ps.take (k + 1) = ps.take k ++ [p]) := Hd (by rw [List.take_add_one, hp]; rfl);have hbsw : bs ≤ wr.heap.size := by rw [HBS.out]; exact hO.out.size
    clear hco hcn hp hbo hbn
    by_cases hf : p.f = 0
    ·rw [decide_eq_true hf] at e0;have HPN : Hid (P ++ [p.s] = ((ps.take (k + 1)).filter opP).map Pt.s) := Hd (by
      rw [HTK.out, List.filter_append, List.map_append, ← hP.out];simp [opP, hf])
     go_wp2_with (
      at_builtin
      refine wpList_append_row _ rfl (.tmp 35) (.tmp 43) _ rfl bs 9 i0 _ 1 16 Tryd.underlying24 hi hz0 hz1 hz2 rfl (by omega) (.slice A P.length c) P.length (strs P) rfl (own_only hV.out ((Only.refl [] _).alloc _) (by simp)) (wr.heap.size + 1) (some ⟨wr.heap.size, 0, none⟩) 1 1 [.string p.s] rfl rfl (row_lit wr 9 #[.string p.s]) (by intro u hu; simp at hu; subst hu; rfl) (by unfold maxLen; omega) (by omega) (by simp; omega) ?_;intro v7 w7 hown7 hgrow7 hat7;obtain ⟨A7, c7, rfl, -, -, -, -⟩ := own_row hown7;have HV7 : Hid (w7.ownsRow bs 9 1 (.slice A7 (P ++ [p.s]).length c7) (P ++ [p.s]).length (strs (P ++ [p.s]))) := Hd (by
       have e : strs (P ++ [p.s]) = strs P ++ [.string p.s] := by simp [strs]
       rw [e, List.length_append];exact hown7)
      have HO7 := Hd (hO.out.step (((Only.refl _ wr).alloc _).step (only_grown hgrow7) (fun i hi hl => hi)) (fun i hi hl => by have := (hV.out.lt i (by simpa using hi)).1; have := HBS.out; omega));clear hown7 hgrow7 hat7)
     go_roundw
     case rel => exact ⟨k + 1, P ++ [p.s], A7, c7, by simp, by go_num, by omega, by simp; omega, HPN, HV7, HO7⟩
     case measure => simp [intOf]; omega
    ·rw [decide_eq_false hf] at e0;have HPN : Hid (P = ((ps.take (k + 1)).filter opP).map Pt.s) := Hd (by
      rw [HTK.out, List.filter_append, List.map_append, ← hP.out];simp [opP, hf])
     go_wp2
     go_roundw
     case rel => exact ⟨k + 1, P, A, c, rfl, by go_num, by omega, by omega, HPN, hV, hO⟩
     case measure => simp [intOf]; omega
   ·have hkm : k = ps.length := by omega
    subst hkm;have hd2 : decide ((ps.length : Int) < (ps.length : Int)) = false := by simp
    have HPS : Hid (sortB P = R) := Hd (by rw [HRF.out, hP.out, List.take_length]);have HMA := Hd (rsorted_any A P.length c wr.heap.size P wr rfl (by omega) (fun z hz => by
     rw [hP.out, List.take_length] at hz;obtain ⟨p, hp, rfl⟩ := List.mem_map.1 hz;exact HNO.out p (List.mem_filter.1 hp).1) (prow_of_own hV.out))
    rw [HPS.out] at HMA;have HOF := Hd (HO2.out.trans hO.out);clear hP hV hO HPS;go_wp2_with fail
    refine (HMA.out).mono ?_;rintro e w5 ⟨O5, V5, rfl, hv5⟩;obtain ⟨A5, c5, rfl, -, -, -, hr5⟩ := own_row hv5;have HO5 := Hd (HOF.out.trans O5);have HR5 := Hd hr5;clear O5 hv5 hr5;go_wp2
    go_ret
    exact ⟨A5, _, c5, ⟨rfl, rfl, HR5.out⟩, HO5.out⟩
 ·have HRF : Hid (R = []) := Hd (by rw [HRE.out, if_neg her]);have her2 : (er == 0) = false := by simpa using her
  clear HYE HRE
  go_loopw [6, 7] (fun ov iv wr => ov = .slice (some ⟨bs, 0, none⟩) 0 0 ∧ iv = .int .i64 0 ∧ wr = w3) (fun _ _ _ => 0)
  case atStart => exact ⟨rfl, rfl, rfl⟩
  case round =>
   obtain ⟨rfl, rfl, rfl⟩ := hrel;have HWk := HW.out.same HOL.out;have b6 := HWk.blk.at_ 6;have lb := HWk.blk.lt;simp at b6;clear HWk;have HMA := Hd (rsorted_any (some ⟨bs, 0, none⟩) 0 0 wr.heap.size [] wr rfl (by omega) (fun z hz => by cases hz) .nil);have HOF := Hd (HO2.out.trans HOL.out);have hfin : ∀ (V5 : Value) (w5 : World), w5.ownsRow wr.heap.size 9 1 V5 (sortB []).length (strs (sortB [])) → ∃ A5 c5, V5 = .slice A5 0 c5 := fun V5 w5 h => by
    obtain ⟨A5, c5, e, -⟩ := own_row h;exact ⟨A5, c5, e⟩
   by_cases h0 : ps.length = 0
   ·have h00 : ((ps.length : Nat) : Int) = 0 := by omega
    have h01 : decide ((0 : Int) < ((ps.length : Nat) : Int)) = false := decide_eq_false (by omega);go_wp2_with fail
    refine (HMA.out).mono ?_;rintro e w5 ⟨O5, V5, rfl, hv5⟩;obtain ⟨A5, c5, rfl⟩ := hfin V5 w5 hv5;have HO5 := Hd (HOF.out.trans O5);clear O5 hv5;go_wp2
    go_ret
    rw [HRF.out];exact ⟨A5, _, c5, ⟨rfl, rfl, .nil⟩, HO5.out⟩
   ·have h01 : (0 : Int) < ((ps.length : Nat) : Int) := by omega
    go_wp2_with fail
    refine (HMA.out).mono ?_;rintro e w5 ⟨O5, V5, rfl, hv5⟩;obtain ⟨A5, c5, rfl⟩ := hfin V5 w5 hv5;have HO5 := Hd (HOF.out.trans O5);clear O5 hv5;go_wp2
    go_ret
    rw [HRF.out];exact ⟨A5, _, c5, ⟨rfl, rfl, .nil⟩, HO5.out⟩
end Go.Proofs.YtojlaphklkomfaaDoor
