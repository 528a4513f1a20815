/- Parts. -/
import Derived.Test.YthdofaoamljkfaaGreatDoorWrTellsCardK18
import Derived.Test.YthdofaoamljkfaaGreatDoorWrTellsCardK25
import Derived.Lib.MinMax
import Derived.Deep.DeepMust
set_option maxRecDepth 10000
set_option maxHeartbeats 16000000
set_option linter.unusedVariables false
set_option linter.unusedSimpArgs false
namespace Go.Proofs.YthdofaoamljkfaaGreatDoor
open Go.RowKit
open Go.Lib hiding intOf
attribute [local go_sem ↓] Go.wp_at_zero Go.wp_at_succ
theorem choL_max {h : Hst} (hw : wholeB h = true) : (choL h).length ≤ 800 := by
 have hm := whole_may hw;have h1 := rdsQ_le (fun t (ht : t ∈ h.l) => (may_keys24 hm ht).2) (whichL comT h.l).length;rw [rdsQ_all h.l (Nat.le_refl _)] at h1;have h2 := which_le comT h.l;have h3 := (may_ops hm).1;rw [choL_len];omega
section
variable (A0 A1 A2 : Option Addr) (n0 n1 n2 c0 c1 c2 B : Nat) (h : Hst)
theorem wrcho2_any (w : World) (hg : HIn w B A0 A1 A2 n0 n1 n2 h) (hw : wholeB h = true) (hI : HInt h) :
  Calls Tryz.prog 26 #[hval A0 A1 A2 n0 n1 n2 c0 c1 c2] w fun e w' => ∃ A cp xs, (e = .returned (.slice A (choL h).length cp) ∧ Rows2 w' w.heap.size (.slice A (choL h).length cp) xs (choL h)) ∧ Only [] w w' :=
 (wrcho_any A0 A1 A2 n0 n1 n2 c0 c1 c2 B h w hg hw hI).mono fun e w' ⟨V, xs, ⟨he, h1, h2, h3⟩, O⟩ => by
  have hr : Rows2 w' w.heap.size V xs (choL h) := ⟨h1, h2, h3⟩;obtain ⟨A, cp, rfl⟩ := hr.val;exact ⟨A, cp, xs, ⟨he, hr⟩, O⟩
theorem wrChoices_any (w : World) (hg : HIn w B A0 A1 A2 n0 n1 n2 h) (hI : HInt h) :
  Calls Tryz.prog 9 #[hval A0 A1 A2 n0 n1 n2 c0 c1 c2] w fun e w' => ∃ A cp xs, (e = .returned (.slice A (choH h).length cp) ∧ Rows2 w' w.heap.size (.slice A (choH h).length cp) xs (choH h)) ∧ Only [] w w' := by
 have HWI := Hd (fun w' (O : Only [] w w') => wis_any A0 A1 A2 n0 n1 n2 c0 c1 c2 B h w' (hg.same O));have HRD := Hd (fun (hm : wholeB h = true) w' (O : Only [] w w') => wrcho2_any A0 A1 A2 n0 n1 n2 c0 c1 c2 B h w' (hg.same O) hm hI);unfold hval at *;clear hg hI;have HO1 := Hd ((Only.refl [] w).alloc (.cells #[.slice A0 n0 c0, .slice A1 n1 c1, .slice A2 n2 c2] 25));have HB1 := Hd (Blk.made w 25 #[.slice A0 n0 c0, .slice A1 n1 c1, .slice A2 n2 c2]);obtain ⟨d, hd⟩ : ∃ d, wholeB h = d := ⟨_, rfl⟩;rw [hd] at HWI HRD;have HDD : Hid (choH h = if d = true then choL h else []) := Hd (by unfold choH; rw [hd]);generalize choH h = R at *;clear hd;go_enter Tryz.func9, Tryz.ntmps9;go_upto_region 1 with (fail)
 generalize (w.alloc (.cells #[.slice A0 n0 c0, .slice A1 n1 c1, .slice A2 n2 c2] 25)) = w1 at *;have lB := HB1.out.lt;have y0 := HB1.out.at_ 0;have y1 := HB1.out.at_ 1;have y2 := HB1.out.at_ 2;simp at y0 y1 y2;go_wp2_with fail
 refine (HWI.out _ HO1.out).mono ?_;rintro e w2 ⟨rfl, O2⟩;have HO2 := Hd (HO1.out.trans O2);have HB2 := Hd (O2.blk HB1.out (by simp));clear O2 HO1 HB1 HWI lB y0 y1 y2;have lB := HB2.out.lt;have y0 := HB2.out.at_ 0;have y1 := HB2.out.at_ 1;have y2 := HB2.out.at_ 2;simp at y0 y1 y2
 cases d with
 | false =>
  obtain rfl : R = [] := by rw [HDD.out, if_neg (by decide)]
  go_wp2
  go_ret
  exact ⟨none, 0, [], ⟨rfl, Rows2.nil _ _⟩, HO2.out⟩
 | true =>
  obtain rfl : R = choL h := by rw [HDD.out, if_pos rfl]
  have hl2 := HO2.out.size;clear HDD;go_wp2_with fail
  refine (HRD.out trivial _ HO2.out).mono ?_;rintro e w3 ⟨A, cp, xs, ⟨rfl, hV⟩, O3⟩;have HV := Hd (show Rows2 w3 w.heap.size _ xs _ from ⟨own_from hV.row hl2, hV.ls, fun x hx => own_from (hV.own x hx) hl2⟩);have HO3 := Hd (HO2.out.trans O3);clear O3 hV;go_wp2
  go_ret
  exact ⟨A, cp, xs, ⟨rfl, HV.out⟩, HO3.out⟩
theorem wris2_any {w : World} {base : Nat} {AV : Option Addr} {cV : Nat} {xs : List SlI} {C : List (List Int)} (hr : Rows2 w base (.slice AV C.length cV) xs C) (hf : ∀ c ∈ C, c.length ≤ 1000) (Am : Option Addr) (m c Bl : Nat) (l : List Int)
  (hg : Row w Bl Am (l.map (Value.int .i64))) (hm : l.length = m) (hM : m ≤ 100000) :
  Calls Tryz.prog 27 #[.slice AV C.length cV, .slice Am m c] w fun e w' => e = .returned (.bool (decide (m = C.length) && isI C l)) ∧ Only [] w w' := by
 have hn := hr.len;have h1 := wris_any AV Am C.length cV m c w.heap.size Bl l xs w (by have := hr.row; rw [hn] at this; exact (own_row_at this).1) hn (fun x hx => (own_row_at (hr.own x hx)).1) (fun x hx => hf x.l (by rw [← hr.ls]; exact List.mem_map_of_mem hx)) hg hm hM
 rwa [hr.ls] at h1
theorem wrIs_any (Am : Option Addr) (m c Bl : Nat) (l : List Int) (w : World) (hg : HIn w B A0 A1 A2 n0 n1 n2 h) (hI : HInt h) (hl : Row w Bl Am (l.map (Value.int .i64))) (hm : l.length = m) (hM : m ≤ 100000) :
  Calls Tryz.prog 10 #[hval A0 A1 A2 n0 n1 n2 c0 c1 c2, .slice Am m c] w fun e w' => e = .returned (.bool (isMap h l)) ∧ Only [] w w' := by
 have HWI := Hd (fun w' (O : Only [] w w') => wis_any A0 A1 A2 n0 n1 n2 c0 c1 c2 B h w' (hg.same O));have HRD := Hd (fun (hm : wholeB h = true) w' (O : Only [] w w') => wrcho2_any A0 A1 A2 n0 n1 n2 c0 c1 c2 B h w' (hg.same O) hm hI);have hnh : h.l.length = n2 := hg.n2;have HN40 := Hd (fun (hw : wholeB h = true) => (may_ops (whole_may hw)).1);have HFW := Hd (fun c (hc : c ∈ choL h) => choL_few hc);unfold hval at *;clear hg hI;have HO1 := Hd ((Only.refl [] w).alloc (.cells #[.slice A0 n0 c0, .slice A1 n1 c1, .slice A2 n2 c2] 25));have HB1 := Hd (Blk.made w 25 #[.slice A0 n0 c0, .slice A1 n1 c1, .slice A2 n2 c2]);obtain ⟨d, hd⟩ : ∃ d, wholeB h = d := ⟨_, rfl⟩;rw [hd] at HWI HRD HN40;have HDD : Hid (isMap h l = (d && (decide (m = (choL h).length) && isI (choL h) l))) := Hd (by unfold isMap; rw [hd, hm]);have HL := Hd (fun w' (O : Only [] w w') => hl.only O (by simp));have HM := Hd hm;generalize isMap h l = R at *;clear hl hm;clear hd;go_enter Tryz.func10, Tryz.ntmps10;go_upto_region 1 with (fail)
 generalize (w.alloc (.cells #[.slice A0 n0 c0, .slice A1 n1 c1, .slice A2 n2 c2] 25)) = w1 at *;have lB := HB1.out.lt;have y0 := HB1.out.at_ 0;have y1 := HB1.out.at_ 1;have y2 := HB1.out.at_ 2;simp at y0 y1 y2;go_wp2_with fail
 refine (HWI.out _ HO1.out).mono ?_;rintro e w2 ⟨rfl, O2⟩;have HO2 := Hd (HO1.out.trans O2);have HB2 := Hd (O2.blk HB1.out (by simp));clear O2 HO1 HB1 HWI lB y0 y1 y2;have lB := HB2.out.lt;have y0 := HB2.out.at_ 0;have y1 := HB2.out.at_ 1;have y2 := HB2.out.at_ 2;simp at y0 y1 y2
 cases d with
 | false =>
  obtain rfl : R = false := by rw [HDD.out]; rfl
  go_wp2
  go_ret
  exact ⟨rfl, HO2.out⟩
 | true =>
  have hl2 := HO2.out.size;have HFW3 := Hd (fun c (hc : c ∈ choL h) => show c.length ≤ 1000 by have h1 := HFW.out c hc; have h2 := HN40.out (by first | rfl | trivial); omega);go_wp2_with fail
  refine (HRD.out trivial _ HO2.out).mono ?_;rintro e w3 ⟨A, cp, xs, ⟨rfl, hV⟩, O3⟩;have HV := Hd hV;have HO3 := Hd (HO2.out.trans O3);clear O3 hV HRD HB2 lB y0 y1 y2;have HIS := Hd (wris2_any HV.out HFW3.out Am m c Bl l (HL.out _ HO3.out) HM.out hM);rw [Bool.true_and] at HDD;rw [← HDD.out] at HIS;go_wp2_with fail
  refine (HIS.out).mono ?_;rintro e w4 ⟨rfl, O4⟩;have HO4 := Hd (HO3.out.trans O4);clear O4;go_wp2
  go_ret
  exact ⟨rfl, HO4.out⟩
theorem wrCount_any (w : World) (hg : HIn w B A0 A1 A2 n0 n1 n2 h) (hI : HInt h) :
  Calls Tryz.prog 21 #[hval A0 A1 A2 n0 n1 n2 c0 c1 c2] w fun e w' => e = .returned (.int .i64 (cntR h : Int)) ∧ Only [] w w' := by
 have HWI := Hd (fun w' (O : Only [] w w') => wis_any A0 A1 A2 n0 n1 n2 c0 c1 c2 B h w' (hg.same O));have HRD := Hd (fun (hm : wholeB h = true) w' (O : Only [] w w') => wrcho2_any A0 A1 A2 n0 n1 n2 c0 c1 c2 B h w' (hg.same O) hm hI);have hnh : h.l.length = n2 := hg.n2;have HN40 := Hd (fun (hw : wholeB h = true) => (may_ops (whole_may hw)).1);have HFW := Hd (fun c (hc : c ∈ choL h) => choL_few hc);unfold hval at *;clear hg hI;have HO1 := Hd ((Only.refl [] w).alloc (.cells #[.slice A0 n0 c0, .slice A1 n1 c1, .slice A2 n2 c2] 25));have HB1 := Hd (Blk.made w 25 #[.slice A0 n0 c0, .slice A1 n1 c1, .slice A2 n2 c2]);obtain ⟨d, hd⟩ : ∃ d, wholeB h = d := ⟨_, rfl⟩;rw [hd] at HWI HRD HN40;have HDD : Hid (cntR h = if d = true then cntM (choL h) else 0) := Hd (by unfold cntR; rw [hd]);generalize cntR h = R at *;clear hd;go_enter Tryz.func21, Tryz.ntmps21;go_upto_region 1 with (fail)
 generalize (w.alloc (.cells #[.slice A0 n0 c0, .slice A1 n1 c1, .slice A2 n2 c2] 25)) = w1 at *;have lB := HB1.out.lt;have y0 := HB1.out.at_ 0;have y1 := HB1.out.at_ 1;have y2 := HB1.out.at_ 2;simp at y0 y1 y2;go_wp2_with fail
 refine (HWI.out _ HO1.out).mono ?_;rintro e w2 ⟨rfl, O2⟩;have HO2 := Hd (HO1.out.trans O2);have HB2 := Hd (O2.blk HB1.out (by simp));clear O2 HO1 HB1 HWI lB y0 y1 y2;have lB := HB2.out.lt;have y0 := HB2.out.at_ 0;have y1 := HB2.out.at_ 1;have y2 := HB2.out.at_ 2;simp at y0 y1 y2
 cases d with
 | false =>
  obtain rfl : R = 0 := by rw [HDD.out, if_neg (by decide)]
  go_wp2
  go_ret
  exact ⟨rfl, HO2.out⟩
 | true =>
  have HDR : Hid (R = cntM (choL h)) := Hd (by rw [HDD.out, if_pos rfl]);clear HDD;have hl2 := HO2.out.size;have HFW3 := Hd (fun c (hc : c ∈ choL h) => show c.length ≤ 1000 by have h1 := HFW.out c hc; have h2 := HN40.out (by first | rfl | trivial); omega);go_wp2_with fail
  refine (HRD.out trivial _ HO2.out).mono ?_;rintro e w3 ⟨A, cp, xs, ⟨rfl, hV⟩, O3⟩;have HV := Hd hV;have HO3 := Hd (HO2.out.trans O3);clear O3 hV HRD HB2 lB y0 y1 y2;obtain ⟨C, hC⟩ : ∃ C, choL h = C := ⟨_, rfl⟩;rw [hC] at HV HFW3 HDR ⊢;clear hC HFW;obtain ⟨n, hn⟩ : ∃ n, C.length = n := ⟨_, rfl⟩;have HN := Hd hn;have hnx := HV.out.max;rw [hn] at HV hnx ⊢;unfold maxLen at hnx;clear hn;obtain ⟨wo, hwo⟩ : ∃ wo : World, wo = w3 := ⟨_, rfl⟩;subst hwo;go_wp2_with fail
  go_loopw [3, 12] (fun pv iv wr => ∃ (k P : Nat), iv = .int .i64 (k : Int) ∧ pv = .int .i64 (P : Int) ∧ k ≤ n ∧ Hid (P = cntM (C.take k)) ∧ Hid (Only [] wo wr)) (fun _ iv _ => n - (intOf iv).toNat)
  case atStart => exact ⟨0, 1, rfl, rfl, by omega, Hd rfl, Hd (Only.refl [] wo)⟩
  case round =>
   obtain ⟨k, P, rfl, rfl, hk, hP, hO⟩ := hrel
   by_cases hlt : k < n
   ·obtain ⟨l, hl⟩ : ∃ l, C[k]? = some l := ⟨_, List.getElem?_eq_getElem (by rw [HN.out]; exact hlt)⟩;have hll := HFW3.out l (List.mem_of_getElem? hl);have hP1 : P ≤ 1000000 := by rw [hP.out]; exact cntM_le _
    have HST := Hd (cntM_take hl);rw [← hP.out] at HST;have hrw := HV.out.same hO.out;obtain ⟨b, off, Ak, ck, rfl, hb, hc, -⟩ := hrw.cell (n := n) hl;generalize l.length = m at *;obtain ⟨Q, hQ⟩ : ∃ Q, P * m = Q := ⟨_, rfl⟩;rw [hQ] at HST;have hQ1 : Q ≤ 1000000000 := by
     rw [← hQ];have := Nat.mul_le_mul hP1 hll;omega
    have hmul : IntKind.i64.wrap ((P : Int) * (m : Int)) = (Q : Int) := by
     rw [← hQ, ← Int.natCast_mul];refine IntWalk.i64_in _ ?_;rw [hQ];omega
    obtain ⟨T, hT⟩ : ∃ T, min Q 1000000 = T := ⟨_, rfl⟩;rw [hT] at HST;have hmin : min (Q : Int) 1000000 = (T : Int) := by omega
    have h01 : (k : Int) < (n : Int) := by omega
    have hk0 : (0 : Int) ≤ (k : Int) := Int.natCast_nonneg _;have hwk : IntKind.i64.wrap ((k : Int) + 1) = (k : Int) + 1 := IntWalk.i64_in _ (by omega);clear hrw hl hQ hT hll hQ1;go_wp2
    go_roundw
    case rel => exact ⟨k + 1, T, by go_num, rfl, by omega, Hd HST.out.symm, hO⟩
    case measure => simp [intOf]; omega
   ·obtain rfl : k = n := by omega
    have HE : Hid (R = P) := Hd (by rw [HDR.out, hP.out, List.take_of_length_le (by rw [HN.out]; exact Nat.le_refl _)]);have HO9 := Hd (HO3.out.trans hO.out);go_wp2
    go_ret
    exact ⟨by rw [HE.out]; rfl, HO9.out⟩
end
theorem wfq_any (A : Option Addr) (m c : Nat) (w : World) : Calls Tryz.prog 36 #[.slice A m c] w fun e w' => e = .returned (.bool (decide (m = 0))) ∧ w = w' := by
 obtain ⟨d, hd⟩ : ∃ d, decide (m = 0) = d := ⟨_, rfl⟩;have hd2 : ((m : Int) == 0) = d := by rw [← hd]; by_cases h : m = 0 <;> simp [h]
 rw [hd];clear hd;go_enter Tryz.func36, Tryz.ntmps36;go_wp2
 go_ret
 exact ⟨rfl, rfl⟩
theorem anyE_take {C : List (List Int)} {k : Nat} {x : List Int} (h : C[k]? = some x) : (C.take (k + 1)).any emptyB = ((C.take k).any emptyB || emptyB x) := by
 rw [List.take_add_one, h, List.any_append];simp
theorem emptyindex_any {w : World} {base : Nat} {A : Option Addr} {cp : Nat} {xs : List SlI} {C : List (List Int)} (hr : Rows2 w base (.slice A C.length cp) xs C) :
  Calls Tryz.prog 55 #[.slice A C.length cp, .func (.func 36) #[] #[]] w fun e w' => ∃ r : Int, (e = .returned (.int .i64 r) ∧ decide (0 ≤ r) = C.any emptyB) ∧ w = w' := by
 have HV := Hd hr;have hnx := hr.max;obtain ⟨n, hn⟩ : ∃ n, C.length = n := ⟨_, rfl⟩;have HN := Hd hn;have HY := Hd (fun A m c w' => wfq_any A m c w');rw [hn] at HV hnx ⊢;unfold maxLen at hnx;clear hr hn;go_enter Tryz.func55, Tryz.ntmps55;go_wp2_with fail
 go_loopw [8] (fun iv wr => ∃ k : Nat, iv = .int .i64 (k : Int) ∧ k ≤ n ∧ Hid ((C.take k).any emptyB = false) ∧ Hid (w = wr)) (fun iv _ => n - (intOf iv).toNat)
 case atStart => exact ⟨0, rfl, by omega, Hd rfl, Hd rfl⟩
 case round =>
  obtain ⟨k, rfl, hk, hne, hO⟩ := hrel
  by_cases hlt : k < n
  ·obtain ⟨l, hl⟩ : ∃ l, C[k]? = some l := ⟨_, List.getElem?_eq_getElem (by rw [HN.out]; exact hlt)⟩;have hrw : Rows2 wr base (.slice A n cp) xs C := hO.out ▸ HV.out;obtain ⟨b, off, Ak, ck, rfl, hb, hc, -⟩ := hrw.cell (n := n) hl;have h01 : (k : Int) < (n : Int) := by omega
   have hk0 : (0 : Int) ≤ (k : Int) := Int.natCast_nonneg _;have hwk : IntKind.i64.wrap ((k : Int) + 1) = (k : Int) + 1 := IntWalk.i64_in _ (by omega);have HTK := Hd (anyE_take hl);have HTM := Hd (List.mem_of_getElem? hl);have HYU := Hd (HY.out Ak l.length ck wr);obtain ⟨d, hd⟩ : ∃ d, emptyB l = d := ⟨_, rfl⟩;have hd1 : decide (l.length = 0) = d := hd;rw [hd] at HTK;rw [hd1] at HYU;have HD := Hd hd;generalize l.length = m at *;clear hd hd1 hl hrw;go_wp2_with fail
   refine (HYU.out).mono ?_;rintro e w2 ⟨rfl, rfl⟩
   cases d with
   | true =>
    have HT : Hid (C.any emptyB = true) := Hd (List.any_eq_true.2 ⟨l, HTM.out, HD.out⟩);go_wp2
    go_ret
    exact ⟨(k : Int), ⟨rfl, by rw [HT.out]; simp⟩, hO.out⟩
   | false =>
    have HN2 : Hid ((C.take (k + 1)).any emptyB = false) := Hd (by rw [HTK.out, hne.out]; rfl);go_wp2
    go_roundw
    case rel => exact ⟨k + 1, by go_num, by omega, HN2, hO⟩
    case measure => simp [intOf]; omega
  ·obtain rfl : k = n := by omega
   have hd : decide ((k : Int) < (k : Int)) = false := by simp
   have HA : Hid (C.any emptyB = false) := Hd (by have := hne.out; rwa [List.take_of_length_le (by rw [HN.out]; exact Nat.le_refl _)] at this);go_wp2
   go_ret
   exact ⟨-1, ⟨rfl, by rw [HA.out]; rfl⟩, hO.out⟩
theorem emptyhas_any {w : World} {base : Nat} {A : Option Addr} {cp : Nat} {xs : List SlI} {C : List (List Int)} (hr : Rows2 w base (.slice A C.length cp) xs C) :
  Calls Tryz.prog 35 #[.slice A C.length cp, .func (.func 36) #[] #[]] w fun e w' => e = .returned (.bool (C.any emptyB)) ∧ w = w' := by
 have HI := Hd (emptyindex_any hr);obtain ⟨b, hb⟩ : ∃ b, C.any emptyB = b := ⟨_, rfl⟩;rw [hb] at HI ⊢;clear hb hr;go_enter Tryz.func35, Tryz.ntmps35;go_wp2_with fail
 refine (HI.out).mono ?_;rintro e w2 ⟨r, ⟨rfl, hr⟩, rfl⟩;go_wp2
 go_ret
 exact ⟨by first | rfl | rw [hr], rfl⟩
theorem heads_take {C : List (List Int)} {k : Nat} {x : List Int} (h : C[k]? = some x) : headsL 0 (C.take (k + 1)) = headsL 0 (C.take k) ++ [x.headD 0] := by
 unfold headsL;rw [List.take_add_one, h, Option.toList_some, List.map_append]
 rfl
section
variable (A0 A1 A2 : Option Addr) (n0 n1 n2 c0 c1 c2 B : Nat) (h : Hst)
theorem wrFirst_any (w : World) (hg : HIn w B A0 A1 A2 n0 n1 n2 h) (hI : HInt h) :
  Calls Tryz.prog 18 #[hval A0 A1 A2 n0 n1 n2 c0 c1 c2] w fun e w' => ∃ A cp, (e = .returned (.tuple #[.slice A (firstR h).1.length cp, .int .i64 (firstR h).2]) ∧ w'.ownsRow w.heap.size 3 1 (.slice A (firstR h).1.length cp) (firstR h).1.length ((firstR h).1.map (Value.int .i64))) ∧ Only [] w w' := by
 obtain ⟨i0, hi, hz0, hz1, hz2⟩ := info_parts info_int;have HWI := Hd (fun w' (O : Only [] w w') => wis_any A0 A1 A2 n0 n1 n2 c0 c1 c2 B h w' (hg.same O));have HRD := Hd (fun (hm : wholeB h = true) w' (O : Only [] w w') => wrcho2_any A0 A1 A2 n0 n1 n2 c0 c1 c2 B h w' (hg.same O) hm hI);have hnh : h.l.length = n2 := hg.n2;have HN40 := Hd (fun (hw : wholeB h = true) => (may_ops (whole_may hw)).1);have HFW := Hd (fun c (hc : c ∈ choL h) => choL_few hc);unfold hval at *;clear hg hI;have HO1 := Hd ((Only.refl [] w).alloc (.cells #[.slice A0 n0 c0, .slice A1 n1 c1, .slice A2 n2 c2] 25));have HB1 := Hd (Blk.made w 25 #[.slice A0 n0 c0, .slice A1 n1 c1, .slice A2 n2 c2]);obtain ⟨d, hd⟩ : ∃ d, wholeB h = d := ⟨_, rfl⟩;have HCM := Hd (fun (hw : wholeB h = true) => choL_max hw);rw [hd] at HWI HRD HN40 HCM;have HDD : Hid (firstR h = if d = true then (if (choL h).any emptyB = true then ([], 3) else (headsL 0 (choL h), 0)) else ([], 4)) := Hd (by unfold firstR; rw [hd]);generalize firstR h = R at *;obtain ⟨R1, R2⟩ := R;dsimp only at *;clear hd;go_enter Tryz.func18, Tryz.ntmps18;go_upto_region 1 with (fail)
 generalize (w.alloc (.cells #[.slice A0 n0 c0, .slice A1 n1 c1, .slice A2 n2 c2] 25)) = w1 at *;have lB := HB1.out.lt;have y0 := HB1.out.at_ 0;have y1 := HB1.out.at_ 1;have y2 := HB1.out.at_ 2;simp at y0 y1 y2;go_wp2_with fail
 refine (HWI.out _ HO1.out).mono ?_;rintro e w2 ⟨rfl, O2⟩;have HO2 := Hd (HO1.out.trans O2);have HB2 := Hd (O2.blk HB1.out (by simp));clear O2 HO1 HB1 HWI lB y0 y1 y2;have lB := HB2.out.lt;have y0 := HB2.out.at_ 0;have y1 := HB2.out.at_ 1;have y2 := HB2.out.at_ 2;simp at y0 y1 y2
 cases d with
 | false =>
  have hE := HDD.out;rw [if_neg (by decide)] at hE;obtain ⟨rfl, rfl⟩ := Prod.ext_iff.1 hE;clear hE;go_wp2
  go_ret2
  exact ⟨⟨none, 0, rfl, World.ownsRow_nil _ _ _ _⟩, HO2.out⟩
 | true =>
  rw [if_pos rfl] at HDD;have hl2 := HO2.out.size;have HFW3 := Hd (fun c (hc : c ∈ choL h) => show c.length ≤ 1000 by have h1 := HFW.out c hc; have h2 := HN40.out (by first | rfl | trivial); omega);go_wp2_with fail
  refine (HRD.out trivial _ HO2.out).mono ?_;rintro e w3 ⟨A, cp, xs, ⟨rfl, hV⟩, O3⟩;have HV := Hd hV;have HO3 := Hd (HO2.out.trans O3);clear O3 hV HRD HB2 lB y0 y1 y2;obtain ⟨C, hC⟩ : ∃ C, choL h = C := ⟨_, rfl⟩;have hn8 := HCM.out (by first | rfl | trivial);rw [hC] at HV HFW3 HDD hn8 ⊢;clear hC HFW;have HEM := Hd (emptyhas_any HV.out);obtain ⟨q, hq⟩ : ∃ q, C.any emptyB = q := ⟨_, rfl⟩;have HQ := Hd hq;rw [hq] at HEM HDD;clear hq;go_wp2_with fail
  refine (HEM.out).mono ?_;rintro e w4 ⟨rfl, rfl⟩
  cases q with
  | true =>
   have hE := HDD.out;rw [if_pos rfl] at hE;obtain ⟨rfl, rfl⟩ := Prod.ext_iff.1 hE;clear hE;go_wp2
   go_ret2
   exact ⟨⟨none, 0, rfl, World.ownsRow_nil _ _ _ _⟩, HO3.out⟩
  | false =>
   have hE := HDD.out;rw [if_neg (by decide)] at hE;obtain ⟨h1, h2⟩ := Prod.ext_iff.1 hE;dsimp only at h1 h2;subst h2;have HR1 := Hd h1;have HNE := Hd (fun l (hl : l ∈ C) => List.any_eq_false.1 HQ.out l hl);have hnx := HV.out.max;obtain ⟨n, hn⟩ : ∃ n, C.length = n := ⟨_, rfl⟩;have HN := Hd hn;have HNR : Hid (R1.length = n) := Hd (by rw [h1, ← hn]; unfold headsL; rw [List.length_map]);rw [hn] at HV hnx hn8 ⊢;unfold maxLen at hnx;have hl3 : w.heap.size ≤ w3.heap.size := HO3.out.size;clear hn h1 hE HEM HDD;obtain ⟨wo, hwo⟩ : ∃ wo : World, wo = w3 := ⟨_, rfl⟩;subst hwo;go_wp2_with fail
   go_loopw [5, 17] (fun V iv wr => ∃ (k : Nat), iv = .int .i64 (k : Int) ∧ k ≤ n ∧ Hid (wr.ownsRow wo.heap.size 3 1 V k ((headsL 0 (C.take k)).map (Value.int .i64))) ∧ Hid (Only [] wo wr)) (fun _ iv _ => n - (intOf iv).toNat)
   case atStart => exact ⟨0, rfl, by omega, Hd (World.ownsRow_nil _ _ _ _), Hd (Only.refl [] wo)⟩
   case round =>
    obtain ⟨k, rfl, hk, hV, hO⟩ := hrel
    by_cases hlt : k < n
    ·obtain ⟨l, hl⟩ : ∃ l, C[k]? = some l := ⟨_, List.getElem?_eq_getElem (by rw [HN.out]; exact hlt)⟩;have hlm := List.mem_of_getElem? hl;have hll := HFW3.out l hlm;have hl0 : 0 < l.length := by
      have h1 := HNE.out l hlm;unfold emptyB at h1;have h2 : l.length ≠ 0 := by simpa using h1
      omega
     have HHT := Hd (heads_take hl);have hrw := HV.out.same hO.out;obtain ⟨b, off, Ak, ck, rfl, hb, hc, hown⟩ := hrw.cell (n := n) hl;obtain ⟨x, hx⟩ : ∃ x, l[0]? = some x := ⟨_, List.getElem?_eq_getElem hl0⟩;have hxd : l.headD 0 = x := by cases l with
      | nil => cases hl0
      | cons y r => simpa using hx
     rw [hxd] at HHT;obtain ⟨b2, o2, rfl, -, hb2, hc2⟩ := (own_row_at hown).1.open_ (k := 0) (by rw [List.length_map]; exact hl0);have e0 := hc2 0 _ (by rw [List.getElem?_map, hx]; rfl);rw [Nat.add_zero] at e0;have hm0 : (0 : Int) < (l.length : Int) := by omega
     generalize l.length = m at *;have h01 : (k : Int) < (n : Int) := by omega
     have hk0 : (0 : Int) ≤ (k : Int) := Int.natCast_nonneg _;have hwk : IntKind.i64.wrap ((k : Int) + 1) = (k : Int) + 1 := IntWalk.i64_in _ (by omega);have hszo := hO.out.size;clear hrw hl hlm hown hc2 hx hxd;go_wp2_with (at_builtin; go_must (refine wpList_append_row _ rfl (.tmp 21) (.tmp 25) _ rfl wo.heap.size 3 i0 _ 1 8 Tryz.underlying26 hi hz0 hz1 hz2 rfl (by omega) u5 _ _ rfl (own_only hV.out ((Only.refl [] _).alloc _) (by simp)) (wr.heap.size + 1) (some ⟨wr.heap.size, 0, none⟩) 1 1 [.int .i64 x] rfl rfl (row_lit wr 3 #[.int .i64 x]) (by simp [Value.oneCell']) (by unfold maxLen; omega) (by omega) (by simp; omega) ?_); intro v4 w4 hown4 hgrow hat)
     have HV4 : Hid (w4.ownsRow wo.heap.size 3 1 v4 (k + 1) ((headsL 0 (C.take (k + 1))).map (Value.int .i64))) := Hd (by rw [HHT.out, List.map_append]; exact hown4);have HO4 := Hd ((hO.out.alloc (.cells #[.int .i64 x] 3)).step (only_grown hgrow) (fun x hx hl => by have := (hV.out.lt x (by simpa using hx)).1; omega));clear hown4 hgrow hat hV hO;go_wp2
     go_roundw
     case rel => exact ⟨k + 1, by go_num, by omega, HV4, HO4⟩
     case measure => simp [intOf]; omega
    ·obtain rfl : k = n := by omega
     have HV9 : Hid (wr.ownsRow wo.heap.size 3 1 u5 k (R1.map (Value.int .i64))) := Hd (by
      have := hV.out;rw [List.take_of_length_le (by rw [HN.out]; exact Nat.le_refl _), ← HR1.out] at this;exact this)
     have HO9 := Hd (HO3.out.trans hO.out);obtain ⟨A5, c5, rfl, -, -, -, -⟩ := own_row HV9.out;clear hV hO;go_wp2
     go_ret2
     exact ⟨A5, c5, ⟨by rw [HNR.out]; rfl, by rw [HNR.out]; exact own_from HV9.out hl3⟩, HO9.out⟩
theorem wrNext_any (Am : Option Addr) (m c Bl : Nat) (l : List Int) (w : World) (hg : HIn w B A0 A1 A2 n0 n1 n2 h) (hI : HInt h) (hl : Row w Bl Am (l.map (Value.int .i64))) (hm : l.length = m) (hM : m ≤ 100000) (hA : Am = none → m = 0 ∧ c = 0) :
  Calls Tryz.prog 19 #[hval A0 A1 A2 n0 n1 n2 c0 c1 c2, .slice Am m c] w fun e w' => ∃ V, (e = .returned (.tuple #[V, .bool (nextR h l).isSome]) ∧ (∀ ys, nextR h l = some ys → w'.ownsRow w.heap.size 3 1 V m (ys.map (Value.int .i64))) ∧ (nextR h l = none → V = .slice none 0 0)) ∧ Only [] w w' := by
 have HWI := Hd (fun w' (O : Only [] w w') => wis_any A0 A1 A2 n0 n1 n2 c0 c1 c2 B h w' (hg.same O));have HRD := Hd (fun (hm : wholeB h = true) w' (O : Only [] w w') => wrcho2_any A0 A1 A2 n0 n1 n2 c0 c1 c2 B h w' (hg.same O) hm hI);have hnh : h.l.length = n2 := hg.n2;have HN40 := Hd (fun (hw : wholeB h = true) => (may_ops (whole_may hw)).1);have HFW := Hd (fun c (hc : c ∈ choL h) => choL_few hc);unfold hval at *;clear hg hI;have HO1 := Hd ((Only.refl [] w).alloc (.cells #[.slice A0 n0 c0, .slice A1 n1 c1, .slice A2 n2 c2] 25));have HB1 := Hd (Blk.made w 25 #[.slice A0 n0 c0, .slice A1 n1 c1, .slice A2 n2 c2]);obtain ⟨d, hd⟩ : ∃ d, wholeB h = d := ⟨_, rfl⟩;rw [hd] at HWI HRD HN40;have HDD : Hid (isMap h l = (d && (decide (m = (choL h).length) && isI (choL h) l))) := Hd (by unfold isMap; rw [hd, hm]);have HNR : Hid (nextR h l = if isMap h l = true then upL 0 (choL h) l else none) := Hd rfl;have HL := Hd (fun w' (O : Only [] w w') => hl.only O (by simp));have HM := Hd hm;generalize isMap h l = R at *;generalize nextR h l = T at *;clear hl hm;clear hd;go_enter Tryz.func19, Tryz.ntmps19;go_upto_region 1 with (fail)
 generalize (w.alloc (.cells #[.slice A0 n0 c0, .slice A1 n1 c1, .slice A2 n2 c2] 25)) = w1 at *;have lB := HB1.out.lt;have y0 := HB1.out.at_ 0;have y1 := HB1.out.at_ 1;have y2 := HB1.out.at_ 2;simp at y0 y1 y2;go_wp2_with fail
 refine (HWI.out _ HO1.out).mono ?_;rintro e w2 ⟨rfl, O2⟩;have HO2 := Hd (HO1.out.trans O2);have HB2 := Hd (O2.blk HB1.out (by simp));clear O2 HO1 HB1 HWI lB y0 y1 y2;have lB := HB2.out.lt;have y0 := HB2.out.at_ 0;have y1 := HB2.out.at_ 1;have y2 := HB2.out.at_ 2;simp at y0 y1 y2
 cases d with
 | false =>
  obtain rfl : R = false := by rw [HDD.out]; rfl
  obtain rfl : T = none := by rw [HNR.out, if_neg (by decide)]
  go_wp2
  go_ret2
  first | exact ⟨rfl, HO2.out⟩ | exact ⟨_, ⟨rfl, fun ys h => by cases h, fun _ => rfl⟩, HO2.out⟩ | exact ⟨⟨_, rfl, fun ys h => by cases h, fun _ => rfl⟩, HO2.out⟩
 | true =>
  have hl2 := HO2.out.size;have HFW3 := Hd (fun c (hc : c ∈ choL h) => show c.length ≤ 1000 by have h1 := HFW.out c hc; have h2 := HN40.out (by first | rfl | trivial); omega);go_wp2_with fail
  refine (HRD.out trivial _ HO2.out).mono ?_;rintro e w3 ⟨A, cp, xs, ⟨rfl, hV⟩, O3⟩;have HV := Hd hV;have HO3 := Hd (HO2.out.trans O3);clear O3 hV HRD HB2 lB y0 y1 y2;rw [Bool.true_and] at HDD;go_upto_region 4 with (fail)
  have OB : Only [] w3 (w3.alloc (.cells #[.slice A (choL h).length cp] 31)) := (Only.refl [] w3).alloc _;have HG4 := Hd (Blk.made w3 31 #[.slice A (choL h).length cp]);have HV4 := Hd (HV.out.same OB);have HO4 := Hd (HO3.out.trans OB);have HVL := Hd HV.out.len;clear HV HO3 OB;generalize (w3.alloc (.cells #[.slice A (choL h).length cp] 31)) = w4 at *;generalize w3.heap.size = gb at *;have lG := HG4.out.lt;have g0 := HG4.out.at_ 0;simp at g0;have HIS := Hd (wris2_any HV4.out HFW3.out Am m c Bl l (HL.out _ HO4.out) HM.out hM);rw [← HDD.out] at HIS;go_wp2_with fail
  refine (HIS.out).mono ?_;rintro e w5 ⟨rfl, O5⟩;have HO5 := Hd (HO4.out.trans O5);have HV5 := Hd (HV4.out.same O5);have HG5 := Hd (O5.blk HG4.out (by simp));clear O5 HO4 HV4 HG4 HIS lG g0
  cases R with
  | false =>
   obtain rfl : T = none := by rw [HNR.out, if_neg (by decide)]
   go_wp2
   go_ret2
   first | exact ⟨rfl, HO5.out⟩ | exact ⟨_, ⟨rfl, fun ys h => by cases h, fun _ => rfl⟩, HO5.out⟩ | exact ⟨⟨_, rfl, fun ys h => by cases h, fun _ => rfl⟩, HO5.out⟩
  | true =>
   rw [if_pos rfl] at HNR;have hD := HDD.out;rw [eq_comm, Bool.and_eq_true] at hD;have hmn : m = (choL h).length := of_decide_eq_true hD.1;have HT5 : Hid (ChAt w5 gb w5.heap.size m xs) := Hd ⟨⟨A, cp, by rw [hmn]; exact HG5.out, by have h1 := HV5.out.row; rw [HVL.out] at h1; exact (own_row_at h1).1⟩, by rw [hmn]; exact HVL.out, fun x hx => (own_row_at (HV5.out.own x hx)).1, HG5.out.lt, fun x hx => HFW3.out x.l (by rw [← HV5.out.ls]; exact List.mem_map_of_mem hx)⟩;have HUP := Hd (iup_any Am m c Bl gb w5.heap.size l xs w5 (HL.out _ HO5.out) HM.out hM hA HT5.out (Nat.le_refl _) (by rw [HV5.out.ls]; exact hD.2));rw [HV5.out.ls, ← HNR.out] at HUP;have hl5 := HO5.out.size;clear hD hmn HT5 HV5 HG5;go_wp2_with fail
   refine (HUP.out).mono ?_;rintro e w6 ⟨V, ⟨rfl, hy, hn⟩, O6⟩;have HY := Hd (fun ys (e : T = some ys) => own_from (hy ys e) hl5);have HN := Hd hn;have HO6 := Hd (HO5.out.trans O6);clear hy hn O6;go_wp2
   go_ret2
   first | exact ⟨_, ⟨rfl, HY.out, HN.out⟩, HO6.out⟩ | exact ⟨⟨_, rfl, HY.out, HN.out⟩, HO6.out⟩
end
end Go.Proofs.YthdofaoamljkfaaGreatDoor
