/- Parts. -/
import Derived.Test.YtlnlppabeddclaaDoorLaw23AllK37
set_option maxRecDepth 10000
set_option maxHeartbeats 16000000
set_option linter.unusedVariables false
set_option linter.unusedSimpArgs false
namespace Go.Proofs.YtlnlppabeddclaaDoor
open Go.RowKit
attribute [local go_sem ↓] Go.wp_at_zero Go.wp_at_succ
theorem ringLeast_walk (n0 : Int) (A : Option Addr) (m c : Nat) (l : List (Int × Int)) (w : World)
  (hr : Row w w.heap.size A (edgeC l)) (hl : l.length = m) (hmc : m ≤ c) (hc : c ≤ maxLen) (hT : Tab w) (h00 : 0 < w.heap.size) :
  Calls Tryd.prog 3 #[.int .i64 n0, .slice A m c] w fun e w' => e = .returned (.bool true) ∧ Only [] w w' := by
 have HWO := Hd (fun (W : World) (O : Only [] w W) => works23_any W (hT.only h00 O (by simp)) (Nat.lt_of_lt_of_le h00 O.size));have HFW := few23_any n0 A m c l w hr hl hmc hc;have HLL : (l.take (min m 25)).length = min m 25 := by rw [List.length_take, hl]; omega
 have HT := Hd (fun (W : World) (O : Only [] w W) => aI (hT.only h00 O (by simp)) (Nat.lt_of_lt_of_le h00 O.size));obtain ⟨M, hM⟩ : ∃ M, M = min m 25 := ⟨_, rfl⟩;have hM25 : M ≤ 25 := by omega
 rw [← hM] at HLL HFW;obtain ⟨L, hL⟩ : ∃ L, L = l.take M := ⟨_, rfl⟩;rw [← hL] at HLL HFW;obtain ⟨N, hN⟩ : ∃ N, N = fewN n0 := ⟨_, rfl⟩;rw [← hN] at HFW;have HF := Hd HFW;have hm60 : min M 60 = M := by omega
 have htake : L.take M = L := List.take_of_length_le (by omega);have HF2 := Hd (fun (W : World) (B : Option Addr) (cb : Nat) (hrow : Row W W.heap.size B (edgeC L)) (hb1 : M ≤ cb) (hb2 : cb ≤ maxLen) => by
  have := few19_any B M cb L W hrow HLL hb1 hb2;rw [hm60, htake] at this;exact this)
 have HLN := Hd HLL;clear hL hM HLL hr hT hN hl hmc hc hm60 htake HFW;go_enter Tryd.func3, Tryd.ntmps3;go_wp2_with fail
 refine (HF.out).mono ?_;rintro e w1 ⟨B, cb, ⟨rfl, hv⟩, O1⟩;have hrb := own_row hv;obtain ⟨B', cb', he, hb1, hb2, -, hrow⟩ := hrb;injection he with he1 he2 he3;subst he1 he3;have HROW := Hd hrow;have HO1 := Hd O1;have HF3 := Hd (HF2.out w1 B cb hrow hb1 hb2);clear hv hrow O1 HF HF2 he2;go_wp2_with fail
 refine (HF3.out).mono ?_;rintro e w2 ⟨v2, rfl, hv2, O2⟩;obtain ⟨B2, cb2, rfl, hc1, hc2, -, hrow2⟩ := own_row hv2;have HO2 := Hd (HO1.out.trans O2);have HROW2 := Hd (row_up (HROW.out.only O2 (by simp)));have HLE := Hd (rleastA_any N B2 M cb2 L w2 hrow2 HLN.out (by omega) (HT.out _ HO2.out).1 (HT.out _ HO2.out).2);clear hv2 hrow2 O2 HF3 HROW HT HO1;have HMYF := Hd (fun (W : World) (O : Only [] w2 W) => rmay19_any N B M cb L W (row_up (HROW2.out.only O (by simp))) HLN.out (by omega))
 cases hmy : mayL N L with
 | false =>
  rw [leastQ_no hmy] at HLE;rw [hmy] at HMYF;dsimp only at HLE;clear hmy;go_wp2_with fail
  refine (HLE.out).mono ?_;rintro e w4 ⟨A4, c4, ⟨rfl, hv⟩, O4⟩;have HO4 := Hd (HO2.out.trans O4);have HMY := Hd (HMYF.out _ O4);have HW4 := Hd (HWO.out _ HO4.out);clear hv O4 HLE HMYF HWO;go_wp2_with fail
  refine (HMY.out).mono ?_;rintro e w5 ⟨rfl, rfl⟩;go_wp2_with fail
  refine (HW4.out).mono ?_;rintro e w6 ⟨rfl, O6⟩;have HO6 := Hd (HO4.out.trans O6);clear O6;go_wp2
  go_ret
  exact ⟨rfl, HO6.out⟩
 | true =>
  obtain ⟨q, rfl, hq, wf, hg⟩ := may_wf hmy;rw [leastQ_yes hmy] at HLE;have HRL := Hd (fun (W : World) (O : Only [] w2 W) => rleastr23_any q B M cb L W hq (row_up (HROW2.out.only O (by simp))) HLN.out (by omega));have HPOS := Hd (fun r (h : ringL (edB L) q = some r) => (on_shape _ (ring_on h).choose_spec.choose_spec.2.2 (.one _) (by simp)).2.1);have HNR := Hd (fun r (h : ringL (edB L) q = some r) => isRing_len (ring_is hmy h));obtain ⟨R, hR⟩ : ∃ R, R = ringL (edB L) q := ⟨_, rfl⟩;simp only [← hR] at HLE HRL HPOS HNR;rw [hmy] at HMYF;clear hmy wf hg hR
  cases R with
  | none =>
   have hg0 : (none : Option (List Nat)).getD [] = [] := rfl;have hs0 : (if (none : Option (List Nat)).isSome = true then (0 : Int) else 3) = 3 := rfl;simp only [hg0, hs0, List.length_nil] at HLE HRL;clear hg0 hs0 HPOS HNR;go_wp2_with fail
   refine (HLE.out).mono ?_;rintro e w4 ⟨A4, c4, ⟨rfl, hv⟩, O4⟩;have HO4 := Hd (HO2.out.trans O4);have HMY := Hd (HMYF.out _ O4);have HR4 := Hd (HRL.out _ O4);clear hv O4 HLE HMYF HRL;go_wp2_with fail
   refine (HMY.out).mono ?_;rintro e w5 ⟨rfl, rfl⟩;go_wp2_with fail
   refine (HR4.out).mono ?_;rintro e w6 ⟨A6, c6, ⟨rfl, -⟩, O6⟩;have HO6 := Hd (HO4.out.trans O6);have HW6 := Hd (HWO.out _ HO6.out);clear O6 HR4 HWO;go_wp2_with fail
   refine (HW6.out).mono ?_;rintro e w7 ⟨rfl, O7⟩;have HO7 := Hd (HO6.out.trans O7);clear O7;go_wp2
   go_ret
   exact ⟨rfl, HO7.out⟩
  | some r =>
   have hg0 : (some r : Option (List Nat)).getD [] = r := rfl;have hs0 : (if (some r : Option (List Nat)).isSome = true then (0 : Int) else 3) = 0 := rfl;simp only [hg0, hs0] at HLE HRL;have hrp : 0 < r.length := HPOS.out r rfl;have hrq := HNR.out r rfl;rw [List.length_map] at hrq;have hr1 : ¬ (r.length : Int) = 0 := by omega
   clear hg0 hs0 HPOS HNR;go_wp2_with fail
   refine (HLE.out).mono ?_;rintro e w4 ⟨A4, c4, ⟨rfl, hv⟩, O4⟩;have HO4 := Hd (HO2.out.trans O4);have HMY := Hd (HMYF.out _ O4);have HR4 := Hd (HRL.out _ O4);have HX4 := Hd (row_of_own hv);clear hv O4 HLE HMYF HRL;go_wp2_with fail
   refine (HMY.out).mono ?_;rintro e w5 ⟨rfl, rfl⟩;go_wp2_with fail
   refine (HR4.out).mono ?_;rintro e w6 ⟨A6, c6, ⟨rfl, hr6⟩, O6⟩;have HO6 := Hd (HO4.out.trans O6);have HS := Hd (sameInts_any A4 A6 r.length r.length c4 c6 (r.map fun y : Nat => (y : Int)) (r.map fun y : Nat => (y : Int)) w6 _ _ (by rw [← intsQ_map]; exact HX4.out.only O6 (by simp)) (by rw [← intsQ_map]; exact hr6) (by simp) (by simp) (by omega) (by omega));clear O6 HR4 hr6 HX4;rw [decide_eq_true rfl] at HS;go_wp2_with fail
   refine (HS.out).mono ?_;rintro e w7 ⟨rfl, kd, rfl⟩;have HO7 := Hd (HO6.out.drewN kd);have HW7 := Hd (HWO.out _ HO7.out);clear HS HWO;go_wp2_with fail
   refine (HW7.out).mono ?_;rintro e w8 ⟨rfl, O8⟩;have HO8 := Hd (HO7.out.trans O8);clear O8;go_wp2
   go_ret
   exact ⟨rfl, HO8.out⟩
end Go.Proofs.YtlnlppabeddclaaDoor
