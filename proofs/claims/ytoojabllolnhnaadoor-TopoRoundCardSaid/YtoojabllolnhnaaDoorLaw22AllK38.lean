/- Parts. -/
import Derived.Test.YtoojabllolnhnaaDoorLaw22AllK35
import Derived.Test.YtoojabllolnhnaaDoorLaw22AllK37
set_option maxRecDepth 10000
set_option maxHeartbeats 16000000
set_option linter.unusedVariables false
set_option linter.unusedSimpArgs false
namespace Go.Proofs.YtoojabllolnhnaaDoor
open Go.RowKit
attribute [local go_sem ↓] Go.wp_at_zero Go.wp_at_succ
theorem least_no {n : Int} {l : List (Int × Int)} (h : mayL n l = false) : leastR n l = ([], 2) := by unfold leastR; rw [h]; rfl
theorem least_yes {q : Nat} {l : List (Int × Int)} (h : mayL (q : Int) l = true) : leastR (q : Int) l = (match leastT q l with
 | some S => (S, 0)
 | none => ([], 3)) := by unfold leastR; rw [h, if_pos rfl, Int.toNat_natCast]; cases leastT q l <;> rfl
theorem topoLeast_walk (n0 : Int) (A : Option Addr) (m c : Nat) (l : List (Int × Int)) (w : World)
  (hr : Row w w.heap.size A (edgeC l)) (hl : l.length = m) (hmc : m ≤ c) (hc : c ≤ maxLen) (hT : Tab w) (h00 : 0 < w.heap.size) :
  Calls Tryd.prog 3 #[.int .i64 n0, .slice A m c] w fun e w' => e = .returned (.bool true) ∧ Only [] w w' := by
 have HWO := Hd (fun (W : World) (O : Only [] w W) => works22_any W (hT.only h00 O (by simp)) (Nat.lt_of_lt_of_le h00 O.size));have HSM := Hd (small19_any n0 w);have HFE := Hd (fun (W : World) (O : Only [] w W) => few19_any A m c l W (row_up (hr.only O (by simp))) hl hmc hc);have HLL : (l.take (min m 60)).length = min m 60 := by rw [List.length_take, hl]; omega
 have HT := Hd (fun (W : World) (O : Only [] w W) => aI (hT.only h00 O (by simp)) (Nat.lt_of_lt_of_le h00 O.size));obtain ⟨M, hM⟩ : ∃ M, M = min m 60 := ⟨_, rfl⟩;have hM60 : M ≤ 60 := by omega
 rw [← hM] at HLL;simp only [← hM] at HFE;obtain ⟨L, hL⟩ : ∃ L, L = l.take M := ⟨_, rfl⟩;rw [← hL] at HLL;simp only [← hL] at HFE;have HLN := Hd HLL;have hm60 : min M 60 = M := by omega
 have htake : L.take M = L := List.take_of_length_le (by omega);have HF2 := Hd (fun (w : World) (B : Option Addr) (cb : Nat) (hrow : Row w w.heap.size B (edgeC L)) (hb1 : M ≤ cb) (hb2 : cb ≤ maxLen) => by
  have := few19_any B M cb L w hrow HLL hb1 hb2;rw [hm60, htake] at this;exact this)
 obtain ⟨N, hN⟩ : ∃ N, N = smallN n0 := ⟨_, rfl⟩;rw [← hN] at HSM;clear hL hM HLL hr hT hN hl hmc hc hm60 htake;go_enter Tryd.func3, Tryd.ntmps3;go_wp2_with fail
 refine (HSM.out).mono ?_;rintro e w1 ⟨rfl, rfl⟩;go_wp2_with fail
 refine (HFE.out _ (Only.refl [] _)).mono ?_;rintro e w2 ⟨v, rfl, hv, O2⟩;obtain ⟨B, cb, rfl, hb1, hb2, -, hrow⟩ := own_row hv;have HROW := Hd hrow;have HO2 := Hd O2;clear hv hrow O2 HFE HSM;go_wp2_with fail
 refine (HF2.out _ B cb HROW.out hb1 hb2).mono ?_;rintro e w3 ⟨v, rfl, hv, O3⟩;obtain ⟨B3, c3, rfl, -, -, -, hrow3⟩ := own_row hv;have HO3 := Hd (HO2.out.trans O3);have HROW2 := Hd (HROW.out.only O3 (by simp));have HCT := Hd (tleast_any N B3 M c3 L w3 hrow3 HLN.out (by omega) (HT.out _ HO3.out).1 (HT.out _ HO3.out).2);have HMYF := Hd (fun (W : World) (O : Only [] w3 W) => rmay19_any N B M cb L W (row_up (HROW2.out.only O (by simp))) HLN.out (by omega));clear hv hrow3 O3 HF2 HROW HO2 hb1 hb2 HT
 cases hmy : mayL N L with
 | false =>
  rw [least_no hmy] at HCT;rw [hmy] at HMYF;dsimp only at HCT;clear hmy;go_wp2_with fail
  refine (HCT.out).mono ?_;rintro e w4 ⟨A4, c4, ⟨rfl, hv⟩, O4⟩;have HO4 := Hd (HO3.out.trans O4);have HMY := Hd (HMYF.out _ O4);clear hv O4 HCT HMYF;go_wp2_with fail
  refine (HMY.out).mono ?_;rintro e w5 ⟨rfl, rfl⟩;go_wp2_with fail
  refine (HWO.out _ HO4.out).mono ?_;rintro e w6 ⟨rfl, O6⟩;have HO6 := Hd (HO4.out.trans O6);clear O6;go_wp2
  go_ret
  exact ⟨rfl, HO6.out⟩
 | true =>
  obtain ⟨q, rfl, hq, wf, hg⟩ := may_wf hmy;rw [least_yes hmy] at HCT;rw [hmy] at HMYF;have HRT := Hd (fun (W : World) (O : Only [] w3 W) => rleast_any q B M cb w3.heap.size L W ((row_up HROW2.out).only O (by simp)) HLN.out (by omega) hq wf);have HSL := Hd (fun S (h : leastT q L = some S) => (order_ord q h).2);clear hmy wf hg HROW2
  cases hx : leastT q L with
  | none =>
   rw [hx] at HCT HRT;dsimp only [Option.getD_none, Option.isSome_none] at HCT HRT;clear hx;go_wp2_with fail
   refine (HCT.out).mono ?_;rintro e w4 ⟨A4, c4, ⟨rfl, hv⟩, O4⟩;have HO4 := Hd (HO3.out.trans O4);have HMY := Hd (HMYF.out w4 O4);have HRW := Hd (HRT.out _ O4);clear hv O4 HCT HMYF HRT;go_wp2_with fail
   refine (HMY.out).mono ?_;rintro e w5 ⟨rfl, rfl⟩;clear HMY;go_wp2_with fail
   refine (HRW.out).mono ?_;rintro e w6 ⟨A6, c6, ⟨rfl, hv⟩, O6⟩;have HO6 := Hd (HO4.out.trans O6);clear hv O6 HRW;go_wp2_with fail
   refine (HWO.out _ HO6.out).mono ?_;rintro e w8 ⟨rfl, O8⟩;have HO8 := Hd (HO6.out.trans O8);clear O8;go_wp2
   go_ret
   exact ⟨rfl, HO8.out⟩
  | some S =>
   rw [hx] at HCT HRT;dsimp only [Option.getD_some, Option.isSome_some] at HCT HRT;have hsl := HSL.out S hx;rw [hsl] at HCT HRT;have HD := Hd hsl;clear hx hsl HSL;go_wp2_with fail
   refine (HCT.out).mono ?_;rintro e w4 ⟨A4, c4, ⟨rfl, hv⟩, O4⟩;have HO4 := Hd (HO3.out.trans O4);have HMY := Hd (HMYF.out w4 O4);have HRW := Hd (HRT.out _ O4);have HR4 := Hd (row_of_own hv);clear hv O4 HCT HMYF HRT;go_wp2_with fail
   refine (HMY.out).mono ?_;rintro e w5 ⟨rfl, rfl⟩;clear HMY;go_wp2_with fail
   refine (HRW.out).mono ?_;rintro e w6 ⟨A6, c6, ⟨rfl, hv⟩, O6⟩;have HO6 := Hd (HO4.out.trans O6);have HR6 := Hd (row_of_own hv);have HR46 := Hd (HR4.out.only O6 (by simp));clear hv O6 HRW;go_wp2_with fail
   refine (sameInts_any A4 A6 q q c4 c6 S S w6 _ _ HR46.out HR6.out HD.out HD.out (by omega) (by omega)).mono ?_;rintro e w7 ⟨rfl, kd, rfl⟩;have HO7 := Hd (HO6.out.drewN kd);have hdd : decide (S = S) = true := decide_eq_true rfl;clear HR6 HR46 HO6;go_wp2_with fail
   refine (HWO.out _ HO7.out).mono ?_;rintro e w8 ⟨rfl, O8⟩;have HO8 := Hd (HO7.out.trans O8);clear O8;go_wp2
   go_ret
   exact ⟨rfl, HO8.out⟩
end Go.Proofs.YtoojabllolnhnaaDoor
