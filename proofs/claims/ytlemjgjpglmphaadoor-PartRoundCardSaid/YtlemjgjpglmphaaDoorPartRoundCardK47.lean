/- Parts. -/
import Derived.Test.YtlemjgjpglmphaaDoorPartRoundCardK43
import Derived.Test.YtlemjgjpglmphaaDoorPartRoundCardK46
set_option maxRecDepth 10000
set_option maxHeartbeats 16000000
set_option linter.unusedVariables false
set_option linter.unusedSimpArgs false
namespace Go.Proofs.YtlemjgjpglmphaaDoor
open Go.RowKit
attribute [local go_sem ↓] Go.wp_at_zero Go.wp_at_succ
theorem pround_no {n : Int} {l : List (Int × Int)} (h : mayL n l = false) : proundR n l = (false, 2) := by unfold proundR; rw [h]; rfl
theorem pround_yes {q : Nat} {l : List (Int × Int)} (h : mayL (q : Int) l = true) : proundR (q : Int) l = (roundB q l, 0) := by unfold proundR; rw [h, if_pos rfl, Int.toNat_natCast]
theorem partRound_walk (n0 : Int) (A : Option Addr) (m c : Nat) (l : List (Int × Int)) (w : World)
  (hr : Row w w.heap.size A (edgeC l)) (hl : l.length = m) (hmc : m ≤ c) (hc : c ≤ maxLen) (hT : Tab w) (h00 : 0 < w.heap.size) :
  Calls Tryd.prog 4 #[.int .i64 n0, .slice A m c] w fun e w' => e = .returned (.bool true) ∧ Only [] w w' := by
 have HWO := Hd (fun (W : World) (O : Only [] w W) => works20_any W (hT.only h00 O (by simp)) (Nat.lt_of_lt_of_le h00 O.size));have HSM := Hd (fun (W : World) => small19_any n0 W);have HFE := Hd (fun (W : World) (O : Only [] w W) => few19_any A m c l W (row_up (hr.only O (by simp))) hl hmc hc);have HLL : (l.take (min m 60)).length = min m 60 := by rw [List.length_take, hl]; omega
 have HT := Hd (fun (W : World) (O : Only [] w W) => aI (hT.only h00 O (by simp)) (Nat.lt_of_lt_of_le h00 O.size));obtain ⟨M, hM⟩ : ∃ M, M = min m 60 := ⟨_, rfl⟩;have hM60 : M ≤ 60 := by omega
 rw [← hM] at HLL;simp only [← hM] at HFE;obtain ⟨L, hL⟩ : ∃ L, L = l.take M := ⟨_, rfl⟩;rw [← hL] at HLL;simp only [← hL] at HFE;have HLN := Hd HLL;have hm60 : min M 60 = M := by omega
 have htake : L.take M = L := List.take_of_length_le (by omega);have HF2 := Hd (fun (w : World) (B : Option Addr) (cb : Nat) (hrow : Row w w.heap.size B (edgeC L)) (hb1 : M ≤ cb) (hb2 : cb ≤ maxLen) => by
  have := few19_any B M cb L w hrow HLL hb1 hb2;rw [hm60, htake] at this;exact this)
 obtain ⟨N, hN⟩ : ∃ N, N = smallN n0 := ⟨_, rfl⟩;rw [← hN] at HSM;clear hL hM HLL hr hT hN hl hmc hc hm60 htake;go_enter Tryd.func4, Tryd.ntmps4;go_wp2_with fail
 refine (HSM.out w).mono ?_;rintro e w1 ⟨rfl, rfl⟩;go_wp2_with fail
 refine (HFE.out w (Only.refl _ _)).mono ?_;rintro e w1 ⟨v, rfl, hv, O1⟩;obtain ⟨B, cb, rfl, hb1, hb2, -, hrow⟩ := own_row hv;have HF3 := Hd (HF2.out w1 B cb hrow hb1 hb2);have HROW := Hd hrow;have HO1 := Hd O1;clear hv hrow O1 HFE HSM HF2;go_wp2_with fail
 refine (HF3.out).mono ?_;rintro e w2 ⟨v2, rfl, hv2, O2⟩;obtain ⟨B2, cb2, rfl, -, -, -, hrow2⟩ := own_row hv2;have HO2 := Hd (HO1.out.trans O2);have HPR := Hd (pround_any N B2 M cb2 L w2 hrow2 HLN.out (by omega) (HT.out _ HO2.out).1 (HT.out _ HO2.out).2);have HRW2 := Hd (HROW.out.only O2 (by simp));clear hv2 hrow2 O2 HF3 HO1 HROW;go_wp2_with fail
 refine (HPR.out).mono ?_;rintro e w3 ⟨rfl, O3⟩;have HO3 := Hd (HO2.out.trans O3);have HRW3 := Hd (row_up (HRW2.out.only O3 (by simp)));have HMY := Hd (rmay20_any N B M cb L w3 HRW3.out HLN.out (by omega));clear O3 HPR HRW2 HO2
 cases hmy : mayL N L with
 | false =>
  rw [hmy] at HMY;rw [pround_no hmy];dsimp only;clear hmy;go_wp2_with fail
  refine (HMY.out).mono ?_;rintro e w4 ⟨rfl, rfl⟩;clear HMY;go_wp2_with fail
  refine (HWO.out w3 HO3.out).mono ?_;rintro e w5 ⟨rfl, O5⟩;have HO5 := Hd (HO3.out.trans O5);clear O5;go_wp2
  go_ret
  exact ⟨rfl, HO5.out⟩
 | true =>
  rw [hmy] at HMY;obtain ⟨q, rfl, hq, wf, hg⟩ := may_wf hmy;rw [pround_yes hmy];have HRT := Hd (rround_any q B M cb w3.heap.size L w3 HRW3.out HLN.out (by omega) hq wf);have hbb : ∀ b : Bool, (b == b) = true := fun b => by cases b <;> rfl
  generalize roundB q L = R at *;dsimp only;clear hmy wf hg;go_wp2_with fail
  refine (HMY.out).mono ?_;rintro e w4 ⟨rfl, rfl⟩;clear HMY;go_wp2_with fail
  refine (HRT.out).mono ?_;rintro e w4 ⟨rfl, O4⟩;have HO4 := Hd (HO3.out.trans O4);clear O4 HRT;have hR := hbb R;go_wp2_with fail
  refine (HWO.out w4 HO4.out).mono ?_;rintro e w5 ⟨rfl, O5⟩;have HO5 := Hd (HO4.out.trans O5);clear O5;go_wp2
  go_ret
  exact ⟨rfl, HO5.out⟩
end Go.Proofs.YtlemjgjpglmphaaDoor
