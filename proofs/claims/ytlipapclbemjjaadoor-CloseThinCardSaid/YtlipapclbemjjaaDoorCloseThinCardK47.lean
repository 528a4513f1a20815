/- The law CloseThin: the walk. -/
import Derived.Test.YtlipapclbemjjaaDoorCloseThinCardK46
set_option linter.unusedVariables false
set_option linter.unusedSimpArgs false
namespace Go.Proofs.YtlipapclbemjjaaDoor
open Go.RowKit
attribute [local go_sem ↓] Go.wp_at_zero Go.wp_at_succ
set_option maxRecDepth 10000 in
set_option maxHeartbeats 4000000 in
theorem closeThin_walk (n0 : Int) (A : Option Addr) (m c : Nat) (l : List (Int × Int)) (w : World)
  (hr : Row w w.heap.size A (edgeC l)) (hl : l.length = m) (hmc : m ≤ c) (hc : c ≤ maxLen) (hT : Tab w) (h00 : 0 < w.heap.size) :
  Calls Tryd.prog 4 #[.int .i64 n0, .slice A m c] w fun e w' => e = .returned (.bool true) ∧ Only [] w w' := by
 have HWO := Lib.hid (fun (W : World) (O : Only [] w W) => works21_any W (hT.only h00 O (by simp)) (Nat.lt_of_lt_of_le h00 O.size))
 have HSM := Lib.hid (small19_any n0 w)
 have HFE := Lib.hid (few19_any A m c l w hr hl hmc hc)
 have HLL : (l.take (min m 60)).length = min m 60 := by rw [List.length_take, hl]; omega
 have HT := Lib.hid hT
 have h00' := h00
 obtain ⟨M, hM⟩ : ∃ M, M = min m 60 := ⟨_, rfl⟩
 have hM60 : M ≤ 60 := by omega
 rw [← hM] at HLL
 simp only [← hM] at HFE
 obtain ⟨L, hL⟩ : ∃ L, L = l.take M := ⟨_, rfl⟩
 rw [← hL] at HLL
 simp only [← hL] at HFE
 have HLN := Lib.hid HLL
 obtain ⟨N, hN⟩ : ∃ N, N = smallN n0 := ⟨_, rfl⟩
 rw [← hN] at HSM
 have hm60 : min M 60 = M := by omega
 have htake : L.take M = L := List.take_of_length_le (by omega)
 have HF2 := Lib.hid (fun (w : World) (B : Option Addr) (cb : Nat) (hrow : Row w w.heap.size B (edgeC L)) (hb1 : M ≤ cb) (hb2 : cb ≤ maxLen) => by
  have := few19_any B M cb L w hrow HLL hb1 hb2
  rw [hm60, htake] at this
  exact this)
 clear hL hM HLL hr hT hN hl hmc hc hm60 htake
 go_enter Tryd.func4, Tryd.ntmps4
 go_wp2_with fail
 refine (HSM.out).mono ?_
 rintro e w1 ⟨rfl, rfl⟩
 go_wp2_with fail
 refine (HFE.out).mono ?_
 rintro e w2 ⟨v, rfl, hv, O2⟩
 obtain ⟨B, cb, rfl, hb1, hb2, -, hrow⟩ := own_row hv
 have HROW := Lib.hid hrow
 have HO2 := Lib.hid O2
 clear hv hrow O2 HFE HSM
 go_wp2_with fail
 refine (HF2.out _ B cb HROW.out hb1 hb2).mono ?_
 rintro e w3 ⟨v, rfl, hv, O3⟩
 obtain ⟨B3, c3, rfl, -, -, -, hrow3⟩ := own_row hv
 have HO3 := Lib.hid (HO2.out.trans O3)
 have HROW2 := Lib.hid (HROW.out.only O3 (by simp))
 have HCT := Lib.hid (cthin_any N B3 M c3 L w3 hrow3 HLN.out (by omega) (HT.out.only h00' HO3.out (by simp)) (Nat.lt_of_lt_of_le h00' HO3.out.size))
 clear hv hrow3 O3 HF2 HROW HO2 hb1 hb2
 cases hmy : mayL N L with
 | false =>
  rw [thin_no hmy] at HCT
  dsimp only at HCT
  go_wp2_with fail
  refine (HCT.out).mono ?_
  rintro e w4 ⟨A4, c4, ⟨rfl, hv⟩, O4⟩
  have HO4 := Lib.hid (HO3.out.trans O4)
  have HMY := Lib.hid (rmay20_any N B M cb L w4 (row_up (HROW2.out.only O4 (by simp))) HLN.out (by omega))
  rw [hmy] at HMY
  clear hv O4 HCT hmy
  go_wp2_with fail
  refine (HMY.out).mono ?_
  rintro e w5 ⟨rfl, rfl⟩
  go_wp2_with fail
  refine (HWO.out _ HO4.out).mono ?_
  rintro e w6 ⟨rfl, O6⟩
  have HO6 := Lib.hid (HO4.out.trans O6)
  clear O6
  go_wp2
  go_ret
  exact ⟨rfl, HO6.out⟩
 | true =>
  obtain ⟨q, rfl, hq, wf, hg⟩ := may_wf hmy
  rw [thin_yes hq wf] at HCT
  dsimp only at HCT
  have HG := Lib.hid hg
  have hll := thin_len q L
  have hqq : q * q ≤ 500 * 500 := Nat.mul_le_mul hq hq
  have HRT := Lib.hid (fun (W : World) (O : Only [] w3 W) => rthin_any q B M cb L W (row_up (HROW2.out.only O (by simp))) HLN.out (by omega) hq HG.out)
  have HMYF := Lib.hid (fun (W : World) (O : Only [] w3 W) => rmay20_any (q : Int) B M cb L W (row_up (HROW2.out.only O (by simp))) HLN.out (by omega))
  rw [hmy] at HMYF
  clear hmy wf hg HROW2
  generalize thinL q L = T at *
  obtain ⟨d, hd⟩ : ∃ d, d = T.length := ⟨_, rfl⟩
  rw [← hd] at HCT HRT hll
  have HD := Lib.hid hd
  clear hd
  go_wp2_with fail
  refine (HCT.out).mono ?_
  rintro e w4 ⟨A4, c4, ⟨rfl, hv⟩, O4⟩
  have HO4 := Lib.hid (HO3.out.trans O4)
  have HMY := Lib.hid (HMYF.out w4 O4)
  have HR4 := Lib.hid (row_of_own hv)
  have HO34 := Lib.hid O4
  clear hv O4 HCT HMYF
  go_wp2_with fail
  refine (HMY.out).mono ?_
  rintro e w5 ⟨rfl, rfl⟩
  have HRW := Lib.hid (HRT.out _ HO34.out)
  clear HMY HRT HO34
  go_wp2_with fail
  refine (HRW.out).mono ?_
  rintro e w6 ⟨A6, c6, ⟨rfl, hv⟩, O6⟩
  have HO6 := Lib.hid (HO4.out.trans O6)
  have HR6 := Lib.hid (row_of_own hv)
  have HR46 := Lib.hid (HR4.out.only O6 (by simp))
  clear hv O6 HRW
  go_wp2_with fail
  refine (sameEdges_eq A4 A6 d c4 c6 T w6 _ _ HR46.out HR6.out HD.out.symm (by omega)).mono ?_
  rintro e w7 ⟨rfl, kd, rfl⟩
  have HO7 := Lib.hid (HO6.out.drewN kd)
  clear HR6 HR46 HO6
  go_wp2_with fail
  refine (HWO.out _ HO7.out).mono ?_
  rintro e w8 ⟨rfl, O8⟩
  have HO8 := Lib.hid (HO7.out.trans O8)
  clear O8
  go_wp2
  go_ret
  exact ⟨rfl, HO8.out⟩
end Go.Proofs.YtlipapclbemjjaaDoor
