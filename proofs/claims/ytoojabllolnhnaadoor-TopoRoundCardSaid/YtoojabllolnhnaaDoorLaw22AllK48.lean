/- Parts. -/
import Derived.Test.YtoojabllolnhnaaDoorLaw22AllK47
import Derived.Test.YtoojabllolnhnaaDoorLaw22AllK38
set_option maxRecDepth 10000
set_option maxHeartbeats 16000000
set_option linter.unusedVariables false
set_option linter.unusedSimpArgs false
namespace Go.Proofs.YtoojabllolnhnaaDoor
open Go.RowKit
attribute [local go_sem ↓] Go.wp_at_zero Go.wp_at_succ
theorem topoRound_walk (n0 : Int) (A : Option Addr) (m c : Nat) (l : List (Int × Int)) (w : World)
    (hr : Row w w.heap.size A (edgeC l)) (hl : l.length = m) (hmc : m ≤ c) (hc : c ≤ maxLen) (hT : Tab w) (h00 : 0 < w.heap.size) :
    Calls Tryd.prog 6 #[.int .i64 n0, .slice A m c] w fun e w' => e = .returned (.bool true) ∧ Only [] w w' := by
  have HWO := Hd (works22_any w hT h00)
  have HSM := Hd (fun (W : World) => small19_any n0 W)
  have HFE := Hd (fun (W : World) (O : Only [] w W) => few19_any A m c l W (row_up (hr.only O (by simp))) hl hmc hc)
  have HLL : (l.take (min m 60)).length = min m 60 := by rw [List.length_take, hl]; omega
  have HT := Hd (fun (W : World) (O : Only [] w W) => aI (hT.only h00 O (by simp)) (Nat.lt_of_lt_of_le h00 O.size))
  obtain ⟨M, hM⟩ : ∃ M, M = min m 60 := ⟨_, rfl⟩
  have hM60 : M ≤ 60 := by omega
  rw [← hM] at HLL
  simp only [← hM] at HFE
  obtain ⟨L, hL⟩ : ∃ L, L = l.take M := ⟨_, rfl⟩
  rw [← hL] at HLL
  simp only [← hL] at HFE
  have HLN := Hd HLL
  have hm60 : min M 60 = M := by omega
  have htake : L.take M = L := List.take_of_length_le (by omega)
  have HF2 := Hd (fun (w : World) (B : Option Addr) (cb : Nat) (hrow : Row w w.heap.size B (edgeC L)) (hb1 : M ≤ cb) (hb2 : cb ≤ maxLen) => by
    have := few19_any B M cb L w hrow HLL hb1 hb2
    rw [hm60, htake] at this
    exact this)
  obtain ⟨N, hN⟩ : ∃ N, N = smallN n0 := ⟨_, rfl⟩
  rw [← hN] at HSM
  clear hL hM HLL hr hT hN hl hmc hc hm60 htake HF2
  go_enter Tryd.func6, Tryd.ntmps6
  go_wp2_with fail
  refine (HWO.out).mono ?_
  rintro e w0 ⟨rfl, O0⟩
  have HO0 := Hd O0
  clear O0 HWO
  go_wp2_with fail
  refine (HSM.out w0).mono ?_
  rintro e w1 ⟨rfl, rfl⟩
  go_wp2_with fail
  refine (HFE.out _ HO0.out).mono ?_
  rintro e w3 ⟨v, rfl, hv, O2⟩
  obtain ⟨B, cb, rfl, hb1, hb2, -, hrow⟩ := own_row hv
  have HROW := Hd hrow
  have HO3 := Hd (HO0.out.trans O2)
  have HCT := Hd (tleast_any N B M cb L w3 hrow HLN.out (by omega) (HT.out _ HO3.out).1 (HT.out _ HO3.out).2)
  have HMYF := Hd (fun (W : World) (O : Only [] w3 W) => rmay19_any N B M cb L W (row_up (HROW.out.only O (by simp))) HLN.out (by omega))
  clear hv hrow O2 HFE HSM HO0
  cases hmy : mayL N L with
  | false =>
    rw [least_no hmy] at HCT
    rw [hmy] at HMYF
    dsimp only at HCT
    clear hmy
    go_wp2_with fail
    refine (HCT.out).mono ?_
    rintro e w4 ⟨A4, c4, ⟨rfl, hv⟩, O4⟩
    have HO4 := Hd (HO3.out.trans O4)
    have HMY := Hd (HMYF.out _ O4)
    clear hv O4 HCT HMYF
    go_wp2_with fail
    refine (HMY.out).mono ?_
    rintro e w5 ⟨rfl, rfl⟩
    go_wp2
    go_ret
    exact ⟨rfl, HO4.out⟩
  | true =>
    obtain ⟨q, rfl, hq, wf, hg⟩ := may_wf hmy
    rw [least_yes hmy] at HCT
    have HRT := Hd (fun (W : World) (O : Only [] w3 W) => rround_any q B M cb w3.heap.size L W (HROW.out.only O (by simp)) HLN.out (by omega) hq wf)
    have HLR := Hd (least_round wf)
    have HSL := Hd (fun S (h : leastT q L = some S) => (order_ord q h).2)
    have HIS := Hd (fun S (h : leastT q L = some S) => least_is hq hmy wf h)
    have HIA := Hd (fun (Az : Option Addr) (cz : Nat) (S : List Int) (hS : S.length = q) (W : World) (O : Only [] w3 W) (hz : Row W W.heap.size Az (S.map (Value.int .i64))) => tis_any Az q cz W.heap.size S B M cb L W hz hS (row_up (HROW.out.only O (by simp))) HLN.out (by omega) (by omega))
    clear hmy wf hg HROW HMYF
    cases hx : leastT q L with
    | none =>
      rw [hx] at HCT HLR
      have hrb : roundB q L = true := by have := HLR.out; cases hb : roundB q L; · rw [hb] at this; cases this
                                         · rfl
      rw [hrb] at HRT
      dsimp only at HCT
      clear hx hrb
      go_wp2_with fail
      refine (HCT.out).mono ?_
      rintro e w4 ⟨A4, c4, ⟨rfl, hv⟩, O4⟩
      have HO4 := Hd (HO3.out.trans O4)
      have HRW := Hd (HRT.out _ O4)
      clear hv O4 HCT HRT
      go_wp2_with fail
      refine (HRW.out).mono ?_
      rintro e w6 ⟨rfl, O6⟩
      have HO6 := Hd (HO4.out.trans O6)
      clear O6 HRW
      go_wp2
      go_ret
      exact ⟨rfl, HO6.out⟩
    | some S =>
      rw [hx] at HCT HLR
      have hrb : roundB q L = false := by have := HLR.out; cases hb : roundB q L; · rfl
                                          · rw [hb] at this; cases this
      rw [hrb] at HRT
      dsimp only at HCT
      have hsl := HSL.out S hx
      have his := HIS.out S hx
      rw [hsl] at HCT
      have HIB := Hd (fun (Az : Option Addr) (cz : Nat) => HIA.out Az cz S hsl)
      rw [his] at HIB
      clear hx hrb hsl his HSL HIS HIA
      go_wp2_with fail
      refine (HCT.out).mono ?_
      rintro e w4 ⟨A4, c4, ⟨rfl, hv⟩, O4⟩
      have HO4 := Hd (HO3.out.trans O4)
      have HO34 := Hd O4
      have HRW := Hd (HRT.out _ O4)
      have HR4 := Hd (row_of_own hv)
      clear hv O4 HCT HRT
      go_wp2_with fail
      refine (HRW.out).mono ?_
      rintro e w6 ⟨rfl, O6⟩
      have HO6 := Hd (HO4.out.trans O6)
      have HIC := Hd (HIB.out A4 c4 w6 (HO34.out.trans O6) (row_up (HR4.out.only O6 (by simp))))
      clear O6 HRW HIB
      go_wp2_with fail
      refine (HIC.out).mono ?_
      rintro e w7 ⟨rfl, O7⟩
      have HO7 := Hd (HO6.out.trans O7)
      clear O7 HIC
      go_wp2
      go_ret
      exact ⟨rfl, HO7.out⟩
end Go.Proofs.YtoojabllolnhnaaDoor
