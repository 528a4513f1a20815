/- The law CloseStays: the walk. -/
import Derived.Test.YtlipapclbemjjaaDoorCloseStaysCardK46
set_option linter.unusedVariables false
set_option linter.unusedSimpArgs false
namespace Go.Proofs.YtlipapclbemjjaaDoor
open Go.RowKit
attribute [local go_sem ↓] Go.wp_at_zero Go.wp_at_succ
set_option maxRecDepth 10000 in
set_option maxHeartbeats 4000000 in
theorem closeStays_walk (n0 : Int) (A : Option Addr) (m c : Nat) (l : List (Int × Int)) (w : World)
  (hr : Row w w.heap.size A (edgeC l)) (hl : l.length = m) (hmc : m ≤ c) (hc : c ≤ maxLen) (hT : Tab w) (h00 : 0 < w.heap.size) :
  Calls Tryd.prog 5 #[.int .i64 n0, .slice A m c] w fun e w' => e = .returned (.bool true) ∧ Only [] w w' := by
 have HWO := Lib.hid (works21_any w hT h00)
 have HSM := Lib.hid (fun W => small19_any n0 W)
 have HFE := Lib.hid (fun (W : World) (O : Only [] w W) => few19_any A m c l W (row_up (hr.only O (by simp))) hl hmc hc)
 have HLL : (l.take (min m 60)).length = min m 60 := by rw [List.length_take, hl]; omega
 have HT := Lib.hid (fun (W : World) (O : Only [] w W) => And.intro (hT.only h00 O (by simp)) (Nat.lt_of_lt_of_le h00 O.size))
 obtain ⟨M, hM⟩ : ∃ M, M = min m 60 := ⟨_, rfl⟩
 have hM60 : M ≤ 60 := by omega
 rw [← hM] at HLL
 simp only [← hM] at HFE
 obtain ⟨L, hL⟩ : ∃ L, L = l.take M := ⟨_, rfl⟩
 rw [← hL] at HLL
 simp only [← hL] at HFE
 have HLN := Lib.hid HLL
 obtain ⟨N, hN⟩ : ∃ N, N = smallN n0 := ⟨_, rfl⟩
 rw [← hN] at HSM
 have hN30 : N < 0 ∨ 500 < N ∨ (0 ≤ N ∧ N ≤ 30) := by rw [hN]; unfold smallN; split <;> omega
 have HN30 := Lib.hid hN30
 clear hL hM HLL hr hT hN hl hmc hc hN30
 go_enter Tryd.func5, Tryd.ntmps5
 go_wp2_with fail
 refine (HWO.out).mono ?_
 rintro e w1 ⟨rfl, O1⟩
 have HO1 := Lib.hid O1
 clear O1 HWO
 go_wp2_with fail
 refine (HSM.out w1).mono ?_
 rintro e w1' ⟨rfl, rfl⟩
 go_wp2_with fail
 refine (HFE.out _ HO1.out).mono ?_
 rintro e w2 ⟨v, rfl, hv, O2⟩
 obtain ⟨B, cb, rfl, hb1, hb2, -, hrow⟩ := own_row hv
 have HROW := Lib.hid hrow
 have HO2 := Lib.hid (HO1.out.trans O2)
 have HC1 := Lib.hid (cclose_any N B M cb L w2 hrow HLN.out (by omega) (HT.out _ HO2.out).1 (HT.out _ HO2.out).2)
 clear hv hrow O2 HFE HSM HO1 hb1 hb2
 cases hmy : mayL N L with
 | false =>
  rw [close_no hmy] at HC1
  dsimp only at HC1
  clear hmy
  go_wp2_with fail
  refine (HC1.out).mono ?_
  rintro e w4 ⟨A4, c4, ⟨rfl, hv⟩, O4⟩
  have HO4 := Lib.hid (HO2.out.trans O4)
  clear hv O4 HC1
  go_wp2
  go_ret
  exact ⟨rfl, HO4.out⟩
 | true =>
  obtain ⟨q, rfl, hq, wf, hg⟩ := may_wf hmy
  have hq30 : q ≤ 30 := by have := HN30.out; omega
  have hqq : q * q ≤ 30 * 30 := Nat.mul_le_mul hq30 hq30
  rw [close_yes hq wf] at HC1
  dsimp only at HC1
  have hcl : (closeL q L).length ≤ q * q := closeTo_len q L q
  have htl := thin_len q L
  have HC2 := Lib.hid (fun (W : World) (A' : Option Addr) (c' : Nat) (hrow : Row W W.heap.size A' (edgeC (closeL q L))) (O : Only [] w W) => by
   have := cclose_any (q : Int) A' (closeL q L).length c' (closeL q L) W hrow rfl (by omega) (HT.out _ O).1 (HT.out _ O).2
   rw [close_yes hq (wf_close L), close_close wf] at this
   exact this)
  have HTH := Lib.hid (fun (W : World) (O2 : Only [] w2 W) => by
   have := cthin_any (q : Int) B M cb L W (row_up (HROW.out.only O2 (by simp))) HLN.out (by omega) (HT.out _ (HO2.out.trans O2)).1 (HT.out _ (HO2.out.trans O2)).2
   rw [thin_yes hq wf] at this
   exact this)
  have HC3 := Lib.hid (fun (W : World) (A' : Option Addr) (c' : Nat) (hrow : Row W W.heap.size A' (edgeC (thinL q L))) (O : Only [] w W) => by
   have := cclose_any (q : Int) A' (thinL q L).length c' (thinL q L) W hrow rfl (by omega) (HT.out _ O).1 (HT.out _ O).2
   rw [close_yes hq (wf_thin wf), close_thin wf] at this
   exact this)
  dsimp only at HC2 HTH HC3
  clear hmy wf hg HN30 HT HROW
  generalize thinL q L = T at *
  generalize closeL q L = X at *
  obtain ⟨t, ht⟩ : ∃ t, t = T.length := ⟨_, rfl⟩
  obtain ⟨x, hx⟩ : ∃ x, x = X.length := ⟨_, rfl⟩
  rw [← ht] at htl HTH HC3
  rw [← hx] at hcl HC1 HC2 HC3
  have HX := Lib.hid hx
  clear ht hx
  go_wp2_with fail
  refine (HC1.out).mono ?_
  rintro e w4 ⟨A4, c4, ⟨rfl, hv⟩, O4⟩
  have HO24 := Lib.hid O4
  have HO4 := Lib.hid (HO2.out.trans O4)
  have HR4 := Lib.hid (row_of_own hv)
  have HD2 := Lib.hid (HC2.out w4 A4 c4 HR4.out HO4.out)
  clear hv O4 HC1 HC2
  go_wp2_with fail
  refine (HD2.out).mono ?_
  rintro e w5 ⟨A5, c5, ⟨rfl, hv⟩, O5⟩
  have HO25 := Lib.hid (HO24.out.trans O5)
  have HO5 := Lib.hid (HO4.out.trans O5)
  have HR5 := Lib.hid (row_of_own hv)
  have HR45 := Lib.hid (HR4.out.only O5 (by simp))
  have HD3 := Lib.hid (HTH.out w5 HO25.out)
  clear hv O5 HD2 HO24 HO4 HR4 HTH HO25
  go_wp2_with fail
  refine (HD3.out).mono ?_
  rintro e w6 ⟨A6, c6, ⟨rfl, hv⟩, O6⟩
  have HO6 := Lib.hid (HO5.out.trans O6)
  have HR56 := Lib.hid (HR5.out.only O6 (by simp))
  have HR46 := Lib.hid (HR45.out.only O6 (by simp))
  have HD4 := Lib.hid (HC3.out w6 A6 c6 (row_of_own hv) HO6.out)
  clear hv O6 HD3 HO5 HR5 HR45 HC3
  go_wp2_with fail
  refine (HD4.out).mono ?_
  rintro e w7 ⟨A7, c7, ⟨rfl, hv⟩, O7⟩
  have HO7 := Lib.hid (HO6.out.trans O7)
  have HR7 := Lib.hid (row_of_own hv)
  have HR57 := Lib.hid (HR56.out.only O7 (by simp))
  have HR47 := Lib.hid (HR46.out.only O7 (by simp))
  clear hv O7 HD4 HO6 HR56 HR46
  go_wp2_with fail
  refine (sameEdges_eq A4 A5 x c4 c5 X w7 _ _ HR47.out HR57.out HX.out.symm (by omega)).mono ?_
  rintro e w8 ⟨rfl, kd, rfl⟩
  have HO8 := Lib.hid (HO7.out.drewN kd)
  have HR78 := Lib.hid (HR7.out.only ((Only.refl [] w7).drewN kd) (by simp))
  have HR48 := Lib.hid (HR47.out.only ((Only.refl [] w7).drewN kd) (by simp))
  clear HR57
  go_wp2_with fail
  refine (sameEdges_eq A4 A7 x c4 c7 X _ _ _ HR48.out HR78.out HX.out.symm (by omega)).mono ?_
  rintro e w9 ⟨rfl, kd2, rfl⟩
  have HO9 := Lib.hid (HO7.out.drewN (kd + kd2))
  go_wp2
  go_ret
  exact ⟨rfl, HO9.out⟩
end Go.Proofs.YtlipapclbemjjaaDoor
