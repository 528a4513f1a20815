/- The law BitsMeets: the walk. -/
import Derived.Test.YtgimobilcdkmpaaDoorBitsMeetsCardK21
import Derived.Test.YtgimobilcdkmpaaDoorBitsMeetsCardK23
import Derived.Test.YtgimobilcdkmpaaDoorBitsMeetsCardK24
set_option linter.unusedVariables false
set_option linter.unusedSimpArgs false
namespace Go.Proofs.YtgimobilcdkmpaaDoor
open Go.RowKit
attribute [local go_sem ↓] Go.wp_at_zero Go.wp_at_succ
set_option maxRecDepth 10000 in
set_option maxHeartbeats 8000000 in
theorem bitsMeets_walk (A : Option Addr) (k c : Nat) (zs : List Int) (A' : Option Addr) (k' c' : Nat) (ys : List Int) (w : World) (hr : Row w w.heap.size A (zs.map (Value.int .i64))) (hl : zs.length = k) (hkc : k ≤ c) (hc : c ≤ maxLen)
  (hr' : Row w w.heap.size A' (ys.map (Value.int .i64))) (hl' : ys.length = k') (hkc' : k' ≤ c') (hc' : c' ≤ maxLen) (hT : Tab w) (h00 : 0 < w.heap.size) :
  Calls Tryd.prog 4 #[.slice A k c, .slice A' k' c'] w fun e w' => e = .returned (.bool true) ∧ Only [] w w' := by
 have HWO := Lib.hid (fun (W : World) (O : Only [] w W) => bworks_any W (hT.only h00 O (by simp)) (Nat.lt_of_lt_of_le h00 O.size))
 have HF1 := Lib.hid (few18_any A k c zs w hr hl hkc hc)
 have HF2 := Lib.hid (fun (W : World) (O : Only [] w W) => few18_any A' k' c' ys W (row_up (hr'.only O (by simp))) hl' hkc' hc')
 obtain ⟨M, hM⟩ : ∃ M, M = min k 100 := ⟨_, rfl⟩
 obtain ⟨M', hM'⟩ : ∃ M', M' = min k' 100 := ⟨_, rfl⟩
 simp only [← hM] at HF1
 simp only [← hM'] at HF2
 obtain ⟨Z, hZ⟩ : ∃ Z, Z = zs.take M := ⟨_, rfl⟩
 obtain ⟨Y, hY⟩ : ∃ Y, Y = ys.take M' := ⟨_, rfl⟩
 have hZl : Z.length = M := by rw [hZ, List.length_take]; omega
 have hYl : Y.length = M' := by rw [hY, List.length_take]; omega
 simp only [← hZ] at HF1
 simp only [← hY] at HF2
 have hM1 : M ≤ 100 := by omega
 have hM2 : M' ≤ 100 := by omega
 have HFF := Lib.hid (fun (l : List Int) (q : Nat) (hq : l.length = q) (h1 : q ≤ 100) (W : World) (B : Option Addr) (cb : Nat) (hrow : Row W W.heap.size B (l.map (Value.int .i64))) (hb1 : q ≤ cb) (hb2 : cb ≤ maxLen) => by
  have := few18_any B q cb l W hrow hq hb1 hb2
  rw [show min q 100 = q by omega, List.take_of_length_le (by omega)] at this
  exact this)
 have HZL := Lib.hid hZl
 have HYL := Lib.hid hYl
 clear hM hM' hZ hY hZl hYl hr hr' hl hl' hkc hkc' hc hc' hT
 go_enter Tryd.func4, Tryd.ntmps4
 go_wp2_with fail
 refine (HF1.out).mono ?_
 rintro e w1 ⟨v, rfl, hv, O1⟩
 obtain ⟨B, cb, rfl, hb1, hb2, -, hrow⟩ := own_row hv
 have HR1 := Lib.hid hrow
 have HO1 := Lib.hid O1
 clear hv hrow O1 HF1
 go_wp2_with fail
 refine (HF2.out _ HO1.out).mono ?_
 rintro e w2 ⟨v, rfl, hv, O2⟩
 obtain ⟨B', cb', rfl, hb1', hb2', -, hrow⟩ := own_row hv
 have HR1' := Lib.hid hrow
 have HR2 := Lib.hid (row_up (HR1.out.only O2 (by simp)))
 have HO2 := Lib.hid (HO1.out.trans O2)
 clear hv hrow O2 HF2 HR1 HO1
 go_wp2_with fail
 refine (HFF.out Z M HZL.out hM1 _ B cb HR2.out hb1 hb2).mono ?_
 rintro e w3 ⟨v, rfl, hv, O3⟩
 obtain ⟨B3, c3, rfl, -, -, -, hrow⟩ := own_row hv
 have HR3 := Lib.hid hrow
 have HZ3 := Lib.hid (row_up (HR2.out.only O3 (by simp)))
 have HY3 := Lib.hid (row_up (HR1'.out.only O3 (by simp)))
 have HO3 := Lib.hid (HO2.out.trans O3)
 clear hv hrow O3 HR2 HR1' HO2
 go_wp2_with fail
 refine (new_any B3 M c3 Z w3 HR3.out HZL.out (by omega)).mono ?_
 rintro e w4 ⟨rfl, hB4, O4⟩
 have HB4 := Lib.hid hB4
 have HZ4 := Lib.hid (row_up (HZ3.out.only O4 (by simp)))
 have HY4 := Lib.hid (row_up (HY3.out.only O4 (by simp)))
 have HO4 := Lib.hid (HO3.out.trans O4)
 clear hB4 O4 HZ3 HY3 HO3 HR3
 generalize w3.heap.size = p at *
 go_wp2_with fail
 refine (HFF.out Y M' HYL.out hM2 _ B' cb' HY4.out hb1' hb2').mono ?_
 rintro e w5 ⟨v, rfl, hv, O5⟩
 obtain ⟨B5, c5, rfl, -, -, -, hrow⟩ := own_row hv
 have HR5 := Lib.hid hrow
 have HZ5 := Lib.hid (row_up (HZ4.out.only O5 (by simp)))
 have HY5 := Lib.hid (row_up (HY4.out.only O5 (by simp)))
 have HB5 := Lib.hid (HB4.out.only O5 (by simp))
 have HO5 := Lib.hid (HO4.out.trans O5)
 clear hv hrow O5 HZ4 HY4 HO4 HB4 HFF
 go_wp2_with fail
 refine (new_any B5 M' c5 Y w5 HR5.out HYL.out (by omega)).mono ?_
 rintro e w6 ⟨rfl, hB6, O6⟩
 have HB6 := Lib.hid hB6
 have HA6 := Lib.hid (HB5.out.only O6 (by simp))
 have HZ6 := Lib.hid (row_up (HZ5.out.only O6 (by simp)))
 have HY6 := Lib.hid (row_up (HY5.out.only O6 (by simp)))
 have HO6 := Lib.hid (HO5.out.trans O6)
 clear hB6 O6 HZ5 HY5 HO5 HR5 HB5
 generalize w5.heap.size = q at *
 have HM1 := Lib.hid (fun (W : World) (O : Only [] w6 W) => by
  have := meets_any p q _ _ W (HA6.out.only O (by simp)) (HB6.out.only O (by simp))
  rw [meets_made] at this
  exact this)
 have HM2 := Lib.hid (fun (W : World) (O : Only [] w6 W) => by
  have := meets_any q p _ _ W (HB6.out.only O (by simp)) (HA6.out.only O (by simp))
  rw [meets_made, meetK_comm] at this
  exact this)
 generalize hmk : meetK 500 (okK Z) (okK Y) = mk at *
 have HMK := Lib.hid hmk
 clear hmk HA6 HB6
 go_wp2_with fail
 refine (HM1.out _ (Only.refl [] _)).mono ?_
 rintro e w7 ⟨rfl, rfl⟩
 go_wp2_with fail
 refine (rmake18_any B M cb Z _ HZ6.out HZL.out (by omega)).mono ?_
 rintro e w8 ⟨rfl, O8⟩
 have HO8 := Lib.hid O8
 clear O8
 go_wp2_with fail
 refine (rmake18_any B' M' cb' Y w8 (row_up (HY6.out.only HO8.out (by simp))) HYL.out (by omega)).mono ?_
 rintro e w9 ⟨rfl, O9⟩
 have HO9 := Lib.hid (HO8.out.trans O9)
 clear O9 HO8
 go_wp2_with fail
 refine (rmeets18_any _ _ w9).mono ?_
 rintro e w10 ⟨rfl, O10⟩
 rw [HMK.out]
 have HO10 := Lib.hid (HO9.out.trans O10)
 clear O10 HO9
 have HN1 := Lib.hid (HM1.out _ HO10.out)
 have HN2 := Lib.hid (HM2.out _ HO10.out)
 have HWX := Lib.hid (HWO.out _ (HO6.out.trans HO10.out))
 clear HM1 HM2 HZ6 HY6
 go_wp2_with fail
 refine (HN1.out).mono ?_
 rintro e w11 ⟨rfl, rfl⟩
 go_wp2_with fail
 refine (HN2.out).mono ?_
 rintro e w12 ⟨rfl, rfl⟩
 go_wp2_with fail
 refine (HWX.out).mono ?_
 rintro e w13 ⟨rfl, O13⟩
 have HO13 := Lib.hid ((HO6.out.trans HO10.out).trans O13)
 clear O13
 go_wp2
 go_ret
 exact ⟨rfl, HO13.out⟩
end Go.Proofs.YtgimobilcdkmpaaDoor
