/- TableMakes: the walk. -/
import Derived.Test.YtbojofkladpblaaDoorTabH
import Derived.Test.YtbojofkladpblaaDoorRTab
set_option linter.unusedVariables false
set_option linter.unusedSimpArgs false
namespace Go.Proofs.YtbojofkladpblaaDoor
open Go.RowKit
open Go.Lib hiding intOf
attribute [local go_sem ↓] Go.wp_at_zero Go.wp_at_succ

set_option maxRecDepth 10000 in
set_option maxHeartbeats 8000000 in
theorem tableMakes_walk (A : Option Addr) (n c : Nat) (zs : List ByteArray) (s0 : ByteArray) (w : World) (hn : zs.length = n) (hc : n ≤ c) (hcm : c ≤ maxLen) (hz : ∀ z ∈ zs, z.size ≤ maxLen) (hA : Row w w.heap.size A (strs zs)) (hs : s0.size ≤ 9223372036854775807) (hT : UTabs w) :
    Calls Tryd.prog 3 #[.slice A n c, .string s0] w fun e w' => e = .returned (.bool true) ∧ Only [] w w' := by
  unfold maxLen at hcm hz
  have HW := Lib.hid (fun w' (h : Only [] w w') => works09_any w' (hT.only h))
  have HF := Lib.hid (fun w' (h : Only [] w w') => few9_any A n c _ zs w' hn (by omega) (fun z h => by have := hz z h; omega) (hA.only h (by simp)))
  have hfl := few9_len zs
  have hfs := few9_size zs
  have hff := few9_few9 zs
  generalize few9 zs = fs at *
  obtain ⟨q, hq⟩ : ∃ q, q = min s0.size 100 := ⟨_, rfl⟩
  have hmin : min (s0.size : Int) 100 = (q : Int) := by omega
  have hq1 : (0 : Int) ≤ (q : Int) := Int.natCast_nonneg _
  have hq2 : (q : Int) ≤ (s0.size : Int) := by omega
  have hss : (s0.extract 0 q).size ≤ 100 := by rw [ByteArray.size_extract]; omega
  obtain ⟨s, hs'⟩ : ∃ s, s = s0.extract 0 q := ⟨_, rfl⟩
  have HSE := Lib.hid hs'
  rw [← hs'] at hss
  have HFF := Lib.hid (fun A c B w' hA => few9_any A fs.length c B fs w' rfl (by omega) (fun z h => by have := hfs z h; omega) hA)
  rw [hff] at HFF
  have HP := Lib.hid (fun A c B w' hA (h : Only [] w w') => put_any A fs.length c B fs s w' rfl (by omega) (fun z h => by have := hfs z h; omega) (by omega) hA (fun h => ⟨row_none hA rfl h, rfl⟩) (hT.only h))
  have HRP := Lib.hid (fun A c B w' hA => rput_any A fs.length c B fs s w' rfl (by omega) (fun z h => by have := hfs z h; omega) (by omega) hA)
  have HMK := Lib.hid (fun A c B w' hA (h : Only [] w w') => make_any A fs.length c B fs w' rfl (by omega) (fun z h => by have := hfs z h; omega) hA (hT.only h))
  have HRS := Lib.hid (fun A c B w' hA => rsorted_any A fs.length c B fs w' rfl (by omega) (fun z h => by have := hfs z h; omega) hA)
  have HIT := Lib.hid (fun A c B w' hA (h : Only [] w w') => istab_any A fs.length c B fs w' rfl (by omega) (fun z h => by have := hfs z h; omega) hA (hT.only h))
  have HRI := Lib.hid (fun A c B w' hA => rtab_any A fs.length c B fs w' rfl (by omega) (fun z h => by have := hfs z h; omega) hA)
  have hl1 := sortB_length fs
  have hl2 := sortB_length (fs ++ [s])
  rw [List.length_append, List.length_singleton] at hl2
  have HS1 := Lib.hid (fun A A' c d w' B B' hA hA' => sameTexts_same A A' _ c d (sortB fs) w' B B' hA hA' rfl (by omega))
  have HS2 := Lib.hid (fun A A' c d w' B B' hA hA' => sameTexts_same A A' _ c d (sortB (fs ++ [s])) w' B B' hA hA' rfl (by omega))
  generalize sortB fs = T1 at *
  generalize sortB (fs ++ [s]) = T2 at *
  generalize tabB fs = bt at *
  have hbt : (bt == bt) = true := by cases bt <;> rfl
  clear hz hA hs hT hfl hfs hq hs' hn hc hcm hss hff hl1 hl2
  have HF1 := Lib.hid (HF.out w.drew (Only.refl [] w).drew)
  go_enter Tryd.func3, Tryd.ntmps3
  go_wp2_with fail
  refine wp_region_noPanic ?_
  refine wp_region_timed (F := []) (by kernel_rfl) (timed_nil) ?_
  refine timed_pure (i := 0) (v := ?_) rfl (by kernel_rfl) (by kernel_rfl) (by kernel_rfl) (fun _ _ _ h => h) (by kernel_rfl) (by kernel_rfl) ?_ ?_
  rotate_left
  · (intro w; go_simp; try with_reducible rfl)
  try simp only [Act.put, List.getElem_toArray, List.getElem_cons_zero, List.getElem_cons_succ, List.setIfInBounds_toArray, List.set_cons_zero, List.set_cons_succ]
  refine timed_pure (i := 2) (v := ?_) rfl (by kernel_rfl) (by kernel_rfl) (by kernel_rfl) (fun _ _ _ h => h) (by kernel_rfl) (by kernel_rfl) ?_ ?_
  rotate_left
  · (intro w; go_simp; try with_reducible rfl)
  try simp only [Act.put, List.getElem_toArray, List.getElem_cons_zero, List.getElem_cons_succ, List.setIfInBounds_toArray, List.set_cons_zero, List.set_cons_succ]
  refine timed_pure (i := 3) (v := ?_) rfl (by kernel_rfl) (by kernel_rfl) (by kernel_rfl) (fun _ _ _ h => h) (by kernel_rfl) (by kernel_rfl) ?_ ?_
  rotate_left
  · (intro w; go_simp; try with_reducible rfl)
  try simp only [Act.put, List.getElem_toArray, List.getElem_cons_zero, List.getElem_cons_succ, List.setIfInBounds_toArray, List.set_cons_zero, List.set_cons_succ]
  refine timed_pure (i := 4) (v := ?_) rfl (by kernel_rfl) (by kernel_rfl) (by kernel_rfl) (fun _ _ _ h => h) (by kernel_rfl) (by kernel_rfl) ?_ ?_
  rotate_left
  · (intro w; go_simp; try with_reducible rfl)
  try simp only [Act.put, List.getElem_toArray, List.getElem_cons_zero, List.getElem_cons_succ, List.setIfInBounds_toArray, List.set_cons_zero, List.set_cons_succ]
  refine timed_pure (i := 5) (v := ?_) rfl (by kernel_rfl) (by kernel_rfl) (by kernel_rfl) (fun _ _ _ h => h) (by kernel_rfl) (by kernel_rfl) ?_ ?_
  rotate_left
  · (intro w; go_simp; try with_reducible rfl)
  try simp only [Act.put, List.getElem_toArray, List.getElem_cons_zero, List.getElem_cons_succ, List.setIfInBounds_toArray, List.set_cons_zero, List.set_cons_succ]
  refine timed_pure (i := 6) (v := ?_) rfl (by kernel_rfl) (by kernel_rfl) (by kernel_rfl) (fun _ _ _ h => h) (by kernel_rfl) (by kernel_rfl) ?_ ?_
  rotate_left
  · (intro w; go_simp; try with_reducible rfl)
  try simp only [Act.put, List.getElem_toArray, List.getElem_cons_zero, List.getElem_cons_succ, List.setIfInBounds_toArray, List.set_cons_zero, List.set_cons_succ]
  refine timed_step (i := 1) (by kernel_rfl) rfl (fun K hK => ?_)
  go_simp
  refine (HF1.out).mono ?_
  rintro e w2 ⟨hO2, V2, rfl, hown2⟩
  refine hK.out _ _ (timed_nil) ?_
  clear hK K
  try simp only [Act.put, List.getElem_toArray, List.getElem_cons_zero, List.getElem_cons_succ, List.setIfInBounds_toArray, List.set_cons_zero, List.set_cons_succ]
  refine timed_pure (i := 7) (v := ?_) rfl (by kernel_rfl) (by kernel_rfl) (by kernel_rfl) (fun _ _ _ h => h) (by kernel_rfl) (by kernel_rfl) ?_ ?_
  rotate_left
  · (intro w; go_simp; try with_reducible rfl)
  try simp only [Act.put, List.getElem_toArray, List.getElem_cons_zero, List.getElem_cons_succ, List.setIfInBounds_toArray, List.set_cons_zero, List.set_cons_succ]
  refine timed_pure (i := 8) (v := ?_) rfl (by kernel_rfl) (by kernel_rfl) (by kernel_rfl) (fun _ _ _ h => h) (by kernel_rfl) (by kernel_rfl) ?_ ?_
  rotate_left
  · (intro w; go_simp; try with_reducible rfl)
  try simp only [Act.put, List.getElem_toArray, List.getElem_cons_zero, List.getElem_cons_succ, List.setIfInBounds_toArray, List.set_cons_zero, List.set_cons_succ]
  refine timed_done (by kernel_rfl) ?_ _
  refine NoPanic.normal ?_
  have HO2 := Lib.hid ((Only.refl [] w).drew.trans hO2)
  obtain ⟨A2, c2, rfl, -, -, -, hrow2⟩ := own_row hown2
  have HR2 := Lib.hid hrow2
  rw [← HSE.out]
  clear hO2 hown2 hrow2
  go_wp2_with fail
  refine (HFF.out A2 c2 _ _ HR2.out).mono ?_
  rintro e w3 ⟨hO3, V3, rfl, hown3⟩
  have HO3 := Lib.hid (HO2.out.trans hO3)
  have HR23 := Lib.hid (HR2.out.only hO3 (by simp))
  obtain ⟨A3, c3, rfl, -, -, -, hrow3⟩ := own_row hown3
  have HR3 := Lib.hid hrow3
  clear hO3 hown3 hrow3
  go_wp2_with fail
  refine (HMK.out A3 c3 _ _ HR3.out HO3.out).mono ?_
  rintro e w4 ⟨hO4, A4, m4, c4, rfl, rfl, hr4⟩
  have HO4 := Lib.hid (HO3.out.trans hO4)
  have HR24 := Lib.hid (HR23.out.only hO4 (by simp))
  have HR4 := Lib.hid hr4
  clear hO4 hr4
  go_wp2_with fail
  refine (HRS.out A2 c2 _ _ HR24.out).mono ?_
  rintro e w5 ⟨hO5, V5, rfl, hown5⟩
  have HO5 := Lib.hid (HO4.out.trans hO5)
  have HR25 := Lib.hid (HR24.out.only hO5 (by simp))
  have HR45 := Lib.hid (HR4.out.only hO5 (by simp))
  obtain ⟨A5, c5, rfl, -, -, -, hrow5⟩ := own_row hown5
  have HR5 := Lib.hid hrow5
  clear hO5 hown5 hrow5
  go_wp2_with fail
  refine (HS1.out A4 A5 c4 c5 w5 _ _ HR45.out HR5.out).mono ?_
  rintro e w6 ⟨rfl, q6, rfl⟩
  have HO6 := Lib.hid (HO5.out.drewN q6)
  have HR26 := Lib.hid (HR25.out.only ((Only.refl [] w5).drewN q6) (by simp))
  generalize w5.drewN q6 = w6 at *
  go_wp2_with fail
  refine (HFF.out A2 c2 _ _ HR26.out).mono ?_
  rintro e w7 ⟨hO7, V7, rfl, hown7⟩
  have HO7 := Lib.hid (HO6.out.trans hO7)
  have HR27 := Lib.hid (HR26.out.only hO7 (by simp))
  obtain ⟨A7, c7, rfl, -, -, -, hrow7⟩ := own_row hown7
  have HR7 := Lib.hid hrow7
  clear hO7 hown7 hrow7
  go_wp2_with fail
  refine (HIT.out A7 c7 _ _ HR7.out HO7.out).mono ?_
  rintro e w8 ⟨rfl, hO8⟩
  have HO8 := Lib.hid (HO7.out.trans hO8)
  have HR28 := Lib.hid (HR27.out.only hO8 (by simp))
  clear hO8
  go_wp2_with fail
  refine (HRI.out A2 c2 _ _ HR28.out).mono ?_
  rintro e w9 ⟨rfl, hO9⟩
  have HO9 := Lib.hid (HO8.out.trans hO9)
  have HR29 := Lib.hid (HR28.out.only hO9 (by simp))
  clear hO9
  go_wp2_with fail
  refine (HFF.out A2 c2 _ _ HR29.out).mono ?_
  rintro e w10 ⟨hO10, V10, rfl, hown10⟩
  have HO10 := Lib.hid (HO9.out.trans hO10)
  have HR210 := Lib.hid (HR29.out.only hO10 (by simp))
  obtain ⟨A10, c10, rfl, -, -, -, hrow10⟩ := own_row hown10
  have HR10 := Lib.hid hrow10
  clear hO10 hown10 hrow10
  go_wp2_with fail
  refine (HP.out A10 c10 _ _ HR10.out HO10.out).mono ?_
  rintro e w11 ⟨hO11, A11, m11, c11, rfl, rfl, hr11⟩
  have HO11 := Lib.hid (HO10.out.trans hO11)
  have HR211 := Lib.hid (HR210.out.only hO11 (by simp))
  have HR11 := Lib.hid hr11
  clear hO11 hr11
  go_wp2_with fail
  refine (HRP.out A2 c2 _ _ HR211.out).mono ?_
  rintro e w12 ⟨hO12, V12, rfl, hown12⟩
  have HO12 := Lib.hid (HO11.out.trans hO12)
  have HR1112 := Lib.hid (HR11.out.only hO12 (by simp))
  obtain ⟨A12, c12, rfl, -, -, -, hrow12⟩ := own_row hown12
  have HR12 := Lib.hid hrow12
  clear hO12 hown12 hrow12
  go_wp2_with fail
  refine (HS2.out A11 A12 c11 c12 w12 _ _ HR1112.out HR12.out).mono ?_
  rintro e w13 ⟨rfl, q13, rfl⟩
  have HO13 := Lib.hid (HO12.out.drewN q13)
  go_wp2_with fail
  refine (HW.out _ HO13.out).mono ?_
  rintro e w14 ⟨rfl, hO14⟩
  have HO14 := Lib.hid (HO13.out.trans hO14)
  clear hO14
  go_wp2
  go_ret
  exact ⟨rfl, HO14.out⟩

end Go.Proofs.YtbojofkladpblaaDoor
