/- The document's tables: Is. A region that draws its order: two operations may come up next, and each is followed. -/
import Derived.Test.YtjfbeeogiejopaaGreatDoorLaw15AllK42
import Derived.Test.YtjfbeeogiejopaaGreatDoorLaw15AllK12
import Derived.Test.YtjfbeeogiejopaaGreatDoorLaw15AllK8
import Derived.Test.YtjfbeeogiejopaaGreatDoorLaw15AllK3
set_option linter.unusedVariables false
set_option linter.unusedSimpArgs false
namespace Go.Proofs.YtjfbeeogiejopaaGreatDoor
open Go.RowKit
open Go.Lib hiding intOf
attribute [local go_sem ↓] Go.wp_at_zero Go.wp_at_succ
set_option maxRecDepth 10000 in
set_option maxHeartbeats 8000000 in
theorem rtab_any (A : Option Addr) (n c B : Nat) (t : List ByteArray) (w : World) (hn : t.length = n) (hnm : n ≤ 9223372036854775806) (hz : ∀ z ∈ t, z.size ≤ 65537) (hA : Row w B A (strs t)) :
  Calls Tryz.prog 51 #[.slice A n c] w fun e w' => e = .returned (.bool (tabB t)) ∧ Only [] w w' := by
 have HIS := Lib.hid (fun (k : Nat) z w' (hz' : t[k]? = some z) => ris_any z w' (hz z (List.mem_of_getElem? hz')))
 have HLS := Lib.hid (fun (k j : Nat) y z w' (hy : t[j]? = some y) (hz' : t[k]? = some z) => (rless_any y z w' (hz y (List.mem_of_getElem? hy)) (hz z (List.mem_of_getElem? hz')) : Calls Tryz.prog 83 #[.string y, .string z] w' fun e w'' => e = .returned (.bool (lessB y z)) ∧ Only [] w' w''))
 have HN := Lib.hid hn
 have HROW := Lib.hid hA
 clear hn hz hA
 go_enter Tryz.func51, Tryz.ntmps51
 go_wp2_with fail
 go_loopw [3] (fun iv wr => ∃ (k : Nat), iv = .int .i64 k ∧ k ≤ n ∧ Hid (∀ (j : Nat) x, j < k → t[j]? = some x → isName x = true) ∧ Hid (∀ (j : Nat) x y, j + 1 < k → t[j]? = some x → t[j + 1]? = some y → lessB x y = true) ∧ Hid (Only [] w wr)) (fun iv _ => n - (intOf iv).toNat)
 case atStart => exact ⟨0, rfl, by omega, Lib.hid (fun j x h => by omega), Lib.hid (fun j x y h => by omega), Lib.hid (Only.refl [] w)⟩
 case round =>
  obtain ⟨k, rfl, hk, HNM, HLE, HO⟩ := hrel
  by_cases hlt : k < n
  ·have h01 : (k : Int) < (n : Int) := by omega
   have hk0 : (0 : Int) ≤ (k : Int) := Int.natCast_nonneg _
   have hwk : IntKind.i64.wrap ((k : Int) + 1) = (k : Int) + 1 := IntWalk.i64_in _ (by omega)
   obtain ⟨b, off, rfl, hbB, hbw, hcell⟩ := HROW.out.open_ (k := k) (by rw [strs, List.length_map, HN.out]; exact hlt)
   obtain ⟨l, hl⟩ : ∃ l, t[k]? = some l := ⟨_, List.getElem?_eq_getElem (by rw [HN.out]; exact hlt)⟩
   have hup := fun (j : Nat) (x : ByteArray) (hx : t[j]? = some x) => ((HO.out.cell (p := ⟨b, off + j, none⟩) hbw (by simp)).trans (hcell j _ (by rw [strs, List.getElem?_map, hx]; rfl)) : wr.cell? ⟨b, off + j, none⟩ = some (.string x))
   have HC1 := Lib.hid (hup k l hl)
   have hbr : b < wr.heap.size := by have := HO.out.size; omega
   have HI := Lib.hid (fun w' => HIS.out k l w' hl)
   have HLK := Lib.hid hl
   obtain ⟨v, hv⟩ : ∃ v, v = isName l := ⟨_, rfl⟩
   rw [← hv] at HI
   have HV := Lib.hid hv
   cases v with
   | false =>
    have HF : Hid (tabB t = false) := Lib.hid (tab_bad1 HLK.out HV.out.symm)
    clear hcell hl hv hup
    go_wp2_with fail
    refine wp_region_noPanic ?_
    refine wp_region_timed (F := [⟨[], [], fun w' => Only [] wr w'⟩]) (by kernel_rfl) (timed_holds ((Only.refl [] wr).drew) (timed_nil)) ?_
    refine tpu (i := 0) (v := ?_) ?_ ?_
    rotate_left
    ·(intro w; go_simp; try with_reducible rfl)
    try simp only [Act.put, tdy]
    refine tpu (i := 1) (v := ?_) ?_ ?_
    rotate_left
    ·(intro w; go_simp; try with_reducible rfl)
    try simp only [Act.put, tdy]
    refine tpu (i := 2) (v := ?_) ?_ ?_
    rotate_left
    ·(intro w; go_simp; try with_reducible rfl)
    try simp only [Act.put, tdy]
    refine trd (i := 3) (v := ?_) 0 ?_ ?_
    rotate_left
    ·(intro wq hSw; (try dsimp only at hSw); have hcl := (hSw.cell (p := ⟨b, off + k, none⟩) hbr (by simp)).trans HC1.out; clear hSw; go_simp; try with_reducible rfl)
    try simp only [Act.put, tdy]
    refine timed_step (i := 4) (by kernel_rfl) rfl (fun K hK => ?_)
    go_simp
    refine (HI.out _).mono ?_
    rintro e w6 ⟨rfl, O6⟩
    refine hK.out _ _ (timed_holds (((Only.refl [] wr).drew).trans O6) (timed_nil)) ?_
    clear hK K
    try simp only [Act.put, tdy]
    refine tpu (i := 5) (v := ?_) ?_ ?_
    rotate_left
    ·(intro w; go_simp; try with_reducible rfl)
    try simp only [Act.put, tdy]
    refine tpu (i := 6) (v := ?_) ?_ ?_
    rotate_left
    ·(intro w; go_simp; try with_reducible rfl)
    try simp only [Act.put, tdy]
    refine tid (i := 7) ?_
    try simp only [Act.put, tdy]
    refine tid (i := 8) ?_
    try simp only [Act.put, tdy]
    refine tid (i := 9) ?_
    try simp only [Act.put, tdy]
    refine tid (i := 10) ?_
    try simp only [Act.put, tdy]
    refine tid (i := 11) ?_
    try simp only [Act.put, tdy]
    refine tid (i := 12) ?_
    try simp only [Act.put, tdy]
    refine tid (i := 13) ?_
    try simp only [Act.put, tdy]
    refine tid (i := 14) ?_
    try simp only [Act.put, tdy]
    refine tid (i := 15) ?_
    try simp only [Act.put, tdy]
    refine tid (i := 16) ?_
    try simp only [Act.put, tdy]
    refine tid (i := 17) ?_
    try simp only [Act.put, tdy]
    refine tid (i := 18) ?_
    try simp only [Act.put, tdy]
    refine tid (i := 19) ?_
    try simp only [Act.put, tdy]
    refine tid (i := 20) ?_
    try simp only [Act.put, tdy]
    refine tid (i := 21) ?_
    try simp only [Act.put, tdy]
    refine tpu (i := 22) (v := ?_) ?_ ?_
    rotate_left
    ·(intro w; go_simp; try with_reducible rfl)
    try simp only [Act.put, tdy]
    refine timed_done (by kernel_rfl) ?_ _
    refine NoPanic.normal ?_
    have HNW := Lib.hid (HO.out.trans (((Only.refl [] wr).drew).trans O6))
    go_wp2
    go_ret
    exact ⟨by rw [HF.out]; rfl, HNW.out⟩
   | true =>
    have HNM2 : Hid (∀ (j : Nat) x, j < k + 1 → t[j]? = some x → isName x = true) := Lib.hid (fun j x hj hx => by
     by_cases h : j < k
     ·exact HNM.out j x h hx
     ·obtain rfl : j = k := by omega
      rw [HLK.out] at hx
      obtain rfl := Option.some.inj hx
      exact HV.out.symm)
    by_cases hk00 : k = 0
    ·subst hk00
     have HC0 : Hid (wr.cell? ⟨b, off, none⟩ = some (.string l)) := Lib.hid HC1.out
     have HLE2 : Hid (∀ (j : Nat) x y, j + 1 < 0 + 1 → t[j]? = some x → t[j + 1]? = some y → lessB x y = true) := Lib.hid (fun j x y h => by omega)
     clear hcell hl hv hup
     go_wp2_with fail
     refine wp_region_noPanic ?_
     refine wp_region_timed (F := [⟨[], [], fun w' => Only [] wr w'⟩]) (by kernel_rfl) (timed_holds ((Only.refl [] wr).drew) (timed_nil)) ?_
     refine tpu (i := 0) (v := ?_) ?_ ?_
     rotate_left
     ·(intro w; go_simp; try with_reducible rfl)
     try simp only [Act.put, tdy]
     refine tpu (i := 1) (v := ?_) ?_ ?_
     rotate_left
     ·(intro w; go_simp; try with_reducible rfl)
     try simp only [Act.put, tdy]
     refine tpu (i := 2) (v := ?_) ?_ ?_
     rotate_left
     ·(intro w; go_simp; try with_reducible rfl)
     try simp only [Act.put, tdy]
     refine trd (i := 3) (v := ?_) 0 ?_ ?_
     rotate_left
     ·(intro wq hSw; (try dsimp only at hSw); have hcl := (hSw.cell (p := ⟨b, off, none⟩) hbr (by simp)).trans HC0.out; clear hSw; go_simp; try with_reducible rfl)
     try simp only [Act.put, tdy]
     refine timed_step (i := 4) (by kernel_rfl) rfl (fun K hK => ?_)
     go_simp
     refine (HI.out _).mono ?_
     rintro e w6 ⟨rfl, O6⟩
     refine hK.out _ _ (timed_holds (((Only.refl [] wr).drew).trans O6) (timed_nil)) ?_
     clear hK K
     try simp only [Act.put, tdy]
     refine tpu (i := 5) (v := ?_) ?_ ?_
     rotate_left
     ·(intro w; go_simp; try with_reducible rfl)
     try simp only [Act.put, tdy]
     refine tpu (i := 6) (v := ?_) ?_ ?_
     rotate_left
     ·(intro w; go_simp; try with_reducible rfl)
     try simp only [Act.put, tdy]
     refine tpu (i := 7) (v := ?_) ?_ ?_
     rotate_left
     ·(intro w; go_simp; try with_reducible rfl)
     try simp only [Act.put, tdy]
     refine tpu (i := 8) (v := ?_) ?_ ?_
     rotate_left
     ·(intro w; go_simp; try with_reducible rfl)
     try simp only [Act.put, tdy]
     refine tpu (i := 9) (v := ?_) ?_ ?_
     rotate_left
     ·(intro w; go_simp; try with_reducible rfl)
     try simp only [Act.put, tdy]
     refine tid (i := 10) ?_
     try simp only [Act.put, tdy]
     refine tid (i := 11) ?_
     try simp only [Act.put, tdy]
     refine tid (i := 12) ?_
     try simp only [Act.put, tdy]
     refine tid (i := 13) ?_
     try simp only [Act.put, tdy]
     refine tid (i := 14) ?_
     try simp only [Act.put, tdy]
     refine tid (i := 15) ?_
     try simp only [Act.put, tdy]
     refine tid (i := 16) ?_
     try simp only [Act.put, tdy]
     refine tid (i := 17) ?_
     try simp only [Act.put, tdy]
     refine tid (i := 18) ?_
     try simp only [Act.put, tdy]
     refine tid (i := 19) ?_
     try simp only [Act.put, tdy]
     refine tid (i := 20) ?_
     try simp only [Act.put, tdy]
     refine tpu (i := 21) (v := ?_) ?_ ?_
     rotate_left
     ·(intro w; go_simp; try with_reducible rfl)
     try simp only [Act.put, tdy]
     refine tpu (i := 22) (v := ?_) ?_ ?_
     rotate_left
     ·(intro w; go_simp; try with_reducible rfl)
     try simp only [Act.put, tdy]
     refine timed_done (by kernel_rfl) ?_ _
     refine NoPanic.normal ?_
     have HNW := Lib.hid (HO.out.trans (((Only.refl [] wr).drew).trans O6))
     go_wp2
     go_roundw
     case rel => exact ⟨0 + 1, by first | rfl | go_num, by omega, HNM2, HLE2, HNW⟩
     case measure => simp [intOf]; omega
    ·obtain ⟨j, hj⟩ : ∃ j, k = j + 1 := ⟨k - 1, by omega⟩
     have hkp : decide ((0 : Int) < (k : Int)) = true := decide_eq_true (by omega)
     have hkp2 : decide (0 < k) = true := decide_eq_true (by omega)
     have hwj : IntKind.i64.wrap ((k : Int) - 1) = (j : Int) := by rw [IntWalk.i64_in _ (by omega)]; omega
     have hj0 : (0 : Int) ≤ (j : Int) := Int.natCast_nonneg _
     have hj1 : (j : Int) < (n : Int) := by omega
     obtain ⟨y, hy⟩ : ∃ y, t[j]? = some y := ⟨_, List.getElem?_eq_getElem (by rw [HN.out]; omega)⟩
     have HC2 := Lib.hid (hup j y hy)
     have HJ := Lib.hid hj
     have HY := Lib.hid hy
     have HLS1 := Lib.hid (fun w' => HLS.out k j y l w' hy HLK.out)
     obtain ⟨u, hu⟩ : ∃ u, u = lessB y l := ⟨_, rfl⟩
     have hu2 : u = lessL (runesL (by_ y)) (runesL (by_ l)) := hu
     rw [← hu2] at HLS1
     clear hu2
     have HU := Lib.hid hu
     clear hj hy hu hcell hl hv hup
     cases u with
     | false =>
      have HF : Hid (tabB t = false) := Lib.hid (tab_bad2 HY.out (by rw [← HJ.out]; exact HLK.out) HU.out.symm)
      go_wp2_with fail
      refine wp_region_noPanic ?_
      refine wp_region_timed (F := [⟨[], [], fun w' => Only [] wr w'⟩]) (by kernel_rfl) (timed_holds ((Only.refl [] wr).drew) (timed_nil)) ?_
      refine tpu (i := 0) (v := ?_) ?_ ?_
      rotate_left
      ·(intro w; go_simp; try with_reducible rfl)
      try simp only [Act.put, tdy]
      refine tpu (i := 1) (v := ?_) ?_ ?_
      rotate_left
      ·(intro w; go_simp; try with_reducible rfl)
      try simp only [Act.put, tdy]
      refine tpu (i := 2) (v := ?_) ?_ ?_
      rotate_left
      ·(intro w; go_simp; try with_reducible rfl)
      try simp only [Act.put, tdy]
      refine trd (i := 3) (v := ?_) 0 ?_ ?_
      rotate_left
      ·(intro wq hSw; (try dsimp only at hSw); have hcl := (hSw.cell (p := ⟨b, off + k, none⟩) hbr (by simp)).trans HC1.out; have hcl2 := (hSw.cell (p := ⟨b, off + j, none⟩) hbr (by simp)).trans HC2.out; clear hSw; go_simp; try with_reducible rfl)
      try simp only [Act.put, tdy]
      refine timed_step (i := 4) (by kernel_rfl) rfl (fun K hK => ?_)
      go_simp
      refine (HI.out _).mono ?_
      rintro e w6 ⟨rfl, O6⟩
      refine hK.out _ _ (timed_holds (((Only.refl [] wr).drew).trans O6) (timed_nil)) ?_
      clear hK K
      try simp only [Act.put, tdy]
      refine tpu (i := 5) (v := ?_) ?_ ?_
      rotate_left
      ·(intro w; go_simp; try with_reducible rfl)
      try simp only [Act.put, tdy]
      refine tpu (i := 6) (v := ?_) ?_ ?_
      rotate_left
      ·(intro w; go_simp; try with_reducible rfl)
      try simp only [Act.put, tdy]
      refine tpu (i := 7) (v := ?_) ?_ ?_
      rotate_left
      ·(intro w; go_simp; try with_reducible rfl)
      try simp only [Act.put, tdy]
      refine tpu (i := 8) (v := ?_) ?_ ?_
      rotate_left
      ·(intro w; go_simp; try with_reducible rfl)
      try simp only [Act.put, tdy]
      refine tpu (i := 9) (v := ?_) ?_ ?_
      rotate_left
      ·(intro w; go_simp; try with_reducible rfl)
      try simp only [Act.put, tdy]
      refine tpu (i := 10) (v := ?_) ?_ ?_
      rotate_left
      ·(intro w; go_simp; try with_reducible rfl)
      try simp only [Act.put, tdy]
      refine tpu (i := 11) (v := ?_) ?_ ?_
      rotate_left
      ·(intro w; go_simp; try with_reducible rfl)
      try simp only [Act.put, tdy]
      refine tpu (i := 12) (v := ?_) ?_ ?_
      rotate_left
      ·(intro w; go_simp; try with_reducible rfl)
      try simp only [Act.put, tdy]
      refine tpu (i := 13) (v := ?_) ?_ ?_
      rotate_left
      ·(intro w; go_simp; try with_reducible rfl)
      try simp only [Act.put, tdy]
      refine trd (i := 14) (v := ?_) 0 ?_ ?_
      rotate_left
      ·(intro wq hSw; (try dsimp only at hSw); have hcl := (hSw.cell (p := ⟨b, off + k, none⟩) hbr (by simp)).trans HC1.out; have hcl2 := (hSw.cell (p := ⟨b, off + j, none⟩) hbr (by simp)).trans HC2.out; clear hSw; go_simp; try with_reducible rfl)
      try simp only [Act.put, tdy]
      refine tpu (i := 15) (v := ?_) ?_ ?_
      rotate_left
      ·(intro w; go_simp; try with_reducible rfl)
      try simp only [Act.put, tdy]
      refine tpu (i := 16) (v := ?_) ?_ ?_
      rotate_left
      ·(intro w; go_simp; try with_reducible rfl)
      try simp only [Act.put, tdy]
      refine tpu (i := 17) (v := ?_) ?_ ?_
      rotate_left
      ·(intro w; go_simp; try with_reducible rfl)
      try simp only [Act.put, tdy]
      refine trd (i := 18) (v := ?_) 0 ?_ ?_
      rotate_left
      ·(intro wq hSw; (try dsimp only at hSw); have hcl := (hSw.cell (p := ⟨b, off + k, none⟩) hbr (by simp)).trans HC1.out; have hcl2 := (hSw.cell (p := ⟨b, off + j, none⟩) hbr (by simp)).trans HC2.out; clear hSw; go_simp; try with_reducible rfl)
      try simp only [Act.put, tdy]
      refine timed_step (i := 19) (by kernel_rfl) rfl (fun K hK => ?_)
      go_simp
      refine (HLS1.out _).mono ?_
      rintro e w7 ⟨rfl, O7⟩
      refine hK.out _ _ (timed_holds ((((Only.refl [] wr).drew).trans O6).trans O7) (timed_nil)) ?_
      clear hK K
      try simp only [Act.put, tdy]
      refine tpu (i := 20) (v := ?_) ?_ ?_
      rotate_left
      ·(intro w; go_simp; try with_reducible rfl)
      try simp only [Act.put, tdy]
      refine tpu (i := 21) (v := ?_) ?_ ?_
      rotate_left
      ·(intro w; go_simp; try with_reducible rfl)
      try simp only [Act.put, tdy]
      refine tpu (i := 22) (v := ?_) ?_ ?_
      rotate_left
      ·(intro w; go_simp; try with_reducible rfl)
      try simp only [Act.put, tdy]
      refine timed_done (by kernel_rfl) ?_ _
      refine NoPanic.normal ?_
      have HNW := Lib.hid (HO.out.trans ((((Only.refl [] wr).drew).trans O6).trans O7))
      go_wp2
      go_ret
      exact ⟨by rw [HF.out]; rfl, HNW.out⟩
     | true =>
      have HLE2 : Hid (∀ (i : Nat) x z, i + 1 < k + 1 → t[i]? = some x → t[i + 1]? = some z → lessB x z = true) := Lib.hid (fun i x z hi hx hz => by
       by_cases h : i + 1 < k
       ·exact HLE.out i x z h hx hz
       ·obtain rfl : i = j := by have := HJ.out; omega
        rw [HY.out] at hx
        obtain rfl := Option.some.inj hx
        rw [← HJ.out, HLK.out] at hz
        obtain rfl := Option.some.inj hz
        exact HU.out.symm)
      go_wp2_with fail
      refine wp_region_noPanic ?_
      refine wp_region_timed (F := [⟨[], [], fun w' => Only [] wr w'⟩]) (by kernel_rfl) (timed_holds ((Only.refl [] wr).drew) (timed_nil)) ?_
      refine tpu (i := 0) (v := ?_) ?_ ?_
      rotate_left
      ·(intro w; go_simp; try with_reducible rfl)
      try simp only [Act.put, tdy]
      refine tpu (i := 1) (v := ?_) ?_ ?_
      rotate_left
      ·(intro w; go_simp; try with_reducible rfl)
      try simp only [Act.put, tdy]
      refine tpu (i := 2) (v := ?_) ?_ ?_
      rotate_left
      ·(intro w; go_simp; try with_reducible rfl)
      try simp only [Act.put, tdy]
      refine trd (i := 3) (v := ?_) 0 ?_ ?_
      rotate_left
      ·(intro wq hSw; (try dsimp only at hSw); have hcl := (hSw.cell (p := ⟨b, off + k, none⟩) hbr (by simp)).trans HC1.out; have hcl2 := (hSw.cell (p := ⟨b, off + j, none⟩) hbr (by simp)).trans HC2.out; clear hSw; go_simp; try with_reducible rfl)
      try simp only [Act.put, tdy]
      refine timed_step (i := 4) (by kernel_rfl) rfl (fun K hK => ?_)
      go_simp
      refine (HI.out _).mono ?_
      rintro e w6 ⟨rfl, O6⟩
      refine hK.out _ _ (timed_holds (((Only.refl [] wr).drew).trans O6) (timed_nil)) ?_
      clear hK K
      try simp only [Act.put, tdy]
      refine tpu (i := 5) (v := ?_) ?_ ?_
      rotate_left
      ·(intro w; go_simp; try with_reducible rfl)
      try simp only [Act.put, tdy]
      refine tpu (i := 6) (v := ?_) ?_ ?_
      rotate_left
      ·(intro w; go_simp; try with_reducible rfl)
      try simp only [Act.put, tdy]
      refine tpu (i := 7) (v := ?_) ?_ ?_
      rotate_left
      ·(intro w; go_simp; try with_reducible rfl)
      try simp only [Act.put, tdy]
      refine tpu (i := 8) (v := ?_) ?_ ?_
      rotate_left
      ·(intro w; go_simp; try with_reducible rfl)
      try simp only [Act.put, tdy]
      refine tpu (i := 9) (v := ?_) ?_ ?_
      rotate_left
      ·(intro w; go_simp; try with_reducible rfl)
      try simp only [Act.put, tdy]
      refine tpu (i := 10) (v := ?_) ?_ ?_
      rotate_left
      ·(intro w; go_simp; try with_reducible rfl)
      try simp only [Act.put, tdy]
      refine tpu (i := 11) (v := ?_) ?_ ?_
      rotate_left
      ·(intro w; go_simp; try with_reducible rfl)
      try simp only [Act.put, tdy]
      refine tpu (i := 12) (v := ?_) ?_ ?_
      rotate_left
      ·(intro w; go_simp; try with_reducible rfl)
      try simp only [Act.put, tdy]
      refine tpu (i := 13) (v := ?_) ?_ ?_
      rotate_left
      ·(intro w; go_simp; try with_reducible rfl)
      try simp only [Act.put, tdy]
      refine trd (i := 14) (v := ?_) 0 ?_ ?_
      rotate_left
      ·(intro wq hSw; (try dsimp only at hSw); have hcl := (hSw.cell (p := ⟨b, off + k, none⟩) hbr (by simp)).trans HC1.out; have hcl2 := (hSw.cell (p := ⟨b, off + j, none⟩) hbr (by simp)).trans HC2.out; clear hSw; go_simp; try with_reducible rfl)
      try simp only [Act.put, tdy]
      refine tpu (i := 15) (v := ?_) ?_ ?_
      rotate_left
      ·(intro w; go_simp; try with_reducible rfl)
      try simp only [Act.put, tdy]
      refine tpu (i := 16) (v := ?_) ?_ ?_
      rotate_left
      ·(intro w; go_simp; try with_reducible rfl)
      try simp only [Act.put, tdy]
      refine tpu (i := 17) (v := ?_) ?_ ?_
      rotate_left
      ·(intro w; go_simp; try with_reducible rfl)
      try simp only [Act.put, tdy]
      refine trd (i := 18) (v := ?_) 0 ?_ ?_
      rotate_left
      ·(intro wq hSw; (try dsimp only at hSw); have hcl := (hSw.cell (p := ⟨b, off + k, none⟩) hbr (by simp)).trans HC1.out; have hcl2 := (hSw.cell (p := ⟨b, off + j, none⟩) hbr (by simp)).trans HC2.out; clear hSw; go_simp; try with_reducible rfl)
      try simp only [Act.put, tdy]
      refine timed_step (i := 19) (by kernel_rfl) rfl (fun K hK => ?_)
      go_simp
      refine (HLS1.out _).mono ?_
      rintro e w7 ⟨rfl, O7⟩
      refine hK.out _ _ (timed_holds ((((Only.refl [] wr).drew).trans O6).trans O7) (timed_nil)) ?_
      clear hK K
      try simp only [Act.put, tdy]
      refine tpu (i := 20) (v := ?_) ?_ ?_
      rotate_left
      ·(intro w; go_simp; try with_reducible rfl)
      try simp only [Act.put, tdy]
      refine tpu (i := 21) (v := ?_) ?_ ?_
      rotate_left
      ·(intro w; go_simp; try with_reducible rfl)
      try simp only [Act.put, tdy]
      refine tpu (i := 22) (v := ?_) ?_ ?_
      rotate_left
      ·(intro w; go_simp; try with_reducible rfl)
      try simp only [Act.put, tdy]
      refine timed_done (by kernel_rfl) ?_ _
      refine NoPanic.normal ?_
      have HNW := Lib.hid (HO.out.trans ((((Only.refl [] wr).drew).trans O6).trans O7))
      go_wp2
      go_roundw
      case rel => exact ⟨k + 1, by go_num, by omega, HNM2, HLE2, HNW⟩
      case measure => simp [intOf]; omega
  ·have hkn : k = n := by omega
   subst hkn
   have hd : decide ((k : Int) < (k : Int)) = false := by simp
   have HF : Hid (tabB t = true) := Lib.hid ((tab_iff t).2 ⟨fun j x hx => HNM.out j x (by rw [← HN.out]; exact (List.getElem?_eq_some_iff.1 hx).1) hx, fun j x y hx hy => HLE.out j x y (by rw [← HN.out]; exact (List.getElem?_eq_some_iff.1 hy).1) hx hy⟩)
   go_wp2
   go_ret
   exact ⟨by rw [HF.out]; rfl, HO.out⟩
end Go.Proofs.YtjfbeeogiejopaaGreatDoor

set_option linter.unusedVariables false
set_option linter.unusedSimpArgs false
namespace Go.Proofs.YtjfbeeogiejopaaGreatDoor
open Go.RowKit
section
variable {P : Program} {ops : Array Oper} {Q : Exit → Act → World → Prop} {md : Region.Mode} {S : Array Bool → World → Prop}
theorem timed_fork {i j : Nat} {oi oj : Oper} {fuel : Nat} {listed : Array Bool} {a : Act} {w : World} (hr : Region.ready md ops listed = [i, j]) (hoi : ops[i]? = some oi) (hoj : ops[j]? = some oj)
  (hi : ∀ K' : Act → World → Prop, Shut (∀ a w, S (listed.setIfInBounds i true) w → (S (listed.setIfInBounds i true) w → wpAnyT P md ops Q S fuel (listed.setIfInBounds i true) a w) → K' a w) →
   if Region.wanted oi (yielded ops a.tmps) = true then Oper.wp P oi a w K' Q else K' (a.put oi.dst undef) w)
  (hj : ∀ K' : Act → World → Prop, Shut (∀ a w, S (listed.setIfInBounds j true) w → (S (listed.setIfInBounds j true) w → wpAnyT P md ops Q S fuel (listed.setIfInBounds j true) a w) → K' a w) →
   if Region.wanted oj (yielded ops a.tmps) = true then Oper.wp P oj a w K' Q else K' (a.put oj.dst undef) w) : S listed w → wpAnyT P md ops Q S (fuel + 1) listed a w := by
 intro _
 refine ⟨fun h0 => (by rw [hr] at h0; cases h0), fun k hk => ?_⟩
 rw [hr] at hk
 rcases List.mem_cons.1 hk with rfl | hk
 ·exact wpOp_step hoi (fun K' hK => hi K' (fun a w hS hW => hK a w ⟨hS, hW hS⟩))
 ·obtain rfl := List.mem_singleton.1 hk
  exact wpOp_step hoj (fun K' hK => hj K' (fun a w hS hW => hK a w ⟨hS, hW hS⟩))
end
theorem Row.drop {w : World} {B g off : Nat} {xs : List Value} (h : Row w B (some ⟨g, off, none⟩) xs) (k : Nat) : Row w B (some ⟨g, off + k, none⟩) (xs.drop k) := by
 rcases h with h | ⟨b, o, he, hb, hw, hc⟩
 ·subst h
  exact .inl (by simp)
 ·obtain ⟨rfl, rfl⟩ : g = b ∧ off = o := by
   have := Option.some.inj he
   exact ⟨congrArg Addr.block this, congrArg Addr.off this⟩
  refine .inr ⟨g, off + k, rfl, hb, hw, fun j u hu => ?_⟩
  rw [List.getElem?_drop] at hu
  rw [Nat.add_assoc]
  exact hc (k + j) u hu
theorem Blk.row {w : World} {g : Nat} {t : TypeId} {cs : Array Value} (h : Blk w g t cs) : Row w (g + 1) (some ⟨g, 0, none⟩) cs.toList :=
 .inr ⟨g, 0, rfl, by omega, h.lt, fun j u hu => by rw [Nat.zero_add, h.at_ j]; simpa using hu⟩
end Go.Proofs.YtjfbeeogiejopaaGreatDoor
