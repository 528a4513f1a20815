/- known.Bad: which reads are bad. -/
import Derived.Test.YtjhomlnlmpdklaaGreatDoorInnerAgreesCardK33
import Derived.Test.YtjhomlnlmpdklaaGreatDoorInnerAgreesCardK19
import Derived.Test.YtjhomlnlmpdklaaGreatDoorInnerAgreesCardK26
import Derived.Deep.CutBlock
import Derived.Deep.DeepCutAuto
set_option linter.unusedVariables false
set_option linter.unusedSimpArgs false
namespace Go.Proofs.YtjhomlnlmpdklaaGreatDoor
open Go.RowKit
open Go.Lib hiding intOf
attribute [local go_sem ↓] Go.wp_at_zero Go.wp_at_succ
theorem Blk.thereAt {w : World} {g : Nat} {t : TypeId} {cs : Array Value} (h : Blk w g t cs) (o n : Nat) (hn : o + n ≤ cs.size) : w.there g o n := fun j hj => by
 exact ⟨by rw [h.at_ (o + j)]; simp; omega, h.free _⟩
theorem Blk.putTwo {w : World} {g : Nat} {t : TypeId} {cs : Array Value} (h : Blk w g t cs) (o : Nat) (a b : Value) : Blk (w.setCells g o [a, b]) g t ((cs.setIfInBounds o a).setIfInBounds (o + 1) b) := (h.put o a).put (o + 1) b
theorem badO_eq {l : List Op4} {i : Nat} {o : Op4} (hw : o.wr = false) : badO l i o = ((leftW o.key (l.take i)).isSome && (!decide (o.vk = 2) && !decide ((o.vk, o.vn) = leftV o.key (l.take i)))) := by unfold badO; rw [hw]; simp
theorem badO_wr {l : List Op4} {i : Nat} {o : Op4} (hw : o.wr = true) : badO l i o = false := by unfold badO; rw [hw]; simp
set_option maxRecDepth 10000 in
set_option maxHeartbeats 8000000 in
theorem kbad_any (A : Option Addr) (m c B : Nat) (ops : List Op4) (w : World) (hg : Row w B A (opC ops)) (hm : ops.length = m) (hM : m ≤ 1000) (hk : KeyOk ops) :
  Calls Tryz.prog 38 #[.slice A m c] w fun e w' => ∃ A' c', (e = .returned (.slice A' (bdL ops).length c') ∧ Row w' w'.heap.size A' ((bdL ops).map (Value.int .i64))) ∧ Only [] w w' := by
 obtain ⟨i0, hi, hz0, hz1, hz2⟩ := info_parts info_int
 have HG := Lib.hid hg
 have HMM := Lib.hid hm
 have HK := Lib.hid hk
 have HU0 := Lib.hid (Blk.made w 81 (ownC []))
 have HO0 := Lib.hid ((Only.refl [] w).alloc (.cells (ownC []) 81))
 clear hg hm hk
 go_enter Tryz.func38, Tryz.ntmps38
 go_wp2_with fail
 go_loopw [3, 4, 10] (fun V K iv wr => ∃ j : Nat, iv = .int .i64 j ∧ j ≤ m ∧ K = .int .u64 (keyM (ops.take j) : Int) ∧ Hid (wr.ownsRow (w.heap.size + 1) 3 1 V (bdL (ops.take j)).length ((bdL (ops.take j)).map (Value.int .i64))) ∧ Hid (Blk wr w.heap.size 81 (ownC (ops.take j))) ∧ Hid (Only [] w wr)) (fun _ _ iv _ => m - (intOf iv).toNat)
 case atStart => exact ⟨0, rfl, by omega, rfl, Lib.hid ⟨rfl, .inl ⟨rfl, rfl⟩⟩, HU0, HO0⟩
 case round =>
  obtain ⟨j, rfl, hj, rfl, hV, hU, hO⟩ := hrel
  have hsz := hO.out.size
  by_cases hlt : j < m
  ·obtain ⟨y, hy⟩ : ∃ y, ops[j]? = some y := ⟨_, List.getElem?_eq_getElem (by rw [HMM.out]; exact hlt)⟩
   obtain ⟨b, off, rfl, -, hbw, hP⟩ := row_op HG.out hy
   obtain ⟨p0, p1, p2, p3⟩ := hP.only hO.out hbw (by simp)
   obtain ⟨hy0, hy40⟩ := HK.out y (List.mem_of_getElem? hy)
   have HBT := Lib.hid (bdL_take hy)
   have HKT := Lib.hid (keyM_take hy)
   have HOT : Hid (ops.take (j + 1) = ops.take j ++ [y]) := Lib.hid (by rw [List.take_add_one, hy]; rfl)
   have HBE := Lib.hid (fun h => badO_eq (l := ops) (i := j) (o := y) h)
   have HBW := Lib.hid (fun h => badO_wr (l := ops) (i := j) (o := y) h)
   have HOS := Lib.hid (fun h => ownC_same (l := ops.take j) (o := y) h)
   have HKL := Lib.hid (keyM_lt _ (keyOk_take HK.out j))
   have hbl := bdL_le (ops.take j)
   rw [List.length_take] at hbl
   obtain ⟨yw, yk, yv, yn⟩ := y
   dsimp only at p0 p1 p2 p3 hy0 hy40 HKT HBE HBW
   obtain ⟨q, rfl⟩ : ∃ q : Nat, yk = q := ⟨yk.toNat, by omega⟩
   have hq : q < 40 := by omega
   have HOE := Lib.hid (fun h => ownC_set (ops.take j) ⟨yw, (q : Int), yv, yn⟩ q hq rfl h)
   have HKB := Lib.hid (keyM_bit _ (keyOk_take HK.out j) q)
   have HOA := Lib.hid (ownC_at (ops.take j) q hq)
   have h01 : (j : Int) < (m : Int) := by omega
   have hj0 : (0 : Int) ≤ (j : Int) := Int.natCast_nonneg _
   have hwj : IntKind.i64.wrap ((j : Int) + 1) = (j : Int) + 1 := IntWalk.i64_in _ (by omega)
   have hbr : b < wr.heap.size := by omega
   clear hP hy
   generalize keyM (ops.take j) = K at *
   go_upto_region 7 with (fail)
   have O2 : Only [] wr (wr.alloc (.cells #[.bool yw, .int .i64 q, .int .i64 yv, .int .i64 yn] 46)) := (Only.refl [] wr).alloc _
   have HT2 := Lib.hid (Blk.made wr 46 #[.bool yw, .int .i64 q, .int .i64 yv, .int .i64 yn])
   have HU2 := Lib.hid (O2.blk hU.out (by simp))
   have HV2 := Lib.hid (own_only hV.out O2 (by simp))
   have HO2 := Lib.hid (hO.out.trans O2)
   have HGT := Lib.hid hU.out.lt
   clear p0 p1 p2 p3 O2 hV hU hO hbr hbw
   generalize (wr.alloc (.cells #[.bool yw, .int .i64 q, .int .i64 yv, .int .i64 yn] 46)) = w2 at *
   have hgt : w.heap.size < wr.heap.size := HGT.out
   generalize wr.heap.size = gt at *
   generalize hgu : w.heap.size = gu at *
   have lT := HT2.out.lt
   have t0 := HT2.out.at_ 0
   simp at t0
   cases yw with
   | true =>
    have HB1 : Hid (bdL (ops.take (j + 1)) = bdL (ops.take j)) := Lib.hid (by rw [HBT.out, HBW.out rfl]; simp)
    have HK1 : Hid (((K ||| 2 ^ q : Nat) : Int) = (keyM (ops.take (j + 1)) : Int)) := Lib.hid (by rw [HKT.out]; unfold keyStep; simp)
    have HWI := Lib.hid (fun w' => kwith_any K q w' HKL.out (by omega))
    have hq0 : (0 : Int) ≤ (q : Int) := by omega
    have hq4 : (q : Int) < 40 := by omega
    go_upto_region 8 with (fail)
    clear lT t0
    refine wp_region_noPanic ?_
    refine wp_region_timed (F := [⟨[], [], fun w' => Only [gu] w2 w'⟩]) (by kernel_rfl) (timed_holds ((Only.refl [gu] w2).drew) (timed_nil)) ?_
    refine timed_pure (i := 0) (v := ?_) rfl (by kernel_rfl) (by kernel_rfl) (by kernel_rfl) (fun _ _ _ h => h) (by kernel_rfl) (by kernel_rfl) ?_ ?_
    rotate_left
    ·(intro w; go_simp; try with_reducible rfl)
    try simp only [Act.put, tdy]
    refine timed_read (i := 1) (v := ?_) 0 rfl (by kernel_rfl) (by kernel_rfl) (by kernel_rfl) (fun _ _ _ h => h) (by kernel_rfl) (by kernel_rfl) rfl (by kernel_rfl) ?_ ?_
    rotate_left
    ·(intro wq hSw; (try dsimp only at hSw); have hb_T := hSw.blk HT2.out (by simp; omega); have lb_T := hb_T.lt; have t1 := hb_T.at_ 1; have t2 := hb_T.at_ 2; have t3 := hb_T.at_ 3; simp at t1 t2 t3; clear hb_T; clear hSw; go_simp; try with_reducible rfl)
    try simp only [Act.put, tdy]
    refine timed_pure (i := 2) (v := ?_) rfl (by kernel_rfl) (by kernel_rfl) (by kernel_rfl) (fun _ _ _ h => h) (by kernel_rfl) (by kernel_rfl) ?_ ?_
    rotate_left
    ·(intro w; go_simp; try with_reducible rfl)
    try simp only [Act.put, tdy]
    refine timed_pure (i := 3) (v := ?_) rfl (by kernel_rfl) (by kernel_rfl) (by kernel_rfl) (fun _ _ _ h => h) (by kernel_rfl) (by kernel_rfl) ?_ ?_
    rotate_left
    ·(intro w; go_simp; try with_reducible rfl)
    try simp only [Act.put, tdy]
    refine timed_read (i := 4) (v := ?_) 0 rfl (by kernel_rfl) (by kernel_rfl) (by kernel_rfl) (fun _ _ _ h => h) (by kernel_rfl) (by kernel_rfl) rfl (by kernel_rfl) ?_ ?_
    rotate_left
    ·(intro wq hSw; (try dsimp only at hSw); have hb_T := hSw.blk HT2.out (by simp; omega); have lb_T := hb_T.lt; have t1 := hb_T.at_ 1; have t2 := hb_T.at_ 2; have t3 := hb_T.at_ 3; simp at t1 t2 t3; clear hb_T; clear hSw; go_simp; try with_reducible rfl)
    try simp only [Act.put, tdy]
    refine timed_pure (i := 6) (v := ?_) rfl (by kernel_rfl) (by kernel_rfl) (by kernel_rfl) (fun _ _ _ h => h) (by kernel_rfl) (by kernel_rfl) ?_ ?_
    rotate_left
    ·(intro w; go_simp; try with_reducible rfl)
    try simp only [Act.put, tdy]
    refine timed_read (i := 7) (v := ?_) 0 rfl (by kernel_rfl) (by kernel_rfl) (by kernel_rfl) (fun _ _ _ h => h) (by kernel_rfl) (by kernel_rfl) rfl (by kernel_rfl) ?_ ?_
    rotate_left
    ·(intro wq hSw; (try dsimp only at hSw); have hb_T := hSw.blk HT2.out (by simp; omega); have lb_T := hb_T.lt; have t1 := hb_T.at_ 1; have t2 := hb_T.at_ 2; have t3 := hb_T.at_ 3; simp at t1 t2 t3; clear hb_T; clear hSw; go_simp; try with_reducible rfl)
    try simp only [Act.put, tdy]
    refine timed_step (i := 5) (by kernel_rfl) rfl (fun K hK => ?_)
    go_simp
    refine (HWI.out _).mono ?_
    rintro e w3 ⟨rfl, rfl⟩
    refine hK.out _ _ (timed_holds ((Only.refl [gu] w2).drew) (timed_nil)) ?_
    clear hK K
    try simp only [Act.put, tdy]
    refine timed_pure (i := 8) (v := ?_) rfl (by kernel_rfl) (by kernel_rfl) (by kernel_rfl) (fun _ _ _ h => h) (by kernel_rfl) (by kernel_rfl) ?_ ?_
    rotate_left
    ·(intro w; go_simp; try with_reducible rfl)
    try simp only [Act.put, tdy]
    refine timed_pure (i := 9) (v := ?_) rfl (by kernel_rfl) (by kernel_rfl) (by kernel_rfl) (fun _ _ _ h => h) (by kernel_rfl) (by kernel_rfl) ?_ ?_
    rotate_left
    ·(intro w; go_simp; try with_reducible rfl)
    try simp only [Act.put, tdy]
    refine timed_step (i := 10) (by kernel_rfl) rfl (fun K hK => ?_)
    refine wp_store_mid 30 (.tmp 26) (.tmp 25) rfl gu (q * 2) #[.int .i64 yv, .int .i64 yn] rfl rfl ((HU2.out.drew).thereAt (q * 2) 2 (by rw [ownC_size]; omega)) (by kernel_rfl) (by kernel_rfl) ?_
    have HU8 := Lib.hid ((HU2.out.drew).putTwo (q * 2) (.int .i64 yv) (.int .i64 yn))
    have O8 := setCells_only gu [.int .i64 yv, .int .i64 yn] (q * 2) [gu] w2 w2.drew (Only.refl [gu] w2).drew (by simp)
    generalize w2.drew.setCells gu (q * 2) [.int .i64 yv, .int .i64 yn] = w8 at *
    refine hK.out _ _ (timed_holds (O8) (timed_nil)) ?_
    clear hK K
    try simp only [Act.put, tdy]
    refine timed_done (by kernel_rfl) ?_ _
    refine NoPanic.normal ?_
    have HN8 := Lib.hid ( (O8))
    have HV8 := Lib.hid (own_only HV2.out HN8.out (fun g hg hm => by
     have := (HV2.out.lt g hg).1
     simp at hm
     omega))
    have HO8 := Lib.hid (HO2.out.step HN8.out (fun i hi hl => by simp at hi; omega))
    rw [HOE.out rfl] at HU8
    rw [← HOT.out] at HU8
    rw [← HB1.out] at HV8
    subst hgu
    go_wp2
    go_roundw
    case rel => first | exact ⟨j + 1, by go_num, by omega, by rw [← HK1.out], HV8, HU8, HO8⟩ | exact ⟨_, ⟨j + 1, by go_num, by omega, by rw [← HK1.out], HV8, HU8, HO8⟩, rfl⟩
    case measure => simp [intOf]; omega
   | false =>
    have HKE : Hid (keyM (ops.take (j + 1)) = K) := Lib.hid (by rw [HKT.out]; rfl)
    have HU3 : Hid (Blk w2 gu 81 (ownC (ops.take (j + 1)))) := Lib.hid (by rw [HOT.out, HOS.out rfl]; exact HU2.out)
    have HHA := Lib.hid (fun w' => khas_any K q w' HKL.out (by omega))
    have hq0 : (0 : Int) ≤ (q : Int) := by omega
    have hq4 : (q : Int) < 40 := by omega
    have HBO := Lib.hid (HBE.out rfl)
    clear HOE HOS HBE HBW
    cases hb : K.testBit q with
    | false =>
     rw [hb] at HHA
     have HBF : Hid (bdL (ops.take (j + 1)) = bdL (ops.take j)) := Lib.hid (by rw [HBT.out, HBO.out, ← HKB.out, hb]; simp)
     clear hb
     go_upto_region 9 with (fail)
     clear lT t0
     refine wp_region_noPanic ?_
     refine wp_region_timed (F := [⟨[], [], fun w' => Only [] w2 w'⟩]) (by kernel_rfl) (timed_holds ((Only.refl [] w2).drew) (timed_nil)) ?_
     refine timed_pure (i := 0) (v := ?_) rfl (by kernel_rfl) (by kernel_rfl) (by kernel_rfl) (fun _ _ _ h => h) (by kernel_rfl) (by kernel_rfl) ?_ ?_
     rotate_left
     ·(intro w; go_simp; try with_reducible rfl)
     try simp only [Act.put, tdy]
     refine timed_pure (i := 1) (v := ?_) rfl (by kernel_rfl) (by kernel_rfl) (by kernel_rfl) (fun _ _ _ h => h) (by kernel_rfl) (by kernel_rfl) ?_ ?_
     rotate_left
     ·(intro w; go_simp; try with_reducible rfl)
     try simp only [Act.put, tdy]
     refine timed_read (i := 2) (v := ?_) 0 rfl (by kernel_rfl) (by kernel_rfl) (by kernel_rfl) (fun _ _ _ h => h) (by kernel_rfl) (by kernel_rfl) rfl (by kernel_rfl) ?_ ?_
     rotate_left
     ·(intro wq hSw; (try dsimp only at hSw); have hb_T := hSw.blk HT2.out (by simp); have lb_T := hb_T.lt; have t1 := hb_T.at_ 1; have t2 := hb_T.at_ 2; have t3 := hb_T.at_ 3; simp at t1 t2 t3; clear hb_T; clear hSw; go_simp; try with_reducible rfl)
     try simp only [Act.put, tdy]
     refine timed_step (i := 3) (by kernel_rfl) rfl (fun K hK => ?_)
     go_simp
     refine (HHA.out _).mono ?_
     rintro e w3 ⟨rfl, rfl⟩
     refine hK.out _ _ (timed_holds ((Only.refl [] w2).drew) (timed_nil)) ?_
     clear hK K
     try simp only [Act.put, tdy]
     refine timed_pure (i := 4) (v := ?_) rfl (by kernel_rfl) (by kernel_rfl) (by kernel_rfl) (fun _ _ _ h => h) (by kernel_rfl) (by kernel_rfl) ?_ ?_
     rotate_left
     ·(intro w; go_simp; try with_reducible rfl)
     try simp only [Act.put, tdy]
     refine timed_idle (i := 5) rfl (by kernel_rfl) (by kernel_rfl) (by kernel_rfl) (fun _ _ _ h => h) (by kernel_rfl) (by kernel_rfl) ?_
     try simp only [Act.put, tdy]
     refine timed_idle (i := 6) rfl (by kernel_rfl) (by kernel_rfl) (by kernel_rfl) (fun _ _ _ h => h) (by kernel_rfl) (by kernel_rfl) ?_
     try simp only [Act.put, tdy]
     refine timed_idle (i := 7) rfl (by kernel_rfl) (by kernel_rfl) (by kernel_rfl) (fun _ _ _ h => h) (by kernel_rfl) (by kernel_rfl) ?_
     try simp only [Act.put, tdy]
     refine timed_idle (i := 8) rfl (by kernel_rfl) (by kernel_rfl) (by kernel_rfl) (fun _ _ _ h => h) (by kernel_rfl) (by kernel_rfl) ?_
     try simp only [Act.put, tdy]
     refine timed_pure (i := 9) (v := ?_) rfl (by kernel_rfl) (by kernel_rfl) (by kernel_rfl) (fun _ _ _ h => h) (by kernel_rfl) (by kernel_rfl) ?_ ?_
     rotate_left
     ·(intro w; go_simp; try with_reducible rfl)
     try simp only [Act.put, tdy]
     refine timed_pure (i := 10) (v := ?_) rfl (by kernel_rfl) (by kernel_rfl) (by kernel_rfl) (fun _ _ _ h => h) (by kernel_rfl) (by kernel_rfl) ?_ ?_
     rotate_left
     ·(intro w; go_simp; try with_reducible rfl)
     try simp only [Act.put, tdy]
     refine timed_idle (i := 11) rfl (by kernel_rfl) (by kernel_rfl) (by kernel_rfl) (fun _ _ _ h => h) (by kernel_rfl) (by kernel_rfl) ?_
     try simp only [Act.put, tdy]
     refine timed_idle (i := 12) rfl (by kernel_rfl) (by kernel_rfl) (by kernel_rfl) (fun _ _ _ h => h) (by kernel_rfl) (by kernel_rfl) ?_
     try simp only [Act.put, tdy]
     refine timed_idle (i := 13) rfl (by kernel_rfl) (by kernel_rfl) (by kernel_rfl) (fun _ _ _ h => h) (by kernel_rfl) (by kernel_rfl) ?_
     try simp only [Act.put, tdy]
     refine timed_idle (i := 14) rfl (by kernel_rfl) (by kernel_rfl) (by kernel_rfl) (fun _ _ _ h => h) (by kernel_rfl) (by kernel_rfl) ?_
     try simp only [Act.put, tdy]
     refine timed_idle (i := 15) rfl (by kernel_rfl) (by kernel_rfl) (by kernel_rfl) (fun _ _ _ h => h) (by kernel_rfl) (by kernel_rfl) ?_
     try simp only [Act.put, tdy]
     refine timed_idle (i := 16) rfl (by kernel_rfl) (by kernel_rfl) (by kernel_rfl) (fun _ _ _ h => h) (by kernel_rfl) (by kernel_rfl) ?_
     try simp only [Act.put, tdy]
     refine timed_idle (i := 17) rfl (by kernel_rfl) (by kernel_rfl) (by kernel_rfl) (fun _ _ _ h => h) (by kernel_rfl) (by kernel_rfl) ?_
     try simp only [Act.put, tdy]
     refine timed_pure (i := 18) (v := ?_) rfl (by kernel_rfl) (by kernel_rfl) (by kernel_rfl) (fun _ _ _ h => h) (by kernel_rfl) (by kernel_rfl) ?_ ?_
     rotate_left
     ·(intro w; go_simp; try with_reducible rfl)
     try simp only [Act.put, tdy]
     refine timed_pure (i := 19) (v := ?_) rfl (by kernel_rfl) (by kernel_rfl) (by kernel_rfl) (fun _ _ _ h => h) (by kernel_rfl) (by kernel_rfl) ?_ ?_
     rotate_left
     ·(intro w; go_simp; try with_reducible rfl)
     try simp only [Act.put, tdy]
     refine timed_done (by kernel_rfl) ?_ _
     refine NoPanic.normal ?_
     have HN9 := Lib.hid (HO2.out.trans ((Only.refl [] w2).drew))
     have HV9 := Lib.hid (own_only HV2.out (Only.refl [] w2).drew (by simp))
     have HU9 := Lib.hid HU3.out.drew
     rw [← HBF.out] at HV9
     generalize w2.drew = w9 at *
     subst hgu
     go_wp2
     go_roundw
     case rel => first | exact ⟨j + 1, by go_num, by omega, by rw [HKE.out], HV9, HU9, HN9⟩ | exact ⟨_, ⟨j + 1, by go_num, by omega, by rw [HKE.out], HV9, HU9, HN9⟩, rfl⟩
     case measure => simp [intOf]; omega
    | true =>
     rw [hb] at HHA
     have HLS : Hid ((leftW (q : Int) (ops.take j)).isSome = true) := Lib.hid (by rw [← HKB.out, hb])
     clear hb
     by_cases hv : yv = 2
     ·have hv1 : (yv != 2) = false := by simp [hv]
      have HBF : Hid (bdL (ops.take (j + 1)) = bdL (ops.take j)) := Lib.hid (by rw [HBT.out, HBO.out, HLS.out, hv]; simp)
      clear hv
      go_upto_region 9 with (fail)
      clear lT t0
      refine wp_region_noPanic ?_
      refine wp_region_timed (F := [⟨[], [], fun w' => Only [] w2 w'⟩]) (by kernel_rfl) (timed_holds ((Only.refl [] w2).drew) (timed_nil)) ?_
      refine timed_pure (i := 0) (v := ?_) rfl (by kernel_rfl) (by kernel_rfl) (by kernel_rfl) (fun _ _ _ h => h) (by kernel_rfl) (by kernel_rfl) ?_ ?_
      rotate_left
      ·(intro w; go_simp; try with_reducible rfl)
      try simp only [Act.put, tdy]
      refine timed_pure (i := 1) (v := ?_) rfl (by kernel_rfl) (by kernel_rfl) (by kernel_rfl) (fun _ _ _ h => h) (by kernel_rfl) (by kernel_rfl) ?_ ?_
      rotate_left
      ·(intro w; go_simp; try with_reducible rfl)
      try simp only [Act.put, tdy]
      refine timed_read (i := 2) (v := ?_) 0 rfl (by kernel_rfl) (by kernel_rfl) (by kernel_rfl) (fun _ _ _ h => h) (by kernel_rfl) (by kernel_rfl) rfl (by kernel_rfl) ?_ ?_
      rotate_left
      ·(intro wq hSw; (try dsimp only at hSw); have hb_T := hSw.blk HT2.out (by simp); have lb_T := hb_T.lt; have t1 := hb_T.at_ 1; have t2 := hb_T.at_ 2; have t3 := hb_T.at_ 3; simp at t1 t2 t3; clear hb_T; clear hSw; go_simp; try with_reducible rfl)
      try simp only [Act.put, tdy]
      refine timed_step (i := 3) (by kernel_rfl) rfl (fun K hK => ?_)
      go_simp
      refine (HHA.out _).mono ?_
      rintro e w3 ⟨rfl, rfl⟩
      refine hK.out _ _ (timed_holds ((Only.refl [] w2).drew) (timed_nil)) ?_
      clear hK K
      try simp only [Act.put, tdy]
      refine timed_pure (i := 4) (v := ?_) rfl (by kernel_rfl) (by kernel_rfl) (by kernel_rfl) (fun _ _ _ h => h) (by kernel_rfl) (by kernel_rfl) ?_ ?_
      rotate_left
      ·(intro w; go_simp; try with_reducible rfl)
      try simp only [Act.put, tdy]
      refine timed_pure (i := 5) (v := ?_) rfl (by kernel_rfl) (by kernel_rfl) (by kernel_rfl) (fun _ _ _ h => h) (by kernel_rfl) (by kernel_rfl) ?_ ?_
      rotate_left
      ·(intro w; go_simp; try with_reducible rfl)
      try simp only [Act.put, tdy]
      refine timed_pure (i := 6) (v := ?_) rfl (by kernel_rfl) (by kernel_rfl) (by kernel_rfl) (fun _ _ _ h => h) (by kernel_rfl) (by kernel_rfl) ?_ ?_
      rotate_left
      ·(intro w; go_simp; try with_reducible rfl)
      try simp only [Act.put, tdy]
      refine timed_read (i := 7) (v := ?_) 0 rfl (by kernel_rfl) (by kernel_rfl) (by kernel_rfl) (fun _ _ _ h => h) (by kernel_rfl) (by kernel_rfl) rfl (by kernel_rfl) ?_ ?_
      rotate_left
      ·(intro wq hSw; (try dsimp only at hSw); have hb_T := hSw.blk HT2.out (by simp); have lb_T := hb_T.lt; have t1 := hb_T.at_ 1; have t2 := hb_T.at_ 2; have t3 := hb_T.at_ 3; simp at t1 t2 t3; clear hb_T; clear hSw; go_simp; try with_reducible rfl)
      try simp only [Act.put, tdy]
      refine timed_pure (i := 8) (v := ?_) rfl (by kernel_rfl) (by kernel_rfl) (by kernel_rfl) (fun _ _ _ h => h) (by kernel_rfl) (by kernel_rfl) ?_ ?_
      rotate_left
      ·(intro w; go_simp; try with_reducible rfl)
      try simp only [Act.put, tdy]
      refine timed_pure (i := 9) (v := ?_) rfl (by kernel_rfl) (by kernel_rfl) (by kernel_rfl) (fun _ _ _ h => h) (by kernel_rfl) (by kernel_rfl) ?_ ?_
      rotate_left
      ·(intro w; go_simp; try with_reducible rfl)
      try simp only [Act.put, tdy]
      refine timed_pure (i := 10) (v := ?_) rfl (by kernel_rfl) (by kernel_rfl) (by kernel_rfl) (fun _ _ _ h => h) (by kernel_rfl) (by kernel_rfl) ?_ ?_
      rotate_left
      ·(intro w; go_simp; try with_reducible rfl)
      try simp only [Act.put, tdy]
      refine timed_idle (i := 11) rfl (by kernel_rfl) (by kernel_rfl) (by kernel_rfl) (fun _ _ _ h => h) (by kernel_rfl) (by kernel_rfl) ?_
      try simp only [Act.put, tdy]
      refine timed_idle (i := 12) rfl (by kernel_rfl) (by kernel_rfl) (by kernel_rfl) (fun _ _ _ h => h) (by kernel_rfl) (by kernel_rfl) ?_
      try simp only [Act.put, tdy]
      refine timed_idle (i := 13) rfl (by kernel_rfl) (by kernel_rfl) (by kernel_rfl) (fun _ _ _ h => h) (by kernel_rfl) (by kernel_rfl) ?_
      try simp only [Act.put, tdy]
      refine timed_idle (i := 14) rfl (by kernel_rfl) (by kernel_rfl) (by kernel_rfl) (fun _ _ _ h => h) (by kernel_rfl) (by kernel_rfl) ?_
      try simp only [Act.put, tdy]
      refine timed_idle (i := 15) rfl (by kernel_rfl) (by kernel_rfl) (by kernel_rfl) (fun _ _ _ h => h) (by kernel_rfl) (by kernel_rfl) ?_
      try simp only [Act.put, tdy]
      refine timed_idle (i := 16) rfl (by kernel_rfl) (by kernel_rfl) (by kernel_rfl) (fun _ _ _ h => h) (by kernel_rfl) (by kernel_rfl) ?_
      try simp only [Act.put, tdy]
      refine timed_idle (i := 17) rfl (by kernel_rfl) (by kernel_rfl) (by kernel_rfl) (fun _ _ _ h => h) (by kernel_rfl) (by kernel_rfl) ?_
      try simp only [Act.put, tdy]
      refine timed_pure (i := 18) (v := ?_) rfl (by kernel_rfl) (by kernel_rfl) (by kernel_rfl) (fun _ _ _ h => h) (by kernel_rfl) (by kernel_rfl) ?_ ?_
      rotate_left
      ·(intro w; go_simp; try with_reducible rfl)
      try simp only [Act.put, tdy]
      refine timed_pure (i := 19) (v := ?_) rfl (by kernel_rfl) (by kernel_rfl) (by kernel_rfl) (fun _ _ _ h => h) (by kernel_rfl) (by kernel_rfl) ?_ ?_
      rotate_left
      ·(intro w; go_simp; try with_reducible rfl)
      try simp only [Act.put, tdy]
      refine timed_done (by kernel_rfl) ?_ _
      refine NoPanic.normal ?_
      have HN9 := Lib.hid (HO2.out.trans ((Only.refl [] w2).drew))
      have HV9 := Lib.hid (own_only HV2.out (Only.refl [] w2).drew (by simp))
      have HU9 := Lib.hid HU3.out.drew
      rw [← HBF.out] at HV9
      generalize w2.drew = w9 at *
      subst hgu
      go_wp2
      go_roundw
      case rel => first | exact ⟨j + 1, by go_num, by omega, by rw [HKE.out], HV9, HU9, HN9⟩ | exact ⟨_, ⟨j + 1, by go_num, by omega, by rw [HKE.out], HV9, HU9, HN9⟩, rfl⟩
      case measure => simp [intOf]; omega
     ·have hv1 : (yv != 2) = true := by simp [hv]
      obtain ⟨ov, hov⟩ : ∃ ov, ov = leftV (q : Int) (ops.take j) := ⟨_, rfl⟩
      have HOV := Lib.hid hov
      have HCU := HOA
      rw [← hov] at HCU
      have HBX : Hid (badO ops j ⟨false, (q : Int), yv, yn⟩ = !decide ((yv, yn) = ov)) := Lib.hid (by rw [HBO.out, HLS.out, ← hov]; simp [hv])
      clear hv hov
      obtain ⟨o1, o2⟩ := ov
      by_cases h1 : yv = o1
      ·by_cases h2 : yn = o2
       ·have HBF : Hid (bdL (ops.take (j + 1)) = bdL (ops.take j)) := Lib.hid (by rw [HBT.out, HBX.out, h1, h2]; simp)
        subst h1 h2
        have HU9 := Lib.hid HU2.out.drew
        go_upto_region 9 with (fail)
        clear lT t0
        refine wp_region_noPanic ?_
        refine wp_region_timed (F := [⟨[], [], fun w' => Only [] w2 w'⟩]) (by kernel_rfl) (timed_holds ((Only.refl [] w2).drew) (timed_nil)) ?_
        refine timed_pure (i := 0) (v := ?_) rfl (by kernel_rfl) (by kernel_rfl) (by kernel_rfl) (fun _ _ _ h => h) (by kernel_rfl) (by kernel_rfl) ?_ ?_
        rotate_left
        ·(intro w; go_simp; try with_reducible rfl)
        try simp only [Act.put, tdy]
        refine timed_pure (i := 1) (v := ?_) rfl (by kernel_rfl) (by kernel_rfl) (by kernel_rfl) (fun _ _ _ h => h) (by kernel_rfl) (by kernel_rfl) ?_ ?_
        rotate_left
        ·(intro w; go_simp; try with_reducible rfl)
        try simp only [Act.put, tdy]
        refine timed_read (i := 2) (v := ?_) 0 rfl (by kernel_rfl) (by kernel_rfl) (by kernel_rfl) (fun _ _ _ h => h) (by kernel_rfl) (by kernel_rfl) rfl (by kernel_rfl) ?_ ?_
        rotate_left
        ·(intro wq hSw; (try dsimp only at hSw); have hb_T := hSw.blk HT2.out (by simp); have lb_T := hb_T.lt; have t1 := hb_T.at_ 1; have t2 := hb_T.at_ 2; have t3 := hb_T.at_ 3; simp at t1 t2 t3; clear hb_T; have hb_U := hSw.blk HU2.out (by simp); have lU := hb_U.lt; have c1 := (hb_U.at_ (q * 2)).trans HCU.out.1; have c2 := (hb_U.at_ (q * 2 + 1)).trans HCU.out.2; clear hb_U; clear hSw; go_simp; try with_reducible rfl)
        try simp only [Act.put, tdy]
        refine timed_step (i := 3) (by kernel_rfl) rfl (fun K hK => ?_)
        go_simp
        refine (HHA.out _).mono ?_
        rintro e w3 ⟨rfl, rfl⟩
        refine hK.out _ _ (timed_holds ((Only.refl [] w2).drew) (timed_nil)) ?_
        clear hK K
        try simp only [Act.put, tdy]
        refine timed_pure (i := 4) (v := ?_) rfl (by kernel_rfl) (by kernel_rfl) (by kernel_rfl) (fun _ _ _ h => h) (by kernel_rfl) (by kernel_rfl) ?_ ?_
        rotate_left
        ·(intro w; go_simp; try with_reducible rfl)
        try simp only [Act.put, tdy]
        refine timed_pure (i := 5) (v := ?_) rfl (by kernel_rfl) (by kernel_rfl) (by kernel_rfl) (fun _ _ _ h => h) (by kernel_rfl) (by kernel_rfl) ?_ ?_
        rotate_left
        ·(intro w; go_simp; try with_reducible rfl)
        try simp only [Act.put, tdy]
        refine timed_pure (i := 6) (v := ?_) rfl (by kernel_rfl) (by kernel_rfl) (by kernel_rfl) (fun _ _ _ h => h) (by kernel_rfl) (by kernel_rfl) ?_ ?_
        rotate_left
        ·(intro w; go_simp; try with_reducible rfl)
        try simp only [Act.put, tdy]
        refine timed_read (i := 7) (v := ?_) 0 rfl (by kernel_rfl) (by kernel_rfl) (by kernel_rfl) (fun _ _ _ h => h) (by kernel_rfl) (by kernel_rfl) rfl (by kernel_rfl) ?_ ?_
        rotate_left
        ·(intro wq hSw; (try dsimp only at hSw); have hb_T := hSw.blk HT2.out (by simp); have lb_T := hb_T.lt; have t1 := hb_T.at_ 1; have t2 := hb_T.at_ 2; have t3 := hb_T.at_ 3; simp at t1 t2 t3; clear hb_T; have hb_U := hSw.blk HU2.out (by simp); have lU := hb_U.lt; have c1 := (hb_U.at_ (q * 2)).trans HCU.out.1; have c2 := (hb_U.at_ (q * 2 + 1)).trans HCU.out.2; clear hb_U; clear hSw; go_simp; try with_reducible rfl)
        try simp only [Act.put, tdy]
        refine timed_pure (i := 8) (v := ?_) rfl (by kernel_rfl) (by kernel_rfl) (by kernel_rfl) (fun _ _ _ h => h) (by kernel_rfl) (by kernel_rfl) ?_ ?_
        rotate_left
        ·(intro w; go_simp; try with_reducible rfl)
        try simp only [Act.put, tdy]
        refine timed_pure (i := 9) (v := ?_) rfl (by kernel_rfl) (by kernel_rfl) (by kernel_rfl) (fun _ _ _ h => h) (by kernel_rfl) (by kernel_rfl) ?_ ?_
        rotate_left
        ·(intro w; go_simp; try with_reducible rfl)
        try simp only [Act.put, tdy]
        refine timed_pure (i := 10) (v := ?_) rfl (by kernel_rfl) (by kernel_rfl) (by kernel_rfl) (fun _ _ _ h => h) (by kernel_rfl) (by kernel_rfl) ?_ ?_
        rotate_left
        ·(intro w; go_simp; try with_reducible rfl)
        try simp only [Act.put, tdy]
        refine timed_pure (i := 11) (v := ?_) rfl (by kernel_rfl) (by kernel_rfl) (by kernel_rfl) (fun _ _ _ h => h) (by kernel_rfl) (by kernel_rfl) ?_ ?_
        rotate_left
        ·(intro w; go_simp; try with_reducible rfl)
        try simp only [Act.put, tdy]
        refine timed_read (i := 12) (v := ?_) 0 rfl (by kernel_rfl) (by kernel_rfl) (by kernel_rfl) (fun _ _ _ h => h) (by kernel_rfl) (by kernel_rfl) rfl (by kernel_rfl) ?_ ?_
        rotate_left
        ·(intro wq hSw; (try dsimp only at hSw); have hb_T := hSw.blk HT2.out (by simp); have lb_T := hb_T.lt; have t1 := hb_T.at_ 1; have t2 := hb_T.at_ 2; have t3 := hb_T.at_ 3; simp at t1 t2 t3; clear hb_T; have hb_U := hSw.blk HU2.out (by simp); have lU := hb_U.lt; have c1 := (hb_U.at_ (q * 2)).trans HCU.out.1; have c2 := (hb_U.at_ (q * 2 + 1)).trans HCU.out.2; clear hb_U; clear hSw; go_simp; try with_reducible rfl)
        try simp only [Act.put, tdy]
        refine timed_pure (i := 13) (v := ?_) rfl (by kernel_rfl) (by kernel_rfl) (by kernel_rfl) (fun _ _ _ h => h) (by kernel_rfl) (by kernel_rfl) ?_ ?_
        rotate_left
        ·(intro w; go_simp; try with_reducible rfl)
        try simp only [Act.put, tdy]
        refine timed_read (i := 14) (v := ?_) 0 rfl (by kernel_rfl) (by kernel_rfl) (by kernel_rfl) (fun _ _ _ h => h) (by kernel_rfl) (by kernel_rfl) rfl (by kernel_rfl) ?_ ?_
        rotate_left
        ·(intro wq hSw; (try dsimp only at hSw); have hb_T := hSw.blk HT2.out (by simp); have lb_T := hb_T.lt; have t1 := hb_T.at_ 1; have t2 := hb_T.at_ 2; have t3 := hb_T.at_ 3; simp at t1 t2 t3; clear hb_T; have hb_U := hSw.blk HU2.out (by simp); have lU := hb_U.lt; have c1 := (hb_U.at_ (q * 2)).trans HCU.out.1; have c2 := (hb_U.at_ (q * 2 + 1)).trans HCU.out.2; clear hb_U; clear hSw; go_simp; try with_reducible rfl)
        try simp only [Act.put, tdy]
        refine timed_pure (i := 15) (v := ?_) rfl (by kernel_rfl) (by kernel_rfl) (by kernel_rfl) (fun _ _ _ h => h) (by kernel_rfl) (by kernel_rfl) ?_ ?_
        rotate_left
        ·(intro w; go_simp; try with_reducible rfl)
        try simp only [Act.put, tdy]
        refine timed_read (i := 16) (v := ?_) 0 rfl (by kernel_rfl) (by kernel_rfl) (by kernel_rfl) (fun _ _ _ h => h) (by kernel_rfl) (by kernel_rfl) rfl (by kernel_rfl) ?_ ?_
        rotate_left
        ·(intro wq hSw; (try dsimp only at hSw); have hb_T := hSw.blk HT2.out (by simp); have lb_T := hb_T.lt; have t1 := hb_T.at_ 1; have t2 := hb_T.at_ 2; have t3 := hb_T.at_ 3; simp at t1 t2 t3; clear hb_T; have hb_U := hSw.blk HU2.out (by simp); have lU := hb_U.lt; have c1 := (hb_U.at_ (q * 2)).trans HCU.out.1; have c2 := (hb_U.at_ (q * 2 + 1)).trans HCU.out.2; clear hb_U; clear hSw; go_simp; try with_reducible rfl)
        try simp only [Act.put, tdy]
        refine timed_pure (i := 17) (v := ?_) rfl (by kernel_rfl) (by kernel_rfl) (by kernel_rfl) (fun _ _ _ h => h) (by kernel_rfl) (by kernel_rfl) ?_ ?_
        rotate_left
        ·(intro w; go_simp; try with_reducible rfl)
        try simp only [Act.put, tdy]
        refine timed_pure (i := 18) (v := ?_) rfl (by kernel_rfl) (by kernel_rfl) (by kernel_rfl) (fun _ _ _ h => h) (by kernel_rfl) (by kernel_rfl) ?_ ?_
        rotate_left
        ·(intro w; go_simp; try with_reducible rfl)
        try simp only [Act.put, tdy]
        refine timed_pure (i := 19) (v := ?_) rfl (by kernel_rfl) (by kernel_rfl) (by kernel_rfl) (fun _ _ _ h => h) (by kernel_rfl) (by kernel_rfl) ?_ ?_
        rotate_left
        ·(intro w; go_simp; try with_reducible rfl)
        try simp only [Act.put, tdy]
        refine timed_done (by kernel_rfl) ?_ _
        refine NoPanic.normal ?_
        have HN9 := Lib.hid (HO2.out.trans ((Only.refl [] w2).drew))
        have HV9 := Lib.hid (own_only HV2.out (Only.refl [] w2).drew (by simp))
        have HU9 := Lib.hid HU3.out.drew
        rw [← HBF.out] at HV9
        generalize w2.drew = w9 at *
        subst hgu
        go_wp2
        go_roundw
        case rel => exact ⟨j + 1, by go_num, by omega, by rw [HKE.out], HV9, HU9, HN9⟩
        case measure => simp [intOf]; omega
       ·have HBF : Hid (bdL (ops.take (j + 1)) = bdL (ops.take j) ++ [(j : Int)]) := Lib.hid (by rw [HBT.out, HBX.out]; simp [h2])
        have h3 : (yn == o2) = false := by simpa using h2
        subst h1
        have HU9 := Lib.hid HU2.out.drew
        go_upto_region 9 with (fail)
        clear lT t0
        refine wp_region_noPanic ?_
        refine wp_region_timed (F := [⟨[], [], fun w' => Only [] w2 w'⟩]) (by kernel_rfl) (timed_holds ((Only.refl [] w2).drew) (timed_nil)) ?_
        refine timed_pure (i := 0) (v := ?_) rfl (by kernel_rfl) (by kernel_rfl) (by kernel_rfl) (fun _ _ _ h => h) (by kernel_rfl) (by kernel_rfl) ?_ ?_
        rotate_left
        ·(intro w; go_simp; try with_reducible rfl)
        try simp only [Act.put, tdy]
        refine timed_pure (i := 1) (v := ?_) rfl (by kernel_rfl) (by kernel_rfl) (by kernel_rfl) (fun _ _ _ h => h) (by kernel_rfl) (by kernel_rfl) ?_ ?_
        rotate_left
        ·(intro w; go_simp; try with_reducible rfl)
        try simp only [Act.put, tdy]
        refine timed_read (i := 2) (v := ?_) 0 rfl (by kernel_rfl) (by kernel_rfl) (by kernel_rfl) (fun _ _ _ h => h) (by kernel_rfl) (by kernel_rfl) rfl (by kernel_rfl) ?_ ?_
        rotate_left
        ·(intro wq hSw; (try dsimp only at hSw); have hb_T := hSw.blk HT2.out (by simp); have lb_T := hb_T.lt; have t1 := hb_T.at_ 1; have t2 := hb_T.at_ 2; have t3 := hb_T.at_ 3; simp at t1 t2 t3; clear hb_T; have hb_U := hSw.blk HU2.out (by simp); have lU := hb_U.lt; have c1 := (hb_U.at_ (q * 2)).trans HCU.out.1; have c2 := (hb_U.at_ (q * 2 + 1)).trans HCU.out.2; clear hb_U; clear hSw; go_simp; try with_reducible rfl)
        try simp only [Act.put, tdy]
        refine timed_step (i := 3) (by kernel_rfl) rfl (fun K hK => ?_)
        go_simp
        refine (HHA.out _).mono ?_
        rintro e w3 ⟨rfl, rfl⟩
        refine hK.out _ _ (timed_holds ((Only.refl [] w2).drew) (timed_nil)) ?_
        clear hK K
        try simp only [Act.put, tdy]
        refine timed_pure (i := 4) (v := ?_) rfl (by kernel_rfl) (by kernel_rfl) (by kernel_rfl) (fun _ _ _ h => h) (by kernel_rfl) (by kernel_rfl) ?_ ?_
        rotate_left
        ·(intro w; go_simp; try with_reducible rfl)
        try simp only [Act.put, tdy]
        refine timed_pure (i := 5) (v := ?_) rfl (by kernel_rfl) (by kernel_rfl) (by kernel_rfl) (fun _ _ _ h => h) (by kernel_rfl) (by kernel_rfl) ?_ ?_
        rotate_left
        ·(intro w; go_simp; try with_reducible rfl)
        try simp only [Act.put, tdy]
        refine timed_pure (i := 6) (v := ?_) rfl (by kernel_rfl) (by kernel_rfl) (by kernel_rfl) (fun _ _ _ h => h) (by kernel_rfl) (by kernel_rfl) ?_ ?_
        rotate_left
        ·(intro w; go_simp; try with_reducible rfl)
        try simp only [Act.put, tdy]
        refine timed_read (i := 7) (v := ?_) 0 rfl (by kernel_rfl) (by kernel_rfl) (by kernel_rfl) (fun _ _ _ h => h) (by kernel_rfl) (by kernel_rfl) rfl (by kernel_rfl) ?_ ?_
        rotate_left
        ·(intro wq hSw; (try dsimp only at hSw); have hb_T := hSw.blk HT2.out (by simp); have lb_T := hb_T.lt; have t1 := hb_T.at_ 1; have t2 := hb_T.at_ 2; have t3 := hb_T.at_ 3; simp at t1 t2 t3; clear hb_T; have hb_U := hSw.blk HU2.out (by simp); have lU := hb_U.lt; have c1 := (hb_U.at_ (q * 2)).trans HCU.out.1; have c2 := (hb_U.at_ (q * 2 + 1)).trans HCU.out.2; clear hb_U; clear hSw; go_simp; try with_reducible rfl)
        try simp only [Act.put, tdy]
        refine timed_pure (i := 8) (v := ?_) rfl (by kernel_rfl) (by kernel_rfl) (by kernel_rfl) (fun _ _ _ h => h) (by kernel_rfl) (by kernel_rfl) ?_ ?_
        rotate_left
        ·(intro w; go_simp; try with_reducible rfl)
        try simp only [Act.put, tdy]
        refine timed_pure (i := 9) (v := ?_) rfl (by kernel_rfl) (by kernel_rfl) (by kernel_rfl) (fun _ _ _ h => h) (by kernel_rfl) (by kernel_rfl) ?_ ?_
        rotate_left
        ·(intro w; go_simp; try with_reducible rfl)
        try simp only [Act.put, tdy]
        refine timed_pure (i := 10) (v := ?_) rfl (by kernel_rfl) (by kernel_rfl) (by kernel_rfl) (fun _ _ _ h => h) (by kernel_rfl) (by kernel_rfl) ?_ ?_
        rotate_left
        ·(intro w; go_simp; try with_reducible rfl)
        try simp only [Act.put, tdy]
        refine timed_pure (i := 11) (v := ?_) rfl (by kernel_rfl) (by kernel_rfl) (by kernel_rfl) (fun _ _ _ h => h) (by kernel_rfl) (by kernel_rfl) ?_ ?_
        rotate_left
        ·(intro w; go_simp; try with_reducible rfl)
        try simp only [Act.put, tdy]
        refine timed_read (i := 12) (v := ?_) 0 rfl (by kernel_rfl) (by kernel_rfl) (by kernel_rfl) (fun _ _ _ h => h) (by kernel_rfl) (by kernel_rfl) rfl (by kernel_rfl) ?_ ?_
        rotate_left
        ·(intro wq hSw; (try dsimp only at hSw); have hb_T := hSw.blk HT2.out (by simp); have lb_T := hb_T.lt; have t1 := hb_T.at_ 1; have t2 := hb_T.at_ 2; have t3 := hb_T.at_ 3; simp at t1 t2 t3; clear hb_T; have hb_U := hSw.blk HU2.out (by simp); have lU := hb_U.lt; have c1 := (hb_U.at_ (q * 2)).trans HCU.out.1; have c2 := (hb_U.at_ (q * 2 + 1)).trans HCU.out.2; clear hb_U; clear hSw; go_simp; try with_reducible rfl)
        try simp only [Act.put, tdy]
        refine timed_pure (i := 13) (v := ?_) rfl (by kernel_rfl) (by kernel_rfl) (by kernel_rfl) (fun _ _ _ h => h) (by kernel_rfl) (by kernel_rfl) ?_ ?_
        rotate_left
        ·(intro w; go_simp; try with_reducible rfl)
        try simp only [Act.put, tdy]
        refine timed_read (i := 14) (v := ?_) 0 rfl (by kernel_rfl) (by kernel_rfl) (by kernel_rfl) (fun _ _ _ h => h) (by kernel_rfl) (by kernel_rfl) rfl (by kernel_rfl) ?_ ?_
        rotate_left
        ·(intro wq hSw; (try dsimp only at hSw); have hb_T := hSw.blk HT2.out (by simp); have lb_T := hb_T.lt; have t1 := hb_T.at_ 1; have t2 := hb_T.at_ 2; have t3 := hb_T.at_ 3; simp at t1 t2 t3; clear hb_T; have hb_U := hSw.blk HU2.out (by simp); have lU := hb_U.lt; have c1 := (hb_U.at_ (q * 2)).trans HCU.out.1; have c2 := (hb_U.at_ (q * 2 + 1)).trans HCU.out.2; clear hb_U; clear hSw; go_simp; try with_reducible rfl)
        try simp only [Act.put, tdy]
        refine timed_pure (i := 15) (v := ?_) rfl (by kernel_rfl) (by kernel_rfl) (by kernel_rfl) (fun _ _ _ h => h) (by kernel_rfl) (by kernel_rfl) ?_ ?_
        rotate_left
        ·(intro w; go_simp; try with_reducible rfl)
        try simp only [Act.put, tdy]
        refine timed_read (i := 16) (v := ?_) 0 rfl (by kernel_rfl) (by kernel_rfl) (by kernel_rfl) (fun _ _ _ h => h) (by kernel_rfl) (by kernel_rfl) rfl (by kernel_rfl) ?_ ?_
        rotate_left
        ·(intro wq hSw; (try dsimp only at hSw); have hb_T := hSw.blk HT2.out (by simp); have lb_T := hb_T.lt; have t1 := hb_T.at_ 1; have t2 := hb_T.at_ 2; have t3 := hb_T.at_ 3; simp at t1 t2 t3; clear hb_T; have hb_U := hSw.blk HU2.out (by simp); have lU := hb_U.lt; have c1 := (hb_U.at_ (q * 2)).trans HCU.out.1; have c2 := (hb_U.at_ (q * 2 + 1)).trans HCU.out.2; clear hb_U; clear hSw; go_simp; try with_reducible rfl)
        try simp only [Act.put, tdy]
        refine timed_pure (i := 17) (v := ?_) rfl (by kernel_rfl) (by kernel_rfl) (by kernel_rfl) (fun _ _ _ h => h) (by kernel_rfl) (by kernel_rfl) ?_ ?_
        rotate_left
        ·(intro w; go_simp; try with_reducible rfl)
        try simp only [Act.put, tdy]
        refine timed_pure (i := 18) (v := ?_) rfl (by kernel_rfl) (by kernel_rfl) (by kernel_rfl) (fun _ _ _ h => h) (by kernel_rfl) (by kernel_rfl) ?_ ?_
        rotate_left
        ·(intro w; go_simp; try with_reducible rfl)
        try simp only [Act.put, tdy]
        refine timed_pure (i := 19) (v := ?_) rfl (by kernel_rfl) (by kernel_rfl) (by kernel_rfl) (fun _ _ _ h => h) (by kernel_rfl) (by kernel_rfl) ?_ ?_
        rotate_left
        ·(intro w; go_simp; try with_reducible rfl)
        try simp only [Act.put, tdy]
        refine timed_done (by kernel_rfl) ?_ _
        refine NoPanic.normal ?_
        have HN9 := Lib.hid (HO2.out.trans ((Only.refl [] w2).drew))
        have HV9 := Lib.hid (own_only HV2.out (Only.refl [] w2).drew (by simp))
        have HU9 := Lib.hid HU3.out.drew
        generalize w2.drew = w9 at *
        subst hgu
        go_wp2_with (at_builtin; refine wpList_append_row _ rfl (.tmp 47) (.tmp 49) _ rfl (w.heap.size + 1) 3 i0 _ 1 8 Tryz.underlying37 hi hz0 hz1 hz2 rfl (by omega) _ _ _ rfl (own_only HV9.out ((Only.refl [] _).alloc _) (by simp)) (w9.heap.size + 1) (some ⟨w9.heap.size, 0, none⟩) 1 1 [.int .i64 (j : Int)] rfl rfl (row_lit w9 3 #[.int .i64 (j : Int)]) (by simp [Value.oneCell']) (by unfold maxLen; omega) (by omega) (by have := HU9.out.lt; simp; omega) ?_; intro v4 w4 hown4 hgrow hat)
        have HV4 : Hid (w4.ownsRow (w.heap.size + 1) 3 1 v4 (bdL (ops.take (j + 1))).length ((bdL (ops.take (j + 1))).map (Value.int .i64))) := Lib.hid (by rw [HBF.out]; simpa using hown4)
        have hgr : World.grownBy (w9.alloc (.cells #[.int .i64 (j : Int)] 3)) w4 u3.ownBlock := hgrow
        have HU4 := Lib.hid ((only_grown hgr).blk (HU9.out.alloc _) (fun hc => by have := (HV9.out.lt w.heap.size (by simpa using hc)).1; omega))
        have HO4 := Lib.hid ((HN9.out.alloc _).step (only_grown hgr) (fun i hi hl => by have := (HV9.out.lt i (by simpa using hi)).1; omega))
        clear hown4 hgrow hat hgr
        go_wp2
        go_roundw
        case rel => first | exact ⟨j + 1, by go_num, by omega, by rw [HKE.out], HV4, HU4, HO4⟩ | exact ⟨_, ⟨j + 1, by go_num, by omega, by rw [HKE.out], HV4, HU4, HO4⟩, rfl⟩
        case measure => simp [intOf]; omega
      ·have HBF : Hid (bdL (ops.take (j + 1)) = bdL (ops.take j) ++ [(j : Int)]) := Lib.hid (by rw [HBT.out, HBX.out]; simp [h1])
       have h3 : (yv == o1) = false := by simpa using h1
       have HU9 := Lib.hid HU2.out.drew
       go_upto_region 9 with (fail)
       clear lT t0
       refine wp_region_noPanic ?_
       refine wp_region_timed (F := [⟨[], [], fun w' => Only [] w2 w'⟩]) (by kernel_rfl) (timed_holds ((Only.refl [] w2).drew) (timed_nil)) ?_
       refine timed_pure (i := 0) (v := ?_) rfl (by kernel_rfl) (by kernel_rfl) (by kernel_rfl) (fun _ _ _ h => h) (by kernel_rfl) (by kernel_rfl) ?_ ?_
       rotate_left
       ·(intro w; go_simp; try with_reducible rfl)
       try simp only [Act.put, tdy]
       refine timed_pure (i := 1) (v := ?_) rfl (by kernel_rfl) (by kernel_rfl) (by kernel_rfl) (fun _ _ _ h => h) (by kernel_rfl) (by kernel_rfl) ?_ ?_
       rotate_left
       ·(intro w; go_simp; try with_reducible rfl)
       try simp only [Act.put, tdy]
       refine timed_read (i := 2) (v := ?_) 0 rfl (by kernel_rfl) (by kernel_rfl) (by kernel_rfl) (fun _ _ _ h => h) (by kernel_rfl) (by kernel_rfl) rfl (by kernel_rfl) ?_ ?_
       rotate_left
       ·(intro wq hSw; (try dsimp only at hSw); have hb_T := hSw.blk HT2.out (by simp); have lb_T := hb_T.lt; have t1 := hb_T.at_ 1; have t2 := hb_T.at_ 2; have t3 := hb_T.at_ 3; simp at t1 t2 t3; clear hb_T; have hb_U := hSw.blk HU2.out (by simp); have lU := hb_U.lt; have c1 := (hb_U.at_ (q * 2)).trans HCU.out.1; have c2 := (hb_U.at_ (q * 2 + 1)).trans HCU.out.2; clear hb_U; clear hSw; go_simp; try with_reducible rfl)
       try simp only [Act.put, tdy]
       refine timed_step (i := 3) (by kernel_rfl) rfl (fun K hK => ?_)
       go_simp
       refine (HHA.out _).mono ?_
       rintro e w3 ⟨rfl, rfl⟩
       refine hK.out _ _ (timed_holds ((Only.refl [] w2).drew) (timed_nil)) ?_
       clear hK K
       try simp only [Act.put, tdy]
       refine timed_pure (i := 4) (v := ?_) rfl (by kernel_rfl) (by kernel_rfl) (by kernel_rfl) (fun _ _ _ h => h) (by kernel_rfl) (by kernel_rfl) ?_ ?_
       rotate_left
       ·(intro w; go_simp; try with_reducible rfl)
       try simp only [Act.put, tdy]
       refine timed_pure (i := 5) (v := ?_) rfl (by kernel_rfl) (by kernel_rfl) (by kernel_rfl) (fun _ _ _ h => h) (by kernel_rfl) (by kernel_rfl) ?_ ?_
       rotate_left
       ·(intro w; go_simp; try with_reducible rfl)
       try simp only [Act.put, tdy]
       refine timed_pure (i := 6) (v := ?_) rfl (by kernel_rfl) (by kernel_rfl) (by kernel_rfl) (fun _ _ _ h => h) (by kernel_rfl) (by kernel_rfl) ?_ ?_
       rotate_left
       ·(intro w; go_simp; try with_reducible rfl)
       try simp only [Act.put, tdy]
       refine timed_read (i := 7) (v := ?_) 0 rfl (by kernel_rfl) (by kernel_rfl) (by kernel_rfl) (fun _ _ _ h => h) (by kernel_rfl) (by kernel_rfl) rfl (by kernel_rfl) ?_ ?_
       rotate_left
       ·(intro wq hSw; (try dsimp only at hSw); have hb_T := hSw.blk HT2.out (by simp); have lb_T := hb_T.lt; have t1 := hb_T.at_ 1; have t2 := hb_T.at_ 2; have t3 := hb_T.at_ 3; simp at t1 t2 t3; clear hb_T; have hb_U := hSw.blk HU2.out (by simp); have lU := hb_U.lt; have c1 := (hb_U.at_ (q * 2)).trans HCU.out.1; have c2 := (hb_U.at_ (q * 2 + 1)).trans HCU.out.2; clear hb_U; clear hSw; go_simp; try with_reducible rfl)
       try simp only [Act.put, tdy]
       refine timed_pure (i := 8) (v := ?_) rfl (by kernel_rfl) (by kernel_rfl) (by kernel_rfl) (fun _ _ _ h => h) (by kernel_rfl) (by kernel_rfl) ?_ ?_
       rotate_left
       ·(intro w; go_simp; try with_reducible rfl)
       try simp only [Act.put, tdy]
       refine timed_pure (i := 9) (v := ?_) rfl (by kernel_rfl) (by kernel_rfl) (by kernel_rfl) (fun _ _ _ h => h) (by kernel_rfl) (by kernel_rfl) ?_ ?_
       rotate_left
       ·(intro w; go_simp; try with_reducible rfl)
       try simp only [Act.put, tdy]
       refine timed_pure (i := 10) (v := ?_) rfl (by kernel_rfl) (by kernel_rfl) (by kernel_rfl) (fun _ _ _ h => h) (by kernel_rfl) (by kernel_rfl) ?_ ?_
       rotate_left
       ·(intro w; go_simp; try with_reducible rfl)
       try simp only [Act.put, tdy]
       refine timed_pure (i := 11) (v := ?_) rfl (by kernel_rfl) (by kernel_rfl) (by kernel_rfl) (fun _ _ _ h => h) (by kernel_rfl) (by kernel_rfl) ?_ ?_
       rotate_left
       ·(intro w; go_simp; try with_reducible rfl)
       try simp only [Act.put, tdy]
       refine timed_read (i := 12) (v := ?_) 0 rfl (by kernel_rfl) (by kernel_rfl) (by kernel_rfl) (fun _ _ _ h => h) (by kernel_rfl) (by kernel_rfl) rfl (by kernel_rfl) ?_ ?_
       rotate_left
       ·(intro wq hSw; (try dsimp only at hSw); have hb_T := hSw.blk HT2.out (by simp); have lb_T := hb_T.lt; have t1 := hb_T.at_ 1; have t2 := hb_T.at_ 2; have t3 := hb_T.at_ 3; simp at t1 t2 t3; clear hb_T; have hb_U := hSw.blk HU2.out (by simp); have lU := hb_U.lt; have c1 := (hb_U.at_ (q * 2)).trans HCU.out.1; have c2 := (hb_U.at_ (q * 2 + 1)).trans HCU.out.2; clear hb_U; clear hSw; go_simp; try with_reducible rfl)
       try simp only [Act.put, tdy]
       refine timed_pure (i := 13) (v := ?_) rfl (by kernel_rfl) (by kernel_rfl) (by kernel_rfl) (fun _ _ _ h => h) (by kernel_rfl) (by kernel_rfl) ?_ ?_
       rotate_left
       ·(intro w; go_simp; try with_reducible rfl)
       try simp only [Act.put, tdy]
       refine timed_read (i := 14) (v := ?_) 0 rfl (by kernel_rfl) (by kernel_rfl) (by kernel_rfl) (fun _ _ _ h => h) (by kernel_rfl) (by kernel_rfl) rfl (by kernel_rfl) ?_ ?_
       rotate_left
       ·(intro wq hSw; (try dsimp only at hSw); have hb_T := hSw.blk HT2.out (by simp); have lb_T := hb_T.lt; have t1 := hb_T.at_ 1; have t2 := hb_T.at_ 2; have t3 := hb_T.at_ 3; simp at t1 t2 t3; clear hb_T; have hb_U := hSw.blk HU2.out (by simp); have lU := hb_U.lt; have c1 := (hb_U.at_ (q * 2)).trans HCU.out.1; have c2 := (hb_U.at_ (q * 2 + 1)).trans HCU.out.2; clear hb_U; clear hSw; go_simp; try with_reducible rfl)
       try simp only [Act.put, tdy]
       refine timed_pure (i := 15) (v := ?_) rfl (by kernel_rfl) (by kernel_rfl) (by kernel_rfl) (fun _ _ _ h => h) (by kernel_rfl) (by kernel_rfl) ?_ ?_
       rotate_left
       ·(intro w; go_simp; try with_reducible rfl)
       try simp only [Act.put, tdy]
       refine timed_read (i := 16) (v := ?_) 0 rfl (by kernel_rfl) (by kernel_rfl) (by kernel_rfl) (fun _ _ _ h => h) (by kernel_rfl) (by kernel_rfl) rfl (by kernel_rfl) ?_ ?_
       rotate_left
       ·(intro wq hSw; (try dsimp only at hSw); have hb_T := hSw.blk HT2.out (by simp); have lb_T := hb_T.lt; have t1 := hb_T.at_ 1; have t2 := hb_T.at_ 2; have t3 := hb_T.at_ 3; simp at t1 t2 t3; clear hb_T; have hb_U := hSw.blk HU2.out (by simp); have lU := hb_U.lt; have c1 := (hb_U.at_ (q * 2)).trans HCU.out.1; have c2 := (hb_U.at_ (q * 2 + 1)).trans HCU.out.2; clear hb_U; clear hSw; go_simp; try with_reducible rfl)
       try simp only [Act.put, tdy]
       refine timed_pure (i := 17) (v := ?_) rfl (by kernel_rfl) (by kernel_rfl) (by kernel_rfl) (fun _ _ _ h => h) (by kernel_rfl) (by kernel_rfl) ?_ ?_
       rotate_left
       ·(intro w; go_simp; try with_reducible rfl)
       try simp only [Act.put, tdy]
       refine timed_pure (i := 18) (v := ?_) rfl (by kernel_rfl) (by kernel_rfl) (by kernel_rfl) (fun _ _ _ h => h) (by kernel_rfl) (by kernel_rfl) ?_ ?_
       rotate_left
       ·(intro w; go_simp; try with_reducible rfl)
       try simp only [Act.put, tdy]
       refine timed_pure (i := 19) (v := ?_) rfl (by kernel_rfl) (by kernel_rfl) (by kernel_rfl) (fun _ _ _ h => h) (by kernel_rfl) (by kernel_rfl) ?_ ?_
       rotate_left
       ·(intro w; go_simp; try with_reducible rfl)
       try simp only [Act.put, tdy]
       refine timed_done (by kernel_rfl) ?_ _
       refine NoPanic.normal ?_
       have HN9 := Lib.hid (HO2.out.trans ((Only.refl [] w2).drew))
       have HV9 := Lib.hid (own_only HV2.out (Only.refl [] w2).drew (by simp))
       have HU9 := Lib.hid HU3.out.drew
       generalize w2.drew = w9 at *
       subst hgu
       go_wp2_with (at_builtin; refine wpList_append_row _ rfl (.tmp 47) (.tmp 49) _ rfl (w.heap.size + 1) 3 i0 _ 1 8 Tryz.underlying37 hi hz0 hz1 hz2 rfl (by omega) _ _ _ rfl (own_only HV9.out ((Only.refl [] _).alloc _) (by simp)) (w9.heap.size + 1) (some ⟨w9.heap.size, 0, none⟩) 1 1 [.int .i64 (j : Int)] rfl rfl (row_lit w9 3 #[.int .i64 (j : Int)]) (by simp [Value.oneCell']) (by unfold maxLen; omega) (by omega) (by have := HU9.out.lt; simp; omega) ?_; intro v4 w4 hown4 hgrow hat)
       have HV4 : Hid (w4.ownsRow (w.heap.size + 1) 3 1 v4 (bdL (ops.take (j + 1))).length ((bdL (ops.take (j + 1))).map (Value.int .i64))) := Lib.hid (by rw [HBF.out]; simpa using hown4)
       have hgr : World.grownBy (w9.alloc (.cells #[.int .i64 (j : Int)] 3)) w4 u3.ownBlock := hgrow
       have HU4 := Lib.hid ((only_grown hgr).blk (HU9.out.alloc _) (fun hc => by have := (HV9.out.lt w.heap.size (by simpa using hc)).1; omega))
       have HO4 := Lib.hid ((HN9.out.alloc _).step (only_grown hgr) (fun i hi hl => by have := (HV9.out.lt i (by simpa using hi)).1; omega))
       clear hown4 hgrow hat hgr
       go_wp2
       go_roundw
       case rel => first | exact ⟨j + 1, by go_num, by omega, by rw [HKE.out], HV4, HU4, HO4⟩ | exact ⟨_, ⟨j + 1, by go_num, by omega, by rw [HKE.out], HV4, HU4, HO4⟩, rfl⟩
       case measure => simp [intOf]; omega
  ·have hjm : j = m := by omega
   subst hjm
   have hd2 : decide ((j : Int) < (j : Int)) = false := by simp
   have HVV : Hid (wr.ownsRow (w.heap.size + 1) 3 1 u3 (bdL ops).length ((bdL ops).map (Value.int .i64))) := Lib.hid (by
    have := hV.out
    rwa [List.take_of_length_le (by rw [HMM.out]; exact Nat.le_refl _)] at this)
   clear hV hU
   go_wp2
   go_ret
   obtain ⟨A', c', rfl, -, -, -, hR⟩ := own_row HVV.out
   exact ⟨_, _, ⟨rfl, hR⟩, hO.out⟩
end Go.Proofs.YtjhomlnlmpdklaaGreatDoor
