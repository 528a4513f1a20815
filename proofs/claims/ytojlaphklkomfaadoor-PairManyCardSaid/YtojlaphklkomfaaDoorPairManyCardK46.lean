/- PairMany: the walk, kind 1. -/
import Derived.Test.YtojlaphklkomfaaDoorPairManyCardK42
import Derived.Test.YtojlaphklkomfaaDoorPairManyCardK43
import Derived.Test.YtojlaphklkomfaaDoorPairManyCardK44
set_option linter.unusedVariables false
set_option linter.unusedSimpArgs false
namespace Go.Proofs.YtojlaphklkomfaaDoor
open Go.RowKit
open Go.Lib hiding intOf
attribute [local go_sem ↓] Go.wp_at_zero Go.wp_at_succ

theorem len_x1 (n : Nat) : (evsN 1 n).length ≤ n * 3 := by
  unfold evsN
  induction n with
  | zero => simp
  | succ n ih =>
    rw [List.range_succ, List.flatMap_append, List.length_append]
    have : ((List.flatMap (stepX 1) [n])).length ≤ 3 := by
      simp only [List.flatMap_cons, List.flatMap_nil, List.append_nil]
      unfold stepX
      rw [if_neg (by decide)]; simp
    omega
theorem logC_app1 (l k : List Ev6) : logC (l ++ k) = logC l ++ logC k := by simp [logC]
theorem step_x1 (n : Nat) : evsN 1 (n + 1) = evsN 1 n ++ stepX 1 n := by
  unfold evsN
  rw [List.range_succ, List.flatMap_append]
  simp

set_option maxRecDepth 100000 in
set_option maxHeartbeats 16000000 in
theorem many_1 (a b : Int) (w : World) (ha : 0 ≤ a ∧ a ≤ 255) (hb : 0 ≤ b ∧ b ≤ 255) (r : Nat) (hq : a % 4 = 1) (hr : b % 3 = (r : Int)) (hT : UTabs w) (hV : Verbs w) :
    Calls Tryd.prog 5 #[.int .u8 a, .int .u8 b] w fun e w' => e = .returned (.bool true) ∧ Only [] w w' := by
  obtain ⟨ie, hie, he0, he1, he2⟩ := info_parts info_event
  have HW := Lib.hid (works10_any w hT hV)
  have hr3 : r < 3 := by omega
  have hwr : IntKind.i64.wrap (r : Int) = (r : Int) := IntWalk.i64_in _ (by omega)
  have hwr2 : IntKind.i64.wrap (39 + (r : Int)) = ((39 + r : Nat) : Int) := by rw [IntWalk.i64_in _ (by omega)]; omega
  obtain ⟨n, hn⟩ : ∃ n, n = 39 + r := ⟨_, rfl⟩
  have hg0 := good_case (q := 1) (r := r) (by omega) hr3
  rw [show mostX 1 - 1 + r = n from by rw [hn]; rfl] at hg0
  have HGD := Lib.hid hg0
  clear hg0
  have HNE := Lib.hid hn
  rw [← hn] at hwr2
  have hn41 : n ≤ 41 := by omega
  have HP := Lib.hid (fun A c l w' (O : Only [] w w') (hl : l.length ≤ 1000) hz hA => phist_any A l.length c l w' rfl (by omega) hA hz (hT.only O) (hV.only O))
  clear hn hT hV
  go_enter Tryd.func5, Tryd.ntmps5
  go_wp2_with fail
  refine (HW.out).mono ?_
  rintro e w1 ⟨rfl, O1⟩
  have HO1 := Lib.hid O1
  clear O1 HW
  go_upto_region 6 with (fail)
  have HO2 := Lib.hid ((HO1.out.alloc (.cells #[.int .i64 20, .int .i64 40, .int .i64 20, .int .i64 40] 3)).alloc (.cells #[] 44))
  have HV2 := Lib.hid (World.ownsRow_lit (w1.alloc (.cells #[.int .i64 20, .int .i64 40, .int .i64 20, .int .i64 40] 3)) (e := 44) (size := 6) #[] 0 (Nat.le_refl _) (by unfold maxLen; omega) rfl)
  simp only [World.size_alloc] at HV2
  have hlit : (⟨#[97, 98, 99, 100, 101, 102, 103, 104, 105, 106, 107, 108, 109, 110, 111, 112, 113, 114, 115, 116, 117, 118, 119, 120, 121, 122, 65, 66, 67, 68, 69, 70, 71, 72, 73, 74, 75, 76, 77, 78, 79, 80, 81, 82, 83, 84, 85, 86, 87, 88, 89, 90]⟩ : ByteArray) = nm52 := rfl
  rw [hlit]
  have hns : nm52.size = 52 := rfl
  clear hlit
  generalize hnm : nm52 = nm at *
  have HNM := Lib.hid hnm
  clear hnm
  generalize ((w1.alloc (.cells #[.int .i64 20, .int .i64 40, .int .i64 20, .int .i64 40] 3)).alloc (.cells #[] 44)) = w2 at *
  have HS := Lib.hid (fun i => step_x1 i)
  have HL := Lib.hid (fun i => len_x1 i)
  generalize hgv : w1.heap.size + 1 = gv at *
  have hgv2 : gv ≤ w2.heap.size := by
    have := (HV2.out.lt gv rfl).2
    omega
  have hwg : w.heap.size ≤ gv := by have := HO1.out.size; omega
  clear hgv
  go_wp2_with fail
  simp only [hq, hr]
  go_loopw [7, 8] (fun V iv wr => ∃ i : Nat, iv = .int .i64 i ∧ i ≤ n ∧ Hid (wr.ownsRow gv 44 6 V (evsN 1 i).length (logC (evsN 1 i))) ∧ Hid (Only [] w wr) ∧ gv ≤ wr.heap.size) (fun _ iv _ => n - (intOf iv).toNat)
  case atStart => exact ⟨0, rfl, by omega, HV2, HO2, hgv2⟩
  case round =>
    obtain ⟨i, rfl, hi, hV, hO, hg⟩ := hrel
    have hll := HL.out i
    by_cases hlt : i < n
    · have h01 : (i : Int) < (n : Int) := by omega
      have hi0 : (0 : Int) ≤ (i : Int) := Int.natCast_nonneg _
      have hwi : IntKind.i64.wrap ((i : Int) + 1) = (i : Int) + 1 := IntWalk.i64_in _ (by omega)
      have hi52 : i + 1 ≤ 52 := by omega
      have hSI := HS.out i
      have hst : stepX 1 i = [⟨1, ⟨#[115]⟩, ⟨#[]⟩, 0, 0, 0⟩, ⟨2, ⟨#[115]⟩, ⟨#[120]⟩, 0, 0, 0⟩, ⟨4, ⟨#[115]⟩, ⟨#[]⟩, 0, 0, 0⟩] := by
        unfold stepX sName kName
        rw [HNM.out]
        rfl
      rw [hst] at hSI
      have HSI := Lib.hid hSI
      clear hSI hst
      go_wp2_with (at_builtin; refine wpList_append_row _ rfl (.tmp 64) (.tmp 72) _ rfl gv 44 ie _ 6 64 Tryd.underlying22 hie he0 he1 he2 rfl (by omega) _ _ _ rfl (own_only hV.out ((Only.refl [] _).alloc _) (by simp)) (wr.heap.size + 1) (some ⟨wr.heap.size, 0, none⟩) 3 3 [.int .i64 1, .string ⟨#[115]⟩, .string ⟨#[]⟩, .int .i64 0, .int .i64 0, .int .i64 0, .int .i64 2, .string ⟨#[115]⟩, .string ⟨#[120]⟩, .int .i64 0, .int .i64 0, .int .i64 0, .int .i64 4, .string ⟨#[115]⟩, .string ⟨#[]⟩, .int .i64 0, .int .i64 0, .int .i64 0] rfl rfl (row_lit wr 44 #[.int .i64 1, .string ⟨#[115]⟩, .string ⟨#[]⟩, .int .i64 0, .int .i64 0, .int .i64 0, .int .i64 2, .string ⟨#[115]⟩, .string ⟨#[120]⟩, .int .i64 0, .int .i64 0, .int .i64 0, .int .i64 4, .string ⟨#[115]⟩, .string ⟨#[]⟩, .int .i64 0, .int .i64 0, .int .i64 0]) (by simp [Value.oneCell']) (by unfold maxLen; omega) (by omega) (by first | omega | (rw [World.size_alloc]; omega) | (rw [World.size_alloc]; done) | (simp only [World.size_alloc]; omega) | (simp; omega) | simp) ?_; intro vw4 w4 hownw4 hgroww4 hatw4; obtain ⟨Aw4, cw4, ew4, -, -, -, -⟩ := own_row hownw4; subst ew4; have HNw4 := Lib.hid hownw4; have HOw4 : Hid (Only [] w w4) := Lib.hid ((hO.out.alloc _).step (only_grown hgroww4) (fun j hj hl => own_new hV.out (S := []) j hj (by omega))); (have hgw4 : gv ≤ w4.heap.size := by (have h1 := hgroww4.size; rw [World.size_alloc] at h1; omega)); clear hownw4 hgroww4 hatw4)
      go_roundw
      case rel => exact ⟨i + 1, by go_num, by omega, Lib.hid (by rw [HSI.out, List.length_append, logC_app1]; exact HNw4.out), HOw4, hgw4⟩
      case measure => simp [intOf]; omega
    · have hin : i = n := by omega
      subst hin
      have hd : decide ((i : Int) < (i : Int)) = false := by simp
      obtain ⟨Ae, ce, hVe, -, -, -, -⟩ := own_row hV.out
      subst hVe
      have HRE := Lib.hid (own_row_at5 hV.out)
      have hev : evsA 1 i = evsN 1 i := by unfold evsA; rw [if_neg (by decide)]
      rw [hev] at HGD
      have HZ := Lib.hid (x_small 1 i)
      have HPN := Lib.hid (@pair_none (evsN 1 i))
      have HLL := Lib.hid hll
      clear hV hll HS HL HNE HNM hev
      generalize evsN 1 i = evl at *
      have hll := HLL.out
      go_wp2_with fail
      refine (HP.out Ae ce evl wr hO.out (by omega) HZ.out HRE.out).mono ?_
      rintro e w3 ⟨B0, B1, B2, d0, d1, d2, ⟨rfl, -⟩, O3⟩
      have HO3 : Hid (Only [] w w3) := Lib.hid (hO.out.trans O3)
      clear O3 hll
      rcases HGD.out with ⟨rfl, he⟩ | ⟨hr2, he, hpos⟩
      · have hl0 := HPN.out (by rw [he]; decide)
        rw [he, hl0]
        clear he hl0
        go_wp2
        go_ret
        exact ⟨rfl, HO3.out.alloc _⟩
      · rw [he]
        have HP1 := Lib.hid (decide_eq_true hpos)
        have hr22 : ((r : Int) == 2) = false := by simp; omega
        clear he hpos
        go_wp2
        go_ret
        refine ⟨?_, HO3.out.alloc _⟩
        show Ending.returned (.bool (decide (0 < (pairH evl).l.length))) = _
        rw [HP1.out]
end Go.Proofs.YtojlaphklkomfaaDoor
