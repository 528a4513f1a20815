/- PairMany: the walk, kind 2. -/
import Derived.Test.YtojlaphklkomfaaDoorPairManyCardK42
import Derived.Test.YtojlaphklkomfaaDoorPairManyCardK43
import Derived.Test.YtojlaphklkomfaaDoorPairManyCardK44
set_option linter.unusedVariables false
set_option linter.unusedSimpArgs false
namespace Go.Proofs.YtojlaphklkomfaaDoor
open Go.RowKit
open Go.Lib hiding intOf
attribute [local go_sem ↓] Go.wp_at_zero Go.wp_at_succ

theorem len_x2 (n : Nat) : (evsN 2 n).length ≤ n * 3 := by
  unfold evsN
  induction n with
  | zero => simp
  | succ n ih =>
    rw [List.range_succ, List.flatMap_append, List.length_append]
    have : ((List.flatMap (stepX 2) [n])).length ≤ 3 := by
      simp only [List.flatMap_cons, List.flatMap_nil, List.append_nil]
      unfold stepX
      rw [if_pos rfl]; split <;> simp
    omega
theorem logC_app2 (l k : List Ev6) : logC (l ++ k) = logC l ++ logC k := by simp [logC]
theorem step_x2 (n : Nat) : evsN 2 (n + 1) = evsN 2 n ++ stepX 2 n := by
  unfold evsN
  rw [List.range_succ, List.flatMap_append]
  simp

set_option maxRecDepth 100000 in
set_option maxHeartbeats 16000000 in
theorem many_2 (a b : Int) (w : World) (ha : 0 ≤ a ∧ a ≤ 255) (hb : 0 ≤ b ∧ b ≤ 255) (r : Nat) (hq : a % 4 = 2) (hr : b % 3 = (r : Int)) (hT : UTabs w) (hV : Verbs w) :
    Calls Tryd.prog 5 #[.int .u8 a, .int .u8 b] w fun e w' => e = .returned (.bool true) ∧ Only [] w w' := by
  obtain ⟨ie, hie, he0, he1, he2⟩ := info_parts info_event
  have HW := Lib.hid (works10_any w hT hV)
  have hr3 : r < 3 := by omega
  have hwr : IntKind.i64.wrap (r : Int) = (r : Int) := IntWalk.i64_in _ (by omega)
  have hwr2 : IntKind.i64.wrap (19 + (r : Int)) = ((19 + r : Nat) : Int) := by rw [IntWalk.i64_in _ (by omega)]; omega
  obtain ⟨n, hn⟩ : ∃ n, n = 19 + r := ⟨_, rfl⟩
  have hg0 := good_case (q := 2) (r := r) (by omega) hr3
  rw [show mostX 2 - 1 + r = n from by rw [hn]; rfl] at hg0
  have HGD := Lib.hid hg0
  clear hg0
  have HNE := Lib.hid hn
  rw [← hn] at hwr2
  have hn41 : n ≤ 41 := by omega
  have HP := Lib.hid (fun A c l w' (O : Only [] w w') (hl : l.length ≤ 1000) hz hA => phist_any A l.length c l w' rfl (by omega) hA hz (hT.only O) (hV.only O))
  clear hn hT hV
  go_enter Tryd.func5, Tryd.ntmps5
  go_wp2_with fail
  refine (HW.out).mono ?_
  rintro e w1 ⟨rfl, O1⟩
  have HO1 := Lib.hid O1
  clear O1 HW
  go_upto_region 6 with (fail)
  have HO2 := Lib.hid ((HO1.out.alloc (.cells #[.int .i64 20, .int .i64 40, .int .i64 20, .int .i64 40] 3)).alloc (.cells #[] 44))
  have HV2 := Lib.hid (World.ownsRow_lit (w1.alloc (.cells #[.int .i64 20, .int .i64 40, .int .i64 20, .int .i64 40] 3)) (e := 44) (size := 6) #[] 0 (Nat.le_refl _) (by unfold maxLen; omega) rfl)
  simp only [World.size_alloc] at HV2
  have hlit : (⟨#[97, 98, 99, 100, 101, 102, 103, 104, 105, 106, 107, 108, 109, 110, 111, 112, 113, 114, 115, 116, 117, 118, 119, 120, 121, 122, 65, 66, 67, 68, 69, 70, 71, 72, 73, 74, 75, 76, 77, 78, 79, 80, 81, 82, 83, 84, 85, 86, 87, 88, 89, 90]⟩ : ByteArray) = nm52 := rfl
  rw [hlit]
  have hns : nm52.size = 52 := rfl
  clear hlit
  generalize hnm : nm52 = nm at *
  have HNM := Lib.hid hnm
  clear hnm
  generalize ((w1.alloc (.cells #[.int .i64 20, .int .i64 40, .int .i64 20, .int .i64 40] 3)).alloc (.cells #[] 44)) = w2 at *
  have HS := Lib.hid (fun i => step_x2 i)
  have HL := Lib.hid (fun i => len_x2 i)
  generalize hgv : w1.heap.size + 1 = gv at *
  have hgv2 : gv ≤ w2.heap.size := by
    have := (HV2.out.lt gv rfl).2
    omega
  have hwg : w.heap.size ≤ gv := by have := HO1.out.size; omega
  clear hgv
  go_wp2_with fail
  simp only [hq, hr]
  go_loopw [7, 8] (fun V iv wr => ∃ i : Nat, iv = .int .i64 i ∧ i ≤ n ∧ Hid (wr.ownsRow gv 44 6 V (evsN 2 i).length (logC (evsN 2 i))) ∧ Hid (Only [] w wr) ∧ gv ≤ wr.heap.size) (fun _ iv _ => n - (intOf iv).toNat)
  case atStart => exact ⟨0, rfl, by omega, HV2, HO2, hgv2⟩
  case round =>
    obtain ⟨i, rfl, hi, hV, hO, hg⟩ := hrel
    have hll := HL.out i
    by_cases hlt : i < n
    · have h01 : (i : Int) < (n : Int) := by omega
      have hi0 : (0 : Int) ≤ (i : Int) := Int.natCast_nonneg _
      have hwi : IntKind.i64.wrap ((i : Int) + 1) = (i : Int) + 1 := IntWalk.i64_in _ (by omega)
      have hi52 : i + 1 ≤ 52 := by omega
      have hSI := HS.out i
      by_cases h0 : i = 0
      · subst h0
        have hst : stepX 2 0 = [⟨1, ⟨#[115]⟩, ⟨#[]⟩, 0, 0, 0⟩] ++ [⟨2, ⟨#[115]⟩, ⟨#[120]⟩, 0, 0, 0⟩] := rfl
        rw [hst, ← List.append_assoc] at hSI
        have HSI := Lib.hid hSI
        clear hSI hst
        go_wp2_with (first | (at_builtin; refine wpList_append_row _ rfl (.tmp 53) (.tmp 56) _ rfl gv 44 ie _ 6 64 Tryd.underlying22 hie he0 he1 he2 rfl (by omega) _ _ _ rfl (own_only hV.out ((Only.refl [] _).alloc _) (by simp)) (wr.heap.size + 1) (some ⟨wr.heap.size, 0, none⟩) 1 1 [.int .i64 1, .string ⟨#[115]⟩, .string ⟨#[]⟩, .int .i64 0, .int .i64 0, .int .i64 0] rfl rfl (row_lit wr 44 #[.int .i64 1, .string ⟨#[115]⟩, .string ⟨#[]⟩, .int .i64 0, .int .i64 0, .int .i64 0]) (by simp [Value.oneCell']) (by unfold maxLen; omega) (by omega) (by first | omega | (rw [World.size_alloc]; omega) | (rw [World.size_alloc]; done) | (simp only [World.size_alloc]; omega) | (simp; omega) | simp) ?_; intro vw4 w4 hownw4 hgroww4 hatw4; obtain ⟨Aw4, cw4, ew4, -, -, -, -⟩ := own_row hownw4; subst ew4; have HNw4 := Lib.hid hownw4; have HOw4 : Hid (Only [] w w4) := Lib.hid ((hO.out.alloc _).step (only_grown hgroww4) (fun j hj hl => own_new hV.out (S := []) j hj (by omega))); (have hgw4 : gv ≤ w4.heap.size := by (have h1 := hgroww4.size; rw [World.size_alloc] at h1; omega)); clear hownw4 hgroww4 hatw4) | (at_builtin; refine wpList_append_row _ rfl (.tmp 58) (.tmp 62) _ rfl gv 44 ie _ 6 64 Tryd.underlying22 hie he0 he1 he2 rfl (by omega) _ _ _ rfl (own_only HNw4.out ((Only.refl [] _).alloc _) (by simp)) (w4.heap.size + 1) (some ⟨w4.heap.size, 0, none⟩) 1 1 [.int .i64 2, .string ⟨#[115]⟩, .string ⟨#[120]⟩, .int .i64 0, .int .i64 0, .int .i64 0] rfl rfl (row_lit w4 44 #[.int .i64 2, .string ⟨#[115]⟩, .string ⟨#[120]⟩, .int .i64 0, .int .i64 0, .int .i64 0]) (by simp [Value.oneCell']) (by unfold maxLen; omega) (by omega) (by first | omega | (rw [World.size_alloc]; omega) | (rw [World.size_alloc]; done) | (simp only [World.size_alloc]; omega) | (simp; omega) | simp) ?_; intro vw5 w5 hownw5 hgroww5 hatw5; obtain ⟨Aw5, cw5, ew5, -, -, -, -⟩ := own_row hownw5; subst ew5; have HNw5 := Lib.hid hownw5; have HOw5 : Hid (Only [] w w5) := Lib.hid ((HOw4.out.alloc _).step (only_grown hgroww5) (fun j hj hl => own_new HNw4.out (S := []) j hj (by omega))); (have hgw5 : gv ≤ w5.heap.size := by (have h1 := hgroww5.size; rw [World.size_alloc] at h1; omega)); clear hownw5 hgroww5 hatw5))
        go_roundw
        case rel => exact ⟨0 + 1, by go_num, by omega, Lib.hid (by rw [HSI.out, List.length_append, List.length_append, logC_app2, logC_app2]; exact HNw5.out), HOw5, hgw5⟩
        case measure => simp [intOf]; omega
      · have h1 : ((i : Int) == 0) = false := by simp; omega
        have hst : stepX 2 i = [⟨2, ⟨#[115]⟩, ⟨#[120]⟩, 0, 0, 0⟩] := by
          unfold stepX sName kName
          rw [if_pos rfl, if_neg h0]
          rfl
        rw [hst] at hSI
        have HSI := Lib.hid hSI
        clear hSI hst h0
        go_wp2_with (at_builtin; refine wpList_append_row _ rfl (.tmp 58) (.tmp 62) _ rfl gv 44 ie _ 6 64 Tryd.underlying22 hie he0 he1 he2 rfl (by omega) _ _ _ rfl (own_only hV.out ((Only.refl [] _).alloc _) (by simp)) (wr.heap.size + 1) (some ⟨wr.heap.size, 0, none⟩) 1 1 [.int .i64 2, .string ⟨#[115]⟩, .string ⟨#[120]⟩, .int .i64 0, .int .i64 0, .int .i64 0] rfl rfl (row_lit wr 44 #[.int .i64 2, .string ⟨#[115]⟩, .string ⟨#[120]⟩, .int .i64 0, .int .i64 0, .int .i64 0]) (by simp [Value.oneCell']) (by unfold maxLen; omega) (by omega) (by first | omega | (rw [World.size_alloc]; omega) | (rw [World.size_alloc]; done) | (simp only [World.size_alloc]; omega) | (simp; omega) | simp) ?_; intro vw4 w4 hownw4 hgroww4 hatw4; obtain ⟨Aw4, cw4, ew4, -, -, -, -⟩ := own_row hownw4; subst ew4; have HNw4 := Lib.hid hownw4; have HOw4 : Hid (Only [] w w4) := Lib.hid ((hO.out.alloc _).step (only_grown hgroww4) (fun j hj hl => own_new hV.out (S := []) j hj (by omega))); (have hgw4 : gv ≤ w4.heap.size := by (have h1 := hgroww4.size; rw [World.size_alloc] at h1; omega)); clear hownw4 hgroww4 hatw4)
        go_roundw
        case rel => exact ⟨i + 1, by go_num, by omega, Lib.hid (by rw [HSI.out, List.length_append, logC_app2]; exact HNw4.out), HOw4, hgw4⟩
        case measure => simp [intOf]; omega
    · have hin : i = n := by omega
      subst hin
      have hd : decide ((i : Int) < (i : Int)) = false := by simp
      obtain ⟨Ae, ce, hVe, -, -, -, -⟩ := own_row hV.out
      subst hVe
      have hev : evsA 2 i = evsN 2 i ++ [⟨6, ⟨#[115]⟩, ⟨#[]⟩, 0, 0, 0⟩] := by unfold evsA; rw [if_pos rfl]
      have HLE : Hid ((evsA 2 i).length = (evsN 2 i).length + 1) := Lib.hid (by rw [hev, List.length_append]; rfl)
      have HNX : Hid (∀ (w' : World) (A : Option Addr) (c : Nat), w'.ownsRow gv 44 6 (.slice A ((evsN 2 i).length + 1) c) ((evsN 2 i).length + 1) (logC (evsN 2 i) ++ [.int .i64 6, .string ⟨#[115]⟩, .string ⟨#[]⟩, .int .i64 0, .int .i64 0, .int .i64 0]) → Row w' w'.heap.size A (logC (evsA 2 i))) := Lib.hid (by
        intro w' A c h
        rw [hev, logC_app2]
        exact own_row_at5 h)
      have HZ := Lib.hid (a_small 2 i)
      have HPN := Lib.hid (@pair_none (evsA 2 i))
      clear HS HL HNE HNM hev
      generalize evsA 2 i = evl at *
      generalize evsN 2 i = evn at *
      go_wp2_with (at_builtin; refine wpList_append_row _ rfl (.tmp 77) (.tmp 79) _ rfl gv 44 ie _ 6 64 Tryd.underlying22 hie he0 he1 he2 rfl (by omega) _ _ _ rfl (own_only hV.out ((Only.refl [] _).alloc _) (by simp)) (wr.heap.size + 1) (some ⟨wr.heap.size, 0, none⟩) 1 1 [.int .i64 6, .string ⟨#[115]⟩, .string ⟨#[]⟩, .int .i64 0, .int .i64 0, .int .i64 0] rfl rfl (row_lit wr 44 #[.int .i64 6, .string ⟨#[115]⟩, .string ⟨#[]⟩, .int .i64 0, .int .i64 0, .int .i64 0]) (by simp [Value.oneCell']) (by unfold maxLen; omega) (by omega) (by first | omega | (rw [World.size_alloc]; omega) | (rw [World.size_alloc]; done) | (simp only [World.size_alloc]; omega) | (simp; omega) | simp) ?_; intro vw4 w4 hownw4 hgroww4 hatw4; obtain ⟨Aw4, cw4, ew4, -, -, -, -⟩ := own_row hownw4; subst ew4; have HNw4 := Lib.hid hownw4; have HOw4 : Hid (Only [] w w4) := Lib.hid ((hO.out.alloc _).step (only_grown hgroww4) (fun j hj hl => own_new hV.out (S := []) j hj (by omega))); (have hgw4 : gv ≤ w4.heap.size := by (have h1 := hgroww4.size; rw [World.size_alloc] at h1; omega)); clear hownw4 hgroww4 hatw4)
      have hpc := HP.out Aw4 cw4 evl w4 HOw4.out (by have := HLE.out; omega) HZ.out (HNX.out _ _ _ HNw4.out)
      rw [HLE.out] at hpc
      refine hpc.mono ?_
      rintro e w3 ⟨B0, B1, B2, d0, d1, d2, ⟨rfl, -⟩, O3⟩
      have HO3 : Hid (Only [] w w3) := Lib.hid (HOw4.out.trans O3)
      clear O3 hll hpc
      rcases HGD.out with ⟨rfl, he⟩ | ⟨hr2, he, hpos⟩
      · have hl0 := HPN.out (by rw [he]; decide)
        rw [he, hl0]
        clear he hl0
        go_wp2
        go_ret
        exact ⟨rfl, HO3.out.alloc _⟩
      · rw [he]
        have HP1 := Lib.hid (decide_eq_true hpos)
        have hr22 : ((r : Int) == 2) = false := by simp; omega
        clear he hpos
        go_wp2
        go_ret
        refine ⟨?_, HO3.out.alloc _⟩
        show Ending.returned (.bool (decide (0 < (pairH evl).l.length))) = _
        rw [HP1.out]
end Go.Proofs.YtojlaphklkomfaaDoor
