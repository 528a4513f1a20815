/- TrailMany: just as many cells and levels are taken as the document says; a trail that is none takes nothing. -/
import Derived.Test.YtggpbgbnefgebabTrailD
set_option linter.unusedVariables false
set_option linter.unusedSimpArgs false
namespace Go.Proofs.Ytggpbgbnefgebab
open Go.RowKit

set_option maxHeartbeats 400000 in
theorem tset_form (p : Option Addr) (c v : Int) (w : World) (hc : Calls Try.prog 32 #[.pointer p] w fun e w' => e = .returned (.bool false) ∧ w = w') :
    Calls Try.prog 11 #[.pointer p, .int .i64 c, .int .i64 v] w fun e w' => e = .returned (.int .i64 4) ∧ w = w' := by
  have HC := Lib.hid hc
  clear hc
  go_enter Try.func11, Try.ntmps11
  go_wp2_with (go_at_call 32; refine (HC.out).mono ?_; rintro e w1 ⟨rfl, rfl⟩)
  go_ret
  exact ⟨rfl, rfl⟩

set_option maxHeartbeats 400000 in
theorem tall_no (p : Option Addr) (w : World) (hc : Calls Try.prog 32 #[.pointer p] w fun e w' => e = .returned (.bool false) ∧ w = w') :
    Calls Try.prog 22 #[.pointer p] w fun e w' => e = .returned (.slice none 0 0) ∧ w = w' := by
  have HC := Lib.hid hc
  clear hc
  go_enter Try.func22, Try.ntmps22
  go_wp2_with (go_at_call 32; refine (HC.out).mono ?_; rintro e w1 ⟨rfl, rfl⟩)
  go_ret
  exact ⟨rfl, rfl⟩

set_option maxHeartbeats 1000000 in
/-- The chapter's example. -/
theorem tworks (w : World) :
    Calls Try.prog 23 #[] w fun e w' => e = .returned (.bool true) ∧ Only [] w w' := by
  go_enter Try.func23, Try.ntmps23
  go_wp2_with fail
  refine (tnew_ok 1 _ (by omega)).mono ?_
  rintro e w1 ⟨rfl, T1, O1⟩
  go_wp2_with fail
  refine (tset_any _ 0 1 _ _ _ _ T1 (by simp)).mono ?_
  rintro e w2 ⟨rfl, T2, O2⟩
  simp only [show stE (List.replicate 1 0) 0 = 0 from by decide, show stL (List.replicate 1 0) 0 1 = [1] from by decide] at T2 ⊢
  go_wp2_with fail
  refine (tbegin_any _ _ _ _ _ T2 (by simp) (by simp)).mono ?_
  rintro e w3 ⟨rfl, fp3, T3, O3, hf3⟩
  go_wp2_with fail
  refine (tset_any _ 0 2 _ _ _ _ T3 (by simp)).mono ?_
  rintro e w4 ⟨rfl, T4, O4⟩
  simp only [show stE [1] 0 = 0 from by decide, show stL [1] 0 2 = [2] from by decide] at T4 ⊢
  go_wp2_with fail
  refine (tundo_any _ _ [] [1] _ _ T4 (by simp)).mono ?_
  rintro e w5 ⟨rfl, T5, -, O5⟩
  go_wp2_with fail
  refine (tget_any _ 0 _ _ _ _ T5 (by simp)).mono ?_
  rintro e w6 ⟨rfl, rfl⟩
  simp only [show gtV [1] 0 = 1 from by decide]
  go_wp2_with fail
  refine (tlevel_any _ _ _ _ _ T5).mono ?_
  rintro e w6 ⟨rfl, rfl⟩
  go_wp2
  go_ret
  have s1 := O1.size
  have s2 := O2.size
  have hs : ∀ i ∈ [w.heap.size, w.heap.size + 1], i < w.heap.size → i ∈ ([] : List Nat) := fun i hi hl => by simp at hi; omega
  have hs3 : ∀ i ∈ fp3, i < w.heap.size → i ∈ ([] : List Nat) := fun i hi hl => by
    rcases hf3 i hi with h | h
    · simp at h; omega
    · omega
  exact ⟨rfl, (((O1.step O2 hs).step O3 hs).step O4 hs3).step O5 hs3⟩

set_option maxRecDepth 100000 in
set_option maxHeartbeats 2000000 in
theorem trailMany_walk (cells v : Int) (w : World) (h1 : -9223372036854775808 ≤ cells) (h2 : cells ≤ 9223372036854775807) :
    Calls Try.prog 5 #[.int .i64 cells, .int .i64 v] w fun e w' => e = .returned (.bool true) ∧ Only [] w w' := by
  have HN := Lib.hid (fun w1 => tis_nil w1)
  have hcases : (cells < 0 ∨ 1000 < cells) ∨ ∃ n : Nat, cells = (n : Int) ∧ n ≤ 1000 := by
    by_cases h : cells < 0 ∨ 1000 < cells
    · exact .inl h
    · obtain ⟨n, rfl⟩ := Int.eq_ofNat_of_zero_le (show 0 ≤ cells by omega)
      exact .inr ⟨n, rfl, by omega⟩
  have HCA := Lib.hid hcases
  clear hcases
  go_enter Try.func5, Try.ntmps5
  go_wp2_with fail
  refine (tset_form none cells v _ (HN.out _)).mono ?_
  rintro e w1 ⟨rfl, rfl⟩
  have B0 : Blk (w.alloc (.cells #[.bool false, .slice none 0 0, .slice none 0 0] 46)) w.heap.size 46 _ := Blk.made _ _ _
  have O0 : Only [] w (w.alloc (.cells #[.bool false, .slice none 0 0, .slice none 0 0] 46)) := (Only.refl _ _).alloc _
  generalize w.alloc (.cells #[.bool false, .slice none 0 0, .slice none 0 0] 46) = wa at *
  have HE := Lib.hid (tis_some w.heap.size false wa (B0.at_ 0))
  go_wp2_with fail
  refine (tset_form _ cells v _ HE.out).mono ?_
  rintro e w1 ⟨rfl, rfl⟩
  go_wp2_with fail
  refine (tbegin_form none _ (HN.out _)).mono ?_
  rintro e w1 ⟨rfl, rfl⟩
  go_wp2_with fail
  refine (tundo_none _ 4 _ (tlevel_no _ _ HE.out) (tkeep_form _ _ HE.out)).mono ?_
  rintro e w1 ⟨rfl, rfl⟩
  go_wp2_with fail
  refine (tkeep_form none _ (HN.out _)).mono ?_
  rintro e w1 ⟨rfl, rfl⟩
  go_wp2_with fail
  refine (tget_no none cells _ (tcell_no _ _ _ (HN.out _))).mono ?_
  rintro e w1 ⟨rfl, rfl⟩
  go_wp2_with fail
  refine (tget_no _ cells _ (tcell_no _ _ _ HE.out)).mono ?_
  rintro e w1 ⟨rfl, rfl⟩
  go_wp2_with fail
  refine (tlevel_no none _ (HN.out _)).mono ?_
  rintro e w1 ⟨rfl, rfl⟩
  go_wp2_with fail
  refine (tall_no none _ (HN.out _)).mono ?_
  rintro e w1 ⟨rfl, rfl⟩
  go_wp2_with fail
  refine (tall_no _ _ HE.out).mono ?_
  rintro e w1 ⟨rfl, rfl⟩
  go_wp2_with fail
  rcases HCA.out with hout | ⟨n, rfl, hn⟩
  · refine (tnew_no cells _ hout).mono ?_
    rintro e w1 ⟨rfl, rfl⟩
    by_cases h0 : cells < 0
    · clear hout HCA
      go_wp2_with fail
      refine (tworks _).mono ?_
      rintro e w2 ⟨rfl, O2⟩
      go_wp2
      go_ret
      exact ⟨rfl, O0.trans O2⟩
    · have h3 : 1000 < cells := by omega
      have h4 : 0 ≤ cells := by omega
      clear hout HCA h0
      go_wp2_with fail
      refine (tworks _).mono ?_
      rintro e w2 ⟨rfl, O2⟩
      go_wp2
      go_ret
      exact ⟨rfl, O0.trans O2⟩
  · clear HCA
    refine (tnew_ok n _ hn).mono ?_
    rintro e wb ⟨rfl, T1, O1⟩
    have hn0 : (0 : Int) ≤ (n : Int) := Int.natCast_nonneg _
    have hn1 : (n : Int) ≤ 1000 := by omega
    have hrl : (List.replicate n (0 : Int)).length = n := by simp
    have HRL := Lib.hid hrl
    have TA := Lib.hid (tall_any _ _ _ _ _ T1 (by simpa using hn))
    rw [hrl] at TA
    clear hrl
    go_wp2_with fail
    refine (TA.out).mono ?_
    rintro e wc ⟨rfl, -, O2⟩
    have T2 := T1.only O2 (by simp)
    go_wp2_with fail
    refine (tworks _).mono ?_
    rintro e wd ⟨rfl, O3⟩
    have T3 := T2.only O3 (by simp)
    have O4 : Only [] w wd := ((O0.trans O1).trans O2).trans O3
    have hfp : ∀ b ∈ [wa.heap.size, wa.heap.size + 1], w.heap.size ≤ b := fun b hb => by have := O0.size; simp at hb; omega
    clear T1 T2 TA O0 O1 O2 O3
    go_wp2_with fail
    go_loopw [9] (fun i wr => ∃ (k : Nat) (saved : List (List Int)) (fp : List Nat), i = .int .i64 k ∧ k ≤ 1000 ∧ Hid (saved.length = k) ∧ Tr wr (wa.heap.size + 1) (List.replicate n 0) saved fp ∧ Only [] w wr ∧ (∀ b ∈ fp, w.heap.size ≤ b))
      (fun i _ => 1000 - (intOf i).toNat)
    case atStart => exact ⟨0, [], _, rfl, by omega, rfl, T3, O4, hfp⟩
    case round =>
      obtain ⟨k, saved, fp, rfl, hk, hsl, T, O, hf⟩ := hrel
      by_cases hlt : k < 1000
      · have TB := Lib.hid (tbegin_any _ _ _ _ _ T (by simpa using hn) (by rw [hsl.out]; exact hlt))
        go_wp2_with fail
        refine (TB.out).mono ?_
        rintro e we ⟨rfl, fp', T', O', hf'⟩
        go_wp2
        go_roundw
        case rel =>
          refine ⟨k + 1, _, fp', by go_num, by omega, (by have := hsl.out; show (saved ++ [List.replicate n 0]).length = k + 1; simp [this]), T', O.step O' (fun i hi hl => by have := hf i hi; omega), fun b hb => ?_⟩
          rcases hf' b hb with h | h
          · exact hf b h
          · have := O.size; omega
        case measure => simp [intOf]; omega
      · have hk' : k = 1000 := by omega
        have TB := Lib.hid (tbegin_all _ _ _ _ _ T (by simpa using hn) (by rw [hsl.out]; exact hk'))
        have hge : 1000 ≤ k := by omega
        have hd : decide ((k : Int) < 1000) = false := by simp; omega
        have TL := Lib.hid (tlevel_any _ _ _ _ _ T)
        rw [hsl.out, hk'] at TL
        clear hk' hlt
        go_wp2_with fail
        refine (TB.out).mono ?_
        rintro e we ⟨rfl, rfl⟩
        go_wp2_with fail
        refine (TL.out).mono ?_
        rintro e we ⟨rfl, rfl⟩
        go_wp2
        go_ret
        exact ⟨rfl, O⟩

end Go.Proofs.Ytggpbgbnefgebab
