/- Parts. -/
import Derived.Test.YtgimobilcdkmpaaDoorBitsPlaysCardK22
set_option maxRecDepth 10000
set_option maxHeartbeats 16000000
set_option linter.unusedVariables false
set_option linter.unusedSimpArgs false
namespace Go.Proofs.YtgimobilcdkmpaaDoor
open Go.RowKit
attribute [local go_sem ↓] Go.wp_at_zero Go.wp_at_succ
def joinK (K K' : List Int) (i : Nat) : List Int := K ++ K'.filter fun z => decide (z < (i : Int))
def moreK (K K' : List Int) (i : Nat) : Bool := (List.range i).any fun j : Nat => decide ((j : Int) ∈ K') && !decide ((j : Int) ∈ K)
theorem moreK_succ (K K' : List Int) (i : Nat) : moreK K K' (i + 1) = (moreK K K' i || (decide ((i : Int) ∈ K') && !decide ((i : Int) ∈ K))) := by
 unfold moreK;rw [List.range_succ, List.any_append];simp
theorem joinK_mem (K K' : List Int) (i j : Nat) : decide ((j : Int) ∈ joinK K K' i) = (decide ((j : Int) ∈ K) || (decide ((j : Int) ∈ K') && decide (j < i))) := by
 unfold joinK;rw [Bool.eq_iff_iff];simp [List.mem_append, List.mem_filter]
theorem joinK_at (K K' : List Int) (i : Nat) (hi : i < 500) : (markC 500 (joinK K K' i))[i]? = some (.bool (decide ((i : Int) ∈ K))) := by
 rw [markC_at _ _ _ hi, joinK_mem, decide_eq_false (by omega : ¬ i < i), Bool.and_false, Bool.or_false]
theorem joinK_succ (K K' : List Int) (i : Nat) (hi : i < 500) : markC 500 (joinK K K' (i + 1)) = (markC 500 (joinK K K' i)).setIfInBounds i (.bool (decide ((i : Int) ∈ K) || decide ((i : Int) ∈ K'))) := by
 apply Array.ext_getElem?
 intro j
 by_cases hj : j < 500
 ·rw [markC_at _ _ _ hj, Array.getElem?_setIfInBounds, joinK_mem]
  by_cases hij : i = j
  ·subst hij;rw [if_pos rfl, if_pos (by rw [markC_size]; exact hi), decide_eq_true (by omega : i < i + 1), Bool.and_true]
  ·rw [if_neg hij, markC_at _ _ _ hj, joinK_mem]
   by_cases h : j < i
   ·rw [decide_eq_true h, decide_eq_true (by omega : j < i + 1)]
   ·rw [decide_eq_false h, decide_eq_false (by omega : ¬ j < i + 1)]
 ·rw [Array.getElem?_eq_none (by rw [markC_size]; omega), Array.getElem?_eq_none (by simp [markC_size]; omega)]
theorem joinK_zero (K K' : List Int) : markC 500 (joinK K K' 0) = markC 500 K := by
 apply Array.ext_getElem?
 intro j
 by_cases hj : j < 500
 ·rw [markC_at _ _ _ hj, markC_at _ _ _ hj, joinK_mem, decide_eq_false (by omega : ¬ j < 0), Bool.and_false, Bool.or_false]
 ·rw [Array.getElem?_eq_none (by rw [markC_size]; omega), Array.getElem?_eq_none (by rw [markC_size]; omega)]
theorem rjoin18_any (K K' : List Int) (w : World) : Calls Tryd.prog 15 #[.agg (markC 500 K), .agg (markC 500 K')] w fun e w' => e = .returned (.tuple #[.agg (markC 500 (joinK K K' 500)), .bool (moreK K K' 500)]) ∧ Only [] w w' := by
 have hal := zero18;go_enter Tryd.func15, Tryd.ntmps15;go_upto_region 1 with (fail)
 clear hal;have hB1 := ((Blk.made w 29 (markC 500 K)).alloc (.cells (markC 500 K') 29)).alloc (.cells (markC 500 []) 29);have hB2 := (Blk.made (w.alloc (.cells (markC 500 K) 29)) 29 (markC 500 K')).alloc (.cells (markC 500 []) 29);have hB3 := Blk.made ((w.alloc (.cells (markC 500 K) 29)).alloc (.cells (markC 500 K') 29)) 29 (markC 500 []);rw [World.size_alloc] at hB2;rw [World.size_alloc, World.size_alloc] at hB3;have HO := Hd ((((Only.refl [] w).alloc (.cells (markC 500 K) 29)).alloc (.cells (markC 500 K') 29)).alloc (.cells (markC 500 []) 29));rw [← joinK_zero K K'] at hB1;have HB1 := Hd hB1;have HB2 := Hd hB2;have HB3 := Hd hB3;rw [joinK_zero K K'] at HB1;clear hB1 hB2 hB3;generalize (((w.alloc (.cells (markC 500 K) 29)).alloc (.cells (markC 500 K') 29)).alloc (.cells (markC 500 []) 29)) = w1 at *;rw [← joinK_zero K K'] at HB1;obtain ⟨g3, hg3⟩ : ∃ g3, g3 = w.heap.size + 1 + 1 := ⟨_, rfl⟩;obtain ⟨g2, hg2⟩ : ∃ g2, g2 = w.heap.size + 1 := ⟨_, rfl⟩;obtain ⟨g1, hg1⟩ : ∃ g1, g1 = w.heap.size := ⟨_, rfl⟩;rw [← hg3] at HB3 ⊢;rw [← hg2] at HB2 ⊢;rw [← hg1] at HB1 ⊢;have HN : Hid (g1 ≠ g2 ∧ g1 ≠ g3 ∧ g2 ≠ g3 ∧ w.heap.size ≤ g1 ∧ w.heap.size ≤ g3) := Hd (by omega);clear hg1 hg2 hg3;go_wp2_with fail
 go_loopw [6, 7] (fun mv iv wr => ∃ i : Nat, mv = .bool (moreK K K' i) ∧ iv = .int .i64 i ∧ i ≤ 500 ∧ Hid (Blk wr g1 29 (markC 500 (joinK K K' i))) ∧ Hid (Blk wr g2 29 (markC 500 K')) ∧ Hid (Blk wr g3 29 (markC 500 [])) ∧ Hid (Only [] w wr)) (fun _ iv _ => 500 - (intOf iv).toNat)
 case atStart => exact ⟨0, rfl, rfl, by omega, HB1, HB2, HB3, HO⟩
 case round =>
  obtain ⟨i, rfl, rfl, hi, hB1, hB2, hB3, hO⟩ := hrel;clear HB1 HB2 HB3 HO
  by_cases hlt : i < 500
  ·have k0 := (hB1.out.at_ i).trans (joinK_at K K' i hlt);have k1 := (hB2.out.at_ i).trans (markC_at 500 K' i hlt);have f0 := hB1.out.free i;have l1 := hB1.out.lt;have l2 := hB2.out.lt;have h01 : (i : Int) < 500 := by omega
   have hi0 : (0 : Int) ≤ (i : Int) := Int.natCast_nonneg _;have hwi : IntKind.i64.wrap ((i : Int) + 1) = (i : Int) + 1 := IntWalk.i64_in _ (by omega);have HMS := Hd (moreK_succ K K' i);have OP : ∀ v, Only [g1] wr (wr.setCell ⟨g1, i, none⟩ v) := fun v => (Only.refl [g1] wr).put (p := ⟨g1, i, none⟩) (fun _ => by simp) v;have HN1 := Hd (by have := hB1.out.put i (.bool (decide ((i : Int) ∈ K) || decide ((i : Int) ∈ K'))); rwa [← joinK_succ K K' i hlt] at this);have HN2 := Hd (fun v => (OP v).blk hB2.out (by simpa using (Ne.symm HN.out.1)));have HN3 := Hd (fun v => (OP v).blk hB3.out (by simpa using (Ne.symm HN.out.2.1)));have HNO := Hd (fun v => hO.out.step (OP v) (fun j hj hl => by simp at hj; have := HN.out.2.2.2.1; omega));obtain ⟨mo, hmo⟩ : ∃ mo, mo = moreK K K' i := ⟨_, rfl⟩;rw [← hmo] at HMS ⊢;generalize decide ((i : Int) ∈ K) = a at *;generalize decide ((i : Int) ∈ K') = b at *;clear OP hB1 hB2 hB3 hO hmo
   cases mo <;> cases a <;> cases b
   all_goals
    have HM2 := Hd HMS.out;go_wp2
    go_roundw
    case rel => exact ⟨i + 1, by rw [HM2.out]; rfl, by go_num, by omega, HN1, Hd (HN2.out _), Hd (HN3.out _), Hd (HNO.out _)⟩
    case measure => simp [intOf]; omega
  ·have hin : i = 500 := by omega
   subst hin;have HI19 := Hd (show (Tryd.prog.info? 29).map (·.size) = some (markC 500 (joinK K K' 500)).size by rw [markC_size]; exact size18);have HI20 := Hd (show (Tryd.prog.info? 29).map (·.size) = some (markC 500 (joinK K K' 500)).toList.length by rw [Array.length_toList, markC_size]; exact size18);obtain ⟨mo, hmo⟩ : ∃ mo, mo = moreK K K' 500 := ⟨_, rfl⟩;have HMO := Hd hmo;rw [← hmo];clear hmo;go_upto_region 7 with (fail)
   refine wp_region_lit ?_;refine wpList_load_mid rfl 29 (.tmp 2) rfl g1 0 rfl (markC 500 (joinK K K' 500)).toList _ hB1.out.range Tryd.underlying29 rfl HI20.out ?_;go_wp2_with (
    refine wpList_store_blk rfl 29 (.tmp 4) (.tmp 39) rfl g3 29 (markC 500 []) (markC 500 (joinK K K' 500)) rfl (by simp [Act.put, Act.eval]) hB3.out (by rw [markC_size, markC_size]) HI19.out (markC_one _ _) ?_;intro w5 hb5 o5;have HB5 := Hd hb5;have HO5 := Hd (hO.out.step o5 (fun i hi hl => by simp at hi; have := HN.out.2.2.2.2; omega));clear hb5 o5)
   exact bodyPost_ret (results_row2 Tryd.results15 _ _ g3 29 (markC 500 (joinK K K' 500)) _ rfl HB5.out Tryd.underlying29 rfl HI19.out) rfl ⟨by rw [← HMO.out]; rfl, HO5.out⟩
end Go.Proofs.YtgimobilcdkmpaaDoor
