/- Parts. -/
import Derived.Test.YtlemjgjpglmphaaDoorPartOfCardK30
import Derived.Test.YtlemjgjpglmphaaDoorPartOfCardK31
set_option maxRecDepth 10000
set_option maxHeartbeats 16000000
set_option linter.unusedVariables false
set_option linter.unusedSimpArgs false
namespace Go.Proofs.YtlemjgjpglmphaaDoor
open Go.RowKit
attribute [local go_sem ↓] Go.wp_at_zero Go.wp_at_succ
structure WalkK (E : Nat → Nat → Prop) (n i : Nat) (L : List Nat) (K : List Int) : Prop where
 dfs : Dfs E L []
 lt : ∀ x ∈ L, x < n
 got : ∀ x, x < i → x ∈ L
 mks : ∀ x : Nat, (x : Int) ∈ K ↔ x ∈ L
section
variable {E : Nat → Nat → Prop} {n i : Nat} {L M : List Nat} {K K' : List Int}
theorem WalkK.start : WalkK E n 0 [] [] := ⟨.empty, fun x h => (by cases h), fun x h => (by omega), fun x => (by simp)⟩
theorem WalkK.skip (h : WalkK E n i L K) (hi : (i : Int) ∈ K) : WalkK E n (i + 1) L K := ⟨h.dfs, h.lt, fun x hx => by
 rcases Nat.lt_or_ge x i with h1 | h1
 ·exact h.got x h1
 ·obtain rfl : x = i := by omega
  exact (h.mks x).1 hi, h.mks⟩
theorem WalkK.add (h : WalkK E n i L K) (hg : Gone E L i M) (hM : ∀ x ∈ M, x < n) (hi : (i : Int) ∉ K) (hK : ∀ x : Nat, (x : Int) ∈ K' ↔ x ∈ L ++ M) : WalkK E n (i + 1) (L ++ M) K' := ⟨hg.dfs, fun x hx => by
 rcases List.mem_append.1 hx with h1 | h1
 ·exact h.lt x h1
 ·exact hM x h1, fun x hx => by
 rcases Nat.lt_or_ge x i with h1 | h1
 ·exact List.mem_append_left _ (h.got x h1)
 ·obtain rfl : x = i := by omega
  exact List.mem_append_right _ ((hg.all x).2 ⟨.refl x, fun hx => hi ((h.mks x).2 hx)⟩), hK⟩
theorem WalkK.len (h : WalkK E n i L K) : L.length ≤ n := nodup_lt_len (by have := h.dfs.nd; simpa [nodesS] using this) h.lt
end
theorem walk_any (n p : Nat) (N : Nat → List Nat) (E : Nat → Nat → Prop) (w : World) (hn : n ≤ 500)
  (hN : ∀ i, i < n → ∀ z ∈ N i, z < n) (hl : ∀ i, i < n → (N i).length ≤ n) (hE : ∀ i, i < n → ∀ m : Nat, E i m ↔ m ∈ N i)
  (hcall : ∀ (i : Nat) w', i < n → Only [] w w' → Calls Tryd.prog 28 #[.pointer (some ⟨p, 0, none⟩), .int .i64 (i : Int)] w' fun e w'' => ∃ v, (e = .returned v ∧ w''.ownsRow w'.heap.size 3 1 v (N i).length (intsN (N i))) ∧ Only [] w' w'') :
  Calls Tryd.prog 26 #[.int .i64 (n : Int), .func (.func 28) #[.pointer (some ⟨p, 0, none⟩)] #[]] w fun e w' => ∃ L A c K, (e = .returned (.slice A L.length c) ∧ w'.ownsRow w.heap.size 3 1 (.slice A L.length c) L.length (intsN L) ∧ WalkK E n n L K) ∧ Only [] w w' := by
 obtain ⟨i0, hi, hz0, hz1, hz2⟩ := info_parts info_int;have hmk := fun W => make_marks n hn W;have HF := Hd (fun (r b : Nat) (D : List Nat) (K : List Int) (W : World) (hr : r < n) (hb : w.heap.size ≤ b) (O : Only [] w W) (hrD : r ∉ D) (hD : Dfs E D []) (hDn : ∀ d ∈ D, d < n) (hB : Blk W b 4 (markC n K)) (hKD : ∀ x : Nat, (x : Int) ∈ K ↔ x ∈ D) =>
  from_any n p r b 28 (.inl rfl) N E D K W hn hr hrD hD hDn hN hl hE hB hKD (fun i w' hi O2 => hcall i w' hi (O.step O2 (fun j hj hl => by simp at hj; omega))))
 clear hcall hN hl hE;go_enter Tryd.func26, Tryd.ntmps26;go_wp2_with fail
 have HM0 := Hd (Blk.made w 4 (markC n []));have HO0 := Hd ((Only.refl [] w).alloc (.cells (markC n []) 4));clear hmk;generalize (w.alloc (.cells (markC n []) 4)) = w1 at *;obtain ⟨b, hb⟩ : ∃ b, b = w.heap.size := ⟨_, rfl⟩;rw [← hb] at HM0 ⊢;have HBL := Hd hb;clear hb
 go_loopw [6, 11] (fun dv iv wr => ∃ (i : Nat) (L : List Nat) (A : Option Addr) (cd : Nat) (K : List Int), dv = .slice A L.length cd ∧ iv = .int .i64 i ∧ i ≤ n ∧ Hid (wr.ownsRow w.heap.size 3 1 (.slice A L.length cd) L.length (intsN L)) ∧ Hid (WalkK E n i L K) ∧ Hid (Blk wr b 4 (markC n K)) ∧ Hid (Only [] w wr)) (fun _ iv _ => n - (intOf iv).toNat)
 case atStart => exact ⟨0, [], none, 0, [], rfl, rfl, by omega, Hd (World.ownsRow_nil _ _ _ _), Hd .start, HM0, HO0⟩
 case round =>
  obtain ⟨i, L, A, cd, K, rfl, rfl, hin, hL, hW, hB, hO⟩ := hrel;clear HM0 HO0
  by_cases hlt : i < n
  ·have h01 : (i : Int) < (n : Int) := by omega
   have hi0 : (0 : Int) ≤ (i : Int) := Int.natCast_nonneg _;have hwi : IntKind.i64.wrap ((i : Int) + 1) = (i : Int) + 1 := IntWalk.i64_in _ (by omega);have e4 := (hB.out.at_ i).trans (markC_at n K i hlt);have hbl := hB.out.lt
   by_cases hy : (i : Int) ∈ K
   ·rw [decide_eq_true hy] at e4;have HWS := Hd (hW.out.skip hy);clear hy;go_wp2
    go_roundw
    case rel => first | exact ⟨i + 1, L, A, cd, K, rfl, by go_num, by omega, hL, HWS, hB, hO⟩ | exact ⟨_, _, ⟨i + 1, L, A, cd, K, rfl, by go_num, by omega, hL, HWS, hB, hO⟩, rfl, rfl⟩
    case measure => simp [intOf]; omega
   ·rw [decide_eq_false hy] at e4;have HC := Hd (HF.out i b L K wr hlt (by rw [HBL.out]; exact Nat.le_refl _) hO.out (fun hm => hy ((hW.out.mks i).2 hm)) hW.out.dfs hW.out.lt hB.out hW.out.mks);have HY := Hd hy;clear hy;go_wp2_with fail
    refine (HC.out).mono ?_;rintro e w2 ⟨M, A2, c2, K2, ⟨rfl, hM, hG, hMn, hB2, hK2⟩, O2⟩;have HWA := Hd (hW.out.add hG hMn HY.out hK2);have hll := HWA.out.len;rw [List.length_append] at hll;have HM := Hd hM;have HB2 := Hd hB2;have HL2 := Hd (own_only hL.out O2 (fun g hg hm => own_apart hL.out hB.out (by decide) (by simp at hm; rw [← hm, hg]; simp)));have HO2 := Hd (hO.out.step O2 (fun j hj hl => by simp at hj; have := HBL.out; omega));have hw2 := HO2.out.size;clear hM hG hMn hB2 hK2 O2 HC hL hB hO hW e4;go_wp2_with (
     at_builtin
     refine wpList_append_row _ rfl (.tmp 19) (.tmp 23) 29 rfl w.heap.size 3 i0 _ 1 8 Tryd.underlying29 hi hz0 hz1 hz2 rfl (by omega) _ L.length (intsN L) (by rfl) HL2.out _ A2 M.length c2 (intsN M) (by rfl) (by rw [intsN_len]; omega) (row_of_own HM.out) (by intro u hu; simp [intsN] at hu; obtain ⟨_, _, rfl⟩ := hu; rfl) (by unfold maxLen; omega) (by omega) (by omega) ?_;intro v' w3 hown hgrow hat;have OV := only_grown hgrow;obtain ⟨A3, cd3, rfl, -, -, -, -⟩ := own_row hown;have HL3 : Hid (w3.ownsRow w.heap.size 3 1 (.slice A3 (L ++ M).length cd3) (L ++ M).length (intsN (L ++ M))) := Hd (by rw [intsN_app, List.length_append]; exact hown);have HO3 := Hd (HO2.out.step OV (fun i hi hl => by have := (HL2.out.lt i (by simpa using hi)).1; omega));have HB3 := Hd (OV.blk HB2.out (own_apart HL2.out HB2.out (by decide)));clear hown hgrow hat OV)
    go_roundw
    case rel => first | exact ⟨i + 1, L ++ M, A3, cd3, K2, by rw [List.length_append], by go_num, by omega, HL3, HWA, HB3, HO3⟩ | exact ⟨_, _, ⟨i + 1, L ++ M, A3, cd3, K2, by rw [List.length_append], by go_num, by omega, HL3, HWA, HB3, HO3⟩, rfl, rfl⟩
    case measure => simp [intOf]; omega
  ·have hni : n = i := by omega
   subst hni;have hd : decide ((n : Int) < (n : Int)) = false := by simp
   clear HF;go_wp2
   go_ret
   exact ⟨L, A, cd, K, ⟨rfl, hL.out, hW.out⟩, hO.out⟩
end Go.Proofs.YtlemjgjpglmphaaDoor
