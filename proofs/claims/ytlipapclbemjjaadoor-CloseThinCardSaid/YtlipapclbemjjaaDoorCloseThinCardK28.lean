/- The document's own graph (ref 19): Put of anything, Undo, Of. -/
import Derived.Test.YtlipapclbemjjaaDoorCloseThinCardK27
set_option linter.unusedVariables false
set_option linter.unusedSimpArgs false
namespace Go.Proofs.YtlipapclbemjjaaDoor
open Go.RowKit
attribute [local go_sem ↓] Go.wp_at_zero Go.wp_at_succ
theorem rput_any (p N : Nat) (h : List (Int × Int)) (fp : List Nat) (a b : Int) (w : World) (hg : RG w p N h fp) (hm : h.length ≤ 1000000) :
  Calls Tryd.prog 45 #[.pointer (some ⟨p, 0, none⟩), .int .i64 a, .int .i64 b] w fun e w' => e = .returned (.tuple #[.bool (rB N h a b), .int .i64 (pE N a b)]) ∧
   ∃ fp', RG w' p N (rH N h (a, b)) fp' ∧ Only fp w w' ∧ ∀ b ∈ fp', b ∈ fp ∨ w.heap.size ≤ b := by
 cases hab : (ndN N a && ndN N b) with
 | false =>
  refine (rput_arg p N h fp a b w hg hab).mono ?_
  rintro e w' ⟨rfl, rfl⟩
  have hb : rB N h a b = false := by unfold rB; rw [hab]; rfl
  refine ⟨by rw [hb]; unfold pE; rw [hab]; rfl, fp, by unfold rH; simp only [hb]; exact hg, Only.refl _ _, fun b hb => .inl hb⟩
 | true =>
  have hA : ndN N a = true := by simp only [Bool.and_eq_true] at hab; exact hab.1
  have hB : ndN N b = true := by simp only [Bool.and_eq_true] at hab; exact hab.2
  have ha' : 0 ≤ a ∧ a < N := by simpa [ndN] using hA
  have hb' : 0 ≤ b ∧ b < N := by simpa [ndN] using hB
  obtain ⟨k, rfl⟩ := Int.eq_ofNat_of_zero_le ha'.1
  obtain ⟨l, rfl⟩ := Int.eq_ofNat_of_zero_le hb'.1
  by_cases hin : ((k : Int), (l : Int)) ∈ h
  ·refine (rput_old p N h fp k l w hg (by omega) (by omega) hin hm).mono ?_
   rintro e w' ⟨rfl, rfl⟩
   have hb : rB N h k l = false := by unfold rB; rw [hab, decide_eq_true hin]; rfl
   refine ⟨by rw [hb]; unfold pE; rw [hab]; rfl, fp, by unfold rH; simp only [hb]; exact hg, Only.refl _ _, fun b hb => .inl hb⟩
  ·refine (rput_new p N h fp k l w hg (by omega) (by omega) hin hm).mono ?_
   rintro e w' ⟨rfl, fp', G, O1, F⟩
   have hb : rB N h k l = true := by unfold rB; rw [hab, decide_eq_false hin]; rfl
   refine ⟨by rw [hb]; unfold pE; rw [hab]; rfl, fp', ?_, O1, F⟩
   unfold rH
   simp only [hb, if_true]
   exact G
theorem rH_len (N : Nat) (h : List (Int × Int)) (e : Int × Int) : (rH N h e).length ≤ h.length + 1 := by
 unfold rH
 split <;> simp
theorem rof_len (N : Nat) : ∀ (l h : List (Int × Int)), (l.foldl (rH N) h).length ≤ h.length + l.length
 | [], h => by simp
 | e :: l, h => by
  have := rof_len N l (rH N h e)
  have h2 := rH_len N h e
  rw [List.foldl_cons, List.length_cons]
  omega
set_option maxHeartbeats 1000000 in
theorem rof_any (N : Nat) (A : Option Addr) (m c : Nat) (l : List (Int × Int)) (w : World) (hr : Row w w.heap.size A (edgeC l)) (hl : l.length = m) (hm : m ≤ 1000) :
  Calls Tryd.prog 31 #[.int .i64 (N : Int), .slice A m c] w fun e w' => e = .returned (.pointer (some ⟨w.heap.size, 0, none⟩)) ∧ Only [] w w' ∧
   ∃ fp, RG w' w.heap.size N (l.foldl (rH N) []) fp ∧ ∀ b ∈ fp, w.heap.size ≤ b := by
 have HR := Lib.hid hr
 have HL := Lib.hid hl
 clear hr hl
 go_enter Tryd.func31, Tryd.ntmps31
 go_wp2_with fail
 go_loopw [6] (fun i wr => ∃ j : Nat, i = .int .i64 j ∧ j ≤ m ∧ Only [] w wr ∧ Hid (∃ fp, RG wr w.heap.size N ((l.take j).foldl (rH N) []) fp ∧ ∀ b ∈ fp, w.heap.size ≤ b)) (fun i _ => m - (intOf i).toNat)
 case atStart =>
  exact ⟨0, rfl, by omega, (Only.refl _ _).alloc _, Lib.hid ⟨[w.heap.size], ⟨none, 0, ⟨Blk.made _ _ _, .inl rfl, fun _ => ⟨rfl, rfl⟩, ⟨Nat.le_refl _, by unfold maxLen; simp⟩, .inl (World.ownsRow_nil _ _ _ _), fun g hg => by simp [Value.ownBlock] at hg⟩, by simp, fun g hg => by simp [Value.ownBlock] at hg⟩, fun b hb => by simp at hb; omega⟩⟩
 case round =>
  obtain ⟨j, rfl, hj, hO, HJ⟩ := hrel
  obtain ⟨fp, hG, hF⟩ := HJ.out
  have HG := Lib.hid hG
  have HF := Lib.hid hF
  clear HJ hG hF
  by_cases hlt : j < m
  ·obtain ⟨b, off, rfl, hbB, hbw, hcell⟩ := HR.out.open_ (k := j * 2) (by rw [edgeC_len, HL.out]; omega)
   obtain ⟨e, he⟩ : ∃ e, l[j]? = some e := ⟨_, List.getElem?_eq_getElem (by rw [HL.out]; exact hlt)⟩
   obtain ⟨x, y⟩ := e
   have hee := edgeC_get l j _ he
   have hc1 : wr.cell? ⟨b, off + j * 2, none⟩ = some (.int .i64 x) := (hO.cell (p := ⟨b, off + j * 2, none⟩) hbw (by simp)).trans (hcell _ _ hee.1)
   have hc2 : wr.cell? ⟨b, off + j * 2 + 1, none⟩ = some (.int .i64 y) := by
    rw [Nat.add_assoc]
    exact (hO.cell (p := ⟨b, off + (j * 2 + 1), none⟩) hbw (by simp)).trans (hcell _ _ hee.2)
   have hbr : b < wr.heap.size := Nat.lt_of_lt_of_le hbw hO.size
   have hbfp : b ∉ fp := fun hm => by have := HF.out b hm; omega
   have hj0 : (0 : Int) ≤ (j : Int) := Int.natCast_nonneg _
   have hj1 : (j : Int) < (m : Int) := by omega
   have hlj : ((l.take j).foldl (rH N) []).length ≤ 1000 := by
    have := rof_len N (l.take j) []
    rw [List.length_take] at this
    simp at this
    omega
   have HP := Lib.hid (rput_any w.heap.size N _ fp x y _ (HG.out.only (Only.refl [] wr).drew (by simp)) (by omega))
   have HE := Lib.hid he
   obtain ⟨pb, hpb⟩ : ∃ pb, pb = rB N ((l.take j).foldl (rH N) []) x y := ⟨_, rfl⟩
   obtain ⟨pe, hpe⟩ : ∃ pe, pe = pE N x y := ⟨_, rfl⟩
   rw [← hpb, ← hpe] at HP
   clear hcell he hee hlj hpb hpe
   go_wp2_with fail
   refine wp_region_noPanic ?_
   refine wp_region_timed (F := [⟨[], [], fun w' => Only fp wr w'⟩]) (by kernel_rfl) (timed_holds ((Only.refl fp wr).drew) (timed_nil)) ?_
   refine timed_pure (i := 0) (v := ?_) rfl (by kernel_rfl) (by kernel_rfl) (by kernel_rfl) (fun _ _ _ h => h) (by kernel_rfl) (by kernel_rfl) ?_ ?_
   rotate_left
   ·(intro w; go_simp; try with_reducible rfl)
   try simp only [Act.put, tdy]
   refine timed_pure (i := 1) (v := ?_) rfl (by kernel_rfl) (by kernel_rfl) (by kernel_rfl) (fun _ _ _ h => h) (by kernel_rfl) (by kernel_rfl) ?_ ?_
   rotate_left
   ·(intro w; go_simp; try with_reducible rfl)
   try simp only [Act.put, tdy]
   refine timed_pure (i := 2) (v := ?_) rfl (by kernel_rfl) (by kernel_rfl) (by kernel_rfl) (fun _ _ _ h => h) (by kernel_rfl) (by kernel_rfl) ?_ ?_
   rotate_left
   ·(intro w; go_simp; try with_reducible rfl)
   try simp only [Act.put, tdy]
   refine timed_pure (i := 3) (v := ?_) rfl (by kernel_rfl) (by kernel_rfl) (by kernel_rfl) (fun _ _ _ h => h) (by kernel_rfl) (by kernel_rfl) ?_ ?_
   rotate_left
   ·(intro w; go_simp; try with_reducible rfl)
   try simp only [Act.put, tdy]
   refine timed_pure (i := 4) (v := ?_) rfl (by kernel_rfl) (by kernel_rfl) (by kernel_rfl) (fun _ _ _ h => h) (by kernel_rfl) (by kernel_rfl) ?_ ?_
   rotate_left
   ·(intro w; go_simp; try with_reducible rfl)
   try simp only [Act.put, tdy]
   refine timed_read (i := 5) (v := ?_) 0 rfl (by kernel_rfl) (by kernel_rfl) (by kernel_rfl) (fun _ _ _ h => h) (by kernel_rfl) (by kernel_rfl) rfl (by kernel_rfl) ?_ ?_
   rotate_left
   ·(intro wq hSw; (try dsimp only at hSw); have a1 := (hSw.cell (p := ⟨b, off + j * 2, none⟩) hbr hbfp).trans hc1; have a2 := (hSw.cell (p := ⟨b, off + j * 2 + 1, none⟩) hbr hbfp).trans hc2; clear hSw; go_simp; try with_reducible rfl)
   try simp only [Act.put, tdy]
   refine timed_pure (i := 6) (v := ?_) rfl (by kernel_rfl) (by kernel_rfl) (by kernel_rfl) (fun _ _ _ h => h) (by kernel_rfl) (by kernel_rfl) ?_ ?_
   rotate_left
   ·(intro w; go_simp; try with_reducible rfl)
   try simp only [Act.put, tdy]
   refine timed_pure (i := 7) (v := ?_) rfl (by kernel_rfl) (by kernel_rfl) (by kernel_rfl) (fun _ _ _ h => h) (by kernel_rfl) (by kernel_rfl) ?_ ?_
   rotate_left
   ·(intro w; go_simp; try with_reducible rfl)
   try simp only [Act.put, tdy]
   refine timed_pure (i := 8) (v := ?_) rfl (by kernel_rfl) (by kernel_rfl) (by kernel_rfl) (fun _ _ _ h => h) (by kernel_rfl) (by kernel_rfl) ?_ ?_
   rotate_left
   ·(intro w; go_simp; try with_reducible rfl)
   try simp only [Act.put, tdy]
   refine timed_pure (i := 9) (v := ?_) rfl (by kernel_rfl) (by kernel_rfl) (by kernel_rfl) (fun _ _ _ h => h) (by kernel_rfl) (by kernel_rfl) ?_ ?_
   rotate_left
   ·(intro w; go_simp; try with_reducible rfl)
   try simp only [Act.put, tdy]
   refine timed_read (i := 10) (v := ?_) 0 rfl (by kernel_rfl) (by kernel_rfl) (by kernel_rfl) (fun _ _ _ h => h) (by kernel_rfl) (by kernel_rfl) rfl (by kernel_rfl) ?_ ?_
   rotate_left
   ·(intro wq hSw; (try dsimp only at hSw); have a1 := (hSw.cell (p := ⟨b, off + j * 2, none⟩) hbr hbfp).trans hc1; have a2 := (hSw.cell (p := ⟨b, off + j * 2 + 1, none⟩) hbr hbfp).trans hc2; clear hSw; go_simp; try with_reducible rfl)
   try simp only [Act.put, tdy]
   refine timed_step (i := 11) (by kernel_rfl) rfl (fun K hK => ?_)
   go_simp
   refine (HP.out).mono ?_
   rintro e w6 ⟨rfl, fp6, hG6, hO6, hF6⟩
   refine hK.out _ _ (timed_holds (((Only.refl fp wr).drew).trans hO6) (timed_nil)) ?_
   clear hK K
   try simp only [Act.put, tdy]
   refine timed_done (by kernel_rfl) ?_ _
   refine NoPanic.normal ?_
   go_wp2
   go_roundw
   case rel =>
    have hO2' : Only fp wr w6 := ((Only.refl fp wr).drew).trans hO6
    refine ⟨j + 1, by go_num, by omega, hO.step hO2' (fun i hi hl => by have := HF.out i hi; omega), Lib.hid ⟨fp6, ?_, fun b hb => ?_⟩⟩
    ·rw [List.take_add_one, HE.out, List.foldl_append]
     exact hG6
    ·rcases hF6 b hb with hh | hh
     ·exact HF.out b hh
     ·exact Nat.le_trans hO.size hh
   case measure => simp [intOf]; omega
  ·have hjm : j = m := by omega
   subst hjm
   have hj1 : ¬ (j : Int) < (j : Int) := by omega
   go_wp2
   go_ret
   have h2 := HG.out
   rw [List.take_of_length_le (by rw [HL.out]; exact Nat.le_refl _)] at h2
   exact ⟨rfl, hO, fp, h2, HF.out⟩
end Go.Proofs.YtlipapclbemjjaaDoor
