/- Parts. -/
import Derived.Test.YtojpohmijlkagaaDoorLaw43AllK7
set_option maxRecDepth 10000
set_option maxHeartbeats 16000000
set_option linter.unusedVariables false
set_option linter.unusedSimpArgs false
namespace Go.Proofs.YtojpohmijlkagaaDoor
open Go.RowKit
open Go.Lib hiding intOf
attribute [local go_sem ↓] Go.wp_at_zero Go.wp_at_succ
theorem cut_any (s : ByteArray) (w : World) (hs : s.size ≤ 65536) :
  Calls Tryd.prog 35 #[.string s] w fun e w' => ∃ V xs, (e = .returned V ∧ w'.ownsRow w.heap.size 9 1 V xs.length (strs xs) ∧ xs.map by_ = linesOf (by_ s)) ∧ Only [] w w' := by
 obtain ⟨i0, hi, hz0, hz1, hz2⟩ := info_parts tinfo_string;go_enter Tryd.func35, Tryd.ntmps35;go_wp2
 go_loopw [3, 4] (fun V fr wr => ∃ (pos f : Nat) (xs : List ByteArray), fr = .int .i64 f ∧ f ≤ pos ∧ pos ≤ s.size ∧ xs.length ≤ pos ∧ Hid (wr.heap[w.heap.size]? = some (.stringIter s pos)) ∧
  Hid (wr.ownsRow w.heap.size 9 1 V xs.length (strs xs)) ∧ Hid (linesOf (by_ s) = xs.map by_ ++ cutL (((by_ s).take pos).drop f) ((by_ s).drop pos)) ∧ Hid (Only [] w wr)) (fun _ _ wr => s.size - wr.iterPos w.heap.size)
 case atStart => exact ⟨0, 0, [], rfl, by omega, by omega, by simp, Hd (World.iter_heap w s 0), Hd ⟨rfl, .inl ⟨rfl, rfl⟩⟩, Hd (by simp [linesOf]), Hd ((Only.refl [] w).alloc _)⟩
 case round =>
  obtain ⟨pos, f, xs, rfl, hf, hpos, hxl, HIT, HOWN, HL, HO⟩ := hrel
  by_cases hp : pos < s.size
  ·have hnx : ∀ ty, (Instr.next (.pointer (some ⟨w.heap.size, 0, none⟩)) true ty).run Tryd.prog wr = _ := fun ty => run_next_any_at wr w.heap.size s pos ty HIT.out hp;have hwd := width_le s pos hp;have hip := iterPos_of HIT.out
   by_cases hr : (Utf8.decode s pos).1 = 10
   ·obtain ⟨hb, hw1⟩ := nl_here s pos hp hr;rw [hr, hw1] at hnx;have HIT2 := Hd (iterAt_heap wr w.heap.size s pos (pos + 1) HIT.out);have HOWN2 := Hd (own_iter HOWN.out HIT.out (pos + 1));have HO2 := Hd (only_iter HO.out s (pos + 1) (k := w.heap.size) (fun h => by omega));have hf0 : (0 : Int) ≤ (f : Int) := Int.natCast_nonneg _;have hfp : (f : Int) ≤ (pos : Int) := by omega
    have hps : (pos : Int) ≤ (s.size : Int) := by omega
    have hstep : cutL (((by_ s).take pos).drop f) ((by_ s).drop pos) = ((by_ s).take pos).drop f :: cutL [] ((by_ s).drop (pos + 1)) := by
     have hd : (by_ s).drop pos = 10 :: (by_ s).drop (pos + 1) := by
      have hl : pos < (by_ s).length := by rw [by_length]; exact hp
      rw [List.drop_eq_getElem_cons hl]
      congr 1
      rw [List.getElem?_eq_getElem hl] at hb;exact Option.some.inj hb
     rw [hd, cutL_nl]
    have HST := Hd hstep;have hsz2 := HO2.out.size;clear hb hw1 hr hwd hstep HIT HOWN HO;obtain ⟨w2, hw2⟩ : ∃ w2, w2 = wr.iterAt w.heap.size s (pos + 1) := ⟨_, rfl⟩;rw [← hw2] at hnx HIT2 HOWN2 HO2 hsz2;have HW2 := Hd hw2;clear hw2;go_wp2_with (at_builtin; refine wpList_append_row _ rfl (.tmp 15) (.tmp 20) _ rfl w.heap.size 9 i0 _ 1 16 Tryd.underlying47 hi hz0 hz1 hz2 rfl (by omega) _ _ _ rfl (own_only HOWN2.out ((Only.refl [] _).alloc _) (by simp)) (w2.heap.size + 1) (some ⟨w2.heap.size, 0, none⟩) 1 1 [.string (s.extract f pos)] rfl rfl (row_lit w2 9 #[.string (s.extract f pos)]) (by simp [Value.oneCell']) (by unfold maxLen; omega) (by omega) (by simp; omega) ?_; intro v3 w3 hown3 hgrow hat)
    have REL : w3.heap[w.heap.size]? = some (.stringIter s (pos + 1)) ∧ w3.ownsRow w.heap.size 9 1 v3 (xs ++ [s.extract f pos]).length (strs (xs ++ [s.extract f pos])) ∧
      linesOf (by_ s) = (xs ++ [s.extract f pos]).map by_ ++ cutL (((by_ s).take (pos + 1)).drop (pos + 1)) ((by_ s).drop (pos + 1)) ∧ Only [] w w3 := by
     have hnot : w.heap.size ∉ u3.ownBlock.toList := fun hm => by
      cases hv : u3.ownBlock with
      | none => rw [hv] at hm; cases hm
      | some g =>
       rw [hv] at hm;simp at hm;subst hm;obtain ⟨cur, hcur⟩ := own_blk HOWN2.out hv;unfold Blk at hcur;rw [HIT2.out] at hcur
       cases hcur
     have hk : w.heap.size < w2.heap.size := (Array.getElem?_eq_some_iff.1 HIT2.out).1;refine ⟨?_, ?_, ?_, (HO2.out.alloc _).step (only_grown hgrow) (own_new HOWN2.out)⟩
     ·rw [(only_grown hgrow).keeps w.heap.size (by rw [World.size_alloc]; omega) (fun hm => ?_), Below.heap_alloc w2 _ w.heap.size hk]
      ·exact HIT2.out
      ·exact hnot hm
     ·simpa [strs] using hown3
     ·rw [HL.out, HST.out, List.map_append, List.append_assoc]
      congr 1
      have e9 : ((by_ s).take (pos + 1)).drop (pos + 1) = [] := List.drop_of_length_le (by rw [List.length_take]; omega);rw [e9];simp [by_extract]
    have HREL := Hd REL;have hip3 := iterPos_of REL.1;clear REL hown3 hgrow hat;go_wp2
    go_roundw
    case rel =>
     first
     | exact ⟨pos + 1, pos + 1, _, by go_num, by omega, by omega, by simp; omega, Hd HREL.out.1, Hd HREL.out.2.1, Hd HREL.out.2.2.1, Hd HREL.out.2.2.2⟩
     | exact ⟨_, ⟨pos + 1, pos + 1, _, by go_num, by omega, by omega, by simp; omega, Hd HREL.out.1, Hd HREL.out.2.1, Hd HREL.out.2.2.1, Hd HREL.out.2.2.2⟩, rfl⟩
    case measure => rw [hip, hip3]; omega
   ·have hnn := nl_none s pos hp hr;have hbr : (((Utf8.decode s pos).1 : Int) == 10) = false := by simp; omega
    have HIT2 := Hd (iterAt_heap wr w.heap.size s pos (pos + (Utf8.decode s pos).2) HIT.out);have HOWN2 := Hd (own_iter HOWN.out HIT.out (pos + (Utf8.decode s pos).2));have HO2 := Hd (only_iter HO.out s (pos + (Utf8.decode s pos).2) (k := w.heap.size) (fun h => by omega));have hip2 := iterPos_of HIT2.out;have hstep : cutL (((by_ s).take pos).drop f) ((by_ s).drop pos) = cutL (((by_ s).take (pos + (Utf8.decode s pos).2)).drop f) ((by_ s).drop (pos + (Utf8.decode s pos).2)) := by
     have e1 : (by_ s).drop pos = ((by_ s).drop pos).take (Utf8.decode s pos).2 ++ (by_ s).drop (pos + (Utf8.decode s pos).2) := by
      rw [← List.drop_drop, List.take_append_drop]
     rw [e1, cutL_skip _ _ _ hnn]
     congr 1
     rw [List.take_add, List.drop_append_of_le_length]
     ·rw [List.length_take, by_length]; omega
    have HST := Hd hstep;obtain ⟨wd, hwde⟩ : ∃ wd, wd = (Utf8.decode s pos).2 := ⟨_, rfl⟩;rw [← hwde] at hnx HIT2 HOWN2 HO2 hwd HST hip2;generalize (Utf8.decode s pos).1 = rn at *;clear hnn hstep HIT HOWN HO hr hwde;go_wp2
    go_roundw
    case rel => exact ⟨pos + wd, f, xs, rfl, by omega, by omega, by omega, HIT2, HOWN2, Hd (by rw [HL.out, HST.out]), HO2⟩
    case measure => rw [hip, hip2]; omega
  ·have hnx : ∀ ty, (Instr.next (.pointer (some ⟨w.heap.size, 0, none⟩)) true ty).run Tryd.prog wr = _ := fun ty => run_next_end_at wr w.heap.size s pos ty HIT.out hp;have hpe : pos = s.size := by omega
   subst hpe;have hl : (by_ s).drop s.size = [] := List.drop_of_length_le (by rw [by_length]; exact Nat.le_refl _);have ht : (by_ s).take s.size = by_ s := List.take_of_length_le (by rw [by_length]; exact Nat.le_refl _);rw [hl, ht] at HL;have hf0 : (0 : Int) ≤ (f : Int) := Int.natCast_nonneg _;clear hl ht HIT
   by_cases hfs : f < s.size
   ·have hfs1 : (f : Int) < (s.size : Int) := by omega
    have hfs2 : (f : Int) ≤ (s.size : Int) := by omega
    have hne : cutL ((by_ s).drop f) [] = [(by_ s).drop f] := by
     unfold cutL;rw [if_neg];intro e;have := congrArg List.length e;rw [List.length_drop, by_length] at this;simp at this;omega
    have HNE := Hd hne;have hsz2 := HO.out.size;clear hne;go_wp2_with (at_builtin; refine wpList_append_row _ rfl (.tmp 28) (.tmp 32) _ rfl w.heap.size 9 i0 _ 1 16 Tryd.underlying47 hi hz0 hz1 hz2 rfl (by omega) _ _ _ rfl (own_only HOWN.out ((Only.refl [] _).alloc _) (by simp)) (wr.heap.size + 1) (some ⟨wr.heap.size, 0, none⟩) 1 1 [.string (s.extract f s.size)] rfl rfl (row_lit wr 9 #[.string (s.extract f s.size)]) (by simp [Value.oneCell']) (by unfold maxLen; omega) (by omega) (by simp; omega) ?_; intro v3 w3 hown3 hgrow hat)
    go_wp2
    go_ret
    refine ⟨_, xs ++ [s.extract f s.size], ⟨rfl, by simpa [strs] using hown3, ?_⟩, (HO.out.alloc _).step (only_grown hgrow) (own_new HOWN.out)⟩;rw [HL.out, HNE.out, List.map_append];simp [by_extract, List.take_of_length_le (show (by_ s).length ≤ s.size by rw [by_length]; exact Nat.le_refl _)]
   ·have hd : decide ((f : Int) < (s.size : Int)) = false := by simp; omega
    have hne : cutL ((by_ s).drop f) [] = [] := by
     unfold cutL;rw [if_pos];exact List.drop_of_length_le (by rw [by_length]; omega)
    rw [hne, List.append_nil] at HL;clear hne;go_wp2
    go_ret
    exact ⟨_, xs, ⟨rfl, HOWN.out, HL.out.symm⟩, HO.out⟩
end Go.Proofs.YtojpohmijlkagaaDoor
