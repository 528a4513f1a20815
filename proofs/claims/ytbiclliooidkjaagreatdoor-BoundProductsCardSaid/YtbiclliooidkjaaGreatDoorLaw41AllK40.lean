/- Parts. -/
import Derived.Lib.ItoaLen
import Derived.Test.YtbiclliooidkjaaGreatDoorLaw41AllK39
set_option maxRecDepth 10000
set_option maxHeartbeats 16000000
set_option linter.unusedVariables false
set_option linter.unusedSimpArgs false
namespace Go.Proofs.YtbiclliooidkjaaGreatDoor
open Go.RowKit
open Go.Lib hiding intOf
attribute [local go_sem ↓] Go.wp_at_zero Go.wp_at_succ

end Go.Proofs.YtbiclliooidkjaaGreatDoor
namespace Go.Proofs.YtbiclliooidkjaaGreatDoor
open Go.RowKit
open Go.Lib hiding intOf
theorem pv_may {l : List UInt8} (h : pvE l = 0) : mayB (pvK l) (pvN l) = true ∧ (pvK l = 0 ∨ pvK l = 1 ∨ pvK l = 2) := by
 unfold pvE at h;unfold pvK pvN
 by_cases h1 : l = [110, 105, 108]
 ·rw [if_pos h1, if_pos h1]; exact ⟨by decide, by decide⟩
 ·rw [if_neg h1, if_neg h1];rw [if_neg h1] at h
  by_cases h2 : l = [63]
  ·rw [if_pos h2, if_pos h2]; exact ⟨by decide, by decide⟩
  ·rw [if_neg h2, if_neg h2];rw [if_neg h2] at h;rw [if_pos h, if_pos h];exact ⟨by simp [mayB], by simp⟩
theorem ev_may (s : ByteArray) (h : (evParse s).is = true) : (evParse s).e = 0 ∧ evOk (evParse s).k (evParse s).s (evParse s).y (evParse s).vk (evParse s).vn = true := by
 have key : ∀ r : EvR, r = evParse s → r.is = true → r.e = 0 ∧ evOk r.k r.s r.y r.vk r.vn = true := by
  intro r hr his;unfold evParse at hr
  by_cases hb : badL (by_ s) = true
  ·rw [if_pos hb] at hr;exact absurd his (by rw [hr]; simp [evNo])
  rw [if_neg hb] at hr
  cases hws : textsOf s with
  | nil =>
   rw [hws] at hr;exact absurd his (by rw [hr]; simp [evOf, evNo])
  | cons w0 rest =>
   rw [hws] at hr;unfold evOf at hr;dsimp only at hr
   by_cases hc : kOk (wK w0) = true ∧ ((w0 :: rest).length : Int) = (if kO (wK w0) = true then 4 else 2) ∧ isName ((w0 :: rest).getD 1 ⟨#[]⟩) = true
   ·rw [if_pos hc] at hr;obtain ⟨c1, c2, c3⟩ := hc
    by_cases c4 : kO (wK w0) = true
    ·rw [if_pos c4] at hr
     by_cases c5 : isName ((w0 :: rest).getD 2 ⟨#[]⟩) = true
     ·rw [if_pos c5] at hr
      by_cases c6 : opE (wK w0) ((w0 :: rest).getD 3 ⟨#[]⟩) = 0
      ·rw [if_pos c6] at hr;subst hr;refine ⟨rfl, ?_⟩;dsimp only;have c7 : pvE (by_ ((w0 :: rest).getD 3 ⟨#[]⟩)) = 0 := by
        unfold opE at c6
        by_cases hz : pvE (by_ ((w0 :: rest).getD 3 ⟨#[]⟩)) = 0
        ·exact hz
        ·rw [if_pos hz] at c6; exact absurd c6 hz
       obtain ⟨m1, m2⟩ := pv_may c7;have hoK : opK (wK w0) ((w0 :: rest).getD 3 ⟨#[]⟩) = pvK (by_ ((w0 :: rest).getD 3 ⟨#[]⟩)) := by unfold opK; rw [c6]; rfl
       have hoN : opN (wK w0) ((w0 :: rest).getD 3 ⟨#[]⟩) = pvN (by_ ((w0 :: rest).getD 3 ⟨#[]⟩)) := by unfold opN; rw [c6]; rfl
       rw [hoK, hoN];unfold opE at c6;rw [if_neg (by rw [c7]; simp)] at c6;unfold evOk;rw [c1, c3, c4, c5, m1]
       by_cases h3 : wK w0 = 3
       ·have : pvK (by_ ((w0 :: rest).getD 3 ⟨#[]⟩)) = 1 := by
         rcases m2 with e | e | e
         ·rw [if_neg (by rw [e]; omega), if_pos ⟨h3, e⟩] at c6; exact absurd c6 (by decide)
         ·exact e
         ·rw [if_pos ⟨h3, e⟩] at c6; exact absurd c6 (by decide)
        rw [this];simp
       ·simp [h3]
      ·rw [if_neg c6] at hr;exact absurd his (by rw [hr]; simp [evNo])
     ·rw [if_neg c5] at hr;exact absurd his (by rw [hr]; simp [evNo])
    ·rw [if_neg c4] at hr;subst hr;refine ⟨rfl, ?_⟩;dsimp only;have c5 : kO (wK w0) = false := by simpa using c4
     unfold evOk;rw [c1, c3, c5]
     rfl
   ·rw [if_neg hc] at hr;exact absurd his (by rw [hr]; simp [evNo])
 exact key _ rfl h
attribute [local go_sem ↓] Go.wp_at_zero Go.wp_at_succ
def stepE (l : List Ev6) (row : ByteArray) : Int := if (evParse row).is = true then (if l.length = 1000 then 7 else 0) else (evParse row).e
def stepL (l : List Ev6) (num : Int) (row : ByteArray) : List Ev6 := if (evParse row).is = true ∧ l.length ≠ 1000 then l ++ [⟨(evParse row).k, (evParse row).s, (evParse row).y, (evParse row).vk, (evParse row).vn, num⟩] else l
theorem wrong_any (num : Int) (row : ByteArray) (Bl base : Nat) (V : Value) (l : List Ev6) (w : World) (hs : row.size ≤ 65535) (hT : UTabs w) (hM : MLen w) (hV : Verbs w)
  (hB : Blk w Bl 68 #[V]) (hown : w.ownsRow base 99 6 V l.length (logC l)) (hbase : base ≤ w.heap.size) (hl : l.length ≤ 1000) :
  Calls Tryz.prog 57 #[.int .i64 num, .string row, .pointer (some ⟨Bl, 0, none⟩)] w fun e w' => e = .returned (.int .i64 (stepE l row)) ∧
   ∃ V', Blk w' Bl 68 #[V'] ∧ w'.ownsRow base 99 6 V' (stepL l num row).length (logC (stepL l num row)) ∧ Only (Bl :: V.ownBlock.toList) w w' := by
 obtain ⟨i0, hi, hz0, hz1, hz2⟩ := info_parts info_event;have HP := Hd (evparse_any row w hs hT hM hV);have HM := Hd (ev_may row);unfold stepE stepL;unfold evRV at HP;generalize evParse row = r at *;obtain ⟨k, s, y, vk, vn, is, er⟩ := r;dsimp only at HP HM ⊢;clear hT hM hV hs;obtain ⟨A, c, hVs, hc1, hc2, hcl, -⟩ := own_row hown;have hapart := own_apart hown hB (by decide);subst hVs;have HOWN := Hd hown;have HBL := Hd hB;generalize hm : l.length = m at *;clear hown hB hcl;go_enter Tryz.func57, Tryz.ntmps57;go_wp2_with fail
 refine (HP.out).mono ?_;rintro e w1 ⟨rfl, O1⟩;have bE := Blk.made w1 99 #[.int .i64 k, .string s, .string y, .int .i64 vk, .int .i64 vn, .int .i64 0];have O2 : Only [] w (w1.alloc (.cells #[.int .i64 k, .string s, .string y, .int .i64 vk, .int .i64 vn, .int .i64 0] 99)) := O1.alloc _;have bB := O2.blk HBL.out (by simp);have HO1 := Hd O1;have HO2 := Hd O2;have HOWN2 := Hd (own_only HOWN.out O2 (by simp));have hsz := O1.size;clear O1 O2
 cases is with
 | false =>
  have hcase : er = 0 ∨ (er != 0) = true := by
   by_cases h : er = 0
   ·exact .inl h
   ·exact .inr (by simpa using h)
  rcases hcase with rfl | hcase
  all_goals
   go_wp2
   go_ret
   refine ⟨by simp, _, bB, ?_, HO2.out.wide (fun i hi => by cases hi)⟩
   first
   | exact HOWN2.out
   | (rw [if_neg (by simp), hm]; exact HOWN2.out)
 | true =>
  obtain ⟨rfl, -⟩ := HM.out rfl;have lB := bB.lt;have cB := bB.at_ 0;simp at cB lB
  by_cases h1000 : m = 1000
  ·subst h1000;go_wp2
   go_ret
   refine ⟨by simp, _, bB, ?_, HO2.out.wide (fun i hi => by cases hi)⟩
   first
   | exact HOWN2.out
   | (rw [if_neg (by simp [hm]), hm]; exact HOWN2.out)
  ·have hne : ((m : Int) == 1000) = false := by simp; omega
   have bE5 := bE.put 5 (.int .i64 num);go_upto_region 7 with (fail)
   have O3 : Only [] w (w1.alloc (.cells #[.int .i64 k, .string s, .string y, .int .i64 vk, .int .i64 vn, .int .i64 num] 99)) := HO1.out.alloc _;have bE3 := Blk.made w1 99 #[.int .i64 k, .string s, .string y, .int .i64 vk, .int .i64 vn, .int .i64 num];have bB3 := O3.blk HBL.out (by simp);have hown3 := own_only HOWN.out O3 (by simp);clear bE5 bE bB HO2 HOWN2 lB cB HO1;generalize (w1.alloc (.cells #[.int .i64 k, .string s, .string y, .int .i64 vk, .int .i64 vn, .int .i64 num] 99)) = w2 at *;generalize w1.heap.size = ge at *;have HO3 := Hd O3;have HOWN3 := Hd hown3;have HB3 := Hd bB3;have hsz3 := O3.size;have lB := bB3.lt;have cB := bB3.at_ 0;have lE := bE3.lt;have e0 := bE3.at_ 0;have e1 := bE3.at_ 1;have e2 := bE3.at_ 2;have e3 := bE3.at_ 3;have e4 := bE3.at_ 4;have e5 := bE3.at_ 5;simp at cB e0 e1 e2 e3 e4 e5;clear O3 hown3 bB3 bE3;go_wp2_with (
    at_builtin
    refine wpList_append_row _ rfl (.tmp 29) (.tmp 31) _ rfl base 99 i0 _ 6 64 Tryz.underlying68 hi hz0 hz1 hz2 rfl (by omega) _ m (logC l) rfl (own_only HOWN3.out ((Only.refl [] w2).alloc _) (by simp)) (w2.heap.size + 1) (some ⟨w2.heap.size, 0, none⟩) 1 1 [.int .i64 k, .string s, .string y, .int .i64 vk, .int .i64 vn, .int .i64 num] (by rfl) (by rfl) (row_lit w2 99 #[.int .i64 k, .string s, .string y, .int .i64 vk, .int .i64 vn, .int .i64 num]) (by intro u hu; simp at hu; rcases hu with rfl | rfl | rfl | rfl | rfl | rfl <;> rfl) (by unfold maxLen; omega) (by omega) (by simp; omega) ?_;intro v4 w4 hown4 hgrow hat;obtain ⟨A4, c4, rfl, -, -, -, -⟩ := own_row hown4;have b4 := (only_grown hgrow).blk (HB3.out.alloc (.cells #[.int .i64 k, .string s, .string y, .int .i64 vk, .int .i64 vn, .int .i64 num] 99)) hapart;have O4 := ((HO3.out.alloc (.cells #[.int .i64 k, .string s, .string y, .int .i64 vk, .int .i64 vn, .int .i64 num] 99)).wide (T := (Value.slice A m c).ownBlock.toList) (fun i hi => by cases hi)).step (only_grown hgrow) (fun i hi _ => hi);have HB4 := Hd b4;have HO4 := Hd O4;have HOWN4 := Hd hown4;have HAT := Hd hat;have l4 := b4.lt;have d4 := b4.at_ 0;have g4 := b4.free 0;simp at d4;clear b4 O4 hown4 hat hgrow)
   go_ret
   have hap4 := own_apart HOWN4.out HB4.out (by decide);refine ⟨rfl, _, HB4.out.put 0 _, ?_, (HO4.out.wide (fun i hi _ => by simp [hi])).put (p := ⟨Bl, 0, none⟩) (fun _ => by simp) _⟩;have h5 := own_only HOWN4.out ((Only.refl [Bl] w4).put (p := ⟨Bl, 0, none⟩) (fun _ => by simp) (.slice A4 (m + 1) c4)) (fun g hg hm => by
    simp at hm;subst hm;exact hap4 (by rw [hg]; simp))
   rw [logC_snoc];exact h5
theorem cut_any (s : ByteArray) (w : World) (hs : s.size ≤ 65536) :
  Calls Tryz.prog 73 #[.string s] w fun e w' => ∃ V xs, (e = .returned V ∧ w'.ownsRow w.heap.size 9 1 V xs.length (strs xs) ∧ xs.map by_ = linesOf (by_ s)) ∧ Only [] w w' := by
 obtain ⟨i0, hi, hz0, hz1, hz2⟩ := info_parts tinfo_string;go_enter Tryz.func73, Tryz.ntmps73;go_wp2
 go_loopw [3, 4] (fun V fr wr => ∃ (pos f : Nat) (xs : List ByteArray), fr = .int .i64 f ∧ f ≤ pos ∧ pos ≤ s.size ∧ xs.length ≤ pos ∧ Hid (wr.heap[w.heap.size]? = some (.stringIter s pos)) ∧
  Hid (wr.ownsRow w.heap.size 9 1 V xs.length (strs xs)) ∧ Hid (linesOf (by_ s) = xs.map by_ ++ cutL (((by_ s).take pos).drop f) ((by_ s).drop pos)) ∧ Hid (Only [] w wr)) (fun _ _ wr => s.size - wr.iterPos w.heap.size)
 case atStart => exact ⟨0, 0, [], rfl, by omega, by omega, by simp, Hd (World.iter_heap w s 0), Hd ⟨rfl, .inl ⟨rfl, rfl⟩⟩, Hd (by simp [linesOf]), Hd ((Only.refl [] w).alloc _)⟩
 case round =>
  obtain ⟨pos, f, xs, rfl, hf, hpos, hxl, HIT, HOWN, HL, HO⟩ := hrel
  by_cases hp : pos < s.size
  ·have hnx : ∀ ty, (Instr.next (.pointer (some ⟨w.heap.size, 0, none⟩)) true ty).run Tryz.prog wr = _ := fun ty => run_next_any_at wr w.heap.size s pos ty HIT.out hp;have hwd := width_le s pos hp;have hip := iterPos_of HIT.out
   by_cases hr : (Utf8.decode s pos).1 = 10
   ·obtain ⟨hb, hw1⟩ := nl_here s pos hp hr;rw [hr, hw1] at hnx;have HIT2 := Hd (iterAt_heap wr w.heap.size s pos (pos + 1) HIT.out);have HOWN2 := Hd (own_iter HOWN.out HIT.out (pos + 1));have HO2 := Hd (only_iter HO.out s (pos + 1) (k := w.heap.size) (fun h => by omega));have hf0 : (0 : Int) ≤ (f : Int) := Int.natCast_nonneg _;have hfp : (f : Int) ≤ (pos : Int) := by omega
    have hps : (pos : Int) ≤ (s.size : Int) := by omega
    have hstep : cutL (((by_ s).take pos).drop f) ((by_ s).drop pos) = ((by_ s).take pos).drop f :: cutL [] ((by_ s).drop (pos + 1)) := by
     have hd : (by_ s).drop pos = 10 :: (by_ s).drop (pos + 1) := by
      have hl : pos < (by_ s).length := by rw [by_length]; exact hp
      rw [List.drop_eq_getElem_cons hl]
      congr 1
      rw [List.getElem?_eq_getElem hl] at hb;exact Option.some.inj hb
     rw [hd, cutL_nl]
    have HST := Hd hstep;have hsz2 := HO2.out.size;clear hb hw1 hr hwd hstep HIT HOWN HO;obtain ⟨w2, hw2⟩ : ∃ w2, w2 = wr.iterAt w.heap.size s (pos + 1) := ⟨_, rfl⟩;rw [← hw2] at hnx HIT2 HOWN2 HO2 hsz2;have HW2 := Hd hw2;clear hw2;go_wp2_with (at_builtin; refine wpList_append_row _ rfl (.tmp 15) (.tmp 20) _ rfl w.heap.size 9 i0 _ 1 16 Tryz.underlying22 hi hz0 hz1 hz2 rfl (by omega) _ _ _ rfl (own_only HOWN2.out ((Only.refl [] _).alloc _) (by simp)) (w2.heap.size + 1) (some ⟨w2.heap.size, 0, none⟩) 1 1 [.string (s.extract f pos)] rfl rfl (row_lit w2 9 #[.string (s.extract f pos)]) (by simp [Value.oneCell']) (by unfold maxLen; omega) (by omega) (by simp; omega) ?_; intro v3 w3 hown3 hgrow hat)
    have REL : w3.heap[w.heap.size]? = some (.stringIter s (pos + 1)) ∧ w3.ownsRow w.heap.size 9 1 v3 (xs ++ [s.extract f pos]).length (strs (xs ++ [s.extract f pos])) ∧
      linesOf (by_ s) = (xs ++ [s.extract f pos]).map by_ ++ cutL (((by_ s).take (pos + 1)).drop (pos + 1)) ((by_ s).drop (pos + 1)) ∧ Only [] w w3 := by
     have hnot : w.heap.size ∉ u3.ownBlock.toList := fun hm => by
      cases hv : u3.ownBlock with
      | none => rw [hv] at hm; cases hm
      | some g =>
       rw [hv] at hm;simp at hm;subst hm;obtain ⟨cur, hcur⟩ := own_blk HOWN2.out hv;unfold Blk at hcur;rw [HIT2.out] at hcur
       cases hcur
     have hk : w.heap.size < w2.heap.size := (Array.getElem?_eq_some_iff.1 HIT2.out).1;refine ⟨?_, ?_, ?_, (HO2.out.alloc _).step (only_grown hgrow) (own_new HOWN2.out)⟩
     ·rw [(only_grown hgrow).keeps w.heap.size (by rw [World.size_alloc]; omega) (fun hm => ?_), Below.heap_alloc w2 _ w.heap.size hk]
      ·exact HIT2.out
      ·exact hnot hm
     ·simpa [strs] using hown3
     ·rw [HL.out, HST.out, List.map_append, List.append_assoc]
      congr 1
      have e9 : ((by_ s).take (pos + 1)).drop (pos + 1) = [] := List.drop_of_length_le (by rw [List.length_take]; omega);rw [e9];simp [by_extract]
    have HREL := Hd REL;have hip3 := iterPos_of REL.1;clear REL hown3 hgrow hat;go_wp2
    go_roundw
    case rel =>
     first
     | exact ⟨pos + 1, pos + 1, _, by go_num, by omega, by omega, by simp; omega, Hd HREL.out.1, Hd HREL.out.2.1, Hd HREL.out.2.2.1, Hd HREL.out.2.2.2⟩
     | exact ⟨_, ⟨pos + 1, pos + 1, _, by go_num, by omega, by omega, by simp; omega, Hd HREL.out.1, Hd HREL.out.2.1, Hd HREL.out.2.2.1, Hd HREL.out.2.2.2⟩, rfl⟩
    case measure => rw [hip, hip3]; omega
   ·have hnn := nl_none s pos hp hr;have hbr : (((Utf8.decode s pos).1 : Int) == 10) = false := by simp; omega
    have HIT2 := Hd (iterAt_heap wr w.heap.size s pos (pos + (Utf8.decode s pos).2) HIT.out);have HOWN2 := Hd (own_iter HOWN.out HIT.out (pos + (Utf8.decode s pos).2));have HO2 := Hd (only_iter HO.out s (pos + (Utf8.decode s pos).2) (k := w.heap.size) (fun h => by omega));have hip2 := iterPos_of HIT2.out;have hstep : cutL (((by_ s).take pos).drop f) ((by_ s).drop pos) = cutL (((by_ s).take (pos + (Utf8.decode s pos).2)).drop f) ((by_ s).drop (pos + (Utf8.decode s pos).2)) := by
     have e1 : (by_ s).drop pos = ((by_ s).drop pos).take (Utf8.decode s pos).2 ++ (by_ s).drop (pos + (Utf8.decode s pos).2) := by
      rw [← List.drop_drop, List.take_append_drop]
     rw [e1, cutL_skip _ _ _ hnn]
     congr 1
     rw [List.take_add, List.drop_append_of_le_length]
     ·rw [List.length_take, by_length]; omega
    have HST := Hd hstep;obtain ⟨wd, hwde⟩ : ∃ wd, wd = (Utf8.decode s pos).2 := ⟨_, rfl⟩;rw [← hwde] at hnx HIT2 HOWN2 HO2 hwd HST hip2;generalize (Utf8.decode s pos).1 = rn at *;clear hnn hstep HIT HOWN HO hr hwde;go_wp2
    go_roundw
    case rel => exact ⟨pos + wd, f, xs, rfl, by omega, by omega, by omega, HIT2, HOWN2, Hd (by rw [HL.out, HST.out]), HO2⟩
    case measure => rw [hip, hip2]; omega
  ·have hnx : ∀ ty, (Instr.next (.pointer (some ⟨w.heap.size, 0, none⟩)) true ty).run Tryz.prog wr = _ := fun ty => run_next_end_at wr w.heap.size s pos ty HIT.out hp;have hpe : pos = s.size := by omega
   subst hpe;have hl : (by_ s).drop s.size = [] := List.drop_of_length_le (by rw [by_length]; exact Nat.le_refl _);have ht : (by_ s).take s.size = by_ s := List.take_of_length_le (by rw [by_length]; exact Nat.le_refl _);rw [hl, ht] at HL;have hf0 : (0 : Int) ≤ (f : Int) := Int.natCast_nonneg _;clear hl ht HIT
   by_cases hfs : f < s.size
   ·have hfs1 : (f : Int) < (s.size : Int) := by omega
    have hfs2 : (f : Int) ≤ (s.size : Int) := by omega
    have hne : cutL ((by_ s).drop f) [] = [(by_ s).drop f] := by
     unfold cutL;rw [if_neg];intro e;have := congrArg List.length e;rw [List.length_drop, by_length] at this;simp at this;omega
    have HNE := Hd hne;have hsz2 := HO.out.size;clear hne;go_wp2_with (at_builtin; refine wpList_append_row _ rfl (.tmp 28) (.tmp 32) _ rfl w.heap.size 9 i0 _ 1 16 Tryz.underlying22 hi hz0 hz1 hz2 rfl (by omega) _ _ _ rfl (own_only HOWN.out ((Only.refl [] _).alloc _) (by simp)) (wr.heap.size + 1) (some ⟨wr.heap.size, 0, none⟩) 1 1 [.string (s.extract f s.size)] rfl rfl (row_lit wr 9 #[.string (s.extract f s.size)]) (by simp [Value.oneCell']) (by unfold maxLen; omega) (by omega) (by simp; omega) ?_; intro v3 w3 hown3 hgrow hat)
    go_wp2
    go_ret
    refine ⟨_, xs ++ [s.extract f s.size], ⟨rfl, by simpa [strs] using hown3, ?_⟩, (HO.out.alloc _).step (only_grown hgrow) (own_new HOWN.out)⟩;rw [HL.out, HNE.out, List.map_append];simp [by_extract, List.take_of_length_le (show (by_ s).length ≤ s.size by rw [by_length]; exact Nat.le_refl _)]
   ·have hd : decide ((f : Int) < (s.size : Int)) = false := by simp; omega
    have hne : cutL ((by_ s).drop f) [] = [] := by
     unfold cutL;rw [if_pos];exact List.drop_of_length_le (by rw [by_length]; omega)
    rw [hne, List.append_nil] at HL;clear hne;go_wp2
    go_ret
    exact ⟨_, xs, ⟨rfl, HOWN.out, HL.out.symm⟩, HO.out⟩
end Go.Proofs.YtbiclliooidkjaaGreatDoor
