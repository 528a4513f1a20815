/- Parts. -/
import Derived.Lib.ItoaLen
import Derived.Test.YtghimogdeijgdaaGreatDoorLaw17AllK23
set_option maxRecDepth 10000
set_option maxHeartbeats 16000000
set_option linter.unusedVariables false
set_option linter.unusedSimpArgs false
namespace Go.Proofs.YtghimogdeijgdaaGreatDoor
open Go.RowKit
open Go.Lib hiding intOf
attribute [local go_sem ↓] Go.wp_at_zero Go.wp_at_succ

end Go.Proofs.YtghimogdeijgdaaGreatDoor
namespace Go.Proofs.YtghimogdeijgdaaGreatDoor
open Go.RowKit
open Go.Lib hiding intOf
theorem pv_may {l : List UInt8} (h : pvE l = 0) : mayB (pvK l) (pvN l) = true ∧ (pvK l = 0 ∨ pvK l = 1 ∨ pvK l = 2) := by
 unfold pvE at h;unfold pvK pvN
 by_cases h1 : l = [110, 105, 108]
 ·rw [if_pos h1, if_pos h1]; exact ⟨by decide, by decide⟩
 ·rw [if_neg h1, if_neg h1];rw [if_neg h1] at h
  by_cases h2 : l = [63]
  ·rw [if_pos h2, if_pos h2]; exact ⟨by decide, by decide⟩
  ·rw [if_neg h2, if_neg h2];rw [if_neg h2] at h;rw [if_pos h, if_pos h];exact ⟨by simp [mayB], by simp⟩
theorem ev_may (s : ByteArray) (h : (evParse s).is = true) : (evParse s).e = 0 ∧ evOk (evParse s).k (evParse s).s (evParse s).y (evParse s).vk (evParse s).vn = true := by
 have key : ∀ r : EvR, r = evParse s → r.is = true → r.e = 0 ∧ evOk r.k r.s r.y r.vk r.vn = true := by
  intro r hr his;unfold evParse at hr
  by_cases hb : badL (by_ s) = true
  ·rw [if_pos hb] at hr;exact absurd his (by rw [hr]; simp [evNo])
  rw [if_neg hb] at hr
  cases hws : textsOf s with
  | nil =>
   rw [hws] at hr;exact absurd his (by rw [hr]; simp [evOf, evNo])
  | cons w0 rest =>
   rw [hws] at hr;unfold evOf at hr;dsimp only at hr
   by_cases hc : kOk (wK w0) = true ∧ ((w0 :: rest).length : Int) = (if kO (wK w0) = true then 4 else 2) ∧ isName ((w0 :: rest).getD 1 ⟨#[]⟩) = true
   ·rw [if_pos hc] at hr;obtain ⟨c1, c2, c3⟩ := hc
    by_cases c4 : kO (wK w0) = true
    ·rw [if_pos c4] at hr
     by_cases c5 : isName ((w0 :: rest).getD 2 ⟨#[]⟩) = true
     ·rw [if_pos c5] at hr
      by_cases c6 : opE (wK w0) ((w0 :: rest).getD 3 ⟨#[]⟩) = 0
      ·rw [if_pos c6] at hr;subst hr;refine ⟨rfl, ?_⟩;dsimp only;have c7 : pvE (by_ ((w0 :: rest).getD 3 ⟨#[]⟩)) = 0 := by
        unfold opE at c6
        by_cases hz : pvE (by_ ((w0 :: rest).getD 3 ⟨#[]⟩)) = 0
        ·exact hz
        ·rw [if_pos hz] at c6; exact absurd c6 hz
       obtain ⟨m1, m2⟩ := pv_may c7;have hoK : opK (wK w0) ((w0 :: rest).getD 3 ⟨#[]⟩) = pvK (by_ ((w0 :: rest).getD 3 ⟨#[]⟩)) := by unfold opK; rw [c6]; rfl
       have hoN : opN (wK w0) ((w0 :: rest).getD 3 ⟨#[]⟩) = pvN (by_ ((w0 :: rest).getD 3 ⟨#[]⟩)) := by unfold opN; rw [c6]; rfl
       rw [hoK, hoN];unfold opE at c6;rw [if_neg (by rw [c7]; simp)] at c6;unfold evOk;rw [c1, c3, c4, c5, m1]
       by_cases h3 : wK w0 = 3
       ·have : pvK (by_ ((w0 :: rest).getD 3 ⟨#[]⟩)) = 1 := by
         rcases m2 with e | e | e
         ·rw [if_neg (by rw [e]; omega), if_pos ⟨h3, e⟩] at c6; exact absurd c6 (by decide)
         ·exact e
         ·rw [if_pos ⟨h3, e⟩] at c6; exact absurd c6 (by decide)
        rw [this];simp
       ·simp [h3]
      ·rw [if_neg c6] at hr;exact absurd his (by rw [hr]; simp [evNo])
     ·rw [if_neg c5] at hr;exact absurd his (by rw [hr]; simp [evNo])
    ·rw [if_neg c4] at hr;subst hr;refine ⟨rfl, ?_⟩;dsimp only;have c5 : kO (wK w0) = false := by simpa using c4
     unfold evOk;rw [c1, c3, c5]
     rfl
   ·rw [if_neg hc] at hr;exact absurd his (by rw [hr]; simp [evNo])
 exact key _ rfl h
attribute [local go_sem ↓] Go.wp_at_zero Go.wp_at_succ
def stepE (l : List Ev6) (row : ByteArray) : Int := if (evParse row).is = true then (if l.length = 1000 then 7 else 0) else (evParse row).e
def stepL (l : List Ev6) (num : Int) (row : ByteArray) : List Ev6 := if (evParse row).is = true ∧ l.length ≠ 1000 then l ++ [⟨(evParse row).k, (evParse row).s, (evParse row).y, (evParse row).vk, (evParse row).vn, num⟩] else l
theorem wrong_any (num : Int) (row : ByteArray) (Bl base : Nat) (V : Value) (l : List Ev6) (w : World) (hs : row.size ≤ 65535) (hT : UTabs w) (hM : MLen w) (hV : Verbs w)
  (hB : Blk w Bl 76 #[V]) (hown : w.ownsRow base 95 6 V l.length (logC l)) (hbase : base ≤ w.heap.size) (hl : l.length ≤ 1000) :
  Calls Tryz.prog 65 #[.int .i64 num, .string row, .pointer (some ⟨Bl, 0, none⟩)] w fun e w' => e = .returned (.int .i64 (stepE l row)) ∧
   ∃ V', Blk w' Bl 76 #[V'] ∧ w'.ownsRow base 95 6 V' (stepL l num row).length (logC (stepL l num row)) ∧ Only (Bl :: V.ownBlock.toList) w w' := by
 obtain ⟨i0, hi, hz0, hz1, hz2⟩ := info_parts info_event;have HP := Hd (evparse_any row w hs hT hM hV);have HM := Hd (ev_may row);unfold stepE stepL;unfold evRV at HP;generalize evParse row = r at *;obtain ⟨k, s, y, vk, vn, is, er⟩ := r;dsimp only at HP HM ⊢;clear hT hM hV hs;obtain ⟨A, c, hVs, hc1, hc2, hcl, -⟩ := own_row hown;have hapart := own_apart hown hB (by decide);subst hVs;have HOWN := Hd hown;have HBL := Hd hB;generalize hm : l.length = m at *;clear hown hB hcl;go_enter Tryz.func65, Tryz.ntmps65;go_wp2_with fail
 refine (HP.out).mono ?_;rintro e w1 ⟨rfl, O1⟩;have bE := Blk.made w1 95 #[.int .i64 k, .string s, .string y, .int .i64 vk, .int .i64 vn, .int .i64 0];have O2 : Only [] w (w1.alloc (.cells #[.int .i64 k, .string s, .string y, .int .i64 vk, .int .i64 vn, .int .i64 0] 95)) := O1.alloc _;have bB := O2.blk HBL.out (by simp);have HO1 := Hd O1;have HO2 := Hd O2;have HOWN2 := Hd (own_only HOWN.out O2 (by simp));have hsz := O1.size;clear O1 O2
 cases is with
 | false =>
  have hcase : er = 0 ∨ (er != 0) = true := by
   by_cases h : er = 0
   ·exact .inl h
   ·exact .inr (by simpa using h)
  rcases hcase with rfl | hcase
  all_goals
   go_wp2
   go_ret
   refine ⟨by simp, _, bB, ?_, HO2.out.wide (fun i hi => by cases hi)⟩
   first
   | exact HOWN2.out
   | (rw [if_neg (by simp), hm]; exact HOWN2.out)
 | true =>
  obtain ⟨rfl, -⟩ := HM.out rfl;have lB := bB.lt;have cB := bB.at_ 0;simp at cB lB
  by_cases h1000 : m = 1000
  ·subst h1000;go_wp2
   go_ret
   refine ⟨by simp, _, bB, ?_, HO2.out.wide (fun i hi => by cases hi)⟩
   first
   | exact HOWN2.out
   | (rw [if_neg (by simp [hm]), hm]; exact HOWN2.out)
  ·have hne : ((m : Int) == 1000) = false := by simp; omega
   have bE5 := bE.put 5 (.int .i64 num);go_upto_region 7 with (fail)
   have O3 : Only [] w (w1.alloc (.cells #[.int .i64 k, .string s, .string y, .int .i64 vk, .int .i64 vn, .int .i64 num] 95)) := HO1.out.alloc _;have bE3 := Blk.made w1 95 #[.int .i64 k, .string s, .string y, .int .i64 vk, .int .i64 vn, .int .i64 num];have bB3 := O3.blk HBL.out (by simp);have hown3 := own_only HOWN.out O3 (by simp);clear bE5 bE bB HO2 HOWN2 lB cB HO1;generalize (w1.alloc (.cells #[.int .i64 k, .string s, .string y, .int .i64 vk, .int .i64 vn, .int .i64 num] 95)) = w2 at *;generalize w1.heap.size = ge at *;have HO3 := Hd O3;have HOWN3 := Hd hown3;have HB3 := Hd bB3;have hsz3 := O3.size;have lB := bB3.lt;have cB := bB3.at_ 0;have lE := bE3.lt;have e0 := bE3.at_ 0;have e1 := bE3.at_ 1;have e2 := bE3.at_ 2;have e3 := bE3.at_ 3;have e4 := bE3.at_ 4;have e5 := bE3.at_ 5;simp at cB e0 e1 e2 e3 e4 e5;clear O3 hown3 bB3 bE3;go_wp2_with (
    at_builtin
    refine wpList_append_row _ rfl (.tmp 29) (.tmp 31) _ rfl base 95 i0 _ 6 64 Tryz.underlying76 hi hz0 hz1 hz2 rfl (by omega) _ m (logC l) rfl (own_only HOWN3.out ((Only.refl [] w2).alloc _) (by simp)) (w2.heap.size + 1) (some ⟨w2.heap.size, 0, none⟩) 1 1 [.int .i64 k, .string s, .string y, .int .i64 vk, .int .i64 vn, .int .i64 num] (by rfl) (by rfl) (row_lit w2 95 #[.int .i64 k, .string s, .string y, .int .i64 vk, .int .i64 vn, .int .i64 num]) (by intro u hu; simp at hu; rcases hu with rfl | rfl | rfl | rfl | rfl | rfl <;> rfl) (by unfold maxLen; omega) (by omega) (by simp; omega) ?_;intro v4 w4 hown4 hgrow hat;obtain ⟨A4, c4, rfl, -, -, -, -⟩ := own_row hown4;have b4 := (only_grown hgrow).blk (HB3.out.alloc (.cells #[.int .i64 k, .string s, .string y, .int .i64 vk, .int .i64 vn, .int .i64 num] 95)) hapart;have O4 := ((HO3.out.alloc (.cells #[.int .i64 k, .string s, .string y, .int .i64 vk, .int .i64 vn, .int .i64 num] 95)).wide (T := (Value.slice A m c).ownBlock.toList) (fun i hi => by cases hi)).step (only_grown hgrow) (fun i hi _ => hi);have HB4 := Hd b4;have HO4 := Hd O4;have HOWN4 := Hd hown4;have HAT := Hd hat;have l4 := b4.lt;have d4 := b4.at_ 0;have g4 := b4.free 0;simp at d4;clear b4 O4 hown4 hat hgrow)
   go_ret
   have hap4 := own_apart HOWN4.out HB4.out (by decide);refine ⟨rfl, _, HB4.out.put 0 _, ?_, (HO4.out.wide (fun i hi _ => by simp [hi])).put (p := ⟨Bl, 0, none⟩) (fun _ => by simp) _⟩;have h5 := own_only HOWN4.out ((Only.refl [Bl] w4).put (p := ⟨Bl, 0, none⟩) (fun _ => by simp) (.slice A4 (m + 1) c4)) (fun g hg hm => by
    simp at hm;subst hm;exact hap4 (by rw [hg]; simp))
   rw [logC_snoc];exact h5
theorem cut_any (s : ByteArray) (w : World) (hs : s.size ≤ 65536) :
  Calls Tryz.prog 76 #[.string s] w fun e w' => ∃ V xs, (e = .returned V ∧ w'.ownsRow w.heap.size 9 1 V xs.length (strs xs) ∧ xs.map by_ = linesOf (by_ s)) ∧ Only [] w w' := by
 obtain ⟨i0, hi, hz0, hz1, hz2⟩ := info_parts tinfo_string;go_enter Tryz.func76, Tryz.ntmps76;go_wp2
 go_loopw [3, 4] (fun V fr wr => ∃ (pos f : Nat) (xs : List ByteArray), fr = .int .i64 f ∧ f ≤ pos ∧ pos ≤ s.size ∧ xs.length ≤ pos ∧ Hid (wr.heap[w.heap.size]? = some (.stringIter s pos)) ∧
  Hid (wr.ownsRow w.heap.size 9 1 V xs.length (strs xs)) ∧ Hid (linesOf (by_ s) = xs.map by_ ++ cutL (((by_ s).take pos).drop f) ((by_ s).drop pos)) ∧ Hid (Only [] w wr)) (fun _ _ wr => s.size - wr.iterPos w.heap.size)
 case atStart => exact ⟨0, 0, [], rfl, by omega, by omega, by simp, Hd (World.iter_heap w s 0), Hd ⟨rfl, .inl ⟨rfl, rfl⟩⟩, Hd (by simp [linesOf]), Hd ((Only.refl [] w).alloc _)⟩
 case round =>
  obtain ⟨pos, f, xs, rfl, hf, hpos, hxl, HIT, HOWN, HL, HO⟩ := hrel
  by_cases hp : pos < s.size
  ·have hnx : ∀ ty, (Instr.next (.pointer (some ⟨w.heap.size, 0, none⟩)) true ty).run Tryz.prog wr = _ := fun ty => run_next_any_at wr w.heap.size s pos ty HIT.out hp;have hwd := width_le s pos hp;have hip := iterPos_of HIT.out
   by_cases hr : (Utf8.decode s pos).1 = 10
   ·obtain ⟨hb, hw1⟩ := nl_here s pos hp hr;rw [hr, hw1] at hnx;have HIT2 := Hd (iterAt_heap wr w.heap.size s pos (pos + 1) HIT.out);have HOWN2 := Hd (own_iter HOWN.out HIT.out (pos + 1));have HO2 := Hd (only_iter HO.out s (pos + 1) (k := w.heap.size) (fun h => by omega));have hf0 : (0 : Int) ≤ (f : Int) := Int.natCast_nonneg _;have hfp : (f : Int) ≤ (pos : Int) := by omega
    have hps : (pos : Int) ≤ (s.size : Int) := by omega
    have hstep : cutL (((by_ s).take pos).drop f) ((by_ s).drop pos) = ((by_ s).take pos).drop f :: cutL [] ((by_ s).drop (pos + 1)) := by
     have hd : (by_ s).drop pos = 10 :: (by_ s).drop (pos + 1) := by
      have hl : pos < (by_ s).length := by rw [by_length]; exact hp
      rw [List.drop_eq_getElem_cons hl]
      congr 1
      rw [List.getElem?_eq_getElem hl] at hb;exact Option.some.inj hb
     rw [hd, cutL_nl]
    have HST := Hd hstep;have hsz2 := HO2.out.size;clear hb hw1 hr hwd hstep HIT HOWN HO;obtain ⟨w2, hw2⟩ : ∃ w2, w2 = wr.iterAt w.heap.size s (pos + 1) := ⟨_, rfl⟩;rw [← hw2] at hnx HIT2 HOWN2 HO2 hsz2;have HW2 := Hd hw2;clear hw2;go_wp2_with (at_builtin; refine wpList_append_row _ rfl (.tmp 15) (.tmp 20) _ rfl w.heap.size 9 i0 _ 1 16 Tryz.underlying22 hi hz0 hz1 hz2 rfl (by omega) _ _ _ rfl (own_only HOWN2.out ((Only.refl [] _).alloc _) (by simp)) (w2.heap.size + 1) (some ⟨w2.heap.size, 0, none⟩) 1 1 [.string (s.extract f pos)] rfl rfl (row_lit w2 9 #[.string (s.extract f pos)]) (by simp [Value.oneCell']) (by unfold maxLen; omega) (by omega) (by simp; omega) ?_; intro v3 w3 hown3 hgrow hat)
    have REL : w3.heap[w.heap.size]? = some (.stringIter s (pos + 1)) ∧ w3.ownsRow w.heap.size 9 1 v3 (xs ++ [s.extract f pos]).length (strs (xs ++ [s.extract f pos])) ∧
      linesOf (by_ s) = (xs ++ [s.extract f pos]).map by_ ++ cutL (((by_ s).take (pos + 1)).drop (pos + 1)) ((by_ s).drop (pos + 1)) ∧ Only [] w w3 := by
     have hnot : w.heap.size ∉ u3.ownBlock.toList := fun hm => by
      cases hv : u3.ownBlock with
      | none => rw [hv] at hm; cases hm
      | some g =>
       rw [hv] at hm;simp at hm;subst hm;obtain ⟨cur, hcur⟩ := own_blk HOWN2.out hv;unfold Blk at hcur;rw [HIT2.out] at hcur
       cases hcur
     have hk : w.heap.size < w2.heap.size := (Array.getElem?_eq_some_iff.1 HIT2.out).1;refine ⟨?_, ?_, ?_, (HO2.out.alloc _).step (only_grown hgrow) (own_new HOWN2.out)⟩
     ·rw [(only_grown hgrow).keeps w.heap.size (by rw [World.size_alloc]; omega) (fun hm => ?_), Below.heap_alloc w2 _ w.heap.size hk]
      ·exact HIT2.out
      ·exact hnot hm
     ·simpa [strs] using hown3
     ·rw [HL.out, HST.out, List.map_append, List.append_assoc]
      congr 1
      have e9 : ((by_ s).take (pos + 1)).drop (pos + 1) = [] := List.drop_of_length_le (by rw [List.length_take]; omega);rw [e9];simp [by_extract]
    have HREL := Hd REL;have hip3 := iterPos_of REL.1;clear REL hown3 hgrow hat;go_wp2
    go_roundw
    case rel =>
     first
     | exact ⟨pos + 1, pos + 1, _, by go_num, by omega, by omega, by simp; omega, Hd HREL.out.1, Hd HREL.out.2.1, Hd HREL.out.2.2.1, Hd HREL.out.2.2.2⟩
     | exact ⟨_, ⟨pos + 1, pos + 1, _, by go_num, by omega, by omega, by simp; omega, Hd HREL.out.1, Hd HREL.out.2.1, Hd HREL.out.2.2.1, Hd HREL.out.2.2.2⟩, rfl⟩
    case measure => rw [hip, hip3]; omega
   ·have hnn := nl_none s pos hp hr;have hbr : (((Utf8.decode s pos).1 : Int) == 10) = false := by simp; omega
    have HIT2 := Hd (iterAt_heap wr w.heap.size s pos (pos + (Utf8.decode s pos).2) HIT.out);have HOWN2 := Hd (own_iter HOWN.out HIT.out (pos + (Utf8.decode s pos).2));have HO2 := Hd (only_iter HO.out s (pos + (Utf8.decode s pos).2) (k := w.heap.size) (fun h => by omega));have hip2 := iterPos_of HIT2.out;have hstep : cutL (((by_ s).take pos).drop f) ((by_ s).drop pos) = cutL (((by_ s).take (pos + (Utf8.decode s pos).2)).drop f) ((by_ s).drop (pos + (Utf8.decode s pos).2)) := by
     have e1 : (by_ s).drop pos = ((by_ s).drop pos).take (Utf8.decode s pos).2 ++ (by_ s).drop (pos + (Utf8.decode s pos).2) := by
      rw [← List.drop_drop, List.take_append_drop]
     rw [e1, cutL_skip _ _ _ hnn]
     congr 1
     rw [List.take_add, List.drop_append_of_le_length]
     ·rw [List.length_take, by_length]; omega
    have HST := Hd hstep;obtain ⟨wd, hwde⟩ : ∃ wd, wd = (Utf8.decode s pos).2 := ⟨_, rfl⟩;rw [← hwde] at hnx HIT2 HOWN2 HO2 hwd HST hip2;generalize (Utf8.decode s pos).1 = rn at *;clear hnn hstep HIT HOWN HO hr hwde;go_wp2
    go_roundw
    case rel => exact ⟨pos + wd, f, xs, rfl, by omega, by omega, by omega, HIT2, HOWN2, Hd (by rw [HL.out, HST.out]), HO2⟩
    case measure => rw [hip, hip2]; omega
  ·have hnx : ∀ ty, (Instr.next (.pointer (some ⟨w.heap.size, 0, none⟩)) true ty).run Tryz.prog wr = _ := fun ty => run_next_end_at wr w.heap.size s pos ty HIT.out hp;have hpe : pos = s.size := by omega
   subst hpe;have hl : (by_ s).drop s.size = [] := List.drop_of_length_le (by rw [by_length]; exact Nat.le_refl _);have ht : (by_ s).take s.size = by_ s := List.take_of_length_le (by rw [by_length]; exact Nat.le_refl _);rw [hl, ht] at HL;have hf0 : (0 : Int) ≤ (f : Int) := Int.natCast_nonneg _;clear hl ht HIT
   by_cases hfs : f < s.size
   ·have hfs1 : (f : Int) < (s.size : Int) := by omega
    have hfs2 : (f : Int) ≤ (s.size : Int) := by omega
    have hne : cutL ((by_ s).drop f) [] = [(by_ s).drop f] := by
     unfold cutL;rw [if_neg];intro e;have := congrArg List.length e;rw [List.length_drop, by_length] at this;simp at this;omega
    have HNE := Hd hne;have hsz2 := HO.out.size;clear hne;go_wp2_with (at_builtin; refine wpList_append_row _ rfl (.tmp 28) (.tmp 32) _ rfl w.heap.size 9 i0 _ 1 16 Tryz.underlying22 hi hz0 hz1 hz2 rfl (by omega) _ _ _ rfl (own_only HOWN.out ((Only.refl [] _).alloc _) (by simp)) (wr.heap.size + 1) (some ⟨wr.heap.size, 0, none⟩) 1 1 [.string (s.extract f s.size)] rfl rfl (row_lit wr 9 #[.string (s.extract f s.size)]) (by simp [Value.oneCell']) (by unfold maxLen; omega) (by omega) (by simp; omega) ?_; intro v3 w3 hown3 hgrow hat)
    go_wp2
    go_ret
    refine ⟨_, xs ++ [s.extract f s.size], ⟨rfl, by simpa [strs] using hown3, ?_⟩, (HO.out.alloc _).step (only_grown hgrow) (own_new HOWN.out)⟩;rw [HL.out, HNE.out, List.map_append];simp [by_extract, List.take_of_length_le (show (by_ s).length ≤ s.size by rw [by_length]; exact Nat.le_refl _)]
   ·have hd : decide ((f : Int) < (s.size : Int)) = false := by simp; omega
    have hne : cutL ((by_ s).drop f) [] = [] := by
     unfold cutL;rw [if_pos];exact List.drop_of_length_le (by rw [by_length]; omega)
    rw [hne, List.append_nil] at HL;clear hne;go_wp2
    go_ret
    exact ⟨_, xs, ⟨rfl, HOWN.out, HL.out.symm⟩, HO.out⟩
theorem of_any (s : ByteArray) (w : World) (hs : s.size ≤ 65536) (hT : UTabs w) :
    Calls Tryz.prog 64 #[.string s] w fun e w' => Only [] w w' ∧
      (((∀ x ∈ linesOf (by_ s), validD x = true) ∧ ∃ V xs, e = .returned (.tuple #[V, .int .i64 0, .int .i64 0]) ∧ w'.ownsRow w.heap.size 9 1 V xs.length (strs xs) ∧ xs.map by_ = linesOf (by_ s)) ∨
       (∃ (i : Nat) (x : List UInt8), (linesOf (by_ s))[i]? = some x ∧ validD x = false ∧ (∀ j y, j < i → (linesOf (by_ s))[j]? = some y → validD y = true) ∧ e = .returned (.tuple #[.slice none 0 0, .int .i64 ((i : Int) + 1), .int .i64 5]))) := by
  have HC := Hd (cut_any s w hs)
  have HT := Hd hT
  have hs1 : ¬ (65536 : Int) < (s.size : Int) := by omega
  have hlm := cutL_mem (by_ s) []
  have hln := cutL_len (by_ s) []
  rw [by_length] at hln
  have HLM := Hd hlm
  clear hT hlm
  go_enter Tryz.func64, Tryz.ntmps64
  go_wp2_with fail
  refine (HC.out).mono ?_
  rintro e w1 ⟨V, xs, ⟨rfl, hown, hxs⟩, hO⟩
  obtain ⟨A, c, rfl, hc1, hc2, hxl, hrow⟩ := own_row hown
  obtain ⟨n, hn⟩ : ∃ n, n = xs.length := ⟨_, rfl⟩
  have hnl : (linesOf (by_ s)).length = n := by rw [← hxs, List.length_map, hn]
  unfold linesOf at hnl
  have hn65 : n ≤ 65537 := by omega
  have HXS := Hd hxs
  have HOWN := Hd hown
  have HROW := Hd hrow
  have HO := Hd hO
  have HN := Hd hn
  rw [← hn] at hc1 ⊢
  clear hxs hown hrow hO hxl hnl hln hn
  go_wp2
  go_loopw [15] (fun i wr => ∃ k : Nat, i = .int .i64 k ∧ k ≤ n ∧ Hid (∀ j y, j < k → (linesOf (by_ s))[j]? = some y → validD y = true) ∧ Hid (Only [] w1 wr)) (fun i _ => n - (intOf i).toNat)
  case atStart => exact ⟨0, rfl, by omega, Hd (fun j y h => by omega), Hd (Only.refl _ _)⟩
  case round =>
    obtain ⟨k, rfl, hk, HV, HO1⟩ := hrel
    by_cases hlt : k < n
    · have hk1 : (k : Int) < (n : Int) := by omega
      have hk0 : (0 : Int) ≤ (k : Int) := Int.natCast_nonneg _
      obtain ⟨b, off, rfl, hbB, hbw, hcell⟩ := HROW.out.open_ (k := k) (by rw [strs, List.length_map, ← HN.out]; exact hlt)
      obtain ⟨x, hx⟩ : ∃ x, xs[k]? = some x := ⟨_, List.getElem?_eq_getElem (by rw [← HN.out]; exact hlt)⟩
      have hck : wr.cell? ⟨b, off + k, none⟩ = some (.string x) := (HO1.out.cell (p := ⟨b, off + k, none⟩) hbw (by simp)).trans (hcell k _ (by rw [strs, List.getElem?_map, hx]; rfl))
      have hlx : (linesOf (by_ s))[k]? = some (by_ x) := by rw [← HXS.out, List.getElem?_map, hx]; rfl
      have hxs : x.size ≤ 9223372036854775807 := by
        have := HLM.out (by_ x) (List.mem_of_getElem? hlx)
        rw [by_length, by_length] at this
        simp at this
        omega
      have HVC := Hd (valid_any x wr hxs ((HT.out.only HO.out).only HO1.out))
      have HLX := Hd hlx
      clear hcell hx hlx hxs
      obtain ⟨vb, hvb⟩ : ∃ vb, vb = validD (by_ x) := ⟨_, rfl⟩
      rw [← hvb] at HVC
      have HVB := Hd hvb
      clear hvb
      cases vb with
      | true =>
        go_wp2_with fail
        refine (HVC.out).mono ?_
        rintro e w2 ⟨rfl, hO2⟩
        have HO2 := Hd (HO1.out.trans hO2)
        have HV2 : Hid (∀ j y, j < k + 1 → (linesOf (by_ s))[j]? = some y → validD y = true) := Hd (fun j y hj hy => by
          by_cases hjk : j < k
          · exact HV.out j y hjk hy
          · have : j = k := by omega
            subst this
            rw [HLX.out] at hy
            obtain rfl := Option.some.inj hy
            exact HVB.out.symm)
        clear hO2
        go_wp2
        go_roundw
        case rel => exact ⟨k + 1, by go_num, by omega, HV2, HO2⟩
        case measure => simp [intOf]; omega
      | false =>
        have hwk : IntKind.i64.wrap ((k : Int) + 1) = (k : Int) + 1 := IntWalk.i64_in _ (by omega)
        go_wp2_with fail
        refine (HVC.out).mono ?_
        rintro e w2 ⟨rfl, hO2⟩
        have HO2 := Hd (HO1.out.trans hO2)
        clear hO2
        go_wp2
        go_ret3
        exact ⟨HO.out.trans HO2.out, .inr ⟨k, by_ x, HLX.out, HVB.out.symm, HV.out, rfl⟩⟩
    · have hkn : k = n := by omega
      subst hkn
      have hd : decide ((k : Int) < (k : Int)) = false := by simp
      go_wp2
      go_ret3
      · refine ⟨HO.out.trans HO1.out, .inl ⟨fun x hx => ?_, .slice A k c, xs, rfl, ?_, HXS.out⟩⟩
        · obtain ⟨j, hj⟩ := List.mem_iff_getElem?.1 hx
          have hjl : j < (linesOf (by_ s)).length := (List.getElem?_eq_some_iff.1 hj).1
          rw [← HXS.out, List.length_map, ← HN.out] at hjl
          exact HV.out j x hjl hj
        · have := own_only HOWN.out HO1.out (by simp)
          rw [← HN.out] at this ⊢
          exact this
def logOf : List ByteArray → Int → List Ev6 → List Ev6 × Int × Int
 | [], _, acc => (acc, 0, 0)
 | row :: rest, i, acc => if stepE acc row = 0 then logOf rest (i + 1) (stepL acc i row) else ([], i, stepE acc row)
def rowsOf (s : ByteArray) : List ByteArray := (linesOf (by_ s)).map fun l => ⟨l.toArray⟩
def logParse (s : ByteArray) : List Ev6 × Int × Int :=
 if 65536 < s.size then ([], 0, 6) else
  match (linesOf (by_ s)).findIdx? (fun x => !validD x) with
  | some i => ([], (i : Int) + 1, 5)
  | none => logOf (rowsOf s) 1 []
theorem stepL_len (l : List Ev6) (num : Int) (row : ByteArray) (h : l.length ≤ 1000) : (stepL l num row).length ≤ 1000 := by
 unfold stepL
 split
 ·rename_i hc
  rw [List.length_append];have := hc.2;simp;omega
 ·exact h
theorem rows_eq {s : ByteArray} {xs : List ByteArray} (h : xs.map by_ = linesOf (by_ s)) : rowsOf s = xs := by
 unfold rowsOf;rw [← h, List.map_map];have : ((fun l => (⟨l.toArray⟩ : ByteArray)) ∘ by_) = id := by
  funext x
  exact by_inj (by show (by_ x).toArray.toList = by_ x; simp)
 rw [this, List.map_id]
theorem own_lowerP {w : World} {base base' : Nat} {e : TypeId} {size : Nat} {v : Value} {n : Nat} {xs : List Value} (h : w.ownsRow base e size v n xs) (hb : base' ≤ base) : w.ownsRow base' e size v n xs := by
 obtain ⟨hl, hv⟩ := h;refine ⟨hl, ?_⟩;rcases hv with hv | ⟨g, cap, cur, rfl, hg, rest⟩
 ·exact .inl hv
 ·exact .inr ⟨g, cap, cur, rfl, Nat.le_trans hb hg, rest⟩
theorem row_nil (w : World) (base : Nat) : w.ownsRow base 95 6 (.slice none 0 0) 0 (logC []) := ⟨rfl, .inl ⟨rfl, rfl⟩⟩
theorem logparse_any (s : ByteArray) (w : World) (hs : s.size ≤ 65536) (hrow : ∀ x ∈ linesOf (by_ s), x.length ≤ 65535) (hT : UTabs w) (hM : MLen w) (hV : Verbs w) :
  Calls Tryz.prog 50 #[.string s] w fun e w' => Only [] w w' ∧ ∃ V, e = .returned (.tuple #[V, .int .i64 (logParse s).2.1, .int .i64 (logParse s).2.2]) ∧ w'.ownsRow w.heap.size 95 6 V (logParse s).1.length (logC (logParse s).1) := by
 obtain ⟨i0, hi, hz0, hz1, hz2⟩ := info_parts info_event;have HOF := Hd (of_any s w hs hT);have HWR := Hd (fun num row Bl V (l : List Ev6) w' (h : row.size ≤ 65535) (hO : Only [] w w') (hB : Blk w' Bl 76 #[V]) (hown : w'.ownsRow Bl 95 6 V l.length (logC l)) (hl : l.length ≤ 1000) =>
  wrong_any num row Bl Bl V l w' h (hT.only hO) (hM.only hO) (hV.only hO) hB hown (Nat.le_of_lt hB.lt) hl)
 have hmf : ∀ (fn : Fn) (first cap : Array Value) (w : World), (Instr.makeFunc fn first cap).run Tryz.prog w = .ok (.func fn first cap) w := fun _ _ _ _ => rfl;obtain ⟨r, hr⟩ : ∃ r, r = logParse s := ⟨_, rfl⟩;rw [← hr];have HR := Hd hr;have HROWS := Hd hrow;have hln := cutL_len (by_ s) [];rw [by_length] at hln;clear hr hT hM hV hrow;go_enter Tryz.func50, Tryz.ntmps50;go_wp2_with fail
 refine (HOF.out).mono ?_;rintro e w1 ⟨O1, ⟨hval, V0, xs, rfl, hown0, hxs⟩ | ⟨i, x, hx, hbad, hfirst, rfl⟩⟩
 ·have hidx : (linesOf (by_ s)).findIdx? (fun x => !validD x) = none := by
   rw [List.findIdx?_eq_none_iff];intro x hx;rw [hval x hx]
   rfl
  have hr : r = logOf xs 1 [] := by
   rw [HR.out];unfold logParse;rw [if_neg (by omega), hidx, rows_eq hxs]
  have HXS : Hid (∀ x ∈ xs, x.size ≤ 65535) := Hd (fun x hx => by
   have := HROWS.out (by_ x) (by rw [← hxs]; exact List.mem_map_of_mem hx)
   rwa [by_length] at this)
  have hnl : xs.length ≤ 65537 := by
   have := congrArg List.length hxs;rw [List.length_map] at this;unfold linesOf at this;omega
  obtain ⟨A0, c0, rfl, -, -, -, hrow0⟩ := own_row hown0;generalize hn : xs.length = n at *;have HN := Hd hn;have HRR := Hd hr;have HO1 := Hd O1;have HROW := Hd hrow0;have HB1 := Hd (Blk.made w1 76 #[.slice none 0 0]);have hsz1 := O1.size;clear hval hown0 hxs hidx HR HROWS hn hr O1 hrow0 hln;generalize hbl : w1.heap.size = Bl at *;go_wp2_with fail
  go_loopw [26] (fun iv wr => ∃ (k : Nat) (V : Value) (acc : List Ev6), iv = .int .i64 k ∧ k ≤ n ∧ acc.length ≤ 1000 ∧ Hid (r = logOf (xs.drop k) ((k : Int) + 1) acc) ∧ Hid (Blk wr Bl 76 #[V]) ∧ Hid (wr.ownsRow Bl 95 6 V acc.length (logC acc)) ∧ Hid (Only [] w wr) ∧ Hid (Only [Bl] w1 wr)) (fun iv _ => n - (intOf iv).toNat)
  case atStart => exact ⟨0, .slice none 0 0, [], rfl, by omega, by simp, HRR, HB1, Hd (row_nil _ _), Hd (HO1.out.alloc _), Hd ((Only.refl _ w1).alloc _)⟩
  case round =>
   obtain ⟨k, V, acc, rfl, hk, hacc, hR, hB, hown, hO, hOB⟩ := hrel
   by_cases hlt : k < n
   ·have h01 : (k : Int) < (n : Int) := by omega
    have hk0 : (0 : Int) ≤ (k : Int) := Int.natCast_nonneg _;have hwk : IntKind.i64.wrap ((k : Int) + 1) = (k : Int) + 1 := IntWalk.i64_in _ (by omega);obtain ⟨b, off, rfl, hbB, hbw, hcell⟩ := HROW.out.open_ (k := k) (by rw [strs, List.length_map, HN.out]; exact hlt);obtain ⟨x, hx⟩ : ∃ x, xs[k]? = some x := ⟨_, List.getElem?_eq_getElem (by rw [HN.out]; exact hlt)⟩;have hck : wr.cell? ⟨b, off + k, none⟩ = some (.string x) := (hOB.out.cell (p := ⟨b, off + k, none⟩) hbw (by simp only [List.mem_singleton]; omega)).trans (hcell k _ (by rw [strs, List.getElem?_map, hx]; rfl));have HW := Hd (HWR.out ((k : Int) + 1) x Bl V acc wr (HXS.out x (List.mem_of_getElem? hx)) hO.out hB.out hown.out hacc);have hstep : logOf (xs.drop k) ((k : Int) + 1) acc = if stepE acc x = 0 then logOf (xs.drop (k + 1)) (((k + 1 : Nat) : Int) + 1) (stepL acc ((k : Int) + 1) x) else ([], (k : Int) + 1, stepE acc x) := by
     obtain ⟨h1, h2⟩ := List.getElem?_eq_some_iff.1 hx;rw [List.drop_eq_getElem_cons h1, h2]
     rfl
    have hlen := stepL_len acc ((k : Int) + 1) x hacc;have HST := Hd (hR.out.trans hstep);generalize stepL acc ((k : Int) + 1) x = acc2 at *;generalize stepE acc x = E at *;clear hcell hx hstep;go_wp2_with fail
    refine (HW.out).mono ?_;rintro e w2 ⟨rfl, V2, hB2, hown2, hO2⟩;have HB2 := Hd hB2;have HOWN2 := Hd hown2;have hO3 : Only [] w w2 := hO.out.step hO2 (fun i hi hl => by
     rcases List.mem_cons.1 hi with rfl | h
     ·omega
     ·exact own_new hown.out i h (by omega))
    have hO4 : Only [Bl] w1 w2 := hOB.out.step hO2 (fun i hi hl => by
     rcases List.mem_cons.1 hi with rfl | h
     ·simp
     ·exact own_new hown.out i h (by omega))
    have HO3 := Hd hO3;have HO4 := Hd hO4;clear hB2 hown2 hO2 hO3 hO4 HW
    by_cases hE : E = 0
    ·subst hE;have HR2 : Hid (r = logOf (xs.drop (k + 1)) (((k + 1 : Nat) : Int) + 1) acc2) := Hd (by rw [HST.out, if_pos rfl]);go_wp2
     go_roundw
     case rel => exact ⟨k + 1, V2, acc2, by go_num, by omega, hlen, HR2, HB2, HOWN2, HO3, HO4⟩
     case measure => simp [intOf]; omega
    ·have hE' : (E != 0) = true := by simpa using hE
     obtain rfl : r = ([], (k : Int) + 1, E) := by rw [HST.out, if_neg hE]
     clear HST hE;go_wp2
     go_ret3
     exact ⟨HO3.out, _, rfl, row_nil _ _⟩
   ·have hkn : k = n := by omega
    subst hkn;have hd : decide ((k : Int) < (k : Int)) = false := by simp
    obtain rfl : r = (acc, 0, 0) := by rw [hR.out, List.drop_of_length_le (by rw [HN.out]; exact Nat.le_refl _)]; rfl
    have lB := hB.out.lt;have cB := hB.out.at_ 0;simp at cB;go_wp2
    go_ret3
    exact ⟨hO.out, V, rfl, own_lowerP hown.out hsz1⟩
 ·have hidx : (linesOf (by_ s)).findIdx? (fun x => !validD x) = some i := by
   rw [List.findIdx?_eq_some_iff_getElem];obtain ⟨h1, h2⟩ := List.getElem?_eq_some_iff.1 hx;refine ⟨h1, by rw [h2, hbad]; rfl, fun j hj => ?_⟩;have := hfirst j _ hj (List.getElem?_eq_getElem (by omega));rw [this];simp
  obtain rfl : r = ([], (i : Int) + 1, 5) := by
   rw [HR.out];unfold logParse;rw [if_neg (by omega), hidx]
  have HO1 := Hd O1;clear hx hbad hfirst hidx HR O1 HROWS;go_wp2
  go_ret3
  exact ⟨HO1.out, _, rfl, row_nil _ _⟩
end Go.Proofs.YtghimogdeijgdaaGreatDoor
