/- Parts. -/
import Derived.Lib.ItoaLen
import Derived.Test.YthdofaoamljkfaaGreatDoorWrTellsCardK31
set_option maxRecDepth 10000
set_option maxHeartbeats 16000000
set_option linter.unusedVariables false
set_option linter.unusedSimpArgs false
namespace Go.Proofs.YthdofaoamljkfaaGreatDoor
open Go.RowKit
open Go.Lib hiding intOf
attribute [local go_sem ↓] Go.wp_at_zero Go.wp_at_succ

end Go.Proofs.YthdofaoamljkfaaGreatDoor
namespace Go.Proofs.YthdofaoamljkfaaGreatDoor
open Go.RowKit
open Go.Lib hiding intOf
theorem pv_may {l : List UInt8} (h : pvE l = 0) : mayB (pvK l) (pvN l) = true ∧ (pvK l = 0 ∨ pvK l = 1 ∨ pvK l = 2) := by
 unfold pvE at h;unfold pvK pvN
 by_cases h1 : l = [110, 105, 108]
 ·rw [if_pos h1, if_pos h1]; exact ⟨by decide, by decide⟩
 ·rw [if_neg h1, if_neg h1];rw [if_neg h1] at h
  by_cases h2 : l = [63]
  ·rw [if_pos h2, if_pos h2]; exact ⟨by decide, by decide⟩
  ·rw [if_neg h2, if_neg h2];rw [if_neg h2] at h;rw [if_pos h, if_pos h];exact ⟨by simp [mayB], by simp⟩
theorem ev_may (s : ByteArray) (h : (evParse s).is = true) : (evParse s).e = 0 ∧ evOk (evParse s).k (evParse s).s (evParse s).y (evParse s).vk (evParse s).vn = true := by
 have key : ∀ r : EvR, r = evParse s → r.is = true → r.e = 0 ∧ evOk r.k r.s r.y r.vk r.vn = true := by
  intro r hr his;unfold evParse at hr
  by_cases hb : badL (by_ s) = true
  ·rw [if_pos hb] at hr;exact absurd his (by rw [hr]; simp [evNo])
  rw [if_neg hb] at hr
  cases hws : textsOf s with
  | nil =>
   rw [hws] at hr;exact absurd his (by rw [hr]; simp [evOf, evNo])
  | cons w0 rest =>
   rw [hws] at hr;unfold evOf at hr;dsimp only at hr
   by_cases hc : kOk (wK w0) = true ∧ ((w0 :: rest).length : Int) = (if kO (wK w0) = true then 4 else 2) ∧ isName ((w0 :: rest).getD 1 ⟨#[]⟩) = true
   ·rw [if_pos hc] at hr;obtain ⟨c1, c2, c3⟩ := hc
    by_cases c4 : kO (wK w0) = true
    ·rw [if_pos c4] at hr
     by_cases c5 : isName ((w0 :: rest).getD 2 ⟨#[]⟩) = true
     ·rw [if_pos c5] at hr
      by_cases c6 : opE (wK w0) ((w0 :: rest).getD 3 ⟨#[]⟩) = 0
      ·rw [if_pos c6] at hr;subst hr;refine ⟨rfl, ?_⟩;dsimp only;have c7 : pvE (by_ ((w0 :: rest).getD 3 ⟨#[]⟩)) = 0 := by
        unfold opE at c6
        by_cases hz : pvE (by_ ((w0 :: rest).getD 3 ⟨#[]⟩)) = 0
        ·exact hz
        ·rw [if_pos hz] at c6; exact absurd c6 hz
       obtain ⟨m1, m2⟩ := pv_may c7;have hoK : opK (wK w0) ((w0 :: rest).getD 3 ⟨#[]⟩) = pvK (by_ ((w0 :: rest).getD 3 ⟨#[]⟩)) := by unfold opK; rw [c6]; rfl
       have hoN : opN (wK w0) ((w0 :: rest).getD 3 ⟨#[]⟩) = pvN (by_ ((w0 :: rest).getD 3 ⟨#[]⟩)) := by unfold opN; rw [c6]; rfl
       rw [hoK, hoN];unfold opE at c6;rw [if_neg (by rw [c7]; simp)] at c6;unfold evOk;rw [c1, c3, c4, c5, m1]
       by_cases h3 : wK w0 = 3
       ·have : pvK (by_ ((w0 :: rest).getD 3 ⟨#[]⟩)) = 1 := by
         rcases m2 with e | e | e
         ·rw [if_neg (by rw [e]; omega), if_pos ⟨h3, e⟩] at c6; exact absurd c6 (by decide)
         ·exact e
         ·rw [if_pos ⟨h3, e⟩] at c6; exact absurd c6 (by decide)
        rw [this];simp
       ·simp [h3]
      ·rw [if_neg c6] at hr;exact absurd his (by rw [hr]; simp [evNo])
     ·rw [if_neg c5] at hr;exact absurd his (by rw [hr]; simp [evNo])
    ·rw [if_neg c4] at hr;subst hr;refine ⟨rfl, ?_⟩;dsimp only;have c5 : kO (wK w0) = false := by simpa using c4
     unfold evOk;rw [c1, c3, c5]
     rfl
   ·rw [if_neg hc] at hr;exact absurd his (by rw [hr]; simp [evNo])
 exact key _ rfl h
end Go.Proofs.YthdofaoamljkfaaGreatDoor
namespace Go.Proofs.YthdofaoamljkfaaGreatDoor
open Go.RowKit
structure Ev6 where
 k : Int
 s : ByteArray
 y : ByteArray
 vk : Int
 vn : Int
 ln : Int
def Ev6.c (x : Ev6) : List Value := [.int .i64 x.k, .string x.s, .string x.y, .int .i64 x.vk, .int .i64 x.vn, .int .i64 x.ln]
def logC (l : List Ev6) : List Value := l.flatMap Ev6.c
theorem logC_len (l : List Ev6) : (logC l).length = l.length * 6 := by
 induction l with
 | nil => rfl
 | cons x l ih => simp only [logC, List.flatMap_cons, List.length_append, List.length_cons] at ih ⊢; rw [ih]; simp [Ev6.c]; omega
theorem logC_snoc (l : List Ev6) (x : Ev6) : logC (l ++ [x]) = logC l ++ x.c := by simp [logC]
theorem logC_get : ∀ (l : List Ev6) (i : Nat) (x : Ev6), l[i]? = some x → ∀ j, j < 6 → (logC l)[i * 6 + j]? = x.c[j]?
 | [], i, x, h, _, _ => by simp at h
 | x0 :: l, 0, x, h, j, hj => by
  simp at h;subst h;simp only [logC, List.flatMap_cons];rw [List.getElem?_append_left (by simp [Ev6.c]; omega)];simp
 | x0 :: l, i + 1, x, h, j, hj => by
  have := logC_get l i x (by simpa using h) j hj;simp only [logC, List.flatMap_cons] at this ⊢;rw [List.getElem?_append_right (by simp [Ev6.c]; omega)];rw [← this]
  congr 1
  simp [Ev6.c];omega
theorem info_event : (Tryz.prog.info? 104).map (fun i => (i.zero, i.size, i.bytes)) = some (some (.agg #[.int .i64 0, .string ⟨#[]⟩, .string ⟨#[]⟩, .int .i64 0, .int .i64 0, .int .i64 0]), 6, 64) := by kernel_rfl
structure EvAt (w : World) (b o : Nat) (x : Ev6) : Prop where
 c0 : w.cell? ⟨b, o, none⟩ = some (.int .i64 x.k)
 c1 : w.cell? ⟨b, o + 1, none⟩ = some (.string x.s)
 c2 : w.cell? ⟨b, o + 2, none⟩ = some (.string x.y)
 c3 : w.cell? ⟨b, o + 3, none⟩ = some (.int .i64 x.vk)
 c4 : w.cell? ⟨b, o + 4, none⟩ = some (.int .i64 x.vn)
 c5 : w.cell? ⟨b, o + 5, none⟩ = some (.int .i64 x.ln)
theorem EvAt.only {S : List Nat} {w w' : World} {b o : Nat} {x : Ev6} (h : EvAt w b o x) (ho : Only S w w') (hb : b < w.heap.size) (hs : b ∉ S) : EvAt w' b o x :=
 ⟨(ho.cell (p := ⟨b, o, none⟩) hb hs).trans h.c0, (ho.cell (p := ⟨b, o + 1, none⟩) hb hs).trans h.c1, (ho.cell (p := ⟨b, o + 2, none⟩) hb hs).trans h.c2, (ho.cell (p := ⟨b, o + 3, none⟩) hb hs).trans h.c3,
  (ho.cell (p := ⟨b, o + 4, none⟩) hb hs).trans h.c4, (ho.cell (p := ⟨b, o + 5, none⟩) hb hs).trans h.c5⟩
theorem row_ev {w : World} {B : Nat} {A : Option Addr} {l : List Ev6} (h : Row w B A (logC l)) {k : Nat} {x : Ev6} (hk : l[k]? = some x) : ∃ b off, A = some ⟨b, off, none⟩ ∧ b < B ∧ b < w.heap.size ∧ EvAt w b (off + k * 6) x := by
 have hlt := (List.getElem?_eq_some_iff.1 hk).1;obtain ⟨b, off, rfl, h1, h2, hc⟩ := h.open_ (k := k * 6) (by rw [logC_len]; omega);have g := logC_get l k x hk;refine ⟨b, off, rfl, h1, h2, ⟨?_, ?_, ?_, ?_, ?_, ?_⟩⟩
 ·exact hc (k * 6) _ (g 0 (by omega))
 ·rw [Nat.add_assoc]; exact hc _ _ (g 1 (by omega))
 ·rw [Nat.add_assoc]; exact hc _ _ (g 2 (by omega))
 ·rw [Nat.add_assoc]; exact hc _ _ (g 3 (by omega))
 ·rw [Nat.add_assoc]; exact hc _ _ (g 4 (by omega))
 ·rw [Nat.add_assoc]; exact hc _ _ (g 5 (by omega))
open Go.Lib hiding intOf
attribute [local go_sem ↓] Go.wp_at_zero Go.wp_at_succ
def stepE (l : List Ev6) (row : ByteArray) : Int := if (evParse row).is = true then (if l.length = 1000 then 7 else 0) else (evParse row).e
def stepL (l : List Ev6) (num : Int) (row : ByteArray) : List Ev6 := if (evParse row).is = true ∧ l.length ≠ 1000 then l ++ [⟨(evParse row).k, (evParse row).s, (evParse row).y, (evParse row).vk, (evParse row).vn, num⟩] else l
theorem wrong_any (num : Int) (row : ByteArray) (Bl base : Nat) (V : Value) (l : List Ev6) (w : World) (hs : row.size ≤ 65535) (hT : UTabs w) (hM : MLen w) (hV : Verbs w)
  (hB : Blk w Bl 77 #[V]) (hown : w.ownsRow base 104 6 V l.length (logC l)) (hbase : base ≤ w.heap.size) (hl : l.length ≤ 1000) :
  Calls Tryz.prog 74 #[.int .i64 num, .string row, .pointer (some ⟨Bl, 0, none⟩)] w fun e w' => e = .returned (.int .i64 (stepE l row)) ∧
   ∃ V', Blk w' Bl 77 #[V'] ∧ w'.ownsRow base 104 6 V' (stepL l num row).length (logC (stepL l num row)) ∧ Only (Bl :: V.ownBlock.toList) w w' := by
 obtain ⟨i0, hi, hz0, hz1, hz2⟩ := info_parts info_event;have HP := Hd (evparse_any row w hs hT hM hV);have HM := Hd (ev_may row);unfold stepE stepL;unfold evRV at HP;generalize evParse row = r at *;obtain ⟨k, s, y, vk, vn, is, er⟩ := r;dsimp only at HP HM ⊢;clear hT hM hV hs;obtain ⟨A, c, hVs, hc1, hc2, hcl, -⟩ := own_row hown;have hapart := own_apart hown hB (by decide);subst hVs;have HOWN := Hd hown;have HBL := Hd hB;generalize hm : l.length = m at *;clear hown hB hcl;go_enter Tryz.func74, Tryz.ntmps74;go_wp2_with fail
 refine (HP.out).mono ?_;rintro e w1 ⟨rfl, O1⟩;have bE := Blk.made w1 104 #[.int .i64 k, .string s, .string y, .int .i64 vk, .int .i64 vn, .int .i64 0];have O2 : Only [] w (w1.alloc (.cells #[.int .i64 k, .string s, .string y, .int .i64 vk, .int .i64 vn, .int .i64 0] 104)) := O1.alloc _;have bB := O2.blk HBL.out (by simp);have HO1 := Hd O1;have HO2 := Hd O2;have HOWN2 := Hd (own_only HOWN.out O2 (by simp));have hsz := O1.size;clear O1 O2
 cases is with
 | false =>
  have hcase : er = 0 ∨ (er != 0) = true := by
   by_cases h : er = 0
   ·exact .inl h
   ·exact .inr (by simpa using h)
  rcases hcase with rfl | hcase
  all_goals
   go_wp2
   go_ret
   refine ⟨by simp, _, bB, ?_, HO2.out.wide (fun i hi => by cases hi)⟩
   first
   | exact HOWN2.out
   | (rw [if_neg (by simp), hm]; exact HOWN2.out)
 | true =>
  obtain ⟨rfl, -⟩ := HM.out rfl;have lB := bB.lt;have cB := bB.at_ 0;simp at cB lB
  by_cases h1000 : m = 1000
  ·subst h1000;go_wp2
   go_ret
   refine ⟨by simp, _, bB, ?_, HO2.out.wide (fun i hi => by cases hi)⟩
   first
   | exact HOWN2.out
   | (rw [if_neg (by simp [hm]), hm]; exact HOWN2.out)
  ·have hne : ((m : Int) == 1000) = false := by simp; omega
   have bE5 := bE.put 5 (.int .i64 num);go_upto_region 7 with (fail)
   have O3 : Only [] w (w1.alloc (.cells #[.int .i64 k, .string s, .string y, .int .i64 vk, .int .i64 vn, .int .i64 num] 104)) := HO1.out.alloc _;have bE3 := Blk.made w1 104 #[.int .i64 k, .string s, .string y, .int .i64 vk, .int .i64 vn, .int .i64 num];have bB3 := O3.blk HBL.out (by simp);have hown3 := own_only HOWN.out O3 (by simp);clear bE5 bE bB HO2 HOWN2 lB cB HO1;generalize (w1.alloc (.cells #[.int .i64 k, .string s, .string y, .int .i64 vk, .int .i64 vn, .int .i64 num] 104)) = w2 at *;generalize w1.heap.size = ge at *;have HO3 := Hd O3;have HOWN3 := Hd hown3;have HB3 := Hd bB3;have hsz3 := O3.size;have lB := bB3.lt;have cB := bB3.at_ 0;have lE := bE3.lt;have e0 := bE3.at_ 0;have e1 := bE3.at_ 1;have e2 := bE3.at_ 2;have e3 := bE3.at_ 3;have e4 := bE3.at_ 4;have e5 := bE3.at_ 5;simp at cB e0 e1 e2 e3 e4 e5;clear O3 hown3 bB3 bE3;go_wp2_with (
    at_builtin
    refine wpList_append_row _ rfl (.tmp 29) (.tmp 31) _ rfl base 104 i0 _ 6 64 Tryz.underlying77 hi hz0 hz1 hz2 rfl (by omega) _ m (logC l) rfl (own_only HOWN3.out ((Only.refl [] w2).alloc _) (by simp)) (w2.heap.size + 1) (some ⟨w2.heap.size, 0, none⟩) 1 1 [.int .i64 k, .string s, .string y, .int .i64 vk, .int .i64 vn, .int .i64 num] (by rfl) (by rfl) (row_lit w2 104 #[.int .i64 k, .string s, .string y, .int .i64 vk, .int .i64 vn, .int .i64 num]) (by intro u hu; simp at hu; rcases hu with rfl | rfl | rfl | rfl | rfl | rfl <;> rfl) (by unfold maxLen; omega) (by omega) (by simp; omega) ?_;intro v4 w4 hown4 hgrow hat;obtain ⟨A4, c4, rfl, -, -, -, -⟩ := own_row hown4;have b4 := (only_grown hgrow).blk (HB3.out.alloc (.cells #[.int .i64 k, .string s, .string y, .int .i64 vk, .int .i64 vn, .int .i64 num] 104)) hapart;have O4 := ((HO3.out.alloc (.cells #[.int .i64 k, .string s, .string y, .int .i64 vk, .int .i64 vn, .int .i64 num] 104)).wide (T := (Value.slice A m c).ownBlock.toList) (fun i hi => by cases hi)).step (only_grown hgrow) (fun i hi _ => hi);have HB4 := Hd b4;have HO4 := Hd O4;have HOWN4 := Hd hown4;have HAT := Hd hat;have l4 := b4.lt;have d4 := b4.at_ 0;have g4 := b4.free 0;simp at d4;clear b4 O4 hown4 hat hgrow)
   go_ret
   have hap4 := own_apart HOWN4.out HB4.out (by decide);refine ⟨rfl, _, HB4.out.put 0 _, ?_, (HO4.out.wide (fun i hi _ => by simp [hi])).put (p := ⟨Bl, 0, none⟩) (fun _ => by simp) _⟩;have h5 := own_only HOWN4.out ((Only.refl [Bl] w4).put (p := ⟨Bl, 0, none⟩) (fun _ => by simp) (.slice A4 (m + 1) c4)) (fun g hg hm => by
    simp at hm;subst hm;exact hap4 (by rw [hg]; simp))
   rw [logC_snoc];exact h5
end Go.Proofs.YthdofaoamljkfaaGreatDoor
