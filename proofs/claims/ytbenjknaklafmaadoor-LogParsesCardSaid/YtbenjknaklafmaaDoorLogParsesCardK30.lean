/- Logs: what a line does to the events so far; the closure of log.Parse. -/
import Derived.Test.YtbenjknaklafmaaDoorLogParsesCardK29
import Derived.Test.YtbenjknaklafmaaDoorLogParsesCardK10
import Derived.Deep.CutBlock
import Derived.Deep.DeepCutAuto
set_option linter.unusedVariables false
set_option linter.unusedSimpArgs false
namespace Go.Proofs.YtbenjknaklafmaaDoor
open Go.RowKit
open Go.Lib hiding intOf
attribute [local go_sem ↓] Go.wp_at_zero Go.wp_at_succ

/-- An event with its line. -/
structure Ev6 where
  k : Int
  s : ByteArray
  y : ByteArray
  vk : Int
  vn : Int
  ln : Int
def Ev6.c (x : Ev6) : List Value := [.int .i64 x.k, .string x.s, .string x.y, .int .i64 x.vk, .int .i64 x.vn, .int .i64 x.ln]
def logC (l : List Ev6) : List Value := l.flatMap Ev6.c
theorem logC_len (l : List Ev6) : (logC l).length = l.length * 6 := by
  induction l with
  | nil => rfl
  | cons x l ih => simp only [logC, List.flatMap_cons, List.length_append, List.length_cons] at ih ⊢; rw [ih]; simp [Ev6.c]; omega
theorem logC_snoc (l : List Ev6) (x : Ev6) : logC (l ++ [x]) = logC l ++ x.c := by simp [logC]
theorem one_logC (l : List Ev6) : ∀ u ∈ logC l, u.oneCell' = true := by
  intro u hu
  simp only [logC, List.mem_flatMap, Ev6.c, List.mem_cons, List.not_mem_nil, or_false] at hu
  obtain ⟨e, _, rfl | rfl | rfl | rfl | rfl | rfl⟩ := hu <;> rfl
theorem logC_get : ∀ (l : List Ev6) (i : Nat) (x : Ev6), l[i]? = some x → ∀ j, j < 6 → (logC l)[i * 6 + j]? = x.c[j]?
  | [], i, x, h, _, _ => by simp at h
  | x0 :: l, 0, x, h, j, hj => by
    simp at h
    subst h
    simp only [logC, List.flatMap_cons]
    rw [List.getElem?_append_left (by simp [Ev6.c]; omega)]
    simp
  | x0 :: l, i + 1, x, h, j, hj => by
    have := logC_get l i x (by simpa using h) j hj
    simp only [logC, List.flatMap_cons] at this ⊢
    rw [List.getElem?_append_right (by simp [Ev6.c]; omega)]
    rw [← this]
    congr 1
    simp [Ev6.c]
    omega

/-- What a line does. -/
def stepE (l : List Ev6) (row : ByteArray) : Int := if (evParse row).is = true then (if l.length = 1000 then 7 else 0) else (evParse row).e
def stepL (l : List Ev6) (num : Int) (row : ByteArray) : List Ev6 := if (evParse row).is = true ∧ l.length ≠ 1000 then l ++ [⟨(evParse row).k, (evParse row).s, (evParse row).y, (evParse row).vk, (evParse row).vn, num⟩] else l

theorem info_event : (Tryd.prog.info? 38).map (fun i => (i.zero, i.size, i.bytes)) = some (some (.agg #[.int .i64 0, .string ⟨#[]⟩, .string ⟨#[]⟩, .int .i64 0, .int .i64 0, .int .i64 0]), 6, 64) := by kernel_rfl

set_option maxRecDepth 10000 in
set_option maxHeartbeats 4000000 in
theorem wrong_any (num : Int) (row : ByteArray) (Bl base : Nat) (V : Value) (l : List Ev6) (w : World) (hs : row.size ≤ 65535) (hT : UTabs w) (hM : MLen w) (hV : Verbs w)
    (hB : Blk w Bl 23 #[V]) (hown : w.ownsRow base 38 6 V l.length (logC l)) (hbase : base ≤ w.heap.size) (hl : l.length ≤ 1000) :
    Calls Tryd.prog 17 #[.int .i64 num, .string row, .pointer (some ⟨Bl, 0, none⟩)] w fun e w' => e = .returned (.int .i64 (stepE l row)) ∧
      ∃ V', Blk w' Bl 23 #[V'] ∧ w'.ownsRow base 38 6 V' (stepL l num row).length (logC (stepL l num row)) ∧ Only (Bl :: V.ownBlock.toList) w w' := by
  obtain ⟨i0, hi, hz0, hz1, hz2⟩ := info_parts info_event
  have HP := Lib.hid (evparse_any row w hs hT hM hV)
  have HM := Lib.hid (ev_may row)
  unfold stepE stepL
  unfold evRV at HP
  generalize evParse row = r at *
  obtain ⟨k, s, y, vk, vn, is, er⟩ := r
  dsimp only at HP HM ⊢
  clear hT hM hV hs
  obtain ⟨A, c, hVs, hc1, hc2, hcl, -⟩ := own_row hown
  have hapart := own_apart hown hB (by decide)
  subst hVs
  have HOWN := Lib.hid hown
  have HBL := Lib.hid hB
  generalize hm : l.length = m at *
  clear hown hB hcl
  go_enter Tryd.func17, Tryd.ntmps17
  go_wp2_with fail
  refine (HP.out).mono ?_
  rintro e w1 ⟨rfl, O1⟩
  have bE := Blk.made w1 38 #[.int .i64 k, .string s, .string y, .int .i64 vk, .int .i64 vn, .int .i64 0]
  have O2 : Only [] w (w1.alloc (.cells #[.int .i64 k, .string s, .string y, .int .i64 vk, .int .i64 vn, .int .i64 0] 38)) := O1.alloc _
  have bB := O2.blk HBL.out (by simp)
  have HO1 := Lib.hid O1
  have HO2 := Lib.hid O2
  have HOWN2 := Lib.hid (own_only HOWN.out O2 (by simp))
  have hsz := O1.size
  clear O1 O2
  cases is with
  | false =>
    have hcase : er = 0 ∨ (er != 0) = true := by
      by_cases h : er = 0
      · exact .inl h
      · exact .inr (by simpa using h)
    rcases hcase with rfl | hcase
    all_goals
      go_wp2
      go_ret
      refine ⟨by simp, _, bB, ?_, HO2.out.wide (fun i hi => by cases hi)⟩
      first
      | exact HOWN2.out
      | (rw [if_neg (by simp), hm]; exact HOWN2.out)
  | true =>
    obtain ⟨rfl, -⟩ := HM.out rfl
    have lB := bB.lt
    have cB := bB.at_ 0
    simp at cB lB
    by_cases h1000 : m = 1000
    · subst h1000
      go_wp2
      go_ret
      refine ⟨by simp, _, bB, ?_, HO2.out.wide (fun i hi => by cases hi)⟩
      first
      | exact HOWN2.out
      | (rw [if_neg (by simp [hm]), hm]; exact HOWN2.out)
    · have hne : ((m : Int) == 1000) = false := by simp; omega
      have bE5 := bE.put 5 (.int .i64 num)
      go_upto_region 7 with (fail)
      have O3 : Only [] w (w1.alloc (.cells #[.int .i64 k, .string s, .string y, .int .i64 vk, .int .i64 vn, .int .i64 num] 38)) := HO1.out.alloc _
      have bE3 := Blk.made w1 38 #[.int .i64 k, .string s, .string y, .int .i64 vk, .int .i64 vn, .int .i64 num]
      have bB3 := O3.blk HBL.out (by simp)
      have hown3 := own_only HOWN.out O3 (by simp)
      clear bE5 bE bB HO2 HOWN2 lB cB HO1
      generalize (w1.alloc (.cells #[.int .i64 k, .string s, .string y, .int .i64 vk, .int .i64 vn, .int .i64 num] 38)) = w2 at *
      generalize w1.heap.size = ge at *
      have HO3 := Lib.hid O3
      have HOWN3 := Lib.hid hown3
      have HB3 := Lib.hid bB3
      have hsz3 := O3.size
      have lB := bB3.lt
      have cB := bB3.at_ 0
      have lE := bE3.lt
      have e0 := bE3.at_ 0
      have e1 := bE3.at_ 1
      have e2 := bE3.at_ 2
      have e3 := bE3.at_ 3
      have e4 := bE3.at_ 4
      have e5 := bE3.at_ 5
      simp at cB e0 e1 e2 e3 e4 e5
      clear O3 hown3 bB3 bE3
      go_wp2_with (
        at_builtin
        refine wpList_append_row _ rfl (.tmp 29) (.tmp 31) _ rfl base 38 i0 _ 6 64 Tryd.underlying23 hi hz0 hz1 hz2 rfl (by omega) _ m (logC l) rfl (own_only HOWN3.out ((Only.refl [] w2).alloc _) (by simp)) (w2.heap.size + 1) (some ⟨w2.heap.size, 0, none⟩) 1 1 [.int .i64 k, .string s, .string y, .int .i64 vk, .int .i64 vn, .int .i64 num] (by rfl) (by rfl) (row_lit w2 38 #[.int .i64 k, .string s, .string y, .int .i64 vk, .int .i64 vn, .int .i64 num]) (by intro u hu; simp at hu; rcases hu with rfl | rfl | rfl | rfl | rfl | rfl <;> rfl) (by unfold maxLen; omega) (by omega) (by simp; omega) ?_
        intro v4 w4 hown4 hgrow hat
        obtain ⟨A4, c4, rfl, -, -, -, -⟩ := own_row hown4
        have b4 := (only_grown hgrow).blk (HB3.out.alloc (.cells #[.int .i64 k, .string s, .string y, .int .i64 vk, .int .i64 vn, .int .i64 num] 38)) hapart
        have O4 := ((HO3.out.alloc (.cells #[.int .i64 k, .string s, .string y, .int .i64 vk, .int .i64 vn, .int .i64 num] 38)).wide (T := (Value.slice A m c).ownBlock.toList) (fun i hi => by cases hi)).step (only_grown hgrow) (fun i hi _ => hi)
        have HB4 := Lib.hid b4
        have HO4 := Lib.hid O4
        have HOWN4 := Lib.hid hown4
        have HAT := Lib.hid hat
        have l4 := b4.lt
        have d4 := b4.at_ 0
        have g4 := b4.free 0
        simp at d4
        clear b4 O4 hown4 hat hgrow)
      go_ret
      have hap4 := own_apart HOWN4.out HB4.out (by decide)
      refine ⟨rfl, _, HB4.out.put 0 _, ?_, (HO4.out.wide (fun i hi _ => by simp [hi])).put (p := ⟨Bl, 0, none⟩) (fun _ => by simp) _⟩
      have h5 := own_only HOWN4.out ((Only.refl [Bl] w4).put (p := ⟨Bl, 0, none⟩) (fun _ => by simp) (.slice A4 (m + 1) c4)) (fun g hg hm => by
        simp at hm
        subst hm
        exact hap4 (by rw [hg]; simp))
      rw [logC_snoc]
      exact h5

end Go.Proofs.YtbenjknaklafmaaDoor
