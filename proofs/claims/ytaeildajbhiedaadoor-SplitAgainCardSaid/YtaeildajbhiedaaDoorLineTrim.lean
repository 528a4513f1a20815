/- Trim: the program's and the document's. -/
import Derived.Test.YtaeildajbhiedaaDoorLineIt
import Derived.OwnWalk
import Derived.Test.YtaeildajbhiedaaDoorShelfT
import Derived.Deep.CutBlock
import Derived.Deep.DeepCutAuto
set_option linter.unusedVariables false
set_option linter.unusedSimpArgs false
namespace Go.Proofs.YtaeildajbhiedaaDoor
open Go.RowKit
open Go.Lib hiding intOf
attribute [local go_sem ↓] Go.wp_at_zero Go.wp_at_succ

def blanks : List UInt8 := [9, 13, 32]
theorem right_cons (x : UInt8) (t cs : List UInt8) : trimRightS (x :: t) cs = if trimRightS t cs = [] then (if cs.contains x = true then [] else [x]) else x :: trimRightS t cs := by
  unfold trimRightS
  rw [List.reverse_cons, List.dropWhile_append]
  by_cases h : (t.reverse.dropWhile (cs.contains ·)) = []
  · rw [h, if_pos (by rfl), List.reverse_nil, if_pos rfl, List.dropWhile_cons, List.dropWhile_nil]
    by_cases hx : cs.contains x = true
    · simp only [hx, if_true, List.reverse_nil]
    · simp only [hx, if_false, List.reverse_singleton]; rfl
  · rw [if_neg (by simpa using h), if_neg (by simpa using h)]
    simp
/-- Left first or right first: the same. -/
theorem trim_comm (cs : List UInt8) : ∀ l : List UInt8, trimLeftS (trimRightS l cs) cs = trimRightS (trimLeftS l cs) cs := by
  intro l
  induction l with
  | nil => rfl
  | cons x t ih =>
    have hL : trimLeftS (x :: t) cs = if cs.contains x = true then trimLeftS t cs else x :: t := by
      unfold trimLeftS
      rw [List.dropWhile_cons]
    rw [hL]
    by_cases hx : cs.contains x = true
    · rw [if_pos hx, right_cons]
      by_cases hr : trimRightS t cs = []
      · rw [if_pos hr, if_pos hx, ← ih, hr]
      · rw [if_neg hr, ← ih]
        unfold trimLeftS
        rw [List.dropWhile_cons, if_pos hx]
    · rw [if_neg hx, right_cons]
      by_cases hr : trimRightS t cs = []
      · rw [if_pos hr, if_neg hx]
        unfold trimLeftS
        rw [List.dropWhile_cons, if_neg hx]
      · rw [if_neg hr]
        unfold trimLeftS
        rw [List.dropWhile_cons, if_neg hx]
theorem right_snoc (l : List UInt8) (x : UInt8) (cs : List UInt8) : trimRightS (l ++ [x]) cs = if cs.contains x = true then trimRightS l cs else l ++ [x] := by
  unfold trimRightS
  rw [List.reverse_append, List.reverse_singleton, List.singleton_append, List.dropWhile_cons]
  split
  · rfl
  · simp
theorem left_cons (l : List UInt8) (x : UInt8) (cs : List UInt8) : trimLeftS (x :: l) cs = if cs.contains x = true then trimLeftS l cs else x :: l := by
  unfold trimLeftS
  rw [List.dropWhile_cons]

set_option maxHeartbeats 1000000 in
theorem trim_any (s : ByteArray) (w : World) (hs : s.size ≤ 9223372036854775807) :
    Calls Tryd.prog 48 #[.string s] w fun e w' => e = .returned (.string ⟨(trimS (by_ s) blanks).toArray⟩) ∧ Only [] w w' := by
  have hcon := Any.strings_Trim_laid Tryd.lays160 (by kernel_rfl) s ⟨#[9, 13, 32]⟩ w hs (by decide) (ascii_of_all (by decide))
  change Calls Tryd.prog 59 _ _ (fun e w' => e = .returned (.string ⟨(trimS (by_ s) blanks).toArray⟩) ∧ Below w.heap.size w w') at hcon
  generalize (⟨(trimS (by_ s) blanks).toArray⟩ : ByteArray) = r at hcon ⊢
  have HC := Lib.hid hcon
  clear hcon
  go_enter Tryd.func48, Tryd.ntmps48
  go_wp2_with fail
  refine (HC.out).mono ?_
  rintro e w' ⟨rfl, hB⟩
  have HO := Lib.hid (Only.of_below hB [])
  clear hB
  go_wp2
  go_ret
  exact ⟨rfl, HO.out⟩

theorem rblank_any (b : UInt8) (w : World) :
    Calls Tryd.prog 60 #[.int .u8 (b.toNat : Int)] w fun e w' => e = .returned (.bool (blanks.contains b)) ∧ w = w' := by
  have hc : blanks.contains b = (decide (b.toNat = 9) || (decide (b.toNat = 13) || decide (b.toNat = 32))) := by
    rw [Bool.eq_iff_iff]
    simp only [blanks, List.contains_iff_mem, List.mem_cons, List.not_mem_nil, or_false, Bool.or_eq_true, decide_eq_true_eq]
    constructor
    · rintro (rfl | rfl | rfl)
      · exact .inl rfl
      · exact .inr (.inl rfl)
      · exact .inr (.inr rfl)
    · rintro (h | h | h)
      · exact .inl (UInt8.toNat_inj.1 h)
      · exact .inr (.inl (UInt8.toNat_inj.1 h))
      · exact .inr (.inr (UInt8.toNat_inj.1 h))
  rw [hc]
  generalize b.toNat = n at *
  clear hc
  by_cases h1 : n = 9
  · subst h1
    go_enter Tryd.func60, Tryd.ntmps60
    go_wp2
    go_ret
    exact ⟨rfl, rfl⟩
  · have e1 : ((n : Int) == 9) = false := by simp; omega
    by_cases h2 : n = 13
    · subst h2
      go_enter Tryd.func60, Tryd.ntmps60
      go_wp2
      go_ret
      exact ⟨rfl, rfl⟩
    · have e2 : ((n : Int) == 13) = false := by simp; omega
      by_cases h3 : n = 32
      · subst h3
        go_enter Tryd.func60, Tryd.ntmps60
        go_wp2
        go_ret
        exact ⟨rfl, rfl⟩
      · have e3 : ((n : Int) == 32) = false := by simp; omega
        have hr : (decide (n = 9) || (decide (n = 13) || decide (n = 32))) = false := by simp [h1, h2, h3]
        rw [hr]
        clear h1 h2 h3 hr
        go_enter Tryd.func60, Tryd.ntmps60
        go_wp2
        go_ret
        exact ⟨rfl, rfl⟩

set_option maxHeartbeats 4000000 in
theorem rtrim_any (s : ByteArray) (w : World) (hs : s.size ≤ 65537) :
    Calls Tryd.prog 49 #[.string s] w fun e w' => e = .returned (.string ⟨(trimS (by_ s) blanks).toArray⟩) ∧ w = w' := by
  obtain ⟨r, hr⟩ : ∃ r : ByteArray, r = ⟨(trimS (by_ s) blanks).toArray⟩ := ⟨_, rfl⟩
  rw [← hr]
  have hbr : by_ r = trimRightS (trimLeftS (by_ s) blanks) blanks := by
    rw [hr, ← trim_comm]
    simp [by_, trimS]
  have HBR := Lib.hid hbr
  clear hr hbr
  have HBL := Lib.hid (fun b => rblank_any b w)
  go_enter Tryd.func49, Tryd.ntmps49
  go_upto_block 0 with fail
  go_cut [0] (fun v wx => ∃ t : ByteArray, v = .string t ∧ t.size ≤ 65537 ∧ Hid (trimRightS (by_ t) blanks = by_ r) ∧ wx = w)
  case first =>
    have SEC : Hid (∀ t : ByteArray, trimLeftS (by_ t) blanks = by_ t → trimLeftS (by_ t) blanks = trimLeftS (by_ s) blanks → trimRightS (by_ t) blanks = by_ r) := Lib.hid (fun t h1 h2 => by
      rw [HBR.out, ← h2, h1])
    go_wp2
    go_loop [0] (fun v => ∃ t : ByteArray, v = .string t ∧ t.size ≤ 65537 ∧ Hid (trimLeftS (by_ t) blanks = trimLeftS (by_ s) blanks)) (fun v => match v with | .string t => t.size | _ => 0)
    case atStart => exact ⟨s, rfl, hs, rfl⟩
    case round =>
      obtain ⟨t, rfl, ht, HL⟩ := hrel
      by_cases h0 : 0 < t.size
      · have h01 : (0 : Int) < (t.size : Int) := by omega
        have hl0 : 0 < (by_ t).length := by rw [by_length]; exact h0
        have hcons : by_ t = (t[0]'h0) :: (by_ t).drop 1 := by
          have := List.drop_eq_getElem_cons hl0
          rw [List.drop_zero] at this
          exact this
        have HB0 := Lib.hid (HBL.out (t[0]'h0))
        obtain ⟨bb, hbb⟩ : ∃ bb, bb = blanks.contains (t[0]'h0) := ⟨_, rfl⟩
        rw [← hbb] at HB0
        have hlc := left_cons ((by_ t).drop 1) (t[0]'h0) blanks
        rw [← hcons, ← hbb] at hlc
        have HLC := Lib.hid hlc
        clear hlc hcons hbb hl0
        cases bb with
        | true =>
          have HL2 : Hid (trimLeftS (by_ (t.extract 1 t.size)) blanks = trimLeftS (by_ s) blanks) := Lib.hid (by
            rw [by_extract, List.take_of_length_le (by rw [by_length]; exact Nat.le_refl _), ← HL.out, HLC.out]
            simp)
          have hsz : (t.extract 1 t.size).size + 1 = t.size := by rw [ByteArray.size_extract]; omega
          have HSB : Hid ((t.extract 1 t.size).size ≤ 65537) := Lib.hid (by omega)
          have HSZ := Lib.hid hsz
          have h1s : (1 : Int) ≤ (t.size : Int) := by omega
          clear hsz HLC
          go_wp2_with fail
          refine (HB0.out).mono ?_
          rintro e w' ⟨rfl, rfl⟩
          go_wp2
          go_round
          case rel => exact ⟨t.extract 1 t.size, rfl, HSB.out, HL2⟩
          case measure => have h := HSZ.out; exact Nat.lt_of_lt_of_eq (Nat.lt_succ_self (t.extract 1 t.size).size) h
        | false =>
          have hstop : trimLeftS (by_ t) blanks = by_ t := by rw [HLC.out]; simp
          have HST := Lib.hid (SEC.out t hstop HL.out)
          clear hstop HLC HL SEC
          go_wp2_with fail
          refine (HB0.out).mono ?_
          rintro e w' ⟨rfl, rfl⟩
          go_wp2
          go_meet
          exact ⟨t, rfl, ht, HST, by first | rfl | trivial⟩
      · have h01 : decide ((0 : Int) < (t.size : Int)) = false := decide_eq_false (by omega)
        have hnil : by_ t = [] := List.eq_nil_of_length_eq_zero (by rw [by_length]; omega)
        have hstop : trimLeftS (by_ t) blanks = by_ t := by rw [hnil]; rfl
        have HST := Lib.hid (SEC.out t hstop HL.out)
        clear hstop hnil HL SEC
        go_wp2
        go_meet
        exact ⟨t, rfl, ht, HST, by first | rfl | trivial⟩
  case rest =>
    obtain ⟨t0, rfl, ht0, HT0, rfl⟩ := hcut
    go_wp2
    go_loop [0] (fun v => ∃ t : ByteArray, v = .string t ∧ t.size ≤ 65537 ∧ Hid (trimRightS (by_ t) blanks = by_ r)) (fun v => match v with | .string t => t.size | _ => 0)
    case atStart => exact ⟨t0, rfl, ht0, HT0⟩
    case round =>
      obtain ⟨t, rfl, ht, HL⟩ := hrel
      by_cases h0 : 0 < t.size
      · obtain ⟨m, hm⟩ : ∃ m, m + 1 = t.size := ⟨t.size - 1, by omega⟩
        have hml : m < t.size := by omega
        have h01 : (0 : Int) < (t.size : Int) := by omega
        have hm1 : (t.size : Int) - 1 = (m : Int) := by omega
        have hm0 : (0 : Int) ≤ (m : Int) := Int.natCast_nonneg _
        have hm2 : (m : Int) < (t.size : Int) := by omega
        have hm3 : (m : Int) ≤ (t.size : Int) := by omega
        have hsn : by_ t = (by_ t).take m ++ [t[m]] := by
          have hl : m < (by_ t).length := by rw [by_length]; exact hml
          have h1 : (by_ t).take (m + 1) = (by_ t).take m ++ [t[m]] := by
            rw [List.take_add_one, List.getElem?_eq_getElem hl]
            rfl
          rw [List.take_of_length_le (by rw [by_length]; omega)] at h1
          exact h1
        have HB0 := Lib.hid (HBL.out t[m])
        obtain ⟨bb, hbb⟩ : ∃ bb, bb = blanks.contains t[m] := ⟨_, rfl⟩
        rw [← hbb] at HB0
        have hlc := right_snoc ((by_ t).take m) t[m] blanks
        rw [← hsn, ← hbb] at hlc
        have HLC := Lib.hid hlc
        have HM := Lib.hid hm
        clear hlc hsn hbb hm
        cases bb with
        | true =>
          have HL2 : Hid (trimRightS (by_ (t.extract 0 m)) blanks = by_ r) := Lib.hid (by
            rw [by_extract, List.drop_zero, ← HL.out, HLC.out]
            simp)
          have hsz : (t.extract 0 m).size + 1 = t.size := by rw [ByteArray.size_extract]; have := HM.out; omega
          have HSB : Hid ((t.extract 0 m).size ≤ 65537) := Lib.hid (by omega)
          have HSZ := Lib.hid hsz
          clear hsz HLC
          go_wp2_with fail
          refine (HB0.out).mono ?_
          rintro e w' ⟨rfl, rfl⟩
          go_wp2
          go_round
          case rel => exact ⟨t.extract 0 m, rfl, HSB.out, HL2⟩
          case measure => have h := HSZ.out; exact Nat.lt_of_lt_of_eq (Nat.lt_succ_self (t.extract 0 m).size) h
        | false =>
          have hstop : trimRightS (by_ t) blanks = by_ t := by
            rw [HLC.out]
            simp
          have heq : t = r := by_inj (by rw [← hstop]; exact HL.out)
          subst heq
          clear hstop HLC HL HBR
          go_wp2_with fail
          refine (HB0.out).mono ?_
          rintro e w' ⟨rfl, rfl⟩
          go_wp2
          go_ret
          exact ⟨rfl, rfl⟩
      · have h01 : decide ((0 : Int) < (t.size : Int)) = false := decide_eq_false (by omega)
        have hnil : by_ t = [] := List.eq_nil_of_length_eq_zero (by rw [by_length]; omega)
        have hstop : trimRightS (by_ t) blanks = by_ t := by rw [hnil]; rfl
        have heq : t = r := by_inj (by rw [← hstop]; exact HL.out)
        subst heq
        clear hstop hnil HL HBR
        go_wp2
        go_ret
        exact ⟨rfl, rfl⟩

end Go.Proofs.YtaeildajbhiedaaDoor
