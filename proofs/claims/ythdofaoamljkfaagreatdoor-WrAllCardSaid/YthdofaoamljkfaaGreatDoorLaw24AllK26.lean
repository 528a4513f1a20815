/- Parts. -/
import Derived.Lib.ItoaNum
import Derived.Test.YthdofaoamljkfaaGreatDoorLaw24AllK2
import Derived.Lib.Strings
import Derived.Deep.DeepCutAuto
set_option maxRecDepth 10000
set_option maxHeartbeats 16000000
set_option linter.unusedVariables false
set_option linter.unusedSimpArgs false
namespace Go.Proofs.YthdofaoamljkfaaGreatDoor
open Go.Lib
theorem snoc_ind {α : Type} {P : List α → Prop} (nil : P []) (append_singleton : ∀ l c, P l → P (l ++ [c])) (l : List α) : P l := by
 have h : ∀ m : List α, P m.reverse := by
  intro m
  induction m with
  | nil => simpa using nil
  | cons a m ih => rw [List.reverse_cons]; exact append_singleton _ _ ih
 have := h l.reverse
 rwa [List.reverse_reverse] at this
def isDig (c : UInt8) : Bool := decide (48 ≤ c.toNat) && decide (c.toNat ≤ 57)
def val (l : List UInt8) : Nat := l.foldl (fun n c => n * 10 + (c.toNat - 48)) 0
theorem val_snoc (l : List UInt8) (c : UInt8) : val (l ++ [c]) = val l * 10 + (c.toNat - 48) := by simp [val, List.foldl_append]
def neg (l : List UInt8) : Bool := l.head? == some 45
def rest (l : List UInt8) : List UInt8 := if neg l then l.drop 1 else l
def digB (l : List UInt8) : Bool := !(rest l).isEmpty && !((rest l).head? == some 48 && (neg l || decide (1 < (rest l).length))) && (rest l).all isDig
def prE (l : List UInt8) : Int :=
 if digB l = false then 5 else if (neg l = true ∧ val (rest l) ≤ 9223372036854775808) ∨ (neg l = false ∧ val (rest l) < 9223372036854775808) then 0 else 8
def prN (l : List UInt8) : Int := if prE l = 0 then (if neg l then -(val (rest l) : Int) else val (rest l)) else 0
theorem isDig_iff {c : UInt8} : isDig c = true ↔ 48 ≤ c.toNat ∧ c.toNat ≤ 57 := by simp [isDig]

/-! ### The numeral -/
def ahead (b : Bool) (u : Nat) : List UInt8 := if b || decide (0 < u) then decDigits u else []
theorem val_bounds : ∀ (l : List UInt8), l.all isDig = true → val l < 10 ^ l.length := by
 intro l
 induction l using snoc_ind with
 | nil => intro _; simp [val]
 | append_singleton l c ih =>
  intro h;simp only [List.all_append, List.all_cons, List.all_nil, Bool.and_true, Bool.and_eq_true, isDig_iff] at h;have := ih h.1;rw [val_snoc, List.length_append, List.length_singleton, Nat.pow_succ];omega
theorem val_low : ∀ (l : List UInt8), l.all isDig = true → l ≠ [] → l.head? ≠ some 48 → 10 ^ (l.length - 1) ≤ val l := by
 intro l
 induction l using snoc_ind with
 | nil => intro _ h; exact absurd rfl h
 | append_singleton l c ih =>
  intro h _ hh;simp only [List.all_append, List.all_cons, List.all_nil, Bool.and_true, Bool.and_eq_true, isDig_iff] at h;rw [val_snoc, List.length_append, List.length_singleton, Nat.add_sub_cancel]
  cases l with
  | nil =>
   simp only [List.nil_append, List.head?_cons, ne_eq, Option.some.injEq] at hh;have : c.toNat ≠ 48 := fun e => hh (UInt8.toNat.inj (by rw [e]; rfl));simp [val];omega
  | cons a t =>
   have h2 := ih h.1 (by simp) (by simpa using hh);simp only [List.length_cons, Nat.add_sub_cancel] at h2;simp only [List.length_cons, Nat.pow_succ];omega
theorem digB_parts {l : List UInt8} (h : digB l = true) : rest l ≠ [] ∧ (rest l).all isDig = true ∧ ((rest l).head? = some 48 → neg l = false ∧ (rest l).length = 1) := by
 unfold digB at h;simp only [Bool.and_eq_true, Bool.not_eq_true', List.isEmpty_eq_false_iff, Bool.and_eq_false_iff, Bool.or_eq_false_iff, decide_eq_false_iff_not] at h;obtain ⟨⟨h1, h2⟩, h3⟩ := h;refine ⟨h1, h3, fun e => ?_⟩;rcases h2 with h2 | ⟨h2, h4⟩
 ·simp [e] at h2
 ·refine ⟨h2, ?_⟩
  cases hr : rest l with
  | nil => exact absurd hr h1
  | cons a t =>
   rw [hr] at h4;simp only [List.length_cons] at h4 ⊢;omega
theorem prE_long {l : List UInt8} (hd : digB l = true) (h : 19 < (rest l).length) : prE l = 8 ∧ prN l = 0 := by
 obtain ⟨h1, h2, h3⟩ := digB_parts hd;have hlow := val_low (rest l) h2 h1 (fun e => by have := (h3 e).2; omega);have h19 : 10 ^ 19 ≤ val (rest l) := Nat.le_trans (Nat.pow_le_pow_right (by decide) (by omega)) hlow;have e : prE l = 8 := by
  unfold prE;rw [hd];simp only [Bool.true_eq_false, if_false];rw [if_neg];omega
 exact ⟨e, by unfold prN; rw [if_neg (by rw [e]; decide)]⟩
theorem pr_neg {l : List UInt8} (hd : digB l = true) (hn : neg l = true) (hv : val (rest l) ≤ 9223372036854775808) : prE l = 0 ∧ prN l = -(val (rest l) : Int) := by
 have e : prE l = 0 := by unfold prE; rw [hd, if_neg (by simp), if_pos (.inl ⟨hn, hv⟩)]
 exact ⟨e, by unfold prN; rw [if_pos e, hn]; rfl⟩
theorem pr_neg_big {l : List UInt8} (hd : digB l = true) (hn : neg l = true) (hv : 9223372036854775808 < val (rest l)) : prE l = 8 ∧ prN l = 0 := by
 have e : prE l = 8 := by unfold prE; rw [hd, if_neg (by simp), if_neg (by rw [hn]; simp; omega)]
 exact ⟨e, by unfold prN; rw [e]; rfl⟩
theorem pr_pos {l : List UInt8} (hd : digB l = true) (hn : neg l = false) (hv : val (rest l) < 9223372036854775808) : prE l = 0 ∧ prN l = val (rest l) := by
 have e : prE l = 0 := by unfold prE; rw [hd, if_neg (by simp), if_pos (.inr ⟨hn, hv⟩)]
 exact ⟨e, by unfold prN; rw [if_pos e, hn]; rfl⟩
theorem pr_pos_big {l : List UInt8} (hd : digB l = true) (hn : neg l = false) (hv : 9223372036854775808 ≤ val (rest l)) : prE l = 8 ∧ prN l = 0 := by
 have e : prE l = 8 := by unfold prE; rw [hd, if_neg (by simp), if_neg (by rw [hn]; simp; omega)]
 exact ⟨e, by unfold prN; rw [e]; rfl⟩
theorem val_take_le (l : List UInt8) (k : Nat) (h : (l.take k).all isDig = true) : val (l.take k) < 10 ^ k := by
 have := val_bounds (l.take k) h;exact Nat.lt_of_lt_of_le this (Nat.pow_le_pow_right (by decide) (List.length_take_le _ _))
end Go.Proofs.YthdofaoamljkfaaGreatDoor
namespace Go.Proofs.YthdofaoamljkfaaGreatDoor
open Go.RowKit
def pvK (l : List UInt8) : Int := if l = [110, 105, 108] then 0 else if l = [63] then 2 else if prE l = 0 then 1 else 0
def pvN (l : List UInt8) : Int := if l = [110, 105, 108] then 0 else if l = [63] then 0 else if prE l = 0 then prN l else 0
def pvE (l : List UInt8) : Int := if l = [110, 105, 108] then 0 else if l = [63] then 0 else prE l
theorem hasPrefix_any (s p : ByteArray) (w : World) (h : s.size ≤ 9223372036854775807) (hp : p.size ≤ 9223372036854775807) :
  Calls Tryz.prog 133 #[.string s, .string p] w fun e w' => e = .returned (.bool (Lib.hasPrefix s.data.toList p.data.toList)) ∧ w = w' := by
 go_enter Tryz.func133, Tryz.ntmps133
 by_cases hle : (p.size : Int) ≤ s.size
 all_goals
  go_wp2
  go_ret
  refine ⟨?_, rfl⟩;rw [← Lib.hasPrefix_raw];simp [hle];try omega
theorem cutPrefix_lite (s p : ByteArray) (w : World) (h : s.size ≤ 9223372036854775807) (hp : p.size ≤ 9223372036854775807) :
  Calls Tryz.prog 128 #[.string s, .string p] w fun e w' => e = .returned (.tuple #[.string ⟨(Lib.trimPrefix s.data.toList p.data.toList).toArray⟩, .bool (Lib.hasPrefix s.data.toList p.data.toList)]) ∧ w = w' := by
 have hc := hasPrefix_any s p w h hp
 cases hb : Lib.hasPrefix s.data.toList p.data.toList with
 | true =>
  rw [← Lib.hasPrefix_raw] at hb;simp only [Bool.and_eq_true, decide_eq_true_eq] at hb;have HT := Hd (Lib.trimPrefix_hit s p hb.1 hb.2);rw [← Lib.hasPrefix_raw] at hc;rw [show (decide (p.size ≤ s.size) && ((s.extract 0 p.size).toList == p.toList)) = true by simp [hb]] at hc;have HC := Hd hc;have hle : (p.size : Int) ≤ s.size := by have := hb.1; omega
  clear hb hc;go_enter Tryz.func128, Tryz.ntmps128;go_wp2_with fail
  refine HC.out.mono ?_;rintro e w' ⟨rfl, rfl⟩;go_wp2
  go_ret2
  rw [HT.out];exact ⟨rfl, rfl⟩
 | false =>
  have hb' := hb;rw [← Lib.hasPrefix_raw] at hb;have HT := Hd (Lib.trimPrefix_miss s p hb);rw [hb'] at hc;have HC := Hd hc;clear hb hc hb';go_enter Tryz.func128, Tryz.ntmps128;go_wp2_with fail
  refine HC.out.mono ?_;rintro e w' ⟨rfl, rfl⟩;go_wp2
  go_ret2
  rw [HT.out];exact ⟨rfl, rfl⟩
theorem cutPrefix_any (s p : ByteArray) (w : World) (h : s.size ≤ 9223372036854775807) (hp : p.size ≤ 9223372036854775807) :
  Calls Tryz.prog 122 #[.string s, .string p] w fun e w' => e = .returned (.tuple #[.string ⟨(Lib.trimPrefix s.data.toList p.data.toList).toArray⟩, .bool (Lib.hasPrefix s.data.toList p.data.toList)]) ∧ w = w' := by
 go_enter Tryz.func122, Tryz.ntmps122;go_wp2_with fail
 refine (cutPrefix_lite s p _ h hp).mono ?_;rintro e w' ⟨rfl, rfl⟩;go_wp2
 go_ret2
 exact ⟨rfl, rfl⟩
theorem hasPrefix_dash (l : List UInt8) : Lib.hasPrefix l [45] = neg l := by
 cases l with
 | nil => rfl
 | cons a t =>
  simp only [Lib.hasPrefix, neg, List.isPrefixOf, List.head?_cons];rw [Bool.eq_iff_iff];simp;exact eq_comm
theorem trimPrefix_dash (l : List UInt8) : Lib.trimPrefix l [45] = rest l := by
 unfold Lib.trimPrefix rest;rw [hasPrefix_dash]
 rfl
theorem cut_dash (s : ByteArray) (w : World) (h : s.size ≤ 9223372036854775807) :
  Calls Tryz.prog 122 #[.string s, .string ⟨#[45]⟩] w fun e w' => ∃ r : ByteArray, (e = .returned (.tuple #[.string r, .bool (neg s.data.toList)]) ∧ r.data.toList = rest s.data.toList) ∧ w = w' := by
 refine (cutPrefix_any s ⟨#[45]⟩ w h (by decide)).mono ?_;rintro e w' ⟨rfl, rfl⟩;rw [show (⟨#[45]⟩ : ByteArray).data.toList = [45] from rfl, hasPrefix_dash, trimPrefix_dash];exact ⟨_, ⟨rfl, rfl⟩, rfl⟩
theorem digB_of {l t : List UInt8} {n : Bool} (hr : t = rest l) (hn : n = neg l) (h0 : t ≠ []) (h1 : ¬ (t.head? = some 48 ∧ (n = true ∨ 1 < t.length))) : digB l = t.all isDig := by
 unfold digB;rw [← hr, ← hn];have e1 : t.isEmpty = false := by simpa using h0
 rw [e1];have e2 : (t.head? == some 48 && (n || decide (1 < t.length))) = false := by
  rw [Bool.eq_false_iff];intro h;simp only [Bool.and_eq_true, Bool.or_eq_true, decide_eq_true_eq, beq_iff_eq] at h;exact h1 h
 rw [e2];simp
theorem digB_empty {l : List UInt8} (h : rest l = []) : digB l = false := by unfold digB; simp [h]
theorem digB_zero {l : List UInt8} (h : (rest l).head? = some 48) (h2 : neg l = true ∨ 1 < (rest l).length) : digB l = false := by
 unfold digB;have : ((rest l).head? == some 48 && (neg l || decide (1 < (rest l).length))) = true := by
  rw [h]; rcases h2 with h2 | h2 <;> simp [h2]
 rw [this];simp
theorem all_take_succ {r : ByteArray} {k : Nat} (hk : k < r.size) (h : (r.data.toList.take k).all isDig = true) (h1 : 48 ≤ r[k].toNat) (h2 : r[k].toNat ≤ 57) : (r.data.toList.take (k + 1)).all isDig = true := by
 rw [List.take_succ_eq_append_getElem (by simpa using hk), List.all_append, h];simp only [List.all_cons, List.all_nil, Bool.and_true, Bool.true_and];exact isDig_iff.2 ⟨h1, h2⟩
theorem all_not {r : ByteArray} {k : Nat} (hk : k < r.size) (h : ¬ (48 ≤ r[k].toNat ∧ r[k].toNat ≤ 57)) : r.data.toList.all isDig = false := by
 rw [Bool.eq_false_iff];intro ha;have := List.all_eq_true.1 ha r[k] (by rw [Array.mem_toList_iff]; exact Array.getElem_mem _);exact h (isDig_iff.1 this)
theorem nonempty_words {r : ByteArray} (h : 0 < r.size) : r.toList.isEmpty = false ∧ ¬ r.toList = [] ∧ r.data.toList ≠ [] ∧ r.data.toList.head? = some r[0] := by
 have h1 : r.data.toList ≠ [] := fun e => by
  have : r.data.toList.length = 0 := by rw [e]; rfl
  rw [← Lib.size_eq] at this;omega
 refine ⟨?_, ?_, h1, ?_⟩
 ·rw [Lib.toList_data]; simpa using h1
 ·rw [Lib.toList_data]; exact h1
 ·rw [List.head?_eq_getElem?, List.getElem?_eq_getElem (by simpa using h)]
  rfl
theorem ret_bool {a b : Bool} (h : a = b) : Ending.returned (.bool a) = .returned (.bool b) := by rw [h]
theorem digits_any (s : ByteArray) (w : World) (h : s.size ≤ 9223372036854775807) :
    Calls Tryz.prog 121 #[.string s] w fun e w' => e = .returned (.bool (digB s.data.toList)) ∧ w = w' := by
  go_enter Tryz.func121, Tryz.ntmps121
  go_wp2_with fail
  refine (cut_dash s _ h).mono ?_
  rintro e w' ⟨r, ⟨rfl, hr⟩, rfl⟩
  have hsz : r.size ≤ 9223372036854775807 := by
    have h1 : r.data.toList.length ≤ s.data.toList.length := by rw [hr]; unfold rest; split <;> simp
    simp at h1
    have e1 : s.size = s.data.size := rfl
    have e2 : r.size = r.data.size := rfl
    omega
  have HR := Hd hr
  clear hr
  generalize hn : neg s.data.toList = n
  have HN := Hd hn
  clear hn
  rcases Nat.eq_zero_or_pos r.size with hz | hp
  · obtain rfl : r = ⟨#[]⟩ := by
      have : r.data = #[] := Array.eq_empty_of_size_eq_zero hz
      cases r; simp_all
    clear hz
    have he : (⟨#[]⟩ : ByteArray).toList = [] := by rw [Lib.toList_data]
    go_wp2
    go_ret
    exact ⟨ret_bool (digB_empty HR.out.symm).symm, rfl⟩
  · obtain ⟨he, hne, hd, hh⟩ := nonempty_words hp
    have HD := Hd hd
    have HH := Hd hh
    clear hd hh
    go_wp2
    · have h48 : (r[0].toNat : Int) = 48 := by assumption
      have hn : n = true := by assumption
      go_ret
      refine ⟨ret_bool ?_, rfl⟩
      have h0 : r[0] = 48 := UInt8.toNat.inj (by have : (48 : UInt8).toNat = 48 := rfl; omega)
      exact (digB_zero (by rw [← HR.out, HH.out, h0]) (.inl (by rw [HN.out, hn]))).symm
    · have h48 : (r[0].toNat : Int) = 48 := by assumption
      have hl : (1 : Int) < r.size := by assumption
      go_ret
      refine ⟨ret_bool ?_, rfl⟩
      have h0 : r[0] = 48 := UInt8.toNat.inj (by have : (48 : UInt8).toNat = 48 := rfl; omega)
      exact (digB_zero (by rw [← HR.out, HH.out, h0]) (.inr (by rw [← HR.out, ← Lib.size_eq]; omega))).symm
    all_goals
      have HB : Hid (digB s.data.toList = r.data.toList.all isDig) := by
        refine digB_of HR.out HN.out.symm HD.out ?_
        rintro ⟨h1, h2⟩
        rw [HH.out] at h1
        first
          | (have h48 : ¬ (r[0].toNat : Int) = 48 := by assumption
             simp only [Option.some.injEq] at h1
             rw [h1] at h48
             exact h48 rfl)
          | (have hl : (r.size : Int) ≤ 1 := by assumption
             have hn : ¬ n = true := by assumption
             rw [← Lib.size_eq] at h2
             rcases h2 with h2 | h2
             · exact hn h2
             · omega)
      go_loop [28] (fun j => ∃ k : Nat, k ≤ r.size ∧ j = .int .i64 k ∧ (r.data.toList.take k).all isDig = true) (fun j => r.size - (intOf j).toNat)
      case atStart => exact ⟨0, Nat.zero_le _, rfl, rfl⟩
      case round =>
        obtain ⟨k, hk, rfl, hall⟩ := hrel
        have HA := Hd hall
        clear hall
        by_cases hlt : k < r.size
        · by_cases hd1 : (r[k].toNat : Int) < 48
          · go_wp2
            go_ret
            exact ⟨ret_bool (by rw [HB.out]; exact (all_not hlt (by omega)).symm), rfl⟩
          · by_cases hd2 : (57 : Int) < r[k].toNat
            · go_wp2
              go_ret
              exact ⟨ret_bool (by rw [HB.out]; exact (all_not hlt (by omega)).symm), rfl⟩
            · have HS := Hd (all_take_succ hlt HA.out (by omega) (by omega))
              go_wp2
              go_round
              case rel => exact ⟨k + 1, by omega, by go_num, HS.out⟩
              case measure => simp [intOf]; omega
        · go_wp2
          go_ret
          refine ⟨ret_bool ?_, rfl⟩
          rw [HB.out, ← HA.out, List.take_of_length_le (by rw [← Lib.size_eq]; omega)]
end Go.Proofs.YthdofaoamljkfaaGreatDoor
