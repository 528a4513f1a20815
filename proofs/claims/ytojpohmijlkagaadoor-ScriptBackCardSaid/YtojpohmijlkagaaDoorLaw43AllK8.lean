/- Parts. -/
import Derived.Lib.ItoaNum
set_option maxRecDepth 10000
set_option maxHeartbeats 16000000
set_option linter.unusedVariables false
set_option linter.unusedSimpArgs false
namespace Go.Proofs.YtojpohmijlkagaaDoor
open Go.Lib
theorem snoc_ind {α : Type} {P : List α → Prop} (nil : P []) (append_singleton : ∀ l c, P l → P (l ++ [c])) (l : List α) : P l := by
 have h : ∀ m : List α, P m.reverse := by
  intro m
  induction m with
  | nil => simpa using nil
  | cons a m ih => rw [List.reverse_cons]; exact append_singleton _ _ ih
 have := h l.reverse
 rwa [List.reverse_reverse] at this
def isDig (c : UInt8) : Bool := decide (48 ≤ c.toNat) && decide (c.toNat ≤ 57)
def val (l : List UInt8) : Nat := l.foldl (fun n c => n * 10 + (c.toNat - 48)) 0
theorem val_snoc (l : List UInt8) (c : UInt8) : val (l ++ [c]) = val l * 10 + (c.toNat - 48) := by simp [val, List.foldl_append]
def neg (l : List UInt8) : Bool := l.head? == some 45
def rest (l : List UInt8) : List UInt8 := if neg l then l.drop 1 else l
def digB (l : List UInt8) : Bool := !(rest l).isEmpty && !((rest l).head? == some 48 && (neg l || decide (1 < (rest l).length))) && (rest l).all isDig
def prE (l : List UInt8) : Int :=
 if digB l = false then 5 else if (neg l = true ∧ val (rest l) ≤ 9223372036854775808) ∨ (neg l = false ∧ val (rest l) < 9223372036854775808) then 0 else 8
def prN (l : List UInt8) : Int := if prE l = 0 then (if neg l then -(val (rest l) : Int) else val (rest l)) else 0
theorem isDig_iff {c : UInt8} : isDig c = true ↔ 48 ≤ c.toNat ∧ c.toNat ≤ 57 := by simp [isDig]

/-! ### The numeral -/
theorem dg_small {u : Nat} (h : u < 10) : decDigits u = [UInt8.ofNat (48 + u)] := by rw [decDigits, dif_pos h]
theorem dec_big {u : Nat} (h : ¬ u < 10) : decDigits u = decDigits (u / 10) ++ [UInt8.ofNat (48 + u % 10)] := by rw [decDigits, dif_neg h]
def ahead (b : Bool) (u : Nat) : List UInt8 := if b || decide (0 < u) then decDigits u else []
theorem ahead_step {b : Bool} {u : Nat} (h : (b || decide (0 < u)) = true) : ahead b u = ahead false (u / 10) ++ [UInt8.ofNat (48 + u % 10)] := by
 unfold ahead;rw [if_pos h]
 by_cases hu : u < 10
 ·rw [dg_small hu, if_neg (by simp; omega), Nat.mod_eq_of_lt hu]
  rfl
 ·rw [dec_big hu, if_pos (by simp; omega)]
theorem ahead_end {b : Bool} {u : Nat} (h : (b || decide (0 < u)) = false) : ahead b u = [] := by
 unfold ahead;rw [if_neg (by simp [h])]
theorem ahead_first (u : Nat) : ahead true u = decDigits u := by simp [ahead]
theorem ahead_pos {u : Nat} (h : 0 < u) : ahead false u = decDigits u := by simp [ahead, h]
theorem ahead_len_pos {b : Bool} {u : Nat} (h : (b || decide (0 < u)) = true) : 1 ≤ (ahead b u).length := by
 rw [ahead_step h]; simp
theorem digit_toNat {k : Nat} (h : k < 10) : (UInt8.ofNat (48 + k)).toNat = 48 + k := by
 rw [UInt8.toNat_ofNat'];omega
theorem val_dec (u : Nat) : val (decDigits u) = u := by
 induction u using Nat.strongRecOn with
 | _ u ih =>
  by_cases h : u < 10
  ·rw [dg_small h];simp only [val, List.foldl_cons, List.foldl_nil, digit_toNat h];omega
  ·rw [dec_big h, val_snoc, ih (u / 10) (by omega), digit_toNat (Nat.mod_lt _ (by decide))];omega
theorem all_dec (u : Nat) : (decDigits u).all isDig = true := by
 induction u using Nat.strongRecOn with
 | _ u ih =>
  by_cases h : u < 10
  ·rw [dg_small h];simp only [List.all_cons, List.all_nil, Bool.and_true, isDig_iff, digit_toNat h];omega
  ·rw [dec_big h, List.all_append, ih (u / 10) (by omega)];simp only [List.all_cons, List.all_nil, Bool.and_true, Bool.true_and, isDig_iff, digit_toNat (Nat.mod_lt u (by decide : 0 < 10))];have := Nat.mod_lt u (by decide : 10 > 0);omega
theorem head_append {α : Type} {l m : List α} (h : l ≠ []) : (l ++ m).head? = l.head? := by
 cases l with
 | nil => exact absurd rfl h
 | cons a t => rfl
theorem dec_ne (u : Nat) : decDigits u ≠ [] := by
 rw [decDigits]
 split <;> simp
theorem dec_head (u : Nat) (h : (decDigits u).head? = some 48) : u = 0 := by
 induction u using Nat.strongRecOn with
 | _ u ih =>
  by_cases hu : u < 10
  ·rw [dg_small hu] at h;simp only [List.head?_cons, Option.some.injEq] at h;have := digit_toNat hu;rw [h] at this;have h48 : (48 : UInt8).toNat = 48 := rfl;omega
  ·rw [dec_big hu, head_append (dec_ne _)] at h;have := ih (u / 10) (by omega) h;omega
theorem dec_zero : decDigits 0 = [48] := by rw [dg_small (by decide)]; rfl
theorem dec_len_pos {u : Nat} : 1 ≤ (decDigits u).length := by
 have := dec_ne u
 cases h : decDigits u with
 | nil => exact absurd h this
 | cons _ _ => simp

/-! ### Back -/
theorem val_bounds : ∀ (l : List UInt8), l.all isDig = true → val l < 10 ^ l.length := by
 intro l
 induction l using snoc_ind with
 | nil => intro _; simp [val]
 | append_singleton l c ih =>
  intro h;simp only [List.all_append, List.all_cons, List.all_nil, Bool.and_true, Bool.and_eq_true, isDig_iff] at h;have := ih h.1;rw [val_snoc, List.length_append, List.length_singleton, Nat.pow_succ];omega
theorem val_low : ∀ (l : List UInt8), l.all isDig = true → l ≠ [] → l.head? ≠ some 48 → 10 ^ (l.length - 1) ≤ val l := by
 intro l
 induction l using snoc_ind with
 | nil => intro _ h; exact absurd rfl h
 | append_singleton l c ih =>
  intro h _ hh;simp only [List.all_append, List.all_cons, List.all_nil, Bool.and_true, Bool.and_eq_true, isDig_iff] at h;rw [val_snoc, List.length_append, List.length_singleton, Nat.add_sub_cancel]
  cases l with
  | nil =>
   simp only [List.nil_append, List.head?_cons, ne_eq, Option.some.injEq] at hh;have : c.toNat ≠ 48 := fun e => hh (UInt8.toNat.inj (by rw [e]; rfl));simp [val];omega
  | cons a t =>
   have h2 := ih h.1 (by simp) (by simpa using hh);simp only [List.length_cons, Nat.add_sub_cancel] at h2;simp only [List.length_cons, Nat.pow_succ];omega
theorem neg_itoa (n : Int) : neg (itoa n) = decide (n < 0) := by
 unfold itoa
 split
 ·rename_i h; simp [neg, h]
 ·rename_i h
  have hd := all_dec n.toNat
  cases hl : decDigits n.toNat with
  | nil => exact absurd hl (dec_ne _)
  | cons a t =>
   rw [hl] at hd;simp only [List.all_cons, Bool.and_eq_true, isDig_iff] at hd;have : a ≠ 45 := fun e => by subst e; exact absurd hd.1.1 (by decide)
   simp [neg, this, h]
theorem rest_itoa (n : Int) : rest (itoa n) = decDigits n.natAbs := by
 unfold rest;rw [neg_itoa];unfold itoa
 by_cases h : n < 0
 ·simp [h]
 ·simp [h]
  congr 1
  omega
theorem digB_itoa (n : Int) : digB (itoa n) = true := by
 unfold digB;rw [rest_itoa, neg_itoa, all_dec];have h1 := dec_ne n.natAbs;have h2 := dec_head n.natAbs
 by_cases hh : (decDigits n.natAbs).head? = some 48
 ·have h0 := h2 hh;rw [h0, dec_zero];have : ¬ n < 0 := by omega
  simp [this]
 ·simp [hh, h1]
theorem prE_itoa (n : Int) (h1 : -9223372036854775808 ≤ n) (h2 : n ≤ 9223372036854775807) : prE (itoa n) = 0 := by
 unfold prE;rw [digB_itoa, rest_itoa, neg_itoa, val_dec];simp only [Bool.true_eq_false, if_false];rw [if_pos]
 by_cases h : n < 0
 ·exact .inl ⟨by simp [h], by omega⟩
 ·exact .inr ⟨by simp [h], by omega⟩
theorem prN_itoa (n : Int) (h1 : -9223372036854775808 ≤ n) (h2 : n ≤ 9223372036854775807) : prN (itoa n) = n := by
 unfold prN;rw [if_pos (prE_itoa n h1 h2), neg_itoa, rest_itoa, val_dec]
 by_cases h : n < 0
 ·simp only [h, decide_true, if_true]; omega
 ·simp only [h, decide_false, Bool.false_eq_true, if_false]; omega
theorem neg_rest {l : List UInt8} (h : neg l = true) : l = 45 :: rest l := by
 unfold rest;rw [if_pos h]
 cases l with
 | nil => simp [neg] at h
 | cons a t =>
  simp [neg] at h;simp [h]
theorem digB_parts {l : List UInt8} (h : digB l = true) : rest l ≠ [] ∧ (rest l).all isDig = true ∧ ((rest l).head? = some 48 → neg l = false ∧ (rest l).length = 1) := by
 unfold digB at h;simp only [Bool.and_eq_true, Bool.not_eq_true', List.isEmpty_eq_false_iff, Bool.and_eq_false_iff, Bool.or_eq_false_iff, decide_eq_false_iff_not] at h;obtain ⟨⟨h1, h2⟩, h3⟩ := h;refine ⟨h1, h3, fun e => ?_⟩;rcases h2 with h2 | ⟨h2, h4⟩
 ·simp [e] at h2
 ·refine ⟨h2, ?_⟩
  cases hr : rest l with
  | nil => exact absurd hr h1
  | cons a t =>
   rw [hr] at h4;simp only [List.length_cons] at h4 ⊢;omega
theorem prE_long {l : List UInt8} (hd : digB l = true) (h : 19 < (rest l).length) : prE l = 8 ∧ prN l = 0 := by
 obtain ⟨h1, h2, h3⟩ := digB_parts hd;have hlow := val_low (rest l) h2 h1 (fun e => by have := (h3 e).2; omega);have h19 : 10 ^ 19 ≤ val (rest l) := Nat.le_trans (Nat.pow_le_pow_right (by decide) (by omega)) hlow;have e : prE l = 8 := by
  unfold prE;rw [hd];simp only [Bool.true_eq_false, if_false];rw [if_neg];omega
 exact ⟨e, by unfold prN; rw [if_neg (by rw [e]; decide)]⟩
theorem pr_neg {l : List UInt8} (hd : digB l = true) (hn : neg l = true) (hv : val (rest l) ≤ 9223372036854775808) : prE l = 0 ∧ prN l = -(val (rest l) : Int) := by
 have e : prE l = 0 := by unfold prE; rw [hd, if_neg (by simp), if_pos (.inl ⟨hn, hv⟩)]
 exact ⟨e, by unfold prN; rw [if_pos e, hn]; rfl⟩
theorem pr_neg_big {l : List UInt8} (hd : digB l = true) (hn : neg l = true) (hv : 9223372036854775808 < val (rest l)) : prE l = 8 ∧ prN l = 0 := by
 have e : prE l = 8 := by unfold prE; rw [hd, if_neg (by simp), if_neg (by rw [hn]; simp; omega)]
 exact ⟨e, by unfold prN; rw [e]; rfl⟩
theorem pr_pos {l : List UInt8} (hd : digB l = true) (hn : neg l = false) (hv : val (rest l) < 9223372036854775808) : prE l = 0 ∧ prN l = val (rest l) := by
 have e : prE l = 0 := by unfold prE; rw [hd, if_neg (by simp), if_pos (.inr ⟨hn, hv⟩)]
 exact ⟨e, by unfold prN; rw [if_pos e, hn]; rfl⟩
theorem pr_pos_big {l : List UInt8} (hd : digB l = true) (hn : neg l = false) (hv : 9223372036854775808 ≤ val (rest l)) : prE l = 8 ∧ prN l = 0 := by
 have e : prE l = 8 := by unfold prE; rw [hd, if_neg (by simp), if_neg (by rw [hn]; simp; omega)]
 exact ⟨e, by unfold prN; rw [e]; rfl⟩
theorem val_take_le (l : List UInt8) (k : Nat) (h : (l.take k).all isDig = true) : val (l.take k) < 10 ^ k := by
 have := val_bounds (l.take k) h;exact Nat.lt_of_lt_of_le this (Nat.pow_le_pow_right (by decide) (List.length_take_le _ _))
theorem dec_len (u : Nat) (h : u < 100000000000000000000) : (decDigits u).length ≤ 20 := by
 by_cases h0 : (decDigits u).head? = some 48
 ·have := dec_head u h0;subst this;rw [dec_zero];simp
 ·have h1 := val_low (decDigits u) (all_dec u) (dec_ne u) h0;rw [val_dec] at h1;rcases Nat.lt_or_ge 20 (decDigits u).length with h2 | h2
  ·have h3 : 10 ^ 20 ≤ 10 ^ ((decDigits u).length - 1) := Nat.pow_le_pow_right (by decide) (by omega);omega
  ·exact h2
theorem dec_len' (u : Nat) (h : u < 10000000000000000000) : (decDigits u).length ≤ 19 := by
 by_cases h0 : (decDigits u).head? = some 48
 ·have := dec_head u h0;subst this;rw [dec_zero];simp
 ·have h1 := val_low (decDigits u) (all_dec u) (dec_ne u) h0;rw [val_dec] at h1;rcases Nat.lt_or_ge 19 (decDigits u).length with h2 | h2
  ·have h3 : 10 ^ 19 ≤ 10 ^ ((decDigits u).length - 1) := Nat.pow_le_pow_right (by decide) (by omega);omega
  ·exact h2
theorem itoa_nat (n : Nat) : itoa (n : Int) = decDigits n := by unfold itoa; rw [if_neg (by omega)]; rfl
theorem itoa_neg (n : Nat) (h : 0 < n) : itoa (-(n : Int)) = 45 :: decDigits n := by unfold itoa; rw [if_pos (by omega), Int.natAbs_neg, Int.natAbs_natCast]
theorem val_append_ge (l m : List UInt8) : val l ≤ val (l ++ m) := by
 induction m using snoc_ind with
 | nil => simp
 | append_singleton m c ih => rw [← List.append_assoc, val_snoc]; omega
end Go.Proofs.YtojpohmijlkagaaDoor
