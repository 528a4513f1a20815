/- Parts. -/
import Derived.Test.YtoojabllolnhnaaDoorLaw22AllK25
import Derived.Test.YtoojabllolnhnaaDoorLaw22AllK26
import Derived.Maps.OwnOps
set_option maxRecDepth 10000
set_option maxHeartbeats 16000000
set_option linter.unusedVariables false
set_option linter.unusedSimpArgs false
namespace Go.Proofs.YtoojabllolnhnaaDoor
open Go.RowKit
def kI (M : Nat) : Lit := .int .i64 (M : Int)
theorem kI_lit (M : Nat) : WideAt.IsKeyLit (kI M) := by unfold kI; trivial
theorem kI_same (x y : Int) : (Lit.int .i64 x).sameKey (.int .i64 y) = decide (x = y) := by
 by_cases h : x = y
 ·subst h;rw [decide_eq_true rfl];exact WideAt.sameKey_self (show WideAt.IsKeyLit (Lit.int .i64 x) from trivial)
 ·rw [decide_eq_false h];exact Maps.sameKey_ne (fun e => h (by injection e))
theorem law_int : Go.Maps.Keyed Tryd.prog 3 := Go.Maps.int_keyed Tryd.underlying3
structure CntMap (n : Nat) (D : DataW Unit) (f : Nat → Nat) : Prop where
 im : Maps.IsMap D
 at_ : ∀ M, M < 2 ^ n → D.atKey (kI M) (.lit (.int .i64 0)) = .lit (.int .i64 ((capT (f M) : Nat) : Int))
 key : ∀ x : Int, Maps.has D (.int .i64 x) = true → ∃ M : Nat, x = M ∧ M < 2 ^ n
section
variable {n : Nat} {D : DataW Unit} {f : Nat → Nat}
theorem CntMap.empty (n : Nat) : CntMap n (.map []) fun _ => 0 := ⟨Maps.isMap_empty, fun M _ => rfl, fun x h => by cases h⟩
theorem CntMap.congr {g : Nat → Nat} (h : CntMap n D f) (hg : ∀ M, M < 2 ^ n → f M = g M) : CntMap n D g := ⟨h.im, fun M hM => by rw [h.at_ M hM, hg M hM], h.key⟩
theorem CntMap.put {M0 c : Nat} {z : Int} (h : CntMap n D f) (hM : M0 < 2 ^ n) (hz : z = ((capT (f M0 + c) : Nat) : Int)) : CntMap n (D.put (kI M0) (.lit (.int .i64 z))) fun M => if M = M0 then f M0 + c else f M where
 im := h.im.put _ _
 at_ := fun M hM' => by
  by_cases e : M = M0
  ·subst e;rw [Maps.atKey_put_same h.im (kI_lit _), if_pos rfl, hz]
  ·rw [Maps.atKey_put_other (fun e2 => e (by unfold kI at e2; injection e2 with _ e3; omega)), if_neg e];exact h.at_ M hM'
 key := fun x hx => by
  by_cases e : x = (M0 : Int)
  ·exact ⟨M0, e, hM⟩
  ·rw [Maps.has_put_other (fun e2 => e (by unfold kI at e2; injection e2))] at hx;exact h.key x hx
theorem CntMap.has {M : Nat} (h : CntMap n D f) (hM : M < 2 ^ n) (hf : f M ≠ 0) : Maps.has D (kI M) = true := by
 cases hh : Maps.has D (kI M)
 ·have h1 := h.at_ M hM;rw [Maps.atKey_of_not_has hh] at h1;injection h1 with h1;injection h1 with _ h1;unfold capT at h1;omega
 ·rfl
structure MetI (n : Nat) (D : DataW Unit) (left : Lit → Bool) (P : List Nat) : Prop where
 nd : P.Nodup
 lt : ∀ M ∈ P, M < 2 ^ n
 left : ∀ x : Int, left (.int .i64 x) = (Maps.has D (.int .i64 x) && !decide (∃ M ∈ P, (M : Int) = x))
theorem MetI.start : MetI n D (Maps.has D) [] := ⟨List.nodup_nil, fun M h => (by cases h), fun x => by simp⟩
theorem MetI.key {left : Lit → Bool} {P : List Nat} {x : Int} (h : MetI n D left P) (hD : CntMap n D f) (hx : left (.int .i64 x) = true) : ∃ M : Nat, x = M ∧ M < 2 ^ n ∧ M ∉ P := by
 rw [h.left, Bool.and_eq_true] at hx;obtain ⟨M, rfl, hM⟩ := hD.key x hx.1;refine ⟨M, rfl, hM, fun hP => ?_⟩;have := hx.2;rw [decide_eq_true ⟨M, hP, rfl⟩] at this
 cases this
theorem MetI.step {left : Lit → Bool} {P : List Nat} {M : Nat} (h : MetI n D left P) (hM : M < 2 ^ n) (hP : M ∉ P) : MetI n D (fun z => left z && !z.sameKey (kI M)) (P ++ [M]) where
 nd := by
  rw [List.nodup_append];exact ⟨h.nd, by simp, fun a ha b hb => by rw [List.mem_singleton.1 hb]; rintro rfl; exact hP ha⟩
 lt := fun a ha => by
  rcases List.mem_append.1 ha with h1 | h1
  ·exact h.lt a h1
  ·rw [List.mem_singleton.1 h1]; exact hM
 left := fun x => by
  show (left _ && !(Lit.int .i64 x).sameKey (.int .i64 (M : Int))) = _
  rw [h.left, kI_same, Bool.and_assoc]
  congr 1
  rw [← Bool.not_or]
  congr 1
  rw [Bool.eq_iff_iff, Bool.or_eq_true, decide_eq_true_eq, decide_eq_true_eq, decide_eq_true_eq]
  constructor
  ·rintro (⟨a, ha, e⟩ | e)
   ·exact ⟨a, List.mem_append_left _ ha, e⟩
   ·exact ⟨M, by simp, e.symm⟩
  ·rintro ⟨a, ha, e⟩;rcases List.mem_append.1 ha with h1 | h1
   ·exact .inl ⟨a, h1, e⟩
   ·rw [List.mem_singleton.1 h1] at e;exact .inr e.symm
theorem MetI.all {left : Lit → Bool} {P : List Nat} (h : MetI n D left P) (hD : CntMap n D f) (hl : ∀ kl, left kl = false) (M : Nat) (hM : M < 2 ^ n) (hf : f M ≠ 0) : M ∈ P := by
 have h1 := h.left (M : Int);rw [hl, show Maps.has D (.int .i64 (M : Int)) = true from hD.has hM hf, Bool.true_and] at h1;have h2 : decide (∃ M' ∈ P, (M' : Int) = (M : Int)) = true := by
  cases hh : decide (∃ M' ∈ P, (M' : Int) = (M : Int))
  ·rw [hh] at h1; cases h1
  ·rfl
 obtain ⟨a, ha, e⟩ := of_decide_eq_true h2;obtain rfl : a = M := by omega
 exact ha
end
def needT (n : Nat) (l : List (Int × Int)) (v : Nat) : Nat := maskT (backL n l (v : Int))
theorem backL_nonneg {n : Nat} {l : List (Int × Int)} {v : Int} : ∀ a ∈ backL n l v, 0 ≤ a := fun a ha => (backL_range a ha).1
theorem need_bit {n : Nat} {l : List (Int × Int)} (w : WfE n l) (v a : Nat) : (needT n l v).testBit a = edB l a v := by
 unfold needT;rw [mask_bit backL_nonneg];exact back_ed w (fun _ => Iff.rfl) v a
theorem mask_lt {n : Nat} {S : List Int} (h : ∀ a ∈ S, 0 ≤ a ∧ a < (n : Int)) : maskT S < 2 ^ n := by
 refine Nat.lt_pow_two_of_testBit _ fun i hi => ?_;rw [mask_bit fun a ha => (h a ha).1, decide_eq_false];intro hm;have := h _ hm;omega
theorem need_lt (n : Nat) (l : List (Int × Int)) (v : Nat) : needT n l v < 2 ^ n := mask_lt backL_range
theorem pow12 {n : Nat} (h : n ≤ 12) : 2 ^ n ≤ 4096 := Nat.pow_le_pow_right (by decide) h
theorem free_bits {n : Nat} {l : List (Int × Int)} (w : WfE n l) (hn : n ≤ 12) {M v : Nat} (hM : M < 2 ^ n) : freeS n l M v = (decide (M / 2 ^ v % 2 = 0) && decide (andN (needT n l v) M = 0)) := by
 have h12 := pow12 hn;have hnl := need_lt n l v;unfold freeS
 congr 1
 ·rw [Nat.testBit_eq_decide_div_mod_eq];have : M / 2 ^ v % 2 = 0 ∨ M / 2 ^ v % 2 = 1 := by omega
  rcases this with h | h <;> simp [h]
 ·rw [Bool.eq_iff_iff, List.all_eq_true, decide_eq_true_eq, andN_zero (by omega) (by omega)]
  constructor
  ·intro h i hi;rw [need_bit w] at hi;have := h i (List.mem_range.2 (wf_lt w ((ed_iff l i v).1 hi)).1);rw [hi] at this
   simpa using this
  ·intro h a _
   cases he : edB l a v
   ·rfl
   ·rw [h a (by rw [need_bit w]; exact he)]; rfl
theorem orI_lt {n M v : Nat} (hM : M < 2 ^ n) (hv : v < n) : M ||| 2 ^ v < 2 ^ n := Nat.or_lt_two_pow hM (Nat.pow_lt_pow_right (by decide) hv)
theorem cap_min (a b : Nat) : min (((capT a : Nat) : Int) + ((capT b : Nat) : Int)) 1000000 = ((capT (a + b) : Nat) : Int) := by
 have := cap_add a b;unfold capT at *;omega
theorem cap_le (a : Nat) : capT a ≤ 1000000 := by unfold capT; omega
end Go.Proofs.YtoojabllolnhnaaDoor
