/- Parts. -/
import Derived.Test.YtojpohmijlkagaaDoorLaw43AllK14
import Derived.Test.YtojpohmijlkagaaDoorLaw43AllK15
import Derived.Lib.ItoaLen
set_option maxRecDepth 10000
set_option maxHeartbeats 16000000
set_option linter.unusedVariables false
set_option linter.unusedSimpArgs false
namespace Go.Proofs.YtojpohmijlkagaaDoor
open Go.RowKit
open Go.Lib hiding intOf
attribute [local go_sem ↓] Go.wp_at_zero Go.wp_at_succ


end Go.Proofs.YtojpohmijlkagaaDoor
namespace Go.Proofs.YtojpohmijlkagaaDoor
open Go.RowKit
open Go.Lib hiding intOf
theorem valid_cons_small (b : UInt8) (t : List UInt8) (h : b.toNat < 128) : validD (b :: t) = validD t := by
 rcases rune_or_bad (b :: t) (by simp) with ⟨-, h2⟩ | ⟨m, rest, r, e, hm⟩
 ·simp at h2;omega
 ·obtain ⟨b0, cs, rfl, -, -⟩ := hm.lead;have hb : b0 = b := by simpa using (congrArg List.head? e).symm
  have hr : r < 128 := by
   rcases Nat.lt_or_ge r 128 with h1 | h1
   ·exact h1
   ·have := hm.big h1 b0 (by simp);rw [hb] at this;omega
  obtain ⟨b1, e1, -⟩ := hm.small hr;have hcs : cs = [] := by simpa using congrArg List.tail e1
  subst hcs;rw [e, valid_rune hm]
  congr 1
  simpa using (congrArg List.tail e).symm
theorem valid_small : ∀ (l : List UInt8), (∀ b ∈ l, b.toNat < 128) → validD l = true
 | [], _ => rfl
 | b :: t, h => by
  rw [valid_cons_small b t (h b (by simp))];exact valid_small t fun c hc => h c (by simp [hc])
theorem good_small {l : List UInt8} (hne : l ≠ []) (h : ∀ b ∈ l, b.toNat < 128 ∧ b.toNat ≠ 9 ∧ b.toNat ≠ 13 ∧ b.toNat ≠ 32 ∧ b.toNat ≠ 35 ∧ b.toNat ≠ 10) : GoodW l where
 ne := hne
 nb := fun c hc => by
  cases hb : blankB c with
  | false => rfl
  | true =>
   have := (blankB_iff c).1 hb;have := h c hc;omega
 hash := fun hm => (h _ hm).2.2.2.2.1 rfl
 nl := fun hm => (h _ hm).2.2.2.2.2 rfl
 valid := valid_small l fun b hb => (h b hb).1
theorem itoa_bytes (n : Int) : ∀ b ∈ Lib.itoa n, b = 45 ∨ isDig b = true := by
 intro b hb;unfold Lib.itoa at hb;have hd := fun u => List.all_eq_true.1 (all_dec u)
 split at hb
 ·rcases List.mem_cons.1 hb with h | h
  ·exact .inl h
  ·exact .inr (hd _ b h)
 ·exact .inr (hd _ b hb)
theorem texts_of_join {ws : List ByteArray} (h : ∀ x ∈ ws, GoodW (by_ x)) {T : ByteArray} (hT : by_ T = joinW ws) : badL (by_ T) = false ∧ textsOf T = ws := by
 have h2 := words_join (ws.map by_) (fun w hw => by obtain ⟨x, hx, rfl⟩ := List.mem_map.1 hw; exact h x hx);rw [show Lib.join (ws.map by_) [32] = by_ T from hT.symm] at h2;refine ⟨h2.1, ?_⟩;have h3 := texts_by T
 rw [h2.2.1] at h3;exact texts_inj h3
end Go.Proofs.YtojpohmijlkagaaDoor
namespace Go.Proofs.YtojpohmijlkagaaDoor
theorem cut_line : ∀ (a cur t : List UInt8), (10 : UInt8) ∉ a → cutL cur (a ++ 10 :: t) = (cur ++ a) :: cutL [] t
 | [], cur, t, _ => by simp [cutL]
 | b :: a, cur, t, h => by
  have hb : b ≠ 10 := fun e => h (by simp [e]);have := cut_line a (cur ++ [b]) t (fun hm => h (by simp [hm]));rw [List.cons_append, cutL, if_neg (by simpa using hb), this];simp
theorem lines_all : ∀ (ls : List (List UInt8)), (∀ a ∈ ls, (10 : UInt8) ∉ a) → linesOf (ls.map fun a => a ++ [10]).flatten = ls
 | [], _ => rfl
 | a :: ls, h => by
  have ih := lines_all ls (fun x hx => h x (by simp [hx]));unfold linesOf at ih ⊢;rw [List.map_cons, List.flatten_cons, List.append_assoc, List.singleton_append, cut_line a [] _ (h a (by simp)), ih];simp
end Go.Proofs.YtojpohmijlkagaaDoor
