/- Parts. -/
import Derived.Test.YtojpohmijlkagaaDoorLaw43AllK3
set_option maxRecDepth 10000
set_option maxHeartbeats 16000000
set_option linter.unusedVariables false
set_option linter.unusedSimpArgs false
namespace Go.Proofs.YtojpohmijlkagaaDoor
open Go.Lib
structure IsRune (m : List UInt8) (r : Nat) : Prop where
 lead : ∃ b cs, m = b :: cs ∧ b.toNat / 64 ≠ 2 ∧ ∀ c ∈ cs, c.toNat / 64 = 2
 dec : ∀ rest, decodeL (m ++ rest) = (r, m.length)
 small : r < 128 → ∃ b : UInt8, m = [b] ∧ b.toNat = r
 big : 128 ≤ r → ∀ b ∈ m, 128 ≤ b.toNat
 good : ¬ (r = 65533 ∧ m.length = 1)
theorem two_of : ∀ {l : List UInt8}, 1 < l.length → ∃ b b1 t, l = b :: b1 :: t
 | b :: b1 :: t, _ => ⟨b, b1, t, rfl⟩
theorem three_of : ∀ {l : List UInt8}, 2 < l.length → ∃ b b1 b2 t, l = b :: b1 :: b2 :: t
 | b :: b1 :: b2 :: t, _ => ⟨b, b1, b2, t, rfl⟩
theorem four_of : ∀ {l : List UInt8}, 3 < l.length → ∃ b b1 b2 b3 t, l = b :: b1 :: b2 :: b3 :: t
 | b :: b1 :: b2 :: b3 :: t, _ => ⟨b, b1, b2, b3, t, rfl⟩
theorem rune_or_bad (l : List UInt8) (hne : l ≠ []) : (decodeL l = (65533, 1) ∧ 128 ≤ (l.getD 0 0).toNat) ∨ ∃ m rest r, l = m ++ rest ∧ IsRune m r := by
 by_cases h0 : (l.getD 0 0).toNat < 128
 ·right
  obtain ⟨b, t, rfl⟩ := List.exists_cons_of_ne_nil hne;have hb : b.toNat < 128 := h0;refine ⟨[b], t, b.toNat, rfl, ⟨b, [], rfl, by omega, fun c hc => by cases hc⟩, fun rest => ?_, fun _ => ⟨b, rfl, rfl⟩, fun h => by omega, fun h => by omega⟩;rw [decodeL_N];exact dec_small hb
 ·rw [decodeL_N];rcases decodeN_shape l.length (l.getD 0 0).toNat (l.getD 1 0).toNat (l.getD 2 0).toNat (l.getD 3 0).toNat with ⟨c, e⟩ | ⟨c1, c2, c3, cv, e⟩ | ⟨c1, c2, c3, c4, cv, cs, e⟩ | ⟨c1, c2, c3, c4, c5, cv, cw, e⟩ | e
  ·exact absurd c h0
  ·right
   clear e;obtain ⟨b, b1, t, rfl⟩ := two_of c2;simp only [List.getD_cons_zero, List.getD_cons_succ] at h0 c1 c3 cv;refine ⟨[b, b1], t, b.toNat % 32 * 64 + b1.toNat % 64, rfl, ⟨b, [b1], rfl, by omega, fun c hc => ?_⟩, fun rest => ?_, fun h => by omega, fun _ c hc => ?_, fun h => by have := h.2; simp at this⟩
   ·simp at hc; subst hc; exact c3
   ·rw [decodeL_N];simp only [List.cons_append, List.nil_append, List.getD_cons_zero, List.getD_cons_succ, List.length_cons];unfold decodeN;rw [if_neg (by omega), if_pos ⟨by omega, by omega, by omega⟩, if_pos (by omega)]
    rfl
   ·simp at hc; rcases hc with rfl | rfl <;> omega
  ·right
   clear e;obtain ⟨b, b1, b2, t, rfl⟩ := three_of c2;simp only [List.getD_cons_zero, List.getD_cons_succ] at h0 c1 c3 c4 cv cs;refine ⟨[b, b1, b2], t, b.toNat % 16 * 4096 + b1.toNat % 64 * 64 + b2.toNat % 64, rfl, ⟨b, [b1, b2], rfl, by omega, fun c hc => ?_⟩, fun rest => ?_, fun h => by omega, fun _ c hc => ?_, fun h => by have := h.2; simp at this⟩
   ·simp at hc; rcases hc with rfl | rfl <;> assumption
   ·rw [decodeL_N];simp only [List.cons_append, List.nil_append, List.getD_cons_zero, List.getD_cons_succ, List.length_cons];unfold decodeN;rw [if_neg (by omega), if_neg (by omega), if_pos ⟨by omega, ⟨by omega, by omega⟩, by omega, by omega⟩, if_pos (by omega)]
    rfl
   ·simp at hc; rcases hc with rfl | rfl | rfl <;> omega
  ·right
   clear e;obtain ⟨b, b1, b2, b3, t, rfl⟩ := four_of c2;simp only [List.getD_cons_zero, List.getD_cons_succ] at h0 c1 c3 c4 c5 cv cw;refine ⟨[b, b1, b2, b3], t, b.toNat % 8 * 262144 + b1.toNat % 64 * 4096 + b2.toNat % 64 * 64 + b3.toNat % 64, rfl, ⟨b, [b1, b2, b3], rfl, by omega, fun c hc => ?_⟩, fun rest => ?_, fun h => by omega, fun _ c hc => ?_, fun h => by have := h.2; simp at this⟩
   ·simp at hc; rcases hc with rfl | rfl | rfl <;> assumption
   ·rw [decodeL_N];simp only [List.cons_append, List.nil_append, List.getD_cons_zero, List.getD_cons_succ, List.length_cons];unfold decodeN;rw [if_neg (by omega), if_neg (by omega), if_neg (by omega), if_pos ⟨by omega, ⟨by omega, by omega⟩, ⟨by omega, by omega⟩, by omega, by omega⟩, if_pos (by omega)]
    rfl
   ·simp at hc; rcases hc with rfl | rfl | rfl | rfl <;> omega
  ·exact .inl ⟨e, by omega⟩
theorem IsRune.len {m : List UInt8} {r : Nat} (h : IsRune m r) : 0 < m.length := by
 obtain ⟨b, cs, rfl, _⟩ := h.lead;simp
theorem IsRune.ne {m : List UInt8} {r : Nat} (h : IsRune m r) : m ≠ [] := fun e => by
 have := h.len;rw [e] at this
 cases this
theorem valid_rune {m : List UInt8} {r : Nat} (h : IsRune m r) (rest : List UInt8) : validD (m ++ rest) = validD rest := by
 have hd := h.dec rest;rw [validD_step _ (fun e => h.ne (List.append_eq_nil_iff.1 e).1), hd];dsimp only;rw [if_neg h.good, List.drop_left]
theorem valid_cases {l : List UInt8} (h : validD l = true) : l = [] ∨ ∃ m rest r, l = m ++ rest ∧ IsRune m r ∧ validD rest = true := by
 by_cases hne : l = []
 ·exact .inl hne
 ·rcases rune_or_bad l hne with ⟨hb, -⟩ | ⟨m, rest, r, rfl, hm⟩
  ·rw [validD_step _ hne, hb, if_pos ⟨rfl, rfl⟩] at h
   cases h
  ·rw [valid_rune hm] at h;exact .inr ⟨m, rest, r, rfl, hm, h⟩
theorem valid_ind {p : List UInt8 → Prop} (h0 : p []) (h1 : ∀ m rest r, IsRune m r → validD rest = true → p rest → p (m ++ rest)) : ∀ (n : Nat) (l : List UInt8), l.length ≤ n → validD l = true → p l
 | n, l, hn, hv => by
  rcases valid_cases hv with rfl | ⟨m, rest, r, rfl, hm, hr⟩
  ·exact h0
  ·have := hm.len;rw [List.length_append] at hn
   cases n with
   | zero => omega
   | succ n => exact h1 m rest r hm hr (valid_ind h0 h1 n rest (by omega) hr)
theorem valid_app {a : List UInt8} (b : List UInt8) (ha : validD a = true) : validD (a ++ b) = validD b := by
 refine valid_ind (p := fun a => validD (a ++ b) = validD b) rfl ?_ a.length a (Nat.le_refl _) ha;intro m rest r hm _ ih;rw [List.append_assoc, valid_rune hm, ih]
theorem valid_pre (x : UInt8) (t : List UInt8) (hx : x.toNat < 128) : ∀ (n : Nat) (a : List UInt8), a.length ≤ n → validD (a ++ x :: t) = true → validD a = true
 | n, a, hn, hv => by
  by_cases ha : a = []
  ·subst ha; rfl
  ·rcases valid_cases hv with h | ⟨m, rest, r, he, hm, hr⟩
   ·simp at h
   ·have hml := hm.len
    by_cases hle : m.length ≤ a.length
    ·obtain ⟨a', rfl⟩ : ∃ a', a = m ++ a' := by
      refine ⟨a.drop m.length, ?_⟩;have h1 := congrArg (List.take m.length) he;rw [List.take_append_of_le_length hle, List.take_left] at h1
      conv => lhs; rw [← List.take_append_drop m.length a, h1]
     rw [List.append_assoc, List.append_cancel_left_eq] at he;rw [valid_rune hm];rw [List.length_append] at hn
     cases n with
     | zero => omega
     | succ n => exact valid_pre x t hx n a' (by omega) (by rw [he]; exact hr)
    ·exfalso
     obtain ⟨b, cs, rfl, -, hc⟩ := hm.lead;have hal : 0 < a.length := List.length_pos_iff.2 ha;have hxm : x ∈ cs := by
      have h1 := congrArg (fun l => l[a.length]?) he;simp only [List.length_cons] at hle;rw [List.getElem?_append_right (Nat.le_refl _), Nat.sub_self, List.getElem?_append_left (by simp; omega)] at h1;obtain ⟨k, hk⟩ : ∃ k, a.length = k + 1 := ⟨a.length - 1, by omega⟩;rw [hk, List.getElem?_cons_succ] at h1;simp at h1;exact List.mem_of_getElem? h1.symm
     have := hc x hxm;omega
def leads (l : List UInt8) : Nat := l.countP fun b => b.toNat / 64 != 2
theorem leads_app (a b : List UInt8) : leads (a ++ b) = leads a + leads b := List.countP_append
theorem leads_rune {m : List UInt8} {r : Nat} (h : IsRune m r) (k : Nat) (hk : 0 < k) : leads (m.take k) = 1 := by
 obtain ⟨b, cs, rfl, hb, hc⟩ := h.lead;obtain ⟨k, rfl⟩ : ∃ j, k = j + 1 := ⟨k - 1, by omega⟩;rw [List.take_succ_cons];unfold leads;rw [List.countP_cons_of_pos (by simpa using hb), List.countP_eq_zero.2];intro c hc';have := hc c (List.mem_of_mem_take hc');simp [this]
theorem leads_one {m : List UInt8} {r : Nat} (h : IsRune m r) : leads m = 1 := by
 have := leads_rune h m.length h.len
 rwa [List.take_length] at this
theorem leads_le (l : List UInt8) : leads l ≤ l.length := List.countP_le_length
end Go.Proofs.YtojpohmijlkagaaDoor
