/- Parts. -/
import Derived.Test.YtgimobilcdkmpaaDoorRows
set_option maxRecDepth 10000
set_option maxHeartbeats 16000000
set_option linter.unusedVariables false
set_option linter.unusedSimpArgs false
namespace Go.Proofs.YtgimobilcdkmpaaDoor
def byV : List Nat → Nat
 | [] => 0
 | b :: bs => b + 256 * byV bs
def byR (c : Nat) (n : Nat) : Nat := byV (List.replicate n c)
theorem byR_succ (c n : Nat) : byR c (n + 1) = c + 256 * byR c n := rfl
theorem and_split (a A c C : Nat) (ha : a < 256) (hc : c < 256) : (a + 256 * A) &&& (c + 256 * C) = (a &&& c) + 256 * (A &&& C) := by
 have hac : a &&& c < 2 ^ 8 := Nat.lt_of_le_of_lt Nat.and_le_left ha
 apply Nat.eq_of_testBit_eq
 intro i;rw [Nat.testBit_and, Nat.add_comm a, Nat.add_comm c, Nat.add_comm (a &&& c), show (256 : Nat) = 2 ^ 8 from rfl, Nat.testBit_two_pow_mul_add A ha, Nat.testBit_two_pow_mul_add C hc, Nat.testBit_two_pow_mul_add (A &&& C) hac]
 split
 ·rw [Nat.testBit_and]
 ·rw [Nat.testBit_and]
theorem half_55 : ∀ (b : Fin 256) (r : Fin 2), (b.val / 2 + 128 * r.val) &&& 85 = (b.val / 2) &&& 85 := by decide +kernel
theorem quart_33 : ∀ (b : Fin 256) (r : Fin 4), (b.val / 4 + 64 * r.val) &&& 51 = (b.val / 4) &&& 51 := by decide +kernel
def st1 (b : Nat) : Nat := ((b / 2) &&& 85) + (b &&& 85)
def st2 (b : Nat) : Nat := ((b / 4) &&& 51) + (b &&& 51)
theorem step1 (bs : List Nat) (h : ∀ b ∈ bs, b < 256) : ((byV bs / 2) &&& byR 85 bs.length) + (byV bs &&& byR 85 bs.length) = byV (bs.map st1) := by
 induction bs with
 | nil => rfl
 | cons b bs ih =>
  have hb := h b List.mem_cons_self;have ih := ih (fun x hx => h x (List.mem_cons_of_mem _ hx));have e : byV (b :: bs) / 2 = (b / 2 + 128 * (byV bs % 2)) + 256 * (byV bs / 2) := by
   show (b + 256 * byV bs) / 2 = _
   omega
  rw [e, List.length_cons, byR_succ, and_split _ _ 85 _ (by omega) (by omega)]
  show _ + ((b + 256 * byV bs) &&& _) = st1 b + 256 * byV (bs.map st1)
  have hh : (b / 2 + 128 * (byV bs % 2)) &&& 85 = (b / 2) &&& 85 := half_55 ⟨b, hb⟩ ⟨byV bs % 2, by omega⟩;rw [and_split _ _ 85 _ hb (by omega), hh, ← ih];unfold st1;omega
theorem step2 (bs : List Nat) (h : ∀ b ∈ bs, b < 256) : ((byV bs / 4) &&& byR 51 bs.length) + (byV bs &&& byR 51 bs.length) = byV (bs.map st2) := by
 induction bs with
 | nil => rfl
 | cons b bs ih =>
  have hb := h b List.mem_cons_self;have ih := ih (fun x hx => h x (List.mem_cons_of_mem _ hx));have e : byV (b :: bs) / 4 = (b / 4 + 64 * (byV bs % 4)) + 256 * (byV bs / 4) := by
   show (b + 256 * byV bs) / 4 = _
   omega
  rw [e, List.length_cons, byR_succ, and_split _ _ 51 _ (by omega) (by omega)]
  show _ + ((b + 256 * byV bs) &&& _) = st2 b + 256 * byV (bs.map st2)
  have hh : (b / 4 + 64 * (byV bs % 4)) &&& 51 = (b / 4) &&& 51 := quart_33 ⟨b, hb⟩ ⟨byV bs % 4, by omega⟩;rw [and_split _ _ 51 _ hb (by omega), hh, ← ih];unfold st2;omega
def Nib (b : Nat) : Prop := b % 16 ≤ 4 ∧ b / 16 ≤ 4
def st3 (b : Nat) : Nat := (b / 16 + b) &&& 15
theorem nib_15 : ∀ (b : Fin 69) (r : Fin 5), (b.val / 16 + b.val + 16 * r.val) &&& 15 = (b.val / 16 + b.val) &&& 15 := by decide +kernel
theorem step3 (bs : List Nat) (h : ∀ b ∈ bs, Nib b) : (byV bs / 16 + byV bs) &&& byR 15 bs.length = byV (bs.map st3) ∧ byV bs % 16 ≤ 4 := by
 induction bs with
 | nil => exact ⟨rfl, by decide⟩
 | cons b bs ih =>
  have hb := h b List.mem_cons_self;unfold Nib at hb;obtain ⟨ih, ih2⟩ := ih (fun x hx => h x (List.mem_cons_of_mem _ hx));have e : byV (b :: bs) / 16 + byV (b :: bs) = (b / 16 + b + 16 * (byV bs % 16)) + 256 * (byV bs / 16 + byV bs) := by
   show (b + 256 * byV bs) / 16 + (b + 256 * byV bs) = _
   omega
  refine ⟨?_, by show (b + 256 * byV bs) % 16 ≤ 4; omega⟩;rw [e, List.length_cons, byR_succ, and_split _ _ 15 _ (by omega) (by omega), ih, nib_15 ⟨b, by omega⟩ ⟨byV bs % 16, by omega⟩]
  rfl
def popB (b : Nat) : Nat := ((List.range 8).filter fun i => b.testBit i).length
theorem pop_all : ∀ b : Fin 256, st1 b.val < 256 ∧ st2 (st1 b.val) < 256 ∧ (st2 (st1 b.val) % 16 ≤ 4 ∧ st2 (st1 b.val) / 16 ≤ 4) ∧ st3 (st2 (st1 b.val)) = popB b.val ∧ popB b.val ≤ 8 := by decide +kernel
end Go.Proofs.YtgimobilcdkmpaaDoor
