/- Parts. -/
import Derived.Test.YtlemjgjpglmphaaDoorPartOfCardK23
import Derived.ArgAppend
set_option maxRecDepth 10000
set_option maxHeartbeats 16000000
set_option linter.unusedVariables false
set_option linter.unusedSimpArgs false
namespace Go.Proofs.YtlemjgjpglmphaaDoor
open Go.RowKit
structure OwnQ (w : World) (base : Nat) (e : TypeId) (b off c : Nat) (xs : List Value) : Prop where
 le : xs.length ≤ c
 max : c ≤ maxLen
 lo : base ≤ b
 blk : ∃ cur, Blk w b e cur ∧ off + c ≤ cur.size ∧ ∀ (j : Nat) (u : Value), xs[j]? = some u → cur[off + j]? = some u
section
variable {w w' : World} {base : Nat} {e : TypeId} {b off c : Nat} {xs : List Value}
theorem OwnQ.only {S : List Nat} (h : OwnQ w base e b off c xs) (O : Only S w w') (hb : b ∉ S) : OwnQ w' base e b off c xs := by
 obtain ⟨h1, h2, h3, cur, h4, h5, h6⟩ := h;exact ⟨h1, h2, h3, cur, O.blk h4 hb, h5, h6⟩
theorem OwnQ.lt (h : OwnQ w base e b off c xs) : b < w.heap.size := by
 obtain ⟨-, -, -, cur, h4, -, -⟩ := h;exact h4.lt
theorem OwnQ.apart (h : OwnQ w base e b off c xs) {g : Nat} {t : TypeId} {cs : Array Value} (hb : Blk w g t cs) (hne : e ≠ t) : g ≠ b := by
 obtain ⟨-, -, -, cur, h4, -, -⟩ := h;exact Ne.symm (h4.apart hb hne)
theorem OwnQ.cell (h : OwnQ w base e b off c xs) {j : Nat} {u : Value} (hj : xs[j]? = some u) : w.cell? ⟨b, off + j, none⟩ = some u := by
 obtain ⟨-, -, -, cur, h4, -, h6⟩ := h;exact (h4.at_ (off + j)).trans (h6 j u hj)
theorem OwnQ.lit (w : World) (base : Nat) (hb : base ≤ w.heap.size) (u : Value) : OwnQ (w.alloc (.cells #[u] e)) base e w.heap.size 0 1 [u] :=
 ⟨by simp, by unfold maxLen; omega, hb, #[u], Blk.made w e #[u], by simp, fun j v hj => by rw [Nat.zero_add]; simpa using hj⟩
theorem OwnQ.tail {x : Value} (h : OwnQ w base e b off c (x :: xs)) : OwnQ w base e b (if c = 1 then off else off + 1) (c - 1) xs := by
 obtain ⟨h1, h2, h3, cur, h4, h5, h6⟩ := h;simp only [List.length_cons] at h1;refine ⟨by omega, by omega, h3, cur, h4, by split <;> omega, fun j u hj => ?_⟩;have hjl := (List.getElem?_eq_some_iff.1 hj).1;rw [if_neg (by omega), Nat.add_assoc, Nat.add_comm 1 j];exact h6 (j + 1) u (by simpa using hj)
theorem own_queue {n : Nat} {v : Value} (h : w.ownsRow base e 1 v n xs) (hn : 0 < n) : ∃ b c, v = .slice (some ⟨b, 0, none⟩) n c ∧ OwnQ w base e b 0 c xs := by
 obtain ⟨hl, ⟨rfl, h0⟩ | ⟨g, cap, cur, rfl, h1, h2, h3, h4, h5, h6⟩⟩ := h
 ·omega
 ·refine ⟨g, cap, rfl, by omega, h4, h1, cur, h2, by omega, fun j u hj => ?_⟩;rw [← h6, List.getElem?_take] at hj
  split at hj
  ·rw [Nat.zero_add]
   simpa using hj
  ·cases hj
theorem OwnQ.put (h : OwnQ w base e b off c xs) (hr : xs.length < c) (u : Value) : OwnQ (w.setCells b (off + xs.length * 1) [u]) base e b off c (xs ++ [u]) := by
 obtain ⟨h1, h2, h3, cur, h4, h5, h6⟩ := h;refine ⟨by simp; omega, h2, h3, cur.setIfInBounds (off + xs.length * 1) u, h4.put _ u, by simpa using h5, fun j v hj => ?_⟩;rw [Array.getElem?_setIfInBounds]
 by_cases hjl : j < xs.length
 ·rw [if_neg (by omega)];rw [List.getElem?_append_left hjl] at hj;exact h6 j v hj
 ·have hj2 := (List.getElem?_eq_some_iff.1 hj).1;simp only [List.length_append, List.length_cons, List.length_nil] at hj2;obtain rfl : j = xs.length := by omega
  rw [if_pos (by omega), if_pos (by omega)]
  simpa using hj
end
end Go.Proofs.YtlemjgjpglmphaaDoor
