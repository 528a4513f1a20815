/- Parts. -/
import Derived.Test.YtlnlppabeddclaaDoorLaw23AllK7
import Derived.ArgAppend
import Derived.Test.YtlnlppabeddclaaDoorLaw23AllK2
import Derived.Lib.TrailingZeros
import Derived.Laws.BitsAllLaws
import Derived.RegionTactic
set_option maxRecDepth 10000
set_option maxHeartbeats 16000000
set_option linter.unusedVariables false
set_option linter.unusedSimpArgs false
namespace Go.Proofs.YtlnlppabeddclaaDoor
open Go.RowKit
structure OwnQ (w : World) (base : Nat) (e : TypeId) (b off c : Nat) (xs : List Value) : Prop where
 le : xs.length ≤ c
 max : c ≤ maxLen
 lo : base ≤ b
 blk : ∃ cur, Blk w b e cur ∧ off + c ≤ cur.size ∧ ∀ (j : Nat) (u : Value), xs[j]? = some u → cur[off + j]? = some u
section
variable {w w' : World} {base : Nat} {e : TypeId} {b off c : Nat} {xs : List Value}
theorem OwnQ.only {S : List Nat} (h : OwnQ w base e b off c xs) (O : Only S w w') (hb : b ∉ S) : OwnQ w' base e b off c xs := by
 obtain ⟨h1, h2, h3, cur, h4, h5, h6⟩ := h;exact ⟨h1, h2, h3, cur, O.blk h4 hb, h5, h6⟩
theorem OwnQ.lt (h : OwnQ w base e b off c xs) : b < w.heap.size := by
 obtain ⟨-, -, -, cur, h4, -, -⟩ := h;exact h4.lt
theorem OwnQ.apart (h : OwnQ w base e b off c xs) {g : Nat} {t : TypeId} {cs : Array Value} (hb : Blk w g t cs) (hne : e ≠ t) : g ≠ b := by
 obtain ⟨-, -, -, cur, h4, -, -⟩ := h;exact Ne.symm (h4.apart hb hne)
theorem OwnQ.cell (h : OwnQ w base e b off c xs) {j : Nat} {u : Value} (hj : xs[j]? = some u) : w.cell? ⟨b, off + j, none⟩ = some u := by
 obtain ⟨-, -, -, cur, h4, -, h6⟩ := h;exact (h4.at_ (off + j)).trans (h6 j u hj)
theorem OwnQ.lit (w : World) (base : Nat) (hb : base ≤ w.heap.size) (u : Value) : OwnQ (w.alloc (.cells #[u] e)) base e w.heap.size 0 1 [u] :=
 ⟨by simp, by unfold maxLen; omega, hb, #[u], Blk.made w e #[u], by simp, fun j v hj => by rw [Nat.zero_add]; simpa using hj⟩
theorem OwnQ.tail {x : Value} (h : OwnQ w base e b off c (x :: xs)) : OwnQ w base e b (if c = 1 then off else off + 1) (c - 1) xs := by
 obtain ⟨h1, h2, h3, cur, h4, h5, h6⟩ := h;simp only [List.length_cons] at h1;refine ⟨by omega, by omega, h3, cur, h4, by split <;> omega, fun j u hj => ?_⟩;have hjl := (List.getElem?_eq_some_iff.1 hj).1;rw [if_neg (by omega), Nat.add_assoc, Nat.add_comm 1 j];exact h6 (j + 1) u (by simpa using hj)
theorem own_queue {n : Nat} {v : Value} (h : w.ownsRow base e 1 v n xs) (hn : 0 < n) : ∃ b c, v = .slice (some ⟨b, 0, none⟩) n c ∧ OwnQ w base e b 0 c xs := by
 obtain ⟨hl, ⟨rfl, h0⟩ | ⟨g, cap, cur, rfl, h1, h2, h3, h4, h5, h6⟩⟩ := h
 ·omega
 ·refine ⟨g, cap, rfl, by omega, h4, h1, cur, h2, by omega, fun j u hj => ?_⟩;rw [← h6, List.getElem?_take] at hj
  split at hj
  ·rw [Nat.zero_add]
   simpa using hj
  ·cases hj
theorem OwnQ.put (h : OwnQ w base e b off c xs) (hr : xs.length < c) (u : Value) : OwnQ (w.setCells b (off + xs.length * 1) [u]) base e b off c (xs ++ [u]) := by
 obtain ⟨h1, h2, h3, cur, h4, h5, h6⟩ := h;refine ⟨by simp; omega, h2, h3, cur.setIfInBounds (off + xs.length * 1) u, h4.put _ u, by simpa using h5, fun j v hj => ?_⟩;rw [Array.getElem?_setIfInBounds]
 by_cases hjl : j < xs.length
 ·rw [if_neg (by omega)];rw [List.getElem?_append_left hjl] at hj;exact h6 j v hj
 ·have hj2 := (List.getElem?_eq_some_iff.1 hj).1;simp only [List.length_append, List.length_cons, List.length_nil] at hj2;obtain rfl : j = xs.length := by omega
  rw [if_pos (by omega), if_pos (by omega)]
  simpa using hj
end
theorem wpList_append_queue {P : Program} (w : World) {ops : Array Oper} {rest : List Oper} {o : Oper} {a : Act} {Q : Exit → Act → World → Prop}
  (hg : o.guard = none) (s x : Operand) (t : TypeId) (hop : o.op = Op.call { callee := Callee.builtin Builtin.append, args := #[s, x], argTypes := #[t, t] })
  (e : TypeId) (i : TypeInfo) (z : Value) (bytes : Nat) (h1 : P.underlying t = some (.slice e)) (h2 : P.info? e = some i) (h3 : i.zero = some z) (h4 : i.size = 1) (h5 : i.bytes = bytes) (h6 : z.cells.size = 1)
  (base b off n c : Nat) (xs : List Value) (hs : a.eval s = .slice (some ⟨b, off, none⟩) n c) (hq : OwnQ w base e b off c xs) (hn : xs.length = n)
  (ad : Addr) (c2 : Nat) (u : Value) (hx : a.eval x = .slice (some ad) 1 c2) (hc : w.cell? ad = some u) (hu : u.oneCell' = true)
  (b1 : n + 1 ≤ maxLen) (b2 : (n + 1) * bytes ≤ 140737488355328) (hbase : base ≤ w.heap.size)
  (hK : ∀ b' off' c' w', OwnQ w' base e b' off' c' (xs ++ [u]) → Only [b] w w' → (b' = b ∨ w.heap.size ≤ b') → wpList P ops Q rest (a.put o.dst (.slice (some ⟨b', off', none⟩) (n + 1) c')) w') :
  wpList P ops Q (o :: rest) a w := by
 have hnews : ∀ (j : Nat) (v : Value), [u][j]? = some v → w.cell? (ad.add j) = some v := fun j v hj => by
  have hj0 : j = 0 := by have := (List.getElem?_eq_some_iff.1 hj).1; simp at this; omega
  subst hj0;have : ad.add 0 = ad := by simp [Addr.add]
  rw [this];simp at hj;rw [← hj];exact hc
 refine wpList_append_arg w hg s x t hop e i z 1 bytes h1 h2 h3 h4 h5 h6 (by omega) b off n c xs hs (by omega) (fun j v hj => hq.cell hj) ad 1 c2 [u] hx rfl hnews (fun v hv => by simp at hv; rw [hv]; exact hu) (fun hr j hj => ?_) b1 b2 (fun hr => ?_) (fun hr v' w' ho hgr => ?_)
 ·obtain ⟨-, -, -, cur, g4, g5, -⟩ := hq;refine ⟨?_, g4.free _⟩;rw [g4.at_];simp at hj;rw [Array.getElem?_eq_getElem (by omega)]
  rfl
 ·have hp := hq.put (by omega) u;rw [hn] at hp;exact hK b off c _ hp ((Only.refl [b] w).put (p := ⟨b, off + n * 1, none⟩) (fun _ => by simp) u) (.inl rfl)
 ·obtain ⟨b', c', rfl, hq'⟩ := own_queue ho (by omega);refine hK b' 0 c' w' ⟨hq'.le, hq'.max, Nat.le_trans hbase hq'.lo, hq'.blk⟩ ((Only.of_grown hgr (fun g hg _ => by cases hg))) (.inr hq'.lo)
theorem wrap_pow (r : Nat) (hr : r < 64) : IntKind.u64.wrap ((2 : Int) ^ r) = ((2 ^ r : Nat) : Int) := by
 have h : (2 : Nat) ^ r < 2 ^ 64 := Nat.pow_lt_pow_right (by decide) hr;rw [show ((2 : Int) ^ r) = ((2 ^ r : Nat) : Int) by simp];generalize (2 : Nat) ^ r = q at h ⊢;exact IntWalk.u64_in _ (by omega)
theorem test_val (x r : Nat) (hx : x < 18446744073709551616) : (bits .and .u64 ((x : Int) / 2 ^ r) 1 == 1) = x.testBit r := by
 have e : ((x : Int) / 2 ^ r) = ((x / 2 ^ r : Nat) : Int) := by simp
 have hlt : x / 2 ^ r < 18446744073709551616 := Nat.lt_of_le_of_lt (Nat.div_le_self _ _) hx;rw [e, show (1 : Int) = ((1 : Nat) : Int) from rfl, u64_and_nat _ 1 hlt (by decide), Nat.and_one_is_mod, Nat.testBit_eq_decide_div_mod_eq];rw [Bool.eq_iff_iff];simp;omega
theorem pow_lt64 (r : Nat) (hr : r < 64) : (2 : Nat) ^ r < 18446744073709551616 := by
 have h : (2 : Nat) ^ r < 2 ^ 64 := Nat.pow_lt_pow_right (by decide) hr;exact h
theorem or_val (x r : Nat) (hx : x < 18446744073709551616) (hr : r < 64) : bits .or .u64 (x : Int) (IntKind.u64.wrap ((2 : Int) ^ r)) = ((x ||| 2 ^ r : Nat) : Int) := by
 rw [wrap_pow r hr];exact u64_or_nat x (2 ^ r) hx (pow_lt64 r hr)
theorem or_lt {x r : Nat} (hx : x < 18446744073709551616) (hr : r < 64) : x ||| 2 ^ r < 18446744073709551616 := by
 have : x ||| 2 ^ r < 2 ^ 64 := Nat.or_lt_two_pow hx (pow_lt64 r hr);exact this
theorem word_and (x : Nat) (h0 : 0 < x) (hx : x < 18446744073709551616) : bits .and .u64 (x : Int) ((x : Int) - 1) = ((x &&& (x - 1) : Nat) : Int) := by
 rw [show ((x : Int) - 1) = ((x - 1 : Nat) : Int) by omega];exact u64_and_nat x (x - 1) hx (by omega)
end Go.Proofs.YtlnlppabeddclaaDoor
