/- Parts. -/
import Derived.Test.YtojlaphklkomfaaDoorPairMakesCardK5
import Derived.Lib.SlicesS
import Derived.Deep.MidRow
set_option maxRecDepth 10000
set_option maxHeartbeats 16000000
set_option linter.unusedVariables false
set_option linter.unusedSimpArgs false
namespace Go.Proofs.YtojlaphklkomfaaDoor
open Go.Lib
def riseB : List ByteArray → Bool
 | [] => true
 | [_] => true
 | a :: b :: l => lessB a b && riseB (b :: l)
def tabB (t : List ByteArray) : Bool := t.all isName && riseB t
theorem riseB_iff : ∀ t : List ByteArray, riseB t = true ↔ ∀ (j : Nat) x y, t[j]? = some x → t[j + 1]? = some y → lessB x y = true
 | [] => ⟨fun _ j x y h => (by cases h), fun _ => rfl⟩
 | [a] => ⟨fun _ j x y _ h => (by simp at h), fun _ => rfl⟩
 | a :: b :: l => by
  rw [riseB, Bool.and_eq_true, riseB_iff (b :: l)]
  constructor
  ·rintro ⟨h1, h2⟩ j x y hx hy
   cases j with
   | zero =>
    obtain rfl := Option.some.inj hx;obtain rfl := Option.some.inj hy;exact h1
   | succ j => exact h2 j x y hx hy
  ·intro h;exact ⟨h 0 a b rfl rfl, fun j x y hx hy => h (j + 1) x y hx hy⟩
theorem tab_iff (t : List ByteArray) : tabB t = true ↔ (∀ (j : Nat) x, t[j]? = some x → isName x = true) ∧ ∀ (j : Nat) x y, t[j]? = some x → t[j + 1]? = some y → lessB x y = true := by
 unfold tabB;rw [Bool.and_eq_true, riseB_iff, List.all_eq_true];refine ⟨fun ⟨h1, h2⟩ => ⟨fun j x hx => h1 x (List.mem_of_getElem? hx), h2⟩, fun ⟨h1, h2⟩ => ⟨fun x hx => ?_, h2⟩⟩;obtain ⟨j, hj⟩ := List.mem_iff_getElem?.1 hx;exact h1 j x hj
theorem tab_bad1 {t : List ByteArray} {j : Nat} {x : ByteArray} (h : t[j]? = some x) (hn : isName x = false) : tabB t = false := by
 cases ht : tabB t with
 | false => rfl
 | true =>
  have := ((tab_iff t).1 ht).1 j x h;rw [hn] at this
  cases this
theorem tab_bad2 {t : List ByteArray} {j : Nat} {x y : ByteArray} (h : t[j]? = some x) (h' : t[j + 1]? = some y) (hn : lessB x y = false) : tabB t = false := by
 cases ht : tabB t with
 | false => rfl
 | true =>
  have := ((tab_iff t).1 ht).2 j x y h h';rw [hn] at this
  cases this
theorem of_rising : ∀ t : List ByteArray, Rising t → riseB t = true
 | [], _ => rfl
 | [a], _ => rfl
 | a :: b :: l, h => by
  obtain ⟨h1, h2⟩ := List.pairwise_cons.1 h;rw [riseB, h1 b (List.mem_cons_self ..), of_rising (b :: l) h2]
  rfl
theorem tab_sort (l : List ByteArray) : tabB (sortB l) = true := by
 have h := (sortB_names l).1;unfold tabB;rw [of_rising _ h.rise, Bool.and_true, List.all_eq_true];exact h.name
def posB (t : List ByteArray) (s : ByteArray) : Int := if tabB t = true then idxOfS t s else -1
theorem idx_ge (t : List ByteArray) (s : ByteArray) : -1 ≤ idxOfS t s ∧ idxOfS t s < t.length := by
 by_cases h : s ∈ t
 ·obtain ⟨k, hk, hmin⟩ : ∃ k : Nat, t[k]? = some s ∧ ∀ j, j < k → t[j]? ≠ some s := by
   obtain ⟨k, hk⟩ := List.mem_iff_getElem?.1 h;refine Nat.strongRecOn (motive := fun k : Nat => t[k]? = some s → ∃ k : Nat, t[k]? = some s ∧ ∀ j, j < k → t[j]? ≠ some s) k (fun k ih hk => ?_) hk
   by_cases hj : ∃ j, j < k ∧ t[j]? = some s
   ·obtain ⟨j, hj1, hj2⟩ := hj;exact ih j hj1 hj2
   ·exact ⟨k, hk, fun j hj1 hj2 => hj ⟨j, hj1, hj2⟩⟩
  have hl := (List.getElem?_eq_some_iff.1 hk).1;have := idxOfS_hit t t.length k s hl (Nat.le_refl _) (by rw [List.getD_eq_getElem?_getD, hk]; rfl) (fun j hj e => hmin j hj (by
   rw [List.getD_eq_getElem?_getD, List.getElem?_eq_getElem (by omega)] at e;rw [List.getElem?_eq_getElem (by omega)];exact congrArg some e))
  rw [List.take_length] at this;rw [this];omega
 ·have := idxOfS_miss t t.length s (fun j hj e => h (by
   rw [List.getD_eq_getElem?_getD, List.getElem?_eq_getElem hj] at e;have e2 : t[j] = s := e;rw [← e2];exact List.getElem_mem hj))
  rw [List.take_length] at this;rw [this];omega
theorem idx_first {t : List ByteArray} {s : ByteArray} {k : Nat} (hk : t[k]? = some s) (hmin : ∀ j, j < k → ∀ y, t[j]? = some y → y ≠ s) : idxOfS t s = k := by
 have hl := (List.getElem?_eq_some_iff.1 hk).1;have := idxOfS_hit t t.length k s hl (Nat.le_refl _) (by rw [List.getD_eq_getElem?_getD, hk]; rfl) (fun j hj e => hmin j hj _ (List.getElem?_eq_getElem (by omega)) (by
  rw [List.getD_eq_getElem?_getD, List.getElem?_eq_getElem (by omega)] at e;exact e))
 rwa [List.take_length] at this
theorem idx_none {t : List ByteArray} {s : ByteArray} (h : ∀ (j : Nat) y, t[j]? = some y → y ≠ s) : idxOfS t s = -1 := by
 have := idxOfS_miss t t.length s (fun j hj e => h j _ (List.getElem?_eq_getElem hj) (by
  rw [List.getD_eq_getElem?_getD, List.getElem?_eq_getElem hj] at e;exact e))
 rwa [List.take_length] at this
def kOk (k : Int) : Bool := decide (1 ≤ k ∧ k ≤ 6)
def kN (k : Int) : Int := if 1 ≤ k ∧ k ≤ 6 then k else 0
def kW (k : Int) : ByteArray := if k = 1 then ⟨#[98, 101, 103, 105, 110]⟩ else if k = 2 then ⟨#[114, 101, 97, 100]⟩ else if k = 3 then ⟨#[119, 114, 105, 116, 101]⟩ else if k = 4 then ⟨#[111, 107]⟩ else if k = 5 then ⟨#[102, 97, 105, 108]⟩ else if k = 6 then ⟨#[105, 110, 102, 111]⟩ else ⟨#[]⟩
def kO (k : Int) : Bool := decide (k = 2 ∨ k = 3)
theorem kN_cases (k : Int) : (k = 1) ∨ (k = 2) ∨ (k = 3) ∨ (k = 4) ∨ (k = 5) ∨ (k = 6) ∨ (kN k = 0 ∧ kOk k = false ∧ kO k = false ∧ kW k = ⟨#[]⟩ ∧ k ≠ 1 ∧ k ≠ 2 ∧ k ≠ 3 ∧ k ≠ 4 ∧ k ≠ 5 ∧ k ≠ 6) := by
 by_cases h : 1 ≤ k ∧ k ≤ 6
 ·omega
 ·have h1 : k ≠ 1 := by omega
  have h2 : k ≠ 2 := by omega
  have h3 : k ≠ 3 := by omega
  have h4 : k ≠ 4 := by omega
  have h5 : k ≠ 5 := by omega
  have h6 : k ≠ 6 := by omega
  iterate 6 right
  refine ⟨if_neg h, decide_eq_false h, decide_eq_false (by omega), ?_, h1, h2, h3, h4, h5, h6⟩;unfold kW;rw [if_neg h1, if_neg h2, if_neg h3, if_neg h4, if_neg h5, if_neg h6]
theorem ev_ne {s : ByteArray} {l : List UInt8} (h : s ≠ ⟨l.toArray⟩) : (s.toList == l) = false ∧ (l == s.toList) = false := by
 constructor
 all_goals
  rw [beq_eq_false_iff_ne, Lib.toList_data];intro e
 ·exact h (by_inj (e.trans List.toList_toArray.symm))
 ·exact h (by_inj (e.symm.trans List.toList_toArray.symm))
def verbC : List Value := [.int .i64 1, .string ⟨#[98, 101, 103, 105, 110]⟩, .bool false, .int .i64 2, .string ⟨#[114, 101, 97, 100]⟩, .bool true, .int .i64 3, .string ⟨#[119, 114, 105, 116, 101]⟩, .bool true, .int .i64 4, .string ⟨#[111, 107]⟩, .bool false, .int .i64 5, .string ⟨#[102, 97, 105, 108]⟩, .bool false, .int .i64 6, .string ⟨#[105, 110, 102, 111]⟩, .bool false]
def verbV : Value := .agg #[.int .i64 1, .string ⟨#[98, 101, 103, 105, 110]⟩, .bool false, .int .i64 2, .string ⟨#[114, 101, 97, 100]⟩, .bool true, .int .i64 3, .string ⟨#[119, 114, 105, 116, 101]⟩, .bool true, .int .i64 4, .string ⟨#[111, 107]⟩, .bool false, .int .i64 5, .string ⟨#[102, 97, 105, 108]⟩, .bool false, .int .i64 6, .string ⟨#[105, 110, 102, 111]⟩, .bool false]
def Verbs (w : World) : Prop := 0 < w.heap.size ∧ ∀ (i : Nat) (u : Value), verbC[i]? = some u → w.cell? ⟨0, i, none⟩ = some u
theorem Verbs.only {w w' : World} (h : Verbs w) (ho : Only [] w w') : Verbs w' :=
 ⟨Nat.lt_of_lt_of_le h.1 ho.size, fun i u hu => (ho.cell (p := ⟨0, i, none⟩) h.1 (by simp)).trans (h.2 i u hu)⟩
theorem verb_i0 (w : World) : (Instr.index 97 verbV (.int .i64 0)).run Tryd.prog w = .ok (.agg #[.int .i64 1, .string (kW 1), .bool (kO 1)]) w := by kernel_rfl
theorem verb_i1 (w : World) : (Instr.index 97 verbV (.int .i64 1)).run Tryd.prog w = .ok (.agg #[.int .i64 2, .string (kW 2), .bool (kO 2)]) w := by kernel_rfl
theorem verb_i2 (w : World) : (Instr.index 97 verbV (.int .i64 2)).run Tryd.prog w = .ok (.agg #[.int .i64 3, .string (kW 3), .bool (kO 3)]) w := by kernel_rfl
theorem verb_i3 (w : World) : (Instr.index 97 verbV (.int .i64 3)).run Tryd.prog w = .ok (.agg #[.int .i64 4, .string (kW 4), .bool (kO 4)]) w := by kernel_rfl
theorem verb_i4 (w : World) : (Instr.index 97 verbV (.int .i64 4)).run Tryd.prog w = .ok (.agg #[.int .i64 5, .string (kW 5), .bool (kO 5)]) w := by kernel_rfl
theorem verb_i5 (w : World) : (Instr.index 97 verbV (.int .i64 5)).run Tryd.prog w = .ok (.agg #[.int .i64 6, .string (kW 6), .bool (kO 6)]) w := by kernel_rfl
theorem verb_idx (j : Nat) (hj : j < 6) (w : World) : (Instr.index 97 verbV (.int .i64 (j : Int))).run Tryd.prog w = .ok (.agg #[.int .i64 ((j : Int) + 1), .string (kW ((j : Int) + 1)), .bool (kO ((j : Int) + 1))]) w := by
 have h : j = 0 ∨ j = 1 ∨ j = 2 ∨ j = 3 ∨ j = 4 ∨ j = 5 := by omega
 rcases h with rfl | rfl | rfl | rfl | rfl | rfl
 ·exact verb_i0 w
 ·exact verb_i1 w
 ·exact verb_i2 w
 ·exact verb_i3 w
 ·exact verb_i4 w
 ·exact verb_i5 w
end Go.Proofs.YtojlaphklkomfaaDoor
