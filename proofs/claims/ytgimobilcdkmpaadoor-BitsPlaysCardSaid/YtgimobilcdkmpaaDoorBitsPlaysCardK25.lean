/- Parts. -/
import Derived.Test.YtgimobilcdkmpaaDoorBitsPlaysCardK23
import Derived.Test.YtgimobilcdkmpaaDoorBitsPlaysCardK24
set_option maxRecDepth 10000
set_option maxHeartbeats 16000000
set_option linter.unusedVariables false
set_option linter.unusedSimpArgs false
namespace Go.Proofs.YtgimobilcdkmpaaDoor
structure RelB (ws : List Nat) (K : List Int) : Prop where
 fit : Fits ws
 bd : ∀ z ∈ K, 0 ≤ z ∧ z < 500
 bit : ∀ m, m < 512 → bitW ws m = decide ((m : Int) ∈ K)
section
variable {ws : List Nat} {K : List Int}
theorem RelB.make (zs : List Int) : RelB (makeW zs) (okK zs) := by
 have hb : ∀ z ∈ okK zs, 0 ≤ z ∧ z < 500 := fun z hz => by
  have := (List.mem_filter.1 hz).2
  simpa using this
 obtain ⟨h1, h2⟩ := make_fits (okK zs) hb;rw [makeW_ok] at h1 h2;exact ⟨h1, hb, h2⟩
theorem RelB.put (h : RelB ws K) (n : Int) : RelB (putW ws n) (rputK K n true) := by
 by_cases hn : 0 ≤ n ∧ n < 500
 ·obtain ⟨k, rfl⟩ : ∃ k : Nat, n = k := ⟨n.toNat, by omega⟩;have hk : k < 500 := by omega
  have e : rputK K (k : Int) true = K ++ [(k : Int)] := by unfold rputK; rw [if_pos hn, if_pos rfl]
  rw [e];refine ⟨put_fits ws k h.fit hk, fun z hz => ?_, fun m hm => ?_⟩
  ·rcases List.mem_append.1 hz with h1 | h1
   ·exact h.bd z h1
   ·rw [List.mem_singleton.1 h1]; exact hn
  ·rw [bit_put ws k m h.fit.1 hk, h.bit m hm, ← Bool.decide_or, decide_eq_decide, List.mem_append, List.mem_singleton]
   constructor
   ·rintro (rfl | h1)
    ·exact .inr rfl
    ·exact .inl h1
   ·rintro (h1 | h1)
    ·exact .inr h1
    ·exact .inl (by omega)
 ·have e : rputK K n true = K := by unfold rputK; rw [if_neg hn]
  have e2 : putW ws n = ws := by unfold putW; rw [if_neg (fun h => hn (mayN_iff.1 h))]
  rw [e, e2];exact h
theorem RelB.drop (h : RelB ws K) (n : Int) : RelB (dropW ws n) (rputK K n false) := by
 by_cases hn : 0 ≤ n ∧ n < 500
 ·obtain ⟨k, rfl⟩ : ∃ k : Nat, n = k := ⟨n.toNat, by omega⟩;have hk : k < 500 := by omega
  have e : rputK K (k : Int) false = K.filter fun z => decide (z ≠ (k : Int)) := by unfold rputK; rw [if_pos hn, if_neg (by decide)]
  rw [e];refine ⟨drop_fits ws k h.fit hk, fun z hz => h.bd z (List.mem_filter.1 hz).1, fun m hm => ?_⟩;rw [bit_drop ws k m h.fit.1 hk, h.bit m hm]
  by_cases e1 : m = k
  ·subst e1;simp
  ·have e2 : ¬ (m : Int) = (k : Int) := by omega
   simp [e1, e2, List.mem_filter]
 ·have e : rputK K n false = K := by unfold rputK; rw [if_neg hn]
  have e2 : dropW ws n = ws := by unfold dropW; rw [if_neg (fun h => hn (mayN_iff.1 h))]
  rw [e, e2];exact h
theorem RelB.join (h : RelB ws K) {vs : List Nat} {K' : List Int} (h' : RelB vs K') : RelB (joinW ws vs) (joinK K K' 500) ∧ (!decide (joinW ws vs = ws)) = moreK K K' 500 := by
 have hf := join_fits h.fit h'.fit;have hbit : ∀ m, m < 512 → bitW (joinW ws vs) m = (decide ((m : Int) ∈ K) || decide ((m : Int) ∈ K')) := fun m hm => by rw [bit_join h.fit.1 h'.fit.1, h.bit m hm, h'.bit m hm]
 constructor
 ·refine ⟨hf, fun z hz => ?_, fun m hm => ?_⟩
  ·unfold joinK at hz;rcases List.mem_append.1 hz with h1 | h1
   ·exact h.bd z h1
   ·exact h'.bd z (List.mem_filter.1 h1).1
  ·rw [hbit m hm, joinK_mem]
   by_cases h1 : (m : Int) ∈ K'
   ·have := (h'.bd _ h1).2;rw [decide_eq_true (show m < 500 by omega), Bool.and_true]
   ·rw [decide_eq_false h1, Bool.false_and]
 ·have key : joinW ws vs = ws ↔ moreK K K' 500 = false := by
   constructor
   ·intro e;rw [Bool.eq_false_iff];intro hm;obtain ⟨j, hj, hh⟩ := List.any_eq_true.1 hm;rw [Bool.and_eq_true, Bool.not_eq_true', decide_eq_true_eq, decide_eq_false_iff_not] at hh;have hj2 := List.mem_range.1 hj;have h1 := hbit j (by omega);rw [e, h.bit j (by omega), decide_eq_true hh.1, decide_eq_false hh.2] at h1
    cases h1
   ·intro hm;refine fits_ext _ _ hf h.fit fun m hlt => ?_;rw [hbit m hlt, h.bit m hlt]
    by_cases h1 : (m : Int) ∈ K'
    ·by_cases h2 : (m : Int) ∈ K
     ·rw [decide_eq_true h2, Bool.true_or]
     ·exfalso
      have hb := (h'.bd _ h1).2;have : moreK K K' 500 = true := List.any_eq_true.2 ⟨m, List.mem_range.2 (by omega), by rw [decide_eq_true h1, decide_eq_false h2]; rfl⟩;rw [hm] at this
      cases this
    ·rw [decide_eq_false h1, Bool.or_false]
  cases hm : moreK K K' 500 with
  | false => rw [decide_eq_true (key.2 hm)]; rfl
  | true =>
   rw [decide_eq_false (fun e => by rw [key.1 e] at hm; cases hm)]
   rfl
theorem RelB.has (h : RelB ws K) (n : Int) : hasW ws n = hasK K n := by
 by_cases hn : 0 ≤ n ∧ n < 500
 ·obtain ⟨k, rfl⟩ : ∃ k : Nat, n = k := ⟨n.toNat, by omega⟩;rw [hasW_bit ws k (by omega), h.bit k (by omega)];unfold hasK;rw [decide_eq_true hn, Bool.true_and]
 ·unfold hasW hasK;have : mayN n = false := by
   cases hm : mayN n
   ·rfl
   ·exact absurd (mayN_iff.1 hm) hn
  rw [this, decide_eq_false hn]
  rfl
theorem may_code (n : Int) : (if mayN n = true then (0 : Int) else 2) = if 0 ≤ n ∧ n < 500 then 0 else 2 := by
 by_cases hn : 0 ≤ n ∧ n < 500
 ·rw [if_pos (mayN_iff.2 hn), if_pos hn]
 ·rw [if_neg (fun h => hn (mayN_iff.1 h)), if_neg hn]
theorem allTo_bits (hf : Fits ws) : ∀ k, k ≤ 8 → allTo ws k = ((List.range (k * 64)).filter fun m => bitW ws m).map fun m : Nat => (m : Int)
 | 0, _ => by simp [allTo]
 | k + 1, hk => by
  rw [allTo_succ, allTo_bits hf k (by omega), show (k + 1) * 64 = k * 64 + 64 by omega, List.range_add, List.filter_append, List.map_append]
  congr 1
  unfold bitsOf;rw [← List.range_eq_range', List.filter_map, List.map_map];have e : ((fun m => bitW ws m) ∘ fun x => k * 64 + x) = fun x => bitW ws (k * 64 + x) := rfl;have e2 : (List.range 64).filter ((fun m => bitW ws m) ∘ fun x => k * 64 + x) = (List.range 64).filter fun i => (ws.getD k 0).testBit i := by
   refine List.filter_congr fun i hi => ?_;have hi := List.mem_range.1 hi
   show bitW ws (k * 64 + i) = _
   unfold bitW;rw [show (k * 64 + i) / 64 = k by omega, show (k * 64 + i) % 64 = i by omega]
  rw [e2]
  rfl
theorem RelB.all (h : RelB ws K) : allW ws = allK 500 K := by
 unfold allW allK;rw [allTo_bits h.fit 8 (by omega)];have e : (List.range (8 * 64)).filter (fun m => bitW ws m) = (List.range 500).filter fun b : Nat => decide ((b : Int) ∈ K) := by
  rw [show 8 * 64 = 500 + 12 from rfl, List.range_add, List.filter_append];have e1 : (List.range 500).filter (fun m => bitW ws m) = (List.range 500).filter fun b : Nat => decide ((b : Int) ∈ K) := List.filter_congr fun m hm => h.bit m (by have := List.mem_range.1 hm; omega);have e2 : ((List.range 12).map fun x => 500 + x).filter (fun m => bitW ws m) = [] := by
   rw [List.filter_eq_nil_iff];intro m hm;obtain ⟨i, hi, rfl⟩ := List.mem_map.1 hm;have hi := List.mem_range.1 hi;rw [h.bit _ (by omega), decide_eq_true_eq];intro hin;have := (h.bd _ hin).2;omega
  rw [e1, e2, List.append_nil]
 rw [e]
end
end Go.Proofs.YtgimobilcdkmpaaDoor
