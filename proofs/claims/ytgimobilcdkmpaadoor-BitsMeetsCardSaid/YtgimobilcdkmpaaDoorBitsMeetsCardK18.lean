/- Sets joined, sets that meet, sets made of lists. Mathematics. -/
import Derived.Test.YtgimobilcdkmpaaDoorBitsMeetsCardK17
set_option linter.unusedVariables false
set_option linter.unusedSimpArgs false
namespace Go.Proofs.YtgimobilcdkmpaaDoor
/-- Have they something in common in the first k words? -/
def meetTo (ws vs : List Nat) (k : Nat) : Bool := (List.range k).any fun i => decide (ws.getD i 0 &&& vs.getD i 0 ≠ 0)
theorem meet_iff {ws vs : List Nat} : meetTo ws vs 8 = true ↔ ∃ m, m < 512 ∧ (∃ h : ws.getD (m / 64) 0 < 18446744073709551616, True) ∧ bitW ws m = true ∧ bitW vs m = true ∨ ∃ i, i < 8 ∧ ¬ ws.getD i 0 < 18446744073709551616 ∧ ws.getD i 0 &&& vs.getD i 0 ≠ 0 := by
 unfold meetTo
 rw [List.any_eq_true]
 constructor
 ·rintro ⟨i, hi, h⟩
  have hi' := List.mem_range.1 hi
  rw [decide_eq_true_eq] at h
  by_cases hb : ws.getD i 0 < 18446744073709551616
  ·obtain ⟨j, hj⟩ := Nat.exists_testBit_of_ne_zero h
   rw [Nat.testBit_and, Bool.and_eq_true] at hj
   have hj64 : j < 64 := by
    rcases Nat.lt_or_ge j 64 with h1 | h1
    ·exact h1
    ·have h2 : ws.getD i 0 < 2 ^ j := Nat.lt_of_lt_of_le hb (Nat.pow_le_pow_right (n := 2) (by omega) h1)
     rw [Nat.testBit_lt_two_pow h2] at hj
     exact absurd hj.1 (by decide)
   refine ⟨i * 64 + j, .inl ⟨by omega, ⟨by rw [show (i * 64 + j) / 64 = i by omega]; exact hb, trivial⟩, ?_, ?_⟩⟩
   ·unfold bitW
    rw [show (i * 64 + j) / 64 = i by omega, show (i * 64 + j) % 64 = j by omega]
    exact hj.1
   ·unfold bitW
    rw [show (i * 64 + j) / 64 = i by omega, show (i * 64 + j) % 64 = j by omega]
    exact hj.2
  ·exact ⟨0, .inr ⟨i, hi', hb, h⟩⟩
 ·rintro ⟨m, ⟨h1, -, h2, h3⟩ | ⟨i, hi, -, h⟩⟩
  ·refine ⟨m / 64, List.mem_range.2 (by omega), ?_⟩
   rw [decide_eq_true_eq]
   intro e
   unfold bitW at h2 h3
   have := congrArg (fun x => Nat.testBit x (m % 64)) e
   simp only [Nat.testBit_and, h2, h3, Nat.zero_testBit] at this
   cases this
  ·exact ⟨i, List.mem_range.2 hi, by rw [decide_eq_true_eq]; exact h⟩
theorem meet_fits {ws vs : List Nat} (hw : Fits ws) : meetTo ws vs 8 = true ↔ ∃ m, m < 512 ∧ bitW ws m = true ∧ bitW vs m = true := by
 rw [meet_iff]
 constructor
 ·rintro ⟨m, ⟨h1, -, h2, h3⟩ | ⟨i, hi, h, -⟩⟩
  ·exact ⟨m, h1, h2, h3⟩
  ·exact absurd (hw.2 i) h
 ·rintro ⟨m, h1, h2, h3⟩
  exact ⟨m, .inl ⟨h1, ⟨hw.2 _, trivial⟩, h2, h3⟩⟩
theorem noW_get (k : Nat) : noW.getD k 0 = 0 := by
 match k with
 | 0 | 1 | 2 | 3 | 4 | 5 | 6 | 7 => rfl
 | k + 8 => rfl
theorem no_fits : Fits noW := by
 refine ⟨rfl, fun k => ?_⟩
 rw [noW_get k]
 exact Nat.lt_of_sub_ne_zero (by decide)
theorem make_fits (zs : List Int) (hz : ∀ z ∈ zs, 0 ≤ z ∧ z < 500) : Fits (makeW zs) ∧ ∀ m, m < 512 → bitW (makeW zs) m = decide ((m : Int) ∈ zs) := by
 have gen : ∀ (zs : List Int) (ws : List Nat), (∀ z ∈ zs, 0 ≤ z ∧ z < 500) → Fits ws → Fits (zs.foldl putW ws) ∧ ∀ m, m < 512 → bitW (zs.foldl putW ws) m = (bitW ws m || decide ((m : Int) ∈ zs)) := by
  intro zs
  induction zs with
  | nil => intro ws _ hw; exact ⟨hw, fun m _ => by simp⟩
  | cons z zs ih =>
   intro ws hz hw
   have h0 := hz z List.mem_cons_self
   obtain ⟨q, rfl⟩ : ∃ q : Nat, z = q := ⟨z.toNat, by omega⟩
   obtain ⟨h1, h2⟩ := ih (putW ws (q : Int)) (fun x hx => hz x (List.mem_cons_of_mem _ hx)) (put_fits ws q hw (by omega))
   rw [List.foldl_cons]
   refine ⟨h1, fun m hm => ?_⟩
   rw [h2 m hm, bit_put ws q m hw.1 (by omega)]
   by_cases hmq : m = q
   ·have e2 : decide ((m : Int) ∈ (q : Int) :: zs) = true := decide_eq_true (by rw [hmq]; exact List.mem_cons_self)
    rw [e2, decide_eq_true hmq, Bool.true_or, Bool.or_true, Bool.true_or]
   ·have e2 : decide ((m : Int) ∈ (q : Int) :: zs) = decide ((m : Int) ∈ zs) := by
     rw [decide_eq_decide, List.mem_cons]
     exact ⟨fun h => h.resolve_left (by omega), .inr⟩
    rw [e2, decide_eq_false hmq, Bool.false_or]
 obtain ⟨h1, h2⟩ := gen zs noW hz no_fits
 exact ⟨h1, fun m hm => by
  show bitW (zs.foldl putW noW) m = _
  rw [h2 m hm]
  have hb : bitW noW m = false := by
   have : ∀ k, noW.getD k 0 = 0 := fun k => by
    match k with
    | 0 | 1 | 2 | 3 | 4 | 5 | 6 | 7 => rfl
    | k + 8 => rfl
   unfold bitW
   rw [this]
   simp
  rw [hb]
  simp⟩
end Go.Proofs.YtgimobilcdkmpaaDoor
