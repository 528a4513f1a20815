/- A region in which three chained calls stand beside three operations that wait for nothing (numbers 1, 3, 5 and 6, 7, 8 of twelve; 0, 2, 4 done ahead): whichever order is drawn, an invariant is carried till all six are done. -/
import Derived.Test.YtclikdibpeiamaaTimed
set_option linter.unusedVariables false
set_option linter.unusedSimpArgs false
namespace Go.Proofs.Ytclikdibpeiamaa

def bd3 (b1 b3 b5 b6 b7 b8 : Bool) : Array Bool := #[true, b1, true, b3, true, b5, b6, b7, b8, false, false, false]
def rd3 (b1 b3 b5 b6 b7 b8 : Bool) : List Nat :=
  (if b1 then [] else [1]) ++ ((if b3 || !b1 then [] else [3]) ++ ((if b5 || !b3 then [] else [5]) ++ ((if b6 then [] else [6]) ++ ((if b7 then [] else [7]) ++ ((if b8 then [] else [8]) ++ (if b1 && b5 && b6 && b7 && b8 then [9] else []))))))

section
variable {P : Program} {ops : Array Oper} {Q : Exit → Act → World → Prop} {md : Region.Mode} {S : Array Bool → World → Prop}
theorem spread3 (I : Bool → Bool → Bool → Bool → Bool → Bool → Act → World → Prop) (k : Nat)
    (hr : ∀ b1 b3 b5 b6 b7 b8, Region.ready md ops (bd3 b1 b3 b5 b6 b7 b8) = rd3 b1 b3 b5 b6 b7 b8)
    (hS : ∀ b1 b3 b5 b6 b7 b8 a w, I b1 b3 b5 b6 b7 b8 a w → S (bd3 b1 b3 b5 b6 b7 b8) w)
    (hI : ∀ b1 b3 b5 b6 b7 b8 a w, I b1 b3 b5 b6 b7 b8 a w → b5 = true → b3 = true)
    (h1 : ∀ b3 b5 b6 b7 b8 a w, I false b3 b5 b6 b7 b8 a w → wpOp P ops Q 1 (I true b3 b5 b6 b7 b8) a w)
    (h3 : ∀ b1 b5 b6 b7 b8 a w, I b1 false b5 b6 b7 b8 a w → wpOp P ops Q 3 (I b1 true b5 b6 b7 b8) a w)
    (h5 : ∀ b1 b6 b7 b8 a w, I b1 true false b6 b7 b8 a w → wpOp P ops Q 5 (I b1 true true b6 b7 b8) a w)
    (h6 : ∀ b1 b3 b5 b7 b8 a w, I b1 b3 b5 false b7 b8 a w → wpOp P ops Q 6 (I b1 b3 b5 true b7 b8) a w)
    (h7 : ∀ b1 b3 b5 b6 b8 a w, I b1 b3 b5 b6 false b8 a w → wpOp P ops Q 7 (I b1 b3 b5 b6 true b8) a w)
    (h8 : ∀ b1 b3 b5 b6 b7 a w, I b1 b3 b5 b6 b7 false a w → wpOp P ops Q 8 (I b1 b3 b5 b6 b7 true) a w)
    (he : ∀ a w, I true true true true true true a w → wpAnyT P md ops Q S k (bd3 true true true true true true) a w) :
    ∀ (n : Nat) b1 b3 b5 b6 b7 b8 a w, (!b1).toNat + (!b3).toNat + (!b5).toNat + (!b6).toNat + (!b7).toNat + (!b8).toNat = n → I b1 b3 b5 b6 b7 b8 a w →
      wpAnyT P md ops Q S (k + n) (bd3 b1 b3 b5 b6 b7 b8) a w := by
  intro n
  induction n with
  | zero =>
    intro b1 b3 b5 b6 b7 b8 a w hn h
    obtain ⟨rfl, rfl, rfl, rfl, rfl, rfl⟩ : b1 = true ∧ b3 = true ∧ b5 = true ∧ b6 = true ∧ b7 = true ∧ b8 = true := by
      revert hn; clear h
      cases b1 <;> cases b3 <;> cases b5 <;> cases b6 <;> cases b7 <;> cases b8 <;> decide
    exact he a w h
  | succ n ih =>
    intro b1 b3 b5 b6 b7 b8 a w hn h
    have hb := hI _ _ _ _ _ _ _ _ h
    have go : ∀ (i : Nat) c1 c3 c5 c6 c7 c8, (bd3 b1 b3 b5 b6 b7 b8).setIfInBounds i true = bd3 c1 c3 c5 c6 c7 c8 → (!c1).toNat + (!c3).toNat + (!c5).toNat + (!c6).toNat + (!c7).toNat + (!c8).toNat = n →
        wpOp P ops Q i (I c1 c3 c5 c6 c7 c8) a w →
        wpOp P ops Q i (fun a' w' => S ((bd3 b1 b3 b5 b6 b7 b8).setIfInBounds i true) w' ∧ wpAnyT P md ops Q S (k + n) ((bd3 b1 b3 b5 b6 b7 b8).setIfInBounds i true) a' w') a w := by
      intro i c1 c3 c5 c6 c7 c8 e hc hw
      rw [e]
      exact wpOp_mono (fun a' w' h' => ⟨hS _ _ _ _ _ _ _ _ h', ih _ _ _ _ _ _ _ _ hc h'⟩) hw
    refine ⟨fun h0 => ?_, fun i hi => ?_⟩
    · exfalso
      rw [hr] at h0
      revert hn h0 hb; clear h ih go
      cases b1 <;> cases b3 <;> cases b5 <;> cases b6 <;> cases b7 <;> cases b8 <;> simp [rd3]
    · rw [hr] at hi
      unfold rd3 at hi
      rcases List.mem_append.1 hi with hi | hi
      · cases b1 with
        | true => simp at hi
        | false =>
          obtain rfl : i = 1 := by simpa using hi
          exact go 1 true b3 b5 b6 b7 b8 rfl (by simp at hn ⊢; omega) (h1 _ _ _ _ _ _ _ h)
      rcases List.mem_append.1 hi with hi | hi
      · cases b3 with
        | true => simp at hi
        | false =>
          obtain rfl : i = 3 := by cases b1 <;> simp at hi; exact hi
          exact go 3 b1 true b5 b6 b7 b8 rfl (by simp at hn ⊢; omega) (h3 _ _ _ _ _ _ _ h)
      rcases List.mem_append.1 hi with hi | hi
      · cases b5 with
        | true => simp at hi
        | false =>
          cases b3 with
          | false => simp at hi
          | true =>
            obtain rfl : i = 5 := by simpa using hi
            exact go 5 b1 true true b6 b7 b8 rfl (by simp at hn ⊢; omega) (h5 _ _ _ _ _ _ h)
      rcases List.mem_append.1 hi with hi | hi
      · cases b6 with
        | true => simp at hi
        | false =>
          obtain rfl : i = 6 := by simpa using hi
          exact go 6 b1 b3 b5 true b7 b8 rfl (by simp at hn ⊢; omega) (h6 _ _ _ _ _ _ _ h)
      rcases List.mem_append.1 hi with hi | hi
      · cases b7 with
        | true => simp at hi
        | false =>
          obtain rfl : i = 7 := by simpa using hi
          exact go 7 b1 b3 b5 b6 true b8 rfl (by simp at hn ⊢; omega) (h7 _ _ _ _ _ _ _ h)
      rcases List.mem_append.1 hi with hi | hi
      · cases b8 with
        | true => simp at hi
        | false =>
          obtain rfl : i = 8 := by simpa using hi
          exact go 8 b1 b3 b5 b6 b7 true rfl (by simp at hn ⊢; omega) (h8 _ _ _ _ _ _ _ h)
      · exfalso
        cases b1 <;> cases b5 <;> cases b6 <;> cases b7 <;> cases b8 <;> simp at hi
        obtain rfl := hb rfl
        simp at hn
end

end Go.Proofs.Ytclikdibpeiamaa
