/- Sets of nodes, bit by bit: what was put and then undone was as it is. -/
import Derived.Test.YtfekejhcikkhdaaDoorGraphG
set_option linter.unusedVariables false
set_option linter.unusedSimpArgs false
namespace Go.Proofs.YtfekejhcikkhdaaDoor

def bitW (ws : List Nat) (m : Nat) : Bool := (ws.getD (m / 64) 0).testBit (m % 64)
def Fits (ws : List Nat) : Prop := ws.length = 8 ∧ ∀ k, ws.getD k 0 < 18446744073709551616

theorem hasW_bit (ws : List Nat) (n : Nat) (h : n < 500) : hasW ws (n : Int) = bitW ws n := by
  unfold hasW bitW
  rw [mayN_iff.2 (by omega), Int.toNat_natCast]
  rfl
theorem bit_put (ws : List Nat) (n m : Nat) (hl : ws.length = 8) (hn : n < 500) : bitW (putW ws (n : Int)) m = (decide (m = n) || bitW ws m) := by
  unfold bitW putW
  rw [if_pos (mayN_iff.2 (by omega)), Int.toNat_natCast, getD_set ws _ _ _ (by omega)]
  split
  · rename_i hq
    rw [hq, Nat.testBit_or, Nat.testBit_two_pow, Bool.or_comm]
    congr 1
    rw [decide_eq_decide]
    omega
  · have : ¬ m = n := fun e => by subst e; contradiction
    simp [this]
theorem bit_drop (ws : List Nat) (n m : Nat) (hl : ws.length = 8) (hn : n < 500) : bitW (dropW ws (n : Int)) m = (!decide (m = n) && bitW ws m) := by
  unfold bitW dropW
  rw [if_pos (mayN_iff.2 (by omega)), Int.toNat_natCast, getD_set ws _ _ _ (by omega)]
  have hs : ∀ i, i < 64 → (18446744073709551615 - 2 ^ (n % 64)).testBit i = !decide (n % 64 = i) := fun i hi => by
    have := Nat.testBit_two_pow_sub_succ (n := 64) (x := 2 ^ (n % 64)) (pow_lt64 _ (by omega)) i
    rw [show (2 : Nat) ^ 64 - (2 ^ (n % 64) + 1) = 18446744073709551615 - 2 ^ (n % 64) by omega] at this
    rw [this, Nat.testBit_two_pow]
    simp [hi]
  split
  · rename_i hq
    rw [hq, Nat.testBit_and, hs _ (Nat.mod_lt m (by decide : 64 > 0)), Bool.and_comm]
    congr 2
    rw [decide_eq_decide]
    omega
  · have : ¬ m = n := fun e => by subst e; contradiction
    simp [this]
theorem put_fits (ws : List Nat) (n : Nat) (h : Fits ws) (hn : n < 500) : Fits (putW ws (n : Int)) := by
  refine ⟨(putW_len ws n).trans h.1, fun k => ?_⟩
  unfold putW
  rw [if_pos (mayN_iff.2 (by omega)), Int.toNat_natCast, getD_set ws _ _ _ (by rw [h.1]; omega)]
  split
  · exact or_lt (h.2 _) (by omega)
  · exact h.2 k
theorem drop_fits (ws : List Nat) (n : Nat) (h : Fits ws) (hn : n < 500) : Fits (dropW ws (n : Int)) := by
  refine ⟨by unfold dropW; split <;> simp [h.1], fun k => ?_⟩
  unfold dropW
  rw [if_pos (mayN_iff.2 (by omega)), Int.toNat_natCast, getD_set ws _ _ _ (by rw [h.1]; omega)]
  split
  · exact and_lt (h.2 _)
  · exact h.2 k
theorem fits_ext (ws vs : List Nat) (h1 : Fits ws) (h2 : Fits vs) (h : ∀ m, m < 512 → bitW ws m = bitW vs m) : ws = vs := by
  apply List.ext_getElem (by rw [h1.1, h2.1])
  intro i hi hi'
  rw [h1.1] at hi
  have e1 : ws[i] = ws.getD i 0 := by simp [List.getD_eq_getElem?_getD, List.getElem?_eq_getElem (show i < ws.length by rw [h1.1]; exact hi)]
  have e2 : vs[i] = vs.getD i 0 := by simp [List.getD_eq_getElem?_getD, List.getElem?_eq_getElem (show i < vs.length by rw [h2.1]; exact hi)]
  rw [e1, e2]
  apply Nat.eq_of_testBit_eq
  intro j
  by_cases hj : j < 64
  · have := h (i * 64 + j) (by omega)
    unfold bitW at this
    rw [show (i * 64 + j) / 64 = i by omega, show (i * 64 + j) % 64 = j by omega] at this
    exact this
  · rw [Nat.testBit_lt_two_pow (Nat.lt_of_lt_of_le (h1.2 i) (show 18446744073709551616 ≤ 2 ^ j from Nat.le_trans (by decide : 18446744073709551616 ≤ 2 ^ 64) (Nat.pow_le_pow_right (by omega) (by omega)))),
      Nat.testBit_lt_two_pow (Nat.lt_of_lt_of_le (h2.2 i) (show 18446744073709551616 ≤ 2 ^ j from Nat.le_trans (by decide : 18446744073709551616 ≤ 2 ^ 64) (Nat.pow_le_pow_right (by omega) (by omega))))]

theorem edgesTo_congr (O U : List (List Nat)) (k : Nat) (h : ∀ a, a < k → O.getD a [] = U.getD a []) : edgesTo O k = edgesTo U k := by
  induction k with
  | zero => rfl
  | succ k ih =>
    rw [edgesTo_succ, edgesTo_succ, ih (fun a ha => h a (by omega))]
    unfold rowE
    rw [h k (by omega)]

/-- All sets of O fit. -/
def FitsO (n : Nat) (O : List (List Nat)) : Prop := O.length = n ∧ ∀ a, a < n → Fits (O.getD a [])

/-- U is O with the edges l put. -/
def With (n : Nat) (O U : List (List Nat)) (l : List (Int × Int)) : Prop :=
  ∀ a m, a < n → m < 512 → bitW (U.getD a []) m = (bitW (O.getD a []) m || decide (((a : Int), (m : Int)) ∈ l))
/-- No edge of l is in O; all are of the n nodes. -/
def New (n : Nat) (O : List (List Nat)) (l : List (Int × Int)) : Prop := ∀ e ∈ l, ∃ a b : Nat, e = ((a : Int), (b : Int)) ∧ a < n ∧ b < n ∧ bitW (O.getD a []) b = false

theorem with_nil (n : Nat) (O : List (List Nat)) : With n O O [] := fun a m _ _ => by simp

theorem with_put (n : Nat) (O U : List (List Nat)) (l : List (Int × Int)) (hn : n ≤ 500) (hU : FitsO n U) (hw : With n O U l) (hl : New n O l) (x y : Int) :
    ∃ l', FitsO n (pO n U x y) ∧ With n O (pO n U x y) l' ∧ New n O l' ∧ ∀ h, pH n U (h ++ l) x y = h ++ l' := by
  cases hp : pB n U x y with
  | false =>
    unfold pO pH
    simp only [hp]
    exact ⟨l, hU, hw, hl, fun h => rfl⟩
  | true =>
    have hp' := hp
    unfold pB at hp'
    simp only [Bool.and_eq_true, Bool.not_eq_true'] at hp'
    obtain ⟨⟨hx, hy⟩, hb⟩ := hp'
    have hx' : 0 ≤ x ∧ x < n := by simpa [ndN] using hx
    have hy' : 0 ≤ y ∧ y < n := by simpa [ndN] using hy
    obtain ⟨a, rfl⟩ := Int.eq_ofNat_of_zero_le hx'.1
    obtain ⟨b, rfl⟩ := Int.eq_ofNat_of_zero_le hy'.1
    have ha : a < n := by omega
    have hb' : b < n := by omega
    rw [Int.toNat_natCast, hasW_bit _ _ (by omega)] at hb
    have hO : bitW (O.getD a []) b = false := by
      have := hw a b ha (by omega)
      rw [hb] at this
      have h2 := this.symm
      rw [Bool.or_eq_false_iff] at h2
      exact h2.1
    refine ⟨l ++ [((a : Int), (b : Int))], ⟨?_, fun i hi => ?_⟩, fun i m hi hm => ?_, fun e he => ?_, fun h => ?_⟩
    · unfold pO; rw [if_pos hp, List.length_set]; exact hU.1
    · unfold pO
      rw [if_pos hp, Int.toNat_natCast, getD_setL _ _ _ _ (by rw [hU.1]; exact ha)]
      split
      · exact put_fits _ _ (hU.2 a ha) (by omega)
      · exact hU.2 i hi
    · unfold pO
      rw [if_pos hp, Int.toNat_natCast, getD_setL _ _ _ _ (by rw [hU.1]; exact ha)]
      by_cases hai : a = i
      · subst hai
        rw [if_pos rfl, bit_put _ _ _ (hU.2 a ha).1 (by omega), hw a m ha hm]
        have : decide (((a : Int), (m : Int)) ∈ l ++ [((a : Int), (b : Int))]) = (decide (m = b) || decide (((a : Int), (m : Int)) ∈ l)) := by
          rw [← Bool.decide_or, decide_eq_decide]
          simp only [List.mem_append, List.mem_singleton, Prod.mk.injEq, true_and, Int.natCast_inj]
          exact or_comm
        rw [this, ← Bool.or_assoc, ← Bool.or_assoc, Bool.or_comm (decide (m = b))]
      · rw [if_neg hai, hw i m hi hm]
        congr 1
        rw [decide_eq_decide]
        simp only [List.mem_append, List.mem_singleton, Prod.mk.injEq, Int.natCast_inj]
        exact ⟨Or.inl, fun h => h.elim id fun h => absurd h.1.symm hai⟩
    · simp only [List.mem_append, List.mem_singleton] at he
      rcases he with he | rfl
      · exact hl e he
      · exact ⟨a, b, rfl, ha, hb', hO⟩
    · unfold pH
      rw [if_pos hp, List.append_assoc]

theorem undo_bits (n : Nat) (hn : n ≤ 500) : ∀ (l : List (Int × Int)) (U I : List (List Nat)), FitsO n U → (∀ e ∈ l, ∃ a b : Nat, e = ((a : Int), (b : Int)) ∧ a < n ∧ b < n) →
    FitsO n (l.foldl undo1 (U, I)).1 ∧ ∀ a m, a < n → m < 512 → bitW ((l.foldl undo1 (U, I)).1.getD a []) m = (!decide (((a : Int), (m : Int)) ∈ l) && bitW (U.getD a []) m) := by
  intro l
  induction l with
  | nil => intro U I hU _; exact ⟨hU, fun a m _ _ => by simp⟩
  | cons e l ih =>
    intro U I hU hl
    obtain ⟨a, b, rfl, ha, hb⟩ := hl e (List.mem_cons_self ..)
    have hf : FitsO n (U.set a (dropW (U.getD a []) (b : Int))) := by
      refine ⟨by rw [List.length_set]; exact hU.1, fun i hi => ?_⟩
      rw [getD_setL _ _ _ _ (by rw [hU.1]; exact ha)]
      split
      · exact drop_fits _ _ (hU.2 a ha) (by omega)
      · exact hU.2 i hi
    rw [List.foldl_cons]
    have hu : undo1 (U, I) ((a : Int), (b : Int)) = (U.set a (dropW (U.getD a []) (b : Int)), I.set b (dropW (I.getD b []) (a : Int))) := by simp only [undo1, Int.toNat_natCast]
    rw [hu]
    obtain ⟨h1, h2⟩ := ih _ (I.set b (dropW (I.getD b []) (a : Int))) hf (fun e he => hl e (List.mem_cons_of_mem _ he))
    refine ⟨h1, fun i m hi hm => ?_⟩
    rw [h2 i m hi hm, getD_setL _ _ _ _ (by rw [hU.1]; exact ha)]
    by_cases hai : a = i
    · subst hai
      rw [if_pos rfl, bit_drop _ _ _ (hU.2 a ha).1 (by omega)]
      have : decide (((a : Int), (m : Int)) ∈ ((a : Int), (b : Int)) :: l) = (decide (m = b) || decide (((a : Int), (m : Int)) ∈ l)) := by
        rw [← Bool.decide_or, decide_eq_decide]
        simp only [List.mem_cons, Prod.mk.injEq, true_and, Int.natCast_inj]
      rw [this, Bool.not_or, ← Bool.and_assoc, Bool.and_comm (!decide (m = b))]
    · rw [if_neg hai]
      congr 2
      rw [decide_eq_decide]
      simp only [List.mem_cons, Prod.mk.injEq, Int.natCast_inj]
      exact ⟨Or.inr, fun h => h.elim (fun h => absurd h.1.symm hai) id⟩

/-- What was put is undone, and nothing else. -/
theorem undo_with (n : Nat) (O U I : List (List Nat)) (h l : List (Int × Int)) (hn : n ≤ 500) (hO : FitsO n O) (hU : FitsO n U) (hw : With n O U l) (hl : New n O l) :
    edgesTo (undoS U I (h ++ l) h.length).1 n = edgesTo O n := by
  unfold undoS
  rw [List.drop_left]
  obtain ⟨h1, h2⟩ := undo_bits n hn l U I hU (fun e he => by obtain ⟨a, b, e1, e2, e3, _⟩ := hl e he; exact ⟨a, b, e1, e2, e3⟩)
  refine edgesTo_congr _ _ n fun a ha => fits_ext _ _ (h1.2 a ha) (hO.2 a ha) fun m hm => ?_
  rw [h2 a m ha hm, hw a m ha hm]
  by_cases he : ((a : Int), (m : Int)) ∈ l
  · obtain ⟨a', b', e1, _, _, e4⟩ := hl _ he
    simp only [Prod.mk.injEq, Int.natCast_inj] at e1
    obtain ⟨rfl, rfl⟩ := e1
    rw [e4]
    simp [he]
  · simp [he]

theorem Gr.fits {w : World} {p n : Nat} {O I : List (List Nat)} {h : List (Int × Int)} {fp : List Nat} (g : Gr w p n O I h fp) : FitsO n O := by
  obtain ⟨A1, A2, A3, c1, c2, c3, po, qi, g⟩ := g
  exact ⟨g.len3, fun a ha => (g.set1 a ha).2⟩

end Go.Proofs.YtfekejhcikkhdaaDoor
