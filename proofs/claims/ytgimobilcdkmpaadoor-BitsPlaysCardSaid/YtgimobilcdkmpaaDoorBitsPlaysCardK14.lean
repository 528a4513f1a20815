/- Parts. -/
import Derived.Test.YtgimobilcdkmpaaDoorBitsPlaysCardK13
set_option maxRecDepth 10000
set_option maxHeartbeats 16000000
set_option linter.unusedVariables false
set_option linter.unusedSimpArgs false
namespace Go.Proofs.YtgimobilcdkmpaaDoor
def joinW (ws vs : List Nat) : List Nat := List.zipWith (fun x y => x ||| y) ws vs
theorem joinW_get {ws vs : List Nat} (h1 : ws.length = 8) (h2 : vs.length = 8) (k : Nat) : (joinW ws vs).getD k 0 = ws.getD k 0 ||| vs.getD k 0 := by
 unfold joinW;simp only [List.getD_eq_getElem?_getD, List.getElem?_zipWith];rcases Nat.lt_or_ge k 8 with hk | hk
 ·rw [List.getElem?_eq_getElem (by omega), List.getElem?_eq_getElem (by omega)]
  rfl
 ·rw [List.getElem?_eq_none (by omega), List.getElem?_eq_none (by omega)]
  rfl
theorem bit_join {ws vs : List Nat} (h1 : ws.length = 8) (h2 : vs.length = 8) (m : Nat) : bitW (joinW ws vs) m = (bitW ws m || bitW vs m) := by
 unfold bitW;rw [joinW_get h1 h2, Nat.testBit_or]
theorem join_fits {ws vs : List Nat} (h1 : Fits ws) (h2 : Fits vs) : Fits (joinW ws vs) := by
 refine ⟨by unfold joinW; rw [List.length_zipWith, h1.1, h2.1]; rfl, fun k => ?_⟩;rw [joinW_get h1.1 h2.1];have := Nat.or_lt_two_pow (n := 64) (x := ws.getD k 0) (y := vs.getD k 0) (h1.2 k) (h2.2 k);exact this
theorem noW_get (k : Nat) : noW.getD k 0 = 0 := by
 match k with
 | 0 | 1 | 2 | 3 | 4 | 5 | 6 | 7 => rfl
 | k + 8 => rfl
theorem no_fits : Fits noW := by
 refine ⟨rfl, fun k => ?_⟩;rw [noW_get k];exact Nat.lt_of_sub_ne_zero (by decide)
theorem make_fits (zs : List Int) (hz : ∀ z ∈ zs, 0 ≤ z ∧ z < 500) : Fits (makeW zs) ∧ ∀ m, m < 512 → bitW (makeW zs) m = decide ((m : Int) ∈ zs) := by
 have gen : ∀ (zs : List Int) (ws : List Nat), (∀ z ∈ zs, 0 ≤ z ∧ z < 500) → Fits ws → Fits (zs.foldl putW ws) ∧ ∀ m, m < 512 → bitW (zs.foldl putW ws) m = (bitW ws m || decide ((m : Int) ∈ zs)) := by
  intro zs
  induction zs with
  | nil => intro ws _ hw; exact ⟨hw, fun m _ => by simp⟩
  | cons z zs ih =>
   intro ws hz hw;have h0 := hz z List.mem_cons_self;obtain ⟨q, rfl⟩ : ∃ q : Nat, z = q := ⟨z.toNat, by omega⟩;obtain ⟨h1, h2⟩ := ih (putW ws (q : Int)) (fun x hx => hz x (List.mem_cons_of_mem _ hx)) (put_fits ws q hw (by omega));rw [List.foldl_cons];refine ⟨h1, fun m hm => ?_⟩;rw [h2 m hm, bit_put ws q m hw.1 (by omega)]
   by_cases hmq : m = q
   ·have e2 : decide ((m : Int) ∈ (q : Int) :: zs) = true := decide_eq_true (by rw [hmq]; exact List.mem_cons_self);rw [e2, decide_eq_true hmq, Bool.true_or, Bool.or_true, Bool.true_or]
   ·have e2 : decide ((m : Int) ∈ (q : Int) :: zs) = decide ((m : Int) ∈ zs) := by
     rw [decide_eq_decide, List.mem_cons];exact ⟨fun h => h.resolve_left (by omega), .inr⟩
    rw [e2, decide_eq_false hmq, Bool.false_or]
 obtain ⟨h1, h2⟩ := gen zs noW hz no_fits;exact ⟨h1, fun m hm => by
  show bitW (zs.foldl putW noW) m = _
  rw [h2 m hm];have hb : bitW noW m = false := by
   have : ∀ k, noW.getD k 0 = 0 := fun k => by
    match k with
    | 0 | 1 | 2 | 3 | 4 | 5 | 6 | 7 => rfl
    | k + 8 => rfl
   unfold bitW;rw [this];simp
  rw [hb];simp⟩
end Go.Proofs.YtgimobilcdkmpaaDoor
