/- Parts. -/
import Derived.Test.YtgimobilcdkmpaaDoorBitsPlaysCardK19
import Derived.Test.YtgimobilcdkmpaaDoorBitsPlaysCardK4
set_option maxRecDepth 10000
set_option maxHeartbeats 16000000
set_option linter.unusedVariables false
set_option linter.unusedSimpArgs false
namespace Go.Proofs.YtgimobilcdkmpaaDoor
open Go.RowKit
section
variable {P : Program} {ops : Array Oper} {Q : Exit → Act → World → Prop} {md : Region.Mode} {S : Array Bool → World → Prop}
theorem timed_forks {l : List Nat} {fuel : Nat} {listed : Array Bool} {a : Act} {w : World} (hr : Region.ready md ops listed = l) (hl : l ≠ [])
  (h : ∀ k ∈ l, ∃ ok, ops[k]? = some ok ∧ ∀ K' : Act → World → Prop, Shut (∀ a w, S (listed.setIfInBounds k true) w → (S (listed.setIfInBounds k true) w → wpAnyT P md ops Q S fuel (listed.setIfInBounds k true) a w) → K' a w) →
   if Region.wanted ok (yielded ops a.tmps) = true then Oper.wp P ok a w K' Q else K' (a.put ok.dst undef) w) : S listed w → wpAnyT P md ops Q S (fuel + 1) listed a w := by
 intro _;refine ⟨fun h0 => (by rw [hr] at h0; exact absurd h0 hl), fun k hk => ?_⟩;rw [hr] at hk;obtain ⟨ok, ho, hs⟩ := h k hk;exact wpOp_step ho (fun K' hK => hs K' (fun a w hS hW => hK a w ⟨hS, hW hS⟩))
end
section
variable {G : Prop}
theorem cut_1_0 (F : World → Nat → Prop) {L : World → Nat → Prop} (h1 : (∀ (w : World) (g0 : Nat), F w g0  → L w g0 ) → G) (h2 : ∀ (w : World) (g0 : Nat), F w g0  → L w g0 ) : G := h1 h2
theorem cut_1_0_1 (F : World → Nat → Option Addr → Prop) {L : World → Nat → Option Addr → Prop} (h1 : (∀ (w : World) (g0 : Nat) (z0 : Option Addr), F w g0 z0 → L w g0 z0) → G) (h2 : ∀ (w : World) (g0 : Nat) (z0 : Option Addr), F w g0 z0 → L w g0 z0) : G := h1 h2
theorem cut_2_0_1 (F : World → Nat → Nat → Option Addr → Prop) {L : World → Nat → Nat → Option Addr → Prop} (h1 : (∀ (w : World) (g0 g1 : Nat) (z0 : Option Addr), F w g0 g1 z0 → L w g0 g1 z0) → G) (h2 : ∀ (w : World) (g0 g1 : Nat) (z0 : Option Addr), F w g0 g1 z0 → L w g0 g1 z0) : G := h1 h2
end
theorem fork_cons {p : Nat → Prop} {k : Nat} {l : List Nat} (h : p k) (r : ∀ j ∈ l, p j) : ∀ j ∈ k :: l, p j := List.forall_mem_cons.2 ⟨h, r⟩
theorem fork_nil {p : Nat → Prop} : ∀ j ∈ ([] : List Nat), p j := fun _ h => by cases h
end Go.Proofs.YtgimobilcdkmpaaDoor
