/- Parts. -/
import Derived.Test.YtojlaphklkomfaaDoorPairMakesCardK15
import Derived.Test.YtojlaphklkomfaaDoorPairMakesCardK2
set_option maxRecDepth 10000
set_option maxHeartbeats 16000000
set_option linter.unusedVariables false
set_option linter.unusedSimpArgs false
namespace Go.Proofs.YtojlaphklkomfaaDoor
open Go.RowKit
section
variable {P : Program} {ops : Array Oper} {Q : Exit → Act → World → Prop} {md : Region.Mode} {S : Array Bool → World → Prop}
theorem timed_forks {l : List Nat} {fuel : Nat} {listed : Array Bool} {a : Act} {w : World} (hr : Region.ready md ops listed = l) (hl : l ≠ [])
  (h : ∀ k ∈ l, ∃ ok, ops[k]? = some ok ∧ ∀ K' : Act → World → Prop, Shut (∀ a w, S (listed.setIfInBounds k true) w → (S (listed.setIfInBounds k true) w → wpAnyT P md ops Q S fuel (listed.setIfInBounds k true) a w) → K' a w) →
   if Region.wanted ok (yielded ops a.tmps) = true then Oper.wp P ok a w K' Q else K' (a.put ok.dst undef) w) : S listed w → wpAnyT P md ops Q S (fuel + 1) listed a w := by
 intro _;refine ⟨fun h0 => (by rw [hr] at h0; exact absurd h0 hl), fun k hk => ?_⟩;rw [hr] at hk;obtain ⟨ok, ho, hs⟩ := h k hk;exact wpOp_step ho (fun K' hK => hs K' (fun a w hS hW => hK a w ⟨hS, hW hS⟩))
end
section
variable {G : Prop}
theorem cut_0_1 (F : World → Value → Prop) {L : World → Value → Prop} (h1 : (∀ (w : World) (y0 : Value), F w y0 → L w y0) → G) (h2 : ∀ (w : World) (y0 : Value), F w y0 → L w y0) : G := h1 h2
theorem cut_1_0 (F : World → Nat → Prop) {L : World → Nat → Prop} (h1 : (∀ (w : World) (g0 : Nat), F w g0  → L w g0 ) → G) (h2 : ∀ (w : World) (g0 : Nat), F w g0  → L w g0 ) : G := h1 h2
theorem cut_1_1 (F : World → Nat → Value → Prop) {L : World → Nat → Value → Prop} (h1 : (∀ (w : World) (g0 : Nat) (y0 : Value), F w g0 y0 → L w g0 y0) → G) (h2 : ∀ (w : World) (g0 : Nat) (y0 : Value), F w g0 y0 → L w g0 y0) : G := h1 h2
theorem cut_2_0 (F : World → Nat → Nat → Prop) {L : World → Nat → Nat → Prop} (h1 : (∀ (w : World) (g0 g1 : Nat), F w g0 g1  → L w g0 g1 ) → G) (h2 : ∀ (w : World) (g0 g1 : Nat), F w g0 g1  → L w g0 g1 ) : G := h1 h2
theorem cut_2_1 (F : World → Nat → Nat → Value → Prop) {L : World → Nat → Nat → Value → Prop} (h1 : (∀ (w : World) (g0 g1 : Nat) (y0 : Value), F w g0 g1 y0 → L w g0 g1 y0) → G) (h2 : ∀ (w : World) (g0 g1 : Nat) (y0 : Value), F w g0 g1 y0 → L w g0 g1 y0) : G := h1 h2
theorem cut_2_2 (F : World → Nat → Nat → Value → Value → Prop) {L : World → Nat → Nat → Value → Value → Prop} (h1 : (∀ (w : World) (g0 g1 : Nat) (y0 y1 : Value), F w g0 g1 y0 y1 → L w g0 g1 y0 y1) → G) (h2 : ∀ (w : World) (g0 g1 : Nat) (y0 y1 : Value), F w g0 g1 y0 y1 → L w g0 g1 y0 y1) : G := h1 h2
theorem cut_3_0 (F : World → Nat → Nat → Nat → Prop) {L : World → Nat → Nat → Nat → Prop} (h1 : (∀ (w : World) (g0 g1 g2 : Nat), F w g0 g1 g2  → L w g0 g1 g2 ) → G) (h2 : ∀ (w : World) (g0 g1 g2 : Nat), F w g0 g1 g2  → L w g0 g1 g2 ) : G := h1 h2
theorem cut_3_1 (F : World → Nat → Nat → Nat → Value → Prop) {L : World → Nat → Nat → Nat → Value → Prop} (h1 : (∀ (w : World) (g0 g1 g2 : Nat) (y0 : Value), F w g0 g1 g2 y0 → L w g0 g1 g2 y0) → G) (h2 : ∀ (w : World) (g0 g1 g2 : Nat) (y0 : Value), F w g0 g1 g2 y0 → L w g0 g1 g2 y0) : G := h1 h2
theorem cut_3_2 (F : World → Nat → Nat → Nat → Value → Value → Prop) {L : World → Nat → Nat → Nat → Value → Value → Prop} (h1 : (∀ (w : World) (g0 g1 g2 : Nat) (y0 y1 : Value), F w g0 g1 g2 y0 y1 → L w g0 g1 g2 y0 y1) → G) (h2 : ∀ (w : World) (g0 g1 g2 : Nat) (y0 y1 : Value), F w g0 g1 g2 y0 y1 → L w g0 g1 g2 y0 y1) : G := h1 h2
theorem cut_3_3 (F : World → Nat → Nat → Nat → Value → Value → Value → Prop) {L : World → Nat → Nat → Nat → Value → Value → Value → Prop} (h1 : (∀ (w : World) (g0 g1 g2 : Nat) (y0 y1 y2 : Value), F w g0 g1 g2 y0 y1 y2 → L w g0 g1 g2 y0 y1 y2) → G) (h2 : ∀ (w : World) (g0 g1 g2 : Nat) (y0 y1 y2 : Value), F w g0 g1 g2 y0 y1 y2 → L w g0 g1 g2 y0 y1 y2) : G := h1 h2
theorem cut_4_0 (F : World → Nat → Nat → Nat → Nat → Prop) {L : World → Nat → Nat → Nat → Nat → Prop} (h1 : (∀ (w : World) (g0 g1 g2 g3 : Nat), F w g0 g1 g2 g3  → L w g0 g1 g2 g3 ) → G) (h2 : ∀ (w : World) (g0 g1 g2 g3 : Nat), F w g0 g1 g2 g3  → L w g0 g1 g2 g3 ) : G := h1 h2
theorem cut_4_1 (F : World → Nat → Nat → Nat → Nat → Value → Prop) {L : World → Nat → Nat → Nat → Nat → Value → Prop} (h1 : (∀ (w : World) (g0 g1 g2 g3 : Nat) (y0 : Value), F w g0 g1 g2 g3 y0 → L w g0 g1 g2 g3 y0) → G) (h2 : ∀ (w : World) (g0 g1 g2 g3 : Nat) (y0 : Value), F w g0 g1 g2 g3 y0 → L w g0 g1 g2 g3 y0) : G := h1 h2
theorem cut_4_2 (F : World → Nat → Nat → Nat → Nat → Value → Value → Prop) {L : World → Nat → Nat → Nat → Nat → Value → Value → Prop} (h1 : (∀ (w : World) (g0 g1 g2 g3 : Nat) (y0 y1 : Value), F w g0 g1 g2 g3 y0 y1 → L w g0 g1 g2 g3 y0 y1) → G) (h2 : ∀ (w : World) (g0 g1 g2 g3 : Nat) (y0 y1 : Value), F w g0 g1 g2 g3 y0 y1 → L w g0 g1 g2 g3 y0 y1) : G := h1 h2
theorem cut_4_3 (F : World → Nat → Nat → Nat → Nat → Value → Value → Value → Prop) {L : World → Nat → Nat → Nat → Nat → Value → Value → Value → Prop} (h1 : (∀ (w : World) (g0 g1 g2 g3 : Nat) (y0 y1 y2 : Value), F w g0 g1 g2 g3 y0 y1 y2 → L w g0 g1 g2 g3 y0 y1 y2) → G) (h2 : ∀ (w : World) (g0 g1 g2 g3 : Nat) (y0 y1 y2 : Value), F w g0 g1 g2 g3 y0 y1 y2 → L w g0 g1 g2 g3 y0 y1 y2) : G := h1 h2
theorem cut_4_4 (F : World → Nat → Nat → Nat → Nat → Value → Value → Value → Value → Prop) {L : World → Nat → Nat → Nat → Nat → Value → Value → Value → Value → Prop} (h1 : (∀ (w : World) (g0 g1 g2 g3 : Nat) (y0 y1 y2 y3 : Value), F w g0 g1 g2 g3 y0 y1 y2 y3 → L w g0 g1 g2 g3 y0 y1 y2 y3) → G) (h2 : ∀ (w : World) (g0 g1 g2 g3 : Nat) (y0 y1 y2 y3 : Value), F w g0 g1 g2 g3 y0 y1 y2 y3 → L w g0 g1 g2 g3 y0 y1 y2 y3) : G := h1 h2
end
theorem fork_cons {p : Nat → Prop} {k : Nat} {l : List Nat} (h : p k) (r : ∀ j ∈ l, p j) : ∀ j ∈ k :: l, p j := List.forall_mem_cons.2 ⟨h, r⟩
theorem fork_nil {p : Nat → Prop} : ∀ j ∈ ([] : List Nat), p j := fun _ h => by cases h
end Go.Proofs.YtojlaphklkomfaaDoor
