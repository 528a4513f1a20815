/- Parts. -/
import Derived.Test.YtlemjgjpglmphaaDoorPartOfCardK44
set_option maxRecDepth 10000
set_option maxHeartbeats 16000000
set_option linter.unusedVariables false
set_option linter.unusedSimpArgs false
namespace Go.Proofs.YtlemjgjpglmphaaDoor
open Go.RowKit
attribute [local go_sem ↓] Go.wp_at_zero Go.wp_at_succ

theorem partR_no {n : Int} {l : List (Int × Int)} (h : mayL n l = false) : partR n l = ([], 2) := by unfold partR; rw [h]; rfl
theorem partR_yes {q : Nat} {l : List (Int × Int)} (h : mayL (q : Int) l = true) : partR (q : Int) l = (partsL q l, 0) := by unfold partR; rw [h, if_pos rfl, Int.toNat_natCast]
end Go.Proofs.YtlemjgjpglmphaaDoor
namespace Go.Proofs.YtlemjgjpglmphaaDoor
open Go.RowKit
section
variable {P : Program} {ops : Array Oper} {Q : Exit → Act → World → Prop} {md : Region.Mode} {S : Array Bool → World → Prop}
theorem timed_forks {l : List Nat} {fuel : Nat} {listed : Array Bool} {a : Act} {w : World} (hr : Region.ready md ops listed = l) (hl : l ≠ [])
  (h : ∀ k ∈ l, ∃ ok, ops[k]? = some ok ∧ ∀ K' : Act → World → Prop, Shut (∀ a w, S (listed.setIfInBounds k true) w → (S (listed.setIfInBounds k true) w → wpAnyT P md ops Q S fuel (listed.setIfInBounds k true) a w) → K' a w) →
   if Region.wanted ok (yielded ops a.tmps) = true then Oper.wp P ok a w K' Q else K' (a.put ok.dst undef) w) : S listed w → wpAnyT P md ops Q S (fuel + 1) listed a w := by
 intro _;refine ⟨fun h0 => (by rw [hr] at h0; exact absurd h0 hl), fun k hk => ?_⟩;rw [hr] at hk;obtain ⟨ok, ho, hs⟩ := h k hk;exact wpOp_step ho (fun K' hK => hs K' (fun a w hS hW => hK a w ⟨hS, hW hS⟩))
end
section
variable {G : Prop}
theorem cut_1_0 (F : World → Nat → Prop) {L : World → Nat → Prop} (h1 : (∀ (w : World) (g0 : Nat), F w g0  → L w g0 ) → G) (h2 : ∀ (w : World) (g0 : Nat), F w g0  → L w g0 ) : G := h1 h2
theorem cut_2_0 (F : World → Nat → Nat → Prop) {L : World → Nat → Nat → Prop} (h1 : (∀ (w : World) (g0 g1 : Nat), F w g0 g1  → L w g0 g1 ) → G) (h2 : ∀ (w : World) (g0 g1 : Nat), F w g0 g1  → L w g0 g1 ) : G := h1 h2
end
theorem fork_cons {p : Nat → Prop} {k : Nat} {l : List Nat} (h : p k) (r : ∀ j ∈ l, p j) : ∀ j ∈ k :: l, p j := List.forall_mem_cons.2 ⟨h, r⟩
theorem fork_nil {p : Nat → Prop} : ∀ j ∈ ([] : List Nat), p j := fun _ h => by cases h
theorem lit_go {w0 w : World} (e : TypeId) (size : Nat) (OW : Only [] w0 w) :
  Only [] w (w.alloc (.cells #[] e)) ∧ Only [] w0 (w.alloc (.cells #[] e)) ∧ (w.alloc (.cells #[] e)).ownsRow w0.heap.size e size (.slice (some ⟨w.heap.size, 0, none⟩) 0 0) 0 [] :=
 have OS : Only [] w (w.alloc (.cells #[] e)) := (Only.refl [] w).alloc (.cells #[] e)
 ⟨OS, OW.trans OS, World.ownsRow_lit w (e := e) (size := size) #[] 0 OW.size (by unfold maxLen; omega) (by simp)⟩
theorem made_go {w0 w : World} (T : TypeId) (cs : Array Value) (OW : Only [] w0 w) :
  Only [] w (w.alloc (.cells cs T)) ∧ Only [] w0 (w.alloc (.cells cs T)) ∧ Blk (w.alloc (.cells cs T)) w.heap.size T cs ∧ w0.heap.size ≤ w.heap.size :=
 have OS : Only [] w (w.alloc (.cells cs T)) := (Only.refl [] w).alloc (.cells cs T)
 ⟨OS, OW.trans OS, Blk.made w T cs, OW.size⟩
end Go.Proofs.YtlemjgjpglmphaaDoor
