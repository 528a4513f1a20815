/- A region that draws its order: two operations may come up next, and each is followed. -/
import Derived.Test.YtjhomlnlmpdklaaGreatDoorEraseStaysCardK10
import Derived.Test.YtjhomlnlmpdklaaGreatDoorEraseStaysCardK3
set_option linter.unusedVariables false
set_option linter.unusedSimpArgs false
namespace Go.Proofs.YtjhomlnlmpdklaaGreatDoor
open Go.RowKit
section
variable {P : Program} {ops : Array Oper} {Q : Exit → Act → World → Prop} {md : Region.Mode} {S : Array Bool → World → Prop}
theorem timed_fork {i j : Nat} {oi oj : Oper} {fuel : Nat} {listed : Array Bool} {a : Act} {w : World} (hr : Region.ready md ops listed = [i, j]) (hoi : ops[i]? = some oi) (hoj : ops[j]? = some oj)
  (hi : ∀ K' : Act → World → Prop, Shut (∀ a w, S (listed.setIfInBounds i true) w → (S (listed.setIfInBounds i true) w → wpAnyT P md ops Q S fuel (listed.setIfInBounds i true) a w) → K' a w) →
   if Region.wanted oi (yielded ops a.tmps) = true then Oper.wp P oi a w K' Q else K' (a.put oi.dst undef) w)
  (hj : ∀ K' : Act → World → Prop, Shut (∀ a w, S (listed.setIfInBounds j true) w → (S (listed.setIfInBounds j true) w → wpAnyT P md ops Q S fuel (listed.setIfInBounds j true) a w) → K' a w) →
   if Region.wanted oj (yielded ops a.tmps) = true then Oper.wp P oj a w K' Q else K' (a.put oj.dst undef) w) : S listed w → wpAnyT P md ops Q S (fuel + 1) listed a w := by
 intro _
 refine ⟨fun h0 => (by rw [hr] at h0; cases h0), fun k hk => ?_⟩
 rw [hr] at hk
 rcases List.mem_cons.1 hk with rfl | hk
 ·exact wpOp_step hoi (fun K' hK => hi K' (fun a w hS hW => hK a w ⟨hS, hW hS⟩))
 ·obtain rfl := List.mem_singleton.1 hk
  exact wpOp_step hoj (fun K' hK => hj K' (fun a w hS hW => hK a w ⟨hS, hW hS⟩))
end
theorem Row.drop {w : World} {B g off : Nat} {xs : List Value} (h : Row w B (some ⟨g, off, none⟩) xs) (k : Nat) : Row w B (some ⟨g, off + k, none⟩) (xs.drop k) := by
 rcases h with h | ⟨b, o, he, hb, hw, hc⟩
 ·subst h
  exact .inl (by simp)
 ·obtain ⟨rfl, rfl⟩ : g = b ∧ off = o := by
   have := Option.some.inj he
   exact ⟨congrArg Addr.block this, congrArg Addr.off this⟩
  refine .inr ⟨g, off + k, rfl, hb, hw, fun j u hu => ?_⟩
  rw [List.getElem?_drop] at hu
  rw [Nat.add_assoc]
  exact hc (k + j) u hu
theorem Blk.row {w : World} {g : Nat} {t : TypeId} {cs : Array Value} (h : Blk w g t cs) : Row w (g + 1) (some ⟨g, 0, none⟩) cs.toList :=
 .inr ⟨g, 0, rfl, by omega, h.lt, fun j u hu => by rw [Nat.zero_add, h.at_ j]; simpa using hu⟩
end Go.Proofs.YtjhomlnlmpdklaaGreatDoor
