/- Parts. -/
import Derived.Test.YtlemjgjpglmphaaDoorPartOfCardK1
import Derived.Deep.Slices
import Derived.Deep.Strs
set_option maxRecDepth 10000
set_option maxHeartbeats 16000000
set_option linter.unusedVariables false
set_option linter.unusedSimpArgs false
namespace Go.Proofs.YtlemjgjpglmphaaDoor
open Go.RowKit Go.ChangeShapes Go.WideShapes
def Row (w : World) (B : Nat) (A : Option Addr) (xs : List Value) : Prop :=
 xs = [] ∨ ∃ b off, A = some ⟨b, off, none⟩ ∧ b < B ∧ B ≤ w.heap.size ∧ ∀ (j : Nat) (u : Value), xs[j]? = some u → w.cell? ⟨b, off + j, none⟩ = some u
section
variable {w w' : World} {B : Nat} {A : Option Addr} {xs : List Value}
theorem Row.nil : Row w B A [] := .inl rfl
theorem Row.open_ (h : Row w B A xs) {k : Nat} (hk : k < xs.length) :
  ∃ b off, A = some ⟨b, off, none⟩ ∧ b < B ∧ b < w.heap.size ∧ ∀ (j : Nat) (u : Value), xs[j]? = some u → w.cell? ⟨b, off + j, none⟩ = some u := by
 rcases h with rfl | ⟨b, off, hA, hb, hs, hc⟩
 ·simp at hk
 ·exact ⟨b, off, hA, hb, by omega, hc⟩
theorem Row.only {S : List Nat} (h : Row w B A xs) (ho : Only S w w') (hS : ∀ i ∈ S, B ≤ i) : Row w' B A xs := by
 rcases h with rfl | ⟨b, off, hA, hb, hs, hc⟩
 ·exact .inl rfl
 ·refine .inr ⟨b, off, hA, hb, Nat.le_trans hs ho.size, fun j u hu => ?_⟩;rw [ho.cell (p := ⟨b, off + j, none⟩) (Nat.lt_of_lt_of_le hb hs) (fun hm => by have := hS _ hm; simp only at this; omega)];exact hc j u hu
theorem Row.take (h : Row w B A xs) (n : Nat) : Row w B A (xs.take n) := by
 rcases h with rfl | ⟨b, off, hA, hb, hs, hc⟩
 ·exact .inl (by simp)
 ·refine .inr ⟨b, off, hA, hb, hs, fun j u hu => hc j u ?_⟩;rw [List.getElem?_take] at hu
  split at hu
  ·exact hu
  ·cases hu
end
theorem row_up {w : World} {B : Nat} {A : Option Addr} {xs : List Value} (h : Row w B A xs) : Row w w.heap.size A xs := by
 rcases h with h | ⟨b, off, hA, hb, hs, hc⟩
 ·exact .inl h
 ·exact .inr ⟨b, off, hA, Nat.lt_of_lt_of_le hb hs, Nat.le_refl _, hc⟩
section
variable {H : Type} {enc : TypeId × Value → H} {P : Program} {w : World}
end
theorem list_of {Q : Nat → Int → Prop} : ∀ {N : Nat}, (∀ k, k < N → ∃ z, Q k z) → ∃ zs : List Int, zs.length = N ∧ ∀ k z, zs[k]? = some z → Q k z
 | 0, _ => ⟨[], rfl, fun k z h => by simp at h⟩
 | N + 1, h => by
  obtain ⟨zs, hl, hz⟩ := list_of (N := N) (fun k hk => h k (by omega));obtain ⟨z, hq⟩ := h N (by omega);refine ⟨zs ++ [z], by simp [hl], fun k y hy => ?_⟩;rcases Nat.lt_or_ge k zs.length with hk | hk
  ·rw [List.getElem?_append_left hk] at hy;exact hz k y hy
  ·rw [List.getElem?_append_right hk] at hy;have hk0 : k - zs.length = 0 := by
    cases hj : k - zs.length with
    | zero => rfl
    | succ j => rw [hj] at hy; simp at hy
   rw [hk0] at hy;simp at hy;subst hy;have : k = N := by omega
   subst this;exact hq
section
variable {H : Type} {enc : TypeId × Value → H} {P : Program} {w : World}
open Go.Deep
end
end Go.Proofs.YtlemjgjpglmphaaDoor
