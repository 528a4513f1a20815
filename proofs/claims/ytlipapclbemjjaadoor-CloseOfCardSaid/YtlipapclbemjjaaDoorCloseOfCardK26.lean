/- The document's own graph (ref 19): Put, Undo, Of. The document's own graph (ref 19): Put of anything, Undo, Of. -/
import Derived.Test.YtlipapclbemjjaaDoorCloseOfCardK25
import Derived.ArgAppend
set_option linter.unusedVariables false
set_option linter.unusedSimpArgs false
namespace Go.Proofs.YtlipapclbemjjaaDoor
open Go.RowKit
attribute [local go_sem ↓] Go.wp_at_zero Go.wp_at_succ
structure RGC (w : World) (p N : Nat) (A : Option Addr) (c : Nat) (h : List (Int × Int)) : Prop where
 blk : Blk w p 72 #[.int .i64 N, .slice A h.length c]
 read : Row w w.heap.size A (edgeC h)
 nil : A = none → h.length = 0 ∧ c = 0
 cap : h.length ≤ c ∧ c ≤ maxLen
 ext : w.ownsRow 0 47 2 (.slice A h.length c) h.length (edgeC h) ∨ c = h.length
 typed : ∀ g, (Value.slice A h.length c).ownBlock = some g → ∃ cur, Blk w g 47 cur
/-- At p lies the document's graph of N nodes with the edges h. -/
def RG (w : World) (p N : Nat) (h : List (Int × Int)) (fp : List Nat) : Prop := ∃ A c, RGC w p N A c h ∧ p ∈ fp ∧ ∀ g ∈ (Value.slice A h.length c).ownBlock.toList, g ∈ fp
theorem RGC.only {w w' : World} {p N : Nat} {A : Option Addr} {c : Nat} {h : List (Int × Int)} {S : List Nat} (g : RGC w p N A c h) (ho : Only S w w') (hp : p ∉ S) (hS : ∀ b ∈ (Value.slice A h.length c).ownBlock.toList, b ∉ S) : RGC w' p N A c h := by
 refine ⟨ho.blk g.blk hp, ?_, g.nil, g.cap, ?_, ?_⟩
 ·rcases g.read with h0 | ⟨b, off, hA, hb, _, hc⟩
  ·exact .inl h0
  ·refine .inr ⟨b, off, hA, Nat.lt_of_lt_of_le hb ho.size, Nat.le_refl _, fun j u hu => ?_⟩
   exact (ho.cell (p := ⟨b, off + j, none⟩) hb (hS b (by rw [hA]; simp [Value.ownBlock]))).trans (hc j u hu)
 ·rcases g.ext with h0 | h0
  ·exact .inl (own_only h0 ho (fun b hb => hS b (by rw [hb]; simp)))
  ·exact .inr h0
 ·intro b hb
  obtain ⟨cur, hc⟩ := g.typed b hb
  exact ⟨cur, ho.blk hc (hS b (by rw [hb]; simp))⟩
theorem RG.only {w w' : World} {p N : Nat} {h : List (Int × Int)} {fp S : List Nat} (g : RG w p N h fp) (ho : Only S w w') (hS : ∀ b ∈ fp, b ∉ S) : RG w' p N h fp := by
 obtain ⟨A, c, g, mp, m1⟩ := g
 exact ⟨A, c, g.only ho (hS p mp) (fun b hb => hS b (m1 b hb)), mp, m1⟩
def rB (N : Nat) (h : List (Int × Int)) (a b : Int) : Bool := ndN N a && ndN N b && !decide ((a, b) ∈ h)
def rH (N : Nat) (h : List (Int × Int)) (e : Int × Int) : List (Int × Int) := if rB N h e.1 e.2 = true then h ++ [e] else h
end Go.Proofs.YtlipapclbemjjaaDoor

set_option linter.unusedVariables false
set_option linter.unusedSimpArgs false
namespace Go.Proofs.YtlipapclbemjjaaDoor
open Go.RowKit
attribute [local go_sem ↓] Go.wp_at_zero Go.wp_at_succ
theorem rH_len (N : Nat) (h : List (Int × Int)) (e : Int × Int) : (rH N h e).length ≤ h.length + 1 := by
 unfold rH
 split <;> simp
theorem rof_len (N : Nat) : ∀ (l h : List (Int × Int)), (l.foldl (rH N) h).length ≤ h.length + l.length
 | [], h => by simp
 | e :: l, h => by
  have := rof_len N l (rH N h e)
  have h2 := rH_len N h e
  rw [List.foldl_cons, List.length_cons]
  omega
end Go.Proofs.YtlipapclbemjjaaDoor
