/- Parts. -/
import Derived.Test.YtlnlppabeddclaaDoorLaw23AllK15
import Derived.ChangeSame
set_option maxRecDepth 10000
set_option maxHeartbeats 16000000
set_option linter.unusedVariables false
set_option linter.unusedSimpArgs false
namespace Go.Proofs.YtlnlppabeddclaaDoor
open Go.RowKit Go.ChangeShapes Go.WideShapes
section
variable {H : Type} {enc : TypeId × Value → H} {P : Program} {w : World}
open Go.Deep
theorem open_row_struct2i {r : Reach} {b0 : Nat} {t e ti : TypeId} {f0 f1 : Field} {v : Value} {d : DataW H} {ps : List MemPlace} (ht : P.underlying t = some (.slice e)) (he : P.underlying e = some (.struct #[f0, f1]))
  (hi : P.underlying ti = some (.int .i64)) (hC : P.cellsOf e = 2) (h1 : P.cellsOf ti = 1) (ht0 : f0.type = ti ∧ f0.offset = 0) (ht1 : f1.type = ti ∧ f1.offset = 1)
  (hv : Value.okWide P w r b0 t v) (h : DataW.Trod enc P w 0 (fun _ => true) true t v d ps) :
  ∃ (A : Option Addr) (n c : Nat) (zs : List Int), v = .slice A n c ∧ n ≤ c ∧ c ≤ maxLen ∧ zs.length = n * 2 ∧ (∀ z ∈ zs, (Lit.int .i64 z).wf = true) ∧ Row w w.heap.size A (zs.map (Value.int .i64)) := by
 obtain ⟨a0, len, cap, rfl⟩ := okWide_slice ht hv;obtain ⟨fuel, hf⟩ := h;rcases open_slice ht hf with ⟨hcs, _⟩ | ⟨a, len', cap', m, n, D, Pl, hcs, _, hl, hm, hmm, _, hcell⟩
 ·simp [Value.cells] at hcs;obtain ⟨rfl, rfl, rfl⟩ := hcs;exact ⟨none, 0, 0, [], rfl, Nat.le_refl _, by unfold maxLen; omega, rfl, (fun z hz => by cases hz), .inl rfl⟩
 ·simp [Value.cells] at hcs;obtain ⟨rfl, rfl, rfl⟩ := hcs;simp only [if_true] at hmm;subst hmm;have each : ∀ k, k < len * 2 → ∃ z : Int, w.cell? (a.add k) = some (.int .i64 z) ∧ (Lit.int .i64 z).wf = true := by
   intro k hk;obtain ⟨cs', hc, htr⟩ := hcell (k / 2) (by omega);rw [hC] at hc;obtain ⟨y0, y1, n', _, hlen, g0, g1⟩ := trod_struct2 he htr;obtain ⟨_, hcl, hat⟩ := World.cells?_some hc;rw [ht0.1, ht0.2, h1] at g0;rw [ht1.1, ht1.2, h1] at g1
   match cs', hcl with
   | [u0, u1], _ =>
    obtain ⟨z0, e0, -, w0⟩ := DataW.trod_int hi g0;obtain ⟨z1, e1, -, w1⟩ := DataW.trod_int hi g1;simp at e0 e1;subst e0;subst e1;have hj : k % 2 < 2 := by omega
    have hk' : a.add k = (a.add (k / 2 * 2)).add (k % 2) := by rw [Go.Deep.add_add]; congr 1; omega
    rw [hk', hat (k % 2) hj]
    match k % 2, hj with
    | 0, _ => exact ⟨z0, rfl, w0⟩
    | 1, _ => exact ⟨z1, rfl, w1⟩
  obtain ⟨zs, hzl, hz⟩ := list_of each;refine ⟨some a, len, _, zs, rfl, hl, hm, hzl, fun z hzm => ?_, ?_⟩
  ·obtain ⟨k, hk⟩ := List.mem_iff_getElem?.1 hzm;exact (hz k z hk).2
  ·by_cases h0 : len = 0
   ·subst h0;have : zs = [] := List.eq_nil_of_length_eq_zero (by simpa using hzl);subst this;exact .inl rfl
   ·have hA : a.spot = none := by
     obtain ⟨z, hz0, _⟩ := each 0 (by omega);unfold World.cell? Addr.add at hz0
     cases hs : a.spot with
     | none => rfl
     | some s =>
      rw [if_pos rfl] at hz0
      split at hz0
      ·simp [hs] at hz0
      ·cases hz0
    obtain ⟨b, off, sp⟩ := a;simp only at hA;subst hA;obtain ⟨z, hz0, _⟩ := each 0 (by omega);have hb : b < w.heap.size := World.block_lt_of_cell? w _ (by simpa [Addr.add] using hz0);refine .inr ⟨b, off, rfl, hb, Nat.le_refl _, fun j u hu => ?_⟩;rw [List.getElem?_map] at hu
    cases hj : zs[j]? with
    | none => rw [hj] at hu; cases hu
    | some z' =>
     rw [hj] at hu;simp only [Option.map_some, Option.some.injEq] at hu;subst hu;have := (hz j z' hj).1;have e' : (⟨b, off, none⟩ : Addr).add j = ⟨b, off + j, none⟩ := by
      unfold Addr.add
      split
      ·rename_i h; subst h; rfl
      ·rfl
     rw [e'] at this;exact this
end
theorem pairs_of : ∀ (n : Nat) (zs : List Int), zs.length = n * 2 → ∃ l : List (Int × Int), l.length = n ∧ zs.map (Value.int .i64) = edgeC l
 | 0, zs, h => ⟨[], rfl, by have : zs = [] := List.eq_nil_of_length_eq_zero (by simpa using h); rw [this]; rfl⟩
 | n + 1, [], h => by simp at h; try omega
 | n + 1, [a], h => by simp at h; try omega
 | n + 1, a :: b :: zs, h => by
  obtain ⟨l, hl, hz⟩ := pairs_of n zs (by simp at h; omega);exact ⟨(a, b) :: l, by simp [hl], by simp only [List.map_cons, hz, edgeC, List.flatMap_cons, List.cons_append, List.nil_append]⟩
section
variable {H : Type} {enc : TypeId × Value → H} {P : Program} {w : World}
theorem open_row_pairs {r : Reach} {b0 : Nat} {t e ti : TypeId} {f0 f1 : Field} {v : Value} {d : DataW H} {ps : List MemPlace} (ht : P.underlying t = some (.slice e)) (he : P.underlying e = some (.struct #[f0, f1]))
  (hi : P.underlying ti = some (.int .i64)) (hC : P.cellsOf e = 2) (h1 : P.cellsOf ti = 1) (ht0 : f0.type = ti ∧ f0.offset = 0) (ht1 : f1.type = ti ∧ f1.offset = 1)
  (hv : Value.okWide P w r b0 t v) (h : DataW.Trod enc P w 0 (fun _ => true) true t v d ps) :
  ∃ (A : Option Addr) (n c : Nat) (l : List (Int × Int)), v = .slice A n c ∧ n ≤ c ∧ c ≤ maxLen ∧ l.length = n ∧ Row w w.heap.size A (edgeC l) := by
 obtain ⟨A, n, c, zs, rfl, hn, hc, hz, -, hr⟩ := open_row_struct2i ht he hi hC h1 ht0 ht1 hv h;obtain ⟨l, hl, he⟩ := pairs_of n zs hz;rw [he] at hr;exact ⟨A, n, c, l, rfl, hn, hc, hl, hr⟩
end
end Go.Proofs.YtlnlppabeddclaaDoor
