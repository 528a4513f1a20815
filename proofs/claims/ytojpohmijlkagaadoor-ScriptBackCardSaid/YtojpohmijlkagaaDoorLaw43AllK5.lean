/- Parts. -/
import Derived.Test.YtojpohmijlkagaaDoorLaw43AllK4
import Derived.Deep.MidRow
import Derived.Laws.ResultCell
import Derived.Laws.IdiomCopy
import Derived.Deep.CutBlock
import Derived.Deep.DeepCutAuto
import Derived.Deep.Slices
import Derived.Deep.Strs
set_option maxRecDepth 10000
set_option maxHeartbeats 16000000
set_option linter.unusedVariables false
set_option linter.unusedSimpArgs false
namespace Go.Proofs.YtojpohmijlkagaaDoor
open Go.Lib


end Go.Proofs.YtojpohmijlkagaaDoor
namespace Go.Proofs.YtojpohmijlkagaaDoor
open Go.RowKit
section
variable {P : Program}
theorem results_row2 {fn : Func} {p u : Tmp} {ty : TypeId} (h : fn.results = #[.cell p ty, .tmp u]) (tmps : Array Value) (w : World) (g : Nat) (t : TypeId) (cs : Array Value) (d : TypeDesc)
  (hp : tmps.getD p undef = .pointer (some ⟨g, 0, none⟩)) (hg : Blk w g t cs) (hu : P.underlying ty = some d) (hd : d.isRow = true) (hi : (P.info? ty).map (·.size) = some cs.size) :
  (results fn tmps).run P w = .ok (.tuple #[.agg cs, tmps.getD u undef]) w := by
 have hl := run_loadVar_row (P := P) w g t ty cs (0, 0) d hg hu (by cases d <;> simp_all) hi;rw [results_cell_tmp h, hp];simp [asAddr, hl, Result.andThen]
end
theorem Blk.there {w : World} {g : Nat} {t : TypeId} {cs : Array Value} (h : Blk w g t cs) : w.there g 0 cs.size := fun j hj => by
 rw [Nat.zero_add];exact ⟨by rw [h.at_ j]; simp [hj], h.free j⟩
theorem setCells_only (g : Nat) : ∀ (vs : List Value) (o : Nat) (S : List Nat) (w w' : World), Only S w w' → (g < w.heap.size → g ∈ S) → Only S w (w'.setCells g o vs)
 | [], _, _, _, _, h, _ => h
 | v :: vs, o, S, w, w', h, hg => setCells_only g vs (o + 1) S w _ (h.put (p := ⟨g, o, none⟩) hg v) hg
theorem Only.putAll {S : List Nat} {w w' : World} (h : Only S w w') {g : Nat} (hg : g < w.heap.size → g ∈ S) (vs : List Value) : Only S w (w'.setCells g 0 vs) := setCells_only g vs 0 S w w' h hg
theorem setCells_blk (g : Nat) (t : TypeId) : ∀ (vs : List Value) (o : Nat) (w : World) (cs : Array Value), Blk w g t cs → o + vs.length = cs.size → Blk (w.setCells g o vs) g t (cs.toList.take o ++ vs).toArray
 | [], o, w, cs, h, hl => by
  have e : (cs.toList.take o ++ []).toArray = cs := by
   rw [List.append_nil, List.take_of_length_le (by simp at hl ⊢; omega)]
  rw [e];exact h
 | v :: vs, o, w, cs, h, hl => by
  have h1 := h.put o v;have hl2 : o < cs.size := by simp at hl; omega
  have h2 := setCells_blk g t vs (o + 1) _ _ h1 (by simp at hl ⊢; omega);have e : (cs.setIfInBounds o v).toList.take (o + 1) ++ vs = cs.toList.take o ++ v :: vs := by
   rw [Array.toList_setIfInBounds, List.take_add_one, List.take_set_of_le (by omega)];simp [hl2]
  rw [e] at h2;exact h2
theorem Blk.putAll {w : World} {g : Nat} {t : TypeId} {cs : Array Value} (h : Blk w g t cs) (vs : List Value) (hl : vs.length = cs.size) : Blk (w.setCells g 0 vs) g t vs.toArray := by
 have := setCells_blk g t vs 0 w cs h (by simpa using hl)
 simpa using this
attribute [local go_sem ↓] Go.wp_at_zero Go.wp_at_succ


end Go.Proofs.YtojpohmijlkagaaDoor
namespace Go.Proofs.YtojpohmijlkagaaDoor
open Go.RowKit Go.ChangeShapes Go.WideShapes
def Row (w : World) (B : Nat) (A : Option Addr) (xs : List Value) : Prop :=
 xs = [] ∨ ∃ b off, A = some ⟨b, off, none⟩ ∧ b < B ∧ B ≤ w.heap.size ∧ ∀ (j : Nat) (u : Value), xs[j]? = some u → w.cell? ⟨b, off + j, none⟩ = some u
section
variable {w w' : World} {B : Nat} {A : Option Addr} {xs : List Value}
theorem Row.nil : Row w B A [] := .inl rfl
theorem Row.open_ (h : Row w B A xs) {k : Nat} (hk : k < xs.length) :
  ∃ b off, A = some ⟨b, off, none⟩ ∧ b < B ∧ b < w.heap.size ∧ ∀ (j : Nat) (u : Value), xs[j]? = some u → w.cell? ⟨b, off + j, none⟩ = some u := by
 rcases h with rfl | ⟨b, off, hA, hb, hs, hc⟩
 ·simp at hk
 ·exact ⟨b, off, hA, hb, by omega, hc⟩
theorem Row.only {S : List Nat} (h : Row w B A xs) (ho : Only S w w') (hS : ∀ i ∈ S, B ≤ i) : Row w' B A xs := by
 rcases h with rfl | ⟨b, off, hA, hb, hs, hc⟩
 ·exact .inl rfl
 ·refine .inr ⟨b, off, hA, hb, Nat.le_trans hs ho.size, fun j u hu => ?_⟩;rw [ho.cell (p := ⟨b, off + j, none⟩) (Nat.lt_of_lt_of_le hb hs) (fun hm => by have := hS _ hm; simp only at this; omega)];exact hc j u hu
theorem Row.take (h : Row w B A xs) (n : Nat) : Row w B A (xs.take n) := by
 rcases h with rfl | ⟨b, off, hA, hb, hs, hc⟩
 ·exact .inl (by simp)
 ·refine .inr ⟨b, off, hA, hb, hs, fun j u hu => hc j u ?_⟩;rw [List.getElem?_take] at hu
  split at hu
  ·exact hu
  ·cases hu
end
theorem row_up {w : World} {B : Nat} {A : Option Addr} {xs : List Value} (h : Row w B A xs) : Row w w.heap.size A xs := by
 rcases h with h | ⟨b, off, hA, hb, hs, hc⟩
 ·exact .inl h
 ·exact .inr ⟨b, off, hA, Nat.lt_of_lt_of_le hb hs, Nat.le_refl _, hc⟩
section
variable {H : Type} {enc : TypeId × Value → H} {P : Program} {w : World}
end
theorem bd_i64 {n : Int} (h : (Lit.int .i64 n).wf = true) : -9223372036854775808 ≤ n ∧ n ≤ 9223372036854775807 := by
 simpa [Lit.wf, IntKind.min, IntKind.max, IntKind.signed, IntKind.bits] using h
theorem list_of {Q : Nat → Int → Prop} : ∀ {N : Nat}, (∀ k, k < N → ∃ z, Q k z) → ∃ zs : List Int, zs.length = N ∧ ∀ k z, zs[k]? = some z → Q k z
 | 0, _ => ⟨[], rfl, fun k z h => by simp at h⟩
 | N + 1, h => by
  obtain ⟨zs, hl, hz⟩ := list_of (N := N) (fun k hk => h k (by omega));obtain ⟨z, hq⟩ := h N (by omega);refine ⟨zs ++ [z], by simp [hl], fun k y hy => ?_⟩;rcases Nat.lt_or_ge k zs.length with hk | hk
  ·rw [List.getElem?_append_left hk] at hy;exact hz k y hy
  ·rw [List.getElem?_append_right hk] at hy;have hk0 : k - zs.length = 0 := by
    cases hj : k - zs.length with
    | zero => rfl
    | succ j => rw [hj] at hy; simp at hy
   rw [hk0] at hy;simp at hy;subst hy;have : k = N := by omega
   subst this;exact hq
section
variable {H : Type} {enc : TypeId × Value → H} {P : Program} {w : World}
open Go.Deep
theorem open_row_struct3i {r : Reach} {b0 : Nat} {t e ti : TypeId} {f0 f1 f2 : Field} {v : Value} {d : DataW H} {ps : List MemPlace} (ht : P.underlying t = some (.slice e)) (he : P.underlying e = some (.struct #[f0, f1, f2]))
  (hi : P.underlying ti = some (.int .i64)) (hC : P.cellsOf e = 3) (h1 : P.cellsOf ti = 1) (ht0 : f0.type = ti ∧ f0.offset = 0) (ht1 : f1.type = ti ∧ f1.offset = 1) (ht2 : f2.type = ti ∧ f2.offset = 2)
  (hv : Value.okWide P w r b0 t v) (h : DataW.Trod enc P w 0 (fun _ => true) true t v d ps) :
  ∃ (A : Option Addr) (n c : Nat) (zs : List Int), v = .slice A n c ∧ n ≤ c ∧ c ≤ maxLen ∧ zs.length = n * 3 ∧ (∀ z ∈ zs, (Lit.int .i64 z).wf = true) ∧ Row w w.heap.size A (zs.map (Value.int .i64)) := by
 obtain ⟨a0, len, cap, rfl⟩ := okWide_slice ht hv;obtain ⟨fuel, hf⟩ := h;rcases open_slice ht hf with ⟨hcs, _⟩ | ⟨a, len', cap', m, n, D, Pl, hcs, _, hl, hm, hmm, _, hcell⟩
 ·simp [Value.cells] at hcs;obtain ⟨rfl, rfl, rfl⟩ := hcs;exact ⟨none, 0, 0, [], rfl, Nat.le_refl _, by unfold maxLen; omega, rfl, (fun z hz => by cases hz), .inl rfl⟩
 ·simp [Value.cells] at hcs;obtain ⟨rfl, rfl, rfl⟩ := hcs;simp only [if_true] at hmm;subst hmm;have each : ∀ k, k < len * 3 → ∃ z : Int, w.cell? (a.add k) = some (.int .i64 z) ∧ (Lit.int .i64 z).wf = true := by
   intro k hk;obtain ⟨cs', hc, htr⟩ := hcell (k / 3) (by omega);rw [hC] at hc;obtain ⟨y0, y1, y2, n', _, hlen, g0, g1, g2⟩ := trod_struct3 he htr;obtain ⟨_, hcl, hat⟩ := World.cells?_some hc;rw [ht0.1, ht0.2, h1] at g0;rw [ht1.1, ht1.2, h1] at g1;rw [ht2.1, ht2.2, h1] at g2
   match cs', hcl with
   | [u0, u1, u2], _ =>
    obtain ⟨z0, e0, -, w0⟩ := DataW.trod_int hi g0;obtain ⟨z1, e1, -, w1⟩ := DataW.trod_int hi g1;obtain ⟨z2, e2, -, w2⟩ := DataW.trod_int hi g2;simp at e0 e1 e2;subst e0;subst e1;subst e2;have hj : k % 3 < 3 := by omega
    have hk' : a.add k = (a.add (k / 3 * 3)).add (k % 3) := by rw [Go.Deep.add_add]; congr 1; omega
    rw [hk', hat (k % 3) hj]
    match k % 3, hj with
    | 0, _ => exact ⟨z0, rfl, w0⟩
    | 1, _ => exact ⟨z1, rfl, w1⟩
    | 2, _ => exact ⟨z2, rfl, w2⟩
  obtain ⟨zs, hzl, hz⟩ := list_of each;refine ⟨some a, len, _, zs, rfl, hl, hm, hzl, fun z hzm => ?_, ?_⟩
  ·obtain ⟨k, hk⟩ := List.mem_iff_getElem?.1 hzm;exact (hz k z hk).2
  ·by_cases h0 : len = 0
   ·subst h0;have : zs = [] := List.eq_nil_of_length_eq_zero (by simpa using hzl);subst this;exact .inl rfl
   ·have hA : a.spot = none := by
     obtain ⟨z, hz0, _⟩ := each 0 (by omega);unfold World.cell? Addr.add at hz0
     cases hs : a.spot with
     | none => rfl
     | some s =>
      rw [if_pos rfl] at hz0
      split at hz0
      ·simp [hs] at hz0
      ·cases hz0
    obtain ⟨b, off, sp⟩ := a;simp only at hA;subst hA;obtain ⟨z, hz0, _⟩ := each 0 (by omega);have hb : b < w.heap.size := World.block_lt_of_cell? w _ (by simpa [Addr.add] using hz0);refine .inr ⟨b, off, rfl, hb, Nat.le_refl _, fun j u hu => ?_⟩;rw [List.getElem?_map] at hu
    cases hj : zs[j]? with
    | none => rw [hj] at hu; cases hu
    | some z' =>
     rw [hj] at hu;simp only [Option.map_some, Option.some.injEq] at hu;subst hu;have := (hz j z' hj).1;have e' : (⟨b, off, none⟩ : Addr).add j = ⟨b, off + j, none⟩ := by
      unfold Addr.add
      split
      ·rename_i h; subst h; rfl
      ·rfl
     rw [e'] at this;exact this
end
end Go.Proofs.YtojpohmijlkagaaDoor
