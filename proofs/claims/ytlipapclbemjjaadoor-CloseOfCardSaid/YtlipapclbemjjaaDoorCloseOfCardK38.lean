/- A row of edges of the call's own: a whole edge written, what is written behind it; how a list is filtered in place. -/
import Derived.Test.YtlipapclbemjjaaDoorCloseOfCardK30
import Derived.Test.YtlipapclbemjjaaDoorCloseOfCardK17
import Derived.Lib.SliceRun
set_option linter.unusedVariables false
set_option linter.unusedSimpArgs false
namespace Go.Proofs.YtlipapclbemjjaaDoor
open Go.RowKit
theorem own_cap {w : World} {base : Nat} {e : TypeId} {size n c : Nat} {A : Option Addr} {xs : List Value} (h : w.ownsRow base e size (.slice A n c) n xs) : n ≤ c := by
 obtain ⟨A', c', e1, h1, -⟩ := own_row h
 injection e1 with ea eb ec
 subst ec
 exact h1
theorem own_max {w : World} {base : Nat} {e : TypeId} {size n c : Nat} {A : Option Addr} {xs : List Value} (h : w.ownsRow base e size (.slice A n c) n xs) : c ≤ maxLen := by
 obtain ⟨A', c', e1, -, h1, -⟩ := own_row h
 injection e1 with ea eb ec
 subst ec
 exact h1
theorem own_wrote {w : World} {base : Nat} {e : TypeId} {size : Nat} {v : Value} {n : Nat} {xs : List Value} {g : Nat} (h : w.ownsRow base e size v n xs) (hg : v.ownBlock = some g) (j : Nat) (u : Value) :
  (w.setCell ⟨g, j, none⟩ u).ownsRow base e size v n (xs.set j u) := by
 obtain ⟨h0, ⟨rfl, -⟩ | ⟨g', cap, cur, rfl, h1, h2, h3, h4, h5, h6⟩⟩ := h
 ·simp [Value.ownBlock] at hg
 ·obtain rfl : g' = g := by simpa [Value.ownBlock] using hg
  refine ⟨by simpa using h0, .inr ⟨g', cap, cur.setIfInBounds j u, rfl, h1, Blk.put h2 j u, h3, h4, by simpa using h5, ?_⟩⟩
  rw [Array.toList_setIfInBounds, ← h6]
  have hln : (List.take (n * size) cur.toList).length = n * size := by rw [h6]; exact h0
  apply List.ext_getElem?
  intro k
  by_cases hk : k < n * size
  ·rw [List.getElem?_take_of_lt hk, List.getElem?_set, List.getElem?_set, List.getElem?_take_of_lt hk]
   by_cases hjk : j = k
   ·subst hjk
    rw [if_pos rfl, if_pos rfl, if_pos (by have h9 := hln; rw [List.length_take] at h9; omega), if_pos (by rw [hln]; exact hk)]
   ·rw [if_neg hjk, if_neg hjk]
  ·rw [List.getElem?_eq_none (by rw [List.length_take]; omega), List.getElem?_eq_none (by rw [List.length_set, List.length_take]; omega)]
theorem own_past {w : World} {base : Nat} {e : TypeId} {size : Nat} {v : Value} {n : Nat} {xs : List Value} {g : Nat} (h : w.ownsRow base e size v n xs) (hg : v.ownBlock = some g) {j : Nat} (hj : xs.length ≤ j) (u : Value) :
  (w.setCell ⟨g, j, none⟩ u).ownsRow base e size v n xs := by
 have := own_wrote h hg j u
 rwa [List.set_eq_of_length_le hj] at this
theorem own_pasts {base : Nat} {e : TypeId} {size : Nat} {v : Value} {n : Nat} {xs : List Value} {g : Nat} (hg : v.ownBlock = some g) : ∀ (vs : List Value) (o : Nat) (w : World), w.ownsRow base e size v n xs → xs.length ≤ o → (w.setCells g o vs).ownsRow base e size v n xs
 | [], _, _, h, _ => h
 | u :: vs, o, w, h, ho => own_pasts hg vs (o + 1) _ (own_past h hg ho u) (by omega)
theorem only_cells {S : List Nat} (g : Nat) : ∀ (vs : List Value) (o : Nat) (w w' : World), Only S w w' → (g < w.heap.size → g ∈ S) → Only S w (w'.setCells g o vs)
 | [], _, _, _, h, _ => h
 | u :: vs, o, w, w', h, hg => only_cells g vs (o + 1) w _ (h.put (p := ⟨g, o, none⟩) hg u) hg
theorem edgeC_set (L : List (Int × Int)) (i : Nat) (a b : Int) : ((edgeC L).set (i * 2) (.int .i64 a)).set (i * 2 + 1) (.int .i64 b) = edgeC (L.set i (a, b)) := by
 induction L generalizing i with
 | nil => simp [edgeC]
 | cons x L ih =>
  cases i with
  | zero => simp [edgeC]
  | succ i =>
   have := ih i
   simp only [edgeC, List.flatMap_cons, List.cons_append, List.nil_append, List.set_cons_succ] at this ⊢
   rw [show (i + 1) * 2 = i * 2 + 2 by omega, List.set_cons_succ, List.set_cons_succ, List.set_cons_succ, List.set_cons_succ, this]
theorem own_edge {w : World} {base : Nat} {e : TypeId} {v : Value} {n : Nat} {L : List (Int × Int)} {g : Nat} (h : w.ownsRow base e 2 v n (edgeC L)) (hg : v.ownBlock = some g) (i : Nat) (a b : Int) :
  (w.setCells g (i * 2) [.int .i64 a, .int .i64 b]).ownsRow base e 2 v n (edgeC (L.set i (a, b))) := by
 have := own_wrote (own_wrote h hg (i * 2) (.int .i64 a)) hg (i * 2 + 1) (.int .i64 b)
 rwa [edgeC_set] at this
/-- A cell of it is there and may be written. -/
theorem own_open {w : World} {base : Nat} {e : TypeId} {v : Value} {n : Nat} {L : List (Int × Int)} {g : Nat} (h : w.ownsRow base e 2 v n (edgeC L)) (hg : v.ownBlock = some g) {i : Nat} {x : Int × Int} (hi : L[i]? = some x) :
  w.cell? ⟨g, i * 2, none⟩ = some (.int .i64 x.1) ∧ w.cell? ⟨g, i * 2 + 1, none⟩ = some (.int .i64 x.2) ∧ w.frozen? ⟨g, i * 2, none⟩ = false ∧ w.frozen? ⟨g, i * 2 + 1, none⟩ = false := by
 obtain ⟨cur, hb⟩ := own_blk h hg
 have hx := edgeC_get L i x hi
 have ea : ∀ j, (⟨g, 0, none⟩ : Addr).add j = ⟨g, j, none⟩ := fun j => by
  unfold Addr.add
  split
  ·rename_i h; subst h; rfl
  ·simp
 have c0 := h.cells hg _ _ hx.1
 have c1 := h.cells hg _ _ hx.2
 rw [ea] at c0 c1
 exact ⟨c0, c1, hb.free _, hb.free _⟩
theorem clear_edges {P : Program} (w : World) (t e : TypeId) (ht : P.underlying t = some (.slice e)) (hv : ∀ w, (zeroValue e).run P w = .ok (.agg #[.int .i64 0, .int .i64 0]) w) (b o n c : Nat) (hn : 0 < n)
  (hc : ∀ j, j < n * 2 → (w.cell? ⟨b, o + j, none⟩).isSome = true) (hf : ∀ j, j < n * 2 → w.frozen? ⟨b, o + j, none⟩ = false) :
  ∃ vs : List Value, ∀ ty, (Builtin.clear_ #[t] ty #[.slice (some ⟨b, o, none⟩) n c]).run P w = .ok (.tuple #[]) (w.setCells b o vs) := by
 have hz : (Value.agg #[.int .i64 0, .int .i64 0]).cells = #[.int .i64 0, .int .i64 0] := rfl
 have hlen : (Builtin.zeroCells (Value.agg #[.int .i64 0, .int .i64 0]).cells n).toList.length = n * 2 := by
  rw [hz]
  simp [Builtin.zeroCells]
  try omega
 have hone : ∀ v ∈ (Builtin.zeroCells (Value.agg #[.int .i64 0, .int .i64 0]).cells n).toList, v.oneCell' = true := by
  intro v hv
  rw [hz] at hv
  simp [Builtin.zeroCells] at hv
  obtain ⟨i, hi, rfl⟩ := hv
  rcases Nat.mod_two_eq_zero_or_one i with h2 | h2
  ·simp [h2]; rfl
  ·simp [h2]; rfl
 refine ⟨(Builtin.zeroCells (Value.agg #[.int .i64 0, .int .i64 0]).cells n).toList, fun ty => ?_⟩
 have hst := Go.run_storeCells_cells (P := P) b o (Builtin.zeroCells (Value.agg #[.int .i64 0, .int .i64 0]).cells n).toList 0 w (by rw [hlen]; simpa using hc) (by rw [hlen]; simpa using hf) hone
 simp only [Nat.add_zero] at hst
 obtain ⟨m, rfl⟩ : ∃ m, n = m + 1 := ⟨n - 1, by omega⟩
 simp [Builtin.clear_, run_underlying ht, hv, hst]
/-- Of G's first j the kept ones stand in front; what is not looked at stands where it stood. -/
structure DelInv (D : Int × Int → Bool) (G L : List (Int × Int)) (i j : Nat) : Prop where
 lt : i < j
 len : L.length = G.length
 low : L.take i = (G.take j).filter fun e => !D e
 high : L.drop j = G.drop j
section
variable {D : Int × Int → Bool} {G L : List (Int × Int)} {i j : Nat} {e : Int × Int}
theorem filter_succ (h : G[j]? = some e) : (G.take (j + 1)).filter (fun e => !D e) = (G.take j).filter (fun e => !D e) ++ (if D e = true then [] else [e]) := by
 rw [List.take_add_one, h, List.filter_append]
 congr 1
 cases h2 : D e <;> simp [h2]
theorem DelInv.start (h0 : ∀ x ∈ G.take i, D x = false) (hi : G[i]? = some e) (hd : D e = true) : DelInv D G G i (i + 1) := by
 refine ⟨by omega, rfl, ?_, rfl⟩
 rw [filter_succ hi, if_pos hd, List.append_nil, List.filter_eq_self.2]
 intro x hx
 rw [h0 x hx]
 rfl
theorem DelInv.at_ (h : DelInv D G L i j) : L[j]? = G[j]? := by
 have h1 : (L.drop j)[0]? = (G.drop j)[0]? := by rw [h.high]
 simpa using h1
theorem drop_next {l k : List (Int × Int)} (h : l.drop j = k.drop j) : l.drop (j + 1) = k.drop (j + 1) := by
 have : (l.drop j).drop 1 = (k.drop j).drop 1 := by rw [h]
 simpa [List.drop_drop] using this
theorem DelInv.skip (h : DelInv D G L i j) (hj : G[j]? = some e) (hd : D e = true) : DelInv D G L i (j + 1) :=
 ⟨by have := h.lt; omega, h.len, by rw [filter_succ hj, if_pos hd, List.append_nil]; exact h.low, drop_next h.high⟩
theorem DelInv.move (h : DelInv D G L i j) (hj : G[j]? = some e) (hd : D e = false) : DelInv D G (L.set i e) (i + 1) (j + 1) := by
 have hlt := h.lt
 have hjl := (List.getElem?_eq_some_iff.1 hj).1
 refine ⟨by omega, by rw [List.length_set]; exact h.len, ?_, ?_⟩
 ·rw [filter_succ hj, if_neg (by rw [hd]; decide), ← h.low, List.take_add_one, List.getElem?_set, if_pos rfl, if_pos (by rw [h.len]; omega), List.take_set_of_le (by omega)]
  rfl
 ·rw [List.drop_set_of_lt (by omega)]
  exact drop_next h.high
theorem DelInv.end_ (h : DelInv D G L i G.length) : L.take i = G.filter fun e => !D e := by
 have := h.low
 rwa [List.take_length] at this
end
end Go.Proofs.YtlipapclbemjjaaDoor
