/- Parts. -/
import Derived.Test.YtlemjgjpglmphaaDoorPartOfCardK26
import Derived.Test.YtlemjgjpglmphaaDoorPartOfCardK9
import Derived.Test.YtlemjgjpglmphaaDoorPartOfCardK33
import Derived.Shelf.GgSortFunc.Insertion
set_option maxRecDepth 10000
set_option maxHeartbeats 16000000
set_option linter.unusedVariables false
set_option linter.unusedSimpArgs false
namespace Go.Proofs.YtlemjgjpglmphaaDoor
open Go.RowKit
theorem own_laid {α : Type} [Inhabited α] (enc : α → Value) {w : World} {base e g n c : Nat} {xs : List Value} (h : w.ownsRow base e 1 (.slice (some ⟨g, 0, none⟩) n c) n xs) (m : Nat) (d : Array α) (os : Array Obj) (hd : d.size = n) :
  (Go.Sort.grow (Go.Sort.putRow enc (Go.Sort.ahead w m) g 0 d) os).ownsRow base e 1 (.slice (some ⟨g, 0, none⟩) n c) n (d.toList.map enc) ∧ Only [g] w (Go.Sort.grow (Go.Sort.putRow enc (Go.Sort.ahead w m) g 0 d) os) := by
 obtain ⟨hl, ⟨h1, -⟩ | ⟨g', cap, cur, h1, hb, hg, hn, hc, hs, ht⟩⟩ := h
 ·cases h1
 ·cases h1
  have hsz : (w.heap.modify g (Go.Sort.onCells (Go.Sort.putCells enc 0 d))).size = w.heap.size := by simp
  have hgl : g < w.heap.size := (Array.getElem?_eq_some_iff.1 hg).1
  constructor
  ·refine ⟨by simp [hd], .inr ⟨g, c, Go.Sort.putCells enc 0 d cur, rfl, hb, ?_, hn, hc, by simpa [Go.Sort.putCells] using hs, ?_⟩⟩
   ·show (w.heap.modify g (Go.Sort.onCells (Go.Sort.putCells enc 0 d)) ++ os)[g]? = _
    rw [Array.getElem?_append_left (by rw [hsz]; exact hgl), Array.getElem?_modify, if_pos rfl, hg]
    rfl
   ·apply List.ext_getElem?
    intro k;rw [List.getElem?_take, Nat.mul_one]
    by_cases hk : k < n
    ·rw [if_pos hk, List.getElem?_map, Array.getElem?_toList, Array.getElem?_toList];have hkc : k < cur.size := by omega
     have hkd : k < d.size := by omega
     simp [Go.Sort.putCells, hkc, hkd]
    ·rw [if_neg hk, List.getElem?_eq_none (by simp [hd]; omega)]
  ·refine ⟨rfl, rfl, rfl, ?_, fun k hk hm => ?_⟩
   ·show _ ≤ (w.heap.modify g (Go.Sort.onCells (Go.Sort.putCells enc 0 d)) ++ os).size
    rw [Array.size_append, hsz];omega
   ·show (w.heap.modify g (Go.Sort.onCells (Go.Sort.putCells enc 0 d)) ++ os)[k]? = _
    have : ¬ g = k := fun e => hm (by simp [e]);rw [Array.getElem?_append_left (by rw [hsz]; exact hk), Array.getElem?_modify, if_neg this]
theorem own_holds {α : Type} [Inhabited α] (enc : α → Value) {w : World} {base e g n c : Nat} (d : Array α) (h : w.ownsRow base e 1 (.slice (some ⟨g, 0, none⟩) n c) n (d.toList.map enc)) : Go.Sort.Holds enc w g 0 d := fun j hj => by
 rw [Nat.zero_add];refine own_cell h rfl ?_;rw [List.getElem?_map, Array.getElem?_toList, Array.getElem?_eq_getElem hj, Option.map_some, getElem!_pos d j hj]
theorem isort_own {w : World} {base g c : Nat} (zs : List Int) (h : w.ownsRow base 3 1 (.slice (some ⟨g, 0, none⟩) zs.length c) zs.length (zs.map (Value.int .i64))) (hl : zs.length ≤ 100000) :
  Calls Tryd.prog 32 #[.slice (some ⟨g, 0, none⟩) zs.length c] w fun e w' => e = .returned (.tuple #[]) ∧ ∃ ys : List Int, w'.ownsRow base 3 1 (.slice (some ⟨g, 0, none⟩) ys.length c) ys.length (ys.map (Value.int .i64)) ∧ Only [g] w w' ∧ ys.Perm zs ∧ ys.Pairwise (fun x y => ¬ y < x) ∧ ys.length = zs.length := by
 refine (Any.slices_Sort_int Tryd.laysSortI g 0 c zs w (own_holds (Value.int .i64) zs.toArray (by simpa using h)) (own_lt h (by simp [Value.ownBlock])) (by omega)).mono ?_;rintro e w' ⟨rfl, n, os, rfl⟩;have hp := List.mergeSort_perm zs fun x y => decide (x ≤ y);obtain ⟨h1, h2⟩ := own_laid (Value.int .i64) h n (zs.mergeSort fun x y => decide (x ≤ y)).toArray os (by simp);refine ⟨rfl, zs.mergeSort fun x y => decide (x ≤ y), by simpa using h1, h2, hp, ?_, by simp⟩;exact (List.pairwise_mergeSort (fun a b c h1 h2 => by simp at *; omega) (fun a b => by simp; omega) zs).imp (fun {a b} h => by simp at h; omega)
theorem irev_own {w : World} {base c : Nat} {A : Option Addr} (zs : List Int) (h : w.ownsRow base 3 1 (.slice A zs.length c) zs.length (zs.map (Value.int .i64))) (hl : zs.length ≤ 100000) :
  Calls Tryd.prog 29 #[.slice A zs.length c] w fun e w' => e = .returned (.tuple #[]) ∧ w'.ownsRow base 3 1 (.slice A zs.length c) zs.length (zs.reverse.map (Value.int .i64)) ∧ Only (Value.slice A zs.length c).ownBlock.toList w w' := by
 by_cases hz : zs = []
 ·subst hz;refine (Any.slices_Reverse_int_empty Tryd.laysReverse A c w).mono ?_;rintro e w' ⟨rfl, rfl⟩;exact ⟨rfl, h, Only.refl _ _⟩
 ·obtain ⟨g, c', e⟩ : ∃ g c', Value.slice A zs.length c = .slice (some ⟨g, 0, none⟩) zs.length c' := by
   obtain ⟨-, ⟨-, h1⟩ | ⟨g, cap, cur, h1, -⟩⟩ := h
   ·exact absurd (List.length_eq_zero_iff.1 h1) hz
   ·exact ⟨g, cap, h1⟩
  cases e
  refine (Any.slices_Reverse_int Tryd.laysReverse g 0 c zs w (own_holds (Value.int .i64) zs.toArray (by simpa using h)) (by omega)).mono ?_;rintro e w' ⟨rfl, n, rfl⟩;obtain ⟨h1, h2⟩ := own_laid (Value.int .i64) h n zs.reverse.toArray #[] (by simp);rw [Go.Sort.grow_empty] at h1 h2;exact ⟨rfl, by simpa using h1, h2⟩
end Go.Proofs.YtlemjgjpglmphaaDoor
