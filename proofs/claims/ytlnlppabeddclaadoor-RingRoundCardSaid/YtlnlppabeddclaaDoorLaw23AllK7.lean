/- Parts. -/
import Derived.Test.YtlnlppabeddclaaDoorLaw23AllK6
set_option maxRecDepth 10000
set_option maxHeartbeats 16000000
set_option linter.unusedVariables false
set_option linter.unusedSimpArgs false
namespace Go.Proofs.YtlnlppabeddclaaDoor
open Go.RowKit
theorem info_int : (Tryd.prog.info? 3).map (fun i => (i.zero, i.size, i.bytes)) = some (some (.int .i64 0), 1, 8) := by kernel_rfl
def intsF (n : Nat) (f : Nat → Int) : Array Value := ((List.range n).map fun i : Nat => Value.int .i64 (f i)).toArray
theorem intsF_size (n : Nat) (f : Nat → Int) : (intsF n f).size = n := by simp [intsF]
theorem intsF_at {n i : Nat} (f : Nat → Int) (h : i < n) : (intsF n f)[i]? = some (.int .i64 (f i)) := by simp [intsF, h]
theorem intsF_congr {n : Nat} {f g : Nat → Int} (h : ∀ i, i < n → f i = g i) : intsF n f = intsF n g := by
 unfold intsF
 congr 1
 exact List.map_congr_left fun i hi => by rw [h i (List.mem_range.1 hi)]
theorem intsF_set {n i : Nat} (f : Nat → Int) (x : Int) (h : i < n) : (intsF n f).setIfInBounds i (.int .i64 x) = intsF n fun u => if u = i then x else f u := by
 apply Array.ext_getElem?
 intro j;rw [Array.getElem?_setIfInBounds]
 by_cases hj : j < n
 ·rw [intsF_at _ hj, intsF_at _ hj]
  by_cases hij : i = j
  ·subst hij;rw [if_pos rfl, if_pos (by rw [intsF_size]; exact h), if_pos rfl]
  ·rw [if_neg hij, if_neg (Ne.symm hij)]
 ·rw [Array.getElem?_eq_none (by rw [intsF_size]; omega), if_neg (by omega), Array.getElem?_eq_none (by rw [intsF_size]; omega)]
theorem made_ints (n : Nat) : madeCells #[.int .i64 0] n = intsF n fun _ => 0 := by
 apply Array.ext_getElem?
 intro j
 by_cases hj : j < n <;> simp [madeCells, intsF, Nat.mod_one, hj]
theorem make_ints (n : Nat) (hn : n ≤ 1000000) (w : World) : (Instr.makeSlice 25 (.int .i64 (n : Int)) (.int .i64 (n : Int))).run Tryd.prog w = .ok (.slice (some ⟨w.heap.size, 0, none⟩) n n) (w.alloc (.cells (intsF n fun _ => 0) 3)) := by
 obtain ⟨i0, hi, hz0, hz1, hz2⟩ := info_parts info_int;have := run_make (P := Tryd.prog) w 25 3 i0 _ Tryd.underlying25 hi hz0 .i64 .i64 (n : Int) (n : Int) (by omega) (by omega) (by rw [hz2]; omega) (by omega);rw [hz1] at this;simp only [Int.toNat_natCast, Nat.mul_one] at this;rw [← made_ints];exact this
theorem own_lower {w : World} {base base' : Nat} {e : TypeId} {size : Nat} {v : Value} {n : Nat} {xs : List Value} (h : w.ownsRow base e size v n xs) (hb : base' ≤ base) : w.ownsRow base' e size v n xs := by
 obtain ⟨hl, hv⟩ := h;refine ⟨hl, ?_⟩;rcases hv with hv | ⟨g, cap, cur, rfl, h1, rest⟩
 ·exact .inl hv
 ·exact .inr ⟨g, cap, cur, rfl, Nat.le_trans hb h1, rest⟩
end Go.Proofs.YtlnlppabeddclaaDoor
