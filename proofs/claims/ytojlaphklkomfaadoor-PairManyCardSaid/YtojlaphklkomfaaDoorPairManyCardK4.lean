/- Events with their lines, as they lie in memory. A contract of the library at this program: what it asks of the program, field by field. -/
import Derived.Test.YtojlaphklkomfaaDoorPairManyCardK1
import Derived.Test.YtojlaphklkomfaaDoorPairManyCardK3
import Derived.Test.YtojlaphklkomfaaDoorProg
import Derived.Ground.NamesProg
import Derived.Shelf.Unicode.ValidAny
set_option linter.unusedVariables false
set_option linter.unusedSimpArgs false
namespace Go.Proofs.YtojlaphklkomfaaDoor
open Go.RowKit

/-- An event with its line. -/
structure Ev6 where
  k : Int
  s : ByteArray
  y : ByteArray
  vk : Int
  vn : Int
  ln : Int
def Ev6.c (x : Ev6) : List Value := [.int .i64 x.k, .string x.s, .string x.y, .int .i64 x.vk, .int .i64 x.vn, .int .i64 x.ln]
def logC (l : List Ev6) : List Value := l.flatMap Ev6.c
theorem logC_len (l : List Ev6) : (logC l).length = l.length * 6 := by
  induction l with
  | nil => rfl
  | cons x l ih => simp only [logC, List.flatMap_cons, List.length_append, List.length_cons] at ih ⊢; rw [ih]; simp [Ev6.c]; omega
theorem logC_snoc (l : List Ev6) (x : Ev6) : logC (l ++ [x]) = logC l ++ x.c := by simp [logC]
theorem one_logC (l : List Ev6) : ∀ u ∈ logC l, u.oneCell' = true := by
  intro u hu
  simp only [logC, List.mem_flatMap, Ev6.c, List.mem_cons, List.not_mem_nil, or_false] at hu
  obtain ⟨e, _, rfl | rfl | rfl | rfl | rfl | rfl⟩ := hu <;> rfl
theorem logC_get : ∀ (l : List Ev6) (i : Nat) (x : Ev6), l[i]? = some x → ∀ j, j < 6 → (logC l)[i * 6 + j]? = x.c[j]?
  | [], i, x, h, _, _ => by simp at h
  | x0 :: l, 0, x, h, j, hj => by
    simp at h
    subst h
    simp only [logC, List.flatMap_cons]
    rw [List.getElem?_append_left (by simp [Ev6.c]; omega)]
    simp
  | x0 :: l, i + 1, x, h, j, hj => by
    have := logC_get l i x (by simpa using h) j hj
    simp only [logC, List.flatMap_cons] at this ⊢
    rw [List.getElem?_append_right (by simp [Ev6.c]; omega)]
    rw [← this]
    congr 1
    simp [Ev6.c]
    omega

theorem info_event : (Tryd.prog.info? 44).map (fun i => (i.zero, i.size, i.bytes)) = some (some (.agg #[.int .i64 0, .string ⟨#[]⟩, .string ⟨#[]⟩, .int .i64 0, .int .i64 0, .int .i64 0]), 6, 64) := by kernel_rfl

/-- The cells from a place on are an event's. -/
structure EvAt (w : World) (b o : Nat) (x : Ev6) : Prop where
  c0 : w.cell? ⟨b, o, none⟩ = some (.int .i64 x.k)
  c1 : w.cell? ⟨b, o + 1, none⟩ = some (.string x.s)
  c2 : w.cell? ⟨b, o + 2, none⟩ = some (.string x.y)
  c3 : w.cell? ⟨b, o + 3, none⟩ = some (.int .i64 x.vk)
  c4 : w.cell? ⟨b, o + 4, none⟩ = some (.int .i64 x.vn)
  c5 : w.cell? ⟨b, o + 5, none⟩ = some (.int .i64 x.ln)
theorem EvAt.only {S : List Nat} {w w' : World} {b o : Nat} {x : Ev6} (h : EvAt w b o x) (ho : Only S w w') (hb : b < w.heap.size) (hs : b ∉ S) : EvAt w' b o x :=
  ⟨(ho.cell (p := ⟨b, o, none⟩) hb hs).trans h.c0, (ho.cell (p := ⟨b, o + 1, none⟩) hb hs).trans h.c1, (ho.cell (p := ⟨b, o + 2, none⟩) hb hs).trans h.c2, (ho.cell (p := ⟨b, o + 3, none⟩) hb hs).trans h.c3,
    (ho.cell (p := ⟨b, o + 4, none⟩) hb hs).trans h.c4, (ho.cell (p := ⟨b, o + 5, none⟩) hb hs).trans h.c5⟩
theorem row_ev {w : World} {B : Nat} {A : Option Addr} {l : List Ev6} (h : Row w B A (logC l)) {k : Nat} {x : Ev6} (hk : l[k]? = some x) : ∃ b off, A = some ⟨b, off, none⟩ ∧ b < B ∧ b < w.heap.size ∧ EvAt w b (off + k * 6) x := by
  have hlt := (List.getElem?_eq_some_iff.1 hk).1
  obtain ⟨b, off, rfl, h1, h2, hc⟩ := h.open_ (k := k * 6) (by rw [logC_len]; omega)
  have g := logC_get l k x hk
  refine ⟨b, off, rfl, h1, h2, ⟨?_, ?_, ?_, ?_, ?_, ?_⟩⟩
  · exact hc (k * 6) _ (g 0 (by omega))
  · rw [Nat.add_assoc]; exact hc _ _ (g 1 (by omega))
  · rw [Nat.add_assoc]; exact hc _ _ (g 2 (by omega))
  · rw [Nat.add_assoc]; exact hc _ _ (g 3 (by omega))
  · rw [Nat.add_assoc]; exact hc _ _ (g 4 (by omega))
  · rw [Nat.add_assoc]; exact hc _ _ (g 5 (by omega))

end Go.Proofs.YtojlaphklkomfaaDoor

namespace Go.Proofs
open Go.Shelf
def Tryd.laysValid_ren : Go.Shelf.Ren := ⟨fun | 196 => 54 | 259 => 62 | n => n, fun | 9 => 9 | 4 => 4 | 3 => 3 | 5 => 5 | 12 => 12 | 119 => 101 | 0 => 0 | 46 => 96 | 139 => 104 | 138 => 103 | 53 => 115 | n => n, fun | 3 => 1 | 4 => 2 | n => n⟩
theorem Tryd.laysValid : Go.Proofs.Lays.n196 Tryd.prog Tryd.laysValid_ren := {
  mixed := by kernel_rfl
  f196 := Tryd.func54.trans (congrArg some (by kernel_rfl))
  f259 := Tryd.func62.trans (congrArg some (by kernel_rfl))
  t0 := Tryd.underlying0
  a0 := Tryd.isAgg0
  z0 := Tryd.sizeOf0
  v0 := Tryd.zeroValue0
  t3 := Tryd.underlying3
  a3 := Tryd.isAgg3
  z3 := Tryd.sizeOf3
  v3 := Tryd.zeroValue3
  t4 := Tryd.underlying4
  a4 := Tryd.isAgg4
  z4 := Tryd.sizeOf4
  v4 := Tryd.zeroValue4
  t5 := Tryd.underlying5
  a5 := Tryd.isAgg5
  z5 := Tryd.sizeOf5
  v5 := Tryd.zeroValue5
  t9 := Tryd.underlying9
  a9 := Tryd.isAgg9
  z9 := Tryd.sizeOf9
  v9 := Tryd.zeroValue9
  t12 := Tryd.underlying12
  a12 := Tryd.isAgg12
  z12 := Tryd.sizeOf12
  v12 := Tryd.zeroValue12
  t46 := Tryd.underlying96
  a46 := Tryd.isAgg96
  z46 := Tryd.sizeOf96
  v46 := Tryd.zeroValue96
  t53 := Tryd.underlying115
  a53 := Tryd.isAgg115
  z53 := Tryd.sizeOf115
  v53 := Tryd.zeroValue115
  t119 := Tryd.underlying101
  a119 := Tryd.isAgg101
  z119 := Tryd.sizeOf101
  t138 := Tryd.underlying103
  a138 := Tryd.isAgg103
  z138 := Tryd.sizeOf103
  v138 := Tryd.zeroValue103
  t139 := Tryd.underlying104
  a139 := Tryd.isAgg104
  z139 := Tryd.sizeOf104
  v139 := Tryd.zeroValue104
  g3 := by kernel_rfl
  g4 := by kernel_rfl }
end Go.Proofs
