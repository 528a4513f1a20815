/- What the package pair makes of events: parts, the maker; and how they lie in memory. utf8.DecodeRuneInString once more: what it leaves of the world, and that it asks nothing of the tape backwards. -/
import Derived.Test.YthaeomdpaadilaaGreatDoorShowBackCardK10
import Derived.Test.YthaeomdpaadilaaGreatDoorShowBackCardK2
import Derived.Test.YthaeomdpaadilaaGreatDoorShowBackCardK6
import Derived.Test.YthaeomdpaadilaaGreatDoorShowBackCardK11
import Derived.Maps.OwnSet
import Derived.Test.YthaeomdpaadilaaGreatDoorShowBackCardK5
import Derived.Sort.Grow
set_option linter.unusedVariables false
set_option linter.unusedSimpArgs false
namespace Go.Proofs.YthaeomdpaadilaaGreatDoor
open Go.RowKit
open Go.Lib hiding intOf

/-- A transaction as far as its events go. -/
structure Pt where
  s : ByteArray
  f : Int
  ln : Int
  ks : List ByteArray
  ops : List Op4
structure Mk where
  ps : List Pt
  ss : List ByteArray
  ks : List ByteArray
/-- The number of a session's open transaction. -/
def openI (ps : List Pt) (s : ByteArray) : Option Nat := ps.findIdx? fun p => decide (p.s = s) && decide (p.f = 0)
def withB (t : List ByteArray) (s : ByteArray) : List ByteArray := if 0 ≤ posB t s then t else sortB (t ++ [s])
def fateE (k : Int) : Int := if k = 4 then 1 else if k = 5 then 2 else 3
def beginE (m : Mk) (a : Ev6) : Int := if (withB m.ss a.s).length > 20 ∨ m.ps.length = 40 then 7 else 0
def beginM (m : Mk) (a : Ev6) : Mk := if (withB m.ss a.s).length > 20 ∨ m.ps.length = 40 then m else ⟨m.ps ++ [⟨a.s, 0, a.ln, [], []⟩], withB m.ss a.s, m.ks⟩
def addP (p : Pt) (a : Ev6) : Pt := { p with ks := p.ks ++ [a.y], ops := p.ops ++ [⟨decide (a.k = 3), 0, a.vk, a.vn⟩] }
def addE (m : Mk) (p : Pt) (a : Ev6) : Int := if p.ops.length = 20 ∨ (withB m.ks a.y).length > 40 then 7 else 0
def addM (m : Mk) (i : Nat) (p : Pt) (a : Ev6) : Mk := if p.ops.length = 20 ∨ (withB m.ks a.y).length > 40 then m else ⟨m.ps.set i (addP p a), m.ss, withB m.ks a.y⟩
def takeE (m : Mk) (a : Ev6) : Int :=
  if evOk a.k a.s a.y a.vk a.vn = false then 4 else
  match openI m.ps a.s with
  | some i => if a.k = 1 then 9 else if a.k = 2 ∨ a.k = 3 then (match m.ps[i]? with | some p => addE m p a | none => 0) else 0
  | none => if a.k = 1 then beginE m a else 10
def takeM (m : Mk) (a : Ev6) : Mk :=
  if evOk a.k a.s a.y a.vk a.vn = false then m else
  match openI m.ps a.s with
  | some i => if a.k = 1 then m else (match m.ps[i]? with | some p => if a.k = 2 ∨ a.k = 3 then addM m i p a else ⟨m.ps.set i { p with f := fateE a.k }, m.ss, m.ks⟩ | none => m)
  | none => if a.k = 1 then beginM m a else m

/-- The cells of a part. -/
structure PtA where
  p : Pt
  A : Option Addr
  c : Nat
  Z : Option Addr
  d : Nat
def PtA.c5 (x : PtA) : List Value := [.string x.p.s, .int .i64 x.p.f, .int .i64 x.p.ln, .slice x.A x.p.ks.length x.c, .slice x.Z x.p.ops.length x.d]
def ptC (l : List PtA) : List Value := l.flatMap PtA.c5
theorem ptC_len (l : List PtA) : (ptC l).length = l.length * 5 := flat_len _ 5 (fun _ => rfl) l
theorem ptC_get (l : List PtA) (i : Nat) (x : PtA) (h : l[i]? = some x) : ∀ j, j < 5 → (ptC l)[i * 5 + j]? = x.c5[j]? := flat_get _ 5 (fun _ => rfl) l i x h
theorem ptC_append (l k : List PtA) : ptC (l ++ k) = ptC l ++ ptC k := by simp [ptC]
theorem flat_set {α : Type} (f : α → List Value) (n : Nat) (h : ∀ x, (f x).length = n) : ∀ (l : List α) (i j : Nat) (x y : α) (u : Value), l[i]? = some x → j < n → f y = (f x).set j u → (l.flatMap f).set (i * n + j) u = (l.set i y).flatMap f
  | [], i, j, x, y, u, hx, _, _ => by simp at hx
  | z :: l, 0, j, x, y, u, hx, hj, hy => by
    simp at hx
    subst hx
    rw [List.set_cons_zero, List.flatMap_cons, List.flatMap_cons, hy, Nat.zero_mul, Nat.zero_add, List.set_append_left _ _ (by rw [h]; exact hj)]
  | z :: l, i + 1, j, x, y, u, hx, hj, hy => by
    have := flat_set f n h l i j x y u (by simpa using hx) hj hy
    rw [List.set_cons_succ, List.flatMap_cons, List.flatMap_cons, ← this, List.set_append_right _ _ (by rw [h, Nat.add_mul]; omega)]
    congr 2
    rw [h, Nat.add_mul]
    omega
theorem ptC_set (l : List PtA) (i j : Nat) (x y : PtA) (u : Value) (hx : l[i]? = some x) (hj : j < 5) (hy : y.c5 = x.c5.set j u) : (ptC l).set (i * 5 + j) u = ptC (l.set i y) := flat_set _ 5 (fun _ => rfl) l i j x y u hx hj hy

/-- A cell of a row of the call's own is written. -/
theorem own_set {w : World} {base : Nat} {e : TypeId} {size : Nat} {v : Value} {n : Nat} {xs : List Value} {g : Nat} (h : w.ownsRow base e size v n xs) (hg : v.ownBlock = some g) {j : Nat} (hj : j < xs.length) (u : Value) :
    (w.setCell ⟨g, j, none⟩ u).ownsRow base e size v n (xs.set j u) := by
  obtain ⟨h0, ⟨rfl, -⟩ | ⟨g', cap, cur, rfl, h1, h2, h3, h4, h5, h6⟩⟩ := h
  · simp [Value.ownBlock] at hg
  · obtain rfl : g' = g := by simpa [Value.ownBlock] using hg
    refine ⟨by simpa using h0, .inr ⟨g', cap, cur.setIfInBounds j u, rfl, h1, Blk.put h2 j u, h3, h4, by simpa using h5, ?_⟩⟩
    rw [Array.toList_setIfInBounds, ← h6]
    have hjl : j < n * size := by omega
    apply List.ext_getElem?
    intro k
    by_cases hk : k < n * size
    · rw [List.getElem?_take_of_lt hk, List.getElem?_set, List.getElem?_set, List.getElem?_take_of_lt hk]
      have : (List.take (n * size) cur.toList).length = n * size := by rw [h6]; exact h0
      by_cases hjk : j = k
      · subst hjk
        rw [if_pos rfl, if_pos rfl, if_pos (by have h9 := this; rw [List.length_take] at h9; omega), if_pos (by rw [this]; exact hk)]
      · rw [if_neg hjk, if_neg hjk]
    · rw [List.getElem?_eq_none (by rw [List.length_take]; omega), List.getElem?_eq_none (by rw [List.length_set, List.length_take]; omega)]
theorem own_cell {w : World} {base : Nat} {e : TypeId} {size : Nat} {v : Value} {n : Nat} {xs : List Value} {g : Nat} (h : w.ownsRow base e size v n xs) (hg : v.ownBlock = some g) {j : Nat} {u : Value} (hj : xs[j]? = some u) :
    w.cell? ⟨g, j, none⟩ = some u ∧ w.frozen? ⟨g, j, none⟩ = false := by
  obtain ⟨cur, hb⟩ := own_blk h hg
  have := h.cells hg j u hj
  refine ⟨?_, hb.free j⟩
  have e' : (⟨g, 0, none⟩ : Addr).add j = ⟨g, j, none⟩ := by
    unfold Addr.add
    split
    · rename_i h; subst h; rfl
    · simp
  rwa [e'] at this

end Go.Proofs.YthaeomdpaadilaaGreatDoor

set_option linter.unusedVariables false
set_option linter.unusedSimpArgs false
namespace Go.Proofs.YthaeomdpaadilaaGreatDoor
open Go.RowKit
open Go.Lib hiding intOf
attribute [local go_sem ↓] Go.wp_at_zero Go.wp_at_succ

/-- Nothing that was there is changed, and the tape is not wound back. -/
structure Ex (w w' : World) : Prop where
  only : Only [] w w'
  drawn : w.drawn ≤ w'.drawn
theorem Ex.refl (w : World) : Ex w w := ⟨Only.refl [] w, Nat.le_refl _⟩
theorem Ex.trans {w w' w'' : World} (h : Ex w w') (k : Ex w' w'') : Ex w w'' := ⟨h.only.trans k.only, Nat.le_trans h.drawn k.drawn⟩
theorem Ex.alloc {w w' : World} (h : Ex w w') (o : Obj) : Ex w (w'.alloc o) := ⟨h.only.alloc o, h.drawn⟩
theorem Ex.iter {w w' : World} (h : Ex w w') {k : Nat} (s : ByteArray) (pos : Nat) (hk : k < w.heap.size → k ∈ ([] : List Nat)) : Ex w (w'.iterAt k s pos) := by
  refine ⟨only_iter h.only s pos hk, Nat.le_trans h.drawn (Nat.le_of_eq ?_)⟩
  unfold World.iterAt
  rfl
/-- Just so: some draws, some new blocks. -/
theorem Ex.grown {w w' : World} (h : Ex w w') : ∃ q os, w' = Go.Sort.grow (w.drewN q) os := by
  have hb : Below w.heap.size w w' := h.only.below (Nat.le_refl _) (by simp)
  refine ⟨w'.drawn - w.drawn, w'.heap.extract w.heap.size w'.heap.size, ?_⟩
  have hd := h.drawn
  obtain ⟨heap', tape', drawn', os', output'⟩ := w'
  have e1 : os' = w.os := hb.os
  have e2 : tape' = w.tape := hb.tape
  have e3 : output' = w.output := hb.output
  have hs : w.heap.size ≤ heap'.size := hb.size
  have hk' : ∀ k, k < w.heap.size → heap'[k]? = w.heap[k]? := hb.block
  have hd' : w.drawn ≤ drawn' := hd
  subst e1 e2 e3
  have eh : heap' = w.heap ++ heap'.extract w.heap.size heap'.size := by
    apply Array.ext_getElem?
    intro k
    by_cases hk : k < w.heap.size
    · rw [Array.getElem?_append_left hk]; exact hk' k hk
    · rw [Array.getElem?_append_right (by omega), Array.getElem?_extract]
      by_cases hk2 : k < heap'.size
      · rw [if_pos (by omega)]; congr 1; omega
      · rw [if_neg (by omega), Array.getElem?_eq_none (by omega)]
  have ed : w.drawn + (drawn' - w.drawn) = drawn' := by omega
  simp only [Go.Sort.grow, World.drewN, ed]
  congr 1

theorem byte_get (s : ByteArray) (k : Nat) (h : k < s.size) : s[k] = s.get! k := by
  cases s with
  | mk d => exact (getElem!_pos d k h).symm

set_option maxHeartbeats 4000000 in
set_option maxRecDepth 100000 in
theorem slow_241 (s : ByteArray) (w : World) (h0 : 0 < s.size) (hT : UTabs w) (hX : firstT (s.get! 0).toNat = 241) :
    Calls Tryz.prog 116 #[.string s] w fun e w' => e = .returned (.tuple #[.int .i32 ((Lib.decodeGo s).1 : Nat), .int .i64 ((Lib.decodeGo s).2 : Nat)]) ∧ Ex w w' := by
  have hz0 : (0 : Int) < (s.size : Int) := by omega
  have hz0' : ¬ ((s.size : Int) < 1) := by omega
  have hs0 := byte_get s 0 h0
  have l0 := (s.get! 0).toNat_lt
  have l1 := (s.get! 1).toNat_lt
  have l2 := (s.get! 2).toNat_lt
  have l3 := (s.get! 3).toNat_lt
  have hdec : Lib.decodeGo s = decodeN s.size (s.get! 0).toNat (s.get! 1).toNat (s.get! 2).toNat (s.get! 3).toNat := by
    unfold Lib.decodeGo
    rw [if_neg (by omega), Lib.decode_at, Nat.sub_zero, Nat.zero_add, Nat.zero_add, Nat.zero_add]
  rw [hdec]
  have hc0 : w.cell? ⟨1, (s.get! 0).toNat, none⟩ = some (.int .u8 241) := by
    have := hT.1 (s.get! 0).toNat (by omega)
    rwa [hX] at this
  rw [Lib.bad_eq _ _ _ _ _ (by omega) hX]
  generalize s.get! 0 = x0 at *
  clear hT hX hdec
  go_enter Tryz.func116, Tryz.ntmps116
  go_wp2
  rw [Utf8W.mask241, Utf8W.drop_byte ⟨x0.toNat, l0⟩]
  go_ret2
  exact ⟨rfl, Ex.refl _⟩

set_option maxHeartbeats 4000000 in
set_option maxRecDepth 100000 in
theorem slow_2 (s : ByteArray) (w : World) (h0 : 0 < s.size) (hT : UTabs w) (hX : firstT (s.get! 0).toNat = 2) :
    Calls Tryz.prog 116 #[.string s] w fun e w' => e = .returned (.tuple #[.int .i32 ((Lib.decodeGo s).1 : Nat), .int .i64 ((Lib.decodeGo s).2 : Nat)]) ∧ Ex w w' := by
  have hz0 : (0 : Int) < (s.size : Int) := by omega
  have hz0' : ¬ ((s.size : Int) < 1) := by omega
  have hs0 := byte_get s 0 h0
  have l0 := (s.get! 0).toNat_lt
  have l1 := (s.get! 1).toNat_lt
  have l2 := (s.get! 2).toNat_lt
  have l3 := (s.get! 3).toNat_lt
  have hdec : Lib.decodeGo s = decodeN s.size (s.get! 0).toNat (s.get! 1).toNat (s.get! 2).toNat (s.get! 3).toNat := by
    unfold Lib.decodeGo
    rw [if_neg (by omega), Lib.decode_at, Nat.sub_zero, Nat.zero_add, Nat.zero_add, Nat.zero_add]
  rw [hdec]
  have hc0 : w.cell? ⟨1, (s.get! 0).toNat, none⟩ = some (.int .u8 2) := by
    have := hT.1 (s.get! 0).toNat (by omega)
    rwa [hX] at this
  have ha0 : w.cell? ⟨2, 0, none⟩ = some (.int .u8 128) := (hT.2 0 (by omega)).1
  have ha1 : w.cell? ⟨2, 1, none⟩ = some (.int .u8 191) := (hT.2 0 (by omega)).2
  have hres : decodeN s.size (s.get! 0).toNat (s.get! 1).toNat (s.get! 2).toNat (s.get! 3).toNat = slowN s.size (s.get! 0).toNat (s.get! 1).toNat (s.get! 2).toNat (s.get! 3).toNat 2 128 191 := by
    have := (Lib.slow_eq s.size (s.get! 0).toNat (s.get! 1).toNat (s.get! 2).toNat (s.get! 3).toNat (by omega) (by omega) (by omega) (by omega) (by rw [hX]; omega)).symm
    rw [hX] at this
    exact this
  rw [hres]
  have hs1 := fun h => byte_get s 1 h
  generalize s.get! 0 = x0 at *
  generalize s.get! 1 = x1 at *
  generalize s.get! 2 = x2 at *
  generalize s.get! 3 = x3 at *
  clear hT hX hdec hres
  by_cases hn : s.size < 2
  · have hnz : (s.size : Int) < 2 := by omega
    clear hs1
    go_enter Tryz.func116, Tryz.ntmps116
    go_wp2
    all_goals (go_ret2; refine ⟨?_, (Ex.refl _).alloc _⟩; utf8_leaf)
  · have hz1 : (1 : Int) < (s.size : Int) := by omega
    replace hs1 := hs1 (by omega)
    go_enter Tryz.func116, Tryz.ntmps116
    go_wp2
    all_goals (go_ret2; refine ⟨?_, (Ex.refl _).alloc _⟩; utf8_leaf)

set_option maxHeartbeats 4000000 in
set_option maxRecDepth 100000 in
theorem slow_19 (s : ByteArray) (w : World) (h0 : 0 < s.size) (hT : UTabs w) (hX : firstT (s.get! 0).toNat = 19) :
    Calls Tryz.prog 116 #[.string s] w fun e w' => e = .returned (.tuple #[.int .i32 ((Lib.decodeGo s).1 : Nat), .int .i64 ((Lib.decodeGo s).2 : Nat)]) ∧ Ex w w' := by
  have hz0 : (0 : Int) < (s.size : Int) := by omega
  have hz0' : ¬ ((s.size : Int) < 1) := by omega
  have hs0 := byte_get s 0 h0
  have l0 := (s.get! 0).toNat_lt
  have l1 := (s.get! 1).toNat_lt
  have l2 := (s.get! 2).toNat_lt
  have l3 := (s.get! 3).toNat_lt
  have hdec : Lib.decodeGo s = decodeN s.size (s.get! 0).toNat (s.get! 1).toNat (s.get! 2).toNat (s.get! 3).toNat := by
    unfold Lib.decodeGo
    rw [if_neg (by omega), Lib.decode_at, Nat.sub_zero, Nat.zero_add, Nat.zero_add, Nat.zero_add]
  rw [hdec]
  have hc0 : w.cell? ⟨1, (s.get! 0).toNat, none⟩ = some (.int .u8 19) := by
    have := hT.1 (s.get! 0).toNat (by omega)
    rwa [hX] at this
  have ha0 : w.cell? ⟨2, 2, none⟩ = some (.int .u8 160) := (hT.2 1 (by omega)).1
  have ha1 : w.cell? ⟨2, 3, none⟩ = some (.int .u8 191) := (hT.2 1 (by omega)).2
  have hres : decodeN s.size (s.get! 0).toNat (s.get! 1).toNat (s.get! 2).toNat (s.get! 3).toNat = slowN s.size (s.get! 0).toNat (s.get! 1).toNat (s.get! 2).toNat (s.get! 3).toNat 3 160 191 := by
    have := (Lib.slow_eq s.size (s.get! 0).toNat (s.get! 1).toNat (s.get! 2).toNat (s.get! 3).toNat (by omega) (by omega) (by omega) (by omega) (by rw [hX]; omega)).symm
    rw [hX] at this
    exact this
  rw [hres]
  have hs1 := fun h => byte_get s 1 h
  have hs2 := fun h => byte_get s 2 h
  generalize s.get! 0 = x0 at *
  generalize s.get! 1 = x1 at *
  generalize s.get! 2 = x2 at *
  generalize s.get! 3 = x3 at *
  clear hT hX hdec hres
  by_cases hn : s.size < 3
  · have hnz : (s.size : Int) < 3 := by omega
    clear hs1 hs2
    go_enter Tryz.func116, Tryz.ntmps116
    go_wp2
    all_goals (go_ret2; refine ⟨?_, (Ex.refl _).alloc _⟩; utf8_leaf)
  · have hz1 : (1 : Int) < (s.size : Int) := by omega
    replace hs1 := hs1 (by omega)
    have hz2 : (2 : Int) < (s.size : Int) := by omega
    replace hs2 := hs2 (by omega)
    go_enter Tryz.func116, Tryz.ntmps116
    go_wp2
    all_goals (go_ret2; refine ⟨?_, (Ex.refl _).alloc _⟩; utf8_leaf)

set_option maxHeartbeats 4000000 in
set_option maxRecDepth 100000 in
theorem slow_3 (s : ByteArray) (w : World) (h0 : 0 < s.size) (hT : UTabs w) (hX : firstT (s.get! 0).toNat = 3) :
    Calls Tryz.prog 116 #[.string s] w fun e w' => e = .returned (.tuple #[.int .i32 ((Lib.decodeGo s).1 : Nat), .int .i64 ((Lib.decodeGo s).2 : Nat)]) ∧ Ex w w' := by
  have hz0 : (0 : Int) < (s.size : Int) := by omega
  have hz0' : ¬ ((s.size : Int) < 1) := by omega
  have hs0 := byte_get s 0 h0
  have l0 := (s.get! 0).toNat_lt
  have l1 := (s.get! 1).toNat_lt
  have l2 := (s.get! 2).toNat_lt
  have l3 := (s.get! 3).toNat_lt
  have hdec : Lib.decodeGo s = decodeN s.size (s.get! 0).toNat (s.get! 1).toNat (s.get! 2).toNat (s.get! 3).toNat := by
    unfold Lib.decodeGo
    rw [if_neg (by omega), Lib.decode_at, Nat.sub_zero, Nat.zero_add, Nat.zero_add, Nat.zero_add]
  rw [hdec]
  have hc0 : w.cell? ⟨1, (s.get! 0).toNat, none⟩ = some (.int .u8 3) := by
    have := hT.1 (s.get! 0).toNat (by omega)
    rwa [hX] at this
  have ha0 : w.cell? ⟨2, 0, none⟩ = some (.int .u8 128) := (hT.2 0 (by omega)).1
  have ha1 : w.cell? ⟨2, 1, none⟩ = some (.int .u8 191) := (hT.2 0 (by omega)).2
  have hres : decodeN s.size (s.get! 0).toNat (s.get! 1).toNat (s.get! 2).toNat (s.get! 3).toNat = slowN s.size (s.get! 0).toNat (s.get! 1).toNat (s.get! 2).toNat (s.get! 3).toNat 3 128 191 := by
    have := (Lib.slow_eq s.size (s.get! 0).toNat (s.get! 1).toNat (s.get! 2).toNat (s.get! 3).toNat (by omega) (by omega) (by omega) (by omega) (by rw [hX]; omega)).symm
    rw [hX] at this
    exact this
  rw [hres]
  have hs1 := fun h => byte_get s 1 h
  have hs2 := fun h => byte_get s 2 h
  generalize s.get! 0 = x0 at *
  generalize s.get! 1 = x1 at *
  generalize s.get! 2 = x2 at *
  generalize s.get! 3 = x3 at *
  clear hT hX hdec hres
  by_cases hn : s.size < 3
  · have hnz : (s.size : Int) < 3 := by omega
    clear hs1 hs2
    go_enter Tryz.func116, Tryz.ntmps116
    go_wp2
    all_goals (go_ret2; refine ⟨?_, (Ex.refl _).alloc _⟩; utf8_leaf)
  · have hz1 : (1 : Int) < (s.size : Int) := by omega
    replace hs1 := hs1 (by omega)
    have hz2 : (2 : Int) < (s.size : Int) := by omega
    replace hs2 := hs2 (by omega)
    go_enter Tryz.func116, Tryz.ntmps116
    go_wp2
    all_goals (go_ret2; refine ⟨?_, (Ex.refl _).alloc _⟩; utf8_leaf)

set_option maxHeartbeats 4000000 in
set_option maxRecDepth 100000 in
theorem slow_35 (s : ByteArray) (w : World) (h0 : 0 < s.size) (hT : UTabs w) (hX : firstT (s.get! 0).toNat = 35) :
    Calls Tryz.prog 116 #[.string s] w fun e w' => e = .returned (.tuple #[.int .i32 ((Lib.decodeGo s).1 : Nat), .int .i64 ((Lib.decodeGo s).2 : Nat)]) ∧ Ex w w' := by
  have hz0 : (0 : Int) < (s.size : Int) := by omega
  have hz0' : ¬ ((s.size : Int) < 1) := by omega
  have hs0 := byte_get s 0 h0
  have l0 := (s.get! 0).toNat_lt
  have l1 := (s.get! 1).toNat_lt
  have l2 := (s.get! 2).toNat_lt
  have l3 := (s.get! 3).toNat_lt
  have hdec : Lib.decodeGo s = decodeN s.size (s.get! 0).toNat (s.get! 1).toNat (s.get! 2).toNat (s.get! 3).toNat := by
    unfold Lib.decodeGo
    rw [if_neg (by omega), Lib.decode_at, Nat.sub_zero, Nat.zero_add, Nat.zero_add, Nat.zero_add]
  rw [hdec]
  have hc0 : w.cell? ⟨1, (s.get! 0).toNat, none⟩ = some (.int .u8 35) := by
    have := hT.1 (s.get! 0).toNat (by omega)
    rwa [hX] at this
  have ha0 : w.cell? ⟨2, 4, none⟩ = some (.int .u8 128) := (hT.2 2 (by omega)).1
  have ha1 : w.cell? ⟨2, 5, none⟩ = some (.int .u8 159) := (hT.2 2 (by omega)).2
  have hres : decodeN s.size (s.get! 0).toNat (s.get! 1).toNat (s.get! 2).toNat (s.get! 3).toNat = slowN s.size (s.get! 0).toNat (s.get! 1).toNat (s.get! 2).toNat (s.get! 3).toNat 3 128 159 := by
    have := (Lib.slow_eq s.size (s.get! 0).toNat (s.get! 1).toNat (s.get! 2).toNat (s.get! 3).toNat (by omega) (by omega) (by omega) (by omega) (by rw [hX]; omega)).symm
    rw [hX] at this
    exact this
  rw [hres]
  have hs1 := fun h => byte_get s 1 h
  have hs2 := fun h => byte_get s 2 h
  generalize s.get! 0 = x0 at *
  generalize s.get! 1 = x1 at *
  generalize s.get! 2 = x2 at *
  generalize s.get! 3 = x3 at *
  clear hT hX hdec hres
  by_cases hn : s.size < 3
  · have hnz : (s.size : Int) < 3 := by omega
    clear hs1 hs2
    go_enter Tryz.func116, Tryz.ntmps116
    go_wp2
    all_goals (go_ret2; refine ⟨?_, (Ex.refl _).alloc _⟩; utf8_leaf)
  · have hz1 : (1 : Int) < (s.size : Int) := by omega
    replace hs1 := hs1 (by omega)
    have hz2 : (2 : Int) < (s.size : Int) := by omega
    replace hs2 := hs2 (by omega)
    go_enter Tryz.func116, Tryz.ntmps116
    go_wp2
    all_goals (go_ret2; refine ⟨?_, (Ex.refl _).alloc _⟩; utf8_leaf)

set_option maxHeartbeats 4000000 in
set_option maxRecDepth 100000 in
theorem slow_52 (s : ByteArray) (w : World) (h0 : 0 < s.size) (hT : UTabs w) (hX : firstT (s.get! 0).toNat = 52) :
    Calls Tryz.prog 116 #[.string s] w fun e w' => e = .returned (.tuple #[.int .i32 ((Lib.decodeGo s).1 : Nat), .int .i64 ((Lib.decodeGo s).2 : Nat)]) ∧ Ex w w' := by
  have hz0 : (0 : Int) < (s.size : Int) := by omega
  have hz0' : ¬ ((s.size : Int) < 1) := by omega
  have hs0 := byte_get s 0 h0
  have l0 := (s.get! 0).toNat_lt
  have l1 := (s.get! 1).toNat_lt
  have l2 := (s.get! 2).toNat_lt
  have l3 := (s.get! 3).toNat_lt
  have hdec : Lib.decodeGo s = decodeN s.size (s.get! 0).toNat (s.get! 1).toNat (s.get! 2).toNat (s.get! 3).toNat := by
    unfold Lib.decodeGo
    rw [if_neg (by omega), Lib.decode_at, Nat.sub_zero, Nat.zero_add, Nat.zero_add, Nat.zero_add]
  rw [hdec]
  have hc0 : w.cell? ⟨1, (s.get! 0).toNat, none⟩ = some (.int .u8 52) := by
    have := hT.1 (s.get! 0).toNat (by omega)
    rwa [hX] at this
  have ha0 : w.cell? ⟨2, 6, none⟩ = some (.int .u8 144) := (hT.2 3 (by omega)).1
  have ha1 : w.cell? ⟨2, 7, none⟩ = some (.int .u8 191) := (hT.2 3 (by omega)).2
  have hres : decodeN s.size (s.get! 0).toNat (s.get! 1).toNat (s.get! 2).toNat (s.get! 3).toNat = slowN s.size (s.get! 0).toNat (s.get! 1).toNat (s.get! 2).toNat (s.get! 3).toNat 4 144 191 := by
    have := (Lib.slow_eq s.size (s.get! 0).toNat (s.get! 1).toNat (s.get! 2).toNat (s.get! 3).toNat (by omega) (by omega) (by omega) (by omega) (by rw [hX]; omega)).symm
    rw [hX] at this
    exact this
  rw [hres]
  have hs1 := fun h => byte_get s 1 h
  have hs2 := fun h => byte_get s 2 h
  have hs3 := fun h => byte_get s 3 h
  generalize s.get! 0 = x0 at *
  generalize s.get! 1 = x1 at *
  generalize s.get! 2 = x2 at *
  generalize s.get! 3 = x3 at *
  clear hT hX hdec hres
  by_cases hn : s.size < 4
  · have hnz : (s.size : Int) < 4 := by omega
    clear hs1 hs2 hs3
    go_enter Tryz.func116, Tryz.ntmps116
    go_wp2
    all_goals (go_ret2; refine ⟨?_, (Ex.refl _).alloc _⟩; utf8_leaf)
  · have hz1 : (1 : Int) < (s.size : Int) := by omega
    replace hs1 := hs1 (by omega)
    have hz2 : (2 : Int) < (s.size : Int) := by omega
    replace hs2 := hs2 (by omega)
    have hz3 : (3 : Int) < (s.size : Int) := by omega
    replace hs3 := hs3 (by omega)
    go_enter Tryz.func116, Tryz.ntmps116
    go_wp2
    all_goals (go_ret2; refine ⟨?_, (Ex.refl _).alloc _⟩; utf8_leaf)

set_option maxHeartbeats 4000000 in
set_option maxRecDepth 100000 in
theorem slow_4 (s : ByteArray) (w : World) (h0 : 0 < s.size) (hT : UTabs w) (hX : firstT (s.get! 0).toNat = 4) :
    Calls Tryz.prog 116 #[.string s] w fun e w' => e = .returned (.tuple #[.int .i32 ((Lib.decodeGo s).1 : Nat), .int .i64 ((Lib.decodeGo s).2 : Nat)]) ∧ Ex w w' := by
  have hz0 : (0 : Int) < (s.size : Int) := by omega
  have hz0' : ¬ ((s.size : Int) < 1) := by omega
  have hs0 := byte_get s 0 h0
  have l0 := (s.get! 0).toNat_lt
  have l1 := (s.get! 1).toNat_lt
  have l2 := (s.get! 2).toNat_lt
  have l3 := (s.get! 3).toNat_lt
  have hdec : Lib.decodeGo s = decodeN s.size (s.get! 0).toNat (s.get! 1).toNat (s.get! 2).toNat (s.get! 3).toNat := by
    unfold Lib.decodeGo
    rw [if_neg (by omega), Lib.decode_at, Nat.sub_zero, Nat.zero_add, Nat.zero_add, Nat.zero_add]
  rw [hdec]
  have hc0 : w.cell? ⟨1, (s.get! 0).toNat, none⟩ = some (.int .u8 4) := by
    have := hT.1 (s.get! 0).toNat (by omega)
    rwa [hX] at this
  have ha0 : w.cell? ⟨2, 0, none⟩ = some (.int .u8 128) := (hT.2 0 (by omega)).1
  have ha1 : w.cell? ⟨2, 1, none⟩ = some (.int .u8 191) := (hT.2 0 (by omega)).2
  have hres : decodeN s.size (s.get! 0).toNat (s.get! 1).toNat (s.get! 2).toNat (s.get! 3).toNat = slowN s.size (s.get! 0).toNat (s.get! 1).toNat (s.get! 2).toNat (s.get! 3).toNat 4 128 191 := by
    have := (Lib.slow_eq s.size (s.get! 0).toNat (s.get! 1).toNat (s.get! 2).toNat (s.get! 3).toNat (by omega) (by omega) (by omega) (by omega) (by rw [hX]; omega)).symm
    rw [hX] at this
    exact this
  rw [hres]
  have hs1 := fun h => byte_get s 1 h
  have hs2 := fun h => byte_get s 2 h
  have hs3 := fun h => byte_get s 3 h
  generalize s.get! 0 = x0 at *
  generalize s.get! 1 = x1 at *
  generalize s.get! 2 = x2 at *
  generalize s.get! 3 = x3 at *
  clear hT hX hdec hres
  by_cases hn : s.size < 4
  · have hnz : (s.size : Int) < 4 := by omega
    clear hs1 hs2 hs3
    go_enter Tryz.func116, Tryz.ntmps116
    go_wp2
    all_goals (go_ret2; refine ⟨?_, (Ex.refl _).alloc _⟩; utf8_leaf)
  · have hz1 : (1 : Int) < (s.size : Int) := by omega
    replace hs1 := hs1 (by omega)
    have hz2 : (2 : Int) < (s.size : Int) := by omega
    replace hs2 := hs2 (by omega)
    have hz3 : (3 : Int) < (s.size : Int) := by omega
    replace hs3 := hs3 (by omega)
    go_enter Tryz.func116, Tryz.ntmps116
    go_wp2
    all_goals (go_ret2; refine ⟨?_, (Ex.refl _).alloc _⟩; utf8_leaf)

set_option maxHeartbeats 4000000 in
set_option maxRecDepth 100000 in
theorem slow_68 (s : ByteArray) (w : World) (h0 : 0 < s.size) (hT : UTabs w) (hX : firstT (s.get! 0).toNat = 68) :
    Calls Tryz.prog 116 #[.string s] w fun e w' => e = .returned (.tuple #[.int .i32 ((Lib.decodeGo s).1 : Nat), .int .i64 ((Lib.decodeGo s).2 : Nat)]) ∧ Ex w w' := by
  have hz0 : (0 : Int) < (s.size : Int) := by omega
  have hz0' : ¬ ((s.size : Int) < 1) := by omega
  have hs0 := byte_get s 0 h0
  have l0 := (s.get! 0).toNat_lt
  have l1 := (s.get! 1).toNat_lt
  have l2 := (s.get! 2).toNat_lt
  have l3 := (s.get! 3).toNat_lt
  have hdec : Lib.decodeGo s = decodeN s.size (s.get! 0).toNat (s.get! 1).toNat (s.get! 2).toNat (s.get! 3).toNat := by
    unfold Lib.decodeGo
    rw [if_neg (by omega), Lib.decode_at, Nat.sub_zero, Nat.zero_add, Nat.zero_add, Nat.zero_add]
  rw [hdec]
  have hc0 : w.cell? ⟨1, (s.get! 0).toNat, none⟩ = some (.int .u8 68) := by
    have := hT.1 (s.get! 0).toNat (by omega)
    rwa [hX] at this
  have ha0 : w.cell? ⟨2, 8, none⟩ = some (.int .u8 128) := (hT.2 4 (by omega)).1
  have ha1 : w.cell? ⟨2, 9, none⟩ = some (.int .u8 143) := (hT.2 4 (by omega)).2
  have hres : decodeN s.size (s.get! 0).toNat (s.get! 1).toNat (s.get! 2).toNat (s.get! 3).toNat = slowN s.size (s.get! 0).toNat (s.get! 1).toNat (s.get! 2).toNat (s.get! 3).toNat 4 128 143 := by
    have := (Lib.slow_eq s.size (s.get! 0).toNat (s.get! 1).toNat (s.get! 2).toNat (s.get! 3).toNat (by omega) (by omega) (by omega) (by omega) (by rw [hX]; omega)).symm
    rw [hX] at this
    exact this
  rw [hres]
  have hs1 := fun h => byte_get s 1 h
  have hs2 := fun h => byte_get s 2 h
  have hs3 := fun h => byte_get s 3 h
  generalize s.get! 0 = x0 at *
  generalize s.get! 1 = x1 at *
  generalize s.get! 2 = x2 at *
  generalize s.get! 3 = x3 at *
  clear hT hX hdec hres
  by_cases hn : s.size < 4
  · have hnz : (s.size : Int) < 4 := by omega
    clear hs1 hs2 hs3
    go_enter Tryz.func116, Tryz.ntmps116
    go_wp2
    all_goals (go_ret2; refine ⟨?_, (Ex.refl _).alloc _⟩; utf8_leaf)
  · have hz1 : (1 : Int) < (s.size : Int) := by omega
    replace hs1 := hs1 (by omega)
    have hz2 : (2 : Int) < (s.size : Int) := by omega
    replace hs2 := hs2 (by omega)
    have hz3 : (3 : Int) < (s.size : Int) := by omega
    replace hs3 := hs3 (by omega)
    go_enter Tryz.func116, Tryz.ntmps116
    go_wp2
    all_goals (go_ret2; refine ⟨?_, (Ex.refl _).alloc _⟩; utf8_leaf)

set_option maxRecDepth 100000 in
theorem slow_ex (s : ByteArray) (w : World) (h0 : 0 < s.size) (hb : 128 ≤ (s.get! 0).toNat) (hT : UTabs w) :
    Calls Tryz.prog 116 #[.string s] w fun e w' => e = .returned (.tuple #[.int .i32 ((Lib.decodeGo s).1 : Nat), .int .i64 ((Lib.decodeGo s).2 : Nat)]) ∧ Ex w w' := by
  rcases Lib.firstT_cases (s.get! 0).toNat with hX | hX | hX | hX | hX | hX | hX | hX | hX
  · exfalso
    have e := Lib.ascii_eq s.size (s.get! 0).toNat (s.get! 1).toNat (s.get! 2).toNat (s.get! 3).toNat hX
    have l0 := (s.get! 0).toNat_lt
    generalize (s.get! 0).toNat = b0 at *
    rcases decodeN_shape s.size b0 (s.get! 1).toNat (s.get! 2).toNat (s.get! 3).toNat with ⟨c, e'⟩ | ⟨c1, c2, c3, cv, e'⟩ | ⟨c1, c2, c3, c4, cv, cs, e'⟩ | ⟨c1, c2, c3, c4, c5, cv, cw, e'⟩ | e'
    all_goals (rw [e] at e'; have h1 := congrArg Prod.fst e'; have h2 := congrArg Prod.snd e'; simp only at h1 h2; omega)
  · exact slow_241 s w h0 hT hX
  · exact slow_2 s w h0 hT hX
  · exact slow_19 s w h0 hT hX
  · exact slow_3 s w h0 hT hX
  · exact slow_35 s w h0 hT hX
  · exact slow_52 s w h0 hT hX
  · exact slow_4 s w h0 hT hX
  · exact slow_68 s w h0 hT hX

end Go.Proofs.YthaeomdpaadilaaGreatDoor
