/- Tables: the mathematics. What the package pair makes of events: parts, the maker; and how they lie in memory. A contract of the library at this program: what it asks of the program, field by field. Contracts of the package name: Less. -/
import Derived.Test.YtjfbeeogiejopaaGreatDoorLaw15AllK11
import Derived.Lib.SlicesS
import Derived.Test.YtjfbeeogiejopaaGreatDoorLaw15AllK10
import Derived.Test.YtjfbeeogiejopaaGreatDoorLaw15AllK5
import Derived.Maps.OwnSet
import Derived.Test.YtjfbeeogiejopaaGreatDoorProg
import Derived.Ground.NamesProg
import Derived.Shelf.Unicode.DecodeAny
import Derived.Test.YtjfbeeogiejopaaGreatDoorLaw15AllK4
set_option linter.unusedVariables false
set_option linter.unusedSimpArgs false
namespace Go.Proofs.YtjfbeeogiejopaaGreatDoor
open Go.Lib
def riseB : List ByteArray → Bool
 | [] => true
 | [_] => true
 | a :: b :: l => lessB a b && riseB (b :: l)
def tabB (t : List ByteArray) : Bool := t.all isName && riseB t
theorem riseB_iff : ∀ t : List ByteArray, riseB t = true ↔ ∀ (j : Nat) x y, t[j]? = some x → t[j + 1]? = some y → lessB x y = true
 | [] => ⟨fun _ j x y h => (by cases h), fun _ => rfl⟩
 | [a] => ⟨fun _ j x y _ h => (by simp at h), fun _ => rfl⟩
 | a :: b :: l => by
  rw [riseB, Bool.and_eq_true, riseB_iff (b :: l)]
  constructor
  ·rintro ⟨h1, h2⟩ j x y hx hy
   cases j with
   | zero =>
    obtain rfl := Option.some.inj hx
    obtain rfl := Option.some.inj hy
    exact h1
   | succ j => exact h2 j x y hx hy
  ·intro h
   exact ⟨h 0 a b rfl rfl, fun j x y hx hy => h (j + 1) x y hx hy⟩
theorem tab_iff (t : List ByteArray) : tabB t = true ↔ (∀ (j : Nat) x, t[j]? = some x → isName x = true) ∧ ∀ (j : Nat) x y, t[j]? = some x → t[j + 1]? = some y → lessB x y = true := by
 unfold tabB
 rw [Bool.and_eq_true, riseB_iff, List.all_eq_true]
 refine ⟨fun ⟨h1, h2⟩ => ⟨fun j x hx => h1 x (List.mem_of_getElem? hx), h2⟩, fun ⟨h1, h2⟩ => ⟨fun x hx => ?_, h2⟩⟩
 obtain ⟨j, hj⟩ := List.mem_iff_getElem?.1 hx
 exact h1 j x hj
theorem tab_bad1 {t : List ByteArray} {j : Nat} {x : ByteArray} (h : t[j]? = some x) (hn : isName x = false) : tabB t = false := by
 cases ht : tabB t with
 | false => rfl
 | true =>
  have := ((tab_iff t).1 ht).1 j x h
  rw [hn] at this
  cases this
theorem tab_bad2 {t : List ByteArray} {j : Nat} {x y : ByteArray} (h : t[j]? = some x) (h' : t[j + 1]? = some y) (hn : lessB x y = false) : tabB t = false := by
 cases ht : tabB t with
 | false => rfl
 | true =>
  have := ((tab_iff t).1 ht).2 j x y h h'
  rw [hn] at this
  cases this
/-- Where a name stands in a table. -/
def posB (t : List ByteArray) (s : ByteArray) : Int := if tabB t = true then idxOfS t s else -1
theorem idx_ge (t : List ByteArray) (s : ByteArray) : -1 ≤ idxOfS t s ∧ idxOfS t s < t.length := by
 by_cases h : s ∈ t
 ·obtain ⟨k, hk, hmin⟩ : ∃ k : Nat, t[k]? = some s ∧ ∀ j, j < k → t[j]? ≠ some s := by
   obtain ⟨k, hk⟩ := List.mem_iff_getElem?.1 h
   refine Nat.strongRecOn (motive := fun k : Nat => t[k]? = some s → ∃ k : Nat, t[k]? = some s ∧ ∀ j, j < k → t[j]? ≠ some s) k (fun k ih hk => ?_) hk
   by_cases hj : ∃ j, j < k ∧ t[j]? = some s
   ·obtain ⟨j, hj1, hj2⟩ := hj
    exact ih j hj1 hj2
   ·exact ⟨k, hk, fun j hj1 hj2 => hj ⟨j, hj1, hj2⟩⟩
  have hl := (List.getElem?_eq_some_iff.1 hk).1
  have := idxOfS_hit t t.length k s hl (Nat.le_refl _) (by rw [List.getD_eq_getElem?_getD, hk]; rfl) (fun j hj e => hmin j hj (by
   rw [List.getD_eq_getElem?_getD, List.getElem?_eq_getElem (by omega)] at e
   rw [List.getElem?_eq_getElem (by omega)]
   exact congrArg some e))
  rw [List.take_length] at this
  rw [this]
  omega
 ·have := idxOfS_miss t t.length s (fun j hj e => h (by
   rw [List.getD_eq_getElem?_getD, List.getElem?_eq_getElem hj] at e
   have e2 : t[j] = s := e
   rw [← e2]
   exact List.getElem_mem hj))
  rw [List.take_length] at this
  rw [this]
  omega
end Go.Proofs.YtjfbeeogiejopaaGreatDoor

set_option linter.unusedVariables false
set_option linter.unusedSimpArgs false
namespace Go.Proofs.YtjfbeeogiejopaaGreatDoor
open Go.RowKit
open Go.Lib hiding intOf
/-- A transaction as far as its events go. -/
structure Pt where
 s : ByteArray
 f : Int
 ln : Int
 ks : List ByteArray
 ops : List Op4
structure Mk where
 ps : List Pt
 ss : List ByteArray
 ks : List ByteArray
/-- The number of a session's open transaction. -/
def openI (ps : List Pt) (s : ByteArray) : Option Nat := ps.findIdx? fun p => decide (p.s = s) && decide (p.f = 0)
def withB (t : List ByteArray) (s : ByteArray) : List ByteArray := if 0 ≤ posB t s then t else sortB (t ++ [s])
def fateE (k : Int) : Int := if k = 4 then 1 else if k = 5 then 2 else 3
def beginE (m : Mk) (a : Ev6) : Int := if (withB m.ss a.s).length > 20 ∨ m.ps.length = 40 then 7 else 0
def beginM (m : Mk) (a : Ev6) : Mk := if (withB m.ss a.s).length > 20 ∨ m.ps.length = 40 then m else ⟨m.ps ++ [⟨a.s, 0, a.ln, [], []⟩], withB m.ss a.s, m.ks⟩
def addP (p : Pt) (a : Ev6) : Pt := { p with ks := p.ks ++ [a.y], ops := p.ops ++ [⟨decide (a.k = 3), 0, a.vk, a.vn⟩] }
def addE (m : Mk) (p : Pt) (a : Ev6) : Int := if p.ops.length = 20 ∨ (withB m.ks a.y).length > 40 then 7 else 0
def addM (m : Mk) (i : Nat) (p : Pt) (a : Ev6) : Mk := if p.ops.length = 20 ∨ (withB m.ks a.y).length > 40 then m else ⟨m.ps.set i (addP p a), m.ss, withB m.ks a.y⟩
def takeE (m : Mk) (a : Ev6) : Int :=
 if evOk a.k a.s a.y a.vk a.vn = false then 4 else
 match openI m.ps a.s with
 | some i => if a.k = 1 then 9 else if a.k = 2 ∨ a.k = 3 then (match m.ps[i]? with | some p => addE m p a | none => 0) else 0
 | none => if a.k = 1 then beginE m a else 10
def takeM (m : Mk) (a : Ev6) : Mk :=
 if evOk a.k a.s a.y a.vk a.vn = false then m else
 match openI m.ps a.s with
 | some i => if a.k = 1 then m else (match m.ps[i]? with | some p => if a.k = 2 ∨ a.k = 3 then addM m i p a else ⟨m.ps.set i { p with f := fateE a.k }, m.ss, m.ks⟩ | none => m)
 | none => if a.k = 1 then beginM m a else m
/-- The cells of a part. -/
structure PtA where
 p : Pt
 A : Option Addr
 c : Nat
 Z : Option Addr
 d : Nat
def PtA.c5 (x : PtA) : List Value := [.string x.p.s, .int .i64 x.p.f, .int .i64 x.p.ln, .slice x.A x.p.ks.length x.c, .slice x.Z x.p.ops.length x.d]
def ptC (l : List PtA) : List Value := l.flatMap PtA.c5
theorem ptC_len (l : List PtA) : (ptC l).length = l.length * 5 := flat_len _ 5 (fun _ => rfl) l
theorem ptC_get (l : List PtA) (i : Nat) (x : PtA) (h : l[i]? = some x) : ∀ j, j < 5 → (ptC l)[i * 5 + j]? = x.c5[j]? := flat_get _ 5 (fun _ => rfl) l i x h
theorem ptC_append (l k : List PtA) : ptC (l ++ k) = ptC l ++ ptC k := by simp [ptC]
theorem flat_set {α : Type} (f : α → List Value) (n : Nat) (h : ∀ x, (f x).length = n) : ∀ (l : List α) (i j : Nat) (x y : α) (u : Value), l[i]? = some x → j < n → f y = (f x).set j u → (l.flatMap f).set (i * n + j) u = (l.set i y).flatMap f
 | [], i, j, x, y, u, hx, _, _ => by simp at hx
 | z :: l, 0, j, x, y, u, hx, hj, hy => by
  simp at hx
  subst hx
  rw [List.set_cons_zero, List.flatMap_cons, List.flatMap_cons, hy, Nat.zero_mul, Nat.zero_add, List.set_append_left _ _ (by rw [h]; exact hj)]
 | z :: l, i + 1, j, x, y, u, hx, hj, hy => by
  have := flat_set f n h l i j x y u (by simpa using hx) hj hy
  rw [List.set_cons_succ, List.flatMap_cons, List.flatMap_cons, ← this, List.set_append_right _ _ (by rw [h, Nat.add_mul]; omega)]
  congr 2
  rw [h, Nat.add_mul]
  omega
theorem ptC_set (l : List PtA) (i j : Nat) (x y : PtA) (u : Value) (hx : l[i]? = some x) (hj : j < 5) (hy : y.c5 = x.c5.set j u) : (ptC l).set (i * 5 + j) u = ptC (l.set i y) := flat_set _ 5 (fun _ => rfl) l i j x y u hx hj hy
/-- A cell of a row of the call's own is written. -/
theorem own_set {w : World} {base : Nat} {e : TypeId} {size : Nat} {v : Value} {n : Nat} {xs : List Value} {g : Nat} (h : w.ownsRow base e size v n xs) (hg : v.ownBlock = some g) {j : Nat} (hj : j < xs.length) (u : Value) :
  (w.setCell ⟨g, j, none⟩ u).ownsRow base e size v n (xs.set j u) := by
 obtain ⟨h0, ⟨rfl, -⟩ | ⟨g', cap, cur, rfl, h1, h2, h3, h4, h5, h6⟩⟩ := h
 ·simp [Value.ownBlock] at hg
 ·obtain rfl : g' = g := by simpa [Value.ownBlock] using hg
  refine ⟨by simpa using h0, .inr ⟨g', cap, cur.setIfInBounds j u, rfl, h1, Blk.put h2 j u, h3, h4, by simpa using h5, ?_⟩⟩
  rw [Array.toList_setIfInBounds, ← h6]
  have hjl : j < n * size := by omega
  apply List.ext_getElem?
  intro k
  by_cases hk : k < n * size
  ·rw [List.getElem?_take_of_lt hk, List.getElem?_set, List.getElem?_set, List.getElem?_take_of_lt hk]
   have : (List.take (n * size) cur.toList).length = n * size := by rw [h6]; exact h0
   by_cases hjk : j = k
   ·subst hjk
    rw [if_pos rfl, if_pos rfl, if_pos (by have h9 := this; rw [List.length_take] at h9; omega), if_pos (by rw [this]; exact hk)]
   ·rw [if_neg hjk, if_neg hjk]
  ·rw [List.getElem?_eq_none (by rw [List.length_take]; omega), List.getElem?_eq_none (by rw [List.length_set, List.length_take]; omega)]
theorem own_cell {w : World} {base : Nat} {e : TypeId} {size : Nat} {v : Value} {n : Nat} {xs : List Value} {g : Nat} (h : w.ownsRow base e size v n xs) (hg : v.ownBlock = some g) {j : Nat} {u : Value} (hj : xs[j]? = some u) :
  w.cell? ⟨g, j, none⟩ = some u ∧ w.frozen? ⟨g, j, none⟩ = false := by
 obtain ⟨cur, hb⟩ := own_blk h hg
 have := h.cells hg j u hj
 refine ⟨?_, hb.free j⟩
 have e' : (⟨g, 0, none⟩ : Addr).add j = ⟨g, j, none⟩ := by
  unfold Addr.add
  split
  ·rename_i h; subst h; rfl
  ·simp
 rwa [e'] at this
end Go.Proofs.YtjfbeeogiejopaaGreatDoor

namespace Go.Proofs
open Go.Shelf
def Tryz.laysDecode_ren : Go.Shelf.Ren := ⟨fun | 197 => 153 | 260 => 167 | n => n, fun | 9 => 9 | 21 => 21 | 3 => 3 | 4 => 4 | 5 => 5 | 105 => 202 | 119 => 188 | 0 => 0 | 46 => 145 | 139 => 191 | 138 => 190 | n => n, fun | 3 => 0 | 4 => 1 | n => n⟩
theorem Tryz.laysDecode : Go.Proofs.Lays.n197 Tryz.prog Tryz.laysDecode_ren := {
 mixed := by kernel_rfl
 f197 := Tryz.func153.trans (congrArg some (by kernel_rfl))
 f260 := Tryz.func167.trans (congrArg some (by kernel_rfl))
 t0 := Tryz.underlying0
 a0 := Tryz.isAgg0
 z0 := Tryz.sizeOf0
 v0 := Tryz.zeroValue0
 t3 := Tryz.underlying3
 a3 := Tryz.isAgg3
 z3 := Tryz.sizeOf3
 v3 := Tryz.zeroValue3
 t4 := Tryz.underlying4
 a4 := Tryz.isAgg4
 z4 := Tryz.sizeOf4
 v4 := Tryz.zeroValue4
 t5 := Tryz.underlying5
 a5 := Tryz.isAgg5
 z5 := Tryz.sizeOf5
 v5 := Tryz.zeroValue5
 t9 := Tryz.underlying9
 a9 := Tryz.isAgg9
 z9 := Tryz.sizeOf9
 v9 := Tryz.zeroValue9
 t21 := Tryz.underlying21
 a21 := Tryz.isAgg21
 z21 := Tryz.sizeOf21
 v21 := Tryz.zeroValue21
 t46 := Tryz.underlying145
 a46 := Tryz.isAgg145
 z46 := Tryz.sizeOf145
 v46 := Tryz.zeroValue145
 t105 := Tryz.underlying202
 a105 := Tryz.isAgg202
 z105 := Tryz.sizeOf202
 v105 := Tryz.zeroValue202
 t119 := Tryz.underlying188
 a119 := Tryz.isAgg188
 z119 := Tryz.sizeOf188
 t138 := Tryz.underlying190
 a138 := Tryz.isAgg190
 z138 := Tryz.sizeOf190
 v138 := Tryz.zeroValue190
 t139 := Tryz.underlying191
 a139 := Tryz.isAgg191
 z139 := Tryz.sizeOf191
 v139 := Tryz.zeroValue191
 g3 := by kernel_rfl
 g4 := by kernel_rfl }
end Go.Proofs

set_option linter.unusedVariables false
set_option linter.unusedSimpArgs false
namespace Go.Proofs.YtjfbeeogiejopaaGreatDoor
open Go.RowKit
open Go.Lib hiding intOf
attribute [local go_sem ↓] Go.wp_at_zero Go.wp_at_succ
theorem decode_any (c : ByteArray) (w : World) (hT : UTabs w) :
  Calls Tryz.prog 153 #[.string c] w fun e w' => e = .returned (.tuple #[.int .i32 ((Lib.decodeGo c).1 : Nat), .int .i64 ((Lib.decodeGo c).2 : Nat)]) ∧ Only [] w w' := by
 have h : Calls Tryz.prog 153 #[.string c] w _ := Any.utf8_DecodeRuneInString Tryz.laysDecode c w hT
 exact h.mono fun e w' ⟨h1, h2⟩ => ⟨h1, Only.of_below h2 []⟩
theorem decode_none (w : World) (hT : UTabs w) :
  Calls Tryz.prog 153 #[.string ⟨#[]⟩] w fun e w' => e = .returned (.tuple #[.int .i32 65533, .int .i64 0]) ∧ Only [] w w' := decode_any ⟨#[]⟩ w hT
theorem decodeGo_some {c : ByteArray} (h : 0 < c.size) : Lib.decodeGo c = decodeL (by_ c) := by
 unfold Lib.decodeGo
 rw [if_neg (by omega), ← decL_at c 0, List.drop_zero]
set_option maxHeartbeats 4000000 in
theorem less_any (a b : ByteArray) (w : World) (ha : a.size ≤ 9223372036854775807) (hb : b.size ≤ 9223372036854775807) (hT : UTabs w) :
  Calls Tryz.prog 124 #[.string a, .string b] w fun e w' => e = .returned (.bool (lessL (runesL (by_ a)) (runesL (by_ b)))) ∧ Only [] w w' := by
 obtain ⟨R, hR⟩ : ∃ R, R = lessL (runesL (by_ a)) (runesL (by_ b)) := ⟨_, rfl⟩
 rw [← hR]
 have HD := Lib.hid (fun c (w' : World) (hO : Only [] w w') => decode_any c w' (hT.only hO))
 have HD0 := Lib.hid (fun (w' : World) (hO : Only [] w w') => decode_none w' (hT.only hO))
 have HR := Lib.hid hR
 clear hR hT
 go_enter Tryz.func124, Tryz.ntmps124
 go_wp2
 go_loopw [1] (fun bv wr => ∃ (pos : Nat) (c : ByteArray), bv = .string c ∧ pos ≤ a.size ∧ c.size ≤ 9223372036854775807 ∧ Hid (R = lessL (runesL ((by_ a).drop pos)) (runesL (by_ c))) ∧ Hid (wr.heap[w.heap.size]? = some (.stringIter a pos)) ∧ Hid (Only [] w wr)) (fun _ wr => a.size - wr.iterPos w.heap.size)
 case atStart => exact ⟨0, b, rfl, by omega, hb, Lib.hid (by rw [List.drop_zero]; exact HR.out), Lib.hid (World.iter_heap w a 0), Lib.hid ((Only.refl [] w).alloc _)⟩
 case round =>
  obtain ⟨pos, c, rfl, hpos, hc, HL, HIT, HO⟩ := hrel
  by_cases hp : pos < a.size
  ·have hnx : ∀ ty, (Instr.next (.pointer (some ⟨w.heap.size, 0, none⟩)) true ty).run Tryz.prog wr = _ := fun ty => run_next_any_at wr w.heap.size a pos ty HIT.out hp
   have hwd := width_le a pos hp
   have hip := iterPos_of HIT.out
   have HST := Lib.hid (runes_dec a pos hp)
   obtain ⟨⟨r, wd⟩, hdec⟩ : ∃ d, d = Utf8.decode a pos := ⟨_, rfl⟩
   rw [← hdec] at hnx hwd HST
   dsimp only at hwd
   have HIT2 := Lib.hid (iterAt_heap wr w.heap.size a pos (pos + wd) HIT.out)
   have HO2 := Lib.hid (only_iter HO.out a (pos + wd) (k := w.heap.size) (fun h => by omega))
   have hO2s := HO2.out.size
   have HD1 := Lib.hid (HD.out c _ HO2.out)
   obtain ⟨w3, hw3⟩ : ∃ w3, w3 = wr.iterAt w.heap.size a (pos + wd) := ⟨_, rfl⟩
   rw [← hw3] at hnx HIT2 HO2 hO2s HD1
   have hw0 : w.heap.size < w3.heap.size := (Array.getElem?_eq_some_iff.1 HIT2.out).1
   have hwd1 := hwd.1
   have hwd2 := hwd.2
   clear hdec hw3 hwd HIT HO
   by_cases hce : c = ⟨#[]⟩
   ·subst hce
    have HD1 := Lib.hid (HD0.out _ HO2.out)
    have HF : Hid (R = false) := Lib.hid (by rw [HL.out, HST.out]; rfl)
    clear HST HL hc
    go_wp2_with fail
    refine (HD1.out).mono ?_
    rintro e w4 ⟨rfl, hO4⟩
    have HO4 := Lib.hid (HO2.out.trans hO4)
    clear hO4
    go_wp2
    go_ret
    exact ⟨by first | (rw [HF.out]; done) | (rw [HF.out]; rfl), HO4.out⟩
   ·have hcs := size_ne hce
    have hne : by_ c ≠ [] := fun e => by
     have h0 : c.size = 0 := by rw [← by_length, e]; rfl
     omega
    have HST2 := Lib.hid (runes_step hne)
    have hk1 := dec_pos hne
    have hk2 : (decodeL (by_ c)).2 ≤ c.size := by rw [← by_length]; exact decodeL_le _ hne
    rw [decodeGo_some hcs] at HD1
    obtain ⟨⟨q, n⟩, hqn⟩ : ∃ d, d = decodeL (by_ c) := ⟨_, rfl⟩
    rw [← hqn] at HD1 HST2 hk1 hk2
    dsimp only at HD1 hk1 hk2
    have hn0 : ((n : Int) == 0) = false := by simp; omega
    clear hqn hne hce
    by_cases hrq : r = q
    ·subst hrq
     have hrr : ((r : Int) != (r : Int)) = false := by simp
     have hn1 : (0 : Int) ≤ (n : Int) := Int.natCast_nonneg _
     have hn2 : (n : Int) ≤ (c.size : Int) := by omega
     have HL2 : Hid (R = lessL (runesL ((by_ a).drop (pos + wd))) (runesL (by_ (c.extract n c.size)))) := Lib.hid (by
      rw [HL.out, HST.out, HST2.out, less_same, by_extract, ← by_length c, List.take_length])
     have hcs2 : (c.extract n c.size).size ≤ 9223372036854775807 := by
      rw [ByteArray.size_extract]
      omega
     have HCS2 := Lib.hid hcs2
     clear HL HST HST2 hcs2
     go_wp2_with fail
     refine (HD1.out).mono ?_
     rintro e w4 ⟨rfl, hO4⟩
     have HO4 := Lib.hid (HO2.out.trans hO4)
     have HIT4 := Lib.hid ((hO4.keeps w.heap.size hw0 (by simp)).trans HIT2.out)
     have hip2 := iterPos_of HIT4.out
     clear hO4
     go_wp2
     go_roundw
     case rel => exact ⟨pos + wd, _, rfl, by omega, HCS2.out, HL2, HIT4, HO4⟩
     case measure => rw [hip, hip2]; omega
    ·have hrr : ((r : Int) != (q : Int)) = true := by simp; omega
     have hn1 : (0 : Int) < (n : Int) := by omega
     have HF : Hid (R = decide (r < q)) := Lib.hid (by rw [HL.out, HST.out, HST2.out, less_unlike _ _ hrq])
     clear HL HST HST2
     go_wp2_with fail
     refine (HD1.out).mono ?_
     rintro e w4 ⟨rfl, hO4⟩
     have HO4 := Lib.hid (HO2.out.trans hO4)
     clear hO4
     go_wp2
     go_ret
     exact ⟨by first | (rw [HF.out]; done) | (rw [HF.out]; rfl), HO4.out⟩
  ·have hnx : ∀ ty, (Instr.next (.pointer (some ⟨w.heap.size, 0, none⟩)) true ty).run Tryz.prog wr = _ := fun ty => run_next_end_at wr w.heap.size a pos ty HIT.out hp
   have hl : (by_ a).drop pos = [] := List.drop_of_length_le (by rw [by_length]; omega)
   by_cases hce : c = ⟨#[]⟩
   ·subst hce
    have HF : Hid (R = false) := Lib.hid (by rw [HL.out, hl]; rfl)
    clear HL hl hc
    go_wp2
    go_ret
    exact ⟨by first | (rw [HF.out]; done) | (rw [HF.out]; rfl), HO.out⟩
   ·have hcs := size_ne hce
    have hne : by_ c ≠ [] := fun e => by
     have h0 : c.size = 0 := by rw [← by_length, e]; rfl
     omega
    have HF : Hid (R = true) := Lib.hid (by rw [HL.out, hl, runes_step hne]; rfl)
    have hcn : c.toList.isEmpty = false := by
     rw [Lib.toList_data]
     cases hb : c.data.toList with
     | nil => exact absurd hb hne
     | cons x t => rfl
    clear HL hl hc hne hcs hce
    go_wp2
    go_ret
    exact ⟨by first | (rw [HF.out]; done) | (rw [HF.out]; rfl), HO.out⟩
end Go.Proofs.YtjfbeeogiejopaaGreatDoor
