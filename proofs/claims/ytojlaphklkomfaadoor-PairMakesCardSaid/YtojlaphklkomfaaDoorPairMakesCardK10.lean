/- Parts. -/
import Derived.Test.YtojlaphklkomfaaDoorPairMakesCardK9
import Derived.Maps.OwnSet
import Derived.Shelf.Unicode.DecodeAny
set_option maxRecDepth 10000
set_option maxHeartbeats 16000000
set_option linter.unusedVariables false
set_option linter.unusedSimpArgs false
namespace Go.Proofs.YtojlaphklkomfaaDoor
open Go.RowKit
theorem own_set {w : World} {base : Nat} {e : TypeId} {size : Nat} {v : Value} {n : Nat} {xs : List Value} {g : Nat} (h : w.ownsRow base e size v n xs) (hg : v.ownBlock = some g) {j : Nat} (hj : j < xs.length) (u : Value) :
  (w.setCell ⟨g, j, none⟩ u).ownsRow base e size v n (xs.set j u) := by
 obtain ⟨h0, ⟨rfl, -⟩ | ⟨g', cap, cur, rfl, h1, h2, h3, h4, h5, h6⟩⟩ := h
 ·simp [Value.ownBlock] at hg
 ·obtain rfl : g' = g := by simpa [Value.ownBlock] using hg
  refine ⟨by simpa using h0, .inr ⟨g', cap, cur.setIfInBounds j u, rfl, h1, Blk.put h2 j u, h3, h4, by simpa using h5, ?_⟩⟩;rw [Array.toList_setIfInBounds, ← h6];have hjl : j < n * size := by omega
  apply List.ext_getElem?
  intro k
  by_cases hk : k < n * size
  ·rw [List.getElem?_take_of_lt hk, List.getElem?_set, List.getElem?_set, List.getElem?_take_of_lt hk];have : (List.take (n * size) cur.toList).length = n * size := by rw [h6]; exact h0
   by_cases hjk : j = k
   ·subst hjk;rw [if_pos rfl, if_pos rfl, if_pos (by have h9 := this; rw [List.length_take] at h9; omega), if_pos (by rw [this]; exact hk)]
   ·rw [if_neg hjk, if_neg hjk]
  ·rw [List.getElem?_eq_none (by rw [List.length_take]; omega), List.getElem?_eq_none (by rw [List.length_set, List.length_take]; omega)]
theorem own_cell {w : World} {base : Nat} {e : TypeId} {size : Nat} {v : Value} {n : Nat} {xs : List Value} {g : Nat} (h : w.ownsRow base e size v n xs) (hg : v.ownBlock = some g) {j : Nat} {u : Value} (hj : xs[j]? = some u) :
  w.cell? ⟨g, j, none⟩ = some u ∧ w.frozen? ⟨g, j, none⟩ = false := by
 obtain ⟨cur, hb⟩ := own_blk h hg;have := h.cells hg j u hj;refine ⟨?_, hb.free j⟩;have e' : (⟨g, 0, none⟩ : Addr).add j = ⟨g, j, none⟩ := by
  unfold Addr.add
  split
  ·rename_i h; subst h; rfl
  ·simp
 rwa [e'] at this
open Go.Lib hiding intOf
structure Pt where
 s : ByteArray
 f : Int
 ln : Int
 ks : List ByteArray
 ops : List Op4
structure Mk where
 ps : List Pt
 ss : List ByteArray
 ks : List ByteArray
def openI (ps : List Pt) (s : ByteArray) : Option Nat := ps.findIdx? fun p => decide (p.s = s) && decide (p.f = 0)
def withB (t : List ByteArray) (s : ByteArray) : List ByteArray := if 0 ≤ posB t s then t else sortB (t ++ [s])
def fateE (k : Int) : Int := if k = 4 then 1 else if k = 5 then 2 else 3
def beginE (m : Mk) (a : Ev6) : Int := if (withB m.ss a.s).length > 20 ∨ m.ps.length = 40 then 7 else 0
def beginM (m : Mk) (a : Ev6) : Mk := if (withB m.ss a.s).length > 20 ∨ m.ps.length = 40 then m else ⟨m.ps ++ [⟨a.s, 0, a.ln, [], []⟩], withB m.ss a.s, m.ks⟩
def addP (p : Pt) (a : Ev6) : Pt := { p with ks := p.ks ++ [a.y], ops := p.ops ++ [⟨decide (a.k = 3), 0, a.vk, a.vn⟩] }
def addE (m : Mk) (p : Pt) (a : Ev6) : Int := if p.ops.length = 20 ∨ (withB m.ks a.y).length > 40 then 7 else 0
def addM (m : Mk) (i : Nat) (p : Pt) (a : Ev6) : Mk := if p.ops.length = 20 ∨ (withB m.ks a.y).length > 40 then m else ⟨m.ps.set i (addP p a), m.ss, withB m.ks a.y⟩
def takeE (m : Mk) (a : Ev6) : Int :=
 if evOk a.k a.s a.y a.vk a.vn = false then 4 else
 match openI m.ps a.s with
 | some i => if a.k = 1 then 9 else if a.k = 2 ∨ a.k = 3 then (match m.ps[i]? with | some p => addE m p a | none => 0) else 0
 | none => if a.k = 1 then beginE m a else 10
def takeM (m : Mk) (a : Ev6) : Mk :=
 if evOk a.k a.s a.y a.vk a.vn = false then m else
 match openI m.ps a.s with
 | some i => if a.k = 1 then m else (match m.ps[i]? with | some p => if a.k = 2 ∨ a.k = 3 then addM m i p a else ⟨m.ps.set i { p with f := fateE a.k }, m.ss, m.ks⟩ | none => m)
 | none => if a.k = 1 then beginM m a else m
structure PtA where
 p : Pt
 A : Option Addr
 c : Nat
 Z : Option Addr
 d : Nat
def PtA.c5 (x : PtA) : List Value := [.string x.p.s, .int .i64 x.p.f, .int .i64 x.p.ln, .slice x.A x.p.ks.length x.c, .slice x.Z x.p.ops.length x.d]
def ptC (l : List PtA) : List Value := l.flatMap PtA.c5
theorem ptC_len (l : List PtA) : (ptC l).length = l.length * 5 := flat_len _ 5 (fun _ => rfl) l
theorem ptC_get (l : List PtA) (i : Nat) (x : PtA) (h : l[i]? = some x) : ∀ j, j < 5 → (ptC l)[i * 5 + j]? = x.c5[j]? := flat_get _ 5 (fun _ => rfl) l i x h
theorem ptC_append (l k : List PtA) : ptC (l ++ k) = ptC l ++ ptC k := by simp [ptC]
theorem flat_set {α : Type} (f : α → List Value) (n : Nat) (h : ∀ x, (f x).length = n) : ∀ (l : List α) (i j : Nat) (x y : α) (u : Value), l[i]? = some x → j < n → f y = (f x).set j u → (l.flatMap f).set (i * n + j) u = (l.set i y).flatMap f
 | [], i, j, x, y, u, hx, _, _ => by simp at hx
 | z :: l, 0, j, x, y, u, hx, hj, hy => by
  simp at hx;subst hx;rw [List.set_cons_zero, List.flatMap_cons, List.flatMap_cons, hy, Nat.zero_mul, Nat.zero_add, List.set_append_left _ _ (by rw [h]; exact hj)]
 | z :: l, i + 1, j, x, y, u, hx, hj, hy => by
  have := flat_set f n h l i j x y u (by simpa using hx) hj hy;rw [List.set_cons_succ, List.flatMap_cons, List.flatMap_cons, ← this, List.set_append_right _ _ (by rw [h, Nat.add_mul]; omega)]
  congr 2
  rw [h, Nat.add_mul];omega
theorem ptC_set (l : List PtA) (i j : Nat) (x y : PtA) (u : Value) (hx : l[i]? = some x) (hj : j < 5) (hy : y.c5 = x.c5.set j u) : (ptC l).set (i * 5 + j) u = ptC (l.set i y) := flat_set _ 5 (fun _ => rfl) l i j x y u hx hj hy
end Go.Proofs.YtojlaphklkomfaaDoor
namespace Go.Proofs
open Go.Shelf
def Tryd.laysDecode_ren : Go.Shelf.Ren := ⟨fun | 197 => 61 | 260 => 74 | n => n, fun | 9 => 9 | 21 => 21 | 3 => 3 | 4 => 4 | 5 => 5 | 105 => 98 | 119 => 101 | 0 => 0 | 46 => 96 | 139 => 104 | 138 => 103 | n => n, fun | 3 => 1 | 4 => 2 | n => n⟩
theorem Tryd.laysDecode : Go.Proofs.Lays.n197 Tryd.prog Tryd.laysDecode_ren := {
 mixed := by kernel_rfl
 f197 := Tryd.func61.trans (congrArg some (by kernel_rfl))
 f260 := Tryd.func74.trans (congrArg some (by kernel_rfl))
 t0 := Tryd.underlying0
 a0 := Tryd.isAgg0
 z0 := Tryd.sizeOf0
 v0 := Tryd.zeroValue0
 t3 := Tryd.underlying3
 a3 := Tryd.isAgg3
 z3 := Tryd.sizeOf3
 v3 := Tryd.zeroValue3
 t4 := Tryd.underlying4
 a4 := Tryd.isAgg4
 z4 := Tryd.sizeOf4
 v4 := Tryd.zeroValue4
 t5 := Tryd.underlying5
 a5 := Tryd.isAgg5
 z5 := Tryd.sizeOf5
 v5 := Tryd.zeroValue5
 t9 := Tryd.underlying9
 a9 := Tryd.isAgg9
 z9 := Tryd.sizeOf9
 v9 := Tryd.zeroValue9
 t21 := Tryd.underlying21
 a21 := Tryd.isAgg21
 z21 := Tryd.sizeOf21
 v21 := Tryd.zeroValue21
 t46 := Tryd.underlying96
 a46 := Tryd.isAgg96
 z46 := Tryd.sizeOf96
 v46 := Tryd.zeroValue96
 t105 := Tryd.underlying98
 a105 := Tryd.isAgg98
 z105 := Tryd.sizeOf98
 v105 := Tryd.zeroValue98
 t119 := Tryd.underlying101
 a119 := Tryd.isAgg101
 z119 := Tryd.sizeOf101
 t138 := Tryd.underlying103
 a138 := Tryd.isAgg103
 z138 := Tryd.sizeOf103
 v138 := Tryd.zeroValue103
 t139 := Tryd.underlying104
 a139 := Tryd.isAgg104
 z139 := Tryd.sizeOf104
 v139 := Tryd.zeroValue104
 g3 := by kernel_rfl
 g4 := by kernel_rfl }
end Go.Proofs
namespace Go.Proofs.YtojlaphklkomfaaDoor
open Go.RowKit
open Go.Lib hiding intOf
attribute [local go_sem ↓] Go.wp_at_zero Go.wp_at_succ
theorem decode_any (c : ByteArray) (w : World) (hT : UTabs w) :
  Calls Tryd.prog 61 #[.string c] w fun e w' => e = .returned (.tuple #[.int .i32 ((Lib.decodeGo c).1 : Nat), .int .i64 ((Lib.decodeGo c).2 : Nat)]) ∧ Only [] w w' := by
 have h : Calls Tryd.prog 61 #[.string c] w _ := Any.utf8_DecodeRuneInString Tryd.laysDecode c w hT;exact h.mono fun e w' ⟨h1, h2⟩ => ⟨h1, Only.of_below h2 []⟩
theorem decode_none (w : World) (hT : UTabs w) :
  Calls Tryd.prog 61 #[.string ⟨#[]⟩] w fun e w' => e = .returned (.tuple #[.int .i32 65533, .int .i64 0]) ∧ Only [] w w' := decode_any ⟨#[]⟩ w hT
theorem decodeGo_some {c : ByteArray} (h : 0 < c.size) : Lib.decodeGo c = decodeL (by_ c) := by
 unfold Lib.decodeGo;rw [if_neg (by omega), ← decL_at c 0, List.drop_zero]
theorem less_any (a b : ByteArray) (w : World) (ha : a.size ≤ 9223372036854775807) (hb : b.size ≤ 9223372036854775807) (hT : UTabs w) :
  Calls Tryd.prog 50 #[.string a, .string b] w fun e w' => e = .returned (.bool (lessL (runesL (by_ a)) (runesL (by_ b)))) ∧ Only [] w w' := by
 obtain ⟨R, hR⟩ : ∃ R, R = lessL (runesL (by_ a)) (runesL (by_ b)) := ⟨_, rfl⟩;rw [← hR];have HD := Hd (fun c (w' : World) (hO : Only [] w w') => decode_any c w' (hT.only hO));have HD0 := Hd (fun (w' : World) (hO : Only [] w w') => decode_none w' (hT.only hO));have HR := Hd hR;clear hR hT;go_enter Tryd.func50, Tryd.ntmps50;go_wp2
 go_loopw [1] (fun bv wr => ∃ (pos : Nat) (c : ByteArray), bv = .string c ∧ pos ≤ a.size ∧ c.size ≤ 9223372036854775807 ∧ Hid (R = lessL (runesL ((by_ a).drop pos)) (runesL (by_ c))) ∧ Hid (wr.heap[w.heap.size]? = some (.stringIter a pos)) ∧ Hid (Only [] w wr)) (fun _ wr => a.size - wr.iterPos w.heap.size)
 case atStart => exact ⟨0, b, rfl, by omega, hb, Hd (by rw [List.drop_zero]; exact HR.out), Hd (World.iter_heap w a 0), Hd ((Only.refl [] w).alloc _)⟩
 case round =>
  obtain ⟨pos, c, rfl, hpos, hc, HL, HIT, HO⟩ := hrel
  by_cases hp : pos < a.size
  ·have hnx : ∀ ty, (Instr.next (.pointer (some ⟨w.heap.size, 0, none⟩)) true ty).run Tryd.prog wr = _ := fun ty => run_next_any_at wr w.heap.size a pos ty HIT.out hp;have hwd := width_le a pos hp;have hip := iterPos_of HIT.out;have HST := Hd (runes_dec a pos hp);obtain ⟨⟨r, wd⟩, hdec⟩ : ∃ d, d = Utf8.decode a pos := ⟨_, rfl⟩;rw [← hdec] at hnx hwd HST;dsimp only at hwd;have HIT2 := Hd (iterAt_heap wr w.heap.size a pos (pos + wd) HIT.out);have HO2 := Hd (only_iter HO.out a (pos + wd) (k := w.heap.size) (fun h => by omega));have hO2s := HO2.out.size;have HD1 := Hd (HD.out c _ HO2.out);obtain ⟨w3, hw3⟩ : ∃ w3, w3 = wr.iterAt w.heap.size a (pos + wd) := ⟨_, rfl⟩;rw [← hw3] at hnx HIT2 HO2 hO2s HD1;have hw0 : w.heap.size < w3.heap.size := (Array.getElem?_eq_some_iff.1 HIT2.out).1;have hwd1 := hwd.1;have hwd2 := hwd.2;clear hdec hw3 hwd HIT HO
   by_cases hce : c = ⟨#[]⟩
   ·subst hce;have HD1 := Hd (HD0.out _ HO2.out);have HF : Hid (R = false) := Hd (by rw [HL.out, HST.out]; rfl);clear HST HL hc;go_wp2_with fail
    refine (HD1.out).mono ?_;rintro e w4 ⟨rfl, hO4⟩;have HO4 := Hd (HO2.out.trans hO4);clear hO4;go_wp2
    go_ret
    exact ⟨by first | (rw [HF.out]; done) | (rw [HF.out]; rfl), HO4.out⟩
   ·have hcs := size_ne hce;have hne : by_ c ≠ [] := fun e => by
     have h0 : c.size = 0 := by rw [← by_length, e]; rfl
     omega
    have HST2 := Hd (runes_step hne);have hk1 := dec_pos hne;have hk2 : (decodeL (by_ c)).2 ≤ c.size := by rw [← by_length]; exact decodeL_le _ hne
    rw [decodeGo_some hcs] at HD1;obtain ⟨⟨q, n⟩, hqn⟩ : ∃ d, d = decodeL (by_ c) := ⟨_, rfl⟩;rw [← hqn] at HD1 HST2 hk1 hk2;dsimp only at HD1 hk1 hk2;have hn0 : ((n : Int) == 0) = false := by simp; omega
    clear hqn hne hce
    by_cases hrq : r = q
    ·subst hrq;have hrr : ((r : Int) != (r : Int)) = false := by simp
     have hn1 : (0 : Int) ≤ (n : Int) := Int.natCast_nonneg _;have hn2 : (n : Int) ≤ (c.size : Int) := by omega
     have HL2 : Hid (R = lessL (runesL ((by_ a).drop (pos + wd))) (runesL (by_ (c.extract n c.size)))) := Hd (by
      rw [HL.out, HST.out, HST2.out, less_same, by_extract, ← by_length c, List.take_length])
     have hcs2 : (c.extract n c.size).size ≤ 9223372036854775807 := by
      rw [ByteArray.size_extract];omega
     have HCS2 := Hd hcs2;clear HL HST HST2 hcs2;go_wp2_with fail
     refine (HD1.out).mono ?_;rintro e w4 ⟨rfl, hO4⟩;have HO4 := Hd (HO2.out.trans hO4);have HIT4 := Hd ((hO4.keeps w.heap.size hw0 (by simp)).trans HIT2.out);have hip2 := iterPos_of HIT4.out;clear hO4;go_wp2
     go_roundw
     case rel => exact ⟨pos + wd, _, rfl, by omega, HCS2.out, HL2, HIT4, HO4⟩
     case measure => rw [hip, hip2]; omega
    ·have hrr : ((r : Int) != (q : Int)) = true := by simp; omega
     have hn1 : (0 : Int) < (n : Int) := by omega
     have HF : Hid (R = decide (r < q)) := Hd (by rw [HL.out, HST.out, HST2.out, less_unlike _ _ hrq]);clear HL HST HST2;go_wp2_with fail
     refine (HD1.out).mono ?_;rintro e w4 ⟨rfl, hO4⟩;have HO4 := Hd (HO2.out.trans hO4);clear hO4;go_wp2
     go_ret
     exact ⟨by first | (rw [HF.out]; done) | (rw [HF.out]; rfl), HO4.out⟩
  ·have hnx : ∀ ty, (Instr.next (.pointer (some ⟨w.heap.size, 0, none⟩)) true ty).run Tryd.prog wr = _ := fun ty => run_next_end_at wr w.heap.size a pos ty HIT.out hp;have hl : (by_ a).drop pos = [] := List.drop_of_length_le (by rw [by_length]; omega)
   by_cases hce : c = ⟨#[]⟩
   ·subst hce;have HF : Hid (R = false) := Hd (by rw [HL.out, hl]; rfl);clear HL hl hc;go_wp2
    go_ret
    exact ⟨by first | (rw [HF.out]; done) | (rw [HF.out]; rfl), HO.out⟩
   ·have hcs := size_ne hce;have hne : by_ c ≠ [] := fun e => by
     have h0 : c.size = 0 := by rw [← by_length, e]; rfl
     omega
    have HF : Hid (R = true) := Hd (by rw [HL.out, hl, runes_step hne]; rfl);have hcn : c.toList.isEmpty = false := by
     rw [Lib.toList_data]
     cases hb : c.data.toList with
     | nil => exact absurd hb hne
     | cons x t => rfl
    clear HL hl hc hne hcs hce;go_wp2
    go_ret
    exact ⟨by first | (rw [HF.out]; done) | (rw [HF.out]; rfl), HO.out⟩
end Go.Proofs.YtojlaphklkomfaaDoor
