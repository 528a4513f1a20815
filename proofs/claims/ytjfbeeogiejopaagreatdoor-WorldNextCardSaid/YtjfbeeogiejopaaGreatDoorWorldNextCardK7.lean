/- Parts. -/
import Derived.Test.YtjfbeeogiejopaaGreatDoorWorldNextCardK6
import Derived.Lib.SlicesS
import Derived.Maps.OwnSet
import Derived.Shelf.Unicode.DecodeAny
import Derived.Sort.Grow
set_option maxRecDepth 10000
set_option maxHeartbeats 16000000
set_option linter.unusedVariables false
set_option linter.unusedSimpArgs false
namespace Go.Proofs.YtjfbeeogiejopaaGreatDoor
open Go.Lib
def riseB : List ByteArray → Bool
 | [] => true
 | [_] => true
 | a :: b :: l => lessB a b && riseB (b :: l)
def tabB (t : List ByteArray) : Bool := t.all isName && riseB t
theorem riseB_iff : ∀ t : List ByteArray, riseB t = true ↔ ∀ (j : Nat) x y, t[j]? = some x → t[j + 1]? = some y → lessB x y = true
 | [] => ⟨fun _ j x y h => (by cases h), fun _ => rfl⟩
 | [a] => ⟨fun _ j x y _ h => (by simp at h), fun _ => rfl⟩
 | a :: b :: l => by
  rw [riseB, Bool.and_eq_true, riseB_iff (b :: l)]
  constructor
  ·rintro ⟨h1, h2⟩ j x y hx hy
   cases j with
   | zero =>
    obtain rfl := Option.some.inj hx;obtain rfl := Option.some.inj hy;exact h1
   | succ j => exact h2 j x y hx hy
  ·intro h;exact ⟨h 0 a b rfl rfl, fun j x y hx hy => h (j + 1) x y hx hy⟩
theorem tab_iff (t : List ByteArray) : tabB t = true ↔ (∀ (j : Nat) x, t[j]? = some x → isName x = true) ∧ ∀ (j : Nat) x y, t[j]? = some x → t[j + 1]? = some y → lessB x y = true := by
 unfold tabB;rw [Bool.and_eq_true, riseB_iff, List.all_eq_true];refine ⟨fun ⟨h1, h2⟩ => ⟨fun j x hx => h1 x (List.mem_of_getElem? hx), h2⟩, fun ⟨h1, h2⟩ => ⟨fun x hx => ?_, h2⟩⟩;obtain ⟨j, hj⟩ := List.mem_iff_getElem?.1 hx;exact h1 j x hj
theorem tab_bad1 {t : List ByteArray} {j : Nat} {x : ByteArray} (h : t[j]? = some x) (hn : isName x = false) : tabB t = false := by
 cases ht : tabB t with
 | false => rfl
 | true =>
  have := ((tab_iff t).1 ht).1 j x h;rw [hn] at this
  cases this
theorem tab_bad2 {t : List ByteArray} {j : Nat} {x y : ByteArray} (h : t[j]? = some x) (h' : t[j + 1]? = some y) (hn : lessB x y = false) : tabB t = false := by
 cases ht : tabB t with
 | false => rfl
 | true =>
  have := ((tab_iff t).1 ht).2 j x y h h';rw [hn] at this
  cases this
def posB (t : List ByteArray) (s : ByteArray) : Int := if tabB t = true then idxOfS t s else -1
theorem idx_ge (t : List ByteArray) (s : ByteArray) : -1 ≤ idxOfS t s ∧ idxOfS t s < t.length := by
 by_cases h : s ∈ t
 ·obtain ⟨k, hk, hmin⟩ : ∃ k : Nat, t[k]? = some s ∧ ∀ j, j < k → t[j]? ≠ some s := by
   obtain ⟨k, hk⟩ := List.mem_iff_getElem?.1 h;refine Nat.strongRecOn (motive := fun k : Nat => t[k]? = some s → ∃ k : Nat, t[k]? = some s ∧ ∀ j, j < k → t[j]? ≠ some s) k (fun k ih hk => ?_) hk
   by_cases hj : ∃ j, j < k ∧ t[j]? = some s
   ·obtain ⟨j, hj1, hj2⟩ := hj;exact ih j hj1 hj2
   ·exact ⟨k, hk, fun j hj1 hj2 => hj ⟨j, hj1, hj2⟩⟩
  have hl := (List.getElem?_eq_some_iff.1 hk).1;have := idxOfS_hit t t.length k s hl (Nat.le_refl _) (by rw [List.getD_eq_getElem?_getD, hk]; rfl) (fun j hj e => hmin j hj (by
   rw [List.getD_eq_getElem?_getD, List.getElem?_eq_getElem (by omega)] at e;rw [List.getElem?_eq_getElem (by omega)];exact congrArg some e))
  rw [List.take_length] at this;rw [this];omega
 ·have := idxOfS_miss t t.length s (fun j hj e => h (by
   rw [List.getD_eq_getElem?_getD, List.getElem?_eq_getElem hj] at e;have e2 : t[j] = s := e;rw [← e2];exact List.getElem_mem hj))
  rw [List.take_length] at this;rw [this];omega
end Go.Proofs.YtjfbeeogiejopaaGreatDoor
namespace Go.Proofs.YtjfbeeogiejopaaGreatDoor
open Go.RowKit
open Go.Lib hiding intOf
structure Pt where
 s : ByteArray
 f : Int
 ln : Int
 ks : List ByteArray
 ops : List Op4
structure Mk where
 ps : List Pt
 ss : List ByteArray
 ks : List ByteArray
def openI (ps : List Pt) (s : ByteArray) : Option Nat := ps.findIdx? fun p => decide (p.s = s) && decide (p.f = 0)
def withB (t : List ByteArray) (s : ByteArray) : List ByteArray := if 0 ≤ posB t s then t else sortB (t ++ [s])
def fateE (k : Int) : Int := if k = 4 then 1 else if k = 5 then 2 else 3
def beginE (m : Mk) (a : Ev6) : Int := if (withB m.ss a.s).length > 20 ∨ m.ps.length = 40 then 7 else 0
def beginM (m : Mk) (a : Ev6) : Mk := if (withB m.ss a.s).length > 20 ∨ m.ps.length = 40 then m else ⟨m.ps ++ [⟨a.s, 0, a.ln, [], []⟩], withB m.ss a.s, m.ks⟩
def addP (p : Pt) (a : Ev6) : Pt := { p with ks := p.ks ++ [a.y], ops := p.ops ++ [⟨decide (a.k = 3), 0, a.vk, a.vn⟩] }
def addE (m : Mk) (p : Pt) (a : Ev6) : Int := if p.ops.length = 20 ∨ (withB m.ks a.y).length > 40 then 7 else 0
def addM (m : Mk) (i : Nat) (p : Pt) (a : Ev6) : Mk := if p.ops.length = 20 ∨ (withB m.ks a.y).length > 40 then m else ⟨m.ps.set i (addP p a), m.ss, withB m.ks a.y⟩
def takeE (m : Mk) (a : Ev6) : Int :=
 if evOk a.k a.s a.y a.vk a.vn = false then 4 else
 match openI m.ps a.s with
 | some i => if a.k = 1 then 9 else if a.k = 2 ∨ a.k = 3 then (match m.ps[i]? with | some p => addE m p a | none => 0) else 0
 | none => if a.k = 1 then beginE m a else 10
def takeM (m : Mk) (a : Ev6) : Mk :=
 if evOk a.k a.s a.y a.vk a.vn = false then m else
 match openI m.ps a.s with
 | some i => if a.k = 1 then m else (match m.ps[i]? with | some p => if a.k = 2 ∨ a.k = 3 then addM m i p a else ⟨m.ps.set i { p with f := fateE a.k }, m.ss, m.ks⟩ | none => m)
 | none => if a.k = 1 then beginM m a else m
structure PtA where
 p : Pt
 A : Option Addr
 c : Nat
 Z : Option Addr
 d : Nat
def PtA.c5 (x : PtA) : List Value := [.string x.p.s, .int .i64 x.p.f, .int .i64 x.p.ln, .slice x.A x.p.ks.length x.c, .slice x.Z x.p.ops.length x.d]
def ptC (l : List PtA) : List Value := l.flatMap PtA.c5
theorem ptC_len (l : List PtA) : (ptC l).length = l.length * 5 := flat_len _ 5 (fun _ => rfl) l
theorem ptC_get (l : List PtA) (i : Nat) (x : PtA) (h : l[i]? = some x) : ∀ j, j < 5 → (ptC l)[i * 5 + j]? = x.c5[j]? := flat_get _ 5 (fun _ => rfl) l i x h
theorem ptC_append (l k : List PtA) : ptC (l ++ k) = ptC l ++ ptC k := by simp [ptC]
theorem flat_set {α : Type} (f : α → List Value) (n : Nat) (h : ∀ x, (f x).length = n) : ∀ (l : List α) (i j : Nat) (x y : α) (u : Value), l[i]? = some x → j < n → f y = (f x).set j u → (l.flatMap f).set (i * n + j) u = (l.set i y).flatMap f
 | [], i, j, x, y, u, hx, _, _ => by simp at hx
 | z :: l, 0, j, x, y, u, hx, hj, hy => by
  simp at hx;subst hx;rw [List.set_cons_zero, List.flatMap_cons, List.flatMap_cons, hy, Nat.zero_mul, Nat.zero_add, List.set_append_left _ _ (by rw [h]; exact hj)]
 | z :: l, i + 1, j, x, y, u, hx, hj, hy => by
  have := flat_set f n h l i j x y u (by simpa using hx) hj hy;rw [List.set_cons_succ, List.flatMap_cons, List.flatMap_cons, ← this, List.set_append_right _ _ (by rw [h, Nat.add_mul]; omega)]
  congr 2
  rw [h, Nat.add_mul];omega
theorem ptC_set (l : List PtA) (i j : Nat) (x y : PtA) (u : Value) (hx : l[i]? = some x) (hj : j < 5) (hy : y.c5 = x.c5.set j u) : (ptC l).set (i * 5 + j) u = ptC (l.set i y) := flat_set _ 5 (fun _ => rfl) l i j x y u hx hj hy
theorem own_set {w : World} {base : Nat} {e : TypeId} {size : Nat} {v : Value} {n : Nat} {xs : List Value} {g : Nat} (h : w.ownsRow base e size v n xs) (hg : v.ownBlock = some g) {j : Nat} (hj : j < xs.length) (u : Value) :
  (w.setCell ⟨g, j, none⟩ u).ownsRow base e size v n (xs.set j u) := by
 obtain ⟨h0, ⟨rfl, -⟩ | ⟨g', cap, cur, rfl, h1, h2, h3, h4, h5, h6⟩⟩ := h
 ·simp [Value.ownBlock] at hg
 ·obtain rfl : g' = g := by simpa [Value.ownBlock] using hg
  refine ⟨by simpa using h0, .inr ⟨g', cap, cur.setIfInBounds j u, rfl, h1, Blk.put h2 j u, h3, h4, by simpa using h5, ?_⟩⟩;rw [Array.toList_setIfInBounds, ← h6];have hjl : j < n * size := by omega
  apply List.ext_getElem?
  intro k
  by_cases hk : k < n * size
  ·rw [List.getElem?_take_of_lt hk, List.getElem?_set, List.getElem?_set, List.getElem?_take_of_lt hk];have : (List.take (n * size) cur.toList).length = n * size := by rw [h6]; exact h0
   by_cases hjk : j = k
   ·subst hjk;rw [if_pos rfl, if_pos rfl, if_pos (by have h9 := this; rw [List.length_take] at h9; omega), if_pos (by rw [this]; exact hk)]
   ·rw [if_neg hjk, if_neg hjk]
  ·rw [List.getElem?_eq_none (by rw [List.length_take]; omega), List.getElem?_eq_none (by rw [List.length_set, List.length_take]; omega)]
theorem own_cell {w : World} {base : Nat} {e : TypeId} {size : Nat} {v : Value} {n : Nat} {xs : List Value} {g : Nat} (h : w.ownsRow base e size v n xs) (hg : v.ownBlock = some g) {j : Nat} {u : Value} (hj : xs[j]? = some u) :
  w.cell? ⟨g, j, none⟩ = some u ∧ w.frozen? ⟨g, j, none⟩ = false := by
 obtain ⟨cur, hb⟩ := own_blk h hg;have := h.cells hg j u hj;refine ⟨?_, hb.free j⟩;have e' : (⟨g, 0, none⟩ : Addr).add j = ⟨g, j, none⟩ := by
  unfold Addr.add
  split
  ·rename_i h; subst h; rfl
  ·simp
 rwa [e'] at this
end Go.Proofs.YtjfbeeogiejopaaGreatDoor
namespace Go.Proofs
open Go.Shelf
def Tryz.laysDecode_ren : Go.Shelf.Ren := ⟨fun | 197 => 153 | 260 => 167 | n => n, fun | 9 => 9 | 21 => 21 | 3 => 3 | 4 => 4 | 5 => 5 | 105 => 202 | 119 => 188 | 0 => 0 | 46 => 145 | 139 => 191 | 138 => 190 | n => n, fun | 3 => 0 | 4 => 1 | n => n⟩
theorem Tryz.laysDecode : Go.Proofs.Lays.n197 Tryz.prog Tryz.laysDecode_ren := {
 mixed := by kernel_rfl
 f197 := Tryz.func153.trans (congrArg some (by kernel_rfl))
 f260 := Tryz.func167.trans (congrArg some (by kernel_rfl))
 t0 := Tryz.underlying0
 a0 := Tryz.isAgg0
 z0 := Tryz.sizeOf0
 v0 := Tryz.zeroValue0
 t3 := Tryz.underlying3
 a3 := Tryz.isAgg3
 z3 := Tryz.sizeOf3
 v3 := Tryz.zeroValue3
 t4 := Tryz.underlying4
 a4 := Tryz.isAgg4
 z4 := Tryz.sizeOf4
 v4 := Tryz.zeroValue4
 t5 := Tryz.underlying5
 a5 := Tryz.isAgg5
 z5 := Tryz.sizeOf5
 v5 := Tryz.zeroValue5
 t9 := Tryz.underlying9
 a9 := Tryz.isAgg9
 z9 := Tryz.sizeOf9
 v9 := Tryz.zeroValue9
 t21 := Tryz.underlying21
 a21 := Tryz.isAgg21
 z21 := Tryz.sizeOf21
 v21 := Tryz.zeroValue21
 t46 := Tryz.underlying145
 a46 := Tryz.isAgg145
 z46 := Tryz.sizeOf145
 v46 := Tryz.zeroValue145
 t105 := Tryz.underlying202
 a105 := Tryz.isAgg202
 z105 := Tryz.sizeOf202
 v105 := Tryz.zeroValue202
 t119 := Tryz.underlying188
 a119 := Tryz.isAgg188
 z119 := Tryz.sizeOf188
 t138 := Tryz.underlying190
 a138 := Tryz.isAgg190
 z138 := Tryz.sizeOf190
 v138 := Tryz.zeroValue190
 t139 := Tryz.underlying191
 a139 := Tryz.isAgg191
 z139 := Tryz.sizeOf191
 v139 := Tryz.zeroValue191
 g3 := by kernel_rfl
 g4 := by kernel_rfl }
end Go.Proofs
namespace Go.Proofs.YtjfbeeogiejopaaGreatDoor
open Go.RowKit
open Go.Lib hiding intOf
attribute [local go_sem ↓] Go.wp_at_zero Go.wp_at_succ
theorem decode_any (c : ByteArray) (w : World) (hT : UTabs w) :
  Calls Tryz.prog 153 #[.string c] w fun e w' => e = .returned (.tuple #[.int .i32 ((Lib.decodeGo c).1 : Nat), .int .i64 ((Lib.decodeGo c).2 : Nat)]) ∧ Only [] w w' := by
 have h : Calls Tryz.prog 153 #[.string c] w _ := Any.utf8_DecodeRuneInString Tryz.laysDecode c w hT;exact h.mono fun e w' ⟨h1, h2⟩ => ⟨h1, Only.of_below h2 []⟩
theorem decode_none (w : World) (hT : UTabs w) :
  Calls Tryz.prog 153 #[.string ⟨#[]⟩] w fun e w' => e = .returned (.tuple #[.int .i32 65533, .int .i64 0]) ∧ Only [] w w' := decode_any ⟨#[]⟩ w hT
theorem decodeGo_some {c : ByteArray} (h : 0 < c.size) : Lib.decodeGo c = decodeL (by_ c) := by
 unfold Lib.decodeGo;rw [if_neg (by omega), ← decL_at c 0, List.drop_zero]
theorem less_any (a b : ByteArray) (w : World) (ha : a.size ≤ 9223372036854775807) (hb : b.size ≤ 9223372036854775807) (hT : UTabs w) :
  Calls Tryz.prog 124 #[.string a, .string b] w fun e w' => e = .returned (.bool (lessL (runesL (by_ a)) (runesL (by_ b)))) ∧ Only [] w w' := by
 obtain ⟨R, hR⟩ : ∃ R, R = lessL (runesL (by_ a)) (runesL (by_ b)) := ⟨_, rfl⟩;rw [← hR];have HD := Hd (fun c (w' : World) (hO : Only [] w w') => decode_any c w' (hT.only hO));have HD0 := Hd (fun (w' : World) (hO : Only [] w w') => decode_none w' (hT.only hO));have HR := Hd hR;clear hR hT;go_enter Tryz.func124, Tryz.ntmps124;go_wp2
 go_loopw [1] (fun bv wr => ∃ (pos : Nat) (c : ByteArray), bv = .string c ∧ pos ≤ a.size ∧ c.size ≤ 9223372036854775807 ∧ Hid (R = lessL (runesL ((by_ a).drop pos)) (runesL (by_ c))) ∧ Hid (wr.heap[w.heap.size]? = some (.stringIter a pos)) ∧ Hid (Only [] w wr)) (fun _ wr => a.size - wr.iterPos w.heap.size)
 case atStart => exact ⟨0, b, rfl, by omega, hb, Hd (by rw [List.drop_zero]; exact HR.out), Hd (World.iter_heap w a 0), Hd ((Only.refl [] w).alloc _)⟩
 case round =>
  obtain ⟨pos, c, rfl, hpos, hc, HL, HIT, HO⟩ := hrel
  by_cases hp : pos < a.size
  ·have hnx : ∀ ty, (Instr.next (.pointer (some ⟨w.heap.size, 0, none⟩)) true ty).run Tryz.prog wr = _ := fun ty => run_next_any_at wr w.heap.size a pos ty HIT.out hp;have hwd := width_le a pos hp;have hip := iterPos_of HIT.out;have HST := Hd (runes_dec a pos hp);obtain ⟨⟨r, wd⟩, hdec⟩ : ∃ d, d = Utf8.decode a pos := ⟨_, rfl⟩;rw [← hdec] at hnx hwd HST;dsimp only at hwd;have HIT2 := Hd (iterAt_heap wr w.heap.size a pos (pos + wd) HIT.out);have HO2 := Hd (only_iter HO.out a (pos + wd) (k := w.heap.size) (fun h => by omega));have hO2s := HO2.out.size;have HD1 := Hd (HD.out c _ HO2.out);obtain ⟨w3, hw3⟩ : ∃ w3, w3 = wr.iterAt w.heap.size a (pos + wd) := ⟨_, rfl⟩;rw [← hw3] at hnx HIT2 HO2 hO2s HD1;have hw0 : w.heap.size < w3.heap.size := (Array.getElem?_eq_some_iff.1 HIT2.out).1;have hwd1 := hwd.1;have hwd2 := hwd.2;clear hdec hw3 hwd HIT HO
   by_cases hce : c = ⟨#[]⟩
   ·subst hce;have HD1 := Hd (HD0.out _ HO2.out);have HF : Hid (R = false) := Hd (by rw [HL.out, HST.out]; rfl);clear HST HL hc;go_wp2_with fail
    refine (HD1.out).mono ?_;rintro e w4 ⟨rfl, hO4⟩;have HO4 := Hd (HO2.out.trans hO4);clear hO4;go_wp2
    go_ret
    exact ⟨by first | (rw [HF.out]; done) | (rw [HF.out]; rfl), HO4.out⟩
   ·have hcs := size_ne hce;have hne : by_ c ≠ [] := fun e => by
     have h0 : c.size = 0 := by rw [← by_length, e]; rfl
     omega
    have HST2 := Hd (runes_step hne);have hk1 := dec_pos hne;have hk2 : (decodeL (by_ c)).2 ≤ c.size := by rw [← by_length]; exact decodeL_le _ hne
    rw [decodeGo_some hcs] at HD1;obtain ⟨⟨q, n⟩, hqn⟩ : ∃ d, d = decodeL (by_ c) := ⟨_, rfl⟩;rw [← hqn] at HD1 HST2 hk1 hk2;dsimp only at HD1 hk1 hk2;have hn0 : ((n : Int) == 0) = false := by simp; omega
    clear hqn hne hce
    by_cases hrq : r = q
    ·subst hrq;have hrr : ((r : Int) != (r : Int)) = false := by simp
     have hn1 : (0 : Int) ≤ (n : Int) := Int.natCast_nonneg _;have hn2 : (n : Int) ≤ (c.size : Int) := by omega
     have HL2 : Hid (R = lessL (runesL ((by_ a).drop (pos + wd))) (runesL (by_ (c.extract n c.size)))) := Hd (by
      rw [HL.out, HST.out, HST2.out, less_same, by_extract, ← by_length c, List.take_length])
     have hcs2 : (c.extract n c.size).size ≤ 9223372036854775807 := by
      rw [ByteArray.size_extract];omega
     have HCS2 := Hd hcs2;clear HL HST HST2 hcs2;go_wp2_with fail
     refine (HD1.out).mono ?_;rintro e w4 ⟨rfl, hO4⟩;have HO4 := Hd (HO2.out.trans hO4);have HIT4 := Hd ((hO4.keeps w.heap.size hw0 (by simp)).trans HIT2.out);have hip2 := iterPos_of HIT4.out;clear hO4;go_wp2
     go_roundw
     case rel => exact ⟨pos + wd, _, rfl, by omega, HCS2.out, HL2, HIT4, HO4⟩
     case measure => rw [hip, hip2]; omega
    ·have hrr : ((r : Int) != (q : Int)) = true := by simp; omega
     have hn1 : (0 : Int) < (n : Int) := by omega
     have HF : Hid (R = decide (r < q)) := Hd (by rw [HL.out, HST.out, HST2.out, less_unlike _ _ hrq]);clear HL HST HST2;go_wp2_with fail
     refine (HD1.out).mono ?_;rintro e w4 ⟨rfl, hO4⟩;have HO4 := Hd (HO2.out.trans hO4);clear hO4;go_wp2
     go_ret
     exact ⟨by first | (rw [HF.out]; done) | (rw [HF.out]; rfl), HO4.out⟩
  ·have hnx : ∀ ty, (Instr.next (.pointer (some ⟨w.heap.size, 0, none⟩)) true ty).run Tryz.prog wr = _ := fun ty => run_next_end_at wr w.heap.size a pos ty HIT.out hp;have hl : (by_ a).drop pos = [] := List.drop_of_length_le (by rw [by_length]; omega)
   by_cases hce : c = ⟨#[]⟩
   ·subst hce;have HF : Hid (R = false) := Hd (by rw [HL.out, hl]; rfl);clear HL hl hc;go_wp2
    go_ret
    exact ⟨by first | (rw [HF.out]; done) | (rw [HF.out]; rfl), HO.out⟩
   ·have hcs := size_ne hce;have hne : by_ c ≠ [] := fun e => by
     have h0 : c.size = 0 := by rw [← by_length, e]; rfl
     omega
    have HF : Hid (R = true) := Hd (by rw [HL.out, hl, runes_step hne]; rfl);have hcn : c.toList.isEmpty = false := by
     rw [Lib.toList_data]
     cases hb : c.data.toList with
     | nil => exact absurd hb hne
     | cons x t => rfl
    clear HL hl hc hne hcs hce;go_wp2
    go_ret
    exact ⟨by first | (rw [HF.out]; done) | (rw [HF.out]; rfl), HO.out⟩
structure Ex (w w' : World) : Prop where
 only : Only [] w w'
 drawn : w.drawn ≤ w'.drawn
theorem Ex.refl (w : World) : Ex w w := ⟨Only.refl [] w, Nat.le_refl _⟩
theorem Ex.trans {w w' w'' : World} (h : Ex w w') (k : Ex w' w'') : Ex w w'' := ⟨h.only.trans k.only, Nat.le_trans h.drawn k.drawn⟩
theorem Ex.alloc {w w' : World} (h : Ex w w') (o : Obj) : Ex w (w'.alloc o) := ⟨h.only.alloc o, h.drawn⟩
theorem Ex.iter {w w' : World} (h : Ex w w') {k : Nat} (s : ByteArray) (pos : Nat) (hk : k < w.heap.size → k ∈ ([] : List Nat)) : Ex w (w'.iterAt k s pos) := by
 refine ⟨only_iter h.only s pos hk, Nat.le_trans h.drawn (Nat.le_of_eq ?_)⟩;unfold World.iterAt
 rfl
theorem Ex.grown {w w' : World} (h : Ex w w') : ∃ q os, w' = Go.Sort.grow (w.drewN q) os := by
 have hb : Below w.heap.size w w' := h.only.below (Nat.le_refl _) (by simp);refine ⟨w'.drawn - w.drawn, w'.heap.extract w.heap.size w'.heap.size, ?_⟩;have hd := h.drawn;obtain ⟨heap', tape', drawn', os', output'⟩ := w';have e1 : os' = w.os := hb.os;have e2 : tape' = w.tape := hb.tape;have e3 : output' = w.output := hb.output;have hs : w.heap.size ≤ heap'.size := hb.size;have hk' : ∀ k, k < w.heap.size → heap'[k]? = w.heap[k]? := hb.block;have hd' : w.drawn ≤ drawn' := hd;subst e1 e2 e3;have eh : heap' = w.heap ++ heap'.extract w.heap.size heap'.size := by
  apply Array.ext_getElem?
  intro k
  by_cases hk : k < w.heap.size
  ·rw [Array.getElem?_append_left hk]; exact hk' k hk
  ·rw [Array.getElem?_append_right (by omega), Array.getElem?_extract]
   by_cases hk2 : k < heap'.size
   ·rw [if_pos (by omega)]; congr 1; omega
   ·rw [if_neg (by omega), Array.getElem?_eq_none (by omega)]
 have ed : w.drawn + (drawn' - w.drawn) = drawn' := by omega
 simp only [Go.Sort.grow, World.drewN, ed]
 congr 1
theorem byte_get (s : ByteArray) (k : Nat) (h : k < s.size) : s[k] = s.get! k := by
 cases s with
 | mk d => exact (getElem!_pos d k h).symm
set_option maxRecDepth 100000 in
theorem slow_241 (s : ByteArray) (w : World) (h0 : 0 < s.size) (hT : UTabs w) (hX : firstT (s.get! 0).toNat = 241) :
  Calls Tryz.prog 167 #[.string s] w fun e w' => e = .returned (.tuple #[.int .i32 ((Lib.decodeGo s).1 : Nat), .int .i64 ((Lib.decodeGo s).2 : Nat)]) ∧ Ex w w' := by
 have hz0 : (0 : Int) < (s.size : Int) := by omega
 have hz0' : ¬ ((s.size : Int) < 1) := by omega
 have hs0 := byte_get s 0 h0;have l0 := (s.get! 0).toNat_lt;have l1 := (s.get! 1).toNat_lt;have l2 := (s.get! 2).toNat_lt;have l3 := (s.get! 3).toNat_lt;have hdec : Lib.decodeGo s = decodeN s.size (s.get! 0).toNat (s.get! 1).toNat (s.get! 2).toNat (s.get! 3).toNat := by
  unfold Lib.decodeGo;rw [if_neg (by omega), Lib.decode_at, Nat.sub_zero, Nat.zero_add, Nat.zero_add, Nat.zero_add]
 rw [hdec];have hc0 : w.cell? ⟨0, (s.get! 0).toNat, none⟩ = some (.int .u8 241) := by
  have := hT.1 (s.get! 0).toNat (by omega)
  rwa [hX] at this
 rw [Lib.bad_eq _ _ _ _ _ (by omega) hX];generalize s.get! 0 = x0 at *;clear hT hX hdec;go_enter Tryz.func167, Tryz.ntmps167;go_wp2
 rw [Utf8W.mask241, Utf8W.drop_byte ⟨x0.toNat, l0⟩];go_ret2
 exact ⟨rfl, Ex.refl _⟩
set_option maxRecDepth 100000 in
theorem slow_2 (s : ByteArray) (w : World) (h0 : 0 < s.size) (hT : UTabs w) (hX : firstT (s.get! 0).toNat = 2) :
  Calls Tryz.prog 167 #[.string s] w fun e w' => e = .returned (.tuple #[.int .i32 ((Lib.decodeGo s).1 : Nat), .int .i64 ((Lib.decodeGo s).2 : Nat)]) ∧ Ex w w' := by
 have hz0 : (0 : Int) < (s.size : Int) := by omega
 have hz0' : ¬ ((s.size : Int) < 1) := by omega
 have hs0 := byte_get s 0 h0;have l0 := (s.get! 0).toNat_lt;have l1 := (s.get! 1).toNat_lt;have l2 := (s.get! 2).toNat_lt;have l3 := (s.get! 3).toNat_lt;have hdec : Lib.decodeGo s = decodeN s.size (s.get! 0).toNat (s.get! 1).toNat (s.get! 2).toNat (s.get! 3).toNat := by
  unfold Lib.decodeGo;rw [if_neg (by omega), Lib.decode_at, Nat.sub_zero, Nat.zero_add, Nat.zero_add, Nat.zero_add]
 rw [hdec];have hc0 : w.cell? ⟨0, (s.get! 0).toNat, none⟩ = some (.int .u8 2) := by
  have := hT.1 (s.get! 0).toNat (by omega)
  rwa [hX] at this
 have ha0 : w.cell? ⟨1, 0, none⟩ = some (.int .u8 128) := (hT.2 0 (by omega)).1;have ha1 : w.cell? ⟨1, 1, none⟩ = some (.int .u8 191) := (hT.2 0 (by omega)).2;have hres : decodeN s.size (s.get! 0).toNat (s.get! 1).toNat (s.get! 2).toNat (s.get! 3).toNat = slowN s.size (s.get! 0).toNat (s.get! 1).toNat (s.get! 2).toNat (s.get! 3).toNat 2 128 191 := by
  have := (Lib.slow_eq s.size (s.get! 0).toNat (s.get! 1).toNat (s.get! 2).toNat (s.get! 3).toNat (by omega) (by omega) (by omega) (by omega) (by rw [hX]; omega)).symm;rw [hX] at this;exact this
 rw [hres];have hs1 := fun h => byte_get s 1 h;generalize s.get! 0 = x0 at *;generalize s.get! 1 = x1 at *;generalize s.get! 2 = x2 at *;generalize s.get! 3 = x3 at *;clear hT hX hdec hres
 by_cases hn : s.size < 2
 ·have hnz : (s.size : Int) < 2 := by omega
  clear hs1;go_enter Tryz.func167, Tryz.ntmps167;go_wp2
  all_goals (go_ret2; refine ⟨?_, (Ex.refl _).alloc _⟩; utf8_leaf)
 ·have hz1 : (1 : Int) < (s.size : Int) := by omega
  replace hs1 := hs1 (by omega)
  go_enter Tryz.func167, Tryz.ntmps167;go_wp2
  all_goals (go_ret2; refine ⟨?_, (Ex.refl _).alloc _⟩; utf8_leaf)
set_option maxRecDepth 100000 in
theorem slow_19 (s : ByteArray) (w : World) (h0 : 0 < s.size) (hT : UTabs w) (hX : firstT (s.get! 0).toNat = 19) :
  Calls Tryz.prog 167 #[.string s] w fun e w' => e = .returned (.tuple #[.int .i32 ((Lib.decodeGo s).1 : Nat), .int .i64 ((Lib.decodeGo s).2 : Nat)]) ∧ Ex w w' := by
 have hz0 : (0 : Int) < (s.size : Int) := by omega
 have hz0' : ¬ ((s.size : Int) < 1) := by omega
 have hs0 := byte_get s 0 h0;have l0 := (s.get! 0).toNat_lt;have l1 := (s.get! 1).toNat_lt;have l2 := (s.get! 2).toNat_lt;have l3 := (s.get! 3).toNat_lt;have hdec : Lib.decodeGo s = decodeN s.size (s.get! 0).toNat (s.get! 1).toNat (s.get! 2).toNat (s.get! 3).toNat := by
  unfold Lib.decodeGo;rw [if_neg (by omega), Lib.decode_at, Nat.sub_zero, Nat.zero_add, Nat.zero_add, Nat.zero_add]
 rw [hdec];have hc0 : w.cell? ⟨0, (s.get! 0).toNat, none⟩ = some (.int .u8 19) := by
  have := hT.1 (s.get! 0).toNat (by omega)
  rwa [hX] at this
 have ha0 : w.cell? ⟨1, 2, none⟩ = some (.int .u8 160) := (hT.2 1 (by omega)).1;have ha1 : w.cell? ⟨1, 3, none⟩ = some (.int .u8 191) := (hT.2 1 (by omega)).2;have hres : decodeN s.size (s.get! 0).toNat (s.get! 1).toNat (s.get! 2).toNat (s.get! 3).toNat = slowN s.size (s.get! 0).toNat (s.get! 1).toNat (s.get! 2).toNat (s.get! 3).toNat 3 160 191 := by
  have := (Lib.slow_eq s.size (s.get! 0).toNat (s.get! 1).toNat (s.get! 2).toNat (s.get! 3).toNat (by omega) (by omega) (by omega) (by omega) (by rw [hX]; omega)).symm;rw [hX] at this;exact this
 rw [hres];have hs1 := fun h => byte_get s 1 h;have hs2 := fun h => byte_get s 2 h;generalize s.get! 0 = x0 at *;generalize s.get! 1 = x1 at *;generalize s.get! 2 = x2 at *;generalize s.get! 3 = x3 at *;clear hT hX hdec hres
 by_cases hn : s.size < 3
 ·have hnz : (s.size : Int) < 3 := by omega
  clear hs1 hs2;go_enter Tryz.func167, Tryz.ntmps167;go_wp2
  all_goals (go_ret2; refine ⟨?_, (Ex.refl _).alloc _⟩; utf8_leaf)
 ·have hz1 : (1 : Int) < (s.size : Int) := by omega
  replace hs1 := hs1 (by omega)
  have hz2 : (2 : Int) < (s.size : Int) := by omega
  replace hs2 := hs2 (by omega)
  go_enter Tryz.func167, Tryz.ntmps167;go_wp2
  all_goals (go_ret2; refine ⟨?_, (Ex.refl _).alloc _⟩; utf8_leaf)
set_option maxRecDepth 100000 in
theorem slow_3 (s : ByteArray) (w : World) (h0 : 0 < s.size) (hT : UTabs w) (hX : firstT (s.get! 0).toNat = 3) :
  Calls Tryz.prog 167 #[.string s] w fun e w' => e = .returned (.tuple #[.int .i32 ((Lib.decodeGo s).1 : Nat), .int .i64 ((Lib.decodeGo s).2 : Nat)]) ∧ Ex w w' := by
 have hz0 : (0 : Int) < (s.size : Int) := by omega
 have hz0' : ¬ ((s.size : Int) < 1) := by omega
 have hs0 := byte_get s 0 h0;have l0 := (s.get! 0).toNat_lt;have l1 := (s.get! 1).toNat_lt;have l2 := (s.get! 2).toNat_lt;have l3 := (s.get! 3).toNat_lt;have hdec : Lib.decodeGo s = decodeN s.size (s.get! 0).toNat (s.get! 1).toNat (s.get! 2).toNat (s.get! 3).toNat := by
  unfold Lib.decodeGo;rw [if_neg (by omega), Lib.decode_at, Nat.sub_zero, Nat.zero_add, Nat.zero_add, Nat.zero_add]
 rw [hdec];have hc0 : w.cell? ⟨0, (s.get! 0).toNat, none⟩ = some (.int .u8 3) := by
  have := hT.1 (s.get! 0).toNat (by omega)
  rwa [hX] at this
 have ha0 : w.cell? ⟨1, 0, none⟩ = some (.int .u8 128) := (hT.2 0 (by omega)).1;have ha1 : w.cell? ⟨1, 1, none⟩ = some (.int .u8 191) := (hT.2 0 (by omega)).2;have hres : decodeN s.size (s.get! 0).toNat (s.get! 1).toNat (s.get! 2).toNat (s.get! 3).toNat = slowN s.size (s.get! 0).toNat (s.get! 1).toNat (s.get! 2).toNat (s.get! 3).toNat 3 128 191 := by
  have := (Lib.slow_eq s.size (s.get! 0).toNat (s.get! 1).toNat (s.get! 2).toNat (s.get! 3).toNat (by omega) (by omega) (by omega) (by omega) (by rw [hX]; omega)).symm;rw [hX] at this;exact this
 rw [hres];have hs1 := fun h => byte_get s 1 h;have hs2 := fun h => byte_get s 2 h;generalize s.get! 0 = x0 at *;generalize s.get! 1 = x1 at *;generalize s.get! 2 = x2 at *;generalize s.get! 3 = x3 at *;clear hT hX hdec hres
 by_cases hn : s.size < 3
 ·have hnz : (s.size : Int) < 3 := by omega
  clear hs1 hs2;go_enter Tryz.func167, Tryz.ntmps167;go_wp2
  all_goals (go_ret2; refine ⟨?_, (Ex.refl _).alloc _⟩; utf8_leaf)
 ·have hz1 : (1 : Int) < (s.size : Int) := by omega
  replace hs1 := hs1 (by omega)
  have hz2 : (2 : Int) < (s.size : Int) := by omega
  replace hs2 := hs2 (by omega)
  go_enter Tryz.func167, Tryz.ntmps167;go_wp2
  all_goals (go_ret2; refine ⟨?_, (Ex.refl _).alloc _⟩; utf8_leaf)
set_option maxRecDepth 100000 in
theorem slow_35 (s : ByteArray) (w : World) (h0 : 0 < s.size) (hT : UTabs w) (hX : firstT (s.get! 0).toNat = 35) :
  Calls Tryz.prog 167 #[.string s] w fun e w' => e = .returned (.tuple #[.int .i32 ((Lib.decodeGo s).1 : Nat), .int .i64 ((Lib.decodeGo s).2 : Nat)]) ∧ Ex w w' := by
 have hz0 : (0 : Int) < (s.size : Int) := by omega
 have hz0' : ¬ ((s.size : Int) < 1) := by omega
 have hs0 := byte_get s 0 h0;have l0 := (s.get! 0).toNat_lt;have l1 := (s.get! 1).toNat_lt;have l2 := (s.get! 2).toNat_lt;have l3 := (s.get! 3).toNat_lt;have hdec : Lib.decodeGo s = decodeN s.size (s.get! 0).toNat (s.get! 1).toNat (s.get! 2).toNat (s.get! 3).toNat := by
  unfold Lib.decodeGo;rw [if_neg (by omega), Lib.decode_at, Nat.sub_zero, Nat.zero_add, Nat.zero_add, Nat.zero_add]
 rw [hdec];have hc0 : w.cell? ⟨0, (s.get! 0).toNat, none⟩ = some (.int .u8 35) := by
  have := hT.1 (s.get! 0).toNat (by omega)
  rwa [hX] at this
 have ha0 : w.cell? ⟨1, 4, none⟩ = some (.int .u8 128) := (hT.2 2 (by omega)).1;have ha1 : w.cell? ⟨1, 5, none⟩ = some (.int .u8 159) := (hT.2 2 (by omega)).2;have hres : decodeN s.size (s.get! 0).toNat (s.get! 1).toNat (s.get! 2).toNat (s.get! 3).toNat = slowN s.size (s.get! 0).toNat (s.get! 1).toNat (s.get! 2).toNat (s.get! 3).toNat 3 128 159 := by
  have := (Lib.slow_eq s.size (s.get! 0).toNat (s.get! 1).toNat (s.get! 2).toNat (s.get! 3).toNat (by omega) (by omega) (by omega) (by omega) (by rw [hX]; omega)).symm;rw [hX] at this;exact this
 rw [hres];have hs1 := fun h => byte_get s 1 h;have hs2 := fun h => byte_get s 2 h;generalize s.get! 0 = x0 at *;generalize s.get! 1 = x1 at *;generalize s.get! 2 = x2 at *;generalize s.get! 3 = x3 at *;clear hT hX hdec hres
 by_cases hn : s.size < 3
 ·have hnz : (s.size : Int) < 3 := by omega
  clear hs1 hs2;go_enter Tryz.func167, Tryz.ntmps167;go_wp2
  all_goals (go_ret2; refine ⟨?_, (Ex.refl _).alloc _⟩; utf8_leaf)
 ·have hz1 : (1 : Int) < (s.size : Int) := by omega
  replace hs1 := hs1 (by omega)
  have hz2 : (2 : Int) < (s.size : Int) := by omega
  replace hs2 := hs2 (by omega)
  go_enter Tryz.func167, Tryz.ntmps167;go_wp2
  all_goals (go_ret2; refine ⟨?_, (Ex.refl _).alloc _⟩; utf8_leaf)
set_option maxRecDepth 100000 in
theorem slow_52 (s : ByteArray) (w : World) (h0 : 0 < s.size) (hT : UTabs w) (hX : firstT (s.get! 0).toNat = 52) :
  Calls Tryz.prog 167 #[.string s] w fun e w' => e = .returned (.tuple #[.int .i32 ((Lib.decodeGo s).1 : Nat), .int .i64 ((Lib.decodeGo s).2 : Nat)]) ∧ Ex w w' := by
 have hz0 : (0 : Int) < (s.size : Int) := by omega
 have hz0' : ¬ ((s.size : Int) < 1) := by omega
 have hs0 := byte_get s 0 h0;have l0 := (s.get! 0).toNat_lt;have l1 := (s.get! 1).toNat_lt;have l2 := (s.get! 2).toNat_lt;have l3 := (s.get! 3).toNat_lt;have hdec : Lib.decodeGo s = decodeN s.size (s.get! 0).toNat (s.get! 1).toNat (s.get! 2).toNat (s.get! 3).toNat := by
  unfold Lib.decodeGo;rw [if_neg (by omega), Lib.decode_at, Nat.sub_zero, Nat.zero_add, Nat.zero_add, Nat.zero_add]
 rw [hdec];have hc0 : w.cell? ⟨0, (s.get! 0).toNat, none⟩ = some (.int .u8 52) := by
  have := hT.1 (s.get! 0).toNat (by omega)
  rwa [hX] at this
 have ha0 : w.cell? ⟨1, 6, none⟩ = some (.int .u8 144) := (hT.2 3 (by omega)).1;have ha1 : w.cell? ⟨1, 7, none⟩ = some (.int .u8 191) := (hT.2 3 (by omega)).2;have hres : decodeN s.size (s.get! 0).toNat (s.get! 1).toNat (s.get! 2).toNat (s.get! 3).toNat = slowN s.size (s.get! 0).toNat (s.get! 1).toNat (s.get! 2).toNat (s.get! 3).toNat 4 144 191 := by
  have := (Lib.slow_eq s.size (s.get! 0).toNat (s.get! 1).toNat (s.get! 2).toNat (s.get! 3).toNat (by omega) (by omega) (by omega) (by omega) (by rw [hX]; omega)).symm;rw [hX] at this;exact this
 rw [hres];have hs1 := fun h => byte_get s 1 h;have hs2 := fun h => byte_get s 2 h;have hs3 := fun h => byte_get s 3 h;generalize s.get! 0 = x0 at *;generalize s.get! 1 = x1 at *;generalize s.get! 2 = x2 at *;generalize s.get! 3 = x3 at *;clear hT hX hdec hres
 by_cases hn : s.size < 4
 ·have hnz : (s.size : Int) < 4 := by omega
  clear hs1 hs2 hs3;go_enter Tryz.func167, Tryz.ntmps167;go_wp2
  all_goals (go_ret2; refine ⟨?_, (Ex.refl _).alloc _⟩; utf8_leaf)
 ·have hz1 : (1 : Int) < (s.size : Int) := by omega
  replace hs1 := hs1 (by omega)
  have hz2 : (2 : Int) < (s.size : Int) := by omega
  replace hs2 := hs2 (by omega)
  have hz3 : (3 : Int) < (s.size : Int) := by omega
  replace hs3 := hs3 (by omega)
  go_enter Tryz.func167, Tryz.ntmps167;go_wp2
  all_goals (go_ret2; refine ⟨?_, (Ex.refl _).alloc _⟩; utf8_leaf)
set_option maxRecDepth 100000 in
theorem slow_4 (s : ByteArray) (w : World) (h0 : 0 < s.size) (hT : UTabs w) (hX : firstT (s.get! 0).toNat = 4) :
  Calls Tryz.prog 167 #[.string s] w fun e w' => e = .returned (.tuple #[.int .i32 ((Lib.decodeGo s).1 : Nat), .int .i64 ((Lib.decodeGo s).2 : Nat)]) ∧ Ex w w' := by
 have hz0 : (0 : Int) < (s.size : Int) := by omega
 have hz0' : ¬ ((s.size : Int) < 1) := by omega
 have hs0 := byte_get s 0 h0;have l0 := (s.get! 0).toNat_lt;have l1 := (s.get! 1).toNat_lt;have l2 := (s.get! 2).toNat_lt;have l3 := (s.get! 3).toNat_lt;have hdec : Lib.decodeGo s = decodeN s.size (s.get! 0).toNat (s.get! 1).toNat (s.get! 2).toNat (s.get! 3).toNat := by
  unfold Lib.decodeGo;rw [if_neg (by omega), Lib.decode_at, Nat.sub_zero, Nat.zero_add, Nat.zero_add, Nat.zero_add]
 rw [hdec];have hc0 : w.cell? ⟨0, (s.get! 0).toNat, none⟩ = some (.int .u8 4) := by
  have := hT.1 (s.get! 0).toNat (by omega)
  rwa [hX] at this
 have ha0 : w.cell? ⟨1, 0, none⟩ = some (.int .u8 128) := (hT.2 0 (by omega)).1;have ha1 : w.cell? ⟨1, 1, none⟩ = some (.int .u8 191) := (hT.2 0 (by omega)).2;have hres : decodeN s.size (s.get! 0).toNat (s.get! 1).toNat (s.get! 2).toNat (s.get! 3).toNat = slowN s.size (s.get! 0).toNat (s.get! 1).toNat (s.get! 2).toNat (s.get! 3).toNat 4 128 191 := by
  have := (Lib.slow_eq s.size (s.get! 0).toNat (s.get! 1).toNat (s.get! 2).toNat (s.get! 3).toNat (by omega) (by omega) (by omega) (by omega) (by rw [hX]; omega)).symm;rw [hX] at this;exact this
 rw [hres];have hs1 := fun h => byte_get s 1 h;have hs2 := fun h => byte_get s 2 h;have hs3 := fun h => byte_get s 3 h;generalize s.get! 0 = x0 at *;generalize s.get! 1 = x1 at *;generalize s.get! 2 = x2 at *;generalize s.get! 3 = x3 at *;clear hT hX hdec hres
 by_cases hn : s.size < 4
 ·have hnz : (s.size : Int) < 4 := by omega
  clear hs1 hs2 hs3;go_enter Tryz.func167, Tryz.ntmps167;go_wp2
  all_goals (go_ret2; refine ⟨?_, (Ex.refl _).alloc _⟩; utf8_leaf)
 ·have hz1 : (1 : Int) < (s.size : Int) := by omega
  replace hs1 := hs1 (by omega)
  have hz2 : (2 : Int) < (s.size : Int) := by omega
  replace hs2 := hs2 (by omega)
  have hz3 : (3 : Int) < (s.size : Int) := by omega
  replace hs3 := hs3 (by omega)
  go_enter Tryz.func167, Tryz.ntmps167;go_wp2
  all_goals (go_ret2; refine ⟨?_, (Ex.refl _).alloc _⟩; utf8_leaf)
set_option maxRecDepth 100000 in
theorem slow_68 (s : ByteArray) (w : World) (h0 : 0 < s.size) (hT : UTabs w) (hX : firstT (s.get! 0).toNat = 68) :
  Calls Tryz.prog 167 #[.string s] w fun e w' => e = .returned (.tuple #[.int .i32 ((Lib.decodeGo s).1 : Nat), .int .i64 ((Lib.decodeGo s).2 : Nat)]) ∧ Ex w w' := by
 have hz0 : (0 : Int) < (s.size : Int) := by omega
 have hz0' : ¬ ((s.size : Int) < 1) := by omega
 have hs0 := byte_get s 0 h0;have l0 := (s.get! 0).toNat_lt;have l1 := (s.get! 1).toNat_lt;have l2 := (s.get! 2).toNat_lt;have l3 := (s.get! 3).toNat_lt;have hdec : Lib.decodeGo s = decodeN s.size (s.get! 0).toNat (s.get! 1).toNat (s.get! 2).toNat (s.get! 3).toNat := by
  unfold Lib.decodeGo;rw [if_neg (by omega), Lib.decode_at, Nat.sub_zero, Nat.zero_add, Nat.zero_add, Nat.zero_add]
 rw [hdec];have hc0 : w.cell? ⟨0, (s.get! 0).toNat, none⟩ = some (.int .u8 68) := by
  have := hT.1 (s.get! 0).toNat (by omega)
  rwa [hX] at this
 have ha0 : w.cell? ⟨1, 8, none⟩ = some (.int .u8 128) := (hT.2 4 (by omega)).1;have ha1 : w.cell? ⟨1, 9, none⟩ = some (.int .u8 143) := (hT.2 4 (by omega)).2;have hres : decodeN s.size (s.get! 0).toNat (s.get! 1).toNat (s.get! 2).toNat (s.get! 3).toNat = slowN s.size (s.get! 0).toNat (s.get! 1).toNat (s.get! 2).toNat (s.get! 3).toNat 4 128 143 := by
  have := (Lib.slow_eq s.size (s.get! 0).toNat (s.get! 1).toNat (s.get! 2).toNat (s.get! 3).toNat (by omega) (by omega) (by omega) (by omega) (by rw [hX]; omega)).symm;rw [hX] at this;exact this
 rw [hres];have hs1 := fun h => byte_get s 1 h;have hs2 := fun h => byte_get s 2 h;have hs3 := fun h => byte_get s 3 h;generalize s.get! 0 = x0 at *;generalize s.get! 1 = x1 at *;generalize s.get! 2 = x2 at *;generalize s.get! 3 = x3 at *;clear hT hX hdec hres
 by_cases hn : s.size < 4
 ·have hnz : (s.size : Int) < 4 := by omega
  clear hs1 hs2 hs3;go_enter Tryz.func167, Tryz.ntmps167;go_wp2
  all_goals (go_ret2; refine ⟨?_, (Ex.refl _).alloc _⟩; utf8_leaf)
 ·have hz1 : (1 : Int) < (s.size : Int) := by omega
  replace hs1 := hs1 (by omega)
  have hz2 : (2 : Int) < (s.size : Int) := by omega
  replace hs2 := hs2 (by omega)
  have hz3 : (3 : Int) < (s.size : Int) := by omega
  replace hs3 := hs3 (by omega)
  go_enter Tryz.func167, Tryz.ntmps167;go_wp2
  all_goals (go_ret2; refine ⟨?_, (Ex.refl _).alloc _⟩; utf8_leaf)
set_option maxRecDepth 100000 in
theorem slow_ex (s : ByteArray) (w : World) (h0 : 0 < s.size) (hb : 128 ≤ (s.get! 0).toNat) (hT : UTabs w) :
  Calls Tryz.prog 167 #[.string s] w fun e w' => e = .returned (.tuple #[.int .i32 ((Lib.decodeGo s).1 : Nat), .int .i64 ((Lib.decodeGo s).2 : Nat)]) ∧ Ex w w' := by
 rcases Lib.firstT_cases (s.get! 0).toNat with hX | hX | hX | hX | hX | hX | hX | hX | hX
 ·exfalso
  have e := Lib.ascii_eq s.size (s.get! 0).toNat (s.get! 1).toNat (s.get! 2).toNat (s.get! 3).toNat hX;have l0 := (s.get! 0).toNat_lt;generalize (s.get! 0).toNat = b0 at *;rcases decodeN_shape s.size b0 (s.get! 1).toNat (s.get! 2).toNat (s.get! 3).toNat with ⟨c, e'⟩ | ⟨c1, c2, c3, cv, e'⟩ | ⟨c1, c2, c3, c4, cv, cs, e'⟩ | ⟨c1, c2, c3, c4, c5, cv, cw, e'⟩ | e'
  all_goals (rw [e] at e'; have h1 := congrArg Prod.fst e'; have h2 := congrArg Prod.snd e'; simp only at h1 h2; omega)
 ·exact slow_241 s w h0 hT hX
 ·exact slow_2 s w h0 hT hX
 ·exact slow_19 s w h0 hT hX
 ·exact slow_3 s w h0 hT hX
 ·exact slow_35 s w h0 hT hX
 ·exact slow_52 s w h0 hT hX
 ·exact slow_4 s w h0 hT hX
 ·exact slow_68 s w h0 hT hX
end Go.Proofs.YtjfbeeogiejopaaGreatDoor
