/- Events with their lines, as they lie in memory. A contract of the library at this program: what it asks of the program, field by field. Texts as bytes: what one step of the decoder takes; lines. Contracts of the package line: cut, Of, Runes. Histories as they lie in memory: ops, transactions, and the rows that hold them. How many bytes a rune has, by definition: against the decoder. -/
import Derived.Test.YthaeomdpaadilaaGreatDoorShowParsesCardK1
import Derived.Test.YthaeomdpaadilaaGreatDoorProg
import Derived.Ground.NamesProg
import Derived.Shelf.Unicode.ValidAny
import Derived.Lib.MapLaws
import Derived.Lib.TrimUEq
import Derived.Lib.RuneCount
import Derived.Lib.OthersKept
import Derived.Laws.RangeString
import Derived.Laws.RangeAny
import Derived.Laws.Strings2
import Derived.WalkSmall
import Derived.Lib.ValidLaws
set_option linter.unusedVariables false
set_option linter.unusedSimpArgs false
namespace Go.Proofs.YthaeomdpaadilaaGreatDoor
open Go.RowKit
/-- An event with its line. -/
structure Ev6 where
 k : Int
 s : ByteArray
 y : ByteArray
 vk : Int
 vn : Int
 ln : Int
def Ev6.c (x : Ev6) : List Value := [.int .i64 x.k, .string x.s, .string x.y, .int .i64 x.vk, .int .i64 x.vn, .int .i64 x.ln]
def logC (l : List Ev6) : List Value := l.flatMap Ev6.c
theorem logC_len (l : List Ev6) : (logC l).length = l.length * 6 := by
 induction l with
 | nil => rfl
 | cons x l ih => simp only [logC, List.flatMap_cons, List.length_append, List.length_cons] at ih ⊢; rw [ih]; simp [Ev6.c]; omega
theorem logC_snoc (l : List Ev6) (x : Ev6) : logC (l ++ [x]) = logC l ++ x.c := by simp [logC]
theorem logC_get : ∀ (l : List Ev6) (i : Nat) (x : Ev6), l[i]? = some x → ∀ j, j < 6 → (logC l)[i * 6 + j]? = x.c[j]?
 | [], i, x, h, _, _ => by simp at h
 | x0 :: l, 0, x, h, j, hj => by
  simp at h
  subst h
  simp only [logC, List.flatMap_cons]
  rw [List.getElem?_append_left (by simp [Ev6.c]; omega)]
  simp
 | x0 :: l, i + 1, x, h, j, hj => by
  have := logC_get l i x (by simpa using h) j hj
  simp only [logC, List.flatMap_cons] at this ⊢
  rw [List.getElem?_append_right (by simp [Ev6.c]; omega)]
  rw [← this]
  congr 1
  simp [Ev6.c]
  omega
theorem info_event : (Tryz.prog.info? 47).map (fun i => (i.zero, i.size, i.bytes)) = some (some (.agg #[.int .i64 0, .string ⟨#[]⟩, .string ⟨#[]⟩, .int .i64 0, .int .i64 0, .int .i64 0]), 6, 64) := by kernel_rfl
/-- The cells from a place on are an event's. -/
structure EvAt (w : World) (b o : Nat) (x : Ev6) : Prop where
 c0 : w.cell? ⟨b, o, none⟩ = some (.int .i64 x.k)
 c1 : w.cell? ⟨b, o + 1, none⟩ = some (.string x.s)
 c2 : w.cell? ⟨b, o + 2, none⟩ = some (.string x.y)
 c3 : w.cell? ⟨b, o + 3, none⟩ = some (.int .i64 x.vk)
 c4 : w.cell? ⟨b, o + 4, none⟩ = some (.int .i64 x.vn)
 c5 : w.cell? ⟨b, o + 5, none⟩ = some (.int .i64 x.ln)
theorem EvAt.only {S : List Nat} {w w' : World} {b o : Nat} {x : Ev6} (h : EvAt w b o x) (ho : Only S w w') (hb : b < w.heap.size) (hs : b ∉ S) : EvAt w' b o x :=
 ⟨(ho.cell (p := ⟨b, o, none⟩) hb hs).trans h.c0, (ho.cell (p := ⟨b, o + 1, none⟩) hb hs).trans h.c1, (ho.cell (p := ⟨b, o + 2, none⟩) hb hs).trans h.c2, (ho.cell (p := ⟨b, o + 3, none⟩) hb hs).trans h.c3,
  (ho.cell (p := ⟨b, o + 4, none⟩) hb hs).trans h.c4, (ho.cell (p := ⟨b, o + 5, none⟩) hb hs).trans h.c5⟩
theorem row_ev {w : World} {B : Nat} {A : Option Addr} {l : List Ev6} (h : Row w B A (logC l)) {k : Nat} {x : Ev6} (hk : l[k]? = some x) : ∃ b off, A = some ⟨b, off, none⟩ ∧ b < B ∧ b < w.heap.size ∧ EvAt w b (off + k * 6) x := by
 have hlt := (List.getElem?_eq_some_iff.1 hk).1
 obtain ⟨b, off, rfl, h1, h2, hc⟩ := h.open_ (k := k * 6) (by rw [logC_len]; omega)
 have g := logC_get l k x hk
 refine ⟨b, off, rfl, h1, h2, ⟨?_, ?_, ?_, ?_, ?_, ?_⟩⟩
 ·exact hc (k * 6) _ (g 0 (by omega))
 ·rw [Nat.add_assoc]; exact hc _ _ (g 1 (by omega))
 ·rw [Nat.add_assoc]; exact hc _ _ (g 2 (by omega))
 ·rw [Nat.add_assoc]; exact hc _ _ (g 3 (by omega))
 ·rw [Nat.add_assoc]; exact hc _ _ (g 4 (by omega))
 ·rw [Nat.add_assoc]; exact hc _ _ (g 5 (by omega))
end Go.Proofs.YthaeomdpaadilaaGreatDoor

namespace Go.Proofs
open Go.Shelf
def Tryz.laysValid_ren : Go.Shelf.Ren := ⟨fun | 196 => 68 | 259 => 92 | n => n, fun | 9 => 9 | 4 => 4 | 3 => 3 | 5 => 5 | 12 => 12 | 119 => 141 | 0 => 0 | 46 => 145 | 139 => 144 | 138 => 143 | 53 => 161 | n => n, fun | 3 => 1 | 4 => 2 | n => n⟩
theorem Tryz.laysValid : Go.Proofs.Lays.n196 Tryz.prog Tryz.laysValid_ren := {
 mixed := by kernel_rfl
 f196 := Tryz.func68.trans (congrArg some (by kernel_rfl))
 f259 := Tryz.func92.trans (congrArg some (by kernel_rfl))
 t0 := Tryz.underlying0
 a0 := Tryz.isAgg0
 z0 := Tryz.sizeOf0
 v0 := Tryz.zeroValue0
 t3 := Tryz.underlying3
 a3 := Tryz.isAgg3
 z3 := Tryz.sizeOf3
 v3 := Tryz.zeroValue3
 t4 := Tryz.underlying4
 a4 := Tryz.isAgg4
 z4 := Tryz.sizeOf4
 v4 := Tryz.zeroValue4
 t5 := Tryz.underlying5
 a5 := Tryz.isAgg5
 z5 := Tryz.sizeOf5
 v5 := Tryz.zeroValue5
 t9 := Tryz.underlying9
 a9 := Tryz.isAgg9
 z9 := Tryz.sizeOf9
 v9 := Tryz.zeroValue9
 t12 := Tryz.underlying12
 a12 := Tryz.isAgg12
 z12 := Tryz.sizeOf12
 v12 := Tryz.zeroValue12
 t46 := Tryz.underlying145
 a46 := Tryz.isAgg145
 z46 := Tryz.sizeOf145
 v46 := Tryz.zeroValue145
 t53 := Tryz.underlying161
 a53 := Tryz.isAgg161
 z53 := Tryz.sizeOf161
 v53 := Tryz.zeroValue161
 t119 := Tryz.underlying141
 a119 := Tryz.isAgg141
 z119 := Tryz.sizeOf141
 t138 := Tryz.underlying143
 a138 := Tryz.isAgg143
 z138 := Tryz.sizeOf143
 v138 := Tryz.zeroValue143
 t139 := Tryz.underlying144
 a139 := Tryz.isAgg144
 z139 := Tryz.sizeOf144
 v139 := Tryz.zeroValue144
 g3 := by kernel_rfl
 g4 := by kernel_rfl }
end Go.Proofs

set_option linter.unusedVariables false
set_option linter.unusedSimpArgs false
namespace Go.Proofs.YthaeomdpaadilaaGreatDoor
open Go.Lib
/-- The bytes of a text. -/
def by_ (s : ByteArray) : List UInt8 := s.data.toList
theorem by_length (s : ByteArray) : (by_ s).length = s.size := by
 unfold by_
 exact (size_eq s).symm
theorem by_inj {s t : ByteArray} (h : by_ s = by_ t) : s = t := by
 unfold by_ at h
 cases s
 cases t
 simp at h
 rw [h]
theorem by_extract (s : ByteArray) (a b : Nat) : by_ (s.extract a b) = ((by_ s).take b).drop a := by
 unfold by_
 rw [ByteArray.data_extract, Array.toList_extract, List.extract_eq_take_drop, List.drop_take]
theorem by_append (s t : ByteArray) : by_ (s ++ t) = by_ s ++ by_ t := by
 unfold by_
 rw [ByteArray.data_append, Array.toList_append]
theorem dec_small {n b0 b1 b2 b3 : Nat} (h : b0 < 128) : decodeN n b0 b1 b2 b3 = (b0, 1) := by
 unfold decodeN
 rw [if_pos h]
/-- What a step of the decoder says of line feeds: its rune is one just if its first byte is one, and that it takes alone; else none of what it takes is one. -/
theorem dec_nl (n b0 b1 b2 b3 : Nat) : ((decodeN n b0 b1 b2 b3).1 = 10 → b0 = 10 ∧ (decodeN n b0 b1 b2 b3).2 = 1) ∧
  ((decodeN n b0 b1 b2 b3).1 ≠ 10 → b0 ≠ 10 ∧ (1 < (decodeN n b0 b1 b2 b3).2 → b1 ≠ 10) ∧ (2 < (decodeN n b0 b1 b2 b3).2 → b2 ≠ 10) ∧ (3 < (decodeN n b0 b1 b2 b3).2 → b3 ≠ 10)) ∧
  1 ≤ (decodeN n b0 b1 b2 b3).2 ∧ (decodeN n b0 b1 b2 b3).2 ≤ 4 ∧ (1 ≤ n → (decodeN n b0 b1 b2 b3).2 ≤ n) := by
 by_cases h0 : b0 < 128
 ·rw [dec_small h0]
  refine ⟨fun h => ⟨h, rfl⟩, fun h => ⟨h, fun h => absurd h (by omega), fun h => absurd h (by omega), fun h => absurd h (by omega)⟩, by omega, by omega, fun h => h⟩
 ·rcases decodeN_shape n b0 b1 b2 b3 with ⟨c, e⟩ | ⟨c1, c2, c3, cv, e⟩ | ⟨c1, c2, c3, c4, cv, cs, e⟩ | ⟨c1, c2, c3, c4, c5, cv, cw, e⟩ | e
  ·omega
  all_goals (rw [e]; dsimp only; refine ⟨fun h => by omega, fun h => ⟨by omega, fun h => by omega, fun h => by omega, fun h => by omega⟩, by omega, by omega, fun h => by omega⟩)
section
variable (s : ByteArray) (pos : Nat)
theorem width_le (h : pos < s.size) : 1 ≤ (Utf8.decode s pos).2 ∧ pos + (Utf8.decode s pos).2 ≤ s.size := by
 rw [decode_N, ← by_length] at *
 have := (dec_nl ((by_ s).length - pos) ((by_ s).getD pos 0).toNat ((by_ s).getD (pos + 1) 0).toNat ((by_ s).getD (pos + 2) 0).toNat ((by_ s).getD (pos + 3) 0).toNat).2.2
 unfold by_ at *
 omega
theorem byte_eq (b : UInt8) : b.toNat = 10 ↔ b = 10 := by
 constructor
 ·intro h
  exact UInt8.toNat_inj.1 h
 ·rintro rfl
  rfl
/-- A line feed stands there alone. -/
theorem nl_here (h : pos < s.size) (hr : (Utf8.decode s pos).1 = 10) : (by_ s)[pos]? = some 10 ∧ (Utf8.decode s pos).2 = 1 := by
 rw [decode_N] at *
 have := (dec_nl (s.data.toList.length - pos) (s.data.toList.getD pos 0).toNat (s.data.toList.getD (pos + 1) 0).toNat (s.data.toList.getD (pos + 2) 0).toNat (s.data.toList.getD (pos + 3) 0).toNat).1 hr
 refine ⟨?_, this.2⟩
 have hl : pos < (by_ s).length := by rw [by_length]; exact h
 rw [List.getElem?_eq_getElem hl]
 have h1 := (byte_eq _).1 this.1
 unfold by_ at *
 simpa [List.getD_eq_getElem?_getD, List.getElem?_eq_getElem hl] using h1
/-- No line feed in what a step takes. -/
theorem nl_none (h : pos < s.size) (hr : (Utf8.decode s pos).1 ≠ 10) : ∀ b ∈ ((by_ s).drop pos).take (Utf8.decode s pos).2, b ≠ 10 := by
 intro b hb e
 subst e
 obtain ⟨j, hj⟩ := List.mem_iff_getElem?.1 hb
 have hw := (width_le s pos h).2
 have hjw : j < (Utf8.decode s pos).2 := by
  rcases Nat.lt_or_ge j (Utf8.decode s pos).2 with h1 | h1
  ·exact h1
  ·rw [List.getElem?_take, if_neg (by omega)] at hj
   cases hj
 rw [List.getElem?_take, if_pos hjw, List.getElem?_drop] at hj
 have hg : ((by_ s).getD (pos + j) 0).toNat = 10 := by
  rw [List.getD_eq_getElem?_getD, hj]
  rfl
 rw [decode_N] at hr hjw
 obtain ⟨-, h2, -, h4, -⟩ := dec_nl (s.data.toList.length - pos) (s.data.toList.getD pos 0).toNat (s.data.toList.getD (pos + 1) 0).toNat (s.data.toList.getD (pos + 2) 0).toNat (s.data.toList.getD (pos + 3) 0).toNat
 obtain ⟨a0, a1, a2, a3⟩ := h2 hr
 unfold by_ at hg
 have : j = 0 ∨ j = 1 ∨ j = 2 ∨ j = 3 := by omega
 rcases this with rfl | rfl | rfl | rfl
 ·exact a0 hg
 ·exact a1 hjw hg
 ·exact a2 hjw hg
 ·exact a3 hjw hg
end
/-- The lines of what is to come, with what stands already of the first one. -/
def cutL : List UInt8 → List UInt8 → List (List UInt8)
 | cur, [] => if cur = [] then [] else [cur]
 | cur, b :: t => if b = 10 then cur :: cutL [] t else cutL (cur ++ [b]) t
def linesOf (l : List UInt8) : List (List UInt8) := cutL [] l
theorem cutL_skip (m : List UInt8) : ∀ (cur t : List UInt8), (∀ b ∈ m, b ≠ 10) → cutL cur (m ++ t) = cutL (cur ++ m) t := by
 induction m with
 | nil => intro cur t _; simp
 | cons b m ih =>
  intro cur t h
  rw [List.cons_append, cutL, if_neg (h b (by simp)), ih _ _ (fun x hx => h x (by simp [hx])), List.append_assoc]
  rfl
theorem cutL_nl (cur t : List UInt8) : cutL cur (10 :: t) = cur :: cutL [] t := by
 rw [cutL, if_pos rfl]
theorem cutL_len : ∀ (t cur : List UInt8), (cutL cur t).length ≤ t.length + 1 := by
 intro t
 induction t with
 | nil => intro cur; unfold cutL; split <;> simp
 | cons b t ih =>
  intro cur
  unfold cutL
  split
  ·have := ih []; simp; omega
  ·have := ih (cur ++ [b]); simp; omega
theorem cutL_mem : ∀ (t cur x : List UInt8), x ∈ cutL cur t → x.length ≤ cur.length + t.length := by
 intro t
 induction t with
 | nil =>
  intro cur x hx
  unfold cutL at hx
  split at hx
  ·cases hx
  ·simp at hx; subst hx; simp
 | cons b t ih =>
  intro cur x hx
  unfold cutL at hx
  split at hx
  ·rcases List.mem_cons.1 hx with rfl | h
   ·omega
   ·have := ih [] x h; simp at this ⊢; omega
  ·have := ih (cur ++ [b]) x hx; simp at this ⊢; omega
end Go.Proofs.YthaeomdpaadilaaGreatDoor

set_option linter.unusedVariables false
set_option linter.unusedSimpArgs false
namespace Go.Proofs.YthaeomdpaadilaaGreatDoor
open Go.RowKit Go.Lib
theorem only_iter {w w' : World} {S : List Nat} (h : Only S w w') {k : Nat} (s : ByteArray) (pos : Nat) (hk : k < w.heap.size → k ∈ S) : Only S w (w'.iterAt k s pos) :=
 ⟨h.os, h.tape, h.output, by rw [iterAt_size]; exact h.size, fun i hi hs => by
  rw [iterAt_other w' k i s pos (fun e => hs (e ▸ hk (e ▸ hi)))]
  exact h.keeps i hi hs⟩
/-- A row is no text's place. -/
theorem own_iter {w : World} {base : Nat} {e : TypeId} {size : Nat} {v : Value} {n : Nat} {xs : List Value} (h : w.ownsRow base e size v n xs) {k : Nat} {s : ByteArray} {pos : Nat} (hk : w.heap[k]? = some (.stringIter s pos)) (pos' : Nat) : (w.iterAt k s pos').ownsRow base e size v n xs := by
 have hO : Only [k] w (w.iterAt k s pos') := only_iter (Only.refl [k] w) s pos' (by simp)
 refine own_only h hO (fun g hg hm => ?_)
 simp at hm
 subst hm
 obtain ⟨cur, hcur⟩ := own_blk h hg
 unfold Blk at hcur
 rw [hk] at hcur
 cases hcur
theorem tinfo_string : (Tryz.prog.info? 9).map (fun i => (i.zero, i.size, i.bytes)) = some (some (.string ⟨#[]⟩), 1, 16) := by kernel_rfl
def strs (xs : List ByteArray) : List Value := xs.map Value.string
end Go.Proofs.YthaeomdpaadilaaGreatDoor

set_option linter.unusedVariables false
set_option linter.unusedSimpArgs false
namespace Go.Proofs.YthaeomdpaadilaaGreatDoor
open Go.RowKit
open Go.Lib
/-- An op: a write or a read, its key, its value. -/
structure Op4 where
 wr : Bool
 key : Int
 vk : Int
 vn : Int
def Op4.c (x : Op4) : List Value := [.bool x.wr, .int .i64 x.key, .int .i64 x.vk, .int .i64 x.vn]
def opC (l : List Op4) : List Value := l.flatMap Op4.c
/-- A transaction. -/
structure Tx where
 s : Int
 f : Int
 ops : List Op4
/-- A transaction with where its ops lie. -/
structure TxA where
 t : Tx
 A : Option Addr
 cp : Nat
def TxA.c (x : TxA) : List Value := [.int .i64 x.t.s, .int .i64 x.t.f, .slice x.A x.t.ops.length x.cp]
def txC (l : List TxA) : List Value := l.flatMap TxA.c
structure Hst where
 ss : List ByteArray
 ks : List ByteArray
 l : List Tx
theorem flat_len {α : Type} (f : α → List Value) (n : Nat) (h : ∀ x, (f x).length = n) (l : List α) : (l.flatMap f).length = l.length * n := by
 induction l with
 | nil => simp
 | cons x l ih => rw [List.flatMap_cons, List.length_append, ih, h, List.length_cons, Nat.add_mul, Nat.one_mul, Nat.add_comm]
theorem flat_get {α : Type} (f : α → List Value) (n : Nat) (h : ∀ x, (f x).length = n) : ∀ (l : List α) (i : Nat) (x : α), l[i]? = some x → ∀ j, j < n → (l.flatMap f)[i * n + j]? = (f x)[j]?
 | [], i, x, hx, _, _ => by simp at hx
 | y :: l, 0, x, hx, j, hj => by
  simp at hx
  subst hx
  rw [List.flatMap_cons, List.getElem?_append_left (by rw [h]; omega), Nat.zero_mul, Nat.zero_add]
 | y :: l, i + 1, x, hx, j, hj => by
  have := flat_get f n h l i x (by simpa using hx) j hj
  rw [List.flatMap_cons, List.getElem?_append_right (by rw [h, Nat.add_mul]; omega), ← this]
  congr 1
  rw [h, Nat.add_mul]
  omega
theorem opC_len (l : List Op4) : (opC l).length = l.length * 4 := flat_len _ 4 (fun _ => rfl) l
theorem txC_len (l : List TxA) : (txC l).length = l.length * 3 := flat_len _ 3 (fun _ => rfl) l
theorem opC_get (l : List Op4) (i : Nat) (x : Op4) (h : l[i]? = some x) : ∀ j, j < 4 → (opC l)[i * 4 + j]? = x.c[j]? := flat_get _ 4 (fun _ => rfl) l i x h
theorem txC_get (l : List TxA) (i : Nat) (x : TxA) (h : l[i]? = some x) : ∀ j, j < 3 → (txC l)[i * 3 + j]? = x.c[j]? := flat_get _ 3 (fun _ => rfl) l i x h
theorem opC_append (l k : List Op4) : opC (l ++ k) = opC l ++ opC k := by simp [opC]
theorem txC_append (l k : List TxA) : txC (l ++ k) = txC l ++ txC k := by simp [txC]
/-- The cells from a place on are an op's. -/
structure OpAt (w : World) (b o : Nat) (x : Op4) : Prop where
 c0 : w.cell? ⟨b, o, none⟩ = some (.bool x.wr)
 c1 : w.cell? ⟨b, o + 1, none⟩ = some (.int .i64 x.key)
 c2 : w.cell? ⟨b, o + 2, none⟩ = some (.int .i64 x.vk)
 c3 : w.cell? ⟨b, o + 3, none⟩ = some (.int .i64 x.vn)
theorem OpAt.only {S : List Nat} {w w' : World} {b o : Nat} {x : Op4} (h : OpAt w b o x) (ho : Only S w w') (hb : b < w.heap.size) (hs : b ∉ S) : OpAt w' b o x :=
 ⟨(ho.cell (p := ⟨b, o, none⟩) hb hs).trans h.c0, (ho.cell (p := ⟨b, o + 1, none⟩) hb hs).trans h.c1, (ho.cell (p := ⟨b, o + 2, none⟩) hb hs).trans h.c2, (ho.cell (p := ⟨b, o + 3, none⟩) hb hs).trans h.c3⟩
theorem row_op {w : World} {B : Nat} {A : Option Addr} {l : List Op4} (h : Row w B A (opC l)) {k : Nat} {x : Op4} (hk : l[k]? = some x) : ∃ b off, A = some ⟨b, off, none⟩ ∧ b < B ∧ b < w.heap.size ∧ OpAt w b (off + k * 4) x := by
 have hlt := (List.getElem?_eq_some_iff.1 hk).1
 obtain ⟨b, off, rfl, h1, h2, hc⟩ := h.open_ (k := k * 4) (by rw [opC_len]; omega)
 have g := opC_get l k x hk
 refine ⟨b, off, rfl, h1, h2, ⟨?_, ?_, ?_, ?_⟩⟩
 ·exact hc (k * 4) _ (g 0 (by omega))
 ·rw [Nat.add_assoc]; exact hc _ _ (g 1 (by omega))
 ·rw [Nat.add_assoc]; exact hc _ _ (g 2 (by omega))
 ·rw [Nat.add_assoc]; exact hc _ _ (g 3 (by omega))
/-- The cells from a place on are a transaction's. -/
structure TxAt (w : World) (b o : Nat) (x : TxA) : Prop where
 c0 : w.cell? ⟨b, o, none⟩ = some (.int .i64 x.t.s)
 c1 : w.cell? ⟨b, o + 1, none⟩ = some (.int .i64 x.t.f)
 c2 : w.cell? ⟨b, o + 2, none⟩ = some (.slice x.A x.t.ops.length x.cp)
theorem TxAt.only {S : List Nat} {w w' : World} {b o : Nat} {x : TxA} (h : TxAt w b o x) (ho : Only S w w') (hb : b < w.heap.size) (hs : b ∉ S) : TxAt w' b o x :=
 ⟨(ho.cell (p := ⟨b, o, none⟩) hb hs).trans h.c0, (ho.cell (p := ⟨b, o + 1, none⟩) hb hs).trans h.c1, (ho.cell (p := ⟨b, o + 2, none⟩) hb hs).trans h.c2⟩
/-- A transaction's ops lie there. -/
structure TxOk (w : World) (B : Nat) (x : TxA) : Prop where
 row : Row w B x.A (opC x.t.ops)
 le : x.t.ops.length ≤ x.cp
 cap : x.cp ≤ maxLen
theorem TxOk.only {S : List Nat} {w w' : World} {B : Nat} {x : TxA} (h : TxOk w B x) (ho : Only S w w') (hS : ∀ i ∈ S, B ≤ i) : TxOk w' B x := ⟨h.row.only ho hS, h.le, h.cap⟩
theorem TxOk.up {w : World} {B : Nat} {x : TxA} (h : TxOk w B x) : TxOk w w.heap.size x := ⟨row_up h.row, h.le, h.cap⟩
/-- From A on lie the transactions l, their ops wherever. -/
def LRow (w : World) (B : Nat) (A : Option Addr) (l : List Tx) : Prop := ∃ xs : List TxA, xs.map TxA.t = l ∧ Row w B A (txC xs) ∧ ∀ x ∈ xs, TxOk w B x
theorem LRow.only {S : List Nat} {w w' : World} {B : Nat} {A : Option Addr} {l : List Tx} (h : LRow w B A l) (ho : Only S w w') (hS : ∀ i ∈ S, B ≤ i) : LRow w' B A l := by
 obtain ⟨xs, h1, h2, h3⟩ := h
 exact ⟨xs, h1, h2.only ho hS, fun x hx => (h3 x hx).only ho hS⟩
theorem LRow.up {w : World} {B : Nat} {A : Option Addr} {l : List Tx} (h : LRow w B A l) : LRow w w.heap.size A l := by
 obtain ⟨xs, h1, h2, h3⟩ := h
 exact ⟨xs, h1, row_up h2, fun x hx => (h3 x hx).up⟩
theorem LRow.nil {w : World} {B : Nat} {A : Option Addr} : LRow w B A [] := ⟨[], rfl, .inl rfl, fun x hx => by cases hx⟩
theorem LRow.at_ {w : World} {B : Nat} {A : Option Addr} {l : List Tx} (h : LRow w B A l) {k : Nat} {t : Tx} (hk : l[k]? = some t) :
  ∃ b off A' cp, A = some ⟨b, off, none⟩ ∧ b < B ∧ b < w.heap.size ∧ TxAt w b (off + k * 3) ⟨t, A', cp⟩ ∧ TxOk w B ⟨t, A', cp⟩ := by
 obtain ⟨xs, rfl, h2, h3⟩ := h
 rw [List.getElem?_map] at hk
 cases hx : xs[k]? with
 | none => rw [hx] at hk; cases hk
 | some x =>
  rw [hx] at hk
  simp at hk
  subst hk
  have hlt := (List.getElem?_eq_some_iff.1 hx).1
  obtain ⟨b, off, rfl, h4, h5, hc⟩ := h2.open_ (k := k * 3) (by rw [txC_len]; omega)
  have g := txC_get xs k x hx
  refine ⟨b, off, x.A, x.cp, rfl, h4, h5, ⟨?_, ?_, ?_⟩, h3 x (List.mem_of_getElem? hx)⟩
  ·exact hc (k * 3) _ (g 0 (by omega))
  ·rw [Nat.add_assoc]; exact hc _ _ (g 1 (by omega))
  ·rw [Nat.add_assoc]; exact hc _ _ (g 2 (by omega))
/-- A history lies there: its three slices. -/
structure HAt (w : World) (B : Nat) (A0 A1 A2 : Option Addr) (h : Hst) : Prop where
 r0 : Row w B A0 (strs h.ss)
 r1 : Row w B A1 (strs h.ks)
 r2 : LRow w B A2 h.l
theorem HAt.only {S : List Nat} {w w' : World} {B : Nat} {A0 A1 A2 : Option Addr} {h : Hst} (g : HAt w B A0 A1 A2 h) (ho : Only S w w') (hS : ∀ i ∈ S, B ≤ i) : HAt w' B A0 A1 A2 h := ⟨g.r0.only ho hS, g.r1.only ho hS, g.r2.only ho hS⟩
theorem HAt.up {w : World} {B : Nat} {A0 A1 A2 : Option Addr} {h : Hst} (g : HAt w B A0 A1 A2 h) : HAt w w.heap.size A0 A1 A2 h := ⟨row_up g.r0, row_up g.r1, g.r2.up⟩
/-- The value of a history. -/
def hval (A0 A1 A2 : Option Addr) (n0 n1 n2 c0 c1 c2 : Nat) : Value := .agg #[.slice A0 n0 c0, .slice A1 n1 c1, .slice A2 n2 c2]
/-- No text of a history is too long, and it has not too many of anything. -/
structure HSmall (h : Hst) : Prop where
 s : ∀ x ∈ h.ss, x.size ≤ 65537
 k : ∀ x ∈ h.ks, x.size ≤ 65537
 ns : h.ss.length ≤ 1000
 nk : h.ks.length ≤ 1000
 nl : h.l.length ≤ 1000
 no : ∀ t ∈ h.l, t.ops.length ≤ 1000
end Go.Proofs.YthaeomdpaadilaaGreatDoor

set_option linter.unusedVariables false
set_option linter.unusedSimpArgs false
namespace Go.Proofs.YthaeomdpaadilaaGreatDoor
open Go.Lib
/-- The bytes of the rune that stands first; 0: none does. -/
def szOf (n b0 b1 b2 b3 : Nat) : Nat := if decodeN n b0 b1 b2 b3 = (65533, 1) then 0 else (decodeN n b0 b1 b2 b3).2
theorem sz_ascii {n b0 b1 b2 b3 : Nat} (h : b0 < 128) : szOf n b0 b1 b2 b3 = 1 := by
 unfold szOf
 rw [dec_small h, if_neg]
 intro e
 have := congrArg Prod.fst e
 simp at this
 omega
theorem sz_bad {n b0 b1 b2 b3 : Nat} (h : decodeN n b0 b1 b2 b3 = (65533, 1)) : szOf n b0 b1 b2 b3 = 0 := by
 unfold szOf
 rw [if_pos h]
theorem sz_none {n b0 b1 b2 b3 : Nat} (h0 : 128 ≤ b0) (h : b0 < 194 ∨ 244 < b0) (hb : b0 < 256) : szOf n b0 b1 b2 b3 = 0 :=
 sz_bad (decodeN_bad n b0 b1 b2 b3 (by omega))
theorem sz_two_bad {n b0 b1 b2 b3 : Nat} (h0 : 194 ≤ b0) (h1 : b0 ≤ 223) (h : n < 2 ∨ b1 < 128 ∨ 191 < b1) (hb : b1 < 256) : szOf n b0 b1 b2 b3 = 0 := by
 apply sz_bad
 rcases decodeN_shape n b0 b1 b2 b3 with ⟨c, e⟩ | ⟨c1, c2, c3, cv, e⟩ | ⟨c1, c2, c3, c4, cv, cs, e⟩ | ⟨c1, c2, c3, c4, c5, cv, cw, e⟩ | e
 ·omega
 ·omega
 ·omega
 ·omega
 ·exact e
theorem sz_two {n b0 b1 b2 b3 : Nat} (h0 : 194 ≤ b0) (h1 : b0 ≤ 223) (h : 2 ≤ n) (hl : 128 ≤ b1) (hu : b1 ≤ 191) : szOf n b0 b1 b2 b3 = 2 := by
 have e : decodeN n b0 b1 b2 b3 = (b0 % 32 * 64 + b1 % 64, 2) := by
  unfold decodeN
  rw [if_neg (by omega), if_pos ⟨by omega, by omega, by omega⟩, if_pos (by omega)]
 unfold szOf
 rw [e, if_neg]
 intro e2
 have := congrArg Prod.snd e2
 simp at this
theorem sz_three_bad {n b0 b1 b2 b3 : Nat} (h0 : 224 ≤ b0) (h1 : b0 ≤ 239) (hb1 : b1 < 256) (hb2 : b2 < 256)
  (h : n < 3 ∨ b1 < 128 ∨ 191 < b1 ∨ b2 < 128 ∨ 191 < b2 ∨ (b0 - 224) * 4096 + (b1 - 128) * 64 + (b2 - 128) < 2048 ∨ (55296 ≤ (b0 - 224) * 4096 + (b1 - 128) * 64 + (b2 - 128) ∧ (b0 - 224) * 4096 + (b1 - 128) * 64 + (b2 - 128) ≤ 57343)) : szOf n b0 b1 b2 b3 = 0 := by
 apply sz_bad
 rcases decodeN_shape n b0 b1 b2 b3 with ⟨c, e⟩ | ⟨c1, c2, c3, cv, e⟩ | ⟨c1, c2, c3, c4, cv, cs, e⟩ | ⟨c1, c2, c3, c4, c5, cv, cw, e⟩ | e
 ·omega
 ·omega
 ·exfalso
  have a1 : b0 % 16 = b0 - 224 := by omega
  have a2 : b1 % 64 = b1 - 128 := by omega
  have a3 : b2 % 64 = b2 - 128 := by omega
  rw [a1, a2, a3] at cv cs
  omega
 ·omega
 ·exact e
theorem sz_three {n b0 b1 b2 b3 : Nat} (h0 : 224 ≤ b0) (h1 : b0 ≤ 239) (h : 3 ≤ n) (hl : 128 ≤ b1) (hu : b1 ≤ 191) (hl2 : 128 ≤ b2) (hu2 : b2 ≤ 191)
  (hv : 2048 ≤ (b0 - 224) * 4096 + (b1 - 128) * 64 + (b2 - 128)) (hs : (b0 - 224) * 4096 + (b1 - 128) * 64 + (b2 - 128) < 55296 ∨ 57343 < (b0 - 224) * 4096 + (b1 - 128) * 64 + (b2 - 128)) : szOf n b0 b1 b2 b3 = 3 := by
 have a1 : b0 % 16 = b0 - 224 := by omega
 have a2 : b1 % 64 = b1 - 128 := by omega
 have a3 : b2 % 64 = b2 - 128 := by omega
 have e : decodeN n b0 b1 b2 b3 = ((b0 - 224) * 4096 + (b1 - 128) * 64 + (b2 - 128), 3) := by
  unfold decodeN
  rw [if_neg (by omega), if_neg (by omega), if_pos ⟨by omega, ⟨by omega, by omega⟩, by omega, by omega⟩, a1, a2, a3, if_pos ⟨by omega, by omega⟩]
 unfold szOf
 rw [e, if_neg]
 intro e2
 have := congrArg Prod.snd e2
 simp at this
theorem sz_four_bad {n b0 b1 b2 b3 : Nat} (h0 : 240 ≤ b0) (h1 : b0 ≤ 244) (hb1 : b1 < 256) (hb2 : b2 < 256) (hb3 : b3 < 256)
  (h : n < 4 ∨ b1 < 128 ∨ 191 < b1 ∨ b2 < 128 ∨ 191 < b2 ∨ b3 < 128 ∨ 191 < b3 ∨ (b0 - 240) * 262144 + (b1 - 128) * 4096 + (b2 - 128) * 64 + (b3 - 128) < 65536 ∨ 1114111 < (b0 - 240) * 262144 + (b1 - 128) * 4096 + (b2 - 128) * 64 + (b3 - 128)) : szOf n b0 b1 b2 b3 = 0 := by
 apply sz_bad
 rcases decodeN_shape n b0 b1 b2 b3 with ⟨c, e⟩ | ⟨c1, c2, c3, cv, e⟩ | ⟨c1, c2, c3, c4, cv, cs, e⟩ | ⟨c1, c2, c3, c4, c5, cv, cw, e⟩ | e
 ·omega
 ·omega
 ·omega
 ·exfalso
  have a1 : b0 % 8 = b0 - 240 := by omega
  have a2 : b1 % 64 = b1 - 128 := by omega
  have a3 : b2 % 64 = b2 - 128 := by omega
  have a4 : b3 % 64 = b3 - 128 := by omega
  rw [a1, a2, a3, a4] at cv cw
  omega
 ·exact e
theorem sz_four {n b0 b1 b2 b3 : Nat} (h0 : 240 ≤ b0) (h1 : b0 ≤ 244) (h : 4 ≤ n) (hl : 128 ≤ b1) (hu : b1 ≤ 191) (hl2 : 128 ≤ b2) (hu2 : b2 ≤ 191) (hl3 : 128 ≤ b3) (hu3 : b3 ≤ 191)
  (hv : 65536 ≤ (b0 - 240) * 262144 + (b1 - 128) * 4096 + (b2 - 128) * 64 + (b3 - 128)) (hs : (b0 - 240) * 262144 + (b1 - 128) * 4096 + (b2 - 128) * 64 + (b3 - 128) ≤ 1114111) : szOf n b0 b1 b2 b3 = 4 := by
 have a1 : b0 % 8 = b0 - 240 := by omega
 have a2 : b1 % 64 = b1 - 128 := by omega
 have a3 : b2 % 64 = b2 - 128 := by omega
 have a4 : b3 % 64 = b3 - 128 := by omega
 have e : decodeN n b0 b1 b2 b3 = ((b0 - 240) * 262144 + (b1 - 128) * 4096 + (b2 - 128) * 64 + (b3 - 128), 4) := by
  unfold decodeN
  rw [if_neg (by omega), if_neg (by omega), if_neg (by omega), if_pos ⟨by omega, ⟨by omega, by omega⟩, ⟨by omega, by omega⟩, by omega, by omega⟩, a1, a2, a3, a4, if_pos ⟨by omega, by omega⟩]
 unfold szOf
 rw [e, if_neg]
 intro e2
 have := congrArg Prod.snd e2
 simp at this
/-- At a place of a text. -/
def szAt (s : ByteArray) (pos : Nat) : Nat := szOf (s.size - pos) ((by_ s).getD pos 0).toNat ((by_ s).getD (pos + 1) 0).toNat ((by_ s).getD (pos + 2) 0).toNat ((by_ s).getD (pos + 3) 0).toNat
theorem dec_at (s : ByteArray) (pos : Nat) : Utf8.decode s pos = decodeN (s.size - pos) ((by_ s).getD pos 0).toNat ((by_ s).getD (pos + 1) 0).toNat ((by_ s).getD (pos + 2) 0).toNat ((by_ s).getD (pos + 3) 0).toNat := by
 rw [decode_N, ← by_length]
 rfl
theorem decL_at (s : ByteArray) (pos : Nat) : decodeL ((by_ s).drop pos) = Utf8.decode s pos := by
 rw [decodeL_N, dec_at, List.length_drop, by_length]
 congr 2
 all_goals simp [List.getD_eq_getElem?_getD, List.getElem?_drop]
/-- A rune stands at a place just if the decoder finds one; then it has as many bytes. -/
theorem sz_step (s : ByteArray) (pos : Nat) (h : pos < s.size) :
  (szAt s pos = 0 ∧ validD ((by_ s).drop pos) = false) ∨
  (szAt s pos = (Utf8.decode s pos).2 ∧ 1 ≤ szAt s pos ∧ pos + szAt s pos ≤ s.size ∧ validD ((by_ s).drop pos) = validD ((by_ s).drop (pos + szAt s pos))) := by
 have hne : (by_ s).drop pos ≠ [] := by
  intro e
  have := congrArg List.length e
  rw [List.length_drop, by_length] at this
  simp at this
  omega
 have hst := validD_step _ hne
 rw [decL_at] at hst
 have hw := width_le s pos h
 unfold szAt szOf
 rw [← dec_at]
 by_cases hb : Utf8.decode s pos = (65533, 1)
 ·left
  rw [if_pos hb]
  refine ⟨rfl, ?_⟩
  rw [hst, if_pos (by rw [hb]; exact ⟨rfl, rfl⟩)]
 ·right
  rw [if_neg hb]
  refine ⟨rfl, hw.1, hw.2, ?_⟩
  rw [hst, if_neg (fun h => hb (Prod.ext h.1 h.2)), List.drop_drop]
theorem byte_at (s : ByteArray) (k : Nat) (h : k < s.size) : s[k].toNat = ((by_ s).getD k 0).toNat := by
 have hl : k < (by_ s).length := by rw [by_length]; exact h
 rw [List.getD_eq_getElem?_getD, List.getElem?_eq_getElem hl]
 rfl
theorem byte_lt (s : ByteArray) (k : Nat) : ((by_ s).getD k 0).toNat < 256 := UInt8.toNat_lt _
end Go.Proofs.YthaeomdpaadilaaGreatDoor
