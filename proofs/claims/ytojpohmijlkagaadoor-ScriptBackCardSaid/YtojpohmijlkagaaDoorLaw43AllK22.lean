/- Parts. -/
import Derived.Lib.SlicesCompact
import Derived.Lib.SlicesS
import Derived.Test.YtojpohmijlkagaaDoorLaw43AllK21
import Derived.Maps.OwnSet
set_option maxRecDepth 10000
set_option maxHeartbeats 16000000
set_option linter.unusedVariables false
set_option linter.unusedSimpArgs false
namespace Go.Proofs.YtojpohmijlkagaaDoor
open Go.RowKit
open Go.Lib
structure Op4 where
 wr : Bool
 key : Int
 vk : Int
 vn : Int
def Op4.c (x : Op4) : List Value := [.bool x.wr, .int .i64 x.key, .int .i64 x.vk, .int .i64 x.vn]
def opC (l : List Op4) : List Value := l.flatMap Op4.c
structure Tx where
 s : Int
 f : Int
 ops : List Op4
structure TxA where
 t : Tx
 A : Option Addr
 cp : Nat
def TxA.c (x : TxA) : List Value := [.int .i64 x.t.s, .int .i64 x.t.f, .slice x.A x.t.ops.length x.cp]
def txC (l : List TxA) : List Value := l.flatMap TxA.c
structure Hst where
 ss : List ByteArray
 ks : List ByteArray
 l : List Tx
theorem flat_len {α : Type} (f : α → List Value) (n : Nat) (h : ∀ x, (f x).length = n) (l : List α) : (l.flatMap f).length = l.length * n := by
 induction l with
 | nil => simp
 | cons x l ih => rw [List.flatMap_cons, List.length_append, ih, h, List.length_cons, Nat.add_mul, Nat.one_mul, Nat.add_comm]
theorem flat_get {α : Type} (f : α → List Value) (n : Nat) (h : ∀ x, (f x).length = n) : ∀ (l : List α) (i : Nat) (x : α), l[i]? = some x → ∀ j, j < n → (l.flatMap f)[i * n + j]? = (f x)[j]?
 | [], i, x, hx, _, _ => by simp at hx
 | y :: l, 0, x, hx, j, hj => by
  simp at hx;subst hx;rw [List.flatMap_cons, List.getElem?_append_left (by rw [h]; omega), Nat.zero_mul, Nat.zero_add]
 | y :: l, i + 1, x, hx, j, hj => by
  have := flat_get f n h l i x (by simpa using hx) j hj;rw [List.flatMap_cons, List.getElem?_append_right (by rw [h, Nat.add_mul]; omega), ← this]
  congr 1
  rw [h, Nat.add_mul];omega
theorem txC_len (l : List TxA) : (txC l).length = l.length * 3 := flat_len _ 3 (fun _ => rfl) l
theorem txC_get (l : List TxA) (i : Nat) (x : TxA) (h : l[i]? = some x) : ∀ j, j < 3 → (txC l)[i * 3 + j]? = x.c[j]? := flat_get _ 3 (fun _ => rfl) l i x h
structure OpAt (w : World) (b o : Nat) (x : Op4) : Prop where
 c0 : w.cell? ⟨b, o, none⟩ = some (.bool x.wr)
 c1 : w.cell? ⟨b, o + 1, none⟩ = some (.int .i64 x.key)
 c2 : w.cell? ⟨b, o + 2, none⟩ = some (.int .i64 x.vk)
 c3 : w.cell? ⟨b, o + 3, none⟩ = some (.int .i64 x.vn)
theorem OpAt.only {S : List Nat} {w w' : World} {b o : Nat} {x : Op4} (h : OpAt w b o x) (ho : Only S w w') (hb : b < w.heap.size) (hs : b ∉ S) : OpAt w' b o x :=
 ⟨(ho.cell (p := ⟨b, o, none⟩) hb hs).trans h.c0, (ho.cell (p := ⟨b, o + 1, none⟩) hb hs).trans h.c1, (ho.cell (p := ⟨b, o + 2, none⟩) hb hs).trans h.c2, (ho.cell (p := ⟨b, o + 3, none⟩) hb hs).trans h.c3⟩
structure TxAt (w : World) (b o : Nat) (x : TxA) : Prop where
 c0 : w.cell? ⟨b, o, none⟩ = some (.int .i64 x.t.s)
 c1 : w.cell? ⟨b, o + 1, none⟩ = some (.int .i64 x.t.f)
 c2 : w.cell? ⟨b, o + 2, none⟩ = some (.slice x.A x.t.ops.length x.cp)
theorem TxAt.only {S : List Nat} {w w' : World} {b o : Nat} {x : TxA} (h : TxAt w b o x) (ho : Only S w w') (hb : b < w.heap.size) (hs : b ∉ S) : TxAt w' b o x :=
 ⟨(ho.cell (p := ⟨b, o, none⟩) hb hs).trans h.c0, (ho.cell (p := ⟨b, o + 1, none⟩) hb hs).trans h.c1, (ho.cell (p := ⟨b, o + 2, none⟩) hb hs).trans h.c2⟩
structure TxOk (w : World) (B : Nat) (x : TxA) : Prop where
 row : Row w B x.A (opC x.t.ops)
 le : x.t.ops.length ≤ x.cp
 cap : x.cp ≤ maxLen
theorem TxOk.only {S : List Nat} {w w' : World} {B : Nat} {x : TxA} (h : TxOk w B x) (ho : Only S w w') (hS : ∀ i ∈ S, B ≤ i) : TxOk w' B x := ⟨h.row.only ho hS, h.le, h.cap⟩
theorem TxOk.up {w : World} {B : Nat} {x : TxA} (h : TxOk w B x) : TxOk w w.heap.size x := ⟨row_up h.row, h.le, h.cap⟩
def LRow (w : World) (B : Nat) (A : Option Addr) (l : List Tx) : Prop := ∃ xs : List TxA, xs.map TxA.t = l ∧ Row w B A (txC xs) ∧ ∀ x ∈ xs, TxOk w B x
theorem LRow.only {S : List Nat} {w w' : World} {B : Nat} {A : Option Addr} {l : List Tx} (h : LRow w B A l) (ho : Only S w w') (hS : ∀ i ∈ S, B ≤ i) : LRow w' B A l := by
 obtain ⟨xs, h1, h2, h3⟩ := h;exact ⟨xs, h1, h2.only ho hS, fun x hx => (h3 x hx).only ho hS⟩
theorem LRow.up {w : World} {B : Nat} {A : Option Addr} {l : List Tx} (h : LRow w B A l) : LRow w w.heap.size A l := by
 obtain ⟨xs, h1, h2, h3⟩ := h;exact ⟨xs, h1, row_up h2, fun x hx => (h3 x hx).up⟩
theorem LRow.nil {w : World} {B : Nat} {A : Option Addr} : LRow w B A [] := ⟨[], rfl, .inl rfl, fun x hx => by cases hx⟩
theorem LRow.at_ {w : World} {B : Nat} {A : Option Addr} {l : List Tx} (h : LRow w B A l) {k : Nat} {t : Tx} (hk : l[k]? = some t) :
  ∃ b off A' cp, A = some ⟨b, off, none⟩ ∧ b < B ∧ b < w.heap.size ∧ TxAt w b (off + k * 3) ⟨t, A', cp⟩ ∧ TxOk w B ⟨t, A', cp⟩ := by
 obtain ⟨xs, rfl, h2, h3⟩ := h;rw [List.getElem?_map] at hk
 cases hx : xs[k]? with
 | none => rw [hx] at hk; cases hk
 | some x =>
  rw [hx] at hk;simp at hk;subst hk;have hlt := (List.getElem?_eq_some_iff.1 hx).1;obtain ⟨b, off, rfl, h4, h5, hc⟩ := h2.open_ (k := k * 3) (by rw [txC_len]; omega);have g := txC_get xs k x hx;refine ⟨b, off, x.A, x.cp, rfl, h4, h5, ⟨?_, ?_, ?_⟩, h3 x (List.mem_of_getElem? hx)⟩
  ·exact hc (k * 3) _ (g 0 (by omega))
  ·rw [Nat.add_assoc]; exact hc _ _ (g 1 (by omega))
  ·rw [Nat.add_assoc]; exact hc _ _ (g 2 (by omega))
structure HAt (w : World) (B : Nat) (A0 A1 A2 : Option Addr) (h : Hst) : Prop where
 r0 : Row w B A0 (strs h.ss)
 r1 : Row w B A1 (strs h.ks)
 r2 : LRow w B A2 h.l
theorem HAt.only {S : List Nat} {w w' : World} {B : Nat} {A0 A1 A2 : Option Addr} {h : Hst} (g : HAt w B A0 A1 A2 h) (ho : Only S w w') (hS : ∀ i ∈ S, B ≤ i) : HAt w' B A0 A1 A2 h := ⟨g.r0.only ho hS, g.r1.only ho hS, g.r2.only ho hS⟩
theorem HAt.up {w : World} {B : Nat} {A0 A1 A2 : Option Addr} {h : Hst} (g : HAt w B A0 A1 A2 h) : HAt w w.heap.size A0 A1 A2 h := ⟨row_up g.r0, row_up g.r1, g.r2.up⟩
def hval (A0 A1 A2 : Option Addr) (n0 n1 n2 c0 c1 c2 : Nat) : Value := .agg #[.slice A0 n0 c0, .slice A1 n1 c1, .slice A2 n2 c2]
end Go.Proofs.YtojpohmijlkagaaDoor
namespace Go.Proofs.YtojpohmijlkagaaDoor
open Go.Lib


end Go.Proofs.YtojpohmijlkagaaDoor
namespace Go.Proofs.YtojpohmijlkagaaDoor
open Go.RowKit
open Go.Lib hiding intOf
structure Pt where
 s : ByteArray
 f : Int
 ln : Int
 ks : List ByteArray
 ops : List Op4
structure PtA where
 p : Pt
 A : Option Addr
 c : Nat
 Z : Option Addr
 d : Nat
def PtA.c5 (x : PtA) : List Value := [.string x.p.s, .int .i64 x.p.f, .int .i64 x.p.ln, .slice x.A x.p.ks.length x.c, .slice x.Z x.p.ops.length x.d]
end Go.Proofs.YtojpohmijlkagaaDoor
