/- Parts. -/
import Derived.Test.YtbiclliooidkjaaGreatDoorProg
import Derived.Ground.NamesProg
import Derived.Shelf.Unicode.ValidAny
import Derived.Lib.MapLaws
import Derived.Lib.TrimUEq
import Derived.Lib.RuneCount
import Derived.Test.YtbiclliooidkjaaGreatDoorLaw41AllK1
import Derived.Lib.OthersKept
import Derived.Laws.RangeString
import Derived.Laws.RangeAny
import Derived.Laws.Strings2
import Derived.WalkSmall
set_option maxRecDepth 10000
set_option maxHeartbeats 16000000
set_option linter.unusedVariables false
set_option linter.unusedSimpArgs false
namespace Go.Proofs
open Go.Shelf
def Tryz.laysValid_ren : Go.Shelf.Ren := ⟨fun | 196 => 74 | 259 => 90 | n => n, fun | 9 => 9 | 4 => 4 | 3 => 3 | 5 => 5 | 12 => 12 | 119 => 145 | 0 => 0 | 46 => 62 | 139 => 148 | 138 => 147 | 53 => 84 | n => n, fun | 3 => 0 | 4 => 1 | n => n⟩
theorem Tryz.laysValid : Go.Proofs.Lays.n196 Tryz.prog Tryz.laysValid_ren := {
 mixed := by kernel_rfl
 f196 := Tryz.func74.trans (congrArg some (by kernel_rfl))
 f259 := Tryz.func90.trans (congrArg some (by kernel_rfl))
 t0 := Tryz.underlying0
 a0 := Tryz.isAgg0
 z0 := Tryz.sizeOf0
 v0 := Tryz.zeroValue0
 t3 := Tryz.underlying3
 a3 := Tryz.isAgg3
 z3 := Tryz.sizeOf3
 v3 := Tryz.zeroValue3
 t4 := Tryz.underlying4
 a4 := Tryz.isAgg4
 z4 := Tryz.sizeOf4
 v4 := Tryz.zeroValue4
 t5 := Tryz.underlying5
 a5 := Tryz.isAgg5
 z5 := Tryz.sizeOf5
 v5 := Tryz.zeroValue5
 t9 := Tryz.underlying9
 a9 := Tryz.isAgg9
 z9 := Tryz.sizeOf9
 v9 := Tryz.zeroValue9
 t12 := Tryz.underlying12
 a12 := Tryz.isAgg12
 z12 := Tryz.sizeOf12
 v12 := Tryz.zeroValue12
 t46 := Tryz.underlying62
 a46 := Tryz.isAgg62
 z46 := Tryz.sizeOf62
 v46 := Tryz.zeroValue62
 t53 := Tryz.underlying84
 a53 := Tryz.isAgg84
 z53 := Tryz.sizeOf84
 v53 := Tryz.zeroValue84
 t119 := Tryz.underlying145
 a119 := Tryz.isAgg145
 z119 := Tryz.sizeOf145
 t138 := Tryz.underlying147
 a138 := Tryz.isAgg147
 z138 := Tryz.sizeOf147
 v138 := Tryz.zeroValue147
 t139 := Tryz.underlying148
 a139 := Tryz.isAgg148
 z139 := Tryz.sizeOf148
 v139 := Tryz.zeroValue148
 g3 := by kernel_rfl
 g4 := by kernel_rfl }
end Go.Proofs
namespace Go.Proofs.YtbiclliooidkjaaGreatDoor
open Go.Lib
def by_ (s : ByteArray) : List UInt8 := s.data.toList
theorem by_length (s : ByteArray) : (by_ s).length = s.size := by
 unfold by_;exact (size_eq s).symm
theorem by_inj {s t : ByteArray} (h : by_ s = by_ t) : s = t := by
 unfold by_ at h
 cases s
 cases t
 simp at h;rw [h]
theorem by_extract (s : ByteArray) (a b : Nat) : by_ (s.extract a b) = ((by_ s).take b).drop a := by
 unfold by_;rw [ByteArray.data_extract, Array.toList_extract, List.extract_eq_take_drop, List.drop_take]
theorem by_append (s t : ByteArray) : by_ (s ++ t) = by_ s ++ by_ t := by
 unfold by_;rw [ByteArray.data_append, Array.toList_append]
theorem dec_small {n b0 b1 b2 b3 : Nat} (h : b0 < 128) : decodeN n b0 b1 b2 b3 = (b0, 1) := by
 unfold decodeN;rw [if_pos h]
theorem dec_nl (n b0 b1 b2 b3 : Nat) : ((decodeN n b0 b1 b2 b3).1 = 10 → b0 = 10 ∧ (decodeN n b0 b1 b2 b3).2 = 1) ∧
  ((decodeN n b0 b1 b2 b3).1 ≠ 10 → b0 ≠ 10 ∧ (1 < (decodeN n b0 b1 b2 b3).2 → b1 ≠ 10) ∧ (2 < (decodeN n b0 b1 b2 b3).2 → b2 ≠ 10) ∧ (3 < (decodeN n b0 b1 b2 b3).2 → b3 ≠ 10)) ∧
  1 ≤ (decodeN n b0 b1 b2 b3).2 ∧ (decodeN n b0 b1 b2 b3).2 ≤ 4 ∧ (1 ≤ n → (decodeN n b0 b1 b2 b3).2 ≤ n) := by
 by_cases h0 : b0 < 128
 ·rw [dec_small h0];refine ⟨fun h => ⟨h, rfl⟩, fun h => ⟨h, fun h => absurd h (by omega), fun h => absurd h (by omega), fun h => absurd h (by omega)⟩, by omega, by omega, fun h => h⟩
 ·rcases decodeN_shape n b0 b1 b2 b3 with ⟨c, e⟩ | ⟨c1, c2, c3, cv, e⟩ | ⟨c1, c2, c3, c4, cv, cs, e⟩ | ⟨c1, c2, c3, c4, c5, cv, cw, e⟩ | e
  ·omega
  all_goals (rw [e]; dsimp only; refine ⟨fun h => by omega, fun h => ⟨by omega, fun h => by omega, fun h => by omega, fun h => by omega⟩, by omega, by omega, fun h => by omega⟩)
section
variable (s : ByteArray) (pos : Nat)
theorem width_le (h : pos < s.size) : 1 ≤ (Utf8.decode s pos).2 ∧ pos + (Utf8.decode s pos).2 ≤ s.size := by
 rw [decode_N, ← by_length] at *;have := (dec_nl ((by_ s).length - pos) ((by_ s).getD pos 0).toNat ((by_ s).getD (pos + 1) 0).toNat ((by_ s).getD (pos + 2) 0).toNat ((by_ s).getD (pos + 3) 0).toNat).2.2;unfold by_ at *;omega
theorem byte_eq (b : UInt8) : b.toNat = 10 ↔ b = 10 := by
 constructor
 ·intro h;exact UInt8.toNat_inj.1 h
 ·rintro rfl
  rfl
theorem nl_here (h : pos < s.size) (hr : (Utf8.decode s pos).1 = 10) : (by_ s)[pos]? = some 10 ∧ (Utf8.decode s pos).2 = 1 := by
 rw [decode_N] at *;have := (dec_nl (s.data.toList.length - pos) (s.data.toList.getD pos 0).toNat (s.data.toList.getD (pos + 1) 0).toNat (s.data.toList.getD (pos + 2) 0).toNat (s.data.toList.getD (pos + 3) 0).toNat).1 hr;refine ⟨?_, this.2⟩;have hl : pos < (by_ s).length := by rw [by_length]; exact h
 rw [List.getElem?_eq_getElem hl];have h1 := (byte_eq _).1 this.1;unfold by_ at *
 simpa [List.getD_eq_getElem?_getD, List.getElem?_eq_getElem hl] using h1
theorem nl_none (h : pos < s.size) (hr : (Utf8.decode s pos).1 ≠ 10) : ∀ b ∈ ((by_ s).drop pos).take (Utf8.decode s pos).2, b ≠ 10 := by
 intro b hb e;subst e;obtain ⟨j, hj⟩ := List.mem_iff_getElem?.1 hb;have hw := (width_le s pos h).2;have hjw : j < (Utf8.decode s pos).2 := by
  rcases Nat.lt_or_ge j (Utf8.decode s pos).2 with h1 | h1
  ·exact h1
  ·rw [List.getElem?_take, if_neg (by omega)] at hj
   cases hj
 rw [List.getElem?_take, if_pos hjw, List.getElem?_drop] at hj;have hg : ((by_ s).getD (pos + j) 0).toNat = 10 := by
  rw [List.getD_eq_getElem?_getD, hj]
  rfl
 rw [decode_N] at hr hjw;obtain ⟨-, h2, -, h4, -⟩ := dec_nl (s.data.toList.length - pos) (s.data.toList.getD pos 0).toNat (s.data.toList.getD (pos + 1) 0).toNat (s.data.toList.getD (pos + 2) 0).toNat (s.data.toList.getD (pos + 3) 0).toNat;obtain ⟨a0, a1, a2, a3⟩ := h2 hr;unfold by_ at hg;have : j = 0 ∨ j = 1 ∨ j = 2 ∨ j = 3 := by omega
 rcases this with rfl | rfl | rfl | rfl
 ·exact a0 hg
 ·exact a1 hjw hg
 ·exact a2 hjw hg
 ·exact a3 hjw hg
end
def cutL : List UInt8 → List UInt8 → List (List UInt8)
 | cur, [] => if cur = [] then [] else [cur]
 | cur, b :: t => if b = 10 then cur :: cutL [] t else cutL (cur ++ [b]) t
def linesOf (l : List UInt8) : List (List UInt8) := cutL [] l
theorem cutL_skip (m : List UInt8) : ∀ (cur t : List UInt8), (∀ b ∈ m, b ≠ 10) → cutL cur (m ++ t) = cutL (cur ++ m) t := by
 induction m with
 | nil => intro cur t _; simp
 | cons b m ih =>
  intro cur t h;rw [List.cons_append, cutL, if_neg (h b (by simp)), ih _ _ (fun x hx => h x (by simp [hx])), List.append_assoc]
  rfl
theorem cutL_nl (cur t : List UInt8) : cutL cur (10 :: t) = cur :: cutL [] t := by
 rw [cutL, if_pos rfl]
theorem cutL_len : ∀ (t cur : List UInt8), (cutL cur t).length ≤ t.length + 1 := by
 intro t
 induction t with
 | nil => intro cur; unfold cutL; split <;> simp
 | cons b t ih =>
  intro cur;unfold cutL
  split
  ·have := ih []; simp; omega
  ·have := ih (cur ++ [b]); simp; omega
theorem cutL_mem : ∀ (t cur x : List UInt8), x ∈ cutL cur t → x.length ≤ cur.length + t.length := by
 intro t
 induction t with
 | nil =>
  intro cur x hx;unfold cutL at hx
  split at hx
  ·cases hx
  ·simp at hx; subst hx; simp
 | cons b t ih =>
  intro cur x hx;unfold cutL at hx
  split at hx
  ·rcases List.mem_cons.1 hx with rfl | h
   ·omega
   ·have := ih [] x h; simp at this ⊢; omega
  ·have := ih (cur ++ [b]) x hx; simp at this ⊢; omega
end Go.Proofs.YtbiclliooidkjaaGreatDoor
namespace Go.Proofs.YtbiclliooidkjaaGreatDoor
open Go.RowKit Go.Lib
theorem only_iter {w w' : World} {S : List Nat} (h : Only S w w') {k : Nat} (s : ByteArray) (pos : Nat) (hk : k < w.heap.size → k ∈ S) : Only S w (w'.iterAt k s pos) :=
 ⟨h.os, h.tape, h.output, by rw [iterAt_size]; exact h.size, fun i hi hs => by
  rw [iterAt_other w' k i s pos (fun e => hs (e ▸ hk (e ▸ hi)))];exact h.keeps i hi hs⟩
theorem own_iter {w : World} {base : Nat} {e : TypeId} {size : Nat} {v : Value} {n : Nat} {xs : List Value} (h : w.ownsRow base e size v n xs) {k : Nat} {s : ByteArray} {pos : Nat} (hk : w.heap[k]? = some (.stringIter s pos)) (pos' : Nat) : (w.iterAt k s pos').ownsRow base e size v n xs := by
 have hO : Only [k] w (w.iterAt k s pos') := only_iter (Only.refl [k] w) s pos' (by simp);refine own_only h hO (fun g hg hm => ?_);simp at hm;subst hm;obtain ⟨cur, hcur⟩ := own_blk h hg;unfold Blk at hcur;rw [hk] at hcur
 cases hcur
theorem tinfo_string : (Tryz.prog.info? 9).map (fun i => (i.zero, i.size, i.bytes)) = some (some (.string ⟨#[]⟩), 1, 16) := by kernel_rfl
def strs (xs : List ByteArray) : List Value := xs.map Value.string
end Go.Proofs.YtbiclliooidkjaaGreatDoor
namespace Go.Proofs.YtbiclliooidkjaaGreatDoor
open Go.RowKit
open Go.Lib
structure Op4 where
 wr : Bool
 key : Int
 vk : Int
 vn : Int
def Op4.c (x : Op4) : List Value := [.bool x.wr, .int .i64 x.key, .int .i64 x.vk, .int .i64 x.vn]
def opC (l : List Op4) : List Value := l.flatMap Op4.c
structure Tx where
 s : Int
 f : Int
 ops : List Op4
structure TxA where
 t : Tx
 A : Option Addr
 cp : Nat
def TxA.c (x : TxA) : List Value := [.int .i64 x.t.s, .int .i64 x.t.f, .slice x.A x.t.ops.length x.cp]
def txC (l : List TxA) : List Value := l.flatMap TxA.c
structure Hst where
 ss : List ByteArray
 ks : List ByteArray
 l : List Tx
theorem flat_len {α : Type} (f : α → List Value) (n : Nat) (h : ∀ x, (f x).length = n) (l : List α) : (l.flatMap f).length = l.length * n := by
 induction l with
 | nil => simp
 | cons x l ih => rw [List.flatMap_cons, List.length_append, ih, h, List.length_cons, Nat.add_mul, Nat.one_mul, Nat.add_comm]
theorem flat_get {α : Type} (f : α → List Value) (n : Nat) (h : ∀ x, (f x).length = n) : ∀ (l : List α) (i : Nat) (x : α), l[i]? = some x → ∀ j, j < n → (l.flatMap f)[i * n + j]? = (f x)[j]?
 | [], i, x, hx, _, _ => by simp at hx
 | y :: l, 0, x, hx, j, hj => by
  simp at hx;subst hx;rw [List.flatMap_cons, List.getElem?_append_left (by rw [h]; omega), Nat.zero_mul, Nat.zero_add]
 | y :: l, i + 1, x, hx, j, hj => by
  have := flat_get f n h l i x (by simpa using hx) j hj;rw [List.flatMap_cons, List.getElem?_append_right (by rw [h, Nat.add_mul]; omega), ← this]
  congr 1
  rw [h, Nat.add_mul];omega
theorem opC_len (l : List Op4) : (opC l).length = l.length * 4 := flat_len _ 4 (fun _ => rfl) l
theorem txC_len (l : List TxA) : (txC l).length = l.length * 3 := flat_len _ 3 (fun _ => rfl) l
theorem opC_get (l : List Op4) (i : Nat) (x : Op4) (h : l[i]? = some x) : ∀ j, j < 4 → (opC l)[i * 4 + j]? = x.c[j]? := flat_get _ 4 (fun _ => rfl) l i x h
theorem txC_get (l : List TxA) (i : Nat) (x : TxA) (h : l[i]? = some x) : ∀ j, j < 3 → (txC l)[i * 3 + j]? = x.c[j]? := flat_get _ 3 (fun _ => rfl) l i x h
theorem opC_append (l k : List Op4) : opC (l ++ k) = opC l ++ opC k := by simp [opC]
theorem txC_append (l k : List TxA) : txC (l ++ k) = txC l ++ txC k := by simp [txC]
theorem opC_take (l : List Op4) (n : Nat) : opC (l.take n) = (opC l).take (n * 4) := by
 induction l generalizing n with
 | nil => simp [opC]
 | cons x l ih =>
  cases n with
  | zero => simp [opC]
  | succ n =>
   rw [List.take_succ_cons]
   show x.c ++ opC (l.take n) = (x.c ++ opC l).take ((n + 1) * 4)
   rw [ih, show (n + 1) * 4 = x.c.length + n * 4 by (show _ = 4 + n * 4; omega), List.take_length_add_append]
theorem one_opC (l : List Op4) : ∀ u ∈ opC l, u.oneCell' = true := by
 intro u hu;simp only [opC, List.mem_flatMap, Op4.c, List.mem_cons, List.not_mem_nil, or_false] at hu;obtain ⟨e, _, rfl | rfl | rfl | rfl⟩ := hu <;> rfl
structure OpAt (w : World) (b o : Nat) (x : Op4) : Prop where
 c0 : w.cell? ⟨b, o, none⟩ = some (.bool x.wr)
 c1 : w.cell? ⟨b, o + 1, none⟩ = some (.int .i64 x.key)
 c2 : w.cell? ⟨b, o + 2, none⟩ = some (.int .i64 x.vk)
 c3 : w.cell? ⟨b, o + 3, none⟩ = some (.int .i64 x.vn)
theorem OpAt.only {S : List Nat} {w w' : World} {b o : Nat} {x : Op4} (h : OpAt w b o x) (ho : Only S w w') (hb : b < w.heap.size) (hs : b ∉ S) : OpAt w' b o x :=
 ⟨(ho.cell (p := ⟨b, o, none⟩) hb hs).trans h.c0, (ho.cell (p := ⟨b, o + 1, none⟩) hb hs).trans h.c1, (ho.cell (p := ⟨b, o + 2, none⟩) hb hs).trans h.c2, (ho.cell (p := ⟨b, o + 3, none⟩) hb hs).trans h.c3⟩
theorem row_op {w : World} {B : Nat} {A : Option Addr} {l : List Op4} (h : Row w B A (opC l)) {k : Nat} {x : Op4} (hk : l[k]? = some x) : ∃ b off, A = some ⟨b, off, none⟩ ∧ b < B ∧ b < w.heap.size ∧ OpAt w b (off + k * 4) x := by
 have hlt := (List.getElem?_eq_some_iff.1 hk).1;obtain ⟨b, off, rfl, h1, h2, hc⟩ := h.open_ (k := k * 4) (by rw [opC_len]; omega);have g := opC_get l k x hk;refine ⟨b, off, rfl, h1, h2, ⟨?_, ?_, ?_, ?_⟩⟩
 ·exact hc (k * 4) _ (g 0 (by omega))
 ·rw [Nat.add_assoc]; exact hc _ _ (g 1 (by omega))
 ·rw [Nat.add_assoc]; exact hc _ _ (g 2 (by omega))
 ·rw [Nat.add_assoc]; exact hc _ _ (g 3 (by omega))
structure TxAt (w : World) (b o : Nat) (x : TxA) : Prop where
 c0 : w.cell? ⟨b, o, none⟩ = some (.int .i64 x.t.s)
 c1 : w.cell? ⟨b, o + 1, none⟩ = some (.int .i64 x.t.f)
 c2 : w.cell? ⟨b, o + 2, none⟩ = some (.slice x.A x.t.ops.length x.cp)
theorem TxAt.only {S : List Nat} {w w' : World} {b o : Nat} {x : TxA} (h : TxAt w b o x) (ho : Only S w w') (hb : b < w.heap.size) (hs : b ∉ S) : TxAt w' b o x :=
 ⟨(ho.cell (p := ⟨b, o, none⟩) hb hs).trans h.c0, (ho.cell (p := ⟨b, o + 1, none⟩) hb hs).trans h.c1, (ho.cell (p := ⟨b, o + 2, none⟩) hb hs).trans h.c2⟩
structure TxOk (w : World) (B : Nat) (x : TxA) : Prop where
 row : Row w B x.A (opC x.t.ops)
 le : x.t.ops.length ≤ x.cp
 cap : x.cp ≤ maxLen
theorem TxOk.only {S : List Nat} {w w' : World} {B : Nat} {x : TxA} (h : TxOk w B x) (ho : Only S w w') (hS : ∀ i ∈ S, B ≤ i) : TxOk w' B x := ⟨h.row.only ho hS, h.le, h.cap⟩
theorem TxOk.up {w : World} {B : Nat} {x : TxA} (h : TxOk w B x) : TxOk w w.heap.size x := ⟨row_up h.row, h.le, h.cap⟩
def LRow (w : World) (B : Nat) (A : Option Addr) (l : List Tx) : Prop := ∃ xs : List TxA, xs.map TxA.t = l ∧ Row w B A (txC xs) ∧ ∀ x ∈ xs, TxOk w B x
theorem LRow.only {S : List Nat} {w w' : World} {B : Nat} {A : Option Addr} {l : List Tx} (h : LRow w B A l) (ho : Only S w w') (hS : ∀ i ∈ S, B ≤ i) : LRow w' B A l := by
 obtain ⟨xs, h1, h2, h3⟩ := h;exact ⟨xs, h1, h2.only ho hS, fun x hx => (h3 x hx).only ho hS⟩
theorem LRow.up {w : World} {B : Nat} {A : Option Addr} {l : List Tx} (h : LRow w B A l) : LRow w w.heap.size A l := by
 obtain ⟨xs, h1, h2, h3⟩ := h;exact ⟨xs, h1, row_up h2, fun x hx => (h3 x hx).up⟩
theorem LRow.nil {w : World} {B : Nat} {A : Option Addr} : LRow w B A [] := ⟨[], rfl, .inl rfl, fun x hx => by cases hx⟩
theorem LRow.at_ {w : World} {B : Nat} {A : Option Addr} {l : List Tx} (h : LRow w B A l) {k : Nat} {t : Tx} (hk : l[k]? = some t) :
  ∃ b off A' cp, A = some ⟨b, off, none⟩ ∧ b < B ∧ b < w.heap.size ∧ TxAt w b (off + k * 3) ⟨t, A', cp⟩ ∧ TxOk w B ⟨t, A', cp⟩ := by
 obtain ⟨xs, rfl, h2, h3⟩ := h;rw [List.getElem?_map] at hk
 cases hx : xs[k]? with
 | none => rw [hx] at hk; cases hk
 | some x =>
  rw [hx] at hk;simp at hk;subst hk;have hlt := (List.getElem?_eq_some_iff.1 hx).1;obtain ⟨b, off, rfl, h4, h5, hc⟩ := h2.open_ (k := k * 3) (by rw [txC_len]; omega);have g := txC_get xs k x hx;refine ⟨b, off, x.A, x.cp, rfl, h4, h5, ⟨?_, ?_, ?_⟩, h3 x (List.mem_of_getElem? hx)⟩
  ·exact hc (k * 3) _ (g 0 (by omega))
  ·rw [Nat.add_assoc]; exact hc _ _ (g 1 (by omega))
  ·rw [Nat.add_assoc]; exact hc _ _ (g 2 (by omega))
structure HAt (w : World) (B : Nat) (A0 A1 A2 : Option Addr) (h : Hst) : Prop where
 r0 : Row w B A0 (strs h.ss)
 r1 : Row w B A1 (strs h.ks)
 r2 : LRow w B A2 h.l
theorem HAt.only {S : List Nat} {w w' : World} {B : Nat} {A0 A1 A2 : Option Addr} {h : Hst} (g : HAt w B A0 A1 A2 h) (ho : Only S w w') (hS : ∀ i ∈ S, B ≤ i) : HAt w' B A0 A1 A2 h := ⟨g.r0.only ho hS, g.r1.only ho hS, g.r2.only ho hS⟩
theorem HAt.up {w : World} {B : Nat} {A0 A1 A2 : Option Addr} {h : Hst} (g : HAt w B A0 A1 A2 h) : HAt w w.heap.size A0 A1 A2 h := ⟨row_up g.r0, row_up g.r1, g.r2.up⟩
def hval (A0 A1 A2 : Option Addr) (n0 n1 n2 c0 c1 c2 : Nat) : Value := .agg #[.slice A0 n0 c0, .slice A1 n1 c1, .slice A2 n2 c2]
structure HSmall (h : Hst) : Prop where
 s : ∀ x ∈ h.ss, x.size ≤ 65537
 k : ∀ x ∈ h.ks, x.size ≤ 65537
 ns : h.ss.length ≤ 1000
 nk : h.ks.length ≤ 1000
 nl : h.l.length ≤ 1000
 no : ∀ t ∈ h.l, t.ops.length ≤ 1000
end Go.Proofs.YtbiclliooidkjaaGreatDoor
