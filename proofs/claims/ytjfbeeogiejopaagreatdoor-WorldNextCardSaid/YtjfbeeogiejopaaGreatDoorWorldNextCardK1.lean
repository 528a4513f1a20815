/- Parts. -/
import Derived.Test.YtjfbeeogiejopaaGreatDoorRows
import Derived.WalkKit
import Derived.WalkSpells
import Derived.WalkLawsBesides
import Derived.ProofKit
import Derived.OpenShut
import Derived.Lib.Hide
import Derived.Deep.QuietTactic
import Derived.BigQuiet
import Derived.Deep.RegionHeld3
import Derived.Deep.DrawnRows
import Derived.Deep.AppendLies
import Derived.Deep.Draws
import Derived.Lib.MapLaws
import Derived.Lib.TrimUEq
import Derived.Lib.RuneCount
import Derived.Lib.ValidLaws
import Derived.Deep.MidRow
import Derived.Laws.ResultCell
import Derived.Laws.IdiomCopy
import Derived.Deep.CutBlock
import Derived.Deep.DeepCutAuto
import Derived.Deep.Slices
import Derived.Deep.Strs
import Derived.Maps.AppendAt
import Derived.Laws.OwnMore
set_option maxRecDepth 10000
set_option maxHeartbeats 16000000
set_option linter.unusedVariables false
set_option linter.unusedSimpArgs false
namespace Go.Proofs.YtjfbeeogiejopaaGreatDoor
open Go.RowKit
/-! ### Blocks -/
def Blk (w : World) (g : Nat) (t : TypeId) (cs : Array Value) : Prop := w.heap[g]? = some (.cells cs t (0, 0))
section
variable {w w' : World} {g : Nat} {t : TypeId} {cs : Array Value}
theorem Blk.lt (h : Blk w g t cs) : g < w.heap.size := (Array.getElem?_eq_some_iff.1 h).1
theorem Blk.at_ (h : Blk w g t cs) (i : Nat) : w.cell? ⟨g, i, none⟩ = cs[i]? := by
 unfold Blk at h;unfold World.cell?;simp [h]
theorem Blk.free (h : Blk w g t cs) (i : Nat) : w.frozen? ⟨g, i, none⟩ = false := by
 unfold Blk at h;unfold World.frozen?;simp [h]
theorem Blk.made (w : World) (t : TypeId) (cs : Array Value) : Blk (w.alloc (.cells cs t)) w.heap.size t cs := by
 unfold Blk World.alloc;simp
theorem Blk.put (h : Blk w g t cs) (i : Nat) (u : Value) : Blk (w.setCell ⟨g, i, none⟩ u) g t (cs.setIfInBounds i u) := by
 unfold Blk at h ⊢;unfold World.setCell;rw [Array.getElem?_modify, if_pos rfl, h]
 rfl
theorem Blk.apart {g' : Nat} {t' : TypeId} {cs' : Array Value} (h : Blk w g t cs) (h' : Blk w g' t' cs') (hne : t ≠ t') : g ≠ g' := by
 intro e;subst e;unfold Blk at h h';rw [h] at h';simp at h';exact hne h'.2
end

/-! ### Frames -/
structure Only (S : List Nat) (w w' : World) : Prop where
 os : w'.os = w.os
 tape : w'.tape = w.tape
 output : w'.output = w.output
 size : w.heap.size ≤ w'.heap.size
 keeps : ∀ k, k < w.heap.size → k ∉ S → w'.heap[k]? = w.heap[k]?
section
variable {S T : List Nat} {w w' w'' : World}
theorem Only.refl (S : List Nat) (w : World) : Only S w w := ⟨rfl, rfl, rfl, Nat.le_refl _, fun _ _ _ => rfl⟩
theorem Only.trans (h : Only S w w') (k : Only S w' w'') : Only S w w'' :=
 ⟨k.os.trans h.os, k.tape.trans h.tape, k.output.trans h.output, Nat.le_trans h.size k.size, fun i hi hs => (k.keeps i (Nat.lt_of_lt_of_le hi h.size) hs).trans (h.keeps i hi hs)⟩
theorem Only.step (h : Only S w w') (k : Only T w' w'') (hT : ∀ i ∈ T, i < w.heap.size → i ∈ S) : Only S w w'' :=
 ⟨k.os.trans h.os, k.tape.trans h.tape, k.output.trans h.output, Nat.le_trans h.size k.size, fun i hi hs => (k.keeps i (Nat.lt_of_lt_of_le hi h.size) (fun ht => hs (hT i ht hi))).trans (h.keeps i hi hs)⟩
theorem Only.wide (h : Only S w w') (hT : ∀ i ∈ S, i < w.heap.size → i ∈ T) : Only T w w' :=
 ⟨h.os, h.tape, h.output, h.size, fun i hi hs => h.keeps i hi fun hm => hs (hT i hm hi)⟩
theorem Only.drewN (h : Only S w w') (n : Nat) : Only S w (w'.drewN n) := ⟨h.os, h.tape, h.output, h.size, h.keeps⟩
theorem Only.drew (h : Only S w w') : Only S w w'.drew := ⟨h.os, h.tape, h.output, h.size, h.keeps⟩
theorem Only.alloc (h : Only S w w') (o : Obj) : Only S w (w'.alloc o) :=
 ⟨h.os, h.tape, h.output, by have := h.size; rw [World.size_alloc]; omega, fun i hi hs => (Below.heap_alloc w' o i (Nat.lt_of_lt_of_le hi h.size)).trans (h.keeps i hi hs)⟩
theorem Only.put (h : Only S w w') {p : Addr} (hp : p.block < w.heap.size → p.block ∈ S) (u : Value) : Only S w (w'.setCell p u) :=
 ⟨h.os, h.tape, h.output, by simpa [World.setCell] using h.size, fun i hi hs => (Below.heap_setCell w' p u i (fun e => hs (e ▸ hp (e ▸ hi)))).trans (h.keeps i hi hs)⟩
theorem Only.below (h : Only S w w') {B : Nat} (hB : B ≤ w.heap.size) (hS : ∀ i ∈ S, B ≤ i) : Below B w w' :=
 ⟨h.os, h.tape, h.output, h.size, fun i hi => h.keeps i (by omega) fun hm => by have := hS i hm; omega⟩
theorem Only.of_below (h : Below w.heap.size w w') (S : List Nat) : Only S w w' := ⟨h.os, h.tape, h.output, h.size, fun i hi _ => h.block i hi⟩
theorem Only.of_grown {row : Option Nat} (h : w.grownBy w' row) (hS : ∀ g, row = some g → g < w.heap.size → g ∈ S) : Only S w w' :=
 ⟨h.os, h.tape, h.output, h.size, fun i hi hs => h.block i hi (fun e => hs (hS i e.symm hi))⟩
theorem Only.blk {g : Nat} {t : TypeId} {cs : Array Value} (h : Only S w w') (hb : Blk w g t cs) (hg : g ∉ S) : Blk w' g t cs := (h.keeps g hb.lt hg).trans hb
theorem Only.cell (h : Only S w w') {p : Addr} (hp : p.block < w.heap.size) (hg : p.block ∉ S) : w'.cell? p = w.cell? p := World.cell?_of_block (h.keeps p.block hp hg)
theorem Only.frozen (h : Only S w w') {p : Addr} (hp : p.block < w.heap.size) (hg : p.block ∉ S) : w'.frozen? p = w.frozen? p := World.frozen?_of_block (h.keeps p.block hp hg)
theorem Blk.drewN {g : Nat} {t : TypeId} {cs : Array Value} (h : Blk w g t cs) (n : Nat) : Blk (w.drewN n) g t cs := h
theorem Blk.drew {g : Nat} {t : TypeId} {cs : Array Value} (h : Blk w g t cs) : Blk w.drew g t cs := h
theorem Blk.alloc {g : Nat} {t : TypeId} {cs : Array Value} (h : Blk w g t cs) (o : Obj) : Blk (w.alloc o) g t cs := (Below.heap_alloc w o g h.lt).trans h
theorem Blk.far {g : Nat} {t : TypeId} {cs : Array Value} (h : Blk w g t cs) {p : Addr} (hp : g ≠ p.block) (u : Value) : Blk (w.setCell p u) g t cs := (Below.heap_setCell w p u g hp).trans h
end

/-! ### Regions -/
section
variable {H : Type} {enc : TypeId × Value → H} {P : Program}
open Go.ChangeShapes
theorem all_stay (hl : laidOutB P = true) {W W' : World} (hb : Below W.heap.size W W') :
  ∀ {ts : List TypeId} {vs : List Value} {ds : List (DataW H)} {ps : List MemPlace}, (∀ t ∈ ts, P.readableRec t = true ∧ t < P.types.size) → DataW.TrodAll enc P W 0 (fun _ => true) true ts vs ds ps →
   (∀ x ∈ ps, x.block < W.heap.size) → DataW.TrodAll enc P W' 0 (fun b => decide (b < W.heap.size)) true ts vs ds ps := by
 intro ts
 induction ts with
 | nil =>
  intro vs ds ps _ h _;obtain ⟨rfl, rfl, rfl⟩ := trodAll_nil h
  rfl
 | cons t ts ih =>
  intro vs ds ps hr h hlt;obtain ⟨v, vs', d, ds', p, q, rfl, rfl, rfl, h0, h1⟩ := trodAll_cons h;have ht := hr t (by simp);exact ⟨p, q, Below.trod hl ht.1 ht.2 h0 hb (fun x hx => hlt x (by simp [hx])), ih (fun u hu => hr u (by simp [hu])) h1 (fun x hx => hlt x (by simp [hx])), rfl⟩
theorem law_post (hl : laidOutB P = true) {f : Func} {s : ChangeSpec} {W W' : World} {args : Array Value} {ds gs : List (DataW H)} {before : List MemPlace} {tb : TypeId}
  (hread : (f.params.toList.all fun t => P.readableRec t && decide (t < P.types.size)) = true) (hv : s.vars = []) (hrt : f.resultTypes = #[tb]) (htb : P.underlying tb = some .bool)
  (hW : DataW.Whole enc P f.params.toList s.vars false W args.toList ds gs before)
  (hres : (s.fn H (ds ++ gs)).results = [.lit (.bool true)]) (hargs : (s.fn H (ds ++ gs)).args = ds) (hvs : (s.fn H (ds ++ gs)).vars = []) (hb : Below W.heap.size W W') :
  s.post enc P f false true false false W args (.bool true) W' := by
 have hlt : ∀ p ∈ before, p.block < W.heap.size := fun p hp => hW.lt p hp;have hW' := hW;obtain ⟨p, q, hA, hV, rfl, _, _⟩ := hW;rw [hv] at hV;obtain ⟨rfl, rfl⟩ := trodVars_none hV;refine ⟨ds, [], p ++ [], [], p, [], hW', ?_, ?_, ?_, World.keptBut_mono (fun x hx => ⟨hx, ?_⟩) (hb.frame (· ∈ p ++ [])), fun e => by cases e⟩
 ·rw [hres, hrt];exact ⟨[], [], ⟨1, by simp [DataW.trod, htb, Value.cells]⟩, rfl, rfl⟩
 ·rw [hargs];have hr : ∀ t ∈ f.params.toList, P.readableRec t = true ∧ t < P.types.size := fun t ht => by simpa using List.all_eq_true.1 hread t ht
  exact all_stay hl hb hr hA (fun x hx => hlt x (by simp [hx]))
 ·rw [hv, hvs]
  rfl
 ·simp only [List.append_nil] at hx;exact Or.inr (Or.inl hx)
end
theorem aI {a b : Prop} (x : a) (y : b) : a ∧ b := ⟨x, y⟩
theorem Hd {p : Prop} (h : p) : Go.RowKit.Hid p := Lib.hid h
theorem Bk1 {w : World} {g : Nat} {t : TypeId} {cs : Array Value} (h : Blk w g t cs) (i : Nat) : g < w.heap.size ∧ w.cell? ⟨g, i, none⟩ = cs[i]? := ⟨h.lt, h.at_ i⟩
theorem Bk2 {w : World} {g : Nat} {t : TypeId} {cs : Array Value} (h : Blk w g t cs) : g < w.heap.size ∧ w.cell? ⟨g, 0, none⟩ = cs[0]? ∧ w.cell? ⟨g, 1, none⟩ = cs[1]? := ⟨h.lt, h.at_ 0, h.at_ 1⟩
theorem Bk3 {w : World} {g : Nat} {t : TypeId} {cs : Array Value} (h : Blk w g t cs) : g < w.heap.size ∧ w.cell? ⟨g, 0, none⟩ = cs[0]? ∧ w.cell? ⟨g, 1, none⟩ = cs[1]? ∧ w.cell? ⟨g, 2, none⟩ = cs[2]? := ⟨h.lt, h.at_ 0, h.at_ 1, h.at_ 2⟩
theorem tdy : ((∀ (α : Type) (xs : List α) (i : Nat) (h : i < xs.toArray.size), xs.toArray[i] = xs[i]'(by simpa using h)) ∧ (∀ (α : Type) (a : α) (l : List α), (a :: l)[0]'(by simp) = a) ∧ (∀ (α : Type) (a : α) (l : List α) (i : Nat) (h : i + 1 < (a :: l).length), (a :: l)[i + 1] = l[i]'(by simpa using h))) ∧ ((∀ (l : List Value) (i : Nat) (a : Value), l.toArray.setIfInBounds i a = (l.set i a).toArray) ∧ (∀ (a b : Value) (l : List Value), (a :: l).set 0 b = b :: l) ∧ (∀ (a b : Value) (l : List Value) (i : Nat), (a :: l).set (i + 1) b = a :: l.set i b)) := by
  refine ⟨⟨fun α xs i h => ?_, fun α a l => ?_, fun α a l i h => ?_⟩, fun l i a => ?_, fun a b l => ?_, fun a b l i => ?_⟩
  · rw [List.getElem_toArray]
  · rw [List.getElem_cons_zero]
  · rw [List.getElem_cons_succ]
  · rw [List.setIfInBounds_toArray]
  · rw [List.set_cons_zero]
  · rw [List.set_cons_succ]
theorem tdz : type_of% (And.intro @Act.put.eq_1 (And.intro @Act.put.eq_2 tdy)) := And.intro @Act.put.eq_1 (And.intro @Act.put.eq_2 tdy)
end Go.Proofs.YtjfbeeogiejopaaGreatDoor
namespace Go.Proofs.YtjfbeeogiejopaaGreatDoor
theorem own : ownKnob Tryz.prog.godebug = none := by kernel_rfl
theorem laidOut : laidOutB Tryz.prog = true := by kernel_rfl
open Go.Lib
def by_ (s : ByteArray) : List UInt8 := s.data.toList
theorem by_length (s : ByteArray) : (by_ s).length = s.size := by
 unfold by_;exact (size_eq s).symm
theorem by_inj {s t : ByteArray} (h : by_ s = by_ t) : s = t := by
 unfold by_ at h
 cases s
 cases t
 simp at h;rw [h]
theorem by_extract (s : ByteArray) (a b : Nat) : by_ (s.extract a b) = ((by_ s).take b).drop a := by
 unfold by_;rw [ByteArray.data_extract, Array.toList_extract, List.extract_eq_take_drop, List.drop_take]
theorem by_append (s t : ByteArray) : by_ (s ++ t) = by_ s ++ by_ t := by
 unfold by_;rw [ByteArray.data_append, Array.toList_append]
theorem dec_small {n b0 b1 b2 b3 : Nat} (h : b0 < 128) : decodeN n b0 b1 b2 b3 = (b0, 1) := by
 unfold decodeN;rw [if_pos h]
theorem dec_nl (n b0 b1 b2 b3 : Nat) : ((decodeN n b0 b1 b2 b3).1 = 10 → b0 = 10 ∧ (decodeN n b0 b1 b2 b3).2 = 1) ∧
  ((decodeN n b0 b1 b2 b3).1 ≠ 10 → b0 ≠ 10 ∧ (1 < (decodeN n b0 b1 b2 b3).2 → b1 ≠ 10) ∧ (2 < (decodeN n b0 b1 b2 b3).2 → b2 ≠ 10) ∧ (3 < (decodeN n b0 b1 b2 b3).2 → b3 ≠ 10)) ∧
  1 ≤ (decodeN n b0 b1 b2 b3).2 ∧ (decodeN n b0 b1 b2 b3).2 ≤ 4 ∧ (1 ≤ n → (decodeN n b0 b1 b2 b3).2 ≤ n) := by
 by_cases h0 : b0 < 128
 ·rw [dec_small h0];refine ⟨fun h => ⟨h, rfl⟩, fun h => ⟨h, fun h => absurd h (by omega), fun h => absurd h (by omega), fun h => absurd h (by omega)⟩, by omega, by omega, fun h => h⟩
 ·rcases decodeN_shape n b0 b1 b2 b3 with ⟨c, e⟩ | ⟨c1, c2, c3, cv, e⟩ | ⟨c1, c2, c3, c4, cv, cs, e⟩ | ⟨c1, c2, c3, c4, c5, cv, cw, e⟩ | e
  ·omega
  all_goals (rw [e]; dsimp only; refine ⟨fun h => by omega, fun h => ⟨by omega, fun h => by omega, fun h => by omega, fun h => by omega⟩, by omega, by omega, fun h => by omega⟩)
section
variable (s : ByteArray) (pos : Nat)
theorem width_le (h : pos < s.size) : 1 ≤ (Utf8.decode s pos).2 ∧ pos + (Utf8.decode s pos).2 ≤ s.size := by
 rw [decode_N, ← by_length] at *;have := (dec_nl ((by_ s).length - pos) ((by_ s).getD pos 0).toNat ((by_ s).getD (pos + 1) 0).toNat ((by_ s).getD (pos + 2) 0).toNat ((by_ s).getD (pos + 3) 0).toNat).2.2;unfold by_ at *;omega
theorem byte_eq (b : UInt8) : b.toNat = 10 ↔ b = 10 := by
 constructor
 ·intro h;exact UInt8.toNat_inj.1 h
 ·rintro rfl
  rfl
theorem nl_here (h : pos < s.size) (hr : (Utf8.decode s pos).1 = 10) : (by_ s)[pos]? = some 10 ∧ (Utf8.decode s pos).2 = 1 := by
 rw [decode_N] at *;have := (dec_nl (s.data.toList.length - pos) (s.data.toList.getD pos 0).toNat (s.data.toList.getD (pos + 1) 0).toNat (s.data.toList.getD (pos + 2) 0).toNat (s.data.toList.getD (pos + 3) 0).toNat).1 hr;refine ⟨?_, this.2⟩;have hl : pos < (by_ s).length := by rw [by_length]; exact h
 rw [List.getElem?_eq_getElem hl];have h1 := (byte_eq _).1 this.1;unfold by_ at *
 simpa [List.getD_eq_getElem?_getD, List.getElem?_eq_getElem hl] using h1
theorem nl_none (h : pos < s.size) (hr : (Utf8.decode s pos).1 ≠ 10) : ∀ b ∈ ((by_ s).drop pos).take (Utf8.decode s pos).2, b ≠ 10 := by
 intro b hb e;subst e;obtain ⟨j, hj⟩ := List.mem_iff_getElem?.1 hb;have hw := (width_le s pos h).2;have hjw : j < (Utf8.decode s pos).2 := by
  rcases Nat.lt_or_ge j (Utf8.decode s pos).2 with h1 | h1
  ·exact h1
  ·rw [List.getElem?_take, if_neg (by omega)] at hj
   cases hj
 rw [List.getElem?_take, if_pos hjw, List.getElem?_drop] at hj;have hg : ((by_ s).getD (pos + j) 0).toNat = 10 := by
  rw [List.getD_eq_getElem?_getD, hj]
  rfl
 rw [decode_N] at hr hjw;obtain ⟨-, h2, -, h4, -⟩ := dec_nl (s.data.toList.length - pos) (s.data.toList.getD pos 0).toNat (s.data.toList.getD (pos + 1) 0).toNat (s.data.toList.getD (pos + 2) 0).toNat (s.data.toList.getD (pos + 3) 0).toNat;obtain ⟨a0, a1, a2, a3⟩ := h2 hr;unfold by_ at hg;have : j = 0 ∨ j = 1 ∨ j = 2 ∨ j = 3 := by omega
 rcases this with rfl | rfl | rfl | rfl
 ·exact a0 hg
 ·exact a1 hjw hg
 ·exact a2 hjw hg
 ·exact a3 hjw hg
end
def cutL : List UInt8 → List UInt8 → List (List UInt8)
 | cur, [] => if cur = [] then [] else [cur]
 | cur, b :: t => if b = 10 then cur :: cutL [] t else cutL (cur ++ [b]) t
def linesOf (l : List UInt8) : List (List UInt8) := cutL [] l
theorem cutL_skip (m : List UInt8) : ∀ (cur t : List UInt8), (∀ b ∈ m, b ≠ 10) → cutL cur (m ++ t) = cutL (cur ++ m) t := by
 induction m with
 | nil => intro cur t _; simp
 | cons b m ih =>
  intro cur t h;rw [List.cons_append, cutL, if_neg (h b (by simp)), ih _ _ (fun x hx => h x (by simp [hx])), List.append_assoc]
  rfl
theorem cutL_nl (cur t : List UInt8) : cutL cur (10 :: t) = cur :: cutL [] t := by
 rw [cutL, if_pos rfl]
theorem cutL_len : ∀ (t cur : List UInt8), (cutL cur t).length ≤ t.length + 1 := by
 intro t
 induction t with
 | nil => intro cur; unfold cutL; split <;> simp
 | cons b t ih =>
  intro cur;unfold cutL
  split
  ·have := ih []; simp; omega
  ·have := ih (cur ++ [b]); simp; omega
theorem cutL_mem : ∀ (t cur x : List UInt8), x ∈ cutL cur t → x.length ≤ cur.length + t.length := by
 intro t
 induction t with
 | nil =>
  intro cur x hx;unfold cutL at hx
  split at hx
  ·cases hx
  ·simp at hx; subst hx; simp
 | cons b t ih =>
  intro cur x hx;unfold cutL at hx
  split at hx
  ·rcases List.mem_cons.1 hx with rfl | h
   ·omega
   ·have := ih [] x h; simp at this ⊢; omega
  ·have := ih (cur ++ [b]) x hx; simp at this ⊢; omega
def szOf (n b0 b1 b2 b3 : Nat) : Nat := if decodeN n b0 b1 b2 b3 = (65533, 1) then 0 else (decodeN n b0 b1 b2 b3).2
theorem sz_bad {n b0 b1 b2 b3 : Nat} (h : decodeN n b0 b1 b2 b3 = (65533, 1)) : szOf n b0 b1 b2 b3 = 0 := by
 unfold szOf;rw [if_pos h]
theorem sz_two_bad {n b0 b1 b2 b3 : Nat} (h0 : 194 ≤ b0) (h1 : b0 ≤ 223) (h : n < 2 ∨ b1 < 128 ∨ 191 < b1) (hb : b1 < 256) : szOf n b0 b1 b2 b3 = 0 := by
 apply sz_bad
 rcases decodeN_shape n b0 b1 b2 b3 with ⟨c, e⟩ | ⟨c1, c2, c3, cv, e⟩ | ⟨c1, c2, c3, c4, cv, cs, e⟩ | ⟨c1, c2, c3, c4, c5, cv, cw, e⟩ | e
 ·omega
 ·omega
 ·omega
 ·omega
 ·exact e
theorem sz_three_bad {n b0 b1 b2 b3 : Nat} (h0 : 224 ≤ b0) (h1 : b0 ≤ 239) (hb1 : b1 < 256) (hb2 : b2 < 256)
  (h : n < 3 ∨ b1 < 128 ∨ 191 < b1 ∨ b2 < 128 ∨ 191 < b2 ∨ (b0 - 224) * 4096 + (b1 - 128) * 64 + (b2 - 128) < 2048 ∨ (55296 ≤ (b0 - 224) * 4096 + (b1 - 128) * 64 + (b2 - 128) ∧ (b0 - 224) * 4096 + (b1 - 128) * 64 + (b2 - 128) ≤ 57343)) : szOf n b0 b1 b2 b3 = 0 := by
 apply sz_bad
 rcases decodeN_shape n b0 b1 b2 b3 with ⟨c, e⟩ | ⟨c1, c2, c3, cv, e⟩ | ⟨c1, c2, c3, c4, cv, cs, e⟩ | ⟨c1, c2, c3, c4, c5, cv, cw, e⟩ | e
 ·omega
 ·omega
 ·exfalso
  have a1 : b0 % 16 = b0 - 224 := by omega
  have a2 : b1 % 64 = b1 - 128 := by omega
  have a3 : b2 % 64 = b2 - 128 := by omega
  rw [a1, a2, a3] at cv cs;omega
 ·omega
 ·exact e
theorem sz_four_bad {n b0 b1 b2 b3 : Nat} (h0 : 240 ≤ b0) (h1 : b0 ≤ 244) (hb1 : b1 < 256) (hb2 : b2 < 256) (hb3 : b3 < 256)
  (h : n < 4 ∨ b1 < 128 ∨ 191 < b1 ∨ b2 < 128 ∨ 191 < b2 ∨ b3 < 128 ∨ 191 < b3 ∨ (b0 - 240) * 262144 + (b1 - 128) * 4096 + (b2 - 128) * 64 + (b3 - 128) < 65536 ∨ 1114111 < (b0 - 240) * 262144 + (b1 - 128) * 4096 + (b2 - 128) * 64 + (b3 - 128)) : szOf n b0 b1 b2 b3 = 0 := by
 apply sz_bad
 rcases decodeN_shape n b0 b1 b2 b3 with ⟨c, e⟩ | ⟨c1, c2, c3, cv, e⟩ | ⟨c1, c2, c3, c4, cv, cs, e⟩ | ⟨c1, c2, c3, c4, c5, cv, cw, e⟩ | e
 ·omega
 ·omega
 ·omega
 ·exfalso
  have a1 : b0 % 8 = b0 - 240 := by omega
  have a2 : b1 % 64 = b1 - 128 := by omega
  have a3 : b2 % 64 = b2 - 128 := by omega
  have a4 : b3 % 64 = b3 - 128 := by omega
  rw [a1, a2, a3, a4] at cv cw;omega
 ·exact e
theorem dec_at (s : ByteArray) (pos : Nat) : Utf8.decode s pos = decodeN (s.size - pos) ((by_ s).getD pos 0).toNat ((by_ s).getD (pos + 1) 0).toNat ((by_ s).getD (pos + 2) 0).toNat ((by_ s).getD (pos + 3) 0).toNat := by
 rw [decode_N, ← by_length]
 rfl
theorem decL_at (s : ByteArray) (pos : Nat) : decodeL ((by_ s).drop pos) = Utf8.decode s pos := by
 rw [decodeL_N, dec_at, List.length_drop, by_length]
 congr 2
 all_goals simp [List.getD_eq_getElem?_getD, List.getElem?_drop]
theorem byte_at (s : ByteArray) (k : Nat) (h : k < s.size) : s[k].toNat = ((by_ s).getD k 0).toNat := by
 have hl : k < (by_ s).length := by rw [by_length]; exact h
 rw [List.getD_eq_getElem?_getD, List.getElem?_eq_getElem hl]
 rfl
theorem byte_lt (s : ByteArray) (k : Nat) : ((by_ s).getD k 0).toNat < 256 := UInt8.toNat_lt _
structure IsRune (m : List UInt8) (r : Nat) : Prop where
 lead : ∃ b cs, m = b :: cs ∧ b.toNat / 64 ≠ 2 ∧ ∀ c ∈ cs, c.toNat / 64 = 2
 dec : ∀ rest, decodeL (m ++ rest) = (r, m.length)
 small : r < 128 → ∃ b : UInt8, m = [b] ∧ b.toNat = r
 big : 128 ≤ r → ∀ b ∈ m, 128 ≤ b.toNat
 good : ¬ (r = 65533 ∧ m.length = 1)
theorem two_of : ∀ {l : List UInt8}, 1 < l.length → ∃ b b1 t, l = b :: b1 :: t
 | b :: b1 :: t, _ => ⟨b, b1, t, rfl⟩
theorem three_of : ∀ {l : List UInt8}, 2 < l.length → ∃ b b1 b2 t, l = b :: b1 :: b2 :: t
 | b :: b1 :: b2 :: t, _ => ⟨b, b1, b2, t, rfl⟩
theorem four_of : ∀ {l : List UInt8}, 3 < l.length → ∃ b b1 b2 b3 t, l = b :: b1 :: b2 :: b3 :: t
 | b :: b1 :: b2 :: b3 :: t, _ => ⟨b, b1, b2, b3, t, rfl⟩
theorem rune_or_bad (l : List UInt8) (hne : l ≠ []) : (decodeL l = (65533, 1) ∧ 128 ≤ (l.getD 0 0).toNat) ∨ ∃ m rest r, l = m ++ rest ∧ IsRune m r := by
 by_cases h0 : (l.getD 0 0).toNat < 128
 ·right
  obtain ⟨b, t, rfl⟩ := List.exists_cons_of_ne_nil hne;have hb : b.toNat < 128 := h0;refine ⟨[b], t, b.toNat, rfl, ⟨b, [], rfl, by omega, fun c hc => by cases hc⟩, fun rest => ?_, fun _ => ⟨b, rfl, rfl⟩, fun h => by omega, fun h => by omega⟩;rw [decodeL_N];exact dec_small hb
 ·rw [decodeL_N];rcases decodeN_shape l.length (l.getD 0 0).toNat (l.getD 1 0).toNat (l.getD 2 0).toNat (l.getD 3 0).toNat with ⟨c, e⟩ | ⟨c1, c2, c3, cv, e⟩ | ⟨c1, c2, c3, c4, cv, cs, e⟩ | ⟨c1, c2, c3, c4, c5, cv, cw, e⟩ | e
  ·exact absurd c h0
  ·right
   clear e;obtain ⟨b, b1, t, rfl⟩ := two_of c2;simp only [List.getD_cons_zero, List.getD_cons_succ] at h0 c1 c3 cv;refine ⟨[b, b1], t, b.toNat % 32 * 64 + b1.toNat % 64, rfl, ⟨b, [b1], rfl, by omega, fun c hc => ?_⟩, fun rest => ?_, fun h => by omega, fun _ c hc => ?_, fun h => by have := h.2; simp at this⟩
   ·simp at hc; subst hc; exact c3
   ·rw [decodeL_N];simp only [List.cons_append, List.nil_append, List.getD_cons_zero, List.getD_cons_succ, List.length_cons];unfold decodeN;rw [if_neg (by omega), if_pos ⟨by omega, by omega, by omega⟩, if_pos (by omega)]
    rfl
   ·simp at hc; rcases hc with rfl | rfl <;> omega
  ·right
   clear e;obtain ⟨b, b1, b2, t, rfl⟩ := three_of c2;simp only [List.getD_cons_zero, List.getD_cons_succ] at h0 c1 c3 c4 cv cs;refine ⟨[b, b1, b2], t, b.toNat % 16 * 4096 + b1.toNat % 64 * 64 + b2.toNat % 64, rfl, ⟨b, [b1, b2], rfl, by omega, fun c hc => ?_⟩, fun rest => ?_, fun h => by omega, fun _ c hc => ?_, fun h => by have := h.2; simp at this⟩
   ·simp at hc; rcases hc with rfl | rfl <;> assumption
   ·rw [decodeL_N];simp only [List.cons_append, List.nil_append, List.getD_cons_zero, List.getD_cons_succ, List.length_cons];unfold decodeN;rw [if_neg (by omega), if_neg (by omega), if_pos ⟨by omega, ⟨by omega, by omega⟩, by omega, by omega⟩, if_pos (by omega)]
    rfl
   ·simp at hc; rcases hc with rfl | rfl | rfl <;> omega
  ·right
   clear e;obtain ⟨b, b1, b2, b3, t, rfl⟩ := four_of c2;simp only [List.getD_cons_zero, List.getD_cons_succ] at h0 c1 c3 c4 c5 cv cw;refine ⟨[b, b1, b2, b3], t, b.toNat % 8 * 262144 + b1.toNat % 64 * 4096 + b2.toNat % 64 * 64 + b3.toNat % 64, rfl, ⟨b, [b1, b2, b3], rfl, by omega, fun c hc => ?_⟩, fun rest => ?_, fun h => by omega, fun _ c hc => ?_, fun h => by have := h.2; simp at this⟩
   ·simp at hc; rcases hc with rfl | rfl | rfl <;> assumption
   ·rw [decodeL_N];simp only [List.cons_append, List.nil_append, List.getD_cons_zero, List.getD_cons_succ, List.length_cons];unfold decodeN;rw [if_neg (by omega), if_neg (by omega), if_neg (by omega), if_pos ⟨by omega, ⟨by omega, by omega⟩, ⟨by omega, by omega⟩, by omega, by omega⟩, if_pos (by omega)]
    rfl
   ·simp at hc; rcases hc with rfl | rfl | rfl | rfl <;> omega
  ·exact .inl ⟨e, by omega⟩
theorem IsRune.len {m : List UInt8} {r : Nat} (h : IsRune m r) : 0 < m.length := by
 obtain ⟨b, cs, rfl, _⟩ := h.lead;simp
theorem IsRune.ne {m : List UInt8} {r : Nat} (h : IsRune m r) : m ≠ [] := fun e => by
 have := h.len;rw [e] at this
 cases this
theorem valid_rune {m : List UInt8} {r : Nat} (h : IsRune m r) (rest : List UInt8) : validD (m ++ rest) = validD rest := by
 have hd := h.dec rest;rw [validD_step _ (fun e => h.ne (List.append_eq_nil_iff.1 e).1), hd];dsimp only;rw [if_neg h.good, List.drop_left]
theorem valid_cases {l : List UInt8} (h : validD l = true) : l = [] ∨ ∃ m rest r, l = m ++ rest ∧ IsRune m r ∧ validD rest = true := by
 by_cases hne : l = []
 ·exact .inl hne
 ·rcases rune_or_bad l hne with ⟨hb, -⟩ | ⟨m, rest, r, rfl, hm⟩
  ·rw [validD_step _ hne, hb, if_pos ⟨rfl, rfl⟩] at h
   cases h
  ·rw [valid_rune hm] at h;exact .inr ⟨m, rest, r, rfl, hm, h⟩
theorem valid_ind {p : List UInt8 → Prop} (h0 : p []) (h1 : ∀ m rest r, IsRune m r → validD rest = true → p rest → p (m ++ rest)) : ∀ (n : Nat) (l : List UInt8), l.length ≤ n → validD l = true → p l
 | n, l, hn, hv => by
  rcases valid_cases hv with rfl | ⟨m, rest, r, rfl, hm, hr⟩
  ·exact h0
  ·have := hm.len;rw [List.length_append] at hn
   cases n with
   | zero => omega
   | succ n => exact h1 m rest r hm hr (valid_ind h0 h1 n rest (by omega) hr)
theorem valid_app {a : List UInt8} (b : List UInt8) (ha : validD a = true) : validD (a ++ b) = validD b := by
 refine valid_ind (p := fun a => validD (a ++ b) = validD b) rfl ?_ a.length a (Nat.le_refl _) ha;intro m rest r hm _ ih;rw [List.append_assoc, valid_rune hm, ih]
theorem valid_pre (x : UInt8) (t : List UInt8) (hx : x.toNat < 128) : ∀ (n : Nat) (a : List UInt8), a.length ≤ n → validD (a ++ x :: t) = true → validD a = true
 | n, a, hn, hv => by
  by_cases ha : a = []
  ·subst ha; rfl
  ·rcases valid_cases hv with h | ⟨m, rest, r, he, hm, hr⟩
   ·simp at h
   ·have hml := hm.len
    by_cases hle : m.length ≤ a.length
    ·obtain ⟨a', rfl⟩ : ∃ a', a = m ++ a' := by
      refine ⟨a.drop m.length, ?_⟩;have h1 := congrArg (List.take m.length) he;rw [List.take_append_of_le_length hle, List.take_left] at h1
      conv => lhs; rw [← List.take_append_drop m.length a, h1]
     rw [List.append_assoc, List.append_cancel_left_eq] at he;rw [valid_rune hm];rw [List.length_append] at hn
     cases n with
     | zero => omega
     | succ n => exact valid_pre x t hx n a' (by omega) (by rw [he]; exact hr)
    ·exfalso
     obtain ⟨b, cs, rfl, -, hc⟩ := hm.lead;have hal : 0 < a.length := List.length_pos_iff.2 ha;have hxm : x ∈ cs := by
      have h1 := congrArg (fun l => l[a.length]?) he;simp only [List.length_cons] at hle;rw [List.getElem?_append_right (Nat.le_refl _), Nat.sub_self, List.getElem?_append_left (by simp; omega)] at h1;obtain ⟨k, hk⟩ : ∃ k, a.length = k + 1 := ⟨a.length - 1, by omega⟩;rw [hk, List.getElem?_cons_succ] at h1;simp at h1;exact List.mem_of_getElem? h1.symm
     have := hc x hxm;omega
def leads (l : List UInt8) : Nat := l.countP fun b => b.toNat / 64 != 2
theorem leads_app (a b : List UInt8) : leads (a ++ b) = leads a + leads b := List.countP_append
theorem leads_rune {m : List UInt8} {r : Nat} (h : IsRune m r) (k : Nat) (hk : 0 < k) : leads (m.take k) = 1 := by
 obtain ⟨b, cs, rfl, hb, hc⟩ := h.lead;obtain ⟨k, rfl⟩ : ∃ j, k = j + 1 := ⟨k - 1, by omega⟩;rw [List.take_succ_cons];unfold leads;rw [List.countP_cons_of_pos (by simpa using hb), List.countP_eq_zero.2];intro c hc';have := hc c (List.mem_of_mem_take hc');simp [this]
theorem leads_one {m : List UInt8} {r : Nat} (h : IsRune m r) : leads m = 1 := by
 have := leads_rune h m.length h.len
 rwa [List.take_length] at this
theorem dec_pos {l : List UInt8} (h : l ≠ []) : 1 ≤ (decodeL l).2 := by
 rcases rune_or_bad l h with ⟨e, -⟩ | ⟨m, rest, r, rfl, hm⟩
 ·rw [e]; exact Nat.le_refl _
 ·rw [hm.dec]; exact hm.len
def runesF : Nat → List UInt8 → List Nat
 | 0, _ => []
 | _ + 1, [] => []
 | f + 1, b :: t => (decodeL (b :: t)).1 :: runesF f ((b :: t).drop (decodeL (b :: t)).2)
theorem runesF_fuel : ∀ (f g : Nat) (l : List UInt8), l.length ≤ f → l.length ≤ g → runesF f l = runesF g l
 | 0, 0, _, _, _ => rfl
 | 0, g + 1, l, h, _ => by
  obtain rfl : l = [] := List.eq_nil_of_length_eq_zero (by omega)
  rfl
 | f + 1, 0, l, _, h => by
  obtain rfl : l = [] := List.eq_nil_of_length_eq_zero (by omega)
  rfl
 | f + 1, g + 1, [], _, _ => rfl
 | f + 1, g + 1, b :: t, h1, h2 => by
  have hp := dec_pos (l := b :: t) (by simp);rw [runesF, runesF, runesF_fuel f g _ (by rw [List.length_drop]; omega) (by rw [List.length_drop]; omega)]
def runesL (l : List UInt8) : List Nat := runesF l.length l
theorem runes_nil : runesL [] = [] := rfl
theorem runes_step {l : List UInt8} (h : l ≠ []) : runesL l = (decodeL l).1 :: runesL (l.drop (decodeL l).2) := by
 cases l with
 | nil => exact absurd rfl h
 | cons b t =>
  have hp := dec_pos (l := b :: t) h;unfold runesL;rw [List.length_cons, runesF, runesF_fuel t.length _ _ (by rw [List.length_drop, List.length_cons]; omega) (Nat.le_refl _)]
theorem runes_rune {m : List UInt8} {r : Nat} (hm : IsRune m r) (rest : List UInt8) : runesL (m ++ rest) = r :: runesL rest := by
 rw [runes_step (by intro h; exact hm.ne (List.append_eq_nil_iff.1 h).1), hm.dec, List.drop_left]
theorem runes_len (l : List UInt8) : (runesL l).length ≤ l.length := by
 have : ∀ (n : Nat) (l : List UInt8), (runesF n l).length ≤ n := by
  intro n
  induction n with
  | zero => intro l; exact Nat.le_refl _
  | succ n ih =>
   intro l
   cases l with
   | nil => exact Nat.zero_le _
   | cons b t => rw [runesF]; simp; exact ih _
 exact this _ _
def lessL : List Nat → List Nat → Bool
 | [], [] => false
 | [], _ :: _ => true
 | _ :: _, [] => false
 | r :: x, q :: y => if r = q then lessL x y else decide (r < q)
theorem less_same (r : Nat) (x y : List Nat) : lessL (r :: x) (r :: y) = lessL x y := by simp [lessL]
theorem less_unlike {r q : Nat} (x y : List Nat) (h : r ≠ q) : lessL (r :: x) (q :: y) = decide (r < q) := by simp [lessL, h]
theorem less_irr : ∀ x : List Nat, lessL x x = false
 | [] => rfl
 | r :: x => by rw [less_same]; exact less_irr x
theorem less_one : ∀ x y : List Nat, x ≠ y → lessL x y = !lessL y x
 | [], [], h => absurd rfl h
 | [], _ :: _, _ => rfl
 | _ :: _, [], _ => rfl
 | r :: x, q :: y, h => by
  by_cases hr : r = q
  ·subst hr;rw [less_same, less_same];exact less_one x y (fun e => h (by rw [e]))
  ·rw [less_unlike _ _ hr, less_unlike _ _ (fun e => hr e.symm)];have : decide (q < r) = !decide (r < q) := by
    by_cases h1 : r < q
    ·simp [h1]; omega
    ·simp [h1]; omega
   rw [this];simp
theorem less_end {x y : List Nat} (h : x = [] ∨ y = []) : lessL x y = decide (x.length < y.length) := by
 rcases h with rfl | rfl
 ·cases y <;> simp [lessL]
 ·cases x <;> simp [lessL]
theorem less_drop (x y : List Nat) (k : Nat) (r q : Nat) (hx : x[k]? = some r) (hy : y[k]? = some q) : lessL (x.drop k) (y.drop k) = if r = q then lessL (x.drop (k + 1)) (y.drop (k + 1)) else decide (r < q) := by
 obtain ⟨h1, rfl⟩ := List.getElem?_eq_some_iff.1 hx;obtain ⟨h2, rfl⟩ := List.getElem?_eq_some_iff.1 hy;rw [List.drop_eq_getElem_cons h1, List.drop_eq_getElem_cons h2, lessL]
def digitR (r : Nat) : Bool := decide (48 ≤ r) && decide (r ≤ 57)
def mayR (r : Nat) : Bool := decide (97 ≤ r) && decide (r ≤ 122) || decide (65 ≤ r) && decide (r ≤ 90) || digitR r || r == 95 || decide (127 < r)
def nameL (rs : List Nat) : Bool := decide (0 < rs.length) && decide (rs.length ≤ 20) && !digitR (rs.headD 0) && rs.all mayR
theorem name_bad1 (pre : List Nat) (r : Nat) (rest : List Nat) (h : mayR r = false) : nameL (pre ++ r :: rest) = false := by
 simp [nameL, h]
theorem name_bad2 (r : Nat) (rest : List Nat) (h : digitR r = true) : nameL (r :: rest) = false := by
 simp [nameL, h]
theorem name_bad3 (pre : List Nat) (r : Nat) (rest : List Nat) (h : pre.length = 20) : nameL (pre ++ r :: rest) = false := by
 have : decide ((pre ++ r :: rest).length ≤ 20) = false := decide_eq_false (by rw [List.length_append, List.length_cons]; omega);simp only [nameL, this, Bool.and_false, Bool.false_and]
def OkPre (pre : List Nat) : Prop := pre.all mayR = true ∧ digitR (pre.headD 0) = false
theorem okPre_nil : OkPre [] := ⟨rfl, by decide⟩
theorem okPre_snoc {pre : List Nat} {r : Nat} (h : OkPre pre) (hr : mayR r = true) (hd : pre = [] → digitR r = false) : OkPre (pre ++ [r]) := by
 refine ⟨by rw [List.all_append, h.1]; simpa using hr, ?_⟩
 cases pre with
 | nil => exact hd rfl
 | cons x t => exact h.2
theorem okPre_name {pre : List Nat} (h : OkPre pre) (hl : pre.length ≤ 20) : nameL pre = decide (0 < pre.length) := by
 unfold nameL;rw [h.1, h.2, decide_eq_true hl];simp
def resvL : List ByteArray := [⟨#[98, 101, 103, 105, 110]⟩, ⟨#[114, 101, 97, 100]⟩, ⟨#[119, 114, 105, 116, 101]⟩, ⟨#[111, 107]⟩, ⟨#[102, 97, 105, 108]⟩, ⟨#[105, 110, 102, 111]⟩, ⟨#[110, 105, 108]⟩]
def reservedL (l : List UInt8) : Bool := (resvL.map by_).contains l
def isName (s : ByteArray) : Bool := validD (by_ s) && !reservedL (by_ s) && nameL (runesL (by_ s))
def encL (rs : List Nat) : List UInt8 := (rs.map fun (r : Nat) => encodeRune (r : Int)).flatten
theorem enc_len : ∀ rs : List Nat, (encL rs).length ≤ 4 * rs.length
 | [] => Nat.zero_le _
 | r :: rs => by
  have ih := enc_len rs;have h : (encodeRune (r : Int)).length ≤ 4 := by
   unfold encodeRune;rw [List.length_map];exact (encodeRuneZ_length _).2
  show (encodeRune (r : Int) ++ encL rs).length ≤ _
  rw [List.length_append, List.length_cons];omega
theorem enc_rune {m : List UInt8} {r : Nat} (hm : IsRune m r) : encodeRune (r : Int) = m := by
 have h := encode_decode m hm.ne (by have := hm.dec []; rw [List.append_nil] at this; rw [this]; exact hm.good);have hd := hm.dec [];rw [List.append_nil] at hd;rw [hd] at h
 rwa [List.take_length] at h
theorem enc_runes {l : List UInt8} (hv : validD l = true) : encL (runesL l) = l := by
 refine valid_ind (p := fun l => encL (runesL l) = l) rfl ?_ l.length l (Nat.le_refl _) hv;intro m rest r hm _ ih;rw [runes_rune hm]
 show encodeRune (r : Int) ++ encL (runesL rest) = _
 rw [enc_rune hm, ih]
theorem runes_inj {a b : List UInt8} (ha : validD a = true) (hb : validD b = true) (h : runesL a = runesL b) : a = b := by
 rw [← enc_runes ha, ← enc_runes hb, h]
def kOk (k : Int) : Bool := decide (1 ≤ k ∧ k ≤ 6)
def kN (k : Int) : Int := if 1 ≤ k ∧ k ≤ 6 then k else 0
def kW (k : Int) : ByteArray := if k = 1 then ⟨#[98, 101, 103, 105, 110]⟩ else if k = 2 then ⟨#[114, 101, 97, 100]⟩ else if k = 3 then ⟨#[119, 114, 105, 116, 101]⟩ else if k = 4 then ⟨#[111, 107]⟩ else if k = 5 then ⟨#[102, 97, 105, 108]⟩ else if k = 6 then ⟨#[105, 110, 102, 111]⟩ else ⟨#[]⟩
def kO (k : Int) : Bool := decide (k = 2 ∨ k = 3)
def wK (s : ByteArray) : Int := if s = ⟨#[98, 101, 103, 105, 110]⟩ then 1 else if s = ⟨#[114, 101, 97, 100]⟩ then 2 else if s = ⟨#[119, 114, 105, 116, 101]⟩ then 3 else if s = ⟨#[111, 107]⟩ then 4 else if s = ⟨#[102, 97, 105, 108]⟩ then 5 else if s = ⟨#[105, 110, 102, 111]⟩ then 6 else 0
theorem kN_cases (k : Int) : (k = 1) ∨ (k = 2) ∨ (k = 3) ∨ (k = 4) ∨ (k = 5) ∨ (k = 6) ∨ (kN k = 0 ∧ kOk k = false ∧ kO k = false ∧ kW k = ⟨#[]⟩ ∧ k ≠ 1 ∧ k ≠ 2 ∧ k ≠ 3 ∧ k ≠ 4 ∧ k ≠ 5 ∧ k ≠ 6) := by
 by_cases h : 1 ≤ k ∧ k ≤ 6
 ·omega
 ·have h1 : k ≠ 1 := by omega
  have h2 : k ≠ 2 := by omega
  have h3 : k ≠ 3 := by omega
  have h4 : k ≠ 4 := by omega
  have h5 : k ≠ 5 := by omega
  have h6 : k ≠ 6 := by omega
  iterate 6 right
  refine ⟨if_neg h, decide_eq_false h, decide_eq_false (by omega), ?_, h1, h2, h3, h4, h5, h6⟩;unfold kW;rw [if_neg h1, if_neg h2, if_neg h3, if_neg h4, if_neg h5, if_neg h6]
theorem wK_cases (s : ByteArray) : (s = ⟨#[98, 101, 103, 105, 110]⟩ ∧ wK s = 1) ∨ (s = ⟨#[114, 101, 97, 100]⟩ ∧ wK s = 2) ∨ (s = ⟨#[119, 114, 105, 116, 101]⟩ ∧ wK s = 3) ∨ (s = ⟨#[111, 107]⟩ ∧ wK s = 4) ∨ (s = ⟨#[102, 97, 105, 108]⟩ ∧ wK s = 5) ∨ (s = ⟨#[105, 110, 102, 111]⟩ ∧ wK s = 6) ∨ (wK s = 0 ∧ s ≠ ⟨#[98, 101, 103, 105, 110]⟩ ∧ s ≠ ⟨#[114, 101, 97, 100]⟩ ∧ s ≠ ⟨#[119, 114, 105, 116, 101]⟩ ∧ s ≠ ⟨#[111, 107]⟩ ∧ s ≠ ⟨#[102, 97, 105, 108]⟩ ∧ s ≠ ⟨#[105, 110, 102, 111]⟩) := by
 unfold wK
 by_cases h1 : s = ⟨#[98, 101, 103, 105, 110]⟩
 ·subst h1; left; exact ⟨rfl, by decide⟩
 by_cases h2 : s = ⟨#[114, 101, 97, 100]⟩
 ·subst h2; right; left; exact ⟨rfl, by decide⟩
 by_cases h3 : s = ⟨#[119, 114, 105, 116, 101]⟩
 ·subst h3; right; right; left; exact ⟨rfl, by decide⟩
 by_cases h4 : s = ⟨#[111, 107]⟩
 ·subst h4; right; right; right; left; exact ⟨rfl, by decide⟩
 by_cases h5 : s = ⟨#[102, 97, 105, 108]⟩
 ·subst h5; right; right; right; right; left; exact ⟨rfl, by decide⟩
 by_cases h6 : s = ⟨#[105, 110, 102, 111]⟩
 ·subst h6; right; right; right; right; right; left; exact ⟨rfl, by decide⟩
 iterate 6 right
 exact ⟨by rw [if_neg h1, if_neg h2, if_neg h3, if_neg h4, if_neg h5, if_neg h6], h1, h2, h3, h4, h5, h6⟩
theorem ev_ne {s : ByteArray} {l : List UInt8} (h : s ≠ ⟨l.toArray⟩) : (s.toList == l) = false ∧ (l == s.toList) = false := by
 constructor
 all_goals
  rw [beq_eq_false_iff_ne, Lib.toList_data];intro e
 ·exact h (by_inj (e.trans List.toList_toArray.symm))
 ·exact h (by_inj (e.symm.trans List.toList_toArray.symm))
def verbC : List Value := [.int .i64 1, .string ⟨#[98, 101, 103, 105, 110]⟩, .bool false, .int .i64 2, .string ⟨#[114, 101, 97, 100]⟩, .bool true, .int .i64 3, .string ⟨#[119, 114, 105, 116, 101]⟩, .bool true, .int .i64 4, .string ⟨#[111, 107]⟩, .bool false, .int .i64 5, .string ⟨#[102, 97, 105, 108]⟩, .bool false, .int .i64 6, .string ⟨#[105, 110, 102, 111]⟩, .bool false]
def verbV : Value := .agg #[.int .i64 1, .string ⟨#[98, 101, 103, 105, 110]⟩, .bool false, .int .i64 2, .string ⟨#[114, 101, 97, 100]⟩, .bool true, .int .i64 3, .string ⟨#[119, 114, 105, 116, 101]⟩, .bool true, .int .i64 4, .string ⟨#[111, 107]⟩, .bool false, .int .i64 5, .string ⟨#[102, 97, 105, 108]⟩, .bool false, .int .i64 6, .string ⟨#[105, 110, 102, 111]⟩, .bool false]
def Verbs (w : World) : Prop := 2 < w.heap.size ∧ ∀ (i : Nat) (u : Value), verbC[i]? = some u → w.cell? ⟨2, i, none⟩ = some u
theorem Verbs.only {w w' : World} (h : Verbs w) (ho : Only [] w w') : Verbs w' :=
 ⟨Nat.lt_of_lt_of_le h.1 ho.size, fun i u hu => (ho.cell (p := ⟨2, i, none⟩) h.1 (by simp)).trans (h.2 i u hu)⟩
theorem verb_i0 (w : World) : (Instr.index 196 verbV (.int .i64 0)).run Tryz.prog w = .ok (.agg #[.int .i64 1, .string (kW 1), .bool (kO 1)]) w := by kernel_rfl
theorem verb_i1 (w : World) : (Instr.index 196 verbV (.int .i64 1)).run Tryz.prog w = .ok (.agg #[.int .i64 2, .string (kW 2), .bool (kO 2)]) w := by kernel_rfl
theorem verb_i2 (w : World) : (Instr.index 196 verbV (.int .i64 2)).run Tryz.prog w = .ok (.agg #[.int .i64 3, .string (kW 3), .bool (kO 3)]) w := by kernel_rfl
theorem verb_i3 (w : World) : (Instr.index 196 verbV (.int .i64 3)).run Tryz.prog w = .ok (.agg #[.int .i64 4, .string (kW 4), .bool (kO 4)]) w := by kernel_rfl
theorem verb_i4 (w : World) : (Instr.index 196 verbV (.int .i64 4)).run Tryz.prog w = .ok (.agg #[.int .i64 5, .string (kW 5), .bool (kO 5)]) w := by kernel_rfl
theorem verb_i5 (w : World) : (Instr.index 196 verbV (.int .i64 5)).run Tryz.prog w = .ok (.agg #[.int .i64 6, .string (kW 6), .bool (kO 6)]) w := by kernel_rfl
theorem verb_idx (j : Nat) (hj : j < 6) (w : World) : (Instr.index 196 verbV (.int .i64 (j : Int))).run Tryz.prog w = .ok (.agg #[.int .i64 ((j : Int) + 1), .string (kW ((j : Int) + 1)), .bool (kO ((j : Int) + 1))]) w := by
 have h : j = 0 ∨ j = 1 ∨ j = 2 ∨ j = 3 ∨ j = 4 ∨ j = 5 := by omega
 rcases h with rfl | rfl | rfl | rfl | rfl | rfl
 ·exact verb_i0 w
 ·exact verb_i1 w
 ·exact verb_i2 w
 ·exact verb_i3 w
 ·exact verb_i4 w
 ·exact verb_i5 w
end Go.Proofs.YtjfbeeogiejopaaGreatDoor
namespace Go.Proofs.YtjfbeeogiejopaaGreatDoor
open Go.RowKit
section
variable {P : Program}
theorem results_row1 {fn : Func} {p : Tmp} {ty : TypeId} (h : fn.results = #[.cell p ty]) (tmps : Array Value) (w : World) (g : Nat) (t : TypeId) (cs : Array Value) (d : TypeDesc)
  (hp : tmps.getD p undef = .pointer (some ⟨g, 0, none⟩)) (hg : Blk w g t cs) (hu : P.underlying ty = some d) (hd : d.isRow = true) (hi : (P.info? ty).map (·.size) = some cs.size) :
  (results fn tmps).run P w = .ok (.agg cs) w :=
 results_cell_row h tmps w g t cs (0, 0) d hp hg hu (by cases d <;> simp_all) hi
theorem results_row2 {fn : Func} {p u : Tmp} {ty : TypeId} (h : fn.results = #[.cell p ty, .tmp u]) (tmps : Array Value) (w : World) (g : Nat) (t : TypeId) (cs : Array Value) (d : TypeDesc)
  (hp : tmps.getD p undef = .pointer (some ⟨g, 0, none⟩)) (hg : Blk w g t cs) (hu : P.underlying ty = some d) (hd : d.isRow = true) (hi : (P.info? ty).map (·.size) = some cs.size) :
  (results fn tmps).run P w = .ok (.tuple #[.agg cs, tmps.getD u undef]) w := by
 have hl := run_loadVar_row (P := P) w g t ty cs (0, 0) d hg hu (by cases d <;> simp_all) hi;rw [results_cell_tmp h, hp];simp [asAddr, hl, Result.andThen]
theorem results_row3 {fn : Func} {p u v : Tmp} {ty : TypeId} (h : fn.results = #[.cell p ty, .tmp u, .tmp v]) (tmps : Array Value) (w : World) (g : Nat) (t : TypeId) (cs : Array Value) (d : TypeDesc)
  (hp : tmps.getD p undef = .pointer (some ⟨g, 0, none⟩)) (hg : Blk w g t cs) (hu : P.underlying ty = some d) (hd : d.isRow = true) (hi : (P.info? ty).map (·.size) = some cs.size) :
  (results fn tmps).run P w = .ok (.tuple #[.agg cs, tmps.getD u undef, tmps.getD v undef]) w := by
 have hp' : tmps[p]?.getD undef = .pointer (some ⟨g, 0, none⟩) := by simpa using hp
 have hl := run_loadVar_row (P := P) w g t ty cs (0, 0) d hg hu (by cases d <;> simp_all) hi;simp only [results, h];simp [Sem.run_bind, Result.andThen, hp', asAddr, hl]
end
theorem Blk.there {w : World} {g : Nat} {t : TypeId} {cs : Array Value} (h : Blk w g t cs) : w.there g 0 cs.size := fun j hj => by
 rw [Nat.zero_add];exact ⟨by rw [h.at_ j]; simp [hj], h.free j⟩
theorem setCells_only (g : Nat) : ∀ (vs : List Value) (o : Nat) (S : List Nat) (w w' : World), Only S w w' → (g < w.heap.size → g ∈ S) → Only S w (w'.setCells g o vs)
 | [], _, _, _, _, h, _ => h
 | v :: vs, o, S, w, w', h, hg => setCells_only g vs (o + 1) S w _ (h.put (p := ⟨g, o, none⟩) hg v) hg
theorem Only.putAll {S : List Nat} {w w' : World} (h : Only S w w') {g : Nat} (hg : g < w.heap.size → g ∈ S) (vs : List Value) : Only S w (w'.setCells g 0 vs) := setCells_only g vs 0 S w w' h hg
theorem setCells_blk (g : Nat) (t : TypeId) : ∀ (vs : List Value) (o : Nat) (w : World) (cs : Array Value), Blk w g t cs → o + vs.length = cs.size → Blk (w.setCells g o vs) g t (cs.toList.take o ++ vs).toArray
 | [], o, w, cs, h, hl => by
  have e : (cs.toList.take o ++ []).toArray = cs := by
   rw [List.append_nil, List.take_of_length_le (by simp at hl ⊢; omega)]
  rw [e];exact h
 | v :: vs, o, w, cs, h, hl => by
  have h1 := h.put o v;have hl2 : o < cs.size := by simp at hl; omega
  have h2 := setCells_blk g t vs (o + 1) _ _ h1 (by simp at hl ⊢; omega);have e : (cs.setIfInBounds o v).toList.take (o + 1) ++ vs = cs.toList.take o ++ v :: vs := by
   rw [Array.toList_setIfInBounds, List.take_add_one, List.take_set_of_le (by omega)];simp [hl2]
  rw [e] at h2;exact h2
theorem Blk.putAll {w : World} {g : Nat} {t : TypeId} {cs : Array Value} (h : Blk w g t cs) (vs : List Value) (hl : vs.length = cs.size) : Blk (w.setCells g 0 vs) g t vs.toArray := by
 have := setCells_blk g t vs 0 w cs h (by simpa using hl)
 simpa using this
theorem Blk.range {w : World} {g : Nat} {t : TypeId} {cs : Array Value} (h : Blk w g t cs) : w.rangeAt g 0 cs.toList := fun j v hj => by
 rw [Nat.zero_add, h.at_ j]
 simpa using hj
theorem wp_store_blk {P : Program} {op : Oper} {a : Act} {w : World} {K : Act → World → Prop} {Q : Exit → Act → World → Prop} (ty : TypeId) (x y : Operand) (ho : op.op = .store ty x y)
  (g : Nat) (t : TypeId) (cs cells : Array Value) (hx : a.eval x = .pointer (some ⟨g, 0, none⟩)) (hy : a.eval y = .agg cells)
  (hb : Blk w g t cs) (hl : cells.size = cs.size) (hi : (P.info? ty).map (·.size) = some cells.size) (h1 : cells.all (·.oneCell') = true)
  (h : ∀ w', Blk w' g t cells → Only [g] w w' → K (a.put op.dst undef) w') : op.wp P a w K Q :=
 wp_store_mid ty x y ho g 0 cells hx hy (by rw [hl]; exact hb.there) hi h1 (h _ (by have := hb.putAll cells.toList (by simpa using hl); simpa using this) ((Only.refl [g] w).putAll (fun _ => by simp) _))
attribute [local go_sem ↓] Go.wp_at_zero Go.wp_at_succ
theorem wK_of (j : Nat) (h : j < 6) : wK (kW ((j : Int) + 1)) = (j : Int) + 1 := by
 have h : j = 0 ∨ j = 1 ∨ j = 2 ∨ j = 3 ∨ j = 4 ∨ j = 5 := by omega
 rcases h with rfl | rfl | rfl | rfl | rfl | rfl <;> decide
theorem text_off {s t : ByteArray} (h : s ≠ t) : (s.toList == t.toList) = false := by
 rw [beq_eq_false_iff_ne, Lib.toList_data, Lib.toList_data];intro e;exact h (by_inj e)
theorem ofWord_any (s : ByteArray) (w : World) (hV : Verbs w) : Calls Tryz.prog 117 #[.string s] w fun e w' => e = .returned (.tuple #[.agg #[.int .i64 (wK s), .string (kW (wK s)), .bool (kO (wK s))], .bool (kOk (wK s))]) ∧ Only [] w w' := by
 have hv1 := hV.only ((Only.refl [] w).alloc (.cells #[.int .i64 0, .string ⟨#[]⟩, .bool false] 151));have hx := verb_idx;have HX := Hd hx;have HB := Hd (Blk.made w 151 #[.int .i64 0, .string ⟨#[]⟩, .bool false]);have HO := Hd ((Only.refl [] w).alloc (.cells #[.int .i64 0, .string ⟨#[]⟩, .bool false] 151));have HX2 := HX;have HV1 : Hid (World.rangeAt (w.alloc (.cells #[.int .i64 0, .string ⟨#[]⟩, .bool false] 151)) 2 0 verbC) := Hd (fun j v hj => by rw [Nat.zero_add]; exact hv1.2 j v hj);clear hV hx hv1 HX;go_enter Tryz.func117, Tryz.ntmps117;go_upto_region 1 with (fail)
 refine wp_region_lit ?_;refine wpList_load_mid rfl 196 (.global 2) rfl 2 0 rfl verbC (.array 6 151) HV1.out (by kernel_rfl) rfl (by kernel_rfl) ?_;have hvv : Value.agg verbC.toArray = verbV := by rfl
 rw [hvv];have HX := HX2;clear HX2 HV1 hvv;generalize verbV = V at *;go_wp2_with fail
 go_loopw [7] (fun i wr => ∃ j : Nat, i = .int .i64 j ∧ j ≤ 6 ∧ Hid (∀ m : Nat, 1 ≤ m → m ≤ j → s ≠ kW (m : Int)) ∧ Hid (Blk wr w.heap.size 151 #[.int .i64 0, .string ⟨#[]⟩, .bool false]) ∧ Hid (Only [] w wr)) (fun i _ => 6 - (intOf i).toNat)
 case atStart => exact ⟨0, rfl, by omega, Hd (fun m h1 h2 => by omega), HB, HO⟩
 case round =>
  obtain ⟨j, rfl, hj, hno, hb, ho⟩ := hrel;have h00 := ho.out.size;have f0 := hb.out.at_ 0;have f1 := hb.out.at_ 1;have f2 := hb.out.at_ 2;have g0 := hb.out.free 0;have g1 := hb.out.free 1;have g2 := hb.out.free 2;simp at f0 f1 f2;have hb0 := hb.out.lt
  by_cases hlt : j < 6
  ·have hidx := HX.out j hlt;have h01 : (j : Int) < 6 := by omega
   have hwk : IntKind.i64.wrap ((j : Int) + 1) = (j : Int) + 1 := IntWalk.i64_in _ (by omega)
   by_cases hk : s = kW ((j : Int) + 1)
   ·have HE : Hid (wK s = (j : Int) + 1 ∧ kOk ((j : Int) + 1) = true) := Hd ⟨by rw [hk]; exact wK_of j hlt, decide_eq_true (by omega)⟩;obtain ⟨oo, hoo⟩ : ∃ oo, oo = kO ((j : Int) + 1) := ⟨_, rfl⟩;rw [← hk, ← hoo] at hidx;have HWW := Hd hk;have HOO := Hd hoo;have hbt : (s.toList == s.toList) = true := by simp
    clear hk hoo;go_wp2
    have bF : Blk _ w.heap.size 151 #[.int .i64 ((j : Int) + 1), .string s, .bool oo] := ((hb.out.put 0 (.int .i64 ((j : Int) + 1))).put 1 (.string s)).put 2 (.bool oo);refine bodyPost_ret (results_row2 Tryz.results117 _ _ w.heap.size 151 #[.int .i64 ((j : Int) + 1), .string s, .bool oo] _ rfl (bF.alloc _) Tryz.underlying151 rfl (by kernel_rfl)) rfl ⟨by rw [HE.out.1, HE.out.2, ← HWW.out, HOO.out]; rfl, ?_⟩
    repeat (first | exact ho.out | refine Only.put ?_ (fun h => by simp only at h; omega) _ | refine Only.alloc ?_ _)
   ·have HK := Hd hk;have hbt : ((kW ((j : Int) + 1)).toList == s.toList) = false := text_off (fun e => hk e.symm);obtain ⟨ww, hw⟩ : ∃ ww, ww = kW ((j : Int) + 1) := ⟨_, rfl⟩;rw [← hw] at hidx hbt;have HWW := Hd hw;generalize kO ((j : Int) + 1) = oo at *;clear hk hw;go_wp2
    go_roundw
    case rel =>
     refine ⟨j + 1, by go_num, by omega, Hd (fun m h1 h2 e => ?_), Hd ?_, Hd ?_⟩
     ·rcases Nat.lt_or_ge j m with h3 | h3
      ·have : m = j + 1 := by omega
       subst this;exact HK.out e
      ·exact hno.out m h1 h3 e
     ·repeat (first | exact hb.out | refine Blk.far ?_ (by simp; omega) _ | refine Blk.alloc ?_ _)
     ·repeat (first | exact ho.out | refine Only.put ?_ (fun h => by simp only at h; omega) _ | refine Only.alloc ?_ _)
    case measure => simp [intOf]; omega
  ·obtain rfl : j = 6 := by omega
   have HZ : Hid (wK s = 0) := Hd (by
    have q := hno.out;have q1 := q 1 (by omega) (by omega);have q2 := q 2 (by omega) (by omega);have q3 := q 3 (by omega) (by omega);have q4 := q 4 (by omega) (by omega);have q5 := q 5 (by omega) (by omega);have q6 := q 6 (by omega) (by omega);rcases wK_cases s with ⟨e, -⟩ | ⟨e, -⟩ | ⟨e, -⟩ | ⟨e, -⟩ | ⟨e, -⟩ | ⟨e, -⟩ | ⟨e, -⟩
    ·exact absurd e q1
    ·exact absurd e q2
    ·exact absurd e q3
    ·exact absurd e q4
    ·exact absurd e q5
    ·exact absurd e q6
    ·exact e)
   go_wp2
   have bF : Blk _ w.heap.size 151 #[.int .i64 0, .string ⟨#[]⟩, .bool false] := ((hb.out.put 0 (.int .i64 0)).put 1 (.string ⟨#[]⟩)).put 2 (.bool false);refine bodyPost_ret (results_row2 Tryz.results117 _ _ w.heap.size 151 #[.int .i64 0, .string ⟨#[]⟩, .bool false] _ rfl bF Tryz.underlying151 rfl (by kernel_rfl)) rfl ⟨by rw [HZ.out]; rfl, ?_⟩
   repeat (first | exact ho.out | refine Only.put ?_ (fun h => by simp only at h; omega) _ | refine Only.alloc ?_ _)
theorem ofKind_any (k : Int) (w : World) (hV : Verbs w) : Calls Tryz.prog 164 #[.int .i64 k] w fun e w' => e = .returned (.tuple #[.agg #[.int .i64 (kN k), .string (kW k), .bool (kO k)], .bool (kOk k)]) ∧ Only [] w w' := by
 have hv1 := hV.only ((Only.refl [] w).alloc (.cells #[.int .i64 0, .string ⟨#[]⟩, .bool false] 151));have hx := verb_idx;have HX := Hd hx;have HB := Hd (Blk.made w 151 #[.int .i64 0, .string ⟨#[]⟩, .bool false]);have HO := Hd ((Only.refl [] w).alloc (.cells #[.int .i64 0, .string ⟨#[]⟩, .bool false] 151));have HX2 := HX;have HV1 : Hid (World.rangeAt (w.alloc (.cells #[.int .i64 0, .string ⟨#[]⟩, .bool false] 151)) 2 0 verbC) := Hd (fun j v hj => by rw [Nat.zero_add]; exact hv1.2 j v hj);clear hV hx hv1 HX;go_enter Tryz.func164, Tryz.ntmps164;go_upto_region 1 with (fail)
 refine wp_region_lit ?_;refine wpList_load_mid rfl 196 (.global 2) rfl 2 0 rfl verbC (.array 6 151) HV1.out (by kernel_rfl) rfl (by kernel_rfl) ?_;have hvv : Value.agg verbC.toArray = verbV := by rfl
 rw [hvv];have HX := HX2;clear HX2 HV1 hvv;generalize verbV = V at *;go_wp2_with fail
 go_loopw [7] (fun i wr => ∃ j : Nat, i = .int .i64 j ∧ j ≤ 6 ∧ Hid (∀ m : Nat, 1 ≤ m → m ≤ j → k ≠ (m : Int)) ∧ Hid (Blk wr w.heap.size 151 #[.int .i64 0, .string ⟨#[]⟩, .bool false]) ∧ Hid (Only [] w wr)) (fun i _ => 6 - (intOf i).toNat)
 case atStart => exact ⟨0, rfl, by omega, Hd (fun m h1 h2 => by omega), HB, HO⟩
 case round =>
  obtain ⟨j, rfl, hj, hno, hb, ho⟩ := hrel;have h00 := ho.out.size;have f0 := hb.out.at_ 0;have f1 := hb.out.at_ 1;have f2 := hb.out.at_ 2;have g0 := hb.out.free 0;have g1 := hb.out.free 1;have g2 := hb.out.free 2;simp at f0 f1 f2;have hb0 := hb.out.lt
  by_cases hlt : j < 6
  ·have hidx := HX.out j hlt;have h01 : (j : Int) < 6 := by omega
   have hwk : IntKind.i64.wrap ((j : Int) + 1) = (j : Int) + 1 := IntWalk.i64_in _ (by omega)
   by_cases hk : k = (j : Int) + 1
   ·subst hk;have hbt : ((j : Int) + 1 == (j : Int) + 1) = true := by simp
    have HE : Hid (kN ((j : Int) + 1) = (j : Int) + 1 ∧ kOk ((j : Int) + 1) = true) := Hd ⟨if_pos (by omega), decide_eq_true (by omega)⟩;obtain ⟨ww, hw⟩ : ∃ ww, ww = kW ((j : Int) + 1) := ⟨_, rfl⟩;obtain ⟨oo, hoo⟩ : ∃ oo, oo = kO ((j : Int) + 1) := ⟨_, rfl⟩;rw [← hw, ← hoo] at hidx;have HWW := Hd hw;have HOO := Hd hoo;clear hw hoo;go_wp2
    have bF : Blk _ w.heap.size 151 #[.int .i64 ((j : Int) + 1), .string ww, .bool oo] := ((hb.out.put 0 (.int .i64 ((j : Int) + 1))).put 1 (.string ww)).put 2 (.bool oo);refine bodyPost_ret (results_row2 Tryz.results164 _ _ w.heap.size 151 #[.int .i64 ((j : Int) + 1), .string ww, .bool oo] _ rfl (bF.alloc _) Tryz.underlying151 rfl (by kernel_rfl)) rfl ⟨by rw [HE.out.1, HE.out.2, HWW.out, HOO.out]; rfl, ?_⟩
    repeat (first | exact ho.out | refine Only.put ?_ (fun h => by simp only at h; omega) _ | refine Only.alloc ?_ _)
   ·have hbt : ((j : Int) + 1 == k) = false := by simp; omega
    have HK := Hd hk;clear hk;go_wp2
    go_roundw
    case rel =>
     refine ⟨j + 1, by go_num, by omega, Hd (fun m h1 h2 e => ?_), Hd ?_, Hd ?_⟩
     ·rcases Nat.lt_or_ge j m with h3 | h3
      ·have : m = j + 1 := by omega
       subst this;exact HK.out (by rw [e]; omega)
      ·exact hno.out m h1 h3 e
     ·repeat (first | exact hb.out | refine Blk.far ?_ (by simp; omega) _ | refine Blk.alloc ?_ _)
     ·repeat (first | exact ho.out | refine Only.put ?_ (fun h => by simp only at h; omega) _ | refine Only.alloc ?_ _)
    case measure => simp [intOf]; omega
  ·obtain rfl : j = 6 := by omega
   have HZ : Hid (kN k = 0 ∧ kOk k = false ∧ kO k = false ∧ kW k = ⟨#[]⟩) := Hd (by
    have q := hno.out;have q1 := q 1 (by omega) (by omega);have q2 := q 2 (by omega) (by omega);have q3 := q 3 (by omega) (by omega);have q4 := q 4 (by omega) (by omega);have q5 := q 5 (by omega) (by omega);have q6 := q 6 (by omega) (by omega);rcases kN_cases k with e | e | e | e | e | e | ⟨e1, e2, e3, e4, -⟩
    ·exact absurd e q1
    ·exact absurd e q2
    ·exact absurd e q3
    ·exact absurd e q4
    ·exact absurd e q5
    ·exact absurd e q6
    ·exact ⟨e1, e2, e3, e4⟩)
   go_wp2
   have bF : Blk _ w.heap.size 151 #[.int .i64 0, .string ⟨#[]⟩, .bool false] := ((hb.out.put 0 (.int .i64 0)).put 1 (.string ⟨#[]⟩)).put 2 (.bool false);refine bodyPost_ret (results_row2 Tryz.results164 _ _ w.heap.size 151 #[.int .i64 0, .string ⟨#[]⟩, .bool false] _ rfl bF Tryz.underlying151 rfl (by kernel_rfl)) rfl ⟨by rw [HZ.out.1, HZ.out.2.1, HZ.out.2.2.1, HZ.out.2.2.2]; rfl, ?_⟩
   repeat (first | exact ho.out | refine Only.put ?_ (fun h => by simp only at h; omega) _ | refine Only.alloc ?_ _)
end Go.Proofs.YtjfbeeogiejopaaGreatDoor
namespace Go.Proofs.YtjfbeeogiejopaaGreatDoor
open Go.RowKit Go.ChangeShapes Go.WideShapes
def Row (w : World) (B : Nat) (A : Option Addr) (xs : List Value) : Prop :=
 xs = [] ∨ ∃ b off, A = some ⟨b, off, none⟩ ∧ b < B ∧ B ≤ w.heap.size ∧ ∀ (j : Nat) (u : Value), xs[j]? = some u → w.cell? ⟨b, off + j, none⟩ = some u
section
variable {w w' : World} {B : Nat} {A : Option Addr} {xs : List Value}
theorem Row.nil : Row w B A [] := .inl rfl
theorem Row.open_ (h : Row w B A xs) {k : Nat} (hk : k < xs.length) :
  ∃ b off, A = some ⟨b, off, none⟩ ∧ b < B ∧ b < w.heap.size ∧ ∀ (j : Nat) (u : Value), xs[j]? = some u → w.cell? ⟨b, off + j, none⟩ = some u := by
 rcases h with rfl | ⟨b, off, hA, hb, hs, hc⟩
 ·simp at hk
 ·exact ⟨b, off, hA, hb, by omega, hc⟩
theorem Row.only {S : List Nat} (h : Row w B A xs) (ho : Only S w w') (hS : ∀ i ∈ S, B ≤ i) : Row w' B A xs := by
 rcases h with rfl | ⟨b, off, hA, hb, hs, hc⟩
 ·exact .inl rfl
 ·refine .inr ⟨b, off, hA, hb, Nat.le_trans hs ho.size, fun j u hu => ?_⟩;rw [ho.cell (p := ⟨b, off + j, none⟩) (Nat.lt_of_lt_of_le hb hs) (fun hm => by have := hS _ hm; simp only at this; omega)];exact hc j u hu
theorem Row.take (h : Row w B A xs) (n : Nat) : Row w B A (xs.take n) := by
 rcases h with rfl | ⟨b, off, hA, hb, hs, hc⟩
 ·exact .inl (by simp)
 ·refine .inr ⟨b, off, hA, hb, hs, fun j u hu => hc j u ?_⟩;rw [List.getElem?_take] at hu
  split at hu
  ·exact hu
  ·cases hu
end
theorem row_up {w : World} {B : Nat} {A : Option Addr} {xs : List Value} (h : Row w B A xs) : Row w w.heap.size A xs := by
 rcases h with h | ⟨b, off, hA, hb, hs, hc⟩
 ·exact .inl h
 ·exact .inr ⟨b, off, hA, Nat.lt_of_lt_of_le hb hs, Nat.le_refl _, hc⟩
section
variable {H : Type} {enc : TypeId × Value → H} {P : Program} {w : World}
end
theorem bd_i64 {n : Int} (h : (Lit.int .i64 n).wf = true) : -9223372036854775808 ≤ n ∧ n ≤ 9223372036854775807 := by
 simpa [Lit.wf, IntKind.min, IntKind.max, IntKind.signed, IntKind.bits] using h
section
variable {H : Type} {enc : TypeId × Value → H} {P : Program} {w : World}
open Go.Deep
end
end Go.Proofs.YtjfbeeogiejopaaGreatDoor
namespace Go.Proofs.YtjfbeeogiejopaaGreatDoor
open Go.RowKit
section
variable {P : Program} (w : World)
theorem run_append_row (base : Nat) (t ty e : TypeId) (i : TypeInfo) (z : Value) (size bytes : Nat) (ht : P.underlying t = some (.slice e)) (hi : P.info? e = some i) (hz : i.zero = some z)
  (hsize : i.size = size) (hby : i.bytes = bytes) (hzs : z.cells.size = size) (hsz : 0 < size)
  (v : Value) (n : Nat) (xs : List Value) (hown : w.ownsRow base e size v n xs) (B : Nat) (A : Option Addr) (m c : Nat) (news : List Value) (hl : news.length = m * size)
  (hr : Row w B A news) (h1 : ∀ u ∈ news, u.oneCell' = true) (h63 : n + m ≤ maxLen) (hbytes : (n + m) * bytes ≤ 140737488355328) (hbase : base ≤ w.heap.size) :
  ∃ v' w', (Builtin.append_ #[t, t] ty #[v, .slice A m c]).run P w = .ok v' w' ∧ w'.ownsRow base e size v' (n + m) (xs ++ news) ∧ w.grownBy w' v.ownBlock ∧
   (v'.ownBlock = v.ownBlock ∨ v'.ownBlock = some w.heap.size) := by
 cases A with
 | none =>
  have hn : news = [] := by
   rcases hr with h | ⟨b, off, h, _⟩
   ·exact h
   ·cases h
  subst hn;have hm : m = 0 := by
   have h2 : m * size = 0 := by simpa using hl.symm
   rcases Nat.mul_eq_zero.1 h2 with h | h
   ·exact h
   ·omega
  subst hm;refine ⟨v, w, ?_, by simpa using hown, ⟨rfl, rfl, rfl, Nat.le_refl _, fun _ _ _ => rfl⟩, .inl rfl⟩;rcases hown.2 with ⟨rfl, rfl⟩ | ⟨g, cap, cur, rfl, _, _, hnc, _⟩
  ·simp [Builtin.append_, run_underlying ht, sizeOf, typeInfo, hi, Builtin.lenOf, Builtin.firstCells]
  ·simp [Builtin.append_, run_underlying ht, sizeOf, typeInfo, hi, Builtin.lenOf, Builtin.firstCells, hnc, storeCells]
 | some ad =>
  have hcells : ∀ j u, news[j]? = some u → w.cell? (ad.add j) = some u := by
   intro j u hu;rcases hr with h | ⟨b, off, h, _, _, hc⟩
   ·subst h; cases hu
   ·injection h with h;subst h;have := hc j u hu;unfold Addr.add
    split
    ·rename_i h0; subst h0; exact this
    ·exact this
  obtain ⟨v', w', h2, h3, h4, _, h5⟩ := run_append_own_at (P := P) w base t ty e i z size bytes ht hi hz hsize hby hzs hsz v n xs hown ad m c news hl hcells h1 h63 hbytes hbase;exact ⟨v', w', h2, h3, h4, h5⟩
theorem wp_append_row {o : Oper} {a : Act} {K : Act → World → Prop} {Q : Exit → Act → World → Prop} (s x : Operand) (t : TypeId)
  (ho : o.op = .call { callee := .builtin .append, args := #[s, x], argTypes := #[t, t] })
  (base : Nat) (e : TypeId) (i : TypeInfo) (z : Value) (size bytes : Nat) (ht : P.underlying t = some (.slice e)) (hi : P.info? e = some i) (hz : i.zero = some z)
  (hsize : i.size = size) (hby : i.bytes = bytes) (hzs : z.cells.size = size) (hsz : 0 < size)
  (v : Value) (n : Nat) (xs : List Value) (hs : a.eval s = v) (hown : w.ownsRow base e size v n xs) (B : Nat) (A : Option Addr) (m c : Nat) (news : List Value) (hx : a.eval x = .slice A m c) (hl : news.length = m * size)
  (hr : Row w B A news) (h1 : ∀ u ∈ news, u.oneCell' = true) (h63 : n + m ≤ maxLen) (hbytes : (n + m) * bytes ≤ 140737488355328) (hbase : base ≤ w.heap.size)
  (h : ∀ v' w', w'.ownsRow base e size v' (n + m) (xs ++ news) → w.grownBy w' v.ownBlock → (v'.ownBlock = v.ownBlock ∨ v'.ownBlock = some w.heap.size) → K (a.put o.dst v') w') :
  o.wp P a w K Q := by
 obtain ⟨v', w', hr', h2, h3, h4⟩ := run_append_row (P := P) w base t o.type e i z size bytes ht hi hz hsize hby hzs hsz v n xs hown B A m c news hl hr h1 h63 hbytes hbase;unfold Oper.wp execOp;simp only [ho, resolve, invoke, builtin, Sem.run_bind, Sem.run_pure, Result.andThen_ok, List.map_toArray, List.map_cons, List.map_nil, hs, hx, hr'];exact h v' w' h2 h3 h4
theorem wpList_append_row {ops : Array Oper} {rest : List Oper} {o : Oper} {a : Act} {Q : Exit → Act → World → Prop} (hgd : o.guard = none) (s x : Operand) (t : TypeId)
  (ho : o.op = .call { callee := .builtin .append, args := #[s, x], argTypes := #[t, t] })
  (base : Nat) (e : TypeId) (i : TypeInfo) (z : Value) (size bytes : Nat) (ht : P.underlying t = some (.slice e)) (hi : P.info? e = some i) (hz : i.zero = some z)
  (hsize : i.size = size) (hby : i.bytes = bytes) (hzs : z.cells.size = size) (hsz : 0 < size)
  (v : Value) (n : Nat) (xs : List Value) (hs : a.eval s = v) (hown : w.ownsRow base e size v n xs) (B : Nat) (A : Option Addr) (m c : Nat) (news : List Value) (hx : a.eval x = .slice A m c) (hl : news.length = m * size)
  (hr : Row w B A news) (h1 : ∀ u ∈ news, u.oneCell' = true) (h63 : n + m ≤ maxLen) (hbytes : (n + m) * bytes ≤ 140737488355328) (hbase : base ≤ w.heap.size)
  (h : ∀ v' w', w'.ownsRow base e size v' (n + m) (xs ++ news) → w.grownBy w' v.ownBlock → (v'.ownBlock = v.ownBlock ∨ v'.ownBlock = some w.heap.size) → wpList P ops Q rest (a.put o.dst v') w') :
  wpList P ops Q (o :: rest) a w :=
 wpList_plain hgd fun _ hK => wp_append_row w s x t ho base e i z size bytes ht hi hz hsize hby hzs hsz v n xs hs hown B A m c news hx hl hr h1 h63 hbytes hbase fun v' w' h2 h3 h4 => hK _ _ (h v' w' h2 h3 h4)
theorem step_append_row {ops : Array Oper} {o : Oper} {a : Act} {K : Act → World → Prop} {Q : Exit → Act → World → Prop} {E : Prop} (hgd : o.guard = none) (s x : Operand) (t : TypeId)
  (ho : o.op = .call { callee := .builtin .append, args := #[s, x], argTypes := #[t, t] })
  (base : Nat) (e : TypeId) (i : TypeInfo) (z : Value) (size bytes : Nat) (ht : P.underlying t = some (.slice e)) (hi : P.info? e = some i) (hz : i.zero = some z)
  (hsize : i.size = size) (hby : i.bytes = bytes) (hzs : z.cells.size = size) (hsz : 0 < size)
  (v : Value) (n : Nat) (xs : List Value) (hs : a.eval s = v) (hown : w.ownsRow base e size v n xs) (B : Nat) (A : Option Addr) (m c : Nat) (news : List Value) (hx : a.eval x = .slice A m c) (hl : news.length = m * size)
  (hr : Row w B A news) (h1 : ∀ u ∈ news, u.oneCell' = true) (h63 : n + m ≤ maxLen) (hbytes : (n + m) * bytes ≤ 140737488355328) (hbase : base ≤ w.heap.size)
  (h : ∀ v' w', w'.ownsRow base e size v' (n + m) (xs ++ news) → w.grownBy w' v.ownBlock → (v'.ownBlock = v.ownBlock ∨ v'.ownBlock = some w.heap.size) → K (a.put o.dst v') w') :
  if Region.wanted o (yielded ops a.tmps) = true then Oper.wp P o a w K Q else E := by
 rw [if_pos (by unfold Region.wanted; rw [hgd])];exact wp_append_row w s x t ho base e i z size bytes ht hi hz hsize hby hzs hsz v n xs hs hown B A m c news hx hl hr h1 h63 hbytes hbase h
end
theorem own_only {w w' : World} {base : Nat} {e : TypeId} {size : Nat} {v : Value} {n : Nat} {xs : List Value} (h : w.ownsRow base e size v n xs) {S : List Nat} (ho : Only S w w') (hS : ∀ g, v.ownBlock = some g → g ∉ S) :
  w'.ownsRow base e size v n xs := by
 obtain ⟨hl, hv⟩ := h;refine ⟨hl, ?_⟩;rcases hv with hv | ⟨g, cap, cur, rfl, hb, hg, rest⟩
 ·exact .inl hv
 ·exact .inr ⟨g, cap, cur, rfl, hb, ho.blk hg (hS g rfl), rest⟩
theorem own_blk {w : World} {base : Nat} {e : TypeId} {size : Nat} {v : Value} {n : Nat} {xs : List Value} (h : w.ownsRow base e size v n xs) {g : Nat} (hg : v.ownBlock = some g) : ∃ cur, Blk w g e cur := by
 rcases h.2 with ⟨rfl, _⟩ | ⟨g', cap, cur, rfl, hb, hh, _⟩
 ·simp [Value.ownBlock] at hg
 ·simp [Value.ownBlock] at hg;subst hg;exact ⟨cur, hh⟩
theorem own_apart {w : World} {base : Nat} {e : TypeId} {size : Nat} {v : Value} {n : Nat} {xs : List Value} (h : w.ownsRow base e size v n xs) {g : Nat} {t : TypeId} {cs : Array Value} (hb : Blk w g t cs) (hne : e ≠ t) :
  g ∉ v.ownBlock.toList := by
 intro hm
 cases hv : v.ownBlock with
 | none => rw [hv] at hm; cases hm
 | some g' =>
  rw [hv] at hm;simp at hm;subst hm;obtain ⟨cur, hc⟩ := own_blk h hv;exact hc.apart hb hne rfl
theorem own_lt {w : World} {base : Nat} {e : TypeId} {size : Nat} {v : Value} {n : Nat} {xs : List Value} (h : w.ownsRow base e size v n xs) {g : Nat} (hg : g ∈ v.ownBlock.toList) : g < w.heap.size := by
 cases hv : v.ownBlock with
 | none => rw [hv] at hg; cases hg
 | some g' =>
  rw [hv] at hg;simp at hg;subst hg;obtain ⟨cur, hc⟩ := own_blk h hv;exact hc.lt
theorem only_grown {w w' : World} {v : Value} (h : w.grownBy w' v.ownBlock) : Only v.ownBlock.toList w w' := Only.of_grown h (fun g hg _ => by simp [hg])
theorem row_lit (w : World) (t : TypeId) (cs : Array Value) : Row (w.alloc (.cells cs t)) (w.heap.size + 1) (some ⟨w.heap.size, 0, none⟩) cs.toList :=
 .inr ⟨w.heap.size, 0, rfl, by omega, by simp, fun j u hu => by rw [Nat.zero_add, (Blk.made w t cs).at_ j]; simpa using hu⟩
theorem own_row {w : World} {base : Nat} {e : TypeId} {size : Nat} {v : Value} {n : Nat} {xs : List Value} (h : w.ownsRow base e size v n xs) :
  ∃ A c, v = .slice A n c ∧ n ≤ c ∧ c ≤ maxLen ∧ xs.length = n * size ∧ Row w w.heap.size A xs := by
 obtain ⟨hl, hv⟩ := h;rcases hv with ⟨rfl, rfl⟩ | ⟨g, cap, cur, rfl, hb, hg, hn, hm, hs, ht⟩
 ·have : xs = [] := List.eq_nil_of_length_eq_zero (by simpa using hl);subst this;exact ⟨none, 0, rfl, Nat.le_refl _, by unfold maxLen; omega, hl, .inl rfl⟩
 ·refine ⟨_, cap, rfl, hn, hm, hl, .inr ⟨g, 0, rfl, (Array.getElem?_eq_some_iff.1 hg).1, Nat.le_refl _, fun j u hu => ?_⟩⟩;rw [← ht, List.getElem?_take] at hu
  split at hu
  ·rw [cell_of_row w g (0 + j) cur e (0, 0) hg, Nat.zero_add]
   simpa using hu
  ·cases hu
theorem own_new {w : World} {base : Nat} {e : TypeId} {size : Nat} {v : Value} {n : Nat} {xs : List Value} (h : w.ownsRow base e size v n xs) {S : List Nat} : ∀ i ∈ v.ownBlock.toList, i < base → i ∈ S := fun i hi hl => by
 cases hv : v.ownBlock with
 | none => rw [hv] at hi; cases hi
 | some g =>
  rw [hv] at hi;simp at hi;subst hi;have := (h.lt _ hv).1;omega
theorem owb {w w' : World} {base : Nat} {e : TypeId} {size : Nat} {v : Value} {n : Nat} {xs : List Value} {g : Nat} {t : TypeId} {cs : Array Value} (h : w.ownsRow base e size v n xs) (hb : Blk w g t cs) (ho : Only [g] w w') (hne : e ≠ t := by decide) : w'.ownsRow base e size v n xs := own_only h ho (fun x hx hm => by simp at hm; subst hm; exact own_apart h hb hne (by rw [hx]; simp))
end Go.Proofs.YtjfbeeogiejopaaGreatDoor
