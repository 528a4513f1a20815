/- Parts. -/
import Derived.Test.YtjfbeeogiejopaaGreatDoorRows
import Derived.WalkKit
import Derived.WalkSpells
import Derived.WalkLawsBesides
import Derived.ProofKit
import Derived.OpenShut
import Derived.Lib.Hide
import Derived.Deep.QuietTactic
import Derived.BigQuiet
import Derived.Deep.RegionHeld3
import Derived.Deep.DrawnRows
import Derived.Deep.AppendLies
import Derived.Deep.Draws
import Derived.Lib.MapLaws
import Derived.Lib.TrimUEq
import Derived.Lib.RuneCount
import Derived.Lib.ValidLaws
set_option maxRecDepth 10000
set_option maxHeartbeats 16000000
set_option linter.unusedVariables false
set_option linter.unusedSimpArgs false
set_option linter.unusedVariables false
set_option linter.unusedSimpArgs false
namespace Go.Proofs.YtjfbeeogiejopaaGreatDoor
open Go.RowKit

/-! ### Blocks -/
def Blk (w : World) (g : Nat) (t : TypeId) (cs : Array Value) : Prop := w.heap[g]? = some (.cells cs t (0, 0))
section
variable {w w' : World} {g : Nat} {t : TypeId} {cs : Array Value}
theorem Blk.lt (h : Blk w g t cs) : g < w.heap.size := (Array.getElem?_eq_some_iff.1 h).1
theorem Blk.at_ (h : Blk w g t cs) (i : Nat) : w.cell? ⟨g, i, none⟩ = cs[i]? := by
 unfold Blk at h;unfold World.cell?;simp [h]
theorem Blk.free (h : Blk w g t cs) (i : Nat) : w.frozen? ⟨g, i, none⟩ = false := by
 unfold Blk at h;unfold World.frozen?;simp [h]
theorem Blk.made (w : World) (t : TypeId) (cs : Array Value) : Blk (w.alloc (.cells cs t)) w.heap.size t cs := by
 unfold Blk World.alloc;simp
theorem Blk.put (h : Blk w g t cs) (i : Nat) (u : Value) : Blk (w.setCell ⟨g, i, none⟩ u) g t (cs.setIfInBounds i u) := by
 unfold Blk at h ⊢;unfold World.setCell;rw [Array.getElem?_modify, if_pos rfl, h]
 rfl
theorem Blk.apart {g' : Nat} {t' : TypeId} {cs' : Array Value} (h : Blk w g t cs) (h' : Blk w g' t' cs') (hne : t ≠ t') : g ≠ g' := by
 intro e;subst e;unfold Blk at h h';rw [h] at h';simp at h';exact hne h'.2
end

/-! ### Frames -/
structure Only (S : List Nat) (w w' : World) : Prop where
 os : w'.os = w.os
 tape : w'.tape = w.tape
 output : w'.output = w.output
 size : w.heap.size ≤ w'.heap.size
 keeps : ∀ k, k < w.heap.size → k ∉ S → w'.heap[k]? = w.heap[k]?
section
variable {S T : List Nat} {w w' w'' : World}
theorem Only.refl (S : List Nat) (w : World) : Only S w w := ⟨rfl, rfl, rfl, Nat.le_refl _, fun _ _ _ => rfl⟩
theorem Only.trans (h : Only S w w') (k : Only S w' w'') : Only S w w'' :=
 ⟨k.os.trans h.os, k.tape.trans h.tape, k.output.trans h.output, Nat.le_trans h.size k.size, fun i hi hs => (k.keeps i (Nat.lt_of_lt_of_le hi h.size) hs).trans (h.keeps i hi hs)⟩
theorem Only.step (h : Only S w w') (k : Only T w' w'') (hT : ∀ i ∈ T, i < w.heap.size → i ∈ S) : Only S w w'' :=
 ⟨k.os.trans h.os, k.tape.trans h.tape, k.output.trans h.output, Nat.le_trans h.size k.size, fun i hi hs => (k.keeps i (Nat.lt_of_lt_of_le hi h.size) (fun ht => hs (hT i ht hi))).trans (h.keeps i hi hs)⟩
theorem Only.wide (h : Only S w w') (hT : ∀ i ∈ S, i < w.heap.size → i ∈ T) : Only T w w' :=
 ⟨h.os, h.tape, h.output, h.size, fun i hi hs => h.keeps i hi fun hm => hs (hT i hm hi)⟩
theorem Only.drewN (h : Only S w w') (n : Nat) : Only S w (w'.drewN n) := ⟨h.os, h.tape, h.output, h.size, h.keeps⟩
theorem Only.drew (h : Only S w w') : Only S w w'.drew := ⟨h.os, h.tape, h.output, h.size, h.keeps⟩
theorem Only.alloc (h : Only S w w') (o : Obj) : Only S w (w'.alloc o) :=
 ⟨h.os, h.tape, h.output, by have := h.size; rw [World.size_alloc]; omega, fun i hi hs => (Below.heap_alloc w' o i (Nat.lt_of_lt_of_le hi h.size)).trans (h.keeps i hi hs)⟩
theorem Only.put (h : Only S w w') {p : Addr} (hp : p.block < w.heap.size → p.block ∈ S) (u : Value) : Only S w (w'.setCell p u) :=
 ⟨h.os, h.tape, h.output, by simpa [World.setCell] using h.size, fun i hi hs => (Below.heap_setCell w' p u i (fun e => hs (e ▸ hp (e ▸ hi)))).trans (h.keeps i hi hs)⟩
theorem Only.below (h : Only S w w') {B : Nat} (hB : B ≤ w.heap.size) (hS : ∀ i ∈ S, B ≤ i) : Below B w w' :=
 ⟨h.os, h.tape, h.output, h.size, fun i hi => h.keeps i (by omega) fun hm => by have := hS i hm; omega⟩
theorem Only.of_below (h : Below w.heap.size w w') (S : List Nat) : Only S w w' := ⟨h.os, h.tape, h.output, h.size, fun i hi _ => h.block i hi⟩
theorem Only.of_grown {row : Option Nat} (h : w.grownBy w' row) (hS : ∀ g, row = some g → g < w.heap.size → g ∈ S) : Only S w w' :=
 ⟨h.os, h.tape, h.output, h.size, fun i hi hs => h.block i hi (fun e => hs (hS i e.symm hi))⟩
theorem Only.blk {g : Nat} {t : TypeId} {cs : Array Value} (h : Only S w w') (hb : Blk w g t cs) (hg : g ∉ S) : Blk w' g t cs := (h.keeps g hb.lt hg).trans hb
theorem Only.cell (h : Only S w w') {p : Addr} (hp : p.block < w.heap.size) (hg : p.block ∉ S) : w'.cell? p = w.cell? p := World.cell?_of_block (h.keeps p.block hp hg)
theorem Only.frozen (h : Only S w w') {p : Addr} (hp : p.block < w.heap.size) (hg : p.block ∉ S) : w'.frozen? p = w.frozen? p := World.frozen?_of_block (h.keeps p.block hp hg)
theorem Blk.drewN {g : Nat} {t : TypeId} {cs : Array Value} (h : Blk w g t cs) (n : Nat) : Blk (w.drewN n) g t cs := h
theorem Blk.drew {g : Nat} {t : TypeId} {cs : Array Value} (h : Blk w g t cs) : Blk w.drew g t cs := h
theorem Blk.alloc {g : Nat} {t : TypeId} {cs : Array Value} (h : Blk w g t cs) (o : Obj) : Blk (w.alloc o) g t cs := (Below.heap_alloc w o g h.lt).trans h
theorem Blk.far {g : Nat} {t : TypeId} {cs : Array Value} (h : Blk w g t cs) {p : Addr} (hp : g ≠ p.block) (u : Value) : Blk (w.setCell p u) g t cs := (Below.heap_setCell w p u g hp).trans h
end

/-! ### Regions -/
section
variable {H : Type} {enc : TypeId × Value → H} {P : Program}
open Go.ChangeShapes
theorem all_stay (hl : laidOutB P = true) {W W' : World} (hb : Below W.heap.size W W') :
  ∀ {ts : List TypeId} {vs : List Value} {ds : List (DataW H)} {ps : List MemPlace}, (∀ t ∈ ts, P.readableRec t = true ∧ t < P.types.size) → DataW.TrodAll enc P W 0 (fun _ => true) true ts vs ds ps →
   (∀ x ∈ ps, x.block < W.heap.size) → DataW.TrodAll enc P W' 0 (fun b => decide (b < W.heap.size)) true ts vs ds ps := by
 intro ts
 induction ts with
 | nil =>
  intro vs ds ps _ h _;obtain ⟨rfl, rfl, rfl⟩ := trodAll_nil h
  rfl
 | cons t ts ih =>
  intro vs ds ps hr h hlt;obtain ⟨v, vs', d, ds', p, q, rfl, rfl, rfl, h0, h1⟩ := trodAll_cons h;have ht := hr t (by simp);exact ⟨p, q, Below.trod hl ht.1 ht.2 h0 hb (fun x hx => hlt x (by simp [hx])), ih (fun u hu => hr u (by simp [hu])) h1 (fun x hx => hlt x (by simp [hx])), rfl⟩
theorem law_post (hl : laidOutB P = true) {f : Func} {s : ChangeSpec} {W W' : World} {args : Array Value} {ds gs : List (DataW H)} {before : List MemPlace} {tb : TypeId}
  (hread : (f.params.toList.all fun t => P.readableRec t && decide (t < P.types.size)) = true) (hv : s.vars = []) (hrt : f.resultTypes = #[tb]) (htb : P.underlying tb = some .bool)
  (hW : DataW.Whole enc P f.params.toList s.vars false W args.toList ds gs before)
  (hres : (s.fn H (ds ++ gs)).results = [.lit (.bool true)]) (hargs : (s.fn H (ds ++ gs)).args = ds) (hvs : (s.fn H (ds ++ gs)).vars = []) (hb : Below W.heap.size W W') :
  s.post enc P f false true false false W args (.bool true) W' := by
 have hlt : ∀ p ∈ before, p.block < W.heap.size := fun p hp => hW.lt p hp;have hW' := hW;obtain ⟨p, q, hA, hV, rfl, _, _⟩ := hW;rw [hv] at hV;obtain ⟨rfl, rfl⟩ := trodVars_none hV;refine ⟨ds, [], p ++ [], [], p, [], hW', ?_, ?_, ?_, World.keptBut_mono (fun x hx => ⟨hx, ?_⟩) (hb.frame (· ∈ p ++ [])), fun e => by cases e⟩
 ·rw [hres, hrt];exact ⟨[], [], ⟨1, by simp [DataW.trod, htb, Value.cells]⟩, rfl, rfl⟩
 ·rw [hargs];have hr : ∀ t ∈ f.params.toList, P.readableRec t = true ∧ t < P.types.size := fun t ht => by simpa using List.all_eq_true.1 hread t ht
  exact all_stay hl hb hr hA (fun x hx => hlt x (by simp [hx]))
 ·rw [hv, hvs]
  rfl
 ·simp only [List.append_nil] at hx;exact Or.inr (Or.inl hx)
end
theorem Hd {p : Prop} (h : p) : Go.RowKit.Hid p := Lib.hid h
theorem Bk1 {w : World} {g : Nat} {t : TypeId} {cs : Array Value} (h : Blk w g t cs) (i : Nat) : g < w.heap.size ∧ w.cell? ⟨g, i, none⟩ = cs[i]? := ⟨h.lt, h.at_ i⟩
theorem Bk2 {w : World} {g : Nat} {t : TypeId} {cs : Array Value} (h : Blk w g t cs) : g < w.heap.size ∧ w.cell? ⟨g, 0, none⟩ = cs[0]? ∧ w.cell? ⟨g, 1, none⟩ = cs[1]? := ⟨h.lt, h.at_ 0, h.at_ 1⟩
theorem Bk3 {w : World} {g : Nat} {t : TypeId} {cs : Array Value} (h : Blk w g t cs) : g < w.heap.size ∧ w.cell? ⟨g, 0, none⟩ = cs[0]? ∧ w.cell? ⟨g, 1, none⟩ = cs[1]? ∧ w.cell? ⟨g, 2, none⟩ = cs[2]? := ⟨h.lt, h.at_ 0, h.at_ 1, h.at_ 2⟩
theorem tdy : ((∀ (α : Type) (xs : List α) (i : Nat) (h : i < xs.toArray.size), xs.toArray[i] = xs[i]'(by simpa using h)) ∧ (∀ (α : Type) (a : α) (l : List α), (a :: l)[0]'(by simp) = a) ∧ (∀ (α : Type) (a : α) (l : List α) (i : Nat) (h : i + 1 < (a :: l).length), (a :: l)[i + 1] = l[i]'(by simpa using h))) ∧ ((∀ (l : List Value) (i : Nat) (a : Value), l.toArray.setIfInBounds i a = (l.set i a).toArray) ∧ (∀ (a b : Value) (l : List Value), (a :: l).set 0 b = b :: l) ∧ (∀ (a b : Value) (l : List Value) (i : Nat), (a :: l).set (i + 1) b = a :: l.set i b)) := by
  refine ⟨⟨fun α xs i h => ?_, fun α a l => ?_, fun α a l i h => ?_⟩, fun l i a => ?_, fun a b l => ?_, fun a b l i => ?_⟩
  · rw [List.getElem_toArray]
  · rw [List.getElem_cons_zero]
  · rw [List.getElem_cons_succ]
  · rw [List.setIfInBounds_toArray]
  · rw [List.set_cons_zero]
  · rw [List.set_cons_succ]
theorem tdz : type_of% (And.intro @Act.put.eq_1 (And.intro @Act.put.eq_2 tdy)) := And.intro @Act.put.eq_1 (And.intro @Act.put.eq_2 tdy)
end Go.Proofs.YtjfbeeogiejopaaGreatDoor
namespace Go.Proofs.YtjfbeeogiejopaaGreatDoor
theorem own : ownKnob Tryz.prog.godebug = none := by kernel_rfl
theorem laidOut : laidOutB Tryz.prog = true := by kernel_rfl
end Go.Proofs.YtjfbeeogiejopaaGreatDoor


set_option linter.unusedVariables false
set_option linter.unusedSimpArgs false
namespace Go.Proofs.YtjfbeeogiejopaaGreatDoor
open Go.Lib
def by_ (s : ByteArray) : List UInt8 := s.data.toList
theorem by_length (s : ByteArray) : (by_ s).length = s.size := by
 unfold by_;exact (size_eq s).symm
theorem by_inj {s t : ByteArray} (h : by_ s = by_ t) : s = t := by
 unfold by_ at h
 cases s
 cases t
 simp at h;rw [h]
theorem by_extract (s : ByteArray) (a b : Nat) : by_ (s.extract a b) = ((by_ s).take b).drop a := by
 unfold by_;rw [ByteArray.data_extract, Array.toList_extract, List.extract_eq_take_drop, List.drop_take]
theorem by_append (s t : ByteArray) : by_ (s ++ t) = by_ s ++ by_ t := by
 unfold by_;rw [ByteArray.data_append, Array.toList_append]
theorem dec_small {n b0 b1 b2 b3 : Nat} (h : b0 < 128) : decodeN n b0 b1 b2 b3 = (b0, 1) := by
 unfold decodeN;rw [if_pos h]
theorem dec_nl (n b0 b1 b2 b3 : Nat) : ((decodeN n b0 b1 b2 b3).1 = 10 → b0 = 10 ∧ (decodeN n b0 b1 b2 b3).2 = 1) ∧
  ((decodeN n b0 b1 b2 b3).1 ≠ 10 → b0 ≠ 10 ∧ (1 < (decodeN n b0 b1 b2 b3).2 → b1 ≠ 10) ∧ (2 < (decodeN n b0 b1 b2 b3).2 → b2 ≠ 10) ∧ (3 < (decodeN n b0 b1 b2 b3).2 → b3 ≠ 10)) ∧
  1 ≤ (decodeN n b0 b1 b2 b3).2 ∧ (decodeN n b0 b1 b2 b3).2 ≤ 4 ∧ (1 ≤ n → (decodeN n b0 b1 b2 b3).2 ≤ n) := by
 by_cases h0 : b0 < 128
 ·rw [dec_small h0];refine ⟨fun h => ⟨h, rfl⟩, fun h => ⟨h, fun h => absurd h (by omega), fun h => absurd h (by omega), fun h => absurd h (by omega)⟩, by omega, by omega, fun h => h⟩
 ·rcases decodeN_shape n b0 b1 b2 b3 with ⟨c, e⟩ | ⟨c1, c2, c3, cv, e⟩ | ⟨c1, c2, c3, c4, cv, cs, e⟩ | ⟨c1, c2, c3, c4, c5, cv, cw, e⟩ | e
  ·omega
  all_goals (rw [e]; dsimp only; refine ⟨fun h => by omega, fun h => ⟨by omega, fun h => by omega, fun h => by omega, fun h => by omega⟩, by omega, by omega, fun h => by omega⟩)
section
variable (s : ByteArray) (pos : Nat)
theorem width_le (h : pos < s.size) : 1 ≤ (Utf8.decode s pos).2 ∧ pos + (Utf8.decode s pos).2 ≤ s.size := by
 rw [decode_N, ← by_length] at *;have := (dec_nl ((by_ s).length - pos) ((by_ s).getD pos 0).toNat ((by_ s).getD (pos + 1) 0).toNat ((by_ s).getD (pos + 2) 0).toNat ((by_ s).getD (pos + 3) 0).toNat).2.2;unfold by_ at *;omega
theorem byte_eq (b : UInt8) : b.toNat = 10 ↔ b = 10 := by
 constructor
 ·intro h;exact UInt8.toNat_inj.1 h
 ·rintro rfl
  rfl
theorem nl_here (h : pos < s.size) (hr : (Utf8.decode s pos).1 = 10) : (by_ s)[pos]? = some 10 ∧ (Utf8.decode s pos).2 = 1 := by
 rw [decode_N] at *;have := (dec_nl (s.data.toList.length - pos) (s.data.toList.getD pos 0).toNat (s.data.toList.getD (pos + 1) 0).toNat (s.data.toList.getD (pos + 2) 0).toNat (s.data.toList.getD (pos + 3) 0).toNat).1 hr;refine ⟨?_, this.2⟩;have hl : pos < (by_ s).length := by rw [by_length]; exact h
 rw [List.getElem?_eq_getElem hl];have h1 := (byte_eq _).1 this.1;unfold by_ at *
 simpa [List.getD_eq_getElem?_getD, List.getElem?_eq_getElem hl] using h1
theorem nl_none (h : pos < s.size) (hr : (Utf8.decode s pos).1 ≠ 10) : ∀ b ∈ ((by_ s).drop pos).take (Utf8.decode s pos).2, b ≠ 10 := by
 intro b hb e;subst e;obtain ⟨j, hj⟩ := List.mem_iff_getElem?.1 hb;have hw := (width_le s pos h).2;have hjw : j < (Utf8.decode s pos).2 := by
  rcases Nat.lt_or_ge j (Utf8.decode s pos).2 with h1 | h1
  ·exact h1
  ·rw [List.getElem?_take, if_neg (by omega)] at hj
   cases hj
 rw [List.getElem?_take, if_pos hjw, List.getElem?_drop] at hj;have hg : ((by_ s).getD (pos + j) 0).toNat = 10 := by
  rw [List.getD_eq_getElem?_getD, hj]
  rfl
 rw [decode_N] at hr hjw;obtain ⟨-, h2, -, h4, -⟩ := dec_nl (s.data.toList.length - pos) (s.data.toList.getD pos 0).toNat (s.data.toList.getD (pos + 1) 0).toNat (s.data.toList.getD (pos + 2) 0).toNat (s.data.toList.getD (pos + 3) 0).toNat;obtain ⟨a0, a1, a2, a3⟩ := h2 hr;unfold by_ at hg;have : j = 0 ∨ j = 1 ∨ j = 2 ∨ j = 3 := by omega
 rcases this with rfl | rfl | rfl | rfl
 ·exact a0 hg
 ·exact a1 hjw hg
 ·exact a2 hjw hg
 ·exact a3 hjw hg
end
def cutL : List UInt8 → List UInt8 → List (List UInt8)
 | cur, [] => if cur = [] then [] else [cur]
 | cur, b :: t => if b = 10 then cur :: cutL [] t else cutL (cur ++ [b]) t
def linesOf (l : List UInt8) : List (List UInt8) := cutL [] l
theorem cutL_skip (m : List UInt8) : ∀ (cur t : List UInt8), (∀ b ∈ m, b ≠ 10) → cutL cur (m ++ t) = cutL (cur ++ m) t := by
 induction m with
 | nil => intro cur t _; simp
 | cons b m ih =>
  intro cur t h;rw [List.cons_append, cutL, if_neg (h b (by simp)), ih _ _ (fun x hx => h x (by simp [hx])), List.append_assoc]
  rfl
theorem cutL_nl (cur t : List UInt8) : cutL cur (10 :: t) = cur :: cutL [] t := by
 rw [cutL, if_pos rfl]
theorem cutL_len : ∀ (t cur : List UInt8), (cutL cur t).length ≤ t.length + 1 := by
 intro t
 induction t with
 | nil => intro cur; unfold cutL; split <;> simp
 | cons b t ih =>
  intro cur;unfold cutL
  split
  ·have := ih []; simp; omega
  ·have := ih (cur ++ [b]); simp; omega
theorem cutL_mem : ∀ (t cur x : List UInt8), x ∈ cutL cur t → x.length ≤ cur.length + t.length := by
 intro t
 induction t with
 | nil =>
  intro cur x hx;unfold cutL at hx
  split at hx
  ·cases hx
  ·simp at hx; subst hx; simp
 | cons b t ih =>
  intro cur x hx;unfold cutL at hx
  split at hx
  ·rcases List.mem_cons.1 hx with rfl | h
   ·omega
   ·have := ih [] x h; simp at this ⊢; omega
  ·have := ih (cur ++ [b]) x hx; simp at this ⊢; omega
end Go.Proofs.YtjfbeeogiejopaaGreatDoor
namespace Go.Proofs.YtjfbeeogiejopaaGreatDoor
open Go.Lib
def szOf (n b0 b1 b2 b3 : Nat) : Nat := if decodeN n b0 b1 b2 b3 = (65533, 1) then 0 else (decodeN n b0 b1 b2 b3).2
theorem sz_bad {n b0 b1 b2 b3 : Nat} (h : decodeN n b0 b1 b2 b3 = (65533, 1)) : szOf n b0 b1 b2 b3 = 0 := by
 unfold szOf;rw [if_pos h]
theorem sz_two_bad {n b0 b1 b2 b3 : Nat} (h0 : 194 ≤ b0) (h1 : b0 ≤ 223) (h : n < 2 ∨ b1 < 128 ∨ 191 < b1) (hb : b1 < 256) : szOf n b0 b1 b2 b3 = 0 := by
 apply sz_bad
 rcases decodeN_shape n b0 b1 b2 b3 with ⟨c, e⟩ | ⟨c1, c2, c3, cv, e⟩ | ⟨c1, c2, c3, c4, cv, cs, e⟩ | ⟨c1, c2, c3, c4, c5, cv, cw, e⟩ | e
 ·omega
 ·omega
 ·omega
 ·omega
 ·exact e
theorem sz_three_bad {n b0 b1 b2 b3 : Nat} (h0 : 224 ≤ b0) (h1 : b0 ≤ 239) (hb1 : b1 < 256) (hb2 : b2 < 256)
  (h : n < 3 ∨ b1 < 128 ∨ 191 < b1 ∨ b2 < 128 ∨ 191 < b2 ∨ (b0 - 224) * 4096 + (b1 - 128) * 64 + (b2 - 128) < 2048 ∨ (55296 ≤ (b0 - 224) * 4096 + (b1 - 128) * 64 + (b2 - 128) ∧ (b0 - 224) * 4096 + (b1 - 128) * 64 + (b2 - 128) ≤ 57343)) : szOf n b0 b1 b2 b3 = 0 := by
 apply sz_bad
 rcases decodeN_shape n b0 b1 b2 b3 with ⟨c, e⟩ | ⟨c1, c2, c3, cv, e⟩ | ⟨c1, c2, c3, c4, cv, cs, e⟩ | ⟨c1, c2, c3, c4, c5, cv, cw, e⟩ | e
 ·omega
 ·omega
 ·exfalso
  have a1 : b0 % 16 = b0 - 224 := by omega
  have a2 : b1 % 64 = b1 - 128 := by omega
  have a3 : b2 % 64 = b2 - 128 := by omega
  rw [a1, a2, a3] at cv cs;omega
 ·omega
 ·exact e
theorem sz_four_bad {n b0 b1 b2 b3 : Nat} (h0 : 240 ≤ b0) (h1 : b0 ≤ 244) (hb1 : b1 < 256) (hb2 : b2 < 256) (hb3 : b3 < 256)
  (h : n < 4 ∨ b1 < 128 ∨ 191 < b1 ∨ b2 < 128 ∨ 191 < b2 ∨ b3 < 128 ∨ 191 < b3 ∨ (b0 - 240) * 262144 + (b1 - 128) * 4096 + (b2 - 128) * 64 + (b3 - 128) < 65536 ∨ 1114111 < (b0 - 240) * 262144 + (b1 - 128) * 4096 + (b2 - 128) * 64 + (b3 - 128)) : szOf n b0 b1 b2 b3 = 0 := by
 apply sz_bad
 rcases decodeN_shape n b0 b1 b2 b3 with ⟨c, e⟩ | ⟨c1, c2, c3, cv, e⟩ | ⟨c1, c2, c3, c4, cv, cs, e⟩ | ⟨c1, c2, c3, c4, c5, cv, cw, e⟩ | e
 ·omega
 ·omega
 ·omega
 ·exfalso
  have a1 : b0 % 8 = b0 - 240 := by omega
  have a2 : b1 % 64 = b1 - 128 := by omega
  have a3 : b2 % 64 = b2 - 128 := by omega
  have a4 : b3 % 64 = b3 - 128 := by omega
  rw [a1, a2, a3, a4] at cv cw;omega
 ·exact e
theorem dec_at (s : ByteArray) (pos : Nat) : Utf8.decode s pos = decodeN (s.size - pos) ((by_ s).getD pos 0).toNat ((by_ s).getD (pos + 1) 0).toNat ((by_ s).getD (pos + 2) 0).toNat ((by_ s).getD (pos + 3) 0).toNat := by
 rw [decode_N, ← by_length]
 rfl
theorem decL_at (s : ByteArray) (pos : Nat) : decodeL ((by_ s).drop pos) = Utf8.decode s pos := by
 rw [decodeL_N, dec_at, List.length_drop, by_length]
 congr 2
 all_goals simp [List.getD_eq_getElem?_getD, List.getElem?_drop]
theorem byte_at (s : ByteArray) (k : Nat) (h : k < s.size) : s[k].toNat = ((by_ s).getD k 0).toNat := by
 have hl : k < (by_ s).length := by rw [by_length]; exact h
 rw [List.getD_eq_getElem?_getD, List.getElem?_eq_getElem hl]
 rfl
theorem byte_lt (s : ByteArray) (k : Nat) : ((by_ s).getD k 0).toNat < 256 := UInt8.toNat_lt _
structure IsRune (m : List UInt8) (r : Nat) : Prop where
 lead : ∃ b cs, m = b :: cs ∧ b.toNat / 64 ≠ 2 ∧ ∀ c ∈ cs, c.toNat / 64 = 2
 dec : ∀ rest, decodeL (m ++ rest) = (r, m.length)
 small : r < 128 → ∃ b : UInt8, m = [b] ∧ b.toNat = r
 big : 128 ≤ r → ∀ b ∈ m, 128 ≤ b.toNat
 good : ¬ (r = 65533 ∧ m.length = 1)
theorem two_of : ∀ {l : List UInt8}, 1 < l.length → ∃ b b1 t, l = b :: b1 :: t
 | b :: b1 :: t, _ => ⟨b, b1, t, rfl⟩
theorem three_of : ∀ {l : List UInt8}, 2 < l.length → ∃ b b1 b2 t, l = b :: b1 :: b2 :: t
 | b :: b1 :: b2 :: t, _ => ⟨b, b1, b2, t, rfl⟩
theorem four_of : ∀ {l : List UInt8}, 3 < l.length → ∃ b b1 b2 b3 t, l = b :: b1 :: b2 :: b3 :: t
 | b :: b1 :: b2 :: b3 :: t, _ => ⟨b, b1, b2, b3, t, rfl⟩
theorem rune_or_bad (l : List UInt8) (hne : l ≠ []) : (decodeL l = (65533, 1) ∧ 128 ≤ (l.getD 0 0).toNat) ∨ ∃ m rest r, l = m ++ rest ∧ IsRune m r := by
 by_cases h0 : (l.getD 0 0).toNat < 128
 ·right
  obtain ⟨b, t, rfl⟩ := List.exists_cons_of_ne_nil hne;have hb : b.toNat < 128 := h0;refine ⟨[b], t, b.toNat, rfl, ⟨b, [], rfl, by omega, fun c hc => by cases hc⟩, fun rest => ?_, fun _ => ⟨b, rfl, rfl⟩, fun h => by omega, fun h => by omega⟩;rw [decodeL_N];exact dec_small hb
 ·rw [decodeL_N];rcases decodeN_shape l.length (l.getD 0 0).toNat (l.getD 1 0).toNat (l.getD 2 0).toNat (l.getD 3 0).toNat with ⟨c, e⟩ | ⟨c1, c2, c3, cv, e⟩ | ⟨c1, c2, c3, c4, cv, cs, e⟩ | ⟨c1, c2, c3, c4, c5, cv, cw, e⟩ | e
  ·exact absurd c h0
  ·right
   clear e;obtain ⟨b, b1, t, rfl⟩ := two_of c2;simp only [List.getD_cons_zero, List.getD_cons_succ] at h0 c1 c3 cv;refine ⟨[b, b1], t, b.toNat % 32 * 64 + b1.toNat % 64, rfl, ⟨b, [b1], rfl, by omega, fun c hc => ?_⟩, fun rest => ?_, fun h => by omega, fun _ c hc => ?_, fun h => by have := h.2; simp at this⟩
   ·simp at hc; subst hc; exact c3
   ·rw [decodeL_N];simp only [List.cons_append, List.nil_append, List.getD_cons_zero, List.getD_cons_succ, List.length_cons];unfold decodeN;rw [if_neg (by omega), if_pos ⟨by omega, by omega, by omega⟩, if_pos (by omega)]
    rfl
   ·simp at hc; rcases hc with rfl | rfl <;> omega
  ·right
   clear e;obtain ⟨b, b1, b2, t, rfl⟩ := three_of c2;simp only [List.getD_cons_zero, List.getD_cons_succ] at h0 c1 c3 c4 cv cs;refine ⟨[b, b1, b2], t, b.toNat % 16 * 4096 + b1.toNat % 64 * 64 + b2.toNat % 64, rfl, ⟨b, [b1, b2], rfl, by omega, fun c hc => ?_⟩, fun rest => ?_, fun h => by omega, fun _ c hc => ?_, fun h => by have := h.2; simp at this⟩
   ·simp at hc; rcases hc with rfl | rfl <;> assumption
   ·rw [decodeL_N];simp only [List.cons_append, List.nil_append, List.getD_cons_zero, List.getD_cons_succ, List.length_cons];unfold decodeN;rw [if_neg (by omega), if_neg (by omega), if_pos ⟨by omega, ⟨by omega, by omega⟩, by omega, by omega⟩, if_pos (by omega)]
    rfl
   ·simp at hc; rcases hc with rfl | rfl | rfl <;> omega
  ·right
   clear e;obtain ⟨b, b1, b2, b3, t, rfl⟩ := four_of c2;simp only [List.getD_cons_zero, List.getD_cons_succ] at h0 c1 c3 c4 c5 cv cw;refine ⟨[b, b1, b2, b3], t, b.toNat % 8 * 262144 + b1.toNat % 64 * 4096 + b2.toNat % 64 * 64 + b3.toNat % 64, rfl, ⟨b, [b1, b2, b3], rfl, by omega, fun c hc => ?_⟩, fun rest => ?_, fun h => by omega, fun _ c hc => ?_, fun h => by have := h.2; simp at this⟩
   ·simp at hc; rcases hc with rfl | rfl | rfl <;> assumption
   ·rw [decodeL_N];simp only [List.cons_append, List.nil_append, List.getD_cons_zero, List.getD_cons_succ, List.length_cons];unfold decodeN;rw [if_neg (by omega), if_neg (by omega), if_neg (by omega), if_pos ⟨by omega, ⟨by omega, by omega⟩, ⟨by omega, by omega⟩, by omega, by omega⟩, if_pos (by omega)]
    rfl
   ·simp at hc; rcases hc with rfl | rfl | rfl | rfl <;> omega
  ·exact .inl ⟨e, by omega⟩
theorem IsRune.len {m : List UInt8} {r : Nat} (h : IsRune m r) : 0 < m.length := by
 obtain ⟨b, cs, rfl, _⟩ := h.lead;simp
theorem IsRune.ne {m : List UInt8} {r : Nat} (h : IsRune m r) : m ≠ [] := fun e => by
 have := h.len;rw [e] at this
 cases this
theorem valid_rune {m : List UInt8} {r : Nat} (h : IsRune m r) (rest : List UInt8) : validD (m ++ rest) = validD rest := by
 have hd := h.dec rest;rw [validD_step _ (fun e => h.ne (List.append_eq_nil_iff.1 e).1), hd];dsimp only;rw [if_neg h.good, List.drop_left]
theorem valid_cases {l : List UInt8} (h : validD l = true) : l = [] ∨ ∃ m rest r, l = m ++ rest ∧ IsRune m r ∧ validD rest = true := by
 by_cases hne : l = []
 ·exact .inl hne
 ·rcases rune_or_bad l hne with ⟨hb, -⟩ | ⟨m, rest, r, rfl, hm⟩
  ·rw [validD_step _ hne, hb, if_pos ⟨rfl, rfl⟩] at h
   cases h
  ·rw [valid_rune hm] at h;exact .inr ⟨m, rest, r, rfl, hm, h⟩
theorem valid_ind {p : List UInt8 → Prop} (h0 : p []) (h1 : ∀ m rest r, IsRune m r → validD rest = true → p rest → p (m ++ rest)) : ∀ (n : Nat) (l : List UInt8), l.length ≤ n → validD l = true → p l
 | n, l, hn, hv => by
  rcases valid_cases hv with rfl | ⟨m, rest, r, rfl, hm, hr⟩
  ·exact h0
  ·have := hm.len;rw [List.length_append] at hn
   cases n with
   | zero => omega
   | succ n => exact h1 m rest r hm hr (valid_ind h0 h1 n rest (by omega) hr)
theorem valid_app {a : List UInt8} (b : List UInt8) (ha : validD a = true) : validD (a ++ b) = validD b := by
 refine valid_ind (p := fun a => validD (a ++ b) = validD b) rfl ?_ a.length a (Nat.le_refl _) ha;intro m rest r hm _ ih;rw [List.append_assoc, valid_rune hm, ih]
theorem valid_pre (x : UInt8) (t : List UInt8) (hx : x.toNat < 128) : ∀ (n : Nat) (a : List UInt8), a.length ≤ n → validD (a ++ x :: t) = true → validD a = true
 | n, a, hn, hv => by
  by_cases ha : a = []
  ·subst ha; rfl
  ·rcases valid_cases hv with h | ⟨m, rest, r, he, hm, hr⟩
   ·simp at h
   ·have hml := hm.len
    by_cases hle : m.length ≤ a.length
    ·obtain ⟨a', rfl⟩ : ∃ a', a = m ++ a' := by
      refine ⟨a.drop m.length, ?_⟩;have h1 := congrArg (List.take m.length) he;rw [List.take_append_of_le_length hle, List.take_left] at h1
      conv => lhs; rw [← List.take_append_drop m.length a, h1]
     rw [List.append_assoc, List.append_cancel_left_eq] at he;rw [valid_rune hm];rw [List.length_append] at hn
     cases n with
     | zero => omega
     | succ n => exact valid_pre x t hx n a' (by omega) (by rw [he]; exact hr)
    ·exfalso
     obtain ⟨b, cs, rfl, -, hc⟩ := hm.lead;have hal : 0 < a.length := List.length_pos_iff.2 ha;have hxm : x ∈ cs := by
      have h1 := congrArg (fun l => l[a.length]?) he;simp only [List.length_cons] at hle;rw [List.getElem?_append_right (Nat.le_refl _), Nat.sub_self, List.getElem?_append_left (by simp; omega)] at h1;obtain ⟨k, hk⟩ : ∃ k, a.length = k + 1 := ⟨a.length - 1, by omega⟩;rw [hk, List.getElem?_cons_succ] at h1;simp at h1;exact List.mem_of_getElem? h1.symm
     have := hc x hxm;omega
def leads (l : List UInt8) : Nat := l.countP fun b => b.toNat / 64 != 2
theorem leads_app (a b : List UInt8) : leads (a ++ b) = leads a + leads b := List.countP_append
theorem leads_rune {m : List UInt8} {r : Nat} (h : IsRune m r) (k : Nat) (hk : 0 < k) : leads (m.take k) = 1 := by
 obtain ⟨b, cs, rfl, hb, hc⟩ := h.lead;obtain ⟨k, rfl⟩ : ∃ j, k = j + 1 := ⟨k - 1, by omega⟩;rw [List.take_succ_cons];unfold leads;rw [List.countP_cons_of_pos (by simpa using hb), List.countP_eq_zero.2];intro c hc';have := hc c (List.mem_of_mem_take hc');simp [this]
theorem leads_one {m : List UInt8} {r : Nat} (h : IsRune m r) : leads m = 1 := by
 have := leads_rune h m.length h.len
 rwa [List.take_length] at this
end Go.Proofs.YtjfbeeogiejopaaGreatDoor
