/- Parts. -/
import Derived.Test.YthdofaoamljkfaaGreatDoorLaw24AllK2
import Derived.Test.YthdofaoamljkfaaGreatDoorLaw24AllK3
import Derived.Lib.SlicesCompact
import Derived.Test.YthdofaoamljkfaaGreatDoorProg
import Derived.Ground.NamesProg
import Derived.Shelf.Unicode.ValidAny
import Derived.Lib.MapLaws
import Derived.Lib.TrimUEq
import Derived.Lib.RuneCount
import Derived.Lib.OthersKept
import Derived.Laws.RangeString
import Derived.Laws.RangeAny
import Derived.Laws.Strings2
import Derived.WalkSmall
set_option maxRecDepth 10000
set_option maxHeartbeats 16000000
set_option linter.unusedVariables false
set_option linter.unusedSimpArgs false
namespace Go.Proofs.YthdofaoamljkfaaGreatDoor
open Go.RowKit
def lessV (a b : Int × Int) : Bool := mayB a.1 a.2 && mayB b.1 b.2 && lessBV (cK a.1) (cN a.1 a.2) (cK b.1) (cN b.1 b.2)
end Go.Proofs.YthdofaoamljkfaaGreatDoor
namespace Go.Proofs.YthdofaoamljkfaaGreatDoor
open Go.Lib
def mayP (a : Int × Int) : Bool := mayB a.1 a.2
theorem lessB_spec (k m k' m' : Int) : lessBV k m k' m' = true ↔ (k < k' ∨ (k = k' ∧ k = 1 ∧ m < m')) := by
 unfold lessBV
 by_cases h : k = k'
 ·rw [if_pos h]; simp; omega
 ·rw [if_neg h]; simp; omega
theorem may_spec (a : Int × Int) : mayP a = true ↔ (a.1 = 1 ∨ ((a.1 = 0 ∨ a.1 = 2) ∧ a.2 = 0)) := by
 unfold mayP mayB;simp
theorem lessV_spec (a b : Int × Int) : lessV a b = true ↔ mayP a = true ∧ mayP b = true ∧ (a.1 < b.1 ∨ (a.1 = b.1 ∧ a.1 = 1 ∧ a.2 < b.2)) := by
 unfold lessV;rw [Bool.and_eq_true, Bool.and_eq_true, lessB_spec, and_assoc]
 show mayP a = true ∧ mayP b = true ∧ _ ↔ _
 constructor
 ·rintro ⟨ha, hb, h⟩;refine ⟨ha, hb, ?_⟩;rw [may_spec] at ha hb;unfold cK cN at h;rcases ha with ha | ⟨ha | ha, ha2⟩ <;> rcases hb with hb | ⟨hb | hb, hb2⟩ <;> simp [ha, hb] at h ⊢ <;> omega
 ·rintro ⟨ha, hb, h⟩;refine ⟨ha, hb, ?_⟩;rw [may_spec] at ha hb;unfold cK cN;rcases ha with ha | ⟨ha | ha, ha2⟩ <;> rcases hb with hb | ⟨hb | hb, hb2⟩ <;> simp [ha, hb] at h ⊢ <;> omega
theorem lessV_irr (a : Int × Int) : lessV a a = false := by
 cases h : lessV a a with
 | false => rfl
 | true => obtain ⟨_, _, h⟩ := (lessV_spec a a).1 h; omega
theorem lessV_trans {a b c : Int × Int} (h1 : lessV a b = true) (h2 : lessV b c = true) : lessV a c = true := by
 obtain ⟨ha, hb, h1⟩ := (lessV_spec a b).1 h1;obtain ⟨_, hc, h2⟩ := (lessV_spec b c).1 h2;exact (lessV_spec a c).2 ⟨ha, hc, by omega⟩
theorem lessV_asym {a b : Int × Int} (h : lessV a b = true) : lessV b a = false := by
 cases h2 : lessV b a with
 | false => rfl
 | true =>
  have := lessV_trans h h2;rw [lessV_irr] at this
  cases this
theorem lessV_total {a b : Int × Int} (ha : mayP a = true) (hb : mayP b = true) (h1 : lessV a b = false) (h2 : lessV b a = false) : a = b := by
 have n1 : ¬ (a.1 < b.1 ∨ (a.1 = b.1 ∧ a.1 = 1 ∧ a.2 < b.2)) := fun h => by
  rw [(lessV_spec a b).2 ⟨ha, hb, h⟩] at h1
  cases h1
 have n2 : ¬ (b.1 < a.1 ∨ (b.1 = a.1 ∧ b.1 = 1 ∧ b.2 < a.2)) := fun h => by
  rw [(lessV_spec b a).2 ⟨hb, ha, h⟩] at h2
  cases h2
 rw [may_spec] at ha hb;have e1 : a.1 = b.1 := by omega
 have e2 : a.2 = b.2 := by omega
 exact Prod.ext e1 e2
def RisingV (l : List (Int × Int)) : Prop := l.Pairwise fun a b => lessV a b = true
theorem rising_uniqueV : ∀ l m : List (Int × Int), RisingV l → RisingV m → (∀ x, x ∈ l ↔ x ∈ m) → l = m
 | [], [], _, _, _ => rfl
 | [], y :: m, _, _, h => by have := (h y).2 (List.mem_cons_self ..); cases this
 | x :: l, [], _, _, h => by have := (h x).1 (List.mem_cons_self ..); cases this
 | x :: l, y :: m, hl, hm, h => by
  obtain ⟨hx, hl2⟩ := List.pairwise_cons.1 hl;obtain ⟨hy, hm2⟩ := List.pairwise_cons.1 hm;have exy : x = y := by
   rcases List.mem_cons.1 ((h x).1 (List.mem_cons_self ..)) with e | e
   ·exact e
   ·rcases List.mem_cons.1 ((h y).2 (List.mem_cons_self ..)) with e2 | e2
    ·exact e2.symm
    ·have h1 := hy x e;have h2 := hx y e2;rw [lessV_asym h1] at h2
     cases h2
  subst exy;have : l = m := by
   refine rising_uniqueV l m hl2 hm2 fun z => ⟨fun hz => ?_, fun hz => ?_⟩
   ·rcases List.mem_cons.1 ((h z).1 (List.mem_cons_of_mem _ hz)) with e | e
    ·subst e;have := hx z hz;rw [lessV_irr] at this
     cases this
    ·exact e
   ·rcases List.mem_cons.1 ((h z).2 (List.mem_cons_of_mem _ hz)) with e | e
    ·subst e;have := hy z hz;rw [lessV_irr] at this
     cases this
    ·exact e
  rw [this]
def aheadOfV (out : List (Int × Int)) (x : (Int × Int)) : Nat := (out.takeWhile fun y => lessV y x).length
def insV (out : List (Int × Int)) (x : (Int × Int)) : List (Int × Int) :=
 if mayP x = true then (if out[aheadOfV out x]? = some x then out else out.take (aheadOfV out x) ++ x :: out.drop (aheadOfV out x)) else out
def sortV (l : List (Int × Int)) : List (Int × Int) := l.foldl insV []
theorem ahead_splitV (out : List (Int × Int)) (x : (Int × Int)) : out.take (aheadOfV out x) = out.takeWhile (fun y => lessV y x) ∧ out.drop (aheadOfV out x) = out.dropWhile (fun y => lessV y x) := by
 have h := List.takeWhile_append_dropWhile (p := fun y => lessV y x) (l := out);have h1 := congrArg (List.take (out.takeWhile fun y => lessV y x).length) h;have h2 := congrArg (List.drop (out.takeWhile fun y => lessV y x).length) h;rw [List.take_left] at h1;rw [List.drop_left] at h2;exact ⟨h1.symm, h2.symm⟩
structure Vals (out : List (Int × Int)) : Prop where
 rise : RisingV out
 may : ∀ x ∈ out, mayP x = true
theorem vals_nil : Vals [] := ⟨List.Pairwise.nil, fun x h => (by cases h)⟩
theorem drop_headV {p : (Int × Int) → Bool} : ∀ {l : List (Int × Int)} {y : (Int × Int)} {t : List (Int × Int)}, l.dropWhile p = y :: t → p y = false
 | x :: l, y, t, h => by
  by_cases hx : p x = true
  ·rw [List.dropWhile_cons_of_pos hx] at h;exact drop_headV h
  ·rw [List.dropWhile_cons_of_neg hx] at h;obtain ⟨rfl, -⟩ := List.cons.inj h
   simpa using hx
theorem vtake_all {p : (Int × Int) → Bool} : ∀ (l : List (Int × Int)), ∀ y ∈ l.takeWhile p, p y = true
 | x :: l, y, h => by
  by_cases hx : p x = true
  ·rw [List.takeWhile_cons_of_pos hx] at h;rcases List.mem_cons.1 h with rfl | h
   ·exact hx
   ·exact vtake_all l y h
  ·rw [List.takeWhile_cons_of_neg hx] at h
   cases h
theorem ins_vals {out : List (Int × Int)} (h : Vals out) (x : (Int × Int)) : Vals (insV out x) ∧ ∀ y, y ∈ insV out x ↔ y ∈ out ∨ (y = x ∧ mayP x = true) := by
 unfold insV
 by_cases hx : mayP x = true
 ·rw [if_pos hx]
  by_cases he : out[aheadOfV out x]? = some x
  ·rw [if_pos he];refine ⟨h, fun y => ⟨.inl, ?_⟩⟩;rintro (hy | ⟨rfl, -⟩)
   ·exact hy
   ·exact List.mem_of_getElem? he
  ·rw [if_neg he];obtain ⟨h1, h2⟩ := ahead_splitV out x;have happ : out.take (aheadOfV out x) ++ out.drop (aheadOfV out x) = out := List.take_append_drop _ _;have hall := vtake_all (p := fun y => lessV y x) out;rw [← h1] at hall;have hrest : ∀ y ∈ out.drop (aheadOfV out x), lessV x y = true := by
    cases hd : out.drop (aheadOfV out x) with
    | nil => intro y hy; cases hy
    | cons z t =>
     have hz : lessV z x = false := drop_headV (p := fun y => lessV y x) (by rw [← h2]; exact hd);have hzm : z ∈ out := by rw [← happ, hd]; simp
     have hzx : z ≠ x := fun e => he (by
      have : (out.drop (aheadOfV out x))[0]? = some z := by rw [hd]; rfl
      rw [List.getElem?_drop, Nat.add_zero] at this;rw [this, e])
     have hxz : lessV x z = true := by
      cases hc : lessV x z with
      | true => rfl
      | false => exact absurd (lessV_total (h.may z hzm) hx hz hc) hzx
     have hr := h.rise;rw [← happ, hd] at hr;have hr2 := (List.pairwise_append.1 hr).2.1;intro y hy;rcases List.mem_cons.1 hy with rfl | hy
     ·exact hxz
     ·exact lessV_trans hxz ((List.pairwise_cons.1 hr2).1 y hy)
   have hr := h.rise;unfold RisingV at hr;rw [← happ] at hr;obtain ⟨ra, rb, rab⟩ := List.pairwise_append.1 hr;refine ⟨⟨?_, ?_⟩, fun y => ?_⟩
   ·refine List.pairwise_append.2 ⟨ra, List.pairwise_cons.2 ⟨hrest, rb⟩, fun a ha b hb => ?_⟩;rcases List.mem_cons.1 hb with rfl | hb
    ·exact hall a ha
    ·exact rab a ha b hb
   ·intro y hy;rcases List.mem_append.1 hy with hy | hy
    ·exact h.may y (List.mem_of_mem_take hy)
    ·rcases List.mem_cons.1 hy with rfl | hy
     ·exact hx
     ·exact h.may y (List.mem_of_mem_drop hy)
   ·constructor
    ·intro hy;rcases List.mem_append.1 hy with hy | hy
     ·exact .inl (List.mem_of_mem_take hy)
     ·rcases List.mem_cons.1 hy with rfl | hy
      ·exact .inr ⟨rfl, hx⟩
      ·exact .inl (List.mem_of_mem_drop hy)
    ·rintro (hy | ⟨rfl, -⟩)
     ·rw [← happ] at hy;rcases List.mem_append.1 hy with hy | hy
      ·exact List.mem_append.2 (.inl hy)
      ·exact List.mem_append.2 (.inr (List.mem_cons_of_mem _ hy))
     ·exact List.mem_append.2 (.inr (List.mem_cons_self ..))
 ·rw [if_neg hx];refine ⟨h, fun y => ⟨.inl, ?_⟩⟩;rintro (hy | ⟨-, hc⟩)
  ·exact hy
  ·exact absurd hc hx
theorem fold_vals : ∀ (l out : List (Int × Int)), Vals out → Vals (l.foldl insV out) ∧ ∀ y, y ∈ l.foldl insV out ↔ y ∈ out ∨ (y ∈ l ∧ mayP y = true)
 | [], out, h => ⟨h, fun y => by simp⟩
 | x :: l, out, h => by
  obtain ⟨h1, h2⟩ := ins_vals h x;obtain ⟨h3, h4⟩ := fold_vals l (insV out x) h1;refine ⟨h3, fun y => ?_⟩;rw [List.foldl_cons, h4, h2]
  constructor
  ·rintro ((h | ⟨rfl, h⟩) | ⟨h, h'⟩)
   ·exact .inl h
   ·exact .inr ⟨List.mem_cons_self .., h⟩
   ·exact .inr ⟨List.mem_cons_of_mem _ h, h'⟩
  ·rintro (h | ⟨h, h'⟩)
   ·exact .inl (.inl h)
   ·rcases List.mem_cons.1 h with rfl | h
    ·exact .inl (.inr ⟨rfl, h'⟩)
    ·exact .inr ⟨h, h'⟩
theorem sortV_vals (l : List (Int × Int)) : Vals (sortV l) ∧ ∀ y, y ∈ sortV l ↔ y ∈ l ∧ mayP y = true := by
 obtain ⟨h1, h2⟩ := fold_vals l [] vals_nil;exact ⟨h1, fun y => by rw [show sortV l = l.foldl insV [] from rfl, h2]; simp⟩
theorem sortV_unique {l m : List (Int × Int)} (hr : RisingV m) (hm : ∀ y, y ∈ m ↔ y ∈ l ∧ mayP y = true) : m = sortV l :=
 rising_uniqueV m (sortV l) hr (sortV_vals l).1.rise fun y => by rw [hm, (sortV_vals l).2]
end Go.Proofs.YthdofaoamljkfaaGreatDoor
namespace Go.Proofs
open Go.Shelf
def Tryz.laysValid_ren : Go.Shelf.Ren := ⟨fun | 196 => 87 | 259 => 98 | n => n, fun | 9 => 9 | 4 => 4 | 3 => 3 | 5 => 5 | 12 => 12 | 119 => 143 | 0 => 0 | 46 => 147 | 139 => 146 | 138 => 145 | 53 => 91 | n => n, fun | 3 => 0 | 4 => 1 | n => n⟩
theorem Tryz.laysValid : Go.Proofs.Lays.n196 Tryz.prog Tryz.laysValid_ren := {
 mixed := by kernel_rfl
 f196 := Tryz.func87.trans (congrArg some (by kernel_rfl))
 f259 := Tryz.func98.trans (congrArg some (by kernel_rfl))
 t0 := Tryz.underlying0
 a0 := Tryz.isAgg0
 z0 := Tryz.sizeOf0
 v0 := Tryz.zeroValue0
 t3 := Tryz.underlying3
 a3 := Tryz.isAgg3
 z3 := Tryz.sizeOf3
 v3 := Tryz.zeroValue3
 t4 := Tryz.underlying4
 a4 := Tryz.isAgg4
 z4 := Tryz.sizeOf4
 v4 := Tryz.zeroValue4
 t5 := Tryz.underlying5
 a5 := Tryz.isAgg5
 z5 := Tryz.sizeOf5
 v5 := Tryz.zeroValue5
 t9 := Tryz.underlying9
 a9 := Tryz.isAgg9
 z9 := Tryz.sizeOf9
 v9 := Tryz.zeroValue9
 t12 := Tryz.underlying12
 a12 := Tryz.isAgg12
 z12 := Tryz.sizeOf12
 v12 := Tryz.zeroValue12
 t46 := Tryz.underlying147
 a46 := Tryz.isAgg147
 z46 := Tryz.sizeOf147
 v46 := Tryz.zeroValue147
 t53 := Tryz.underlying91
 a53 := Tryz.isAgg91
 z53 := Tryz.sizeOf91
 v53 := Tryz.zeroValue91
 t119 := Tryz.underlying143
 a119 := Tryz.isAgg143
 z119 := Tryz.sizeOf143
 t138 := Tryz.underlying145
 a138 := Tryz.isAgg145
 z138 := Tryz.sizeOf145
 v138 := Tryz.zeroValue145
 t139 := Tryz.underlying146
 a139 := Tryz.isAgg146
 z139 := Tryz.sizeOf146
 v139 := Tryz.zeroValue146
 g3 := by kernel_rfl
 g4 := by kernel_rfl }
end Go.Proofs
namespace Go.Proofs.YthdofaoamljkfaaGreatDoor
open Go.Lib
def by_ (s : ByteArray) : List UInt8 := s.data.toList
theorem by_length (s : ByteArray) : (by_ s).length = s.size := by
 unfold by_;exact (size_eq s).symm
theorem by_inj {s t : ByteArray} (h : by_ s = by_ t) : s = t := by
 unfold by_ at h
 cases s
 cases t
 simp at h;rw [h]
theorem by_extract (s : ByteArray) (a b : Nat) : by_ (s.extract a b) = ((by_ s).take b).drop a := by
 unfold by_;rw [ByteArray.data_extract, Array.toList_extract, List.extract_eq_take_drop, List.drop_take]
theorem by_append (s t : ByteArray) : by_ (s ++ t) = by_ s ++ by_ t := by
 unfold by_;rw [ByteArray.data_append, Array.toList_append]
theorem dec_small {n b0 b1 b2 b3 : Nat} (h : b0 < 128) : decodeN n b0 b1 b2 b3 = (b0, 1) := by
 unfold decodeN;rw [if_pos h]
theorem dec_nl (n b0 b1 b2 b3 : Nat) : ((decodeN n b0 b1 b2 b3).1 = 10 → b0 = 10 ∧ (decodeN n b0 b1 b2 b3).2 = 1) ∧
  ((decodeN n b0 b1 b2 b3).1 ≠ 10 → b0 ≠ 10 ∧ (1 < (decodeN n b0 b1 b2 b3).2 → b1 ≠ 10) ∧ (2 < (decodeN n b0 b1 b2 b3).2 → b2 ≠ 10) ∧ (3 < (decodeN n b0 b1 b2 b3).2 → b3 ≠ 10)) ∧
  1 ≤ (decodeN n b0 b1 b2 b3).2 ∧ (decodeN n b0 b1 b2 b3).2 ≤ 4 ∧ (1 ≤ n → (decodeN n b0 b1 b2 b3).2 ≤ n) := by
 by_cases h0 : b0 < 128
 ·rw [dec_small h0];refine ⟨fun h => ⟨h, rfl⟩, fun h => ⟨h, fun h => absurd h (by omega), fun h => absurd h (by omega), fun h => absurd h (by omega)⟩, by omega, by omega, fun h => h⟩
 ·rcases decodeN_shape n b0 b1 b2 b3 with ⟨c, e⟩ | ⟨c1, c2, c3, cv, e⟩ | ⟨c1, c2, c3, c4, cv, cs, e⟩ | ⟨c1, c2, c3, c4, c5, cv, cw, e⟩ | e
  ·omega
  all_goals (rw [e]; dsimp only; refine ⟨fun h => by omega, fun h => ⟨by omega, fun h => by omega, fun h => by omega, fun h => by omega⟩, by omega, by omega, fun h => by omega⟩)
section
variable (s : ByteArray) (pos : Nat)
theorem width_le (h : pos < s.size) : 1 ≤ (Utf8.decode s pos).2 ∧ pos + (Utf8.decode s pos).2 ≤ s.size := by
 rw [decode_N, ← by_length] at *;have := (dec_nl ((by_ s).length - pos) ((by_ s).getD pos 0).toNat ((by_ s).getD (pos + 1) 0).toNat ((by_ s).getD (pos + 2) 0).toNat ((by_ s).getD (pos + 3) 0).toNat).2.2;unfold by_ at *;omega
theorem byte_eq (b : UInt8) : b.toNat = 10 ↔ b = 10 := by
 constructor
 ·intro h;exact UInt8.toNat_inj.1 h
 ·rintro rfl
  rfl
theorem nl_here (h : pos < s.size) (hr : (Utf8.decode s pos).1 = 10) : (by_ s)[pos]? = some 10 ∧ (Utf8.decode s pos).2 = 1 := by
 rw [decode_N] at *;have := (dec_nl (s.data.toList.length - pos) (s.data.toList.getD pos 0).toNat (s.data.toList.getD (pos + 1) 0).toNat (s.data.toList.getD (pos + 2) 0).toNat (s.data.toList.getD (pos + 3) 0).toNat).1 hr;refine ⟨?_, this.2⟩;have hl : pos < (by_ s).length := by rw [by_length]; exact h
 rw [List.getElem?_eq_getElem hl];have h1 := (byte_eq _).1 this.1;unfold by_ at *
 simpa [List.getD_eq_getElem?_getD, List.getElem?_eq_getElem hl] using h1
theorem nl_none (h : pos < s.size) (hr : (Utf8.decode s pos).1 ≠ 10) : ∀ b ∈ ((by_ s).drop pos).take (Utf8.decode s pos).2, b ≠ 10 := by
 intro b hb e;subst e;obtain ⟨j, hj⟩ := List.mem_iff_getElem?.1 hb;have hw := (width_le s pos h).2;have hjw : j < (Utf8.decode s pos).2 := by
  rcases Nat.lt_or_ge j (Utf8.decode s pos).2 with h1 | h1
  ·exact h1
  ·rw [List.getElem?_take, if_neg (by omega)] at hj
   cases hj
 rw [List.getElem?_take, if_pos hjw, List.getElem?_drop] at hj;have hg : ((by_ s).getD (pos + j) 0).toNat = 10 := by
  rw [List.getD_eq_getElem?_getD, hj]
  rfl
 rw [decode_N] at hr hjw;obtain ⟨-, h2, -, h4, -⟩ := dec_nl (s.data.toList.length - pos) (s.data.toList.getD pos 0).toNat (s.data.toList.getD (pos + 1) 0).toNat (s.data.toList.getD (pos + 2) 0).toNat (s.data.toList.getD (pos + 3) 0).toNat;obtain ⟨a0, a1, a2, a3⟩ := h2 hr;unfold by_ at hg;have : j = 0 ∨ j = 1 ∨ j = 2 ∨ j = 3 := by omega
 rcases this with rfl | rfl | rfl | rfl
 ·exact a0 hg
 ·exact a1 hjw hg
 ·exact a2 hjw hg
 ·exact a3 hjw hg
end
def cutL : List UInt8 → List UInt8 → List (List UInt8)
 | cur, [] => if cur = [] then [] else [cur]
 | cur, b :: t => if b = 10 then cur :: cutL [] t else cutL (cur ++ [b]) t
def linesOf (l : List UInt8) : List (List UInt8) := cutL [] l
theorem cutL_skip (m : List UInt8) : ∀ (cur t : List UInt8), (∀ b ∈ m, b ≠ 10) → cutL cur (m ++ t) = cutL (cur ++ m) t := by
 induction m with
 | nil => intro cur t _; simp
 | cons b m ih =>
  intro cur t h;rw [List.cons_append, cutL, if_neg (h b (by simp)), ih _ _ (fun x hx => h x (by simp [hx])), List.append_assoc]
  rfl
theorem cutL_nl (cur t : List UInt8) : cutL cur (10 :: t) = cur :: cutL [] t := by
 rw [cutL, if_pos rfl]
theorem cutL_len : ∀ (t cur : List UInt8), (cutL cur t).length ≤ t.length + 1 := by
 intro t
 induction t with
 | nil => intro cur; unfold cutL; split <;> simp
 | cons b t ih =>
  intro cur;unfold cutL
  split
  ·have := ih []; simp; omega
  ·have := ih (cur ++ [b]); simp; omega
theorem cutL_mem : ∀ (t cur x : List UInt8), x ∈ cutL cur t → x.length ≤ cur.length + t.length := by
 intro t
 induction t with
 | nil =>
  intro cur x hx;unfold cutL at hx
  split at hx
  ·cases hx
  ·simp at hx; subst hx; simp
 | cons b t ih =>
  intro cur x hx;unfold cutL at hx
  split at hx
  ·rcases List.mem_cons.1 hx with rfl | h
   ·omega
   ·have := ih [] x h; simp at this ⊢; omega
  ·have := ih (cur ++ [b]) x hx; simp at this ⊢; omega
end Go.Proofs.YthdofaoamljkfaaGreatDoor
namespace Go.Proofs.YthdofaoamljkfaaGreatDoor
open Go.RowKit Go.Lib
theorem only_iter {w w' : World} {S : List Nat} (h : Only S w w') {k : Nat} (s : ByteArray) (pos : Nat) (hk : k < w.heap.size → k ∈ S) : Only S w (w'.iterAt k s pos) :=
 ⟨h.os, h.tape, h.output, by rw [iterAt_size]; exact h.size, fun i hi hs => by
  rw [iterAt_other w' k i s pos (fun e => hs (e ▸ hk (e ▸ hi)))];exact h.keeps i hi hs⟩
theorem own_iter {w : World} {base : Nat} {e : TypeId} {size : Nat} {v : Value} {n : Nat} {xs : List Value} (h : w.ownsRow base e size v n xs) {k : Nat} {s : ByteArray} {pos : Nat} (hk : w.heap[k]? = some (.stringIter s pos)) (pos' : Nat) : (w.iterAt k s pos').ownsRow base e size v n xs := by
 have hO : Only [k] w (w.iterAt k s pos') := only_iter (Only.refl [k] w) s pos' (by simp);refine own_only h hO (fun g hg hm => ?_);simp at hm;subst hm;obtain ⟨cur, hcur⟩ := own_blk h hg;unfold Blk at hcur;rw [hk] at hcur
 cases hcur
theorem tinfo_string : (Tryz.prog.info? 9).map (fun i => (i.zero, i.size, i.bytes)) = some (some (.string ⟨#[]⟩), 1, 16) := by kernel_rfl
def strs (xs : List ByteArray) : List Value := xs.map Value.string
end Go.Proofs.YthdofaoamljkfaaGreatDoor
namespace Go.Proofs.YthdofaoamljkfaaGreatDoor
open Go.RowKit
open Go.Lib
structure Op4 where
 wr : Bool
 key : Int
 vk : Int
 vn : Int
def Op4.c (x : Op4) : List Value := [.bool x.wr, .int .i64 x.key, .int .i64 x.vk, .int .i64 x.vn]
def opC (l : List Op4) : List Value := l.flatMap Op4.c
structure Tx where
 s : Int
 f : Int
 ops : List Op4
structure TxA where
 t : Tx
 A : Option Addr
 cp : Nat
def TxA.c (x : TxA) : List Value := [.int .i64 x.t.s, .int .i64 x.t.f, .slice x.A x.t.ops.length x.cp]
def txC (l : List TxA) : List Value := l.flatMap TxA.c
structure Hst where
 ss : List ByteArray
 ks : List ByteArray
 l : List Tx
theorem flat_len {α : Type} (f : α → List Value) (n : Nat) (h : ∀ x, (f x).length = n) (l : List α) : (l.flatMap f).length = l.length * n := by
 induction l with
 | nil => simp
 | cons x l ih => rw [List.flatMap_cons, List.length_append, ih, h, List.length_cons, Nat.add_mul, Nat.one_mul, Nat.add_comm]
theorem flat_get {α : Type} (f : α → List Value) (n : Nat) (h : ∀ x, (f x).length = n) : ∀ (l : List α) (i : Nat) (x : α), l[i]? = some x → ∀ j, j < n → (l.flatMap f)[i * n + j]? = (f x)[j]?
 | [], i, x, hx, _, _ => by simp at hx
 | y :: l, 0, x, hx, j, hj => by
  simp at hx;subst hx;rw [List.flatMap_cons, List.getElem?_append_left (by rw [h]; omega), Nat.zero_mul, Nat.zero_add]
 | y :: l, i + 1, x, hx, j, hj => by
  have := flat_get f n h l i x (by simpa using hx) j hj;rw [List.flatMap_cons, List.getElem?_append_right (by rw [h, Nat.add_mul]; omega), ← this]
  congr 1
  rw [h, Nat.add_mul];omega
theorem opC_len (l : List Op4) : (opC l).length = l.length * 4 := flat_len _ 4 (fun _ => rfl) l
theorem txC_len (l : List TxA) : (txC l).length = l.length * 3 := flat_len _ 3 (fun _ => rfl) l
theorem opC_get (l : List Op4) (i : Nat) (x : Op4) (h : l[i]? = some x) : ∀ j, j < 4 → (opC l)[i * 4 + j]? = x.c[j]? := flat_get _ 4 (fun _ => rfl) l i x h
theorem txC_get (l : List TxA) (i : Nat) (x : TxA) (h : l[i]? = some x) : ∀ j, j < 3 → (txC l)[i * 3 + j]? = x.c[j]? := flat_get _ 3 (fun _ => rfl) l i x h
theorem opC_append (l k : List Op4) : opC (l ++ k) = opC l ++ opC k := by simp [opC]
theorem txC_append (l k : List TxA) : txC (l ++ k) = txC l ++ txC k := by simp [txC]
theorem opC_take (l : List Op4) (n : Nat) : opC (l.take n) = (opC l).take (n * 4) := by
 induction l generalizing n with
 | nil => simp [opC]
 | cons x l ih =>
  cases n with
  | zero => simp [opC]
  | succ n =>
   rw [List.take_succ_cons]
   show x.c ++ opC (l.take n) = (x.c ++ opC l).take ((n + 1) * 4)
   rw [ih, show (n + 1) * 4 = x.c.length + n * 4 by (show _ = 4 + n * 4; omega), List.take_length_add_append]
theorem one_opC (l : List Op4) : ∀ u ∈ opC l, u.oneCell' = true := by
 intro u hu;simp only [opC, List.mem_flatMap, Op4.c, List.mem_cons, List.not_mem_nil, or_false] at hu;obtain ⟨e, _, rfl | rfl | rfl | rfl⟩ := hu <;> rfl
structure OpAt (w : World) (b o : Nat) (x : Op4) : Prop where
 c0 : w.cell? ⟨b, o, none⟩ = some (.bool x.wr)
 c1 : w.cell? ⟨b, o + 1, none⟩ = some (.int .i64 x.key)
 c2 : w.cell? ⟨b, o + 2, none⟩ = some (.int .i64 x.vk)
 c3 : w.cell? ⟨b, o + 3, none⟩ = some (.int .i64 x.vn)
theorem OpAt.only {S : List Nat} {w w' : World} {b o : Nat} {x : Op4} (h : OpAt w b o x) (ho : Only S w w') (hb : b < w.heap.size) (hs : b ∉ S) : OpAt w' b o x :=
 ⟨(ho.cell (p := ⟨b, o, none⟩) hb hs).trans h.c0, (ho.cell (p := ⟨b, o + 1, none⟩) hb hs).trans h.c1, (ho.cell (p := ⟨b, o + 2, none⟩) hb hs).trans h.c2, (ho.cell (p := ⟨b, o + 3, none⟩) hb hs).trans h.c3⟩
theorem row_op {w : World} {B : Nat} {A : Option Addr} {l : List Op4} (h : Row w B A (opC l)) {k : Nat} {x : Op4} (hk : l[k]? = some x) : ∃ b off, A = some ⟨b, off, none⟩ ∧ b < B ∧ b < w.heap.size ∧ OpAt w b (off + k * 4) x := by
 have hlt := (List.getElem?_eq_some_iff.1 hk).1;obtain ⟨b, off, rfl, h1, h2, hc⟩ := h.open_ (k := k * 4) (by rw [opC_len]; omega);have g := opC_get l k x hk;refine ⟨b, off, rfl, h1, h2, ⟨?_, ?_, ?_, ?_⟩⟩
 ·exact hc (k * 4) _ (g 0 (by omega))
 ·rw [Nat.add_assoc]; exact hc _ _ (g 1 (by omega))
 ·rw [Nat.add_assoc]; exact hc _ _ (g 2 (by omega))
 ·rw [Nat.add_assoc]; exact hc _ _ (g 3 (by omega))
structure TxAt (w : World) (b o : Nat) (x : TxA) : Prop where
 c0 : w.cell? ⟨b, o, none⟩ = some (.int .i64 x.t.s)
 c1 : w.cell? ⟨b, o + 1, none⟩ = some (.int .i64 x.t.f)
 c2 : w.cell? ⟨b, o + 2, none⟩ = some (.slice x.A x.t.ops.length x.cp)
theorem TxAt.only {S : List Nat} {w w' : World} {b o : Nat} {x : TxA} (h : TxAt w b o x) (ho : Only S w w') (hb : b < w.heap.size) (hs : b ∉ S) : TxAt w' b o x :=
 ⟨(ho.cell (p := ⟨b, o, none⟩) hb hs).trans h.c0, (ho.cell (p := ⟨b, o + 1, none⟩) hb hs).trans h.c1, (ho.cell (p := ⟨b, o + 2, none⟩) hb hs).trans h.c2⟩
structure TxOk (w : World) (B : Nat) (x : TxA) : Prop where
 row : Row w B x.A (opC x.t.ops)
 le : x.t.ops.length ≤ x.cp
 cap : x.cp ≤ maxLen
theorem TxOk.only {S : List Nat} {w w' : World} {B : Nat} {x : TxA} (h : TxOk w B x) (ho : Only S w w') (hS : ∀ i ∈ S, B ≤ i) : TxOk w' B x := ⟨h.row.only ho hS, h.le, h.cap⟩
theorem TxOk.up {w : World} {B : Nat} {x : TxA} (h : TxOk w B x) : TxOk w w.heap.size x := ⟨row_up h.row, h.le, h.cap⟩
def LRow (w : World) (B : Nat) (A : Option Addr) (l : List Tx) : Prop := ∃ xs : List TxA, xs.map TxA.t = l ∧ Row w B A (txC xs) ∧ ∀ x ∈ xs, TxOk w B x
theorem LRow.only {S : List Nat} {w w' : World} {B : Nat} {A : Option Addr} {l : List Tx} (h : LRow w B A l) (ho : Only S w w') (hS : ∀ i ∈ S, B ≤ i) : LRow w' B A l := by
 obtain ⟨xs, h1, h2, h3⟩ := h;exact ⟨xs, h1, h2.only ho hS, fun x hx => (h3 x hx).only ho hS⟩
theorem LRow.up {w : World} {B : Nat} {A : Option Addr} {l : List Tx} (h : LRow w B A l) : LRow w w.heap.size A l := by
 obtain ⟨xs, h1, h2, h3⟩ := h;exact ⟨xs, h1, row_up h2, fun x hx => (h3 x hx).up⟩
theorem LRow.nil {w : World} {B : Nat} {A : Option Addr} : LRow w B A [] := ⟨[], rfl, .inl rfl, fun x hx => by cases hx⟩
theorem LRow.at_ {w : World} {B : Nat} {A : Option Addr} {l : List Tx} (h : LRow w B A l) {k : Nat} {t : Tx} (hk : l[k]? = some t) :
  ∃ b off A' cp, A = some ⟨b, off, none⟩ ∧ b < B ∧ b < w.heap.size ∧ TxAt w b (off + k * 3) ⟨t, A', cp⟩ ∧ TxOk w B ⟨t, A', cp⟩ := by
 obtain ⟨xs, rfl, h2, h3⟩ := h;rw [List.getElem?_map] at hk
 cases hx : xs[k]? with
 | none => rw [hx] at hk; cases hk
 | some x =>
  rw [hx] at hk;simp at hk;subst hk;have hlt := (List.getElem?_eq_some_iff.1 hx).1;obtain ⟨b, off, rfl, h4, h5, hc⟩ := h2.open_ (k := k * 3) (by rw [txC_len]; omega);have g := txC_get xs k x hx;refine ⟨b, off, x.A, x.cp, rfl, h4, h5, ⟨?_, ?_, ?_⟩, h3 x (List.mem_of_getElem? hx)⟩
  ·exact hc (k * 3) _ (g 0 (by omega))
  ·rw [Nat.add_assoc]; exact hc _ _ (g 1 (by omega))
  ·rw [Nat.add_assoc]; exact hc _ _ (g 2 (by omega))
structure HAt (w : World) (B : Nat) (A0 A1 A2 : Option Addr) (h : Hst) : Prop where
 r0 : Row w B A0 (strs h.ss)
 r1 : Row w B A1 (strs h.ks)
 r2 : LRow w B A2 h.l
theorem HAt.only {S : List Nat} {w w' : World} {B : Nat} {A0 A1 A2 : Option Addr} {h : Hst} (g : HAt w B A0 A1 A2 h) (ho : Only S w w') (hS : ∀ i ∈ S, B ≤ i) : HAt w' B A0 A1 A2 h := ⟨g.r0.only ho hS, g.r1.only ho hS, g.r2.only ho hS⟩
theorem HAt.up {w : World} {B : Nat} {A0 A1 A2 : Option Addr} {h : Hst} (g : HAt w B A0 A1 A2 h) : HAt w w.heap.size A0 A1 A2 h := ⟨row_up g.r0, row_up g.r1, g.r2.up⟩
def hval (A0 A1 A2 : Option Addr) (n0 n1 n2 c0 c1 c2 : Nat) : Value := .agg #[.slice A0 n0 c0, .slice A1 n1 c1, .slice A2 n2 c2]
structure HSmall (h : Hst) : Prop where
 s : ∀ x ∈ h.ss, x.size ≤ 65537
 k : ∀ x ∈ h.ks, x.size ≤ 65537
 ns : h.ss.length ≤ 1000
 nk : h.ks.length ≤ 1000
 nl : h.l.length ≤ 1000
 no : ∀ t ∈ h.l, t.ops.length ≤ 1000
end Go.Proofs.YthdofaoamljkfaaGreatDoor
