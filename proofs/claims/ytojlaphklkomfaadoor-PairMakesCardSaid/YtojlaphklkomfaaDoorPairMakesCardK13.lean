/- Parts. -/
import Derived.Ground.SlsfProg
import Derived.Shelf.SlSortCmp.Whole1
import Derived.Shelf.SlGeneric
import Derived.Shelf.Slices.Cells
import Derived.Test.YtojlaphklkomfaaDoorPairMakesCardK12
set_option maxRecDepth 10000
set_option maxHeartbeats 16000000
set_option linter.unusedVariables false
set_option linter.unusedSimpArgs false
namespace Go.Proofs
open Go.Shelf
def Tryd.laysSort_ren : Go.Shelf.Ren := ⟨fun | 6 => 44 | 15 => 59 | 14 => 58 | 28 => 71 | 29 => 72 | 20 => 63 | 21 => 64 | 22 => 65 | 23 => 66 | 24 => 67 | 25 => 68 | 26 => 69 | 27 => 70 | 46 => 75 | 47 => 76 | 48 => 77 | 49 => 78 | 50 => 79 | 57 => 80 | n => n, fun | 22 => 24 | 24 => 9 | 25 => 83 | 3 => 3 | 39 => 96 | 0 => 0 | 53 => 113 | 55 => 115 | 4 => 4 | 46 => 107 | 45 => 106 | 50 => 59 | 5 => 5 | 9 => 9 | 66 => 116 | 70 => 120 | 76 => 122 | 77 => 91 | n => n, fun | n => n⟩
theorem Tryd.laysSort : Go.Proofs.SlLaysF.n6 Tryd.prog Tryd.laysSort_ren := {
 mixed := by kernel_rfl
 f6 := ⟨Tryd.f44.name, by decide, Tryd.func44.trans (congrArg some (by kernel_rfl))⟩
 f14 := ⟨Tryd.f58.name, by decide, Tryd.func58.trans (congrArg some (by kernel_rfl))⟩
 f15 := Tryd.func59.trans (congrArg some (by kernel_rfl))
 f20 := ⟨Tryd.f63.name, by decide, Tryd.func63.trans (congrArg some (by kernel_rfl))⟩
 f21 := ⟨Tryd.f64.name, by decide, Tryd.func64.trans (congrArg some (by kernel_rfl))⟩
 f22 := ⟨Tryd.f65.name, by decide, Tryd.func65.trans (congrArg some (by kernel_rfl))⟩
 f23 := ⟨Tryd.f66.name, by decide, Tryd.func66.trans (congrArg some (by kernel_rfl))⟩
 f24 := ⟨Tryd.f67.name, by decide, Tryd.func67.trans (congrArg some (by kernel_rfl))⟩
 f25 := ⟨Tryd.f68.name, by decide, Tryd.func68.trans (congrArg some (by kernel_rfl))⟩
 f26 := ⟨Tryd.f69.name, by decide, Tryd.func69.trans (congrArg some (by kernel_rfl))⟩
 f27 := ⟨Tryd.f70.name, by decide, Tryd.func70.trans (congrArg some (by kernel_rfl))⟩
 f28 := Tryd.func71.trans (congrArg some (by kernel_rfl))
 f29 := Tryd.func72.trans (congrArg some (by kernel_rfl))
 f46 := ⟨Tryd.f75.name, by decide, Tryd.func75.trans (congrArg some (by kernel_rfl))⟩
 f47 := Tryd.func76.trans (congrArg some (by kernel_rfl))
 f48 := Tryd.func77.trans (congrArg some (by kernel_rfl))
 f49 := ⟨Tryd.f78.name, by decide, Tryd.func78.trans (congrArg some (by kernel_rfl))⟩
 f50 := ⟨Tryd.f79.name, by decide, Tryd.func79.trans (congrArg some (by kernel_rfl))⟩
 f57 := ⟨Tryd.f80.name, by decide, Tryd.func80.trans (congrArg some (by kernel_rfl))⟩
 t0 := Tryd.underlying0
 a0 := Tryd.isAgg0
 z0 := Tryd.sizeOf0
 v0 := Tryd.zeroValue0
 t3 := Tryd.underlying3
 a3 := Tryd.isAgg3
 z3 := Tryd.sizeOf3
 v3 := Tryd.zeroValue3
 t4 := Tryd.underlying4
 a4 := Tryd.isAgg4
 z4 := Tryd.sizeOf4
 v4 := Tryd.zeroValue4
 t5 := Tryd.underlying5
 a5 := Tryd.isAgg5
 z5 := Tryd.sizeOf5
 v5 := Tryd.zeroValue5
 t9 := Tryd.underlying9
 a9 := Tryd.isAgg9
 z9 := Tryd.sizeOf9
 v9 := Tryd.zeroValue9
 t22 := Tryd.underlying24
 a22 := Tryd.isAgg24
 z22 := Tryd.sizeOf24
 v22 := Tryd.zeroValue24
 a24 := Tryd.isAgg9
 z24 := Tryd.sizeOf9
 t25 := Tryd.underlying83
 a25 := Tryd.isAgg83
 z25 := Tryd.sizeOf83
 v25 := Tryd.zeroValue83
 t39 := Tryd.underlying96
 a39 := Tryd.isAgg96
 z39 := Tryd.sizeOf96
 v39 := Tryd.zeroValue96
 t45 := Tryd.underlying106
 a45 := Tryd.isAgg106
 z45 := Tryd.sizeOf106
 v45 := Tryd.zeroValue106
 t46 := Tryd.underlying107
 a46 := Tryd.isAgg107
 z46 := Tryd.sizeOf107
 v46 := Tryd.zeroValue107
 t50 := Tryd.underlying59
 a50 := Tryd.isAgg59
 z50 := Tryd.sizeOf59
 v50 := Tryd.zeroValue59
 t53 := Tryd.underlying113
 a53 := Tryd.isAgg113
 z53 := Tryd.sizeOf113
 v53 := Tryd.zeroValue113
 t55 := Tryd.underlying115
 a55 := Tryd.isAgg115
 z55 := Tryd.sizeOf115
 v55 := Tryd.zeroValue115
 t66 := Tryd.underlying116
 a66 := Tryd.isAgg116
 z66 := Tryd.sizeOf116
 v66 := Tryd.zeroValue116
 t70 := Tryd.underlying120
 a70 := Tryd.isAgg120
 z70 := Tryd.sizeOf120
 v70 := Tryd.zeroValue120
 t76 := Tryd.underlying122
 a76 := Tryd.isAgg122
 z76 := Tryd.sizeOf122
 v76 := Tryd.zeroValue122
 t77 := Tryd.underlying91
 a77 := Tryd.isAgg91
 z77 := Tryd.sizeOf91
 v77 := Tryd.zeroValue91 }
def Tryd.laysCompact_ren : Go.Shelf.Ren := ⟨fun | 194 => 46 | n => n, fun | 31 => 24 | 9 => 9 | 3 => 3 | 4 => 4 | 0 => 0 | n => n, fun | n => n⟩
theorem Tryd.laysCompact : Go.Proofs.Lays.n194 Tryd.prog Tryd.laysCompact_ren := {
 mixed := by kernel_rfl
 f194 := Tryd.func46.trans (congrArg some (by kernel_rfl))
 t0 := Tryd.underlying0
 a0 := Tryd.isAgg0
 z0 := Tryd.sizeOf0
 v0 := Tryd.zeroValue0
 t3 := Tryd.underlying3
 a3 := Tryd.isAgg3
 z3 := Tryd.sizeOf3
 v3 := Tryd.zeroValue3
 t4 := Tryd.underlying4
 a4 := Tryd.isAgg4
 z4 := Tryd.sizeOf4
 v4 := Tryd.zeroValue4
 t9 := Tryd.underlying9
 a9 := Tryd.isAgg9
 z9 := Tryd.sizeOf9
 v9 := Tryd.zeroValue9
 t31 := Tryd.underlying24
 a31 := Tryd.isAgg24
 z31 := Tryd.sizeOf24
 v31 := Tryd.zeroValue24 }
end Go.Proofs
namespace Go.Proofs.YtojlaphklkomfaaDoor
open Go.RowKit
open Go.Lib hiding intOf
attribute [local go_sem ↓] Go.wp_at_zero Go.wp_at_succ
@[reducible] def NameT : Type := {b : ByteArray // isName b = true}
theorem name_a : isName ⟨#[97]⟩ = true := by kernel_rfl
def encN (x : NameT) : Value := .string x.1
def cmpN (x y : NameT) : Int := cmpB x.1 y.1
theorem ltN_eq (x y : NameT) : ltOf cmpN x y = lessB x.1 y.1 := by
 unfold ltOf cmpN cmpB lessB
 cases lessL (runesL (by_ x.1)) (runesL (by_ y.1)) with
 | true => simp
 | false =>
  cases lessL (runesL (by_ y.1)) (runesL (by_ x.1)) <;> simp
theorem ltN_swo : Go.Sort.SWO (ltOf cmpN) where
 irrefl x := by rw [ltN_eq]; exact lessB_irr _
 trans x y z h1 h2 := by
  rw [ltN_eq] at *;exact lessB_trans h1 h2
 ntrans x y z h1 h2 := by
  rw [ltN_eq] at *
  cases h : lessB x.1 z.1 with
  | false => rfl
  | true =>
   cases h3 : lessB z.1 y.1 with
   | true =>
    have := lessB_trans h h3;rw [h1] at this
    cases this
   | false =>
    have e := lessB_total y.2 z.2 h2 h3;rw [e, h] at h1
    cases h1
theorem name_size {b : ByteArray} (h : isName b = true) : b.size ≤ 80 := by
 have hv := name_valid' h;unfold isName at h;simp only [Bool.and_eq_true, nameL, decide_eq_true_eq] at h;have h2 := enc_len (runesL (by_ b));rw [enc_runes hv, by_length] at h2;have := h.2.1.1.2;omega
theorem below_sortWorld {α : Type} [Inhabited α] (enc : α → Value) {B : Nat} {a : World} (w : World) (blk off m : Nat) (dk : Array α) (os : Array Obj) (h : Below B a w) (hB : B ≤ blk) (hs : B ≤ w.heap.size) : Below B a (sortWorld enc w blk off m dk os) := by
 have hsz : (w.heap.modify blk (Go.Sort.onCells (Go.Sort.putCells enc off dk))).size = w.heap.size := by simp
 refine ⟨h.os, h.tape, h.output, Nat.le_trans h.size ?_, fun k hk => ?_⟩
 ·show _ ≤ (w.heap.modify blk (Go.Sort.onCells (Go.Sort.putCells enc off dk)) ++ os).size
  rw [Array.size_append, hsz];omega
 ·show (w.heap.modify blk (Go.Sort.onCells (Go.Sort.putCells enc off dk)) ++ os)[k]? = _
  rw [Array.getElem?_append_left (by rw [hsz]; omega), Array.getElem?_modify, if_neg (by omega)];exact h.block k hk
theorem compact_rise (zs : List (List UInt8)) (hn : ∀ z ∈ zs, isName ⟨z.toArray⟩ = true) (hs : zs.Pairwise fun a b => lessB ⟨b.toArray⟩ ⟨a.toArray⟩ = false) : ∀ k, k ≤ zs.length →
  ((compactUpTo zs.toArray k).Pairwise fun a b => lessB ⟨a.toArray⟩ ⟨b.toArray⟩ = true) ∧ ∀ y, y ∈ compactUpTo zs.toArray k ↔ y ∈ zs.take k := by
 have hg : ∀ j, (h : j < zs.length) → zs.toArray[j]! = zs[j] := fun j h => by
  rw [getElem!_pos zs.toArray j (by simpa using h)]
  rfl
 intro k
 induction k with
 | zero => intro _; exact ⟨by simp [compactUpTo], fun y => by simp [compactUpTo]⟩
 | succ k ih =>
  intro hk;obtain ⟨ih1, ih2⟩ := ih (by omega);have hlt : k < zs.length := by omega
  have htk : zs.take (k + 1) = zs.take k ++ [zs[k]] := by rw [List.take_add_one, List.getElem?_eq_getElem hlt]; rfl
  rw [compactUpTo_succ]
  by_cases hkp : keeps zs.toArray k = true
  ·rw [if_pos hkp, hg k hlt];refine ⟨List.pairwise_append.2 ⟨ih1, List.pairwise_singleton _ _, fun a ha b hb => ?_⟩, fun y => by rw [List.mem_append, ih2, htk, List.mem_append]⟩;rw [List.mem_singleton] at hb;subst hb;have ha2 := (ih2 a).1 ha;obtain ⟨j, hj, e⟩ := List.mem_iff_getElem.1 ha2;rw [List.getElem_take] at e;rw [List.length_take] at hj;have hjk : j < k := by omega
   unfold keeps at hkp;have hkp := of_decide_eq_true hkp;have hk1 : 0 < k := by omega
   have hne : zs[k] ≠ zs[k - 1]'(by omega) := by
    rcases hkp with h | h
    ·omega
    ·rw [hg k hlt, hg (k - 1) (by omega)] at h;exact h
   have hS := List.pairwise_iff_getElem.1 hs;have inj : ∀ {u v : List UInt8}, (⟨u.toArray⟩ : ByteArray) = ⟨v.toArray⟩ → u = v := fun {u v} h => by
    have := congrArg (fun s : ByteArray => s.data.toList) h
    simpa using this
   have hlast : lessB ⟨(zs[k - 1]'(by omega)).toArray⟩ ⟨zs[k].toArray⟩ = true := by
    cases hc : lessB ⟨(zs[k - 1]'(by omega)).toArray⟩ ⟨zs[k].toArray⟩ with
    | true => rfl
    | false => exact absurd (inj (lessB_total (hn _ (List.getElem_mem _)) (hn _ (List.getElem_mem _)) hc (hS (k - 1) k (by omega) hlt (by omega)))).symm hne
   by_cases hj1 : j = k - 1
   ·subst hj1;rw [← e];exact hlast
   ·have h1 := hS j (k - 1) (by omega) (by omega) (by omega);rw [← e]
    cases hc : lessB ⟨(zs[j]'(by omega)).toArray⟩ ⟨(zs[k - 1]'(by omega)).toArray⟩ with
    | true => exact lessB_trans hc hlast
    | false =>
     have e2 := inj (lessB_total (hn _ (List.getElem_mem _)) (hn _ (List.getElem_mem _)) hc h1);rw [e2];exact hlast
  ·have hkf : keeps zs.toArray k = false := by simpa using hkp
   rw [if_neg hkp, List.append_nil];refine ⟨ih1, fun y => ?_⟩;rw [ih2, htk, List.mem_append, List.mem_singleton];refine ⟨.inl, ?_⟩;rintro (h | rfl)
   ·exact h
   ·unfold keeps at hkf;have hkf := of_decide_eq_false hkf;have hk1 : k ≠ 0 := fun h => hkf (.inl h);have he : zs[k] = zs[k - 1]'(by omega) := by
     have := Classical.not_not.1 (fun h => hkf (.inr h));rw [hg k hlt, hg (k - 1) (by omega)] at this;exact this
    rw [he];exact List.mem_iff_getElem.2 ⟨k - 1, by rw [List.length_take]; omega, by rw [List.getElem_take]⟩
theorem compact_sort (l bs : List ByteArray) (hn : ∀ b ∈ bs, isName b = true) (hs : bs.Pairwise fun a b => lessB b a = false) (hm : ∀ y, y ∈ bs ↔ y ∈ l ∧ isName y = true) :
  (compact (bs.map by_)).map (fun z => (⟨z.toArray⟩ : ByteArray)) = sortB l := by
 have back : ∀ b : ByteArray, (⟨(by_ b).toArray⟩ : ByteArray) = b := fun b => by_inj List.toList_toArray;have h := compact_rise (bs.map by_) (fun z hz => by
  obtain ⟨b, hb, rfl⟩ := List.mem_map.1 hz;rw [back];exact hn b hb) (by
  rw [List.pairwise_map];refine hs.imp fun {a b} h => ?_;rw [back, back];exact h) (bs.map by_).length (Nat.le_refl _)
 refine sortB_unique ?_ fun y => ?_
 ·unfold Rising compact;rw [List.pairwise_map];exact h.1
 ·rw [← hm]
  constructor
  ·intro hy;obtain ⟨z, hz, rfl⟩ := List.mem_map.1 hy;have := (h.2 z).1 hz;rw [List.take_length] at this;obtain ⟨b, hb, rfl⟩ := List.mem_map.1 this;rw [back];exact hb
  ·intro hy;refine List.mem_map.2 ⟨by_ y, (h.2 _).2 (by rw [List.take_length]; exact List.mem_map.2 ⟨y, hy, rfl⟩), back y⟩
end Go.Proofs.YtojlaphklkomfaaDoor
