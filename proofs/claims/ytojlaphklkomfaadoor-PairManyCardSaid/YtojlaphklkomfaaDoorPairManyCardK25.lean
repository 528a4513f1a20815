/- Contracts of the package name: Sorted. -/
import Derived.Test.YtojlaphklkomfaaDoorPairManyCardK23
import Derived.Test.YtojlaphklkomfaaDoorPairManyCardK10
import Derived.Test.YtojlaphklkomfaaDoorPairManyCardK24
set_option linter.unusedVariables false
set_option linter.unusedSimpArgs false
namespace Go.Proofs.YtojlaphklkomfaaDoor
open Go.RowKit
open Go.Lib hiding intOf
attribute [local go_sem ↓] Go.wp_at_zero Go.wp_at_succ

@[reducible] def NameT : Type := {b : ByteArray // isName b = true}
theorem name_a : isName ⟨#[97]⟩ = true := by kernel_rfl
def encN (x : NameT) : Value := .string x.1
def cmpN (x y : NameT) : Int := cmpB x.1 y.1
theorem ltN_eq (x y : NameT) : ltOf cmpN x y = lessB x.1 y.1 := by
  unfold ltOf cmpN cmpB lessB
  cases lessL (runesL (by_ x.1)) (runesL (by_ y.1)) with
  | true => simp
  | false =>
    cases lessL (runesL (by_ y.1)) (runesL (by_ x.1)) <;> simp
theorem ltN_swo : Go.Sort.SWO (ltOf cmpN) where
  irrefl x := by rw [ltN_eq]; exact lessB_irr _
  trans x y z h1 h2 := by
    rw [ltN_eq] at *
    exact lessB_trans h1 h2
  ntrans x y z h1 h2 := by
    rw [ltN_eq] at *
    cases h : lessB x.1 z.1 with
    | false => rfl
    | true =>
      cases h3 : lessB z.1 y.1 with
      | true =>
        have := lessB_trans h h3
        rw [h1] at this
        cases this
      | false =>
        have e := lessB_total y.2 z.2 h2 h3
        rw [e, h] at h1
        cases h1
theorem ltN_total (x y : NameT) (h1 : ltOf cmpN x y = false) (h2 : ltOf cmpN y x = false) : x = y := by
  rw [ltN_eq] at *
  exact Subtype.ext (lessB_total x.2 y.2 h1 h2)
theorem name_size {b : ByteArray} (h : isName b = true) : b.size ≤ 80 := by
  have hv := name_valid' h
  unfold isName at h
  simp only [Bool.and_eq_true, nameL, decide_eq_true_eq] at h
  have h2 := enc_len (runesL (by_ b))
  rw [enc_runes hv, by_length] at h2
  have := h.2.1.1.2
  omega

theorem below_sortWorld {α : Type} [Inhabited α] (enc : α → Value) {B : Nat} {a : World} (w : World) (blk off m : Nat) (dk : Array α) (os : Array Obj) (h : Below B a w) (hB : B ≤ blk) (hs : B ≤ w.heap.size) : Below B a (sortWorld enc w blk off m dk os) := by
  have hsz : (w.heap.modify blk (Go.Sort.onCells (Go.Sort.putCells enc off dk))).size = w.heap.size := by simp
  refine ⟨h.os, h.tape, h.output, Nat.le_trans h.size ?_, fun k hk => ?_⟩
  · show _ ≤ (w.heap.modify blk (Go.Sort.onCells (Go.Sort.putCells enc off dk)) ++ os).size
    rw [Array.size_append, hsz]
    omega
  · show (w.heap.modify blk (Go.Sort.onCells (Go.Sort.putCells enc off dk)) ++ os)[k]? = _
    rw [Array.getElem?_append_left (by rw [hsz]; omega), Array.getElem?_modify, if_neg (by omega)]
    exact h.block k hk

/-- The mathematics of what Compact leaves of names in order. -/
theorem compact_rise (zs : List (List UInt8)) (hn : ∀ z ∈ zs, isName ⟨z.toArray⟩ = true) (hs : zs.Pairwise fun a b => lessB ⟨b.toArray⟩ ⟨a.toArray⟩ = false) : ∀ k, k ≤ zs.length →
    ((compactUpTo zs.toArray k).Pairwise fun a b => lessB ⟨a.toArray⟩ ⟨b.toArray⟩ = true) ∧ ∀ y, y ∈ compactUpTo zs.toArray k ↔ y ∈ zs.take k := by
  have hg : ∀ j, (h : j < zs.length) → zs.toArray[j]! = zs[j] := fun j h => by
    rw [getElem!_pos zs.toArray j (by simpa using h)]
    rfl
  intro k
  induction k with
  | zero => intro _; exact ⟨by simp [compactUpTo], fun y => by simp [compactUpTo]⟩
  | succ k ih =>
    intro hk
    obtain ⟨ih1, ih2⟩ := ih (by omega)
    have hlt : k < zs.length := by omega
    have htk : zs.take (k + 1) = zs.take k ++ [zs[k]] := by rw [List.take_add_one, List.getElem?_eq_getElem hlt]; rfl
    rw [compactUpTo_succ]
    by_cases hkp : keeps zs.toArray k = true
    · rw [if_pos hkp, hg k hlt]
      refine ⟨List.pairwise_append.2 ⟨ih1, List.pairwise_singleton _ _, fun a ha b hb => ?_⟩, fun y => by rw [List.mem_append, ih2, htk, List.mem_append]⟩
      rw [List.mem_singleton] at hb
      subst hb
      have ha2 := (ih2 a).1 ha
      obtain ⟨j, hj, e⟩ := List.mem_iff_getElem.1 ha2
      rw [List.getElem_take] at e
      rw [List.length_take] at hj
      have hjk : j < k := by omega
      unfold keeps at hkp
      have hkp := of_decide_eq_true hkp
      have hk1 : 0 < k := by omega
      have hne : zs[k] ≠ zs[k - 1]'(by omega) := by
        rcases hkp with h | h
        · omega
        · rw [hg k hlt, hg (k - 1) (by omega)] at h
          exact h
      have hS := List.pairwise_iff_getElem.1 hs
      have inj : ∀ {u v : List UInt8}, (⟨u.toArray⟩ : ByteArray) = ⟨v.toArray⟩ → u = v := fun {u v} h => by
        have := congrArg (fun s : ByteArray => s.data.toList) h
        simpa using this
      have hlast : lessB ⟨(zs[k - 1]'(by omega)).toArray⟩ ⟨zs[k].toArray⟩ = true := by
        cases hc : lessB ⟨(zs[k - 1]'(by omega)).toArray⟩ ⟨zs[k].toArray⟩ with
        | true => rfl
        | false => exact absurd (inj (lessB_total (hn _ (List.getElem_mem _)) (hn _ (List.getElem_mem _)) hc (hS (k - 1) k (by omega) hlt (by omega)))).symm hne
      by_cases hj1 : j = k - 1
      · subst hj1
        rw [← e]
        exact hlast
      · have h1 := hS j (k - 1) (by omega) (by omega) (by omega)
        rw [← e]
        cases hc : lessB ⟨(zs[j]'(by omega)).toArray⟩ ⟨(zs[k - 1]'(by omega)).toArray⟩ with
        | true => exact lessB_trans hc hlast
        | false =>
          have e2 := inj (lessB_total (hn _ (List.getElem_mem _)) (hn _ (List.getElem_mem _)) hc h1)
          rw [e2]
          exact hlast
    · have hkf : keeps zs.toArray k = false := by simpa using hkp
      rw [if_neg hkp, List.append_nil]
      refine ⟨ih1, fun y => ?_⟩
      rw [ih2, htk, List.mem_append, List.mem_singleton]
      refine ⟨.inl, ?_⟩
      rintro (h | rfl)
      · exact h
      · unfold keeps at hkf
        have hkf := of_decide_eq_false hkf
        have hk1 : k ≠ 0 := fun h => hkf (.inl h)
        have he : zs[k] = zs[k - 1]'(by omega) := by
          have := Classical.not_not.1 (fun h => hkf (.inr h))
          rw [hg k hlt, hg (k - 1) (by omega)] at this
          exact this
        rw [he]
        exact List.mem_iff_getElem.2 ⟨k - 1, by rw [List.length_take]; omega, by rw [List.getElem_take]⟩
theorem compact_sort (l bs : List ByteArray) (hn : ∀ b ∈ bs, isName b = true) (hs : bs.Pairwise fun a b => lessB b a = false) (hm : ∀ y, y ∈ bs ↔ y ∈ l ∧ isName y = true) :
    (compact (bs.map by_)).map (fun z => (⟨z.toArray⟩ : ByteArray)) = sortB l := by
  have back : ∀ b : ByteArray, (⟨(by_ b).toArray⟩ : ByteArray) = b := fun b => by_inj List.toList_toArray
  have h := compact_rise (bs.map by_) (fun z hz => by
    obtain ⟨b, hb, rfl⟩ := List.mem_map.1 hz
    rw [back]
    exact hn b hb) (by
    rw [List.pairwise_map]
    refine hs.imp fun {a b} h => ?_
    rw [back, back]
    exact h) (bs.map by_).length (Nat.le_refl _)
  refine sortB_unique ?_ fun y => ?_
  · unfold Rising compact
    rw [List.pairwise_map]
    exact h.1
  · rw [← hm]
    constructor
    · intro hy
      obtain ⟨z, hz, rfl⟩ := List.mem_map.1 hy
      have := (h.2 z).1 hz
      rw [List.take_length] at this
      obtain ⟨b, hb, rfl⟩ := List.mem_map.1 this
      rw [back]
      exact hb
    · intro hy
      refine List.mem_map.2 ⟨by_ y, (h.2 _).2 (by rw [List.take_length]; exact List.mem_map.2 ⟨y, hy, rfl⟩), back y⟩

end Go.Proofs.YtojlaphklkomfaaDoor
