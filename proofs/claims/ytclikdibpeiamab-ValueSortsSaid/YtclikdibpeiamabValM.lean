/- Values in order: the mathematics. -/
import Derived.Test.YtclikdibpeiamabValX
import Derived.Lib.SlicesCompact
set_option linter.unusedVariables false
set_option linter.unusedSimpArgs false
namespace Go.Proofs.Ytclikdibpeiamab
open Go.Lib

def mayP (a : Int × Int) : Bool := mayB a.1 a.2
theorem lessB_spec (k m k' m' : Int) : lessB k m k' m' = true ↔ (k < k' ∨ (k = k' ∧ k = 1 ∧ m < m')) := by
  unfold lessB
  by_cases h : k = k'
  · rw [if_pos h]; simp; omega
  · rw [if_neg h]; simp; omega
theorem may_spec (a : Int × Int) : mayP a = true ↔ (a.1 = 1 ∨ ((a.1 = 0 ∨ a.1 = 2) ∧ a.2 = 0)) := by
  unfold mayP mayB
  simp
theorem cK_of (k : Int) : cK k = if k = 1 then 1 else if k = 2 then 2 else 0 := rfl
theorem lessV_spec (a b : Int × Int) : lessV a b = true ↔ mayP a = true ∧ mayP b = true ∧ (a.1 < b.1 ∨ (a.1 = b.1 ∧ a.1 = 1 ∧ a.2 < b.2)) := by
  unfold lessV
  rw [Bool.and_eq_true, Bool.and_eq_true, lessB_spec, and_assoc]
  show mayP a = true ∧ mayP b = true ∧ _ ↔ _
  constructor
  · rintro ⟨ha, hb, h⟩
    refine ⟨ha, hb, ?_⟩
    rw [may_spec] at ha hb
    unfold cK cN at h
    rcases ha with ha | ⟨ha | ha, ha2⟩ <;> rcases hb with hb | ⟨hb | hb, hb2⟩ <;> simp [ha, hb] at h ⊢ <;> omega
  · rintro ⟨ha, hb, h⟩
    refine ⟨ha, hb, ?_⟩
    rw [may_spec] at ha hb
    unfold cK cN
    rcases ha with ha | ⟨ha | ha, ha2⟩ <;> rcases hb with hb | ⟨hb | hb, hb2⟩ <;> simp [ha, hb] at h ⊢ <;> omega
theorem lessV_irr (a : Int × Int) : lessV a a = false := by
  cases h : lessV a a with
  | false => rfl
  | true => obtain ⟨_, _, h⟩ := (lessV_spec a a).1 h; omega
theorem lessV_trans {a b c : Int × Int} (h1 : lessV a b = true) (h2 : lessV b c = true) : lessV a c = true := by
  obtain ⟨ha, hb, h1⟩ := (lessV_spec a b).1 h1
  obtain ⟨_, hc, h2⟩ := (lessV_spec b c).1 h2
  exact (lessV_spec a c).2 ⟨ha, hc, by omega⟩
theorem lessV_asym {a b : Int × Int} (h : lessV a b = true) : lessV b a = false := by
  cases h2 : lessV b a with
  | false => rfl
  | true =>
    have := lessV_trans h h2
    rw [lessV_irr] at this
    cases this
theorem lessV_total {a b : Int × Int} (ha : mayP a = true) (hb : mayP b = true) (h1 : lessV a b = false) (h2 : lessV b a = false) : a = b := by
  have n1 : ¬ (a.1 < b.1 ∨ (a.1 = b.1 ∧ a.1 = 1 ∧ a.2 < b.2)) := fun h => by
    rw [(lessV_spec a b).2 ⟨ha, hb, h⟩] at h1
    cases h1
  have n2 : ¬ (b.1 < a.1 ∨ (b.1 = a.1 ∧ b.1 = 1 ∧ b.2 < a.2)) := fun h => by
    rw [(lessV_spec b a).2 ⟨hb, ha, h⟩] at h2
    cases h2
  rw [may_spec] at ha hb
  have e1 : a.1 = b.1 := by omega
  have e2 : a.2 = b.2 := by omega
  exact Prod.ext e1 e2

/-- Values that rise. -/
def Rising (l : List (Int × Int)) : Prop := l.Pairwise fun a b => lessV a b = true
theorem rising_unique : ∀ l m : List (Int × Int), Rising l → Rising m → (∀ x, x ∈ l ↔ x ∈ m) → l = m
  | [], [], _, _, _ => rfl
  | [], y :: m, _, _, h => by have := (h y).2 (List.mem_cons_self ..); cases this
  | x :: l, [], _, _, h => by have := (h x).1 (List.mem_cons_self ..); cases this
  | x :: l, y :: m, hl, hm, h => by
    obtain ⟨hx, hl2⟩ := List.pairwise_cons.1 hl
    obtain ⟨hy, hm2⟩ := List.pairwise_cons.1 hm
    have exy : x = y := by
      rcases List.mem_cons.1 ((h x).1 (List.mem_cons_self ..)) with e | e
      · exact e
      · rcases List.mem_cons.1 ((h y).2 (List.mem_cons_self ..)) with e2 | e2
        · exact e2.symm
        · have h1 := hy x e
          have h2 := hx y e2
          rw [lessV_asym h1] at h2
          cases h2
    subst exy
    have : l = m := by
      refine rising_unique l m hl2 hm2 fun z => ⟨fun hz => ?_, fun hz => ?_⟩
      · rcases List.mem_cons.1 ((h z).1 (List.mem_cons_of_mem _ hz)) with e | e
        · subst e
          have := hx z hz
          rw [lessV_irr] at this
          cases this
        · exact e
      · rcases List.mem_cons.1 ((h z).2 (List.mem_cons_of_mem _ hz)) with e | e
        · subst e
          have := hy z hz
          rw [lessV_irr] at this
          cases this
        · exact e
    rw [this]

/-- One name more: where those that are ahead of it end. -/
def aheadOf (out : List (Int × Int)) (x : (Int × Int)) : Nat := (out.takeWhile fun y => lessV y x).length
def insV (out : List (Int × Int)) (x : (Int × Int)) : List (Int × Int) :=
  if mayP x = true then (if out[aheadOf out x]? = some x then out else out.take (aheadOf out x) ++ x :: out.drop (aheadOf out x)) else out
def sortV (l : List (Int × Int)) : List (Int × Int) := l.foldl insV []
theorem ahead_le (out : List (Int × Int)) (x : (Int × Int)) : aheadOf out x ≤ out.length := (List.takeWhile_sublist _).length_le
theorem ahead_split (out : List (Int × Int)) (x : (Int × Int)) : out.take (aheadOf out x) = out.takeWhile (fun y => lessV y x) ∧ out.drop (aheadOf out x) = out.dropWhile (fun y => lessV y x) := by
  have h := List.takeWhile_append_dropWhile (p := fun y => lessV y x) (l := out)
  have h1 := congrArg (List.take (out.takeWhile fun y => lessV y x).length) h
  have h2 := congrArg (List.drop (out.takeWhile fun y => lessV y x).length) h
  rw [List.take_left] at h1
  rw [List.drop_left] at h2
  exact ⟨h1.symm, h2.symm⟩
structure Vals (out : List (Int × Int)) : Prop where
  rise : Rising out
  may : ∀ x ∈ out, mayP x = true
theorem vals_nil : Vals [] := ⟨List.Pairwise.nil, fun x h => (by cases h)⟩
theorem drop_head {p : (Int × Int) → Bool} : ∀ {l : List (Int × Int)} {y : (Int × Int)} {t : List (Int × Int)}, l.dropWhile p = y :: t → p y = false
  | x :: l, y, t, h => by
    by_cases hx : p x = true
    · rw [List.dropWhile_cons_of_pos hx] at h
      exact drop_head h
    · rw [List.dropWhile_cons_of_neg hx] at h
      obtain ⟨rfl, -⟩ := List.cons.inj h
      simpa using hx
theorem vtake_all {p : (Int × Int) → Bool} : ∀ (l : List (Int × Int)), ∀ y ∈ l.takeWhile p, p y = true
  | x :: l, y, h => by
    by_cases hx : p x = true
    · rw [List.takeWhile_cons_of_pos hx] at h
      rcases List.mem_cons.1 h with rfl | h
      · exact hx
      · exact vtake_all l y h
    · rw [List.takeWhile_cons_of_neg hx] at h
      cases h
theorem ins_vals {out : List (Int × Int)} (h : Vals out) (x : (Int × Int)) : Vals (insV out x) ∧ ∀ y, y ∈ insV out x ↔ y ∈ out ∨ (y = x ∧ mayP x = true) := by
  unfold insV
  by_cases hx : mayP x = true
  · rw [if_pos hx]
    by_cases he : out[aheadOf out x]? = some x
    · rw [if_pos he]
      refine ⟨h, fun y => ⟨.inl, ?_⟩⟩
      rintro (hy | ⟨rfl, -⟩)
      · exact hy
      · exact List.mem_of_getElem? he
    · rw [if_neg he]
      obtain ⟨h1, h2⟩ := ahead_split out x
      have happ : out.take (aheadOf out x) ++ out.drop (aheadOf out x) = out := List.take_append_drop _ _
      have hall := vtake_all (p := fun y => lessV y x) out
      rw [← h1] at hall
      have hrest : ∀ y ∈ out.drop (aheadOf out x), lessV x y = true := by
        cases hd : out.drop (aheadOf out x) with
        | nil => intro y hy; cases hy
        | cons z t =>
          have hz : lessV z x = false := drop_head (p := fun y => lessV y x) (by rw [← h2]; exact hd)
          have hzm : z ∈ out := by rw [← happ, hd]; simp
          have hzx : z ≠ x := fun e => he (by
            have : (out.drop (aheadOf out x))[0]? = some z := by rw [hd]; rfl
            rw [List.getElem?_drop, Nat.add_zero] at this
            rw [this, e])
          have hxz : lessV x z = true := by
            cases hc : lessV x z with
            | true => rfl
            | false => exact absurd (lessV_total (h.may z hzm) hx hz hc) hzx
          have hr := h.rise
          rw [← happ, hd] at hr
          have hr2 := (List.pairwise_append.1 hr).2.1
          intro y hy
          rcases List.mem_cons.1 hy with rfl | hy
          · exact hxz
          · exact lessV_trans hxz ((List.pairwise_cons.1 hr2).1 y hy)
      have hr := h.rise
      unfold Rising at hr
      rw [← happ] at hr
      obtain ⟨ra, rb, rab⟩ := List.pairwise_append.1 hr
      refine ⟨⟨?_, ?_⟩, fun y => ?_⟩
      · refine List.pairwise_append.2 ⟨ra, List.pairwise_cons.2 ⟨hrest, rb⟩, fun a ha b hb => ?_⟩
        rcases List.mem_cons.1 hb with rfl | hb
        · exact hall a ha
        · exact rab a ha b hb
      · intro y hy
        rcases List.mem_append.1 hy with hy | hy
        · exact h.may y (List.mem_of_mem_take hy)
        · rcases List.mem_cons.1 hy with rfl | hy
          · exact hx
          · exact h.may y (List.mem_of_mem_drop hy)
      · constructor
        · intro hy
          rcases List.mem_append.1 hy with hy | hy
          · exact .inl (List.mem_of_mem_take hy)
          · rcases List.mem_cons.1 hy with rfl | hy
            · exact .inr ⟨rfl, hx⟩
            · exact .inl (List.mem_of_mem_drop hy)
        · rintro (hy | ⟨rfl, -⟩)
          · rw [← happ] at hy
            rcases List.mem_append.1 hy with hy | hy
            · exact List.mem_append.2 (.inl hy)
            · exact List.mem_append.2 (.inr (List.mem_cons_of_mem _ hy))
          · exact List.mem_append.2 (.inr (List.mem_cons_self ..))
  · rw [if_neg hx]
    refine ⟨h, fun y => ⟨.inl, ?_⟩⟩
    rintro (hy | ⟨-, hc⟩)
    · exact hy
    · exact absurd hc hx
theorem fold_vals : ∀ (l out : List (Int × Int)), Vals out → Vals (l.foldl insV out) ∧ ∀ y, y ∈ l.foldl insV out ↔ y ∈ out ∨ (y ∈ l ∧ mayP y = true)
  | [], out, h => ⟨h, fun y => by simp⟩
  | x :: l, out, h => by
    obtain ⟨h1, h2⟩ := ins_vals h x
    obtain ⟨h3, h4⟩ := fold_vals l (insV out x) h1
    refine ⟨h3, fun y => ?_⟩
    rw [List.foldl_cons, h4, h2]
    constructor
    · rintro ((h | ⟨rfl, h⟩) | ⟨h, h'⟩)
      · exact .inl h
      · exact .inr ⟨List.mem_cons_self .., h⟩
      · exact .inr ⟨List.mem_cons_of_mem _ h, h'⟩
    · rintro (h | ⟨h, h'⟩)
      · exact .inl (.inl h)
      · rcases List.mem_cons.1 h with rfl | h
        · exact .inl (.inr ⟨rfl, h'⟩)
        · exact .inr ⟨h, h'⟩
theorem sortV_vals (l : List (Int × Int)) : Vals (sortV l) ∧ ∀ y, y ∈ sortV l ↔ y ∈ l ∧ mayP y = true := by
  obtain ⟨h1, h2⟩ := fold_vals l [] vals_nil
  exact ⟨h1, fun y => by rw [show sortV l = l.foldl insV [] from rfl, h2]; simp⟩
/-- What has just those vals, and rises, is that list. -/
theorem sortV_unique {l m : List (Int × Int)} (hr : Rising m) (hm : ∀ y, y ∈ m ↔ y ∈ l ∧ mayP y = true) : m = sortV l :=
  rising_unique m (sortV l) hr (sortV_vals l).1.rise fun y => by rw [hm, (sortV_vals l).2]

end Go.Proofs.Ytclikdibpeiamab
