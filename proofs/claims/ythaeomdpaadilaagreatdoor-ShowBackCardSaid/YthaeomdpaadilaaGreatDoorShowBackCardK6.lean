/- Names in order: the mathematics. Tables: the mathematics. -/
import Derived.Test.YthaeomdpaadilaaGreatDoorShowBackCardK3
import Derived.Lib.SlicesCompact
import Derived.Lib.SlicesS
set_option linter.unusedVariables false
set_option linter.unusedSimpArgs false
namespace Go.Proofs.YthaeomdpaadilaaGreatDoor
open Go.Lib

theorem lessL_trans : ∀ x y z : List Nat, lessL x y = true → lessL y z = true → lessL x z = true
  | [], [], _, h, _ => by cases h
  | [], _ :: _, [], _, h => by cases h
  | [], _ :: _, _ :: _, _, _ => rfl
  | _ :: _, [], _, h, _ => by cases h
  | _ :: _, _ :: _, [], _, h => by cases h
  | r :: x, q :: y, t :: z, h1, h2 => by
    unfold lessL at h1 h2 ⊢
    by_cases e1 : r = q
    · subst e1
      rw [if_pos rfl] at h1
      by_cases e2 : r = t
      · subst e2
        rw [if_pos rfl] at h2 ⊢
        exact lessL_trans x y z h1 h2
      · rw [if_neg e2] at h2 ⊢
        exact h2
    · rw [if_neg e1] at h1
      have h1 := of_decide_eq_true h1
      by_cases e2 : q = t
      · subst e2
        rw [if_neg e1]
        exact decide_eq_true h1
      · rw [if_neg e2] at h2
        have h2 := of_decide_eq_true h2
        rw [if_neg (by omega)]
        exact decide_eq_true (by omega)

/-- Which one of two texts is ahead. -/
def lessB (a b : ByteArray) : Bool := lessL (runesL (by_ a)) (runesL (by_ b))
theorem lessB_irr (a : ByteArray) : lessB a a = false := less_irr _
theorem lessB_trans {a b c : ByteArray} (h1 : lessB a b = true) (h2 : lessB b c = true) : lessB a c = true := lessL_trans _ _ _ h1 h2
theorem lessB_asym {a b : ByteArray} (h : lessB a b = true) : lessB b a = false := by
  cases h2 : lessB b a with
  | false => rfl
  | true =>
    have := lessB_trans h h2
    rw [lessB_irr] at this
    cases this
theorem name_valid' {s : ByteArray} (h : isName s = true) : validD (by_ s) = true := by
  unfold isName at h
  simp only [Bool.and_eq_true] at h
  exact h.1.1
theorem lessB_total {a b : ByteArray} (ha : isName a = true) (hb : isName b = true) (h1 : lessB a b = false) (h2 : lessB b a = false) : a = b := by
  by_cases e : runesL (by_ a) = runesL (by_ b)
  · exact by_inj (runes_inj (name_valid' ha) (name_valid' hb) e)
  · have := less_one _ _ e
    unfold lessB at h1 h2
    rw [h1, h2] at this
    cases this

/-- Names that rise. -/
def Rising (l : List ByteArray) : Prop := l.Pairwise fun a b => lessB a b = true
theorem rising_unique : ∀ l m : List ByteArray, Rising l → Rising m → (∀ x, x ∈ l ↔ x ∈ m) → l = m
  | [], [], _, _, _ => rfl
  | [], y :: m, _, _, h => by have := (h y).2 (List.mem_cons_self ..); cases this
  | x :: l, [], _, _, h => by have := (h x).1 (List.mem_cons_self ..); cases this
  | x :: l, y :: m, hl, hm, h => by
    obtain ⟨hx, hl2⟩ := List.pairwise_cons.1 hl
    obtain ⟨hy, hm2⟩ := List.pairwise_cons.1 hm
    have exy : x = y := by
      rcases List.mem_cons.1 ((h x).1 (List.mem_cons_self ..)) with e | e
      · exact e
      · rcases List.mem_cons.1 ((h y).2 (List.mem_cons_self ..)) with e2 | e2
        · exact e2.symm
        · have h1 := hy x e
          have h2 := hx y e2
          rw [lessB_asym h1] at h2
          cases h2
    subst exy
    have : l = m := by
      refine rising_unique l m hl2 hm2 fun z => ⟨fun hz => ?_, fun hz => ?_⟩
      · rcases List.mem_cons.1 ((h z).1 (List.mem_cons_of_mem _ hz)) with e | e
        · subst e
          have := hx z hz
          rw [lessB_irr] at this
          cases this
        · exact e
      · rcases List.mem_cons.1 ((h z).2 (List.mem_cons_of_mem _ hz)) with e | e
        · subst e
          have := hy z hz
          rw [lessB_irr] at this
          cases this
        · exact e
    rw [this]

/-- One name more: where those that are ahead of it end. -/
def aheadOf (out : List ByteArray) (x : ByteArray) : Nat := (out.takeWhile fun y => lessB y x).length
def insB (out : List ByteArray) (x : ByteArray) : List ByteArray :=
  if isName x = true then (if out[aheadOf out x]? = some x then out else out.take (aheadOf out x) ++ x :: out.drop (aheadOf out x)) else out
def sortB (l : List ByteArray) : List ByteArray := l.foldl insB []
theorem ahead_le (out : List ByteArray) (x : ByteArray) : aheadOf out x ≤ out.length := (List.takeWhile_sublist _).length_le
theorem ahead_split (out : List ByteArray) (x : ByteArray) : out.take (aheadOf out x) = out.takeWhile (fun y => lessB y x) ∧ out.drop (aheadOf out x) = out.dropWhile (fun y => lessB y x) := by
  have h := List.takeWhile_append_dropWhile (p := fun y => lessB y x) (l := out)
  have h1 := congrArg (List.take (out.takeWhile fun y => lessB y x).length) h
  have h2 := congrArg (List.drop (out.takeWhile fun y => lessB y x).length) h
  rw [List.take_left] at h1
  rw [List.drop_left] at h2
  exact ⟨h1.symm, h2.symm⟩
structure Names (out : List ByteArray) : Prop where
  rise : Rising out
  name : ∀ x ∈ out, isName x = true
theorem names_nil : Names [] := ⟨List.Pairwise.nil, fun x h => (by cases h)⟩
theorem drop_head {p : ByteArray → Bool} : ∀ {l : List ByteArray} {y : ByteArray} {t : List ByteArray}, l.dropWhile p = y :: t → p y = false
  | x :: l, y, t, h => by
    by_cases hx : p x = true
    · rw [List.dropWhile_cons_of_pos hx] at h
      exact drop_head h
    · rw [List.dropWhile_cons_of_neg hx] at h
      obtain ⟨rfl, -⟩ := List.cons.inj h
      simpa using hx
theorem take_all {p : ByteArray → Bool} : ∀ (l : List ByteArray), ∀ y ∈ l.takeWhile p, p y = true
  | x :: l, y, h => by
    by_cases hx : p x = true
    · rw [List.takeWhile_cons_of_pos hx] at h
      rcases List.mem_cons.1 h with rfl | h
      · exact hx
      · exact take_all l y h
    · rw [List.takeWhile_cons_of_neg hx] at h
      cases h
theorem ins_names {out : List ByteArray} (h : Names out) (x : ByteArray) : Names (insB out x) ∧ ∀ y, y ∈ insB out x ↔ y ∈ out ∨ (y = x ∧ isName x = true) := by
  unfold insB
  by_cases hx : isName x = true
  · rw [if_pos hx]
    by_cases he : out[aheadOf out x]? = some x
    · rw [if_pos he]
      refine ⟨h, fun y => ⟨.inl, ?_⟩⟩
      rintro (hy | ⟨rfl, -⟩)
      · exact hy
      · exact List.mem_of_getElem? he
    · rw [if_neg he]
      obtain ⟨h1, h2⟩ := ahead_split out x
      have happ : out.take (aheadOf out x) ++ out.drop (aheadOf out x) = out := List.take_append_drop _ _
      have hall := take_all (p := fun y => lessB y x) out
      rw [← h1] at hall
      have hrest : ∀ y ∈ out.drop (aheadOf out x), lessB x y = true := by
        cases hd : out.drop (aheadOf out x) with
        | nil => intro y hy; cases hy
        | cons z t =>
          have hz : lessB z x = false := drop_head (p := fun y => lessB y x) (by rw [← h2]; exact hd)
          have hzm : z ∈ out := by rw [← happ, hd]; simp
          have hzx : z ≠ x := fun e => he (by
            have : (out.drop (aheadOf out x))[0]? = some z := by rw [hd]; rfl
            rw [List.getElem?_drop, Nat.add_zero] at this
            rw [this, e])
          have hxz : lessB x z = true := by
            cases hc : lessB x z with
            | true => rfl
            | false => exact absurd (lessB_total (h.name z hzm) hx hz hc) hzx
          have hr := h.rise
          rw [← happ, hd] at hr
          have hr2 := (List.pairwise_append.1 hr).2.1
          intro y hy
          rcases List.mem_cons.1 hy with rfl | hy
          · exact hxz
          · exact lessB_trans hxz ((List.pairwise_cons.1 hr2).1 y hy)
      have hr := h.rise
      unfold Rising at hr
      rw [← happ] at hr
      obtain ⟨ra, rb, rab⟩ := List.pairwise_append.1 hr
      refine ⟨⟨?_, ?_⟩, fun y => ?_⟩
      · refine List.pairwise_append.2 ⟨ra, List.pairwise_cons.2 ⟨hrest, rb⟩, fun a ha b hb => ?_⟩
        rcases List.mem_cons.1 hb with rfl | hb
        · exact hall a ha
        · exact rab a ha b hb
      · intro y hy
        rcases List.mem_append.1 hy with hy | hy
        · exact h.name y (List.mem_of_mem_take hy)
        · rcases List.mem_cons.1 hy with rfl | hy
          · exact hx
          · exact h.name y (List.mem_of_mem_drop hy)
      · constructor
        · intro hy
          rcases List.mem_append.1 hy with hy | hy
          · exact .inl (List.mem_of_mem_take hy)
          · rcases List.mem_cons.1 hy with rfl | hy
            · exact .inr ⟨rfl, hx⟩
            · exact .inl (List.mem_of_mem_drop hy)
        · rintro (hy | ⟨rfl, -⟩)
          · rw [← happ] at hy
            rcases List.mem_append.1 hy with hy | hy
            · exact List.mem_append.2 (.inl hy)
            · exact List.mem_append.2 (.inr (List.mem_cons_of_mem _ hy))
          · exact List.mem_append.2 (.inr (List.mem_cons_self ..))
  · rw [if_neg hx]
    refine ⟨h, fun y => ⟨.inl, ?_⟩⟩
    rintro (hy | ⟨-, hc⟩)
    · exact hy
    · exact absurd hc hx
theorem fold_names : ∀ (l out : List ByteArray), Names out → Names (l.foldl insB out) ∧ ∀ y, y ∈ l.foldl insB out ↔ y ∈ out ∨ (y ∈ l ∧ isName y = true)
  | [], out, h => ⟨h, fun y => by simp⟩
  | x :: l, out, h => by
    obtain ⟨h1, h2⟩ := ins_names h x
    obtain ⟨h3, h4⟩ := fold_names l (insB out x) h1
    refine ⟨h3, fun y => ?_⟩
    rw [List.foldl_cons, h4, h2]
    constructor
    · rintro ((h | ⟨rfl, h⟩) | ⟨h, h'⟩)
      · exact .inl h
      · exact .inr ⟨List.mem_cons_self .., h⟩
      · exact .inr ⟨List.mem_cons_of_mem _ h, h'⟩
    · rintro (h | ⟨h, h'⟩)
      · exact .inl (.inl h)
      · rcases List.mem_cons.1 h with rfl | h
        · exact .inl (.inr ⟨rfl, h'⟩)
        · exact .inr ⟨h, h'⟩
theorem sortB_names (l : List ByteArray) : Names (sortB l) ∧ ∀ y, y ∈ sortB l ↔ y ∈ l ∧ isName y = true := by
  obtain ⟨h1, h2⟩ := fold_names l [] names_nil
  exact ⟨h1, fun y => by rw [show sortB l = l.foldl insB [] from rfl, h2]; simp⟩
/-- What has just those names, and rises, is that list. -/
theorem sortB_unique {l m : List ByteArray} (hr : Rising m) (hm : ∀ y, y ∈ m ↔ y ∈ l ∧ isName y = true) : m = sortB l :=
  rising_unique m (sortB l) hr (sortB_names l).1.rise fun y => by rw [hm, (sortB_names l).2]

end Go.Proofs.YthaeomdpaadilaaGreatDoor

set_option linter.unusedVariables false
set_option linter.unusedSimpArgs false
namespace Go.Proofs.YthaeomdpaadilaaGreatDoor
open Go.Lib

def riseB : List ByteArray → Bool
  | [] => true
  | [_] => true
  | a :: b :: l => lessB a b && riseB (b :: l)
def tabB (t : List ByteArray) : Bool := t.all isName && riseB t
theorem riseB_iff : ∀ t : List ByteArray, riseB t = true ↔ ∀ (j : Nat) x y, t[j]? = some x → t[j + 1]? = some y → lessB x y = true
  | [] => ⟨fun _ j x y h => (by cases h), fun _ => rfl⟩
  | [a] => ⟨fun _ j x y _ h => (by simp at h), fun _ => rfl⟩
  | a :: b :: l => by
    rw [riseB, Bool.and_eq_true, riseB_iff (b :: l)]
    constructor
    · rintro ⟨h1, h2⟩ j x y hx hy
      cases j with
      | zero =>
        obtain rfl := Option.some.inj hx
        obtain rfl := Option.some.inj hy
        exact h1
      | succ j => exact h2 j x y hx hy
    · intro h
      exact ⟨h 0 a b rfl rfl, fun j x y hx hy => h (j + 1) x y hx hy⟩
theorem tab_iff (t : List ByteArray) : tabB t = true ↔ (∀ (j : Nat) x, t[j]? = some x → isName x = true) ∧ ∀ (j : Nat) x y, t[j]? = some x → t[j + 1]? = some y → lessB x y = true := by
  unfold tabB
  rw [Bool.and_eq_true, riseB_iff, List.all_eq_true]
  refine ⟨fun ⟨h1, h2⟩ => ⟨fun j x hx => h1 x (List.mem_of_getElem? hx), h2⟩, fun ⟨h1, h2⟩ => ⟨fun x hx => ?_, h2⟩⟩
  obtain ⟨j, hj⟩ := List.mem_iff_getElem?.1 hx
  exact h1 j x hj
theorem tab_bad1 {t : List ByteArray} {j : Nat} {x : ByteArray} (h : t[j]? = some x) (hn : isName x = false) : tabB t = false := by
  cases ht : tabB t with
  | false => rfl
  | true =>
    have := ((tab_iff t).1 ht).1 j x h
    rw [hn] at this
    cases this
theorem tab_bad2 {t : List ByteArray} {j : Nat} {x y : ByteArray} (h : t[j]? = some x) (h' : t[j + 1]? = some y) (hn : lessB x y = false) : tabB t = false := by
  cases ht : tabB t with
  | false => rfl
  | true =>
    have := ((tab_iff t).1 ht).2 j x y h h'
    rw [hn] at this
    cases this
theorem rising_of : ∀ t : List ByteArray, riseB t = true → Rising t
  | [], _ => List.Pairwise.nil
  | [a], _ => List.pairwise_singleton _ _
  | a :: b :: l, h => by
    rw [riseB, Bool.and_eq_true] at h
    have ih := rising_of (b :: l) h.2
    refine List.pairwise_cons.2 ⟨fun y hy => ?_, ih⟩
    rcases List.mem_cons.1 hy with rfl | hy
    · exact h.1
    · exact lessB_trans h.1 ((List.pairwise_cons.1 ih).1 y hy)
theorem of_rising : ∀ t : List ByteArray, Rising t → riseB t = true
  | [], _ => rfl
  | [a], _ => rfl
  | a :: b :: l, h => by
    obtain ⟨h1, h2⟩ := List.pairwise_cons.1 h
    rw [riseB, h1 b (List.mem_cons_self ..), of_rising (b :: l) h2]
    rfl
theorem tab_sort (l : List ByteArray) : tabB (sortB l) = true := by
  have h := (sortB_names l).1
  unfold tabB
  rw [of_rising _ h.rise, Bool.and_true, List.all_eq_true]
  exact h.name

/-- Where a name stands in a table. -/
def posB (t : List ByteArray) (s : ByteArray) : Int := if tabB t = true then idxOfS t s else -1
theorem idx_ge (t : List ByteArray) (s : ByteArray) : -1 ≤ idxOfS t s ∧ idxOfS t s < t.length := by
  by_cases h : s ∈ t
  · obtain ⟨k, hk, hmin⟩ : ∃ k : Nat, t[k]? = some s ∧ ∀ j, j < k → t[j]? ≠ some s := by
      obtain ⟨k, hk⟩ := List.mem_iff_getElem?.1 h
      refine Nat.strongRecOn (motive := fun k : Nat => t[k]? = some s → ∃ k : Nat, t[k]? = some s ∧ ∀ j, j < k → t[j]? ≠ some s) k (fun k ih hk => ?_) hk
      by_cases hj : ∃ j, j < k ∧ t[j]? = some s
      · obtain ⟨j, hj1, hj2⟩ := hj
        exact ih j hj1 hj2
      · exact ⟨k, hk, fun j hj1 hj2 => hj ⟨j, hj1, hj2⟩⟩
    have hl := (List.getElem?_eq_some_iff.1 hk).1
    have := idxOfS_hit t t.length k s hl (Nat.le_refl _) (by rw [List.getD_eq_getElem?_getD, hk]; rfl) (fun j hj e => hmin j hj (by
      rw [List.getD_eq_getElem?_getD, List.getElem?_eq_getElem (by omega)] at e
      rw [List.getElem?_eq_getElem (by omega)]
      exact congrArg some e))
    rw [List.take_length] at this
    rw [this]
    omega
  · have := idxOfS_miss t t.length s (fun j hj e => h (by
      rw [List.getD_eq_getElem?_getD, List.getElem?_eq_getElem hj] at e
      have e2 : t[j] = s := e
      rw [← e2]
      exact List.getElem_mem hj))
    rw [List.take_length] at this
    rw [this]
    omega
/-- The first place where a text stands. -/
theorem idx_first {t : List ByteArray} {s : ByteArray} {k : Nat} (hk : t[k]? = some s) (hmin : ∀ j, j < k → ∀ y, t[j]? = some y → y ≠ s) : idxOfS t s = k := by
  have hl := (List.getElem?_eq_some_iff.1 hk).1
  have := idxOfS_hit t t.length k s hl (Nat.le_refl _) (by rw [List.getD_eq_getElem?_getD, hk]; rfl) (fun j hj e => hmin j hj _ (List.getElem?_eq_getElem (by omega)) (by
    rw [List.getD_eq_getElem?_getD, List.getElem?_eq_getElem (by omega)] at e
    exact e))
  rwa [List.take_length] at this
theorem idx_none {t : List ByteArray} {s : ByteArray} (h : ∀ (j : Nat) y, t[j]? = some y → y ≠ s) : idxOfS t s = -1 := by
  have := idxOfS_miss t t.length s (fun j hj e => h j _ (List.getElem?_eq_getElem hj) (by
    rw [List.getD_eq_getElem?_getD, List.getElem?_eq_getElem hj] at e
    exact e))
  rwa [List.take_length] at this
theorem idx_at {t : List ByteArray} {s : ByteArray} (h : 0 ≤ idxOfS t s) : t[(idxOfS t s).toNat]? = some s := by
  have hm := (idxOfS_nonneg_iff t s).1 h
  obtain ⟨k, hk, hmin⟩ : ∃ k : Nat, t[k]? = some s ∧ ∀ j, j < k → t[j]? ≠ some s := by
    obtain ⟨k, hk⟩ := List.mem_iff_getElem?.1 hm
    refine Nat.strongRecOn (motive := fun k : Nat => t[k]? = some s → ∃ k : Nat, t[k]? = some s ∧ ∀ j, j < k → t[j]? ≠ some s) k (fun k ih hk => ?_) hk
    by_cases hj : ∃ j, j < k ∧ t[j]? = some s
    · obtain ⟨j, hj1, hj2⟩ := hj
      exact ih j hj1 hj2
    · exact ⟨k, hk, fun j hj1 hj2 => hj ⟨j, hj1, hj2⟩⟩
  have := idx_first hk (fun j hj y hy e => hmin j hj (by rw [hy, e]))
  rw [this]
  exact hk

end Go.Proofs.YthaeomdpaadilaaGreatDoor
