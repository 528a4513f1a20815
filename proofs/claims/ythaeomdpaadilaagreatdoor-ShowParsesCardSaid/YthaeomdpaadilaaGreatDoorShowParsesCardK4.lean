/- Names in order: the mathematics. Tables: the mathematics. Events: kinds and their words, the mathematics. -/
import Derived.Test.YthaeomdpaadilaaGreatDoorShowParsesCardK3
import Derived.Lib.SlicesCompact
import Derived.Lib.SlicesS
import Derived.Test.YthaeomdpaadilaaGreatDoorShowParsesCardK1
import Derived.Deep.MidRow
set_option linter.unusedVariables false
set_option linter.unusedSimpArgs false
namespace Go.Proofs.YthaeomdpaadilaaGreatDoor
open Go.Lib
theorem lessL_trans : ∀ x y z : List Nat, lessL x y = true → lessL y z = true → lessL x z = true
 | [], [], _, h, _ => by cases h
 | [], _ :: _, [], _, h => by cases h
 | [], _ :: _, _ :: _, _, _ => rfl
 | _ :: _, [], _, h, _ => by cases h
 | _ :: _, _ :: _, [], _, h => by cases h
 | r :: x, q :: y, t :: z, h1, h2 => by
  unfold lessL at h1 h2 ⊢
  by_cases e1 : r = q
  ·subst e1
   rw [if_pos rfl] at h1
   by_cases e2 : r = t
   ·subst e2
    rw [if_pos rfl] at h2 ⊢
    exact lessL_trans x y z h1 h2
   ·rw [if_neg e2] at h2 ⊢
    exact h2
  ·rw [if_neg e1] at h1
   have h1 := of_decide_eq_true h1
   by_cases e2 : q = t
   ·subst e2
    rw [if_neg e1]
    exact decide_eq_true h1
   ·rw [if_neg e2] at h2
    have h2 := of_decide_eq_true h2
    rw [if_neg (by omega)]
    exact decide_eq_true (by omega)
/-- Which one of two texts is ahead. -/
def lessB (a b : ByteArray) : Bool := lessL (runesL (by_ a)) (runesL (by_ b))
theorem lessB_irr (a : ByteArray) : lessB a a = false := less_irr _
theorem lessB_trans {a b c : ByteArray} (h1 : lessB a b = true) (h2 : lessB b c = true) : lessB a c = true := lessL_trans _ _ _ h1 h2
theorem lessB_asym {a b : ByteArray} (h : lessB a b = true) : lessB b a = false := by
 cases h2 : lessB b a with
 | false => rfl
 | true =>
  have := lessB_trans h h2
  rw [lessB_irr] at this
  cases this
theorem name_valid' {s : ByteArray} (h : isName s = true) : validD (by_ s) = true := by
 unfold isName at h
 simp only [Bool.and_eq_true] at h
 exact h.1.1
theorem lessB_total {a b : ByteArray} (ha : isName a = true) (hb : isName b = true) (h1 : lessB a b = false) (h2 : lessB b a = false) : a = b := by
 by_cases e : runesL (by_ a) = runesL (by_ b)
 ·exact by_inj (runes_inj (name_valid' ha) (name_valid' hb) e)
 ·have := less_one _ _ e
  unfold lessB at h1 h2
  rw [h1, h2] at this
  cases this
/-- Names that rise. -/
def Rising (l : List ByteArray) : Prop := l.Pairwise fun a b => lessB a b = true
theorem rising_unique : ∀ l m : List ByteArray, Rising l → Rising m → (∀ x, x ∈ l ↔ x ∈ m) → l = m
 | [], [], _, _, _ => rfl
 | [], y :: m, _, _, h => by have := (h y).2 (List.mem_cons_self ..); cases this
 | x :: l, [], _, _, h => by have := (h x).1 (List.mem_cons_self ..); cases this
 | x :: l, y :: m, hl, hm, h => by
  obtain ⟨hx, hl2⟩ := List.pairwise_cons.1 hl
  obtain ⟨hy, hm2⟩ := List.pairwise_cons.1 hm
  have exy : x = y := by
   rcases List.mem_cons.1 ((h x).1 (List.mem_cons_self ..)) with e | e
   ·exact e
   ·rcases List.mem_cons.1 ((h y).2 (List.mem_cons_self ..)) with e2 | e2
    ·exact e2.symm
    ·have h1 := hy x e
     have h2 := hx y e2
     rw [lessB_asym h1] at h2
     cases h2
  subst exy
  have : l = m := by
   refine rising_unique l m hl2 hm2 fun z => ⟨fun hz => ?_, fun hz => ?_⟩
   ·rcases List.mem_cons.1 ((h z).1 (List.mem_cons_of_mem _ hz)) with e | e
    ·subst e
     have := hx z hz
     rw [lessB_irr] at this
     cases this
    ·exact e
   ·rcases List.mem_cons.1 ((h z).2 (List.mem_cons_of_mem _ hz)) with e | e
    ·subst e
     have := hy z hz
     rw [lessB_irr] at this
     cases this
    ·exact e
  rw [this]
/-- One name more: where those that are ahead of it end. -/
def aheadOf (out : List ByteArray) (x : ByteArray) : Nat := (out.takeWhile fun y => lessB y x).length
def insB (out : List ByteArray) (x : ByteArray) : List ByteArray :=
 if isName x = true then (if out[aheadOf out x]? = some x then out else out.take (aheadOf out x) ++ x :: out.drop (aheadOf out x)) else out
def sortB (l : List ByteArray) : List ByteArray := l.foldl insB []
theorem ahead_le (out : List ByteArray) (x : ByteArray) : aheadOf out x ≤ out.length := (List.takeWhile_sublist _).length_le
theorem ahead_split (out : List ByteArray) (x : ByteArray) : out.take (aheadOf out x) = out.takeWhile (fun y => lessB y x) ∧ out.drop (aheadOf out x) = out.dropWhile (fun y => lessB y x) := by
 have h := List.takeWhile_append_dropWhile (p := fun y => lessB y x) (l := out)
 have h1 := congrArg (List.take (out.takeWhile fun y => lessB y x).length) h
 have h2 := congrArg (List.drop (out.takeWhile fun y => lessB y x).length) h
 rw [List.take_left] at h1
 rw [List.drop_left] at h2
 exact ⟨h1.symm, h2.symm⟩
structure Names (out : List ByteArray) : Prop where
 rise : Rising out
 name : ∀ x ∈ out, isName x = true
theorem names_nil : Names [] := ⟨List.Pairwise.nil, fun x h => (by cases h)⟩
theorem drop_head {p : ByteArray → Bool} : ∀ {l : List ByteArray} {y : ByteArray} {t : List ByteArray}, l.dropWhile p = y :: t → p y = false
 | x :: l, y, t, h => by
  by_cases hx : p x = true
  ·rw [List.dropWhile_cons_of_pos hx] at h
   exact drop_head h
  ·rw [List.dropWhile_cons_of_neg hx] at h
   obtain ⟨rfl, -⟩ := List.cons.inj h
   simpa using hx
theorem take_all {p : ByteArray → Bool} : ∀ (l : List ByteArray), ∀ y ∈ l.takeWhile p, p y = true
 | x :: l, y, h => by
  by_cases hx : p x = true
  ·rw [List.takeWhile_cons_of_pos hx] at h
   rcases List.mem_cons.1 h with rfl | h
   ·exact hx
   ·exact take_all l y h
  ·rw [List.takeWhile_cons_of_neg hx] at h
   cases h
theorem ins_names {out : List ByteArray} (h : Names out) (x : ByteArray) : Names (insB out x) ∧ ∀ y, y ∈ insB out x ↔ y ∈ out ∨ (y = x ∧ isName x = true) := by
 unfold insB
 by_cases hx : isName x = true
 ·rw [if_pos hx]
  by_cases he : out[aheadOf out x]? = some x
  ·rw [if_pos he]
   refine ⟨h, fun y => ⟨.inl, ?_⟩⟩
   rintro (hy | ⟨rfl, -⟩)
   ·exact hy
   ·exact List.mem_of_getElem? he
  ·rw [if_neg he]
   obtain ⟨h1, h2⟩ := ahead_split out x
   have happ : out.take (aheadOf out x) ++ out.drop (aheadOf out x) = out := List.take_append_drop _ _
   have hall := take_all (p := fun y => lessB y x) out
   rw [← h1] at hall
   have hrest : ∀ y ∈ out.drop (aheadOf out x), lessB x y = true := by
    cases hd : out.drop (aheadOf out x) with
    | nil => intro y hy; cases hy
    | cons z t =>
     have hz : lessB z x = false := drop_head (p := fun y => lessB y x) (by rw [← h2]; exact hd)
     have hzm : z ∈ out := by rw [← happ, hd]; simp
     have hzx : z ≠ x := fun e => he (by
      have : (out.drop (aheadOf out x))[0]? = some z := by rw [hd]; rfl
      rw [List.getElem?_drop, Nat.add_zero] at this
      rw [this, e])
     have hxz : lessB x z = true := by
      cases hc : lessB x z with
      | true => rfl
      | false => exact absurd (lessB_total (h.name z hzm) hx hz hc) hzx
     have hr := h.rise
     rw [← happ, hd] at hr
     have hr2 := (List.pairwise_append.1 hr).2.1
     intro y hy
     rcases List.mem_cons.1 hy with rfl | hy
     ·exact hxz
     ·exact lessB_trans hxz ((List.pairwise_cons.1 hr2).1 y hy)
   have hr := h.rise
   unfold Rising at hr
   rw [← happ] at hr
   obtain ⟨ra, rb, rab⟩ := List.pairwise_append.1 hr
   refine ⟨⟨?_, ?_⟩, fun y => ?_⟩
   ·refine List.pairwise_append.2 ⟨ra, List.pairwise_cons.2 ⟨hrest, rb⟩, fun a ha b hb => ?_⟩
    rcases List.mem_cons.1 hb with rfl | hb
    ·exact hall a ha
    ·exact rab a ha b hb
   ·intro y hy
    rcases List.mem_append.1 hy with hy | hy
    ·exact h.name y (List.mem_of_mem_take hy)
    ·rcases List.mem_cons.1 hy with rfl | hy
     ·exact hx
     ·exact h.name y (List.mem_of_mem_drop hy)
   ·constructor
    ·intro hy
     rcases List.mem_append.1 hy with hy | hy
     ·exact .inl (List.mem_of_mem_take hy)
     ·rcases List.mem_cons.1 hy with rfl | hy
      ·exact .inr ⟨rfl, hx⟩
      ·exact .inl (List.mem_of_mem_drop hy)
    ·rintro (hy | ⟨rfl, -⟩)
     ·rw [← happ] at hy
      rcases List.mem_append.1 hy with hy | hy
      ·exact List.mem_append.2 (.inl hy)
      ·exact List.mem_append.2 (.inr (List.mem_cons_of_mem _ hy))
     ·exact List.mem_append.2 (.inr (List.mem_cons_self ..))
 ·rw [if_neg hx]
  refine ⟨h, fun y => ⟨.inl, ?_⟩⟩
  rintro (hy | ⟨-, hc⟩)
  ·exact hy
  ·exact absurd hc hx
theorem fold_names : ∀ (l out : List ByteArray), Names out → Names (l.foldl insB out) ∧ ∀ y, y ∈ l.foldl insB out ↔ y ∈ out ∨ (y ∈ l ∧ isName y = true)
 | [], out, h => ⟨h, fun y => by simp⟩
 | x :: l, out, h => by
  obtain ⟨h1, h2⟩ := ins_names h x
  obtain ⟨h3, h4⟩ := fold_names l (insB out x) h1
  refine ⟨h3, fun y => ?_⟩
  rw [List.foldl_cons, h4, h2]
  constructor
  ·rintro ((h | ⟨rfl, h⟩) | ⟨h, h'⟩)
   ·exact .inl h
   ·exact .inr ⟨List.mem_cons_self .., h⟩
   ·exact .inr ⟨List.mem_cons_of_mem _ h, h'⟩
  ·rintro (h | ⟨h, h'⟩)
   ·exact .inl (.inl h)
   ·rcases List.mem_cons.1 h with rfl | h
    ·exact .inl (.inr ⟨rfl, h'⟩)
    ·exact .inr ⟨h, h'⟩
theorem sortB_names (l : List ByteArray) : Names (sortB l) ∧ ∀ y, y ∈ sortB l ↔ y ∈ l ∧ isName y = true := by
 obtain ⟨h1, h2⟩ := fold_names l [] names_nil
 exact ⟨h1, fun y => by rw [show sortB l = l.foldl insB [] from rfl, h2]; simp⟩
/-- What has just those names, and rises, is that list. -/
theorem sortB_unique {l m : List ByteArray} (hr : Rising m) (hm : ∀ y, y ∈ m ↔ y ∈ l ∧ isName y = true) : m = sortB l :=
 rising_unique m (sortB l) hr (sortB_names l).1.rise fun y => by rw [hm, (sortB_names l).2]
end Go.Proofs.YthaeomdpaadilaaGreatDoor

set_option linter.unusedVariables false
set_option linter.unusedSimpArgs false
namespace Go.Proofs.YthaeomdpaadilaaGreatDoor
open Go.Lib
def riseB : List ByteArray → Bool
 | [] => true
 | [_] => true
 | a :: b :: l => lessB a b && riseB (b :: l)
def tabB (t : List ByteArray) : Bool := t.all isName && riseB t
theorem riseB_iff : ∀ t : List ByteArray, riseB t = true ↔ ∀ (j : Nat) x y, t[j]? = some x → t[j + 1]? = some y → lessB x y = true
 | [] => ⟨fun _ j x y h => (by cases h), fun _ => rfl⟩
 | [a] => ⟨fun _ j x y _ h => (by simp at h), fun _ => rfl⟩
 | a :: b :: l => by
  rw [riseB, Bool.and_eq_true, riseB_iff (b :: l)]
  constructor
  ·rintro ⟨h1, h2⟩ j x y hx hy
   cases j with
   | zero =>
    obtain rfl := Option.some.inj hx
    obtain rfl := Option.some.inj hy
    exact h1
   | succ j => exact h2 j x y hx hy
  ·intro h
   exact ⟨h 0 a b rfl rfl, fun j x y hx hy => h (j + 1) x y hx hy⟩
theorem tab_iff (t : List ByteArray) : tabB t = true ↔ (∀ (j : Nat) x, t[j]? = some x → isName x = true) ∧ ∀ (j : Nat) x y, t[j]? = some x → t[j + 1]? = some y → lessB x y = true := by
 unfold tabB
 rw [Bool.and_eq_true, riseB_iff, List.all_eq_true]
 refine ⟨fun ⟨h1, h2⟩ => ⟨fun j x hx => h1 x (List.mem_of_getElem? hx), h2⟩, fun ⟨h1, h2⟩ => ⟨fun x hx => ?_, h2⟩⟩
 obtain ⟨j, hj⟩ := List.mem_iff_getElem?.1 hx
 exact h1 j x hj
theorem tab_bad1 {t : List ByteArray} {j : Nat} {x : ByteArray} (h : t[j]? = some x) (hn : isName x = false) : tabB t = false := by
 cases ht : tabB t with
 | false => rfl
 | true =>
  have := ((tab_iff t).1 ht).1 j x h
  rw [hn] at this
  cases this
theorem tab_bad2 {t : List ByteArray} {j : Nat} {x y : ByteArray} (h : t[j]? = some x) (h' : t[j + 1]? = some y) (hn : lessB x y = false) : tabB t = false := by
 cases ht : tabB t with
 | false => rfl
 | true =>
  have := ((tab_iff t).1 ht).2 j x y h h'
  rw [hn] at this
  cases this
theorem of_rising : ∀ t : List ByteArray, Rising t → riseB t = true
 | [], _ => rfl
 | [a], _ => rfl
 | a :: b :: l, h => by
  obtain ⟨h1, h2⟩ := List.pairwise_cons.1 h
  rw [riseB, h1 b (List.mem_cons_self ..), of_rising (b :: l) h2]
  rfl
theorem tab_sort (l : List ByteArray) : tabB (sortB l) = true := by
 have h := (sortB_names l).1
 unfold tabB
 rw [of_rising _ h.rise, Bool.and_true, List.all_eq_true]
 exact h.name
/-- Where a name stands in a table. -/
def posB (t : List ByteArray) (s : ByteArray) : Int := if tabB t = true then idxOfS t s else -1
theorem idx_ge (t : List ByteArray) (s : ByteArray) : -1 ≤ idxOfS t s ∧ idxOfS t s < t.length := by
 by_cases h : s ∈ t
 ·obtain ⟨k, hk, hmin⟩ : ∃ k : Nat, t[k]? = some s ∧ ∀ j, j < k → t[j]? ≠ some s := by
   obtain ⟨k, hk⟩ := List.mem_iff_getElem?.1 h
   refine Nat.strongRecOn (motive := fun k : Nat => t[k]? = some s → ∃ k : Nat, t[k]? = some s ∧ ∀ j, j < k → t[j]? ≠ some s) k (fun k ih hk => ?_) hk
   by_cases hj : ∃ j, j < k ∧ t[j]? = some s
   ·obtain ⟨j, hj1, hj2⟩ := hj
    exact ih j hj1 hj2
   ·exact ⟨k, hk, fun j hj1 hj2 => hj ⟨j, hj1, hj2⟩⟩
  have hl := (List.getElem?_eq_some_iff.1 hk).1
  have := idxOfS_hit t t.length k s hl (Nat.le_refl _) (by rw [List.getD_eq_getElem?_getD, hk]; rfl) (fun j hj e => hmin j hj (by
   rw [List.getD_eq_getElem?_getD, List.getElem?_eq_getElem (by omega)] at e
   rw [List.getElem?_eq_getElem (by omega)]
   exact congrArg some e))
  rw [List.take_length] at this
  rw [this]
  omega
 ·have := idxOfS_miss t t.length s (fun j hj e => h (by
   rw [List.getD_eq_getElem?_getD, List.getElem?_eq_getElem hj] at e
   have e2 : t[j] = s := e
   rw [← e2]
   exact List.getElem_mem hj))
  rw [List.take_length] at this
  rw [this]
  omega
/-- The first place where a text stands. -/
theorem idx_first {t : List ByteArray} {s : ByteArray} {k : Nat} (hk : t[k]? = some s) (hmin : ∀ j, j < k → ∀ y, t[j]? = some y → y ≠ s) : idxOfS t s = k := by
 have hl := (List.getElem?_eq_some_iff.1 hk).1
 have := idxOfS_hit t t.length k s hl (Nat.le_refl _) (by rw [List.getD_eq_getElem?_getD, hk]; rfl) (fun j hj e => hmin j hj _ (List.getElem?_eq_getElem (by omega)) (by
  rw [List.getD_eq_getElem?_getD, List.getElem?_eq_getElem (by omega)] at e
  exact e))
 rwa [List.take_length] at this
theorem idx_none {t : List ByteArray} {s : ByteArray} (h : ∀ (j : Nat) y, t[j]? = some y → y ≠ s) : idxOfS t s = -1 := by
 have := idxOfS_miss t t.length s (fun j hj e => h j _ (List.getElem?_eq_getElem hj) (by
  rw [List.getD_eq_getElem?_getD, List.getElem?_eq_getElem hj] at e
  exact e))
 rwa [List.take_length] at this
end Go.Proofs.YthaeomdpaadilaaGreatDoor

set_option linter.unusedVariables false
set_option linter.unusedSimpArgs false
namespace Go.Proofs.YthaeomdpaadilaaGreatDoor
open Go.Lib
/-- A kind that there is, or 0; its word; whether it has a key and a value. -/
def kOk (k : Int) : Bool := decide (1 ≤ k ∧ k ≤ 6)
def kN (k : Int) : Int := if 1 ≤ k ∧ k ≤ 6 then k else 0
def kW (k : Int) : ByteArray := if k = 1 then ⟨#[98, 101, 103, 105, 110]⟩ else if k = 2 then ⟨#[114, 101, 97, 100]⟩ else if k = 3 then ⟨#[119, 114, 105, 116, 101]⟩ else if k = 4 then ⟨#[111, 107]⟩ else if k = 5 then ⟨#[102, 97, 105, 108]⟩ else if k = 6 then ⟨#[105, 110, 102, 111]⟩ else ⟨#[]⟩
def kO (k : Int) : Bool := decide (k = 2 ∨ k = 3)
/-- The kind of a word, or 0. -/
def wK (s : ByteArray) : Int := if s = ⟨#[98, 101, 103, 105, 110]⟩ then 1 else if s = ⟨#[114, 101, 97, 100]⟩ then 2 else if s = ⟨#[119, 114, 105, 116, 101]⟩ then 3 else if s = ⟨#[111, 107]⟩ then 4 else if s = ⟨#[102, 97, 105, 108]⟩ then 5 else if s = ⟨#[105, 110, 102, 111]⟩ then 6 else 0
theorem kN_cases (k : Int) : (k = 1) ∨ (k = 2) ∨ (k = 3) ∨ (k = 4) ∨ (k = 5) ∨ (k = 6) ∨ (kN k = 0 ∧ kOk k = false ∧ kO k = false ∧ kW k = ⟨#[]⟩ ∧ k ≠ 1 ∧ k ≠ 2 ∧ k ≠ 3 ∧ k ≠ 4 ∧ k ≠ 5 ∧ k ≠ 6) := by
 by_cases h : 1 ≤ k ∧ k ≤ 6
 ·omega
 ·have h1 : k ≠ 1 := by omega
  have h2 : k ≠ 2 := by omega
  have h3 : k ≠ 3 := by omega
  have h4 : k ≠ 4 := by omega
  have h5 : k ≠ 5 := by omega
  have h6 : k ≠ 6 := by omega
  iterate 6 right
  refine ⟨if_neg h, decide_eq_false h, decide_eq_false (by omega), ?_, h1, h2, h3, h4, h5, h6⟩
  unfold kW
  rw [if_neg h1, if_neg h2, if_neg h3, if_neg h4, if_neg h5, if_neg h6]
theorem wK_cases (s : ByteArray) : (s = ⟨#[98, 101, 103, 105, 110]⟩ ∧ wK s = 1) ∨ (s = ⟨#[114, 101, 97, 100]⟩ ∧ wK s = 2) ∨ (s = ⟨#[119, 114, 105, 116, 101]⟩ ∧ wK s = 3) ∨ (s = ⟨#[111, 107]⟩ ∧ wK s = 4) ∨ (s = ⟨#[102, 97, 105, 108]⟩ ∧ wK s = 5) ∨ (s = ⟨#[105, 110, 102, 111]⟩ ∧ wK s = 6) ∨ (wK s = 0 ∧ s ≠ ⟨#[98, 101, 103, 105, 110]⟩ ∧ s ≠ ⟨#[114, 101, 97, 100]⟩ ∧ s ≠ ⟨#[119, 114, 105, 116, 101]⟩ ∧ s ≠ ⟨#[111, 107]⟩ ∧ s ≠ ⟨#[102, 97, 105, 108]⟩ ∧ s ≠ ⟨#[105, 110, 102, 111]⟩) := by
 unfold wK
 by_cases h1 : s = ⟨#[98, 101, 103, 105, 110]⟩
 ·subst h1; left; exact ⟨rfl, by decide⟩
 by_cases h2 : s = ⟨#[114, 101, 97, 100]⟩
 ·subst h2; right; left; exact ⟨rfl, by decide⟩
 by_cases h3 : s = ⟨#[119, 114, 105, 116, 101]⟩
 ·subst h3; right; right; left; exact ⟨rfl, by decide⟩
 by_cases h4 : s = ⟨#[111, 107]⟩
 ·subst h4; right; right; right; left; exact ⟨rfl, by decide⟩
 by_cases h5 : s = ⟨#[102, 97, 105, 108]⟩
 ·subst h5; right; right; right; right; left; exact ⟨rfl, by decide⟩
 by_cases h6 : s = ⟨#[105, 110, 102, 111]⟩
 ·subst h6; right; right; right; right; right; left; exact ⟨rfl, by decide⟩
 iterate 6 right
 exact ⟨by rw [if_neg h1, if_neg h2, if_neg h3, if_neg h4, if_neg h5, if_neg h6], h1, h2, h3, h4, h5, h6⟩
theorem ev_ne {s : ByteArray} {l : List UInt8} (h : s ≠ ⟨l.toArray⟩) : (s.toList == l) = false ∧ (l == s.toList) = false := by
 constructor
 all_goals
  rw [beq_eq_false_iff_ne, Lib.toList_data]
  intro e
 ·exact h (by_inj (e.trans List.toList_toArray.symm))
 ·exact h (by_inj (e.symm.trans List.toList_toArray.symm))
/-- The cells of the table of words. -/
def verbC : List Value := [.int .i64 1, .string ⟨#[98, 101, 103, 105, 110]⟩, .bool false, .int .i64 2, .string ⟨#[114, 101, 97, 100]⟩, .bool true, .int .i64 3, .string ⟨#[119, 114, 105, 116, 101]⟩, .bool true, .int .i64 4, .string ⟨#[111, 107]⟩, .bool false, .int .i64 5, .string ⟨#[102, 97, 105, 108]⟩, .bool false, .int .i64 6, .string ⟨#[105, 110, 102, 111]⟩, .bool false]
def verbV : Value := .agg #[.int .i64 1, .string ⟨#[98, 101, 103, 105, 110]⟩, .bool false, .int .i64 2, .string ⟨#[114, 101, 97, 100]⟩, .bool true, .int .i64 3, .string ⟨#[119, 114, 105, 116, 101]⟩, .bool true, .int .i64 4, .string ⟨#[111, 107]⟩, .bool false, .int .i64 5, .string ⟨#[102, 97, 105, 108]⟩, .bool false, .int .i64 6, .string ⟨#[105, 110, 102, 111]⟩, .bool false]
def Verbs (w : World) : Prop := 0 < w.heap.size ∧ ∀ (i : Nat) (u : Value), verbC[i]? = some u → w.cell? ⟨0, i, none⟩ = some u
theorem Verbs.only {w w' : World} (h : Verbs w) (ho : Only [] w w') : Verbs w' :=
 ⟨Nat.lt_of_lt_of_le h.1 ho.size, fun i u hu => (ho.cell (p := ⟨0, i, none⟩) h.1 (by simp)).trans (h.2 i u hu)⟩
theorem verb_i0 (w : World) : (Instr.index 134 verbV (.int .i64 0)).run Tryz.prog w = .ok (.agg #[.int .i64 1, .string (kW 1), .bool (kO 1)]) w := by kernel_rfl
theorem verb_i1 (w : World) : (Instr.index 134 verbV (.int .i64 1)).run Tryz.prog w = .ok (.agg #[.int .i64 2, .string (kW 2), .bool (kO 2)]) w := by kernel_rfl
theorem verb_i2 (w : World) : (Instr.index 134 verbV (.int .i64 2)).run Tryz.prog w = .ok (.agg #[.int .i64 3, .string (kW 3), .bool (kO 3)]) w := by kernel_rfl
theorem verb_i3 (w : World) : (Instr.index 134 verbV (.int .i64 3)).run Tryz.prog w = .ok (.agg #[.int .i64 4, .string (kW 4), .bool (kO 4)]) w := by kernel_rfl
theorem verb_i4 (w : World) : (Instr.index 134 verbV (.int .i64 4)).run Tryz.prog w = .ok (.agg #[.int .i64 5, .string (kW 5), .bool (kO 5)]) w := by kernel_rfl
theorem verb_i5 (w : World) : (Instr.index 134 verbV (.int .i64 5)).run Tryz.prog w = .ok (.agg #[.int .i64 6, .string (kW 6), .bool (kO 6)]) w := by kernel_rfl
theorem verb_idx (j : Nat) (hj : j < 6) (w : World) : (Instr.index 134 verbV (.int .i64 (j : Int))).run Tryz.prog w = .ok (.agg #[.int .i64 ((j : Int) + 1), .string (kW ((j : Int) + 1)), .bool (kO ((j : Int) + 1))]) w := by
 have h : j = 0 ∨ j = 1 ∨ j = 2 ∨ j = 3 ∨ j = 4 ∨ j = 5 := by omega
 rcases h with rfl | rfl | rfl | rfl | rfl | rfl
 ·exact verb_i0 w
 ·exact verb_i1 w
 ·exact verb_i2 w
 ·exact verb_i3 w
 ·exact verb_i4 w
 ·exact verb_i5 w
end Go.Proofs.YthaeomdpaadilaaGreatDoor
