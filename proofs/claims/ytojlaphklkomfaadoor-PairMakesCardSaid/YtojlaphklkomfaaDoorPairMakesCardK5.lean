/- Parts. -/
import Derived.Test.YtojlaphklkomfaaDoorPairMakesCardK4
import Derived.Lib.SlicesCompact
set_option maxRecDepth 10000
set_option maxHeartbeats 16000000
set_option linter.unusedVariables false
set_option linter.unusedSimpArgs false
namespace Go.Proofs.YtojlaphklkomfaaDoor
open Go.Lib
theorem lessL_trans : ∀ x y z : List Nat, lessL x y = true → lessL y z = true → lessL x z = true
 | [], [], _, h, _ => by cases h
 | [], _ :: _, [], _, h => by cases h
 | [], _ :: _, _ :: _, _, _ => rfl
 | _ :: _, [], _, h, _ => by cases h
 | _ :: _, _ :: _, [], _, h => by cases h
 | r :: x, q :: y, t :: z, h1, h2 => by
  unfold lessL at h1 h2 ⊢
  by_cases e1 : r = q
  ·subst e1;rw [if_pos rfl] at h1
   by_cases e2 : r = t
   ·subst e2;rw [if_pos rfl] at h2 ⊢;exact lessL_trans x y z h1 h2
   ·rw [if_neg e2] at h2 ⊢;exact h2
  ·rw [if_neg e1] at h1;have h1 := of_decide_eq_true h1
   by_cases e2 : q = t
   ·subst e2;rw [if_neg e1];exact decide_eq_true h1
   ·rw [if_neg e2] at h2;have h2 := of_decide_eq_true h2;rw [if_neg (by omega)];exact decide_eq_true (by omega)
def lessB (a b : ByteArray) : Bool := lessL (runesL (by_ a)) (runesL (by_ b))
theorem lessB_irr (a : ByteArray) : lessB a a = false := less_irr _
theorem lessB_trans {a b c : ByteArray} (h1 : lessB a b = true) (h2 : lessB b c = true) : lessB a c = true := lessL_trans _ _ _ h1 h2
theorem lessB_asym {a b : ByteArray} (h : lessB a b = true) : lessB b a = false := by
 cases h2 : lessB b a with
 | false => rfl
 | true =>
  have := lessB_trans h h2;rw [lessB_irr] at this
  cases this
theorem name_valid' {s : ByteArray} (h : isName s = true) : validD (by_ s) = true := by
 unfold isName at h;simp only [Bool.and_eq_true] at h;exact h.1.1
theorem lessB_total {a b : ByteArray} (ha : isName a = true) (hb : isName b = true) (h1 : lessB a b = false) (h2 : lessB b a = false) : a = b := by
 by_cases e : runesL (by_ a) = runesL (by_ b)
 ·exact by_inj (runes_inj (name_valid' ha) (name_valid' hb) e)
 ·have := less_one _ _ e;unfold lessB at h1 h2;rw [h1, h2] at this
  cases this
def Rising (l : List ByteArray) : Prop := l.Pairwise fun a b => lessB a b = true
theorem rising_unique : ∀ l m : List ByteArray, Rising l → Rising m → (∀ x, x ∈ l ↔ x ∈ m) → l = m
 | [], [], _, _, _ => rfl
 | [], y :: m, _, _, h => by have := (h y).2 (List.mem_cons_self ..); cases this
 | x :: l, [], _, _, h => by have := (h x).1 (List.mem_cons_self ..); cases this
 | x :: l, y :: m, hl, hm, h => by
  obtain ⟨hx, hl2⟩ := List.pairwise_cons.1 hl;obtain ⟨hy, hm2⟩ := List.pairwise_cons.1 hm;have exy : x = y := by
   rcases List.mem_cons.1 ((h x).1 (List.mem_cons_self ..)) with e | e
   ·exact e
   ·rcases List.mem_cons.1 ((h y).2 (List.mem_cons_self ..)) with e2 | e2
    ·exact e2.symm
    ·have h1 := hy x e;have h2 := hx y e2;rw [lessB_asym h1] at h2
     cases h2
  subst exy;have : l = m := by
   refine rising_unique l m hl2 hm2 fun z => ⟨fun hz => ?_, fun hz => ?_⟩
   ·rcases List.mem_cons.1 ((h z).1 (List.mem_cons_of_mem _ hz)) with e | e
    ·subst e;have := hx z hz;rw [lessB_irr] at this
     cases this
    ·exact e
   ·rcases List.mem_cons.1 ((h z).2 (List.mem_cons_of_mem _ hz)) with e | e
    ·subst e;have := hy z hz;rw [lessB_irr] at this
     cases this
    ·exact e
  rw [this]
def aheadOf (out : List ByteArray) (x : ByteArray) : Nat := (out.takeWhile fun y => lessB y x).length
def insB (out : List ByteArray) (x : ByteArray) : List ByteArray :=
 if isName x = true then (if out[aheadOf out x]? = some x then out else out.take (aheadOf out x) ++ x :: out.drop (aheadOf out x)) else out
def sortB (l : List ByteArray) : List ByteArray := l.foldl insB []
theorem ahead_le (out : List ByteArray) (x : ByteArray) : aheadOf out x ≤ out.length := (List.takeWhile_sublist _).length_le
theorem ahead_split (out : List ByteArray) (x : ByteArray) : out.take (aheadOf out x) = out.takeWhile (fun y => lessB y x) ∧ out.drop (aheadOf out x) = out.dropWhile (fun y => lessB y x) := by
 have h := List.takeWhile_append_dropWhile (p := fun y => lessB y x) (l := out);have h1 := congrArg (List.take (out.takeWhile fun y => lessB y x).length) h;have h2 := congrArg (List.drop (out.takeWhile fun y => lessB y x).length) h;rw [List.take_left] at h1;rw [List.drop_left] at h2;exact ⟨h1.symm, h2.symm⟩
structure Names (out : List ByteArray) : Prop where
 rise : Rising out
 name : ∀ x ∈ out, isName x = true
theorem names_nil : Names [] := ⟨List.Pairwise.nil, fun x h => (by cases h)⟩
theorem drop_head {p : ByteArray → Bool} : ∀ {l : List ByteArray} {y : ByteArray} {t : List ByteArray}, l.dropWhile p = y :: t → p y = false
 | x :: l, y, t, h => by
  by_cases hx : p x = true
  ·rw [List.dropWhile_cons_of_pos hx] at h;exact drop_head h
  ·rw [List.dropWhile_cons_of_neg hx] at h;obtain ⟨rfl, -⟩ := List.cons.inj h
   simpa using hx
theorem take_all {p : ByteArray → Bool} : ∀ (l : List ByteArray), ∀ y ∈ l.takeWhile p, p y = true
 | x :: l, y, h => by
  by_cases hx : p x = true
  ·rw [List.takeWhile_cons_of_pos hx] at h;rcases List.mem_cons.1 h with rfl | h
   ·exact hx
   ·exact take_all l y h
  ·rw [List.takeWhile_cons_of_neg hx] at h
   cases h
theorem ins_names {out : List ByteArray} (h : Names out) (x : ByteArray) : Names (insB out x) ∧ ∀ y, y ∈ insB out x ↔ y ∈ out ∨ (y = x ∧ isName x = true) := by
 unfold insB
 by_cases hx : isName x = true
 ·rw [if_pos hx]
  by_cases he : out[aheadOf out x]? = some x
  ·rw [if_pos he];refine ⟨h, fun y => ⟨.inl, ?_⟩⟩;rintro (hy | ⟨rfl, -⟩)
   ·exact hy
   ·exact List.mem_of_getElem? he
  ·rw [if_neg he];obtain ⟨h1, h2⟩ := ahead_split out x;have happ : out.take (aheadOf out x) ++ out.drop (aheadOf out x) = out := List.take_append_drop _ _;have hall := take_all (p := fun y => lessB y x) out;rw [← h1] at hall;have hrest : ∀ y ∈ out.drop (aheadOf out x), lessB x y = true := by
    cases hd : out.drop (aheadOf out x) with
    | nil => intro y hy; cases hy
    | cons z t =>
     have hz : lessB z x = false := drop_head (p := fun y => lessB y x) (by rw [← h2]; exact hd);have hzm : z ∈ out := by rw [← happ, hd]; simp
     have hzx : z ≠ x := fun e => he (by
      have : (out.drop (aheadOf out x))[0]? = some z := by rw [hd]; rfl
      rw [List.getElem?_drop, Nat.add_zero] at this;rw [this, e])
     have hxz : lessB x z = true := by
      cases hc : lessB x z with
      | true => rfl
      | false => exact absurd (lessB_total (h.name z hzm) hx hz hc) hzx
     have hr := h.rise;rw [← happ, hd] at hr;have hr2 := (List.pairwise_append.1 hr).2.1;intro y hy;rcases List.mem_cons.1 hy with rfl | hy
     ·exact hxz
     ·exact lessB_trans hxz ((List.pairwise_cons.1 hr2).1 y hy)
   have hr := h.rise;unfold Rising at hr;rw [← happ] at hr;obtain ⟨ra, rb, rab⟩ := List.pairwise_append.1 hr;refine ⟨⟨?_, ?_⟩, fun y => ?_⟩
   ·refine List.pairwise_append.2 ⟨ra, List.pairwise_cons.2 ⟨hrest, rb⟩, fun a ha b hb => ?_⟩;rcases List.mem_cons.1 hb with rfl | hb
    ·exact hall a ha
    ·exact rab a ha b hb
   ·intro y hy;rcases List.mem_append.1 hy with hy | hy
    ·exact h.name y (List.mem_of_mem_take hy)
    ·rcases List.mem_cons.1 hy with rfl | hy
     ·exact hx
     ·exact h.name y (List.mem_of_mem_drop hy)
   ·constructor
    ·intro hy;rcases List.mem_append.1 hy with hy | hy
     ·exact .inl (List.mem_of_mem_take hy)
     ·rcases List.mem_cons.1 hy with rfl | hy
      ·exact .inr ⟨rfl, hx⟩
      ·exact .inl (List.mem_of_mem_drop hy)
    ·rintro (hy | ⟨rfl, -⟩)
     ·rw [← happ] at hy;rcases List.mem_append.1 hy with hy | hy
      ·exact List.mem_append.2 (.inl hy)
      ·exact List.mem_append.2 (.inr (List.mem_cons_of_mem _ hy))
     ·exact List.mem_append.2 (.inr (List.mem_cons_self ..))
 ·rw [if_neg hx];refine ⟨h, fun y => ⟨.inl, ?_⟩⟩;rintro (hy | ⟨-, hc⟩)
  ·exact hy
  ·exact absurd hc hx
theorem fold_names : ∀ (l out : List ByteArray), Names out → Names (l.foldl insB out) ∧ ∀ y, y ∈ l.foldl insB out ↔ y ∈ out ∨ (y ∈ l ∧ isName y = true)
 | [], out, h => ⟨h, fun y => by simp⟩
 | x :: l, out, h => by
  obtain ⟨h1, h2⟩ := ins_names h x;obtain ⟨h3, h4⟩ := fold_names l (insB out x) h1;refine ⟨h3, fun y => ?_⟩;rw [List.foldl_cons, h4, h2]
  constructor
  ·rintro ((h | ⟨rfl, h⟩) | ⟨h, h'⟩)
   ·exact .inl h
   ·exact .inr ⟨List.mem_cons_self .., h⟩
   ·exact .inr ⟨List.mem_cons_of_mem _ h, h'⟩
  ·rintro (h | ⟨h, h'⟩)
   ·exact .inl (.inl h)
   ·rcases List.mem_cons.1 h with rfl | h
    ·exact .inl (.inr ⟨rfl, h'⟩)
    ·exact .inr ⟨h, h'⟩
theorem sortB_names (l : List ByteArray) : Names (sortB l) ∧ ∀ y, y ∈ sortB l ↔ y ∈ l ∧ isName y = true := by
 obtain ⟨h1, h2⟩ := fold_names l [] names_nil;exact ⟨h1, fun y => by rw [show sortB l = l.foldl insB [] from rfl, h2]; simp⟩
theorem sortB_unique {l m : List ByteArray} (hr : Rising m) (hm : ∀ y, y ∈ m ↔ y ∈ l ∧ isName y = true) : m = sortB l :=
 rising_unique m (sortB l) hr (sortB_names l).1.rise fun y => by rw [hm, (sortB_names l).2]
end Go.Proofs.YtojlaphklkomfaaDoor
