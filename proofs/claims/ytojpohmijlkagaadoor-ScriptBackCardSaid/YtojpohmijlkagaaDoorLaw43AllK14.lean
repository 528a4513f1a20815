/- Parts. -/
import Derived.Test.YtojpohmijlkagaaDoorLaw43AllK13
set_option maxRecDepth 10000
set_option maxHeartbeats 16000000
set_option linter.unusedVariables false
set_option linter.unusedSimpArgs false
namespace Go.Proofs.YtojpohmijlkagaaDoor
open Go.Lib hiding intOf
def EndsB (A : List UInt8) : Prop := A = [] ∨ ∃ A' b, A = A' ++ [b] ∧ blankB b = true
def WordAt (C : List UInt8) (p : Nat × Nat) : Prop := ∃ A w b rest, C = A ++ (w ++ b :: rest) ∧ A.length = p.1 ∧ A.length + w.length = p.2 ∧ w ≠ [] ∧ (∀ c ∈ w, blankB c = false) ∧ blankB b = true ∧ EndsB A
def FrOf (P : List UInt8) : Option Nat → Prop
 | none => EndsB P
 | some f => ∃ A w, P = A ++ w ∧ A.length = f ∧ w ≠ [] ∧ (∀ c ∈ w, blankB c = false) ∧ EndsB A
theorem spans_are : ∀ (l P : List UInt8) (fr : Option Nat), FrOf P fr →
  (∀ p ∈ spansO l P.length fr, WordAt (P ++ l) p ∧ fr.getD P.length ≤ p.1) ∧ (spansO l P.length fr).Pairwise (fun p q => p.2 < q.1)
 | [], P, fr, _ => ⟨fun p hp => (by cases hp), List.Pairwise.nil⟩
 | b :: l, P, fr, hF => by
  have hPl : (P ++ [b]).length = P.length + 1 := by simp
  have hPe : P ++ b :: l = (P ++ [b]) ++ l := by simp
  by_cases hb : blankB b = true
  ·have ih := spans_are l (P ++ [b]) none (.inr ⟨P, b, rfl, hb⟩);rw [hPl] at ih;simp only [Option.getD_none] at ih;rw [spans_blank _ _ _ _ hb]
   cases fr with
   | none =>
    refine ⟨fun p hp => ?_, ih.2⟩;have h := ih.1 p hp;rw [hPe];exact ⟨h.1, by have := h.2; simp only [Option.getD_none]; omega⟩
   | some f =>
    obtain ⟨A, w, hPA, hA, hw, hnb, hE⟩ := hF;refine ⟨fun p hp => ?_, ?_⟩
    ·rcases List.mem_append.1 hp with hp | hp
     ·simp only [closeW, List.mem_singleton] at hp;subst hp;refine ⟨⟨A, w, b, l, ?_, hA, ?_, hw, hnb, hb, hE⟩, Nat.le_refl _⟩
      ·rw [hPA, List.append_assoc]
      ·rw [hPA, List.length_append]
     ·have h := ih.1 p hp;rw [hPe];refine ⟨h.1, ?_⟩;have h2 := h.2;have : P.length = A.length + w.length := by rw [hPA, List.length_append]
      simp only [Option.getD_some];omega
    ·show List.Pairwise _ ((f, P.length) :: _)
     rw [List.pairwise_cons];exact ⟨fun q hq => by have := (ih.1 q hq).2; show P.length < q.1; omega, ih.2⟩
  ·have hb : blankB b = false := by simpa using hb
   rw [spans_word _ _ _ _ hb];have hF2 : FrOf (P ++ [b]) (some (fr.getD P.length)) := by
    cases fr with
    | none => exact ⟨P, [b], rfl, rfl, by simp, fun c hc => by simp at hc; subst hc; exact hb, hF⟩
    | some f =>
     obtain ⟨A, w, hPA, hA, hw, hnb, hE⟩ := hF;refine ⟨A, w ++ [b], by rw [hPA, List.append_assoc], hA, by simp, fun c hc => ?_, hE⟩;rcases List.mem_append.1 hc with h | h
     ·exact hnb c h
     ·simp at h; subst h; exact hb
   have ih := spans_are l (P ++ [b]) _ hF2;rw [hPl] at ih;rw [hPe];exact ih
def textAt (C : List UInt8) (p : Nat × Nat) : List UInt8 := (C.take p.2).drop p.1
theorem text_of {A w rest : List UInt8} {p : Nat × Nat} (h1 : A.length = p.1) (h2 : A.length + w.length = p.2) : textAt (A ++ (w ++ rest)) p = w := by
 unfold textAt;rw [← List.append_assoc, List.take_append_of_le_length (by rw [List.length_append]; omega), List.take_of_length_le (by rw [List.length_append]; omega), ← h1, List.drop_left]
structure GoodW (w : List UInt8) : Prop where
 ne : w ≠ []
 nb : ∀ c ∈ w, blankB c = false
 hash : (35 : UInt8) ∉ w
 nl : (10 : UInt8) ∉ w
 valid : validD w = true
def flatW (ws : List (List UInt8)) : List UInt8 := (ws.map (· ++ [32])).flatten
def posOf : List (List UInt8) → Nat → List (Nat × Nat)
 | [], _ => []
 | w :: ws, i => (i, i + w.length) :: posOf ws (i + w.length + 1)
theorem flat_cons (w : List UInt8) (ws : List (List UInt8)) : flatW (w :: ws) = w ++ 32 :: flatW ws := by simp [flatW]
theorem spans_flat : ∀ (ws : List (List UInt8)) (i : Nat), (∀ w ∈ ws, GoodW w) → spansO (flatW ws) i none = posOf ws i
 | [], i, _ => rfl
 | w :: ws, i, h => by
  have hw := h w (List.mem_cons_self ..);rw [flat_cons, spans_skip _ _ _ _ hw.ne hw.nb, spans_blank _ _ _ _ (by decide)];rw [spans_flat ws _ (fun x hx => h x (List.mem_cons_of_mem _ hx))]
  rfl
theorem pos_texts : ∀ (ws : List (List UInt8)) (P : List UInt8), (posOf ws P.length).map (textAt (P ++ flatW ws)) = ws
 | [], P => rfl
 | w :: ws, P => by
  have ih := pos_texts ws (P ++ (w ++ [32]));have e1 : (P ++ (w ++ [32])).length = P.length + w.length + 1 := by simp [Nat.add_assoc]
  have e2 : P ++ (w ++ [32]) ++ flatW ws = P ++ flatW (w :: ws) := by rw [flat_cons]; simp
  rw [e1, e2] at ih;rw [posOf, List.map_cons, ih, flat_cons, text_of rfl rfl]
theorem join_flat : ∀ (ws : List (List UInt8)), ws ≠ [] → Lib.join ws [32] ++ [32] = flatW ws
 | [w], _ => by
  rw [Lib.join_one, flat_cons]
  rfl
 | w :: v :: ws, _ => by
  have ih := join_flat (v :: ws) (by simp);rw [flat_cons, ← ih, join_cons];have h2 := join_cons v ws [32];rw [h2];simp [joinTail, List.append_assoc]
theorem not_flat {x : UInt8} (hx : x ≠ 32) : ∀ (ws : List (List UInt8)), (∀ w ∈ ws, x ∉ w) → x ∉ flatW ws
 | [], _ => by simp [flatW]
 | w :: ws, h => by
  have h1 := h w (List.mem_cons_self ..);have ih := not_flat hx ws (fun y hy => h y (List.mem_cons_of_mem _ hy));rw [flat_cons];simp [h1, ih, hx]
theorem flat_valid : ∀ (ws : List (List UInt8)), (∀ w ∈ ws, GoodW w) → validD (flatW ws) = true
 | [], _ => rfl
 | w :: ws, h => by
  have ih := flat_valid ws (fun y hy => h y (List.mem_cons_of_mem _ hy));rw [flat_cons, show w ++ 32 :: flatW ws = (w ++ [32]) ++ flatW ws by simp];rw [valid_app _ (by rw [valid_app _ (h w (List.mem_cons_self ..)).valid]; rfl)];exact ih
theorem words_join (ws : List (List UInt8)) (h : ∀ w ∈ ws, GoodW w) :
  badL (Lib.join ws [32]) = false ∧ (wordsOf (Lib.join ws [32])).map (textAt (codeL (Lib.join ws [32]))) = ws ∧ aheadL (Lib.join ws [32]) = Lib.join ws [32] := by
 by_cases hne : ws = []
 ·subst hne;exact ⟨by kernel_rfl, by kernel_rfl, by kernel_rfl⟩
 ·have hj := join_flat ws hne;have h35 : (35 : UInt8) ∉ Lib.join ws [32] := fun hm => not_flat (x := 35) (by decide) ws (fun w hw => (h w hw).hash) (by rw [← hj]; simp [hm]);have h10 : (10 : UInt8) ∉ Lib.join ws [32] := fun hm => not_flat (x := 10) (by decide) ws (fun w hw => (h w hw).nl) (by rw [← hj]; simp [hm]);have hv : validD (Lib.join ws [32]) = true := valid_pre 32 [] (by decide) _ _ (Nat.le_refl _) (by rw [hj]; exact flat_valid ws h);have ha : aheadL (Lib.join ws [32]) = Lib.join ws [32] := by
   rcases ahead_cases (Lib.join ws [32]) with ⟨-, h2⟩ | ⟨rest, h2, -⟩
   ·exact h2
   ·exact absurd (by rw [h2]; simp) h35
  have hc : codeL (Lib.join ws [32]) = flatW ws := by
   unfold codeL;rw [ha, hj]
  refine ⟨?_, ?_, ha⟩
  ·unfold badL;rw [hv]
   simpa using h10
  ·unfold wordsOf;rw [hc, spans_flat ws 0 h];exact pos_texts ws []
theorem text_code (s : ByteArray) (p : Nat × Nat) (h : p.2 ≤ (aheadL (by_ s)).length) : by_ (s.extract p.1 p.2) = textAt (codeL (by_ s)) p := by
 rw [by_extract];unfold textAt;rw [code_take _ _ h]
theorem wordAt_le {l : List UInt8} {p : Nat × Nat} (h : WordAt (codeL l) p) : p.1 < p.2 ∧ p.2 ≤ (aheadL l).length := by
 obtain ⟨A, w, b, rest, hC, h1, h2, hw, -⟩ := h;have := congrArg List.length hC;rw [code_len] at this;simp only [List.length_append, List.length_cons] at this;have := List.length_pos_iff.2 hw;omega
theorem words_at (l : List UInt8) : (∀ p ∈ wordsOf l, WordAt (codeL l) p) ∧ (wordsOf l).Pairwise (fun p q => p.2 < q.1) := by
 have h := spans_are (codeL l) [] none (.inl rfl);exact ⟨fun p hp => (h.1 p hp).1, h.2⟩
def textsOf (s : ByteArray) : List ByteArray := (wordsOf (by_ s)).map fun p => s.extract p.1 p.2
theorem texts_by (s : ByteArray) : (textsOf s).map by_ = (wordsOf (by_ s)).map (textAt (codeL (by_ s))) := by
 unfold textsOf;rw [List.map_map];exact List.map_congr_left fun p hp => text_code s p (wordAt_le ((words_at (by_ s)).1 p hp)).2
theorem texts_inj : ∀ {xs ys : List ByteArray}, xs.map by_ = ys.map by_ → xs = ys
 | [], [], _ => rfl
 | [], _ :: _, h => by cases h
 | _ :: _, [], h => by cases h
 | x :: xs, y :: ys, h => by
  simp only [List.map_cons, List.cons.injEq] at h;rw [by_inj h.1, texts_inj h.2]
end Go.Proofs.YtojpohmijlkagaaDoor
