/- Parts. -/
import Derived.Test.YtojpohmijlkagaaDoorLaw43AllK10
import Derived.Lib.IndexMore
import Derived.Lib.IndexBytes
import Derived.Lib.Join
set_option maxRecDepth 10000
set_option maxHeartbeats 16000000
set_option linter.unusedVariables false
set_option linter.unusedSimpArgs false
namespace Go.Proofs.YtojpohmijlkagaaDoor
open Go.Lib hiding intOf
def blankB (b : UInt8) : Bool := blanks.contains b
theorem blankB_iff (b : UInt8) : blankB b = true ↔ (b.toNat = 9 ∨ b.toNat = 13 ∨ b.toNat = 32) := by
 simp only [blankB, blanks, List.contains_iff_mem, List.mem_cons, List.not_mem_nil, or_false]
 constructor
 ·rintro (rfl | rfl | rfl)
  ·exact .inl rfl
  ·exact .inr (.inl rfl)
  ·exact .inr (.inr rfl)
 ·rintro (h | h | h)
  ·exact .inl (UInt8.toNat_inj.1 h)
  ·exact .inr (.inl (UInt8.toNat_inj.1 h))
  ·exact .inr (.inr (UInt8.toNat_inj.1 h))
def closeW : Option Nat → Nat → List (Nat × Nat)
 | some f, i => [(f, i)]
 | none, _ => []
def spansO : List UInt8 → Nat → Option Nat → List (Nat × Nat)
 | [], _, _ => []
 | b :: l, i, fr => if blankB b = true then closeW fr i ++ spansO l (i + 1) none else spansO l (i + 1) (some (fr.getD i))
theorem spans_blank (b : UInt8) (l : List UInt8) (i : Nat) (fr : Option Nat) (h : blankB b = true) : spansO (b :: l) i fr = closeW fr i ++ spansO l (i + 1) none := by
 rw [spansO, if_pos h]
theorem spans_word (b : UInt8) (l : List UInt8) (i : Nat) (fr : Option Nat) (h : blankB b = false) : spansO (b :: l) i fr = spansO l (i + 1) (some (fr.getD i)) := by
 rw [spansO, if_neg (by rw [h]; simp)]
theorem spans_skip : ∀ (m rest : List UInt8) (i : Nat) (fr : Option Nat), m ≠ [] → (∀ b ∈ m, blankB b = false) → spansO (m ++ rest) i fr = spansO rest (i + m.length) (some (fr.getD i))
 | [b], rest, i, fr, _, h => by
  rw [List.cons_append, List.nil_append, spans_word _ _ _ _ (h b (List.mem_cons_self ..))]
  rfl
 | b :: c :: m, rest, i, fr, _, h => by
  rw [List.cons_append, spans_word _ _ _ _ (h b (List.mem_cons_self ..)), spans_skip (c :: m) rest (i + 1) _ (by simp) (fun x hx => h x (List.mem_cons_of_mem _ hx))];simp only [List.length_cons, Option.getD_some]
  congr 1
  omega
def aheadL (l : List UInt8) : List UInt8 := l.takeWhile fun b => b != 35
theorem ahead_cases : ∀ l : List UInt8, ((35 : UInt8) ∉ l ∧ aheadL l = l) ∨ ∃ rest, l = aheadL l ++ 35 :: rest ∧ (35 : UInt8) ∉ aheadL l
 | [] => .inl ⟨by simp, rfl⟩
 | b :: l => by
  by_cases hb : b = 35
  ·subst hb;exact .inr ⟨l, rfl, by simp [aheadL]⟩
  ·have ha : aheadL (b :: l) = b :: aheadL l := by
    unfold aheadL;rw [List.takeWhile_cons_of_pos (by simpa using hb)]
   rcases ahead_cases l with ⟨h1, h2⟩ | ⟨rest, h1, h2⟩
   ·left
    rw [ha, h2];exact ⟨by simp; exact ⟨fun h => hb h.symm, h1⟩, rfl⟩
   ·right
    refine ⟨rest, ?_, ?_⟩
    ·rw [ha, List.cons_append, ← h1]
    ·rw [ha];simp;exact ⟨fun h => hb h.symm, h2⟩
theorem ahead_len (l : List UInt8) : (aheadL l).length ≤ l.length := (List.takeWhile_sublist _).length_le
theorem ahead_take (l : List UInt8) : l.take (aheadL l).length = aheadL l := by
 rcases ahead_cases l with ⟨-, h⟩ | ⟨rest, h, -⟩
 ·rw [h, List.take_length]
 ·have h2 : l.take (aheadL l).length = (aheadL l ++ 35 :: rest).take (aheadL l).length := congrArg _ h;rw [h2, List.take_append_of_le_length (Nat.le_refl _), List.take_of_length_le (Nat.le_refl _)]
theorem ahead_valid {l : List UInt8} (h : validD l = true) : validD (aheadL l) = true := by
 rcases ahead_cases l with ⟨-, h1⟩ | ⟨rest, h1, -⟩
 ·rw [h1]; exact h
 ·rw [h1] at h;exact valid_pre 35 rest (by decide) _ _ (Nat.le_refl _) h
def codeL (l : List UInt8) : List UInt8 := aheadL l ++ [32]
theorem code_len (l : List UInt8) : (codeL l).length = (aheadL l).length + 1 := by simp [codeL]
theorem code_valid {l : List UInt8} (h : validD l = true) : validD (codeL l) = true := by
 unfold codeL;rw [valid_app _ (ahead_valid h)]
 rfl
theorem code_take (l : List UInt8) (k : Nat) (h : k ≤ (aheadL l).length) : (codeL l).take k = l.take k := by
 unfold codeL;rw [List.take_append_of_le_length h, ← ahead_take, List.take_take, Nat.min_eq_left h]
def wordsOf (l : List UInt8) : List (Nat × Nat) := spansO (codeL l) 0 none
theorem indexByte_none : ∀ {l : List UInt8} {c : UInt8}, c ∉ l → indexByte l c = -1
 | [], _, _ => rfl
 | b :: l, c, h => by
  have hb : (b == c) = false := by
   rw [beq_eq_false_iff_ne];rintro rfl;exact h (List.mem_cons_self ..)
  rw [indexByte, indexByte_none (fun hm => h (List.mem_cons_of_mem _ hm)), hb];simp
theorem indexByte_some : ∀ {a : List UInt8} {c : UInt8} (rest : List UInt8), c ∉ a → indexByte (a ++ c :: rest) c = a.length
 | [], c, rest, _ => by simp [indexByte]
 | b :: a, c, rest, h => by
  have hb : (b == c) = false := by
   rw [beq_eq_false_iff_ne];rintro rfl;exact h (List.mem_cons_self ..)
  have ih := indexByte_some rest (fun hm => h (List.mem_cons_of_mem _ hm));rw [List.cons_append, indexByte, ih, hb];have : ((a.length : Int) == -1) = false := by rw [beq_eq_false_iff_ne]; omega
  rw [this];simp
theorem contains_byte (l : List UInt8) (c : UInt8) : decide (0 ≤ indexByte l c) = l.contains c := by
 by_cases h : c ∈ l
 ·obtain ⟨a, rest, rfl, ha⟩ := List.append_of_mem h |> fun ⟨a, r, e⟩ => (List.eq_append_cons_of_mem h);rw [indexByte_some rest ha];simp
 ·rw [indexByte_none h];simp [h]
theorem cut_none {l : List UInt8} (h : (35 : UInt8) ∉ l) : Lib.cut l [35] = (l, [], false) := by
 unfold Lib.cut;rw [index_one, indexByte_none h, if_neg (by omega)]
theorem cut_some {l rest : List UInt8} (h : (35 : UInt8) ∉ l) : Lib.cut (l ++ 35 :: rest) [35] = (l, rest, true) := by
 unfold Lib.cut;rw [index_one, indexByte_some rest h, if_pos (by omega)];simp
def wordV (s : ByteArray) (p : Nat × Nat) : List Value := [.string (s.extract p.1 p.2), .int .i64 ((leads ((by_ s).take p.1) : Nat) + 1)]
def wordsV (s : ByteArray) (ps : List (Nat × Nat)) : List Value := ps.flatMap (wordV s)
theorem wordsV_snoc (s : ByteArray) (ps : List (Nat × Nat)) (p : Nat × Nat) : wordsV s (ps ++ [p]) = wordsV s ps ++ wordV s p := by simp [wordsV]
theorem spans_len : ∀ (l : List UInt8) (i : Nat) (fr : Option Nat), (spansO l i fr).length ≤ l.length
 | [], _, _ => Nat.le_refl _
 | b :: l, i, fr => by
  by_cases h : blankB b = true
  ·rw [spans_blank _ _ _ _ h, List.length_append];have := spans_len l (i + 1) none
   cases fr <;> simp [closeW] <;> omega
  ·have := spans_len l (i + 1) (some (fr.getD i));rw [spans_word _ _ _ _ (by simpa using h)];simp; omega
theorem colFrom_leads (s : ByteArray) (a : Nat) : ∀ (f pos : Nat), s.size ≤ pos + f → validD ((by_ s).drop pos) = true → colFrom s a f pos = leads (((by_ s).take a).drop pos)
 | f, pos, hf, hv => by
  by_cases h : pos < s.size ∧ (pos : Int) < (a : Int)
  ·cases f with
   | zero => omega
   | succ f =>
    rcases valid_cases hv with he | ⟨m, rest, r, he, hm, hr⟩
    ·have := congrArg List.length he;rw [List.length_drop, by_length] at this;simp at this;omega
    ·have hd : Utf8.decode s pos = (r, m.length) := by rw [← decL_at, he, hm.dec]
     have hrest : (by_ s).drop (pos + m.length) = rest := by rw [← List.drop_drop, he, List.drop_left]
     rw [colFrom, if_pos h, hd];dsimp only;rw [colFrom_leads s a f (pos + m.length) (by have := hm.len; omega) (by rw [hrest]; exact hr)];rw [List.drop_take, List.drop_take, he, hrest, List.take_append, leads_app, leads_rune hm _ (by omega)]
     congr 3
     omega
  ·rw [colFrom_stop s a f pos h];have : ((by_ s).take a).drop pos = [] := List.drop_of_length_le (by rw [List.length_take, by_length]; omega);rw [this]
   rfl
theorem col_leads (s : ByteArray) (a : Nat) (hv : validD (by_ s) = true) : colOf s a = leads ((by_ s).take a) := by
 unfold colOf;rw [if_pos hv, colFrom_leads s a s.size 0 (by omega) hv]
 rfl
def joinW (xs : List ByteArray) : List UInt8 := Lib.join (xs.map by_) [32]
end Go.Proofs.YtojpohmijlkagaaDoor
