/- Words of a line: the mathematics. Contract of line.Runes. A contract of the library at this program: what it asks of the program, field by field. A contract of the library at this program: what it asks of the program, field by field. -/
import Derived.Test.YtjhomlnlmpdklaaGreatDoorEraseStaysCardK1
import Derived.Test.YtjhomlnlmpdklaaGreatDoorEraseStaysCardK7
import Derived.Lib.IndexMore
import Derived.Lib.IndexBytes
import Derived.Lib.Join
import Derived.Test.YtjhomlnlmpdklaaGreatDoorEraseStaysCardK5
import Derived.Test.YtjhomlnlmpdklaaGreatDoorProg
import Derived.Ground.NamesProg
import Derived.Shelf.Strings.Cut
import Derived.Shelf.Strings.Search3
set_option linter.unusedVariables false
set_option linter.unusedSimpArgs false
namespace Go.Proofs.YtjhomlnlmpdklaaGreatDoor
open Go.Lib hiding intOf
def blankB (b : UInt8) : Bool := blanks.contains b
theorem blankB_iff (b : UInt8) : blankB b = true ↔ (b.toNat = 9 ∨ b.toNat = 13 ∨ b.toNat = 32) := by
 simp only [blankB, blanks, List.contains_iff_mem, List.mem_cons, List.not_mem_nil, or_false]
 constructor
 ·rintro (rfl | rfl | rfl)
  ·exact .inl rfl
  ·exact .inr (.inl rfl)
  ·exact .inr (.inr rfl)
 ·rintro (h | h | h)
  ·exact .inl (UInt8.toNat_inj.1 h)
  ·exact .inr (.inl (UInt8.toNat_inj.1 h))
  ·exact .inr (.inr (UInt8.toNat_inj.1 h))
def closeW : Option Nat → Nat → List (Nat × Nat)
 | some f, i => [(f, i)]
 | none, _ => []
/-- The words of what is left, each from where it begins up to where it ends; a word ends ahead of a blank. -/
def spansO : List UInt8 → Nat → Option Nat → List (Nat × Nat)
 | [], _, _ => []
 | b :: l, i, fr => if blankB b = true then closeW fr i ++ spansO l (i + 1) none else spansO l (i + 1) (some (fr.getD i))
theorem spans_blank (b : UInt8) (l : List UInt8) (i : Nat) (fr : Option Nat) (h : blankB b = true) : spansO (b :: l) i fr = closeW fr i ++ spansO l (i + 1) none := by
 rw [spansO, if_pos h]
theorem spans_word (b : UInt8) (l : List UInt8) (i : Nat) (fr : Option Nat) (h : blankB b = false) : spansO (b :: l) i fr = spansO l (i + 1) (some (fr.getD i)) := by
 rw [spansO, if_neg (by rw [h]; simp)]
theorem spans_skip : ∀ (m rest : List UInt8) (i : Nat) (fr : Option Nat), m ≠ [] → (∀ b ∈ m, blankB b = false) → spansO (m ++ rest) i fr = spansO rest (i + m.length) (some (fr.getD i))
 | [b], rest, i, fr, _, h => by
  rw [List.cons_append, List.nil_append, spans_word _ _ _ _ (h b (List.mem_cons_self ..))]
  rfl
 | b :: c :: m, rest, i, fr, _, h => by
  rw [List.cons_append, spans_word _ _ _ _ (h b (List.mem_cons_self ..)), spans_skip (c :: m) rest (i + 1) _ (by simp) (fun x hx => h x (List.mem_cons_of_mem _ hx))]
  simp only [List.length_cons, Option.getD_some]
  congr 1
  omega
def aheadL (l : List UInt8) : List UInt8 := l.takeWhile fun b => b != 35
theorem ahead_cases : ∀ l : List UInt8, ((35 : UInt8) ∉ l ∧ aheadL l = l) ∨ ∃ rest, l = aheadL l ++ 35 :: rest ∧ (35 : UInt8) ∉ aheadL l
 | [] => .inl ⟨by simp, rfl⟩
 | b :: l => by
  by_cases hb : b = 35
  ·subst hb
   exact .inr ⟨l, rfl, by simp [aheadL]⟩
  ·have ha : aheadL (b :: l) = b :: aheadL l := by
    unfold aheadL
    rw [List.takeWhile_cons_of_pos (by simpa using hb)]
   rcases ahead_cases l with ⟨h1, h2⟩ | ⟨rest, h1, h2⟩
   ·left
    rw [ha, h2]
    exact ⟨by simp; exact ⟨fun h => hb h.symm, h1⟩, rfl⟩
   ·right
    refine ⟨rest, ?_, ?_⟩
    ·rw [ha, List.cons_append, ← h1]
    ·rw [ha]
     simp
     exact ⟨fun h => hb h.symm, h2⟩
theorem ahead_len (l : List UInt8) : (aheadL l).length ≤ l.length := (List.takeWhile_sublist _).length_le
theorem ahead_take (l : List UInt8) : l.take (aheadL l).length = aheadL l := by
 rcases ahead_cases l with ⟨-, h⟩ | ⟨rest, h, -⟩
 ·rw [h, List.take_length]
 ·have h2 : l.take (aheadL l).length = (aheadL l ++ 35 :: rest).take (aheadL l).length := congrArg _ h
  rw [h2, List.take_append_of_le_length (Nat.le_refl _), List.take_of_length_le (Nat.le_refl _)]
theorem ahead_valid {l : List UInt8} (h : validD l = true) : validD (aheadL l) = true := by
 rcases ahead_cases l with ⟨-, h1⟩ | ⟨rest, h1, -⟩
 ·rw [h1]; exact h
 ·rw [h1] at h
  exact valid_pre 35 rest (by decide) _ _ (Nat.le_refl _) h
/-- What the words are read from: what stands ahead of the remark, and a blank. -/
def codeL (l : List UInt8) : List UInt8 := aheadL l ++ [32]
theorem code_len (l : List UInt8) : (codeL l).length = (aheadL l).length + 1 := by simp [codeL]
theorem code_valid {l : List UInt8} (h : validD l = true) : validD (codeL l) = true := by
 unfold codeL
 rw [valid_app _ (ahead_valid h)]
 rfl
theorem code_take (l : List UInt8) (k : Nat) (h : k ≤ (aheadL l).length) : (codeL l).take k = l.take k := by
 unfold codeL
 rw [List.take_append_of_le_length h, ← ahead_take, List.take_take, Nat.min_eq_left h]
def wordsOf (l : List UInt8) : List (Nat × Nat) := spansO (codeL l) 0 none
theorem indexByte_none : ∀ {l : List UInt8} {c : UInt8}, c ∉ l → indexByte l c = -1
 | [], _, _ => rfl
 | b :: l, c, h => by
  have hb : (b == c) = false := by
   rw [beq_eq_false_iff_ne]
   rintro rfl
   exact h (List.mem_cons_self ..)
  rw [indexByte, indexByte_none (fun hm => h (List.mem_cons_of_mem _ hm)), hb]
  simp
theorem indexByte_some : ∀ {a : List UInt8} {c : UInt8} (rest : List UInt8), c ∉ a → indexByte (a ++ c :: rest) c = a.length
 | [], c, rest, _ => by simp [indexByte]
 | b :: a, c, rest, h => by
  have hb : (b == c) = false := by
   rw [beq_eq_false_iff_ne]
   rintro rfl
   exact h (List.mem_cons_self ..)
  have ih := indexByte_some rest (fun hm => h (List.mem_cons_of_mem _ hm))
  rw [List.cons_append, indexByte, ih, hb]
  have : ((a.length : Int) == -1) = false := by rw [beq_eq_false_iff_ne]; omega
  rw [this]
  simp
theorem contains_byte (l : List UInt8) (c : UInt8) : decide (0 ≤ indexByte l c) = l.contains c := by
 by_cases h : c ∈ l
 ·obtain ⟨a, rest, rfl, ha⟩ := List.append_of_mem h |> fun ⟨a, r, e⟩ => (List.eq_append_cons_of_mem h)
  rw [indexByte_some rest ha]
  simp
 ·rw [indexByte_none h]
  simp [h]
theorem cut_none {l : List UInt8} (h : (35 : UInt8) ∉ l) : Lib.cut l [35] = (l, [], false) := by
 unfold Lib.cut
 rw [index_one, indexByte_none h, if_neg (by omega)]
theorem cut_some {l rest : List UInt8} (h : (35 : UInt8) ∉ l) : Lib.cut (l ++ 35 :: rest) [35] = (l, rest, true) := by
 unfold Lib.cut
 rw [index_one, indexByte_some rest h, if_pos (by omega)]
 simp
/-- A word as its cells: what it says, and where it stands. -/
def wordV (s : ByteArray) (p : Nat × Nat) : List Value := [.string (s.extract p.1 p.2), .int .i64 ((leads ((by_ s).take p.1) : Nat) + 1)]
def wordsV (s : ByteArray) (ps : List (Nat × Nat)) : List Value := ps.flatMap (wordV s)
theorem wordsV_len (s : ByteArray) (ps : List (Nat × Nat)) : (wordsV s ps).length = 2 * ps.length := by
 unfold wordsV
 rw [List.length_flatMap]
 induction ps with
 | nil => rfl
 | cons p ps ih => simp only [List.map_cons, List.sum_cons, List.length_cons, ih]; simp [wordV]; omega
theorem wordsV_snoc (s : ByteArray) (ps : List (Nat × Nat)) (p : Nat × Nat) : wordsV s (ps ++ [p]) = wordsV s ps ++ wordV s p := by simp [wordsV]
theorem spans_len : ∀ (l : List UInt8) (i : Nat) (fr : Option Nat), (spansO l i fr).length ≤ l.length
 | [], _, _ => Nat.le_refl _
 | b :: l, i, fr => by
  by_cases h : blankB b = true
  ·rw [spans_blank _ _ _ _ h, List.length_append]
   have := spans_len l (i + 1) none
   cases fr <;> simp [closeW] <;> omega
  ·have := spans_len l (i + 1) (some (fr.getD i))
   rw [spans_word _ _ _ _ (by simpa using h)]
   simp; omega
end Go.Proofs.YtjhomlnlmpdklaaGreatDoor

set_option linter.unusedVariables false
set_option linter.unusedSimpArgs false
namespace Go.Proofs.YtjhomlnlmpdklaaGreatDoor
open Go.RowKit
open Go.Lib hiding intOf
attribute [local go_sem ↓] Go.wp_at_zero Go.wp_at_succ
set_option maxHeartbeats 2000000 in
theorem runes_any (s : ByteArray) (w : World) (hs : s.size ≤ 9223372036854775807) (hT : UTabs w) :
  Calls Tryz.prog 94 #[.string s] w fun e w' => e = .returned (.tuple #[.int .i64 (if validD (by_ s) = true then (runeCount s : Int) else 0), .bool (validD (by_ s))]) ∧ Only [] w w' := by
 have HV := Lib.hid (valid_any s w hs hT)
 have hle := runeCount_le s
 obtain ⟨vb, hvb⟩ : ∃ vb, vb = validD (by_ s) := ⟨_, rfl⟩
 rw [← hvb] at HV ⊢
 clear hvb hT
 cases vb with
 | false =>
  rw [if_neg (by simp)]
  go_enter Tryz.func94, Tryz.ntmps94
  go_wp2_with fail
  refine (HV.out).mono ?_
  rintro e w1 ⟨rfl, hO⟩
  go_wp2
  go_ret2
  exact ⟨rfl, hO⟩
 | true =>
  rw [if_pos rfl]
  obtain ⟨R, hR⟩ : ∃ R, R = runeCount s := ⟨_, rfl⟩
  rw [← hR] at hle ⊢
  have HRC : Hid (R = runeCountFrom s s.size 0) := Lib.hid hR
  clear hR
  go_enter Tryz.func94, Tryz.ntmps94
  go_wp2_with fail
  refine (HV.out).mono ?_
  rintro e w1 ⟨rfl, hO⟩
  have HO := Lib.hid hO
  clear hO HV
  go_wp2
  go_loopw [4] (fun nn wr => ∃ (pos b k : Nat), nn = .int .i64 k ∧ pos ≤ s.size ∧ s.size ≤ pos + b ∧ k ≤ R ∧ Hid (runeCountFrom s b pos + k = R) ∧ Hid (wr.heap[w1.heap.size]? = some (.stringIter s pos)) ∧ Hid (Only [] w1 wr)) (fun _ wr => s.size - wr.iterPos w1.heap.size)
  case atStart => exact ⟨0, s.size, 0, rfl, by omega, by omega, by omega, Lib.hid (by rw [HRC.out]; rfl), Lib.hid (World.iter_heap w1 s 0), Lib.hid ((Only.refl [] w1).alloc _)⟩
  case round =>
   obtain ⟨pos, b, k, rfl, hpos, hb, hkR, HC, HIT, HO1⟩ := hrel
   by_cases hp : pos < s.size
   ·have hnx : ∀ ty, (Instr.next (.pointer (some ⟨w1.heap.size, 0, none⟩)) true ty).run Tryz.prog wr = _ := fun ty => run_next_any_at wr w1.heap.size s pos ty HIT.out hp
    have hwd := width_le s pos hp
    have hip := iterPos_of HIT.out
    have HIT2 := Lib.hid (iterAt_heap wr w1.heap.size s pos (pos + (Utf8.decode s pos).2) HIT.out)
    have HO2 := Lib.hid (only_iter HO1.out s (pos + (Utf8.decode s pos).2) (k := w1.heap.size) (fun h => by omega))
    have hip2 := iterPos_of HIT2.out
    obtain ⟨b', rfl⟩ : ∃ b', b = b' + 1 := ⟨b - 1, by omega⟩
    have hst : runeCountFrom s (b' + 1) pos = 1 + runeCountFrom s b' (pos + (Utf8.decode s pos).2) := by
     rw [runeCountFrom, if_pos hp]
    have hcc := HC.out
    rw [hst] at hcc
    have hk1 : k + 1 ≤ R := by omega
    have HC2 : Hid (runeCountFrom s b' (pos + (Utf8.decode s pos).2) + (k + 1) = R) := Lib.hid (by omega)
    obtain ⟨wd, hwde⟩ : ∃ wd, wd = (Utf8.decode s pos).2 := ⟨_, rfl⟩
    rw [← hwde] at hnx HIT2 HO2 hwd hip2 HC2
    generalize (Utf8.decode s pos).1 = rn at *
    clear hst hcc hwde HC HIT HO1
    go_wp2
    go_roundw
    case rel => exact ⟨pos + wd, b', k + 1, by go_num, by omega, by omega, by omega, HC2, HIT2, HO2⟩
    case measure => rw [hip, hip2]; omega
   ·have hnx : ∀ ty, (Instr.next (.pointer (some ⟨w1.heap.size, 0, none⟩)) true ty).run Tryz.prog wr = _ := fun ty => run_next_end_at wr w1.heap.size s pos ty HIT.out hp
    have hcc := HC.out
    rw [runeCountFrom_end s b pos hp] at hcc
    have hkR2 : k = R := by omega
    subst hkR2
    clear hcc
    go_wp2
    go_ret2
    exact ⟨rfl, HO.out.trans HO1.out⟩
end Go.Proofs.YtjhomlnlmpdklaaGreatDoor

namespace Go.Proofs
open Go.Shelf
def Tryz.laysCut_ren : Go.Shelf.Ren := ⟨fun | 145 => 96 | 220 => 109 | 219 => 115 | 217 => 119 | 225 => 120 | 224 => 121 | 267 => 122 | 266 => 125 | 314 => 126 | n => n, fun | 9 => 9 | 4 => 4 | 59 => 144 | 3 => 3 | 5 => 5 | 46 => 142 | 146 => 166 | 51 => 165 | n => n, fun | 1 => 3 | n => n⟩
theorem Tryz.laysCut : Go.Proofs.Lays.n145 Tryz.prog Tryz.laysCut_ren := {
 mixed := by kernel_rfl
 f145 := Tryz.func96.trans (congrArg some (by kernel_rfl))
 f217 := Tryz.func119.trans (congrArg some (by kernel_rfl))
 f219 := Tryz.func115.trans (congrArg some (by kernel_rfl))
 f220 := Tryz.func109.trans (congrArg some (by kernel_rfl))
 f224 := Tryz.func121.trans (congrArg some (by kernel_rfl))
 f225 := Tryz.func120.trans (congrArg some (by kernel_rfl))
 f266 := Tryz.func125.trans (congrArg some (by kernel_rfl))
 f267 := Tryz.func122.trans (congrArg some (by kernel_rfl))
 f314 := Tryz.func126.trans (congrArg some (by kernel_rfl))
 t3 := Tryz.underlying3
 a3 := Tryz.isAgg3
 z3 := Tryz.sizeOf3
 v3 := Tryz.zeroValue3
 t4 := Tryz.underlying4
 a4 := Tryz.isAgg4
 z4 := Tryz.sizeOf4
 v4 := Tryz.zeroValue4
 t5 := Tryz.underlying5
 a5 := Tryz.isAgg5
 z5 := Tryz.sizeOf5
 v5 := Tryz.zeroValue5
 t9 := Tryz.underlying9
 a9 := Tryz.isAgg9
 z9 := Tryz.sizeOf9
 v9 := Tryz.zeroValue9
 t46 := Tryz.underlying142
 a46 := Tryz.isAgg142
 z46 := Tryz.sizeOf142
 v46 := Tryz.zeroValue142
 t51 := Tryz.underlying165
 a51 := Tryz.isAgg165
 z51 := Tryz.sizeOf165
 v51 := Tryz.zeroValue165
 t59 := Tryz.underlying144
 a59 := Tryz.isAgg144
 z59 := Tryz.sizeOf144
 v59 := Tryz.zeroValue144
 t146 := Tryz.underlying166
 a146 := Tryz.isAgg166
 z146 := Tryz.sizeOf166
 v146 := Tryz.zeroValue166
 g1 := by kernel_rfl }
end Go.Proofs

namespace Go.Proofs
open Go.Shelf
def Tryz.laysContains_ren : Go.Shelf.Ren := ⟨fun | 144 => 95 | 143 => 108 | 219 => 115 | 217 => 119 | 225 => 120 | 224 => 121 | 267 => 122 | 266 => 125 | 314 => 126 | n => n, fun | 9 => 9 | 4 => 4 | 3 => 3 | 5 => 5 | 46 => 142 | 146 => 166 | 51 => 165 | n => n, fun | 1 => 3 | n => n⟩
theorem Tryz.laysContains : Go.Proofs.Lays.n144 Tryz.prog Tryz.laysContains_ren := {
 mixed := by kernel_rfl
 f143 := Tryz.func108.trans (congrArg some (by kernel_rfl))
 f144 := Tryz.func95.trans (congrArg some (by kernel_rfl))
 f217 := Tryz.func119.trans (congrArg some (by kernel_rfl))
 f219 := Tryz.func115.trans (congrArg some (by kernel_rfl))
 f224 := Tryz.func121.trans (congrArg some (by kernel_rfl))
 f225 := Tryz.func120.trans (congrArg some (by kernel_rfl))
 f266 := Tryz.func125.trans (congrArg some (by kernel_rfl))
 f267 := Tryz.func122.trans (congrArg some (by kernel_rfl))
 f314 := Tryz.func126.trans (congrArg some (by kernel_rfl))
 t3 := Tryz.underlying3
 a3 := Tryz.isAgg3
 z3 := Tryz.sizeOf3
 v3 := Tryz.zeroValue3
 t4 := Tryz.underlying4
 a4 := Tryz.isAgg4
 z4 := Tryz.sizeOf4
 v4 := Tryz.zeroValue4
 t5 := Tryz.underlying5
 a5 := Tryz.isAgg5
 z5 := Tryz.sizeOf5
 v5 := Tryz.zeroValue5
 t9 := Tryz.underlying9
 a9 := Tryz.isAgg9
 z9 := Tryz.sizeOf9
 v9 := Tryz.zeroValue9
 t46 := Tryz.underlying142
 a46 := Tryz.isAgg142
 z46 := Tryz.sizeOf142
 v46 := Tryz.zeroValue142
 t51 := Tryz.underlying165
 a51 := Tryz.isAgg165
 z51 := Tryz.sizeOf165
 v51 := Tryz.zeroValue165
 t146 := Tryz.underlying166
 a146 := Tryz.isAgg166
 z146 := Tryz.sizeOf166
 v146 := Tryz.zeroValue166
 g1 := by kernel_rfl }
end Go.Proofs
