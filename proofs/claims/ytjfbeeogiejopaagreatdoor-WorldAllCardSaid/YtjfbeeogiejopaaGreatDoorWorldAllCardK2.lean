/- Parts. -/
import Derived.Test.YtjfbeeogiejopaaGreatDoorWorldAllCardK1
import Derived.Lib.MapLaws
import Derived.Deep.MidRow
import Derived.Laws.ResultCell
import Derived.Laws.IdiomCopy
import Derived.Deep.CutBlock
import Derived.Deep.DeepCutAuto
import Derived.Deep.Slices
import Derived.Deep.Strs
import Derived.Maps.AppendAt
import Derived.Laws.OwnMore
set_option maxRecDepth 10000
set_option maxHeartbeats 16000000
set_option linter.unusedVariables false
set_option linter.unusedSimpArgs false
namespace Go.Proofs.YtjfbeeogiejopaaGreatDoor
open Go.Lib
theorem dec_pos {l : List UInt8} (h : l ≠ []) : 1 ≤ (decodeL l).2 := by
 rcases rune_or_bad l h with ⟨e, -⟩ | ⟨m, rest, r, rfl, hm⟩
 ·rw [e]; exact Nat.le_refl _
 ·rw [hm.dec]; exact hm.len
def runesF : Nat → List UInt8 → List Nat
 | 0, _ => []
 | _ + 1, [] => []
 | f + 1, b :: t => (decodeL (b :: t)).1 :: runesF f ((b :: t).drop (decodeL (b :: t)).2)
theorem runesF_fuel : ∀ (f g : Nat) (l : List UInt8), l.length ≤ f → l.length ≤ g → runesF f l = runesF g l
 | 0, 0, _, _, _ => rfl
 | 0, g + 1, l, h, _ => by
  obtain rfl : l = [] := List.eq_nil_of_length_eq_zero (by omega)
  rfl
 | f + 1, 0, l, _, h => by
  obtain rfl : l = [] := List.eq_nil_of_length_eq_zero (by omega)
  rfl
 | f + 1, g + 1, [], _, _ => rfl
 | f + 1, g + 1, b :: t, h1, h2 => by
  have hp := dec_pos (l := b :: t) (by simp);rw [runesF, runesF, runesF_fuel f g _ (by rw [List.length_drop]; omega) (by rw [List.length_drop]; omega)]
def runesL (l : List UInt8) : List Nat := runesF l.length l
theorem runes_nil : runesL [] = [] := rfl
theorem runes_step {l : List UInt8} (h : l ≠ []) : runesL l = (decodeL l).1 :: runesL (l.drop (decodeL l).2) := by
 cases l with
 | nil => exact absurd rfl h
 | cons b t =>
  have hp := dec_pos (l := b :: t) h;unfold runesL;rw [List.length_cons, runesF, runesF_fuel t.length _ _ (by rw [List.length_drop, List.length_cons]; omega) (Nat.le_refl _)]
theorem runes_rune {m : List UInt8} {r : Nat} (hm : IsRune m r) (rest : List UInt8) : runesL (m ++ rest) = r :: runesL rest := by
 rw [runes_step (by intro h; exact hm.ne (List.append_eq_nil_iff.1 h).1), hm.dec, List.drop_left]
theorem runes_len (l : List UInt8) : (runesL l).length ≤ l.length := by
 have : ∀ (n : Nat) (l : List UInt8), (runesF n l).length ≤ n := by
  intro n
  induction n with
  | zero => intro l; exact Nat.le_refl _
  | succ n ih =>
   intro l
   cases l with
   | nil => exact Nat.zero_le _
   | cons b t => rw [runesF]; simp; exact ih _
 exact this _ _
def lessL : List Nat → List Nat → Bool
 | [], [] => false
 | [], _ :: _ => true
 | _ :: _, [] => false
 | r :: x, q :: y => if r = q then lessL x y else decide (r < q)
theorem less_same (r : Nat) (x y : List Nat) : lessL (r :: x) (r :: y) = lessL x y := by simp [lessL]
theorem less_unlike {r q : Nat} (x y : List Nat) (h : r ≠ q) : lessL (r :: x) (q :: y) = decide (r < q) := by simp [lessL, h]
theorem less_irr : ∀ x : List Nat, lessL x x = false
 | [] => rfl
 | r :: x => by rw [less_same]; exact less_irr x
theorem less_one : ∀ x y : List Nat, x ≠ y → lessL x y = !lessL y x
 | [], [], h => absurd rfl h
 | [], _ :: _, _ => rfl
 | _ :: _, [], _ => rfl
 | r :: x, q :: y, h => by
  by_cases hr : r = q
  ·subst hr;rw [less_same, less_same];exact less_one x y (fun e => h (by rw [e]))
  ·rw [less_unlike _ _ hr, less_unlike _ _ (fun e => hr e.symm)];have : decide (q < r) = !decide (r < q) := by
    by_cases h1 : r < q
    ·simp [h1]; omega
    ·simp [h1]; omega
   rw [this];simp
theorem less_end {x y : List Nat} (h : x = [] ∨ y = []) : lessL x y = decide (x.length < y.length) := by
 rcases h with rfl | rfl
 ·cases y <;> simp [lessL]
 ·cases x <;> simp [lessL]
theorem less_drop (x y : List Nat) (k : Nat) (r q : Nat) (hx : x[k]? = some r) (hy : y[k]? = some q) : lessL (x.drop k) (y.drop k) = if r = q then lessL (x.drop (k + 1)) (y.drop (k + 1)) else decide (r < q) := by
 obtain ⟨h1, rfl⟩ := List.getElem?_eq_some_iff.1 hx;obtain ⟨h2, rfl⟩ := List.getElem?_eq_some_iff.1 hy;rw [List.drop_eq_getElem_cons h1, List.drop_eq_getElem_cons h2, lessL]
def digitR (r : Nat) : Bool := decide (48 ≤ r) && decide (r ≤ 57)
def mayR (r : Nat) : Bool := decide (97 ≤ r) && decide (r ≤ 122) || decide (65 ≤ r) && decide (r ≤ 90) || digitR r || r == 95 || decide (127 < r)
def nameL (rs : List Nat) : Bool := decide (0 < rs.length) && decide (rs.length ≤ 20) && !digitR (rs.headD 0) && rs.all mayR
theorem name_bad1 (pre : List Nat) (r : Nat) (rest : List Nat) (h : mayR r = false) : nameL (pre ++ r :: rest) = false := by
 simp [nameL, h]
theorem name_bad2 (r : Nat) (rest : List Nat) (h : digitR r = true) : nameL (r :: rest) = false := by
 simp [nameL, h]
theorem name_bad3 (pre : List Nat) (r : Nat) (rest : List Nat) (h : pre.length = 20) : nameL (pre ++ r :: rest) = false := by
 have : decide ((pre ++ r :: rest).length ≤ 20) = false := decide_eq_false (by rw [List.length_append, List.length_cons]; omega);simp only [nameL, this, Bool.and_false, Bool.false_and]
def OkPre (pre : List Nat) : Prop := pre.all mayR = true ∧ digitR (pre.headD 0) = false
theorem okPre_nil : OkPre [] := ⟨rfl, by decide⟩
theorem okPre_snoc {pre : List Nat} {r : Nat} (h : OkPre pre) (hr : mayR r = true) (hd : pre = [] → digitR r = false) : OkPre (pre ++ [r]) := by
 refine ⟨by rw [List.all_append, h.1]; simpa using hr, ?_⟩
 cases pre with
 | nil => exact hd rfl
 | cons x t => exact h.2
theorem okPre_name {pre : List Nat} (h : OkPre pre) (hl : pre.length ≤ 20) : nameL pre = decide (0 < pre.length) := by
 unfold nameL;rw [h.1, h.2, decide_eq_true hl];simp
def resvL : List ByteArray := [⟨#[98, 101, 103, 105, 110]⟩, ⟨#[114, 101, 97, 100]⟩, ⟨#[119, 114, 105, 116, 101]⟩, ⟨#[111, 107]⟩, ⟨#[102, 97, 105, 108]⟩, ⟨#[105, 110, 102, 111]⟩, ⟨#[110, 105, 108]⟩]
def reservedL (l : List UInt8) : Bool := (resvL.map by_).contains l
def isName (s : ByteArray) : Bool := validD (by_ s) && !reservedL (by_ s) && nameL (runesL (by_ s))
def encL (rs : List Nat) : List UInt8 := (rs.map fun (r : Nat) => encodeRune (r : Int)).flatten
theorem enc_len : ∀ rs : List Nat, (encL rs).length ≤ 4 * rs.length
 | [] => Nat.zero_le _
 | r :: rs => by
  have ih := enc_len rs;have h : (encodeRune (r : Int)).length ≤ 4 := by
   unfold encodeRune;rw [List.length_map];exact (encodeRuneZ_length _).2
  show (encodeRune (r : Int) ++ encL rs).length ≤ _
  rw [List.length_append, List.length_cons];omega
theorem enc_rune {m : List UInt8} {r : Nat} (hm : IsRune m r) : encodeRune (r : Int) = m := by
 have h := encode_decode m hm.ne (by have := hm.dec []; rw [List.append_nil] at this; rw [this]; exact hm.good);have hd := hm.dec [];rw [List.append_nil] at hd;rw [hd] at h
 rwa [List.take_length] at h
theorem enc_runes {l : List UInt8} (hv : validD l = true) : encL (runesL l) = l := by
 refine valid_ind (p := fun l => encL (runesL l) = l) rfl ?_ l.length l (Nat.le_refl _) hv;intro m rest r hm _ ih;rw [runes_rune hm]
 show encodeRune (r : Int) ++ encL (runesL rest) = _
 rw [enc_rune hm, ih]
theorem runes_inj {a b : List UInt8} (ha : validD a = true) (hb : validD b = true) (h : runesL a = runesL b) : a = b := by
 rw [← enc_runes ha, ← enc_runes hb, h]
def kOk (k : Int) : Bool := decide (1 ≤ k ∧ k ≤ 6)
def kN (k : Int) : Int := if 1 ≤ k ∧ k ≤ 6 then k else 0
def kW (k : Int) : ByteArray := if k = 1 then ⟨#[98, 101, 103, 105, 110]⟩ else if k = 2 then ⟨#[114, 101, 97, 100]⟩ else if k = 3 then ⟨#[119, 114, 105, 116, 101]⟩ else if k = 4 then ⟨#[111, 107]⟩ else if k = 5 then ⟨#[102, 97, 105, 108]⟩ else if k = 6 then ⟨#[105, 110, 102, 111]⟩ else ⟨#[]⟩
def kO (k : Int) : Bool := decide (k = 2 ∨ k = 3)
def wK (s : ByteArray) : Int := if s = ⟨#[98, 101, 103, 105, 110]⟩ then 1 else if s = ⟨#[114, 101, 97, 100]⟩ then 2 else if s = ⟨#[119, 114, 105, 116, 101]⟩ then 3 else if s = ⟨#[111, 107]⟩ then 4 else if s = ⟨#[102, 97, 105, 108]⟩ then 5 else if s = ⟨#[105, 110, 102, 111]⟩ then 6 else 0
theorem kN_cases (k : Int) : (k = 1) ∨ (k = 2) ∨ (k = 3) ∨ (k = 4) ∨ (k = 5) ∨ (k = 6) ∨ (kN k = 0 ∧ kOk k = false ∧ kO k = false ∧ kW k = ⟨#[]⟩ ∧ k ≠ 1 ∧ k ≠ 2 ∧ k ≠ 3 ∧ k ≠ 4 ∧ k ≠ 5 ∧ k ≠ 6) := by
 by_cases h : 1 ≤ k ∧ k ≤ 6
 ·omega
 ·have h1 : k ≠ 1 := by omega
  have h2 : k ≠ 2 := by omega
  have h3 : k ≠ 3 := by omega
  have h4 : k ≠ 4 := by omega
  have h5 : k ≠ 5 := by omega
  have h6 : k ≠ 6 := by omega
  iterate 6 right
  refine ⟨if_neg h, decide_eq_false h, decide_eq_false (by omega), ?_, h1, h2, h3, h4, h5, h6⟩;unfold kW;rw [if_neg h1, if_neg h2, if_neg h3, if_neg h4, if_neg h5, if_neg h6]
theorem wK_cases (s : ByteArray) : (s = ⟨#[98, 101, 103, 105, 110]⟩ ∧ wK s = 1) ∨ (s = ⟨#[114, 101, 97, 100]⟩ ∧ wK s = 2) ∨ (s = ⟨#[119, 114, 105, 116, 101]⟩ ∧ wK s = 3) ∨ (s = ⟨#[111, 107]⟩ ∧ wK s = 4) ∨ (s = ⟨#[102, 97, 105, 108]⟩ ∧ wK s = 5) ∨ (s = ⟨#[105, 110, 102, 111]⟩ ∧ wK s = 6) ∨ (wK s = 0 ∧ s ≠ ⟨#[98, 101, 103, 105, 110]⟩ ∧ s ≠ ⟨#[114, 101, 97, 100]⟩ ∧ s ≠ ⟨#[119, 114, 105, 116, 101]⟩ ∧ s ≠ ⟨#[111, 107]⟩ ∧ s ≠ ⟨#[102, 97, 105, 108]⟩ ∧ s ≠ ⟨#[105, 110, 102, 111]⟩) := by
 unfold wK
 by_cases h1 : s = ⟨#[98, 101, 103, 105, 110]⟩
 ·subst h1; left; exact ⟨rfl, by decide⟩
 by_cases h2 : s = ⟨#[114, 101, 97, 100]⟩
 ·subst h2; right; left; exact ⟨rfl, by decide⟩
 by_cases h3 : s = ⟨#[119, 114, 105, 116, 101]⟩
 ·subst h3; right; right; left; exact ⟨rfl, by decide⟩
 by_cases h4 : s = ⟨#[111, 107]⟩
 ·subst h4; right; right; right; left; exact ⟨rfl, by decide⟩
 by_cases h5 : s = ⟨#[102, 97, 105, 108]⟩
 ·subst h5; right; right; right; right; left; exact ⟨rfl, by decide⟩
 by_cases h6 : s = ⟨#[105, 110, 102, 111]⟩
 ·subst h6; right; right; right; right; right; left; exact ⟨rfl, by decide⟩
 iterate 6 right
 exact ⟨by rw [if_neg h1, if_neg h2, if_neg h3, if_neg h4, if_neg h5, if_neg h6], h1, h2, h3, h4, h5, h6⟩
theorem ev_ne {s : ByteArray} {l : List UInt8} (h : s ≠ ⟨l.toArray⟩) : (s.toList == l) = false ∧ (l == s.toList) = false := by
 constructor
 all_goals
  rw [beq_eq_false_iff_ne, Lib.toList_data];intro e
 ·exact h (by_inj (e.trans List.toList_toArray.symm))
 ·exact h (by_inj (e.symm.trans List.toList_toArray.symm))
def verbC : List Value := [.int .i64 1, .string ⟨#[98, 101, 103, 105, 110]⟩, .bool false, .int .i64 2, .string ⟨#[114, 101, 97, 100]⟩, .bool true, .int .i64 3, .string ⟨#[119, 114, 105, 116, 101]⟩, .bool true, .int .i64 4, .string ⟨#[111, 107]⟩, .bool false, .int .i64 5, .string ⟨#[102, 97, 105, 108]⟩, .bool false, .int .i64 6, .string ⟨#[105, 110, 102, 111]⟩, .bool false]
def verbV : Value := .agg #[.int .i64 1, .string ⟨#[98, 101, 103, 105, 110]⟩, .bool false, .int .i64 2, .string ⟨#[114, 101, 97, 100]⟩, .bool true, .int .i64 3, .string ⟨#[119, 114, 105, 116, 101]⟩, .bool true, .int .i64 4, .string ⟨#[111, 107]⟩, .bool false, .int .i64 5, .string ⟨#[102, 97, 105, 108]⟩, .bool false, .int .i64 6, .string ⟨#[105, 110, 102, 111]⟩, .bool false]
def Verbs (w : World) : Prop := 2 < w.heap.size ∧ ∀ (i : Nat) (u : Value), verbC[i]? = some u → w.cell? ⟨2, i, none⟩ = some u
theorem Verbs.only {w w' : World} (h : Verbs w) (ho : Only [] w w') : Verbs w' :=
 ⟨Nat.lt_of_lt_of_le h.1 ho.size, fun i u hu => (ho.cell (p := ⟨2, i, none⟩) h.1 (by simp)).trans (h.2 i u hu)⟩
theorem verb_i0 (w : World) : (Instr.index 196 verbV (.int .i64 0)).run Tryz.prog w = .ok (.agg #[.int .i64 1, .string (kW 1), .bool (kO 1)]) w := by kernel_rfl
theorem verb_i1 (w : World) : (Instr.index 196 verbV (.int .i64 1)).run Tryz.prog w = .ok (.agg #[.int .i64 2, .string (kW 2), .bool (kO 2)]) w := by kernel_rfl
theorem verb_i2 (w : World) : (Instr.index 196 verbV (.int .i64 2)).run Tryz.prog w = .ok (.agg #[.int .i64 3, .string (kW 3), .bool (kO 3)]) w := by kernel_rfl
theorem verb_i3 (w : World) : (Instr.index 196 verbV (.int .i64 3)).run Tryz.prog w = .ok (.agg #[.int .i64 4, .string (kW 4), .bool (kO 4)]) w := by kernel_rfl
theorem verb_i4 (w : World) : (Instr.index 196 verbV (.int .i64 4)).run Tryz.prog w = .ok (.agg #[.int .i64 5, .string (kW 5), .bool (kO 5)]) w := by kernel_rfl
theorem verb_i5 (w : World) : (Instr.index 196 verbV (.int .i64 5)).run Tryz.prog w = .ok (.agg #[.int .i64 6, .string (kW 6), .bool (kO 6)]) w := by kernel_rfl
theorem verb_idx (j : Nat) (hj : j < 6) (w : World) : (Instr.index 196 verbV (.int .i64 (j : Int))).run Tryz.prog w = .ok (.agg #[.int .i64 ((j : Int) + 1), .string (kW ((j : Int) + 1)), .bool (kO ((j : Int) + 1))]) w := by
 have h : j = 0 ∨ j = 1 ∨ j = 2 ∨ j = 3 ∨ j = 4 ∨ j = 5 := by omega
 rcases h with rfl | rfl | rfl | rfl | rfl | rfl
 ·exact verb_i0 w
 ·exact verb_i1 w
 ·exact verb_i2 w
 ·exact verb_i3 w
 ·exact verb_i4 w
 ·exact verb_i5 w
end Go.Proofs.YtjfbeeogiejopaaGreatDoor


set_option linter.unusedVariables false
set_option linter.unusedSimpArgs false
namespace Go.Proofs.YtjfbeeogiejopaaGreatDoor
open Go.RowKit
section
variable {P : Program}
theorem results_row1 {fn : Func} {p : Tmp} {ty : TypeId} (h : fn.results = #[.cell p ty]) (tmps : Array Value) (w : World) (g : Nat) (t : TypeId) (cs : Array Value) (d : TypeDesc)
  (hp : tmps.getD p undef = .pointer (some ⟨g, 0, none⟩)) (hg : Blk w g t cs) (hu : P.underlying ty = some d) (hd : d.isRow = true) (hi : (P.info? ty).map (·.size) = some cs.size) :
  (results fn tmps).run P w = .ok (.agg cs) w :=
 results_cell_row h tmps w g t cs (0, 0) d hp hg hu (by cases d <;> simp_all) hi
theorem results_row2 {fn : Func} {p u : Tmp} {ty : TypeId} (h : fn.results = #[.cell p ty, .tmp u]) (tmps : Array Value) (w : World) (g : Nat) (t : TypeId) (cs : Array Value) (d : TypeDesc)
  (hp : tmps.getD p undef = .pointer (some ⟨g, 0, none⟩)) (hg : Blk w g t cs) (hu : P.underlying ty = some d) (hd : d.isRow = true) (hi : (P.info? ty).map (·.size) = some cs.size) :
  (results fn tmps).run P w = .ok (.tuple #[.agg cs, tmps.getD u undef]) w := by
 have hl := run_loadVar_row (P := P) w g t ty cs (0, 0) d hg hu (by cases d <;> simp_all) hi;rw [results_cell_tmp h, hp];simp [asAddr, hl, Result.andThen]
theorem results_row3 {fn : Func} {p u v : Tmp} {ty : TypeId} (h : fn.results = #[.cell p ty, .tmp u, .tmp v]) (tmps : Array Value) (w : World) (g : Nat) (t : TypeId) (cs : Array Value) (d : TypeDesc)
  (hp : tmps.getD p undef = .pointer (some ⟨g, 0, none⟩)) (hg : Blk w g t cs) (hu : P.underlying ty = some d) (hd : d.isRow = true) (hi : (P.info? ty).map (·.size) = some cs.size) :
  (results fn tmps).run P w = .ok (.tuple #[.agg cs, tmps.getD u undef, tmps.getD v undef]) w := by
 have hp' : tmps[p]?.getD undef = .pointer (some ⟨g, 0, none⟩) := by simpa using hp
 have hl := run_loadVar_row (P := P) w g t ty cs (0, 0) d hg hu (by cases d <;> simp_all) hi;simp only [results, h];simp [Sem.run_bind, Result.andThen, hp', asAddr, hl]
end
theorem Blk.there {w : World} {g : Nat} {t : TypeId} {cs : Array Value} (h : Blk w g t cs) : w.there g 0 cs.size := fun j hj => by
 rw [Nat.zero_add];exact ⟨by rw [h.at_ j]; simp [hj], h.free j⟩
theorem setCells_only (g : Nat) : ∀ (vs : List Value) (o : Nat) (S : List Nat) (w w' : World), Only S w w' → (g < w.heap.size → g ∈ S) → Only S w (w'.setCells g o vs)
 | [], _, _, _, _, h, _ => h
 | v :: vs, o, S, w, w', h, hg => setCells_only g vs (o + 1) S w _ (h.put (p := ⟨g, o, none⟩) hg v) hg
theorem Only.putAll {S : List Nat} {w w' : World} (h : Only S w w') {g : Nat} (hg : g < w.heap.size → g ∈ S) (vs : List Value) : Only S w (w'.setCells g 0 vs) := setCells_only g vs 0 S w w' h hg
theorem setCells_blk (g : Nat) (t : TypeId) : ∀ (vs : List Value) (o : Nat) (w : World) (cs : Array Value), Blk w g t cs → o + vs.length = cs.size → Blk (w.setCells g o vs) g t (cs.toList.take o ++ vs).toArray
 | [], o, w, cs, h, hl => by
  have e : (cs.toList.take o ++ []).toArray = cs := by
   rw [List.append_nil, List.take_of_length_le (by simp at hl ⊢; omega)]
  rw [e];exact h
 | v :: vs, o, w, cs, h, hl => by
  have h1 := h.put o v;have hl2 : o < cs.size := by simp at hl; omega
  have h2 := setCells_blk g t vs (o + 1) _ _ h1 (by simp at hl ⊢; omega);have e : (cs.setIfInBounds o v).toList.take (o + 1) ++ vs = cs.toList.take o ++ v :: vs := by
   rw [Array.toList_setIfInBounds, List.take_add_one, List.take_set_of_le (by omega)];simp [hl2]
  rw [e] at h2;exact h2
theorem Blk.putAll {w : World} {g : Nat} {t : TypeId} {cs : Array Value} (h : Blk w g t cs) (vs : List Value) (hl : vs.length = cs.size) : Blk (w.setCells g 0 vs) g t vs.toArray := by
 have := setCells_blk g t vs 0 w cs h (by simpa using hl)
 simpa using this
theorem Blk.range {w : World} {g : Nat} {t : TypeId} {cs : Array Value} (h : Blk w g t cs) : w.rangeAt g 0 cs.toList := fun j v hj => by
 rw [Nat.zero_add, h.at_ j]
 simpa using hj
theorem wp_store_blk {P : Program} {op : Oper} {a : Act} {w : World} {K : Act → World → Prop} {Q : Exit → Act → World → Prop} (ty : TypeId) (x y : Operand) (ho : op.op = .store ty x y)
  (g : Nat) (t : TypeId) (cs cells : Array Value) (hx : a.eval x = .pointer (some ⟨g, 0, none⟩)) (hy : a.eval y = .agg cells)
  (hb : Blk w g t cs) (hl : cells.size = cs.size) (hi : (P.info? ty).map (·.size) = some cells.size) (h1 : cells.all (·.oneCell') = true)
  (h : ∀ w', Blk w' g t cells → Only [g] w w' → K (a.put op.dst undef) w') : op.wp P a w K Q :=
 wp_store_mid ty x y ho g 0 cells hx hy (by rw [hl]; exact hb.there) hi h1 (h _ (by have := hb.putAll cells.toList (by simpa using hl); simpa using this) ((Only.refl [g] w).putAll (fun _ => by simp) _))
end Go.Proofs.YtjfbeeogiejopaaGreatDoor
namespace Go.Proofs.YtjfbeeogiejopaaGreatDoor
open Go.RowKit
attribute [local go_sem ↓] Go.wp_at_zero Go.wp_at_succ
theorem wK_of (j : Nat) (h : j < 6) : wK (kW ((j : Int) + 1)) = (j : Int) + 1 := by
 have h : j = 0 ∨ j = 1 ∨ j = 2 ∨ j = 3 ∨ j = 4 ∨ j = 5 := by omega
 rcases h with rfl | rfl | rfl | rfl | rfl | rfl <;> decide
theorem text_off {s t : ByteArray} (h : s ≠ t) : (s.toList == t.toList) = false := by
 rw [beq_eq_false_iff_ne, Lib.toList_data, Lib.toList_data];intro e;exact h (by_inj e)
theorem ofWord_any (s : ByteArray) (w : World) (hV : Verbs w) : Calls Tryz.prog 117 #[.string s] w fun e w' => e = .returned (.tuple #[.agg #[.int .i64 (wK s), .string (kW (wK s)), .bool (kO (wK s))], .bool (kOk (wK s))]) ∧ Only [] w w' := by
 have hv1 := hV.only ((Only.refl [] w).alloc (.cells #[.int .i64 0, .string ⟨#[]⟩, .bool false] 151));have hx := verb_idx;have HX := Hd hx;have HB := Hd (Blk.made w 151 #[.int .i64 0, .string ⟨#[]⟩, .bool false]);have HO := Hd ((Only.refl [] w).alloc (.cells #[.int .i64 0, .string ⟨#[]⟩, .bool false] 151));have HX2 := HX;have HV1 : Hid (World.rangeAt (w.alloc (.cells #[.int .i64 0, .string ⟨#[]⟩, .bool false] 151)) 2 0 verbC) := Hd (fun j v hj => by rw [Nat.zero_add]; exact hv1.2 j v hj);clear hV hx hv1 HX;go_enter Tryz.func117, Tryz.ntmps117;go_upto_region 1 with (fail)
 refine wp_region_lit ?_;refine wpList_load_mid rfl 196 (.global 2) rfl 2 0 rfl verbC (.array 6 151) HV1.out (by kernel_rfl) rfl (by kernel_rfl) ?_;have hvv : Value.agg verbC.toArray = verbV := by rfl
 rw [hvv];have HX := HX2;clear HX2 HV1 hvv;generalize verbV = V at *;go_wp2_with fail
 go_loopw [7] (fun i wr => ∃ j : Nat, i = .int .i64 j ∧ j ≤ 6 ∧ Hid (∀ m : Nat, 1 ≤ m → m ≤ j → s ≠ kW (m : Int)) ∧ Hid (Blk wr w.heap.size 151 #[.int .i64 0, .string ⟨#[]⟩, .bool false]) ∧ Hid (Only [] w wr)) (fun i _ => 6 - (intOf i).toNat)
 case atStart => exact ⟨0, rfl, by omega, Hd (fun m h1 h2 => by omega), HB, HO⟩
 case round =>
  obtain ⟨j, rfl, hj, hno, hb, ho⟩ := hrel;have h00 := ho.out.size;have f0 := hb.out.at_ 0;have f1 := hb.out.at_ 1;have f2 := hb.out.at_ 2;have g0 := hb.out.free 0;have g1 := hb.out.free 1;have g2 := hb.out.free 2;simp at f0 f1 f2;have hb0 := hb.out.lt
  by_cases hlt : j < 6
  ·have hidx := HX.out j hlt;have h01 : (j : Int) < 6 := by omega
   have hwk : IntKind.i64.wrap ((j : Int) + 1) = (j : Int) + 1 := IntWalk.i64_in _ (by omega)
   by_cases hk : s = kW ((j : Int) + 1)
   ·have HE : Hid (wK s = (j : Int) + 1 ∧ kOk ((j : Int) + 1) = true) := Hd ⟨by rw [hk]; exact wK_of j hlt, decide_eq_true (by omega)⟩;obtain ⟨oo, hoo⟩ : ∃ oo, oo = kO ((j : Int) + 1) := ⟨_, rfl⟩;rw [← hk, ← hoo] at hidx;have HWW := Hd hk;have HOO := Hd hoo;have hbt : (s.toList == s.toList) = true := by simp
    clear hk hoo;go_wp2
    have bF : Blk _ w.heap.size 151 #[.int .i64 ((j : Int) + 1), .string s, .bool oo] := ((hb.out.put 0 (.int .i64 ((j : Int) + 1))).put 1 (.string s)).put 2 (.bool oo);refine bodyPost_ret (results_row2 Tryz.results117 _ _ w.heap.size 151 #[.int .i64 ((j : Int) + 1), .string s, .bool oo] _ rfl (bF.alloc _) Tryz.underlying151 rfl (by kernel_rfl)) rfl ⟨by rw [HE.out.1, HE.out.2, ← HWW.out, HOO.out]; rfl, ?_⟩
    repeat (first | exact ho.out | refine Only.put ?_ (fun h => by simp only at h; omega) _ | refine Only.alloc ?_ _)
   ·have HK := Hd hk;have hbt : ((kW ((j : Int) + 1)).toList == s.toList) = false := text_off (fun e => hk e.symm);obtain ⟨ww, hw⟩ : ∃ ww, ww = kW ((j : Int) + 1) := ⟨_, rfl⟩;rw [← hw] at hidx hbt;have HWW := Hd hw;generalize kO ((j : Int) + 1) = oo at *;clear hk hw;go_wp2
    go_roundw
    case rel =>
     refine ⟨j + 1, by go_num, by omega, Hd (fun m h1 h2 e => ?_), Hd ?_, Hd ?_⟩
     ·rcases Nat.lt_or_ge j m with h3 | h3
      ·have : m = j + 1 := by omega
       subst this;exact HK.out e
      ·exact hno.out m h1 h3 e
     ·repeat (first | exact hb.out | refine Blk.far ?_ (by simp; omega) _ | refine Blk.alloc ?_ _)
     ·repeat (first | exact ho.out | refine Only.put ?_ (fun h => by simp only at h; omega) _ | refine Only.alloc ?_ _)
    case measure => simp [intOf]; omega
  ·obtain rfl : j = 6 := by omega
   have HZ : Hid (wK s = 0) := Hd (by
    have q := hno.out;have q1 := q 1 (by omega) (by omega);have q2 := q 2 (by omega) (by omega);have q3 := q 3 (by omega) (by omega);have q4 := q 4 (by omega) (by omega);have q5 := q 5 (by omega) (by omega);have q6 := q 6 (by omega) (by omega);rcases wK_cases s with ⟨e, -⟩ | ⟨e, -⟩ | ⟨e, -⟩ | ⟨e, -⟩ | ⟨e, -⟩ | ⟨e, -⟩ | ⟨e, -⟩
    ·exact absurd e q1
    ·exact absurd e q2
    ·exact absurd e q3
    ·exact absurd e q4
    ·exact absurd e q5
    ·exact absurd e q6
    ·exact e)
   go_wp2
   have bF : Blk _ w.heap.size 151 #[.int .i64 0, .string ⟨#[]⟩, .bool false] := ((hb.out.put 0 (.int .i64 0)).put 1 (.string ⟨#[]⟩)).put 2 (.bool false);refine bodyPost_ret (results_row2 Tryz.results117 _ _ w.heap.size 151 #[.int .i64 0, .string ⟨#[]⟩, .bool false] _ rfl bF Tryz.underlying151 rfl (by kernel_rfl)) rfl ⟨by rw [HZ.out]; rfl, ?_⟩
   repeat (first | exact ho.out | refine Only.put ?_ (fun h => by simp only at h; omega) _ | refine Only.alloc ?_ _)
theorem ofKind_any (k : Int) (w : World) (hV : Verbs w) : Calls Tryz.prog 164 #[.int .i64 k] w fun e w' => e = .returned (.tuple #[.agg #[.int .i64 (kN k), .string (kW k), .bool (kO k)], .bool (kOk k)]) ∧ Only [] w w' := by
 have hv1 := hV.only ((Only.refl [] w).alloc (.cells #[.int .i64 0, .string ⟨#[]⟩, .bool false] 151));have hx := verb_idx;have HX := Hd hx;have HB := Hd (Blk.made w 151 #[.int .i64 0, .string ⟨#[]⟩, .bool false]);have HO := Hd ((Only.refl [] w).alloc (.cells #[.int .i64 0, .string ⟨#[]⟩, .bool false] 151));have HX2 := HX;have HV1 : Hid (World.rangeAt (w.alloc (.cells #[.int .i64 0, .string ⟨#[]⟩, .bool false] 151)) 2 0 verbC) := Hd (fun j v hj => by rw [Nat.zero_add]; exact hv1.2 j v hj);clear hV hx hv1 HX;go_enter Tryz.func164, Tryz.ntmps164;go_upto_region 1 with (fail)
 refine wp_region_lit ?_;refine wpList_load_mid rfl 196 (.global 2) rfl 2 0 rfl verbC (.array 6 151) HV1.out (by kernel_rfl) rfl (by kernel_rfl) ?_;have hvv : Value.agg verbC.toArray = verbV := by rfl
 rw [hvv];have HX := HX2;clear HX2 HV1 hvv;generalize verbV = V at *;go_wp2_with fail
 go_loopw [7] (fun i wr => ∃ j : Nat, i = .int .i64 j ∧ j ≤ 6 ∧ Hid (∀ m : Nat, 1 ≤ m → m ≤ j → k ≠ (m : Int)) ∧ Hid (Blk wr w.heap.size 151 #[.int .i64 0, .string ⟨#[]⟩, .bool false]) ∧ Hid (Only [] w wr)) (fun i _ => 6 - (intOf i).toNat)
 case atStart => exact ⟨0, rfl, by omega, Hd (fun m h1 h2 => by omega), HB, HO⟩
 case round =>
  obtain ⟨j, rfl, hj, hno, hb, ho⟩ := hrel;have h00 := ho.out.size;have f0 := hb.out.at_ 0;have f1 := hb.out.at_ 1;have f2 := hb.out.at_ 2;have g0 := hb.out.free 0;have g1 := hb.out.free 1;have g2 := hb.out.free 2;simp at f0 f1 f2;have hb0 := hb.out.lt
  by_cases hlt : j < 6
  ·have hidx := HX.out j hlt;have h01 : (j : Int) < 6 := by omega
   have hwk : IntKind.i64.wrap ((j : Int) + 1) = (j : Int) + 1 := IntWalk.i64_in _ (by omega)
   by_cases hk : k = (j : Int) + 1
   ·subst hk;have hbt : ((j : Int) + 1 == (j : Int) + 1) = true := by simp
    have HE : Hid (kN ((j : Int) + 1) = (j : Int) + 1 ∧ kOk ((j : Int) + 1) = true) := Hd ⟨if_pos (by omega), decide_eq_true (by omega)⟩;obtain ⟨ww, hw⟩ : ∃ ww, ww = kW ((j : Int) + 1) := ⟨_, rfl⟩;obtain ⟨oo, hoo⟩ : ∃ oo, oo = kO ((j : Int) + 1) := ⟨_, rfl⟩;rw [← hw, ← hoo] at hidx;have HWW := Hd hw;have HOO := Hd hoo;clear hw hoo;go_wp2
    have bF : Blk _ w.heap.size 151 #[.int .i64 ((j : Int) + 1), .string ww, .bool oo] := ((hb.out.put 0 (.int .i64 ((j : Int) + 1))).put 1 (.string ww)).put 2 (.bool oo);refine bodyPost_ret (results_row2 Tryz.results164 _ _ w.heap.size 151 #[.int .i64 ((j : Int) + 1), .string ww, .bool oo] _ rfl (bF.alloc _) Tryz.underlying151 rfl (by kernel_rfl)) rfl ⟨by rw [HE.out.1, HE.out.2, HWW.out, HOO.out]; rfl, ?_⟩
    repeat (first | exact ho.out | refine Only.put ?_ (fun h => by simp only at h; omega) _ | refine Only.alloc ?_ _)
   ·have hbt : ((j : Int) + 1 == k) = false := by simp; omega
    have HK := Hd hk;clear hk;go_wp2
    go_roundw
    case rel =>
     refine ⟨j + 1, by go_num, by omega, Hd (fun m h1 h2 e => ?_), Hd ?_, Hd ?_⟩
     ·rcases Nat.lt_or_ge j m with h3 | h3
      ·have : m = j + 1 := by omega
       subst this;exact HK.out (by rw [e]; omega)
      ·exact hno.out m h1 h3 e
     ·repeat (first | exact hb.out | refine Blk.far ?_ (by simp; omega) _ | refine Blk.alloc ?_ _)
     ·repeat (first | exact ho.out | refine Only.put ?_ (fun h => by simp only at h; omega) _ | refine Only.alloc ?_ _)
    case measure => simp [intOf]; omega
  ·obtain rfl : j = 6 := by omega
   have HZ : Hid (kN k = 0 ∧ kOk k = false ∧ kO k = false ∧ kW k = ⟨#[]⟩) := Hd (by
    have q := hno.out;have q1 := q 1 (by omega) (by omega);have q2 := q 2 (by omega) (by omega);have q3 := q 3 (by omega) (by omega);have q4 := q 4 (by omega) (by omega);have q5 := q 5 (by omega) (by omega);have q6 := q 6 (by omega) (by omega);rcases kN_cases k with e | e | e | e | e | e | ⟨e1, e2, e3, e4, -⟩
    ·exact absurd e q1
    ·exact absurd e q2
    ·exact absurd e q3
    ·exact absurd e q4
    ·exact absurd e q5
    ·exact absurd e q6
    ·exact ⟨e1, e2, e3, e4⟩)
   go_wp2
   have bF : Blk _ w.heap.size 151 #[.int .i64 0, .string ⟨#[]⟩, .bool false] := ((hb.out.put 0 (.int .i64 0)).put 1 (.string ⟨#[]⟩)).put 2 (.bool false);refine bodyPost_ret (results_row2 Tryz.results164 _ _ w.heap.size 151 #[.int .i64 0, .string ⟨#[]⟩, .bool false] _ rfl bF Tryz.underlying151 rfl (by kernel_rfl)) rfl ⟨by rw [HZ.out.1, HZ.out.2.1, HZ.out.2.2.1, HZ.out.2.2.2]; rfl, ?_⟩
   repeat (first | exact ho.out | refine Only.put ?_ (fun h => by simp only at h; omega) _ | refine Only.alloc ?_ _)
end Go.Proofs.YtjfbeeogiejopaaGreatDoor


set_option linter.unusedVariables false
set_option linter.unusedSimpArgs false
namespace Go.Proofs.YtjfbeeogiejopaaGreatDoor
open Go.RowKit Go.ChangeShapes Go.WideShapes
def Row (w : World) (B : Nat) (A : Option Addr) (xs : List Value) : Prop :=
 xs = [] ∨ ∃ b off, A = some ⟨b, off, none⟩ ∧ b < B ∧ B ≤ w.heap.size ∧ ∀ (j : Nat) (u : Value), xs[j]? = some u → w.cell? ⟨b, off + j, none⟩ = some u
section
variable {w w' : World} {B : Nat} {A : Option Addr} {xs : List Value}
theorem Row.nil : Row w B A [] := .inl rfl
theorem Row.open_ (h : Row w B A xs) {k : Nat} (hk : k < xs.length) :
  ∃ b off, A = some ⟨b, off, none⟩ ∧ b < B ∧ b < w.heap.size ∧ ∀ (j : Nat) (u : Value), xs[j]? = some u → w.cell? ⟨b, off + j, none⟩ = some u := by
 rcases h with rfl | ⟨b, off, hA, hb, hs, hc⟩
 ·simp at hk
 ·exact ⟨b, off, hA, hb, by omega, hc⟩
theorem Row.only {S : List Nat} (h : Row w B A xs) (ho : Only S w w') (hS : ∀ i ∈ S, B ≤ i) : Row w' B A xs := by
 rcases h with rfl | ⟨b, off, hA, hb, hs, hc⟩
 ·exact .inl rfl
 ·refine .inr ⟨b, off, hA, hb, Nat.le_trans hs ho.size, fun j u hu => ?_⟩;rw [ho.cell (p := ⟨b, off + j, none⟩) (Nat.lt_of_lt_of_le hb hs) (fun hm => by have := hS _ hm; simp only at this; omega)];exact hc j u hu
theorem Row.take (h : Row w B A xs) (n : Nat) : Row w B A (xs.take n) := by
 rcases h with rfl | ⟨b, off, hA, hb, hs, hc⟩
 ·exact .inl (by simp)
 ·refine .inr ⟨b, off, hA, hb, hs, fun j u hu => hc j u ?_⟩;rw [List.getElem?_take] at hu
  split at hu
  ·exact hu
  ·cases hu
end
theorem row_up {w : World} {B : Nat} {A : Option Addr} {xs : List Value} (h : Row w B A xs) : Row w w.heap.size A xs := by
 rcases h with h | ⟨b, off, hA, hb, hs, hc⟩
 ·exact .inl h
 ·exact .inr ⟨b, off, hA, Nat.lt_of_lt_of_le hb hs, Nat.le_refl _, hc⟩
section
variable {H : Type} {enc : TypeId × Value → H} {P : Program} {w : World}
end
theorem bd_i64 {n : Int} (h : (Lit.int .i64 n).wf = true) : -9223372036854775808 ≤ n ∧ n ≤ 9223372036854775807 := by
 simpa [Lit.wf, IntKind.min, IntKind.max, IntKind.signed, IntKind.bits] using h
section
variable {H : Type} {enc : TypeId × Value → H} {P : Program} {w : World}
open Go.Deep
end
end Go.Proofs.YtjfbeeogiejopaaGreatDoor

set_option linter.unusedVariables false
set_option linter.unusedSimpArgs false
namespace Go.Proofs.YtjfbeeogiejopaaGreatDoor
open Go.RowKit
section
variable {P : Program} (w : World)
theorem run_append_row (base : Nat) (t ty e : TypeId) (i : TypeInfo) (z : Value) (size bytes : Nat) (ht : P.underlying t = some (.slice e)) (hi : P.info? e = some i) (hz : i.zero = some z)
  (hsize : i.size = size) (hby : i.bytes = bytes) (hzs : z.cells.size = size) (hsz : 0 < size)
  (v : Value) (n : Nat) (xs : List Value) (hown : w.ownsRow base e size v n xs) (B : Nat) (A : Option Addr) (m c : Nat) (news : List Value) (hl : news.length = m * size)
  (hr : Row w B A news) (h1 : ∀ u ∈ news, u.oneCell' = true) (h63 : n + m ≤ maxLen) (hbytes : (n + m) * bytes ≤ 140737488355328) (hbase : base ≤ w.heap.size) :
  ∃ v' w', (Builtin.append_ #[t, t] ty #[v, .slice A m c]).run P w = .ok v' w' ∧ w'.ownsRow base e size v' (n + m) (xs ++ news) ∧ w.grownBy w' v.ownBlock ∧
   (v'.ownBlock = v.ownBlock ∨ v'.ownBlock = some w.heap.size) := by
 cases A with
 | none =>
  have hn : news = [] := by
   rcases hr with h | ⟨b, off, h, _⟩
   ·exact h
   ·cases h
  subst hn;have hm : m = 0 := by
   have h2 : m * size = 0 := by simpa using hl.symm
   rcases Nat.mul_eq_zero.1 h2 with h | h
   ·exact h
   ·omega
  subst hm;refine ⟨v, w, ?_, by simpa using hown, ⟨rfl, rfl, rfl, Nat.le_refl _, fun _ _ _ => rfl⟩, .inl rfl⟩;rcases hown.2 with ⟨rfl, rfl⟩ | ⟨g, cap, cur, rfl, _, _, hnc, _⟩
  ·simp [Builtin.append_, run_underlying ht, sizeOf, typeInfo, hi, Builtin.lenOf, Builtin.firstCells]
  ·simp [Builtin.append_, run_underlying ht, sizeOf, typeInfo, hi, Builtin.lenOf, Builtin.firstCells, hnc, storeCells]
 | some ad =>
  have hcells : ∀ j u, news[j]? = some u → w.cell? (ad.add j) = some u := by
   intro j u hu;rcases hr with h | ⟨b, off, h, _, _, hc⟩
   ·subst h; cases hu
   ·injection h with h;subst h;have := hc j u hu;unfold Addr.add
    split
    ·rename_i h0; subst h0; exact this
    ·exact this
  obtain ⟨v', w', h2, h3, h4, _, h5⟩ := run_append_own_at (P := P) w base t ty e i z size bytes ht hi hz hsize hby hzs hsz v n xs hown ad m c news hl hcells h1 h63 hbytes hbase;exact ⟨v', w', h2, h3, h4, h5⟩
theorem wp_append_row {o : Oper} {a : Act} {K : Act → World → Prop} {Q : Exit → Act → World → Prop} (s x : Operand) (t : TypeId)
  (ho : o.op = .call { callee := .builtin .append, args := #[s, x], argTypes := #[t, t] })
  (base : Nat) (e : TypeId) (i : TypeInfo) (z : Value) (size bytes : Nat) (ht : P.underlying t = some (.slice e)) (hi : P.info? e = some i) (hz : i.zero = some z)
  (hsize : i.size = size) (hby : i.bytes = bytes) (hzs : z.cells.size = size) (hsz : 0 < size)
  (v : Value) (n : Nat) (xs : List Value) (hs : a.eval s = v) (hown : w.ownsRow base e size v n xs) (B : Nat) (A : Option Addr) (m c : Nat) (news : List Value) (hx : a.eval x = .slice A m c) (hl : news.length = m * size)
  (hr : Row w B A news) (h1 : ∀ u ∈ news, u.oneCell' = true) (h63 : n + m ≤ maxLen) (hbytes : (n + m) * bytes ≤ 140737488355328) (hbase : base ≤ w.heap.size)
  (h : ∀ v' w', w'.ownsRow base e size v' (n + m) (xs ++ news) → w.grownBy w' v.ownBlock → (v'.ownBlock = v.ownBlock ∨ v'.ownBlock = some w.heap.size) → K (a.put o.dst v') w') :
  o.wp P a w K Q := by
 obtain ⟨v', w', hr', h2, h3, h4⟩ := run_append_row (P := P) w base t o.type e i z size bytes ht hi hz hsize hby hzs hsz v n xs hown B A m c news hl hr h1 h63 hbytes hbase;unfold Oper.wp execOp;simp only [ho, resolve, invoke, builtin, Sem.run_bind, Sem.run_pure, Result.andThen_ok, List.map_toArray, List.map_cons, List.map_nil, hs, hx, hr'];exact h v' w' h2 h3 h4
theorem wpList_append_row {ops : Array Oper} {rest : List Oper} {o : Oper} {a : Act} {Q : Exit → Act → World → Prop} (hgd : o.guard = none) (s x : Operand) (t : TypeId)
  (ho : o.op = .call { callee := .builtin .append, args := #[s, x], argTypes := #[t, t] })
  (base : Nat) (e : TypeId) (i : TypeInfo) (z : Value) (size bytes : Nat) (ht : P.underlying t = some (.slice e)) (hi : P.info? e = some i) (hz : i.zero = some z)
  (hsize : i.size = size) (hby : i.bytes = bytes) (hzs : z.cells.size = size) (hsz : 0 < size)
  (v : Value) (n : Nat) (xs : List Value) (hs : a.eval s = v) (hown : w.ownsRow base e size v n xs) (B : Nat) (A : Option Addr) (m c : Nat) (news : List Value) (hx : a.eval x = .slice A m c) (hl : news.length = m * size)
  (hr : Row w B A news) (h1 : ∀ u ∈ news, u.oneCell' = true) (h63 : n + m ≤ maxLen) (hbytes : (n + m) * bytes ≤ 140737488355328) (hbase : base ≤ w.heap.size)
  (h : ∀ v' w', w'.ownsRow base e size v' (n + m) (xs ++ news) → w.grownBy w' v.ownBlock → (v'.ownBlock = v.ownBlock ∨ v'.ownBlock = some w.heap.size) → wpList P ops Q rest (a.put o.dst v') w') :
  wpList P ops Q (o :: rest) a w :=
 wpList_plain hgd fun _ hK => wp_append_row w s x t ho base e i z size bytes ht hi hz hsize hby hzs hsz v n xs hs hown B A m c news hx hl hr h1 h63 hbytes hbase fun v' w' h2 h3 h4 => hK _ _ (h v' w' h2 h3 h4)
theorem step_append_row {ops : Array Oper} {o : Oper} {a : Act} {K : Act → World → Prop} {Q : Exit → Act → World → Prop} {E : Prop} (hgd : o.guard = none) (s x : Operand) (t : TypeId)
  (ho : o.op = .call { callee := .builtin .append, args := #[s, x], argTypes := #[t, t] })
  (base : Nat) (e : TypeId) (i : TypeInfo) (z : Value) (size bytes : Nat) (ht : P.underlying t = some (.slice e)) (hi : P.info? e = some i) (hz : i.zero = some z)
  (hsize : i.size = size) (hby : i.bytes = bytes) (hzs : z.cells.size = size) (hsz : 0 < size)
  (v : Value) (n : Nat) (xs : List Value) (hs : a.eval s = v) (hown : w.ownsRow base e size v n xs) (B : Nat) (A : Option Addr) (m c : Nat) (news : List Value) (hx : a.eval x = .slice A m c) (hl : news.length = m * size)
  (hr : Row w B A news) (h1 : ∀ u ∈ news, u.oneCell' = true) (h63 : n + m ≤ maxLen) (hbytes : (n + m) * bytes ≤ 140737488355328) (hbase : base ≤ w.heap.size)
  (h : ∀ v' w', w'.ownsRow base e size v' (n + m) (xs ++ news) → w.grownBy w' v.ownBlock → (v'.ownBlock = v.ownBlock ∨ v'.ownBlock = some w.heap.size) → K (a.put o.dst v') w') :
  if Region.wanted o (yielded ops a.tmps) = true then Oper.wp P o a w K Q else E := by
 rw [if_pos (by unfold Region.wanted; rw [hgd])];exact wp_append_row w s x t ho base e i z size bytes ht hi hz hsize hby hzs hsz v n xs hs hown B A m c news hx hl hr h1 h63 hbytes hbase h
end
theorem own_only {w w' : World} {base : Nat} {e : TypeId} {size : Nat} {v : Value} {n : Nat} {xs : List Value} (h : w.ownsRow base e size v n xs) {S : List Nat} (ho : Only S w w') (hS : ∀ g, v.ownBlock = some g → g ∉ S) :
  w'.ownsRow base e size v n xs := by
 obtain ⟨hl, hv⟩ := h;refine ⟨hl, ?_⟩;rcases hv with hv | ⟨g, cap, cur, rfl, hb, hg, rest⟩
 ·exact .inl hv
 ·exact .inr ⟨g, cap, cur, rfl, hb, ho.blk hg (hS g rfl), rest⟩
theorem own_blk {w : World} {base : Nat} {e : TypeId} {size : Nat} {v : Value} {n : Nat} {xs : List Value} (h : w.ownsRow base e size v n xs) {g : Nat} (hg : v.ownBlock = some g) : ∃ cur, Blk w g e cur := by
 rcases h.2 with ⟨rfl, _⟩ | ⟨g', cap, cur, rfl, hb, hh, _⟩
 ·simp [Value.ownBlock] at hg
 ·simp [Value.ownBlock] at hg;subst hg;exact ⟨cur, hh⟩
theorem own_apart {w : World} {base : Nat} {e : TypeId} {size : Nat} {v : Value} {n : Nat} {xs : List Value} (h : w.ownsRow base e size v n xs) {g : Nat} {t : TypeId} {cs : Array Value} (hb : Blk w g t cs) (hne : e ≠ t) :
  g ∉ v.ownBlock.toList := by
 intro hm
 cases hv : v.ownBlock with
 | none => rw [hv] at hm; cases hm
 | some g' =>
  rw [hv] at hm;simp at hm;subst hm;obtain ⟨cur, hc⟩ := own_blk h hv;exact hc.apart hb hne rfl
theorem own_lt {w : World} {base : Nat} {e : TypeId} {size : Nat} {v : Value} {n : Nat} {xs : List Value} (h : w.ownsRow base e size v n xs) {g : Nat} (hg : g ∈ v.ownBlock.toList) : g < w.heap.size := by
 cases hv : v.ownBlock with
 | none => rw [hv] at hg; cases hg
 | some g' =>
  rw [hv] at hg;simp at hg;subst hg;obtain ⟨cur, hc⟩ := own_blk h hv;exact hc.lt
theorem only_grown {w w' : World} {v : Value} (h : w.grownBy w' v.ownBlock) : Only v.ownBlock.toList w w' := Only.of_grown h (fun g hg _ => by simp [hg])
theorem row_lit (w : World) (t : TypeId) (cs : Array Value) : Row (w.alloc (.cells cs t)) (w.heap.size + 1) (some ⟨w.heap.size, 0, none⟩) cs.toList :=
 .inr ⟨w.heap.size, 0, rfl, by omega, by simp, fun j u hu => by rw [Nat.zero_add, (Blk.made w t cs).at_ j]; simpa using hu⟩
theorem own_row {w : World} {base : Nat} {e : TypeId} {size : Nat} {v : Value} {n : Nat} {xs : List Value} (h : w.ownsRow base e size v n xs) :
  ∃ A c, v = .slice A n c ∧ n ≤ c ∧ c ≤ maxLen ∧ xs.length = n * size ∧ Row w w.heap.size A xs := by
 obtain ⟨hl, hv⟩ := h;rcases hv with ⟨rfl, rfl⟩ | ⟨g, cap, cur, rfl, hb, hg, hn, hm, hs, ht⟩
 ·have : xs = [] := List.eq_nil_of_length_eq_zero (by simpa using hl);subst this;exact ⟨none, 0, rfl, Nat.le_refl _, by unfold maxLen; omega, hl, .inl rfl⟩
 ·refine ⟨_, cap, rfl, hn, hm, hl, .inr ⟨g, 0, rfl, (Array.getElem?_eq_some_iff.1 hg).1, Nat.le_refl _, fun j u hu => ?_⟩⟩;rw [← ht, List.getElem?_take] at hu
  split at hu
  ·rw [cell_of_row w g (0 + j) cur e (0, 0) hg, Nat.zero_add]
   simpa using hu
  ·cases hu
theorem own_new {w : World} {base : Nat} {e : TypeId} {size : Nat} {v : Value} {n : Nat} {xs : List Value} (h : w.ownsRow base e size v n xs) {S : List Nat} : ∀ i ∈ v.ownBlock.toList, i < base → i ∈ S := fun i hi hl => by
 cases hv : v.ownBlock with
 | none => rw [hv] at hi; cases hi
 | some g =>
  rw [hv] at hi;simp at hi;subst hi;have := (h.lt _ hv).1;omega
theorem owb {w w' : World} {base : Nat} {e : TypeId} {size : Nat} {v : Value} {n : Nat} {xs : List Value} {g : Nat} {t : TypeId} {cs : Array Value} (h : w.ownsRow base e size v n xs) (hb : Blk w g t cs) (ho : Only [g] w w') (hne : e ≠ t := by decide) : w'.ownsRow base e size v n xs := own_only h ho (fun x hx hm => by simp at hm; subst hm; exact own_apart h hb hne (by rw [hx]; simp))
end Go.Proofs.YtjfbeeogiejopaaGreatDoor
