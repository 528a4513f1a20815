/- A whole struct stored into its own block, in a region in the text's order. Few of a history that has few parts already; the contracts of law 11, said of a history that lies there. Events: kinds and their words, the mathematics. -/
import Derived.Test.YthaeomdpaadilaaGreatDoorShowEventsCardK19
import Derived.Test.YthaeomdpaadilaaGreatDoorShowEventsCardK20
import Derived.Test.YthaeomdpaadilaaGreatDoorShowEventsCardK10
import Derived.Test.YthaeomdpaadilaaGreatDoorShowEventsCardK3
import Derived.Test.YthaeomdpaadilaaGreatDoorShowEventsCardK1
import Derived.Deep.MidRow
set_option linter.unusedVariables false
set_option linter.unusedSimpArgs false
namespace Go.Proofs.YthaeomdpaadilaaGreatDoor
open Go.RowKit

theorem wpList_store_blk {P : Program} {ops : Array Oper} {rest : List Oper} {op : Oper} {a : Act} {w : World} {Q : Exit → Act → World → Prop} (hgd : op.guard = none) (ty : TypeId) (x y : Operand) (ho : op.op = .store ty x y)
    (g : Nat) (t : TypeId) (cs cells : Array Value) (hx : a.eval x = .pointer (some ⟨g, 0, none⟩)) (hy : a.eval y = .agg cells)
    (hb : Blk w g t cs) (hl : cells.size = cs.size) (hi : (P.info? ty).map (·.size) = some cells.size) (h1 : cells.all (·.oneCell') = true)
    (h : ∀ w', Blk w' g t cells → Only [g] w w' → wpList P ops Q rest (a.put op.dst undef) w') : wpList P ops Q (op :: rest) a w :=
  wpList_store_mid hgd ty x y ho g 0 cells hx hy (by rw [hl]; exact hb.there) hi h1 (h _ (by have := hb.putAll cells.toList (by simpa using hl); simpa using this) ((Only.refl [g] w).putAll (fun _ => by simp) _))

end Go.Proofs.YthaeomdpaadilaaGreatDoor

set_option linter.unusedVariables false
set_option linter.unusedSimpArgs false
namespace Go.Proofs.YthaeomdpaadilaaGreatDoor
open Go.RowKit
open Go.Lib hiding intOf

/-- Few of what came in. -/
theorem few_first (A0 A1 A2 : Option Addr) (c0 c1 c2 : Nat) (h : Hst) (w : World) (hg : HAt w w.heap.size A0 A1 A2 h) (hm0 : h.ss.length ≤ maxLen) (hm1 : h.ks.length ≤ maxLen) (hm2 : h.l.length ≤ maxLen)
    (hz0 : ∀ z ∈ h.ss, z.size ≤ maxLen) (hz1 : ∀ z ∈ h.ks, z.size ≤ maxLen) (hT : UTabs w) :
    Calls Tryz.prog 6 #[.agg #[.slice A0 h.ss.length c0, .slice A1 h.ks.length c1, .slice A2 h.l.length c2]] w fun e w' => ∃ A0' A1' A2' c0' c1' c2', (e = .returned (.agg #[.slice A0' (fewH h).ss.length c0', .slice A1' (fewH h).ks.length c1', .slice A2' (fewH h).l.length c2']) ∧ HIn w' w'.heap.size A0' A1' A2' (fewH h).ss.length (fewH h).ks.length (fewH h).l.length (fewH h)) ∧ Only [] w w' := by
  unfold maxLen at *
  refine (few11_any A0 A1 A2 _ _ _ c0 c1 c2 w.heap.size h w hg rfl rfl rfl (by omega) (by omega) (by omega) (fun z hz => by have := hz0 z hz; omega) (fun z hz => by have := hz1 z hz; omega)).mono ?_
  rintro e w' ⟨A0', A1', A2', c0', c1', c2', ⟨rfl, hA⟩, O⟩
  exact ⟨A0', A1', A2', c0', c1', c2', ⟨rfl, ⟨hA, rfl, rfl, rfl, few_small h, hT.only O⟩⟩, O⟩

/-- Few of what it made. -/
theorem few_in (A0 A1 A2 : Option Addr) (n0 n1 n2 c0 c1 c2 B : Nat) (h : Hst) (w : World) (hg : HIn w B A0 A1 A2 n0 n1 n2 h) (hf : fewH h = h) :
    Calls Tryz.prog 6 #[.agg #[.slice A0 n0 c0, .slice A1 n1 c1, .slice A2 n2 c2]] w fun e w' => ∃ A0' A1' A2' c0' c1' c2', (e = .returned (.agg #[.slice A0' n0 c0', .slice A1' n1 c1', .slice A2' n2 c2']) ∧ HIn w' w'.heap.size A0' A1' A2' n0 n1 n2 h) ∧ Only [] w w' := by
  have a0 := hg.sm.ns
  have a1 := hg.sm.nk
  have a2 := hg.sm.nl
  have e0 := hg.n0
  have e1 := hg.n1
  have e2 := hg.n2
  refine (few11_any A0 A1 A2 n0 n1 n2 c0 c1 c2 B h w hg.at_ e0 e1 e2 (by omega) (by omega) (by omega) (fun z hz => by have := hg.sm.s z hz; omega) (fun z hz => by have := hg.sm.k z hz; omega)).mono ?_
  rintro e w' ⟨A0', A1', A2', c0', c1', c2', ⟨rfl, hA⟩, O⟩
  rw [hf] at hA
  refine ⟨A0', A1', A2', c0', c1', c2', ⟨?_, ⟨hA, e0, e1, e2, hg.sm, hg.u.only O⟩⟩, O⟩
  unfold hval
  rw [hf, e0, e1, e2]

/-- A row does not lie in a block that holds nothing like its first cell. -/
theorem row_past {w w' : World} {B : Nat} {A : Option Addr} {xs : List Value} {g : Nat} {t : TypeId} {cs : Array Value} (h : Row w B A xs) (hb : Blk w g t cs) (hne : ∀ u : Value, xs[0]? = some u → ∀ j : Nat, cs[j]? ≠ some u) (ho : Only [g] w w') : Row w' w'.heap.size A xs := by
  rcases h with rfl | ⟨b, off, rfl, h1, h2, hc⟩
  · exact .inl rfl
  · cases xs with
    | nil => exact .inl rfl
    | cons u xs =>
      have h0 := hc 0 u rfl
      have hbg : b ≠ g := fun e => by
        subst e
        rw [hb.at_] at h0
        exact hne u rfl _ h0
      have := ho.size
      exact .inr ⟨b, off, rfl, by omega, by omega, fun j v hv => (ho.cell (p := ⟨b, off + j, none⟩) (by show b < _; omega) (by simp [hbg])).trans (hc j v hv)⟩

theorem HIn.past {w w' : World} {B : Nat} {A0 A1 A2 : Option Addr} {n0 n1 n2 : Nat} {h : Hst} {g : Nat} {t : TypeId} {a0 a1 a2 : Option Addr} {k0 k1 k2 e0 e1 e2 : Nat} (hI : HIn w B A0 A1 A2 n0 n1 n2 h) (hb : Blk w g t #[.slice a0 k0 e0, .slice a1 k1 e1, .slice a2 k2 e2]) (ho : Only [g] w w') (hU : UTabs w') :
    HIn w' w'.heap.size A0 A1 A2 n0 n1 n2 h := by
  have key : ∀ (u : Value), (∀ a n c, u ≠ .slice a n c) → ∀ j : Nat, (#[Value.slice a0 k0 e0, .slice a1 k1 e1, .slice a2 k2 e2] : Array Value)[j]? ≠ some u := by
    intro u hu j hj
    match j with
    | 0 => simp at hj; exact hu _ _ _ hj.symm
    | 1 => simp at hj; exact hu _ _ _ hj.symm
    | 2 => simp at hj; exact hu _ _ _ hj.symm
    | j + 3 => simp at hj
  obtain ⟨⟨r0, r1, ⟨xs, hx, r2, hxs⟩⟩, q0, q1, q2, q3, -⟩ := hI
  have ks : ∀ l : List ByteArray, ∀ u : Value, (strs l)[0]? = some u → ∀ a n c, u ≠ .slice a n c := by
    intro l u hu a n c e
    subst e
    cases l <;> simp [strs] at hu
  refine ⟨⟨row_past r0 hb (fun u hu => key u (ks _ u hu)) ho, row_past r1 hb (fun u hu => key u (ks _ u hu)) ho, ⟨xs, hx, row_past r2 hb (fun u hu => key u ?_) ho, fun x hx => ⟨row_past (hxs x hx).row hb (fun u hu => key u ?_) ho, (hxs x hx).le, (hxs x hx).cap⟩⟩⟩, q0, q1, q2, q3, hU⟩
  · intro a n c e
    subst e
    cases xs <;> simp [txC, TxA.c] at hu
  · intro a n c e
    subst e
    cases hxo : x.t.ops with
    | nil => rw [hxo] at hu; simp [opC] at hu
    | cons y l => rw [hxo] at hu; simp [opC, Op4.c] at hu

end Go.Proofs.YthaeomdpaadilaaGreatDoor

set_option linter.unusedVariables false
set_option linter.unusedSimpArgs false
namespace Go.Proofs.YthaeomdpaadilaaGreatDoor
open Go.Lib

/-- A kind that there is, or 0; its word; whether it has a key and a value. -/
def kOk (k : Int) : Bool := decide (1 ≤ k ∧ k ≤ 6)
def kN (k : Int) : Int := if 1 ≤ k ∧ k ≤ 6 then k else 0
def kW (k : Int) : ByteArray := if k = 1 then ⟨#[98, 101, 103, 105, 110]⟩ else if k = 2 then ⟨#[114, 101, 97, 100]⟩ else if k = 3 then ⟨#[119, 114, 105, 116, 101]⟩ else if k = 4 then ⟨#[111, 107]⟩ else if k = 5 then ⟨#[102, 97, 105, 108]⟩ else if k = 6 then ⟨#[105, 110, 102, 111]⟩ else ⟨#[]⟩
def kO (k : Int) : Bool := decide (k = 2 ∨ k = 3)
/-- The kind of a word, or 0. -/
def wK (s : ByteArray) : Int := if s = ⟨#[98, 101, 103, 105, 110]⟩ then 1 else if s = ⟨#[114, 101, 97, 100]⟩ then 2 else if s = ⟨#[119, 114, 105, 116, 101]⟩ then 3 else if s = ⟨#[111, 107]⟩ then 4 else if s = ⟨#[102, 97, 105, 108]⟩ then 5 else if s = ⟨#[105, 110, 102, 111]⟩ then 6 else 0
theorem kN_cases (k : Int) : (k = 1) ∨ (k = 2) ∨ (k = 3) ∨ (k = 4) ∨ (k = 5) ∨ (k = 6) ∨ (kN k = 0 ∧ kOk k = false ∧ kO k = false ∧ kW k = ⟨#[]⟩ ∧ k ≠ 1 ∧ k ≠ 2 ∧ k ≠ 3 ∧ k ≠ 4 ∧ k ≠ 5 ∧ k ≠ 6) := by
  by_cases h : 1 ≤ k ∧ k ≤ 6
  · omega
  · have h1 : k ≠ 1 := by omega
    have h2 : k ≠ 2 := by omega
    have h3 : k ≠ 3 := by omega
    have h4 : k ≠ 4 := by omega
    have h5 : k ≠ 5 := by omega
    have h6 : k ≠ 6 := by omega
    iterate 6 right
    refine ⟨if_neg h, decide_eq_false h, decide_eq_false (by omega), ?_, h1, h2, h3, h4, h5, h6⟩
    unfold kW
    rw [if_neg h1, if_neg h2, if_neg h3, if_neg h4, if_neg h5, if_neg h6]
theorem wK_cases (s : ByteArray) : (s = ⟨#[98, 101, 103, 105, 110]⟩ ∧ wK s = 1) ∨ (s = ⟨#[114, 101, 97, 100]⟩ ∧ wK s = 2) ∨ (s = ⟨#[119, 114, 105, 116, 101]⟩ ∧ wK s = 3) ∨ (s = ⟨#[111, 107]⟩ ∧ wK s = 4) ∨ (s = ⟨#[102, 97, 105, 108]⟩ ∧ wK s = 5) ∨ (s = ⟨#[105, 110, 102, 111]⟩ ∧ wK s = 6) ∨ (wK s = 0 ∧ s ≠ ⟨#[98, 101, 103, 105, 110]⟩ ∧ s ≠ ⟨#[114, 101, 97, 100]⟩ ∧ s ≠ ⟨#[119, 114, 105, 116, 101]⟩ ∧ s ≠ ⟨#[111, 107]⟩ ∧ s ≠ ⟨#[102, 97, 105, 108]⟩ ∧ s ≠ ⟨#[105, 110, 102, 111]⟩) := by
  unfold wK
  by_cases h1 : s = ⟨#[98, 101, 103, 105, 110]⟩
  · subst h1; left; exact ⟨rfl, by decide⟩
  by_cases h2 : s = ⟨#[114, 101, 97, 100]⟩
  · subst h2; right; left; exact ⟨rfl, by decide⟩
  by_cases h3 : s = ⟨#[119, 114, 105, 116, 101]⟩
  · subst h3; right; right; left; exact ⟨rfl, by decide⟩
  by_cases h4 : s = ⟨#[111, 107]⟩
  · subst h4; right; right; right; left; exact ⟨rfl, by decide⟩
  by_cases h5 : s = ⟨#[102, 97, 105, 108]⟩
  · subst h5; right; right; right; right; left; exact ⟨rfl, by decide⟩
  by_cases h6 : s = ⟨#[105, 110, 102, 111]⟩
  · subst h6; right; right; right; right; right; left; exact ⟨rfl, by decide⟩
  iterate 6 right
  exact ⟨by rw [if_neg h1, if_neg h2, if_neg h3, if_neg h4, if_neg h5, if_neg h6], h1, h2, h3, h4, h5, h6⟩

theorem ev_ne {s : ByteArray} {l : List UInt8} (h : s ≠ ⟨l.toArray⟩) : (s.toList == l) = false ∧ (l == s.toList) = false := by
  constructor
  all_goals
    rw [beq_eq_false_iff_ne, Lib.toList_data]
    intro e
  · exact h (by_inj (e.trans List.toList_toArray.symm))
  · exact h (by_inj (e.symm.trans List.toList_toArray.symm))

/-- The cells of the table of words. -/
def verbC : List Value := [.int .i64 1, .string ⟨#[98, 101, 103, 105, 110]⟩, .bool false, .int .i64 2, .string ⟨#[114, 101, 97, 100]⟩, .bool true, .int .i64 3, .string ⟨#[119, 114, 105, 116, 101]⟩, .bool true, .int .i64 4, .string ⟨#[111, 107]⟩, .bool false, .int .i64 5, .string ⟨#[102, 97, 105, 108]⟩, .bool false, .int .i64 6, .string ⟨#[105, 110, 102, 111]⟩, .bool false]
def verbV : Value := .agg #[.int .i64 1, .string ⟨#[98, 101, 103, 105, 110]⟩, .bool false, .int .i64 2, .string ⟨#[114, 101, 97, 100]⟩, .bool true, .int .i64 3, .string ⟨#[119, 114, 105, 116, 101]⟩, .bool true, .int .i64 4, .string ⟨#[111, 107]⟩, .bool false, .int .i64 5, .string ⟨#[102, 97, 105, 108]⟩, .bool false, .int .i64 6, .string ⟨#[105, 110, 102, 111]⟩, .bool false]
def Verbs (w : World) : Prop := 0 < w.heap.size ∧ ∀ (i : Nat) (u : Value), verbC[i]? = some u → w.cell? ⟨0, i, none⟩ = some u
theorem Verbs.only {w w' : World} (h : Verbs w) (ho : Only [] w w') : Verbs w' :=
  ⟨Nat.lt_of_lt_of_le h.1 ho.size, fun i u hu => (ho.cell (p := ⟨0, i, none⟩) h.1 (by simp)).trans (h.2 i u hu)⟩

theorem verbs_load {w : World} (hV : Verbs w) : (Instr.loadAt 134 (.pointer (some ⟨0, 0, none⟩))).run Tryz.prog w = .ok verbV w :=
  run_loadAt_mid w 0 0 134 verbC (.array 6 103) (fun j v hj => by rw [Nat.zero_add]; exact hV.2 j v hj) (by kernel_rfl) rfl (by kernel_rfl)
theorem verb_i0 (w : World) : (Instr.index 134 verbV (.int .i64 0)).run Tryz.prog w = .ok (.agg #[.int .i64 1, .string (kW 1), .bool (kO 1)]) w := by kernel_rfl
theorem verb_i1 (w : World) : (Instr.index 134 verbV (.int .i64 1)).run Tryz.prog w = .ok (.agg #[.int .i64 2, .string (kW 2), .bool (kO 2)]) w := by kernel_rfl
theorem verb_i2 (w : World) : (Instr.index 134 verbV (.int .i64 2)).run Tryz.prog w = .ok (.agg #[.int .i64 3, .string (kW 3), .bool (kO 3)]) w := by kernel_rfl
theorem verb_i3 (w : World) : (Instr.index 134 verbV (.int .i64 3)).run Tryz.prog w = .ok (.agg #[.int .i64 4, .string (kW 4), .bool (kO 4)]) w := by kernel_rfl
theorem verb_i4 (w : World) : (Instr.index 134 verbV (.int .i64 4)).run Tryz.prog w = .ok (.agg #[.int .i64 5, .string (kW 5), .bool (kO 5)]) w := by kernel_rfl
theorem verb_i5 (w : World) : (Instr.index 134 verbV (.int .i64 5)).run Tryz.prog w = .ok (.agg #[.int .i64 6, .string (kW 6), .bool (kO 6)]) w := by kernel_rfl
theorem verb_idx (j : Nat) (hj : j < 6) (w : World) : (Instr.index 134 verbV (.int .i64 (j : Int))).run Tryz.prog w = .ok (.agg #[.int .i64 ((j : Int) + 1), .string (kW ((j : Int) + 1)), .bool (kO ((j : Int) + 1))]) w := by
  have h : j = 0 ∨ j = 1 ∨ j = 2 ∨ j = 3 ∨ j = 4 ∨ j = 5 := by omega
  rcases h with rfl | rfl | rfl | rfl | rfl | rfl
  · exact verb_i0 w
  · exact verb_i1 w
  · exact verb_i2 w
  · exact verb_i3 w
  · exact verb_i4 w
  · exact verb_i5 w

end Go.Proofs.YthaeomdpaadilaaGreatDoor
