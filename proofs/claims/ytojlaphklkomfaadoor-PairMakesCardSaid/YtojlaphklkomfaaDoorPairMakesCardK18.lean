/- Parts. -/
import Derived.Test.YtojlaphklkomfaaDoorPairMakesCardK17
set_option maxRecDepth 10000
set_option maxHeartbeats 16000000
set_option linter.unusedVariables false
set_option linter.unusedSimpArgs false
namespace Go.Proofs.YtojlaphklkomfaaDoor
open Go.RowKit
open Go.Lib hiding intOf
attribute [local go_sem ↓] Go.wp_at_zero Go.wp_at_succ
theorem pfate_any (k : Int) (w : World) : Calls Tryd.prog 35 #[.int .i64 k] w fun e w' => e = .returned (.int .i64 (fateE k)) ∧ w = w' := by
 by_cases h1 : k = 4
 ·subst h1;go_enter Tryd.func35, Tryd.ntmps35;go_wp2
  go_ret
  exact ⟨rfl, rfl⟩
 ·have e1 : (k == 4) = false := by simpa using h1
  by_cases h2 : k = 5
  ·subst h2;go_enter Tryd.func35, Tryd.ntmps35;go_wp2
   go_ret
   exact ⟨rfl, rfl⟩
  ·have e2 : (k == 5) = false := by simpa using h2
   have HE : Hid (fateE k = 3) := Hd (by unfold fateE; rw [if_neg h1, if_neg h2]);clear h1 h2;go_enter Tryd.func35, Tryd.ntmps35;go_wp2
   go_ret
   exact ⟨by rw [HE.out]; rfl, rfl⟩
theorem with_any (A : Option Addr) (n c B : Nat) (t : List ByteArray) (s : ByteArray) (w : World) (hn : t.length = n) (hN : n ≤ 500) (hz : ∀ z ∈ t, z.size ≤ 9223372036854775807) (hs : s.size ≤ 9223372036854775807) (hA : Row w B A (strs t)) (hc : A = none → n = 0) (hT : UTabs w) :
  Calls Tryd.prog 49 #[.slice A n c, .string s] w fun e w' => Only [] w w' ∧ ∃ A' m c', e = .returned (.slice A' m c') ∧ (withB t s).length = m ∧ Row w' w'.heap.size A' (strs (withB t s)) ∧ ((A' = A ∧ withB t s = t) ∨ ∀ b, A' = some b → w.heap.size ≤ b.block) := by
 have HF := Hd (find_any A n c B t s w hn (by omega) hz hA hT);have HP := Hd (fun w' (O : Only [] w w') => put_new A n c B t s w' hn hN hz hs (hA.only O (by simp)) (fun h => ⟨hc h, rfl⟩) (hT.only O));have HN := Hd hn;have HA := Hd hA;clear hn hN hz hs hA hc hT
 by_cases h : 0 ≤ posB t s
 ·rw [decide_eq_true h] at HF;have HW : Hid (withB t s = t) := Hd (by unfold withB; rw [if_pos h]);clear h;go_enter Tryd.func49, Tryd.ntmps49;go_wp2_with fail
  refine (HF.out).mono ?_;rintro e w1 ⟨rfl, O1⟩;have HO1 := Hd O1;clear O1;go_wp2
  go_ret
  exact ⟨HO1.out, _, _, _, rfl, by rw [HW.out]; exact HN.out, by rw [HW.out]; exact row_up (HA.out.only HO1.out (by simp)), .inl ⟨rfl, HW.out⟩⟩
 ·rw [decide_eq_false h] at HF;have HW : Hid (withB t s = sortB (t ++ [s])) := Hd (by unfold withB; rw [if_neg h]);clear h;go_enter Tryd.func49, Tryd.ntmps49;go_wp2_with fail
  refine (HF.out).mono ?_;rintro e w1 ⟨rfl, O1⟩;have HO1 := Hd O1;clear O1;go_wp2_with fail
  refine (HP.out _ HO1.out).mono ?_;rintro e w2 ⟨O2, A', m, c', rfl, hm, hr, hf⟩;have HR := Hd (And.intro hm (And.intro hr hf));have HO2 := Hd (HO1.out.trans O2);clear O2 hm hr hf;go_wp2
  go_ret
  exact ⟨HO2.out, _, _, _, rfl, by rw [HW.out]; exact HR.out.1, by rw [HW.out]; exact HR.out.2.1, .inr fun b hb => Nat.le_trans HO1.out.size (HR.out.2.2 b hb)⟩
def kS (s : ByteArray) : Lit := .string s.data.toList
structure Opens (D : DataW Unit) (ps : List Pt) : Prop where
 there : ∀ s i, openI ps s = some i → Maps.has D (kS s) = true ∧ ∀ z, D.atKey (kS s) z = .lit (.int .i64 (i : Int))
 none_ : ∀ s, openI ps s = none → Maps.has D (kS s) = false
def mine (gm b : Nat) (V : Value) (xs : List PtA) : List Nat := gm :: b :: (V.ownBlock.toList ++ xs.flatMap fun x => (x.A.map Addr.block).toList ++ (x.Z.map Addr.block).toList)
structure MkAt (w : World) (base gm : Nat) (m : Mk) (V : Value) (xs : List PtA) (A0 A1 : Option Addr) (c0 c1 b : Nat) (D : DataW Unit) : Prop where
 blk : Blk w gm 67 #[V, .slice A0 m.ss.length c0, .slice A1 m.ks.length c1, .map (some b)]
 gmb : base ≤ gm
 parts : xs.map PtA.p = m.ps
 row : w.ownsRow base 69 5 V m.ps.length (ptC xs)
 keys : ∀ x ∈ xs, w.ownsRow base 9 1 (.slice x.A x.p.ks.length x.c) x.p.ks.length (strs x.p.ks)
 ops : ∀ x ∈ xs, w.ownsRow base 62 4 (.slice x.Z x.p.ops.length x.d) x.p.ops.length (opC x.p.ops)
 apK : xs.Pairwise fun x y => ∀ a, x.A = some a → ∀ a', y.A = some a' → a.block ≠ a'.block
 apO : xs.Pairwise fun x y => ∀ a, x.Z = some a → ∀ a', y.Z = some a' → a.block ≠ a'.block
 t0 : Row w w.heap.size A0 (strs m.ss)
 t1 : Row w w.heap.size A1 (strs m.ks)
 n0 : A0 = none → m.ss.length = 0
 n1 : A1 = none → m.ks.length = 0
 f0 : m.ss ≠ [] → ∀ a, A0 = some a → a.block ∉ mine gm b V xs
 f1 : m.ks ≠ [] → ∀ a, A1 = some a → a.block ∉ mine gm b V xs
 map : w.ownsMap Tryd.prog 9 (plainElem Tryd.prog 3) b m.ps.length D
 mapb : base ≤ b
 opens : Opens D m.ps
theorem row_avoid {S : List Nat} {w w' : World} {B : Nat} {A : Option Addr} {xs : List Value} (h : Row w B A xs) (ho : Only S w w') (ha : xs ≠ [] → ∀ a, A = some a → a.block ∉ S) : Row w' w'.heap.size A xs := by
 rcases h with rfl | ⟨b, off, rfl, h1, h2, hc⟩
 ·exact .inl rfl
 ·cases xs with
  | nil => exact .inl rfl
  | cons u xs =>
   have hn := ha (by simp) _ rfl;have := ho.size;exact .inr ⟨b, off, rfl, by omega, by omega, fun j v hv => (ho.cell (p := ⟨b, off + j, none⟩) (by show b < _; omega) hn).trans (hc j v hv)⟩
theorem row_lt {w : World} {B : Nat} {A : Option Addr} {xs : List Value} (h : Row w B A xs) (hn : xs ≠ []) {a : Addr} (ha : A = some a) : a.block < w.heap.size := by
 rcases h with rfl | ⟨b, off, e, h1, h2, hc⟩
 ·exact absurd rfl hn
 ·rw [ha] at e;obtain rfl := Option.some.inj e
  show b < _
  omega
theorem map_only {S : List Nat} {w w' : World} {k e : TypeId} {b n : Nat} {D : DataW Unit} (h : w.ownsMap Tryd.prog k (plainElem Tryd.prog e) b n D) (ho : Only S w w') (hb : b ∉ S) : w'.ownsMap Tryd.prog k (plainElem Tryd.prog e) b n D := by
 have hlt := h.lt;obtain ⟨es, clock, h1, h2⟩ := h;exact ⟨es, clock, (ho.keeps b hlt hb).trans h1, h2⟩
theorem map_not_blk {w : World} {k e : TypeId} {b n g : Nat} {t : TypeId} {cs : Array Value} {D : DataW Unit} (h : w.ownsMap Tryd.prog k (plainElem Tryd.prog e) b n D) (hb : Blk w g t cs) : g ≠ b := by
 rintro rfl;obtain ⟨es, clock, h1, -⟩ := h;rw [show w.heap[g]? = _ from hb] at h1
 cases h1
theorem map_not_own {w : World} {k e : TypeId} {b n : Nat} {D : DataW Unit} (h : w.ownsMap Tryd.prog k (plainElem Tryd.prog e) b n D) {base : Nat} {t : TypeId} {sz m : Nat} {v : Value} {xs : List Value} (hr : w.ownsRow base t sz v m xs) : b ∉ v.ownBlock.toList := by
 intro hm
 cases hv : v.ownBlock with
 | none => rw [hv] at hm; cases hm
 | some g =>
  rw [hv] at hm;obtain ⟨cur, hb⟩ := own_blk hr hv;have := map_not_blk h hb;simp at hm;omega
theorem MkAt.same {w w' : World} {base gm : Nat} {m : Mk} {V : Value} {xs : List PtA} {A0 A1 : Option Addr} {c0 c1 b : Nat} {D : DataW Unit} (h : MkAt w base gm m V xs A0 A1 c0 c1 b D) (ho : Only [] w w') : MkAt w' base gm m V xs A0 A1 c0 c1 b D where
 blk := ho.blk h.blk (by simp)
 gmb := h.gmb
 parts := h.parts
 row := own_only h.row ho (by simp)
 keys := fun x hx => own_only (h.keys x hx) ho (by simp)
 ops := fun x hx => own_only (h.ops x hx) ho (by simp)
 apK := h.apK
 apO := h.apO
 t0 := row_avoid h.t0 ho (by simp)
 t1 := row_avoid h.t1 ho (by simp)
 n0 := h.n0
 n1 := h.n1
 f0 := h.f0
 f1 := h.f1
 map := map_only h.map ho (by simp)
 mapb := h.mapb
 opens := h.opens
theorem mine_lt {w : World} {base gm : Nat} {m : Mk} {V : Value} {xs : List PtA} {A0 A1 : Option Addr} {c0 c1 b : Nat} {D : DataW Unit} (h : MkAt w base gm m V xs A0 A1 c0 c1 b D) : ∀ i ∈ mine gm b V xs, i < w.heap.size := by
 intro i hi;unfold mine at hi;simp only [List.mem_cons, List.mem_append, List.mem_flatMap] at hi;rcases hi with rfl | rfl | hi | ⟨x, hx, hi | hi⟩
 ·exact h.blk.lt
 ·exact h.map.lt
 ·exact own_lt h.row hi
 ·have := own_lt (h.keys x hx) (g := i) (by
   cases hA : x.A with
   | none => rw [hA] at hi; cases hi
   | some a => rw [hA] at hi; simpa [Value.ownBlock] using hi)
  exact this
 ·have := own_lt (h.ops x hx) (g := i) (by
   cases hA : x.Z with
   | none => rw [hA] at hi; cases hi
   | some a => rw [hA] at hi; simpa [Value.ownBlock] using hi)
  exact this
theorem mine_ge {w : World} {base gm : Nat} {m : Mk} {V : Value} {xs : List PtA} {A0 A1 : Option Addr} {c0 c1 b : Nat} {D : DataW Unit} (h : MkAt w base gm m V xs A0 A1 c0 c1 b D) : ∀ i ∈ mine gm b V xs, base ≤ i := by
 intro i hi;unfold mine at hi;simp only [List.mem_cons, List.mem_append, List.mem_flatMap] at hi;rcases hi with rfl | rfl | hi | ⟨x, hx, hi | hi⟩
 ·exact h.gmb
 ·exact h.mapb
 ·exact (h.row.lt i (by simpa using hi)).1
 ·exact ((h.keys x hx).lt i (by
   cases hA : x.A with
   | none => rw [hA] at hi; cases hi
   | some a => rw [hA] at hi; simp at hi; simp [Value.ownBlock, hi])).1
 ·exact ((h.ops x hx).lt i (by
   cases hA : x.Z with
   | none => rw [hA] at hi; cases hi
   | some a => rw [hA] at hi; simp at hi; simp [Value.ownBlock, hi])).1
theorem strs_ne {l : List ByteArray} : strs l ≠ [] ↔ l ≠ [] := by cases l <;> simp [strs]
theorem row_of_none {w : World} {B : Nat} {xs : List ByteArray} {A : Option Addr} (h : Row w B A (strs xs)) (hA : A = none) : xs.length = 0 := by
 subst hA;rcases h with h | ⟨b, off, e, _⟩
 ·cases xs with
  | nil => rfl
  | cons x l => simp [strs] at h
 ·cases e
theorem own_val {A : Option Addr} {n c g : Nat} : (Value.slice A n c).ownBlock = some g ↔ ∃ a, A = some a ∧ a.block = g := by
 cases A <;> simp [Value.ownBlock]
structure MkB (m : Mk) : Prop where
 zs : ∀ z ∈ m.ss, z.size ≤ 65537
 zk : ∀ z ∈ m.ks, z.size ≤ 65537
 np : m.ps.length ≤ 40
 ns : m.ss.length ≤ 20
 nk : m.ks.length ≤ 40
 uni : ∀ (i j : Nat) (p q : Pt), m.ps[i]? = some p → m.ps[j]? = some q → p.s = q.s → p.f = 0 → q.f = 0 → i = j
 no : ∀ p ∈ m.ps, p.ops.length ≤ 20 ∧ p.ks.length = p.ops.length ∧ p.s.size ≤ 65537 ∧ (∀ z ∈ p.ks, z.size ≤ 65537)
end Go.Proofs.YtojlaphklkomfaaDoor
