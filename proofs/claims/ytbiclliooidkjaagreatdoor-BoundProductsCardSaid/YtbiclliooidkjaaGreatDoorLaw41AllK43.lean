/- Parts. -/
import Derived.Test.YtbiclliooidkjaaGreatDoorLaw41AllK42
set_option maxRecDepth 10000
set_option maxHeartbeats 16000000
set_option linter.unusedVariables false
set_option linter.unusedSimpArgs false
namespace Go.Proofs.YtbiclliooidkjaaGreatDoor
open Go.RowKit
open Go.Lib hiding intOf
theorem pw_set {α : Type} {R : α → α → Prop} : ∀ {l : List α} {i : Nat} {y : α}, l.Pairwise R → (∀ j z, j ≠ i → l[j]? = some z → R y z ∧ R z y) → (l.set i y).Pairwise R
 | [], _, _, h, _ => by simp
 | a :: l, 0, y, h, hy => by
  rw [List.set_cons_zero, List.pairwise_cons];rw [List.pairwise_cons] at h;refine ⟨fun z hz => ?_, h.2⟩;obtain ⟨j, hj⟩ := List.mem_iff_getElem?.1 hz;exact (hy (j + 1) z (by omega) (by simpa using hj)).1
 | a :: l, i + 1, y, h, hy => by
  rw [List.set_cons_succ, List.pairwise_cons];rw [List.pairwise_cons] at h;refine ⟨fun z hz => ?_, pw_set h.2 (fun j z hj hz => hy (j + 1) z (by omega) (by simpa using hz))⟩;rcases List.mem_or_eq_of_mem_set hz with hz | rfl
  ·exact h.1 z hz
  ·exact (hy 0 a (by omega) rfl).2
theorem pw_at {α : Type} {R : α → α → Prop} (hs : ∀ x y, R x y → R y x) {l : List α} (h : l.Pairwise R) {i j : Nat} {x y : α} (hx : l[i]? = some x) (hy : l[j]? = some y) (hij : i ≠ j) : R x y := by
 obtain ⟨hi, rfl⟩ := List.getElem?_eq_some_iff.1 hx;obtain ⟨hj, rfl⟩ := List.getElem?_eq_some_iff.1 hy;rw [List.pairwise_iff_getElem] at h;rcases Nat.lt_or_gt_of_ne hij with h' | h'
 ·exact h i j hi hj h'
 ·exact hs _ _ (h j i hj hi h')
theorem mem_set_at {α : Type} {l : List α} {i : Nat} {y z : α} (hz : z ∈ l.set i y) : z = y ∨ ∃ j, j ≠ i ∧ l[j]? = some z := by
 obtain ⟨j, hj⟩ := List.mem_iff_getElem?.1 hz;rw [List.getElem?_set] at hj
 by_cases h : i = j
 ·rw [if_pos h] at hj
  split at hj
  ·exact .inl (Option.some.inj hj).symm
  ·cases hj
 ·rw [if_neg h] at hj;exact .inr ⟨j, Ne.symm h, hj⟩
theorem find_set {ps : List Pt} {i : Nat} {p q : Pt} (hp : ps[i]? = some p) (g : Pt → Bool) (hg : g q = g p) : (ps.set i q).findIdx? g = ps.findIdx? g := by
 induction ps generalizing i with
 | nil => rfl
 | cons a l ih =>
  cases i with
  | zero =>
   simp at hp;subst hp;rw [List.set_cons_zero, List.findIdx?_cons, List.findIdx?_cons, hg]
  | succ i => rw [List.set_cons_succ, List.findIdx?_cons, List.findIdx?_cons, ih (by simpa using hp)]
theorem opens_set {D : DataW Unit} {ps : List Pt} {i : Nat} {p q : Pt} (h : Opens D ps) (hp : ps[i]? = some p) (h1 : q.s = p.s) (h2 : q.f = p.f) : Opens D (ps.set i q) := by
 have e : ∀ s, openI (ps.set i q) s = openI ps s := fun s => find_set hp _ (by rw [h1, h2]);exact ⟨fun s j hj => h.there s j (by rw [← e]; exact hj), fun s hj => h.none_ s (by rw [← e]; exact hj)⟩
def partB (x : PtA) : List Nat := (x.A.map Addr.block).toList ++ (x.Z.map Addr.block).toList
theorem mine_mem {gm b : Nat} {V : Value} {xs : List PtA} {i : Nat} : i ∈ mine gm b V xs ↔ i = gm ∨ i = b ∨ i ∈ V.ownBlock.toList ∨ ∃ x ∈ xs, i ∈ partB x := by
 unfold mine partB;simp only [List.mem_cons, List.mem_append, List.mem_flatMap]
theorem part_own {A : Option Addr} {n c i : Nat} : i ∈ (A.map Addr.block).toList ↔ i ∈ (Value.slice A n c).ownBlock.toList := by cases A <;> simp [Value.ownBlock]
theorem mk_added {w2 w6 : World} {base gm : Nat} {m : Mk} {V : Value} {xs : List PtA} {A0 A1 A' : Option Addr} {c0 c1 b k' c' H i : Nat} {D : DataW Unit} {y : ByteArray} {xi xi' : PtA} {q : Pt} (h : MkAt w2 base gm m V xs A0 A1 c0 c1 b D)
  (hxi : xs[i]? = some xi) (hq : xi'.p = q) (hqs : q.s = xi.p.s) (hqf : q.f = xi.p.f) (ho : Only (gm :: (V.ownBlock.toList ++ partB xi)) w2 w6)
  (hblk : Blk w6 gm 133 #[V, .slice A0 m.ss.length c0, .slice A' k' c', .map (some b)]) (hrow : w6.ownsRow base 136 5 V m.ps.length (ptC (xs.set i xi')))
  (hkr : w6.ownsRow base 9 1 (.slice xi'.A xi'.p.ks.length xi'.c) xi'.p.ks.length (strs xi'.p.ks)) (hor : w6.ownsRow base 50 4 (.slice xi'.Z xi'.p.ops.length xi'.d) xi'.p.ops.length (opC xi'.p.ops))
  (hka : ∀ a, xi'.A = some a → (∃ a', xi.A = some a' ∧ a'.block = a.block) ∨ w2.heap.size ≤ a.block) (hoa : ∀ a, xi'.Z = some a → (∃ a', xi.Z = some a' ∧ a'.block = a.block) ∨ w2.heap.size ≤ a.block)
  (hk : (withB m.ks y).length = k') (hr : Row w2 w2.heap.size A' (strs (withB m.ks y))) (ht : (A' = A1 ∧ withB m.ks y = m.ks) ∨ ∀ a, A' = some a → H ≤ a.block) (hH : ∀ i ∈ mine gm b V xs, i < H) :
  MkAt w6 base gm ⟨m.ps.set i q, m.ss, withB m.ks y⟩ V (xs.set i xi') A0 A' c0 c' b D := by
 have hmem := List.mem_of_getElem? hxi;have hpi : m.ps[i]? = some xi.p := by rw [← h.parts, List.getElem?_map, hxi]; rfl
 have hsub : ∀ j ∈ (gm :: (V.ownBlock.toList ++ partB xi)), j ∈ mine gm b V xs := fun j hj => by
  rw [mine_mem];simp only [List.mem_cons, List.mem_append] at hj;rcases hj with h | h | h
  ·exact .inl h
  ·exact .inr (.inr (.inl h))
  ·exact .inr (.inr (.inr ⟨xi, hmem, h⟩))
 have hfl : ∀ j, j ∈ mine gm b V (xs.set i xi') → j ∈ mine gm b V xs ∨ w2.heap.size ≤ j := fun j hj => by
  rw [mine_mem] at hj ⊢;rcases hj with h | h | h | ⟨x, hx, h⟩
  ·exact .inl (.inl h)
  ·exact .inl (.inr (.inl h))
  ·exact .inl (.inr (.inr (.inl h)))
  ·rcases mem_set_at hx with rfl | ⟨k, hk, hx⟩
   ·unfold partB at h;rcases List.mem_append.1 h with h | h
    ·cases hA : x.A with
     | none => rw [hA] at h; cases h
     | some a =>
      rw [hA] at h;simp at h;subst h;rcases hka a hA with ⟨a', e1, e2⟩ | h'
      ·refine .inl (.inr (.inr (.inr ⟨xi, hmem, ?_⟩)));unfold partB;rw [e1, ← e2];simp
      ·exact .inr h'
    ·cases hA : x.Z with
     | none => rw [hA] at h; cases h
     | some a =>
      rw [hA] at h;simp at h;subst h;rcases hoa a hA with ⟨a', e1, e2⟩ | h'
      ·refine .inl (.inr (.inr (.inr ⟨xi, hmem, ?_⟩)));unfold partB;rw [e1, ← e2];simp
      ·exact .inr h'
   ·exact .inl (.inr (.inr (.inr ⟨x, List.mem_of_getElem? hx, h⟩)))
 have hA' : withB m.ks y ≠ [] → ∀ a, A' = some a → a.block ∉ mine gm b V xs := fun hne a ha hm => by
  rcases ht with ⟨e, e2⟩ | hf
  ·rw [e2] at hne;exact h.f1 hne a (e ▸ ha) hm
  ·have := hf a ha;have := hH _ hm;omega
 refine ⟨by rw [hk]; exact hblk, h.gmb, ?_, by simpa using hrow, ?_, ?_, ?_, ?_, ?_, ?_, ?_, ?_, ?_, ?_, ?_, h.mapb, opens_set h.opens hpi hqs hqf⟩
 ·rw [← h.parts, List.map_set, hq]
 ·intro x hx;rcases mem_set_at hx with rfl | ⟨j, hj, hx⟩
  ·exact hkr
  ·refine own_only (h.keys x (List.mem_of_getElem? hx)) ho (fun g hg hm => ?_);obtain ⟨a, ha, rfl⟩ := own_val.1 hg;have hkx := h.keys x (List.mem_of_getElem? hx);simp only [List.mem_cons, List.mem_append, partB] at hm;rcases hm with e | e | e | e
   ·exact own_apart hkx h.blk (by decide) (by rw [← e, hg]; simp)
   ·exact own_two hkx h.row (by decide) _ hg e
   ·cases hA : xi.A with
    | none => rw [hA] at e; cases e
    | some a' =>
     rw [hA] at e;simp at e;exact pw_at (fun x y hxy a ha a' ha' => (hxy a' ha' a ha).symm) h.apK hxi hx (Ne.symm hj) a' hA a ha e.symm
   ·exact own_two hkx (h.ops xi hmem) (by decide) _ hg (part_own.1 e)
 ·intro x hx;rcases mem_set_at hx with rfl | ⟨j, hj, hx⟩
  ·exact hor
  ·refine own_only (h.ops x (List.mem_of_getElem? hx)) ho (fun g hg hm => ?_);obtain ⟨a, ha, rfl⟩ := own_val.1 hg;have hkx := h.ops x (List.mem_of_getElem? hx);simp only [List.mem_cons, List.mem_append, partB] at hm;rcases hm with e | e | e | e
   ·exact own_apart hkx h.blk (by decide) (by rw [← e, hg]; simp)
   ·exact own_two hkx h.row (by decide) _ hg e
   ·exact own_two hkx (h.keys xi hmem) (by decide) _ hg (part_own.1 e)
   ·cases hA : xi.Z with
    | none => rw [hA] at e; cases e
    | some a' =>
     rw [hA] at e;simp at e;exact pw_at (fun x y hxy a ha a' ha' => (hxy a' ha' a ha).symm) h.apO hxi hx (Ne.symm hj) a' hA a ha e.symm
 ·refine pw_set h.apK (fun j z hj hz => ?_);have key : ∀ a, xi'.A = some a → ∀ a', z.A = some a' → a.block ≠ a'.block := fun a ha a' ha' => by
   rcases hka a ha with ⟨a2, e1, e2⟩ | h'
   ·rw [← e2];exact pw_at (fun x y hxy a ha a' ha' => (hxy a' ha' a ha).symm) h.apK hxi hz (Ne.symm hj) a2 e1 a' ha'
   ·have := own_lt (h.keys z (List.mem_of_getElem? hz)) (g := a'.block) (by rw [own_val.2 ⟨a', ha', rfl⟩]; simp);omega
  exact ⟨key, fun a ha a' ha' => (key a' ha' a ha).symm⟩
 ·refine pw_set h.apO (fun j z hj hz => ?_);have key : ∀ a, xi'.Z = some a → ∀ a', z.Z = some a' → a.block ≠ a'.block := fun a ha a' ha' => by
   rcases hoa a ha with ⟨a2, e1, e2⟩ | h'
   ·rw [← e2];exact pw_at (fun x y hxy a ha a' ha' => (hxy a' ha' a ha).symm) h.apO hxi hz (Ne.symm hj) a2 e1 a' ha'
   ·have := own_lt (h.ops z (List.mem_of_getElem? hz)) (g := a'.block) (by rw [own_val.2 ⟨a', ha', rfl⟩]; simp);omega
  exact ⟨key, fun a ha a' ha' => (key a' ha' a ha).symm⟩
 ·exact row_avoid h.t0 ho (fun hne a ha hm => h.f0 (strs_ne.1 hne) a ha (hsub _ hm))
 ·exact row_avoid hr ho (fun hne a ha hm => hA' (strs_ne.1 hne) a ha (hsub _ hm))
 ·exact h.n0
 ·exact fun e => row_of_none hr e
 ·intro hne a ha hm;rcases hfl _ hm with hm | hm
  ·exact h.f0 hne a ha hm
  ·have := row_lt h.t0 (strs_ne.2 hne) ha;omega
 ·intro hne a ha hm;rcases hfl _ hm with hm | hm
  ·exact hA' hne a ha hm
  ·have := row_lt hr (strs_ne.2 hne) ha;omega
 ·have hbm : b ∉ (gm :: (V.ownBlock.toList ++ partB xi)) := by
   simp only [List.mem_cons, List.mem_append, partB, not_or];exact ⟨(map_not_blk h.map h.blk).symm, map_not_own h.map h.row, fun e => map_not_own h.map (h.keys xi hmem) (part_own.1 e), fun e => map_not_own h.map (h.ops xi hmem) (part_own.1 e)⟩
  simpa using map_only h.map ho hbm
end Go.Proofs.YtbiclliooidkjaaGreatDoor
