/- What comes of events, one behind the other. What with makes of a sorted list; rising lists within rising lists. Several rows of the call's own at once, none of which shares a block with another. -/
import Derived.Test.YthaeomdpaadilaaGreatDoorShowParsesCardK14
import Derived.Test.YthaeomdpaadilaaGreatDoorShowParsesCardK1
import Derived.Test.YthaeomdpaadilaaGreatDoorShowParsesCardK10
import Derived.Test.YthaeomdpaadilaaGreatDoorShowParsesCardK6
set_option linter.unusedVariables false
set_option linter.unusedSimpArgs false
namespace Go.Proofs.YthaeomdpaadilaaGreatDoor
open Go.RowKit
open Go.Lib hiding intOf
def mk0 : Mk := ⟨[], [], []⟩
/-- The maker behind all events, the line and the number of the error. -/
def runM : Mk → List Ev6 → Mk × Int × Int
 | m, [] => (m, 0, 0)
 | m, a :: l => if takeE m a = 0 then runM (takeM m a) l else (m, a.ln, takeE m a)
/-- The first part that is open still. -/
def endE (m : Mk) : Int × Int := match m.ps.find? (fun p => decide (p.f = 0)) with | some p => (p.ln, 12) | none => (0, 0)
def followR (l : List Ev6) : Mk × Int × Int := if (runM mk0 l).2.2 = 0 then ((runM mk0 l).1, endE (runM mk0 l).1) else runM mk0 l
theorem with_mem {t : List ByteArray} {s z : ByteArray} (h : z ∈ withB t s) : z ∈ t ∨ z = s := by
 unfold withB at h
 split at h
 ·exact .inl h
 ·have := ((sortB_names (t ++ [s])).2 z).1 h
  simpa using this.1
theorem takeE_cases (m : Mk) (a : Ev6) : takeE m a = 0 ∨ takeE m a = 4 ∨ takeE m a = 7 ∨ takeE m a = 9 ∨ takeE m a = 10 := by
 unfold takeE
 split
 ·simp
 ·split
  ·split
   ·simp
   ·split
    ·split
     ·unfold addE
      split <;> simp
     ·simp
    ·simp
  ·split
   ·unfold beginE
    split <;> simp
   ·simp
theorem set_mem {ps : List Pt} {i j : Nat} {q p : Pt} (h : (ps.set i q)[j]? = some p) : (j = i ∧ p = q) ∨ (j ≠ i ∧ ps[j]? = some p) := by
 rw [List.getElem?_set] at h
 by_cases hij : i = j
 ·rw [if_pos hij] at h
  split at h
  ·exact .inl ⟨hij.symm, (Option.some.inj h).symm⟩
  ·cases h
 ·rw [if_neg hij] at h
  exact .inr ⟨Ne.symm hij, h⟩
theorem mkb_take {m : Mk} {a : Ev6} (h : MkB m) (hs : a.s.size ≤ 65537) (hy : a.y.size ≤ 65537) (he : takeE m a = 0) : MkB (takeM m a) := by
 unfold takeE at he
 unfold takeM
 split
 ·exact h
 ·rename_i hev
  rw [if_neg hev] at he
  cases ho : openI m.ps a.s with
  | none =>
   rw [ho] at he
   dsimp only at he ⊢
   by_cases hk : a.k = 1
   ·rw [if_pos hk] at he ⊢
    unfold beginE at he
    unfold beginM
    by_cases hc : (withB m.ss a.s).length > 20 ∨ m.ps.length = 40
    ·rw [if_pos hc] at he
     cases he
    ·rw [if_neg hc]
     refine ⟨fun z hz => ?_, h.zk, by simp; have := h.np; omega, (by show (withB m.ss a.s).length ≤ 20; omega), h.nk, ?_, ?_⟩
     ·rcases with_mem hz with hz | rfl
      ·exact h.zs z hz
      ·exact hs
     ·intro i j p q hp hq hpq hp0 hq0
      have hnew : ∀ (k : Nat) (r : Pt), (m.ps ++ [⟨a.s, 0, a.ln, [], []⟩])[k]? = some r → m.ps[k]? = some r ∨ (k = m.ps.length ∧ r = ⟨a.s, 0, a.ln, [], []⟩) := fun k r hr => by
       rcases Nat.lt_or_ge k m.ps.length with hlt | hge
       ·rw [List.getElem?_append_left hlt] at hr
        exact .inl hr
       ·rw [List.getElem?_append_right hge] at hr
        cases hd : k - m.ps.length with
        | zero => rw [hd] at hr; simp at hr; exact .inr ⟨by omega, hr.symm⟩
        | succ n => rw [hd] at hr; simp at hr
      have hno := open_none ho
      rcases hnew i p hp with hp | ⟨rfl, rfl⟩
      ·rcases hnew j q hq with hq | ⟨rfl, rfl⟩
       ·exact h.uni i j p q hp hq hpq hp0 hq0
       ·exact absurd ⟨hpq, hp0⟩ (hno p (List.mem_of_getElem? hp))
      ·rcases hnew j q hq with hq | ⟨rfl, rfl⟩
       ·exact absurd ⟨hpq.symm, hq0⟩ (hno q (List.mem_of_getElem? hq))
       ·rfl
     ·intro p hp
      rcases List.mem_append.1 hp with hp | hp
      ·exact h.no p hp
      ·simp at hp
       subst hp
       exact ⟨by simp, rfl, hs, by simp⟩
   ·rw [if_neg hk] at he
    cases he
  | some i =>
   rw [ho] at he
   obtain ⟨p, hp, hps, hpf⟩ := open_some ho
   dsimp only at he ⊢
   by_cases hk : a.k = 1
   ·rw [if_pos hk] at he
    cases he
   ·rw [if_neg hk] at he ⊢
    rw [hp] at he ⊢
    dsimp only at he ⊢
    have hpm := h.no p (List.mem_of_getElem? hp)
    by_cases hk2 : a.k = 2 ∨ a.k = 3
    ·rw [if_pos hk2] at he ⊢
     unfold addE at he
     unfold addM
     by_cases hc : p.ops.length = 20 ∨ (withB m.ks a.y).length > 40
     ·rw [if_pos hc] at he
      cases he
     ·rw [if_neg hc]
      refine ⟨h.zs, fun z hz => ?_, by simp; exact h.np, h.ns, (by show (withB m.ks a.y).length ≤ 40; omega), ?_, ?_⟩
      ·rcases with_mem hz with hz | rfl
       ·exact h.zk z hz
       ·exact hy
      ·intro j k q r hq hr hqr hq0 hr0
       have hb : ∀ (j : Nat) (q : Pt), (m.ps.set i (addP p a))[j]? = some q → ∃ q', m.ps[j]? = some q' ∧ q'.s = q.s ∧ q'.f = q.f := fun j q hq => by
        rcases set_mem hq with ⟨rfl, rfl⟩ | ⟨_, hq⟩
        ·exact ⟨p, hp, rfl, rfl⟩
        ·exact ⟨q, hq, rfl, rfl⟩
       obtain ⟨q', h1, h2, h3⟩ := hb j q hq
       obtain ⟨r', h4, h5, h6⟩ := hb k r hr
       exact h.uni j k q' r' h1 h4 (by rw [h2, h5]; exact hqr) (by rw [h3]; exact hq0) (by rw [h6]; exact hr0)
      ·intro q hq
       rcases mem_set_at hq with rfl | ⟨j, -, hq⟩
       ·refine ⟨by unfold addP; simp; omega, by unfold addP; simp; exact hpm.2.1, hpm.2.2.1, fun z hz => ?_⟩
        rcases List.mem_append.1 hz with hz | hz
        ·exact hpm.2.2.2 z hz
        ·simp at hz
         subst hz
         exact hy
       ·exact h.no q (List.mem_of_getElem? hq)
    ·rw [if_neg hk2]
     refine ⟨h.zs, h.zk, by simp; exact h.np, h.ns, h.nk, ?_, ?_⟩
     ·intro j k q r hq hr hqr hq0 hr0
      have hff : fateE a.k ≠ 0 := by unfold fateE; split <;> (try split) <;> decide
      rcases set_mem hq with ⟨rfl, rfl⟩ | ⟨_, hq⟩
      ·exact absurd hq0 hff
      ·rcases set_mem hr with ⟨rfl, rfl⟩ | ⟨_, hr⟩
       ·exact absurd hr0 hff
       ·exact h.uni j k q r hq hr hqr hq0 hr0
     ·intro q hq
      rcases mem_set_at hq with rfl | ⟨j, -, hq⟩
      ·exact hpm
      ·exact h.no q (List.mem_of_getElem? hq)
theorem mkb_0 : MkB mk0 := ⟨by simp [mk0], by simp [mk0], by simp [mk0], by simp [mk0], by simp [mk0], by simp [mk0], by simp [mk0]⟩
theorem run_step {m : Mk} {a : Ev6} {l : List Ev6} (h : takeE m a = 0) : runM m (a :: l) = runM (takeM m a) l := by
 show (if takeE m a = 0 then _ else _) = _
 rw [if_pos h]
theorem run_stop {m : Mk} {a : Ev6} {l : List Ev6} (h : takeE m a ≠ 0) : runM m (a :: l) = (m, a.ln, takeE m a) := by
 show (if takeE m a = 0 then _ else _) = _
 rw [if_neg h]
end Go.Proofs.YthaeomdpaadilaaGreatDoor

set_option linter.unusedVariables false
set_option linter.unusedSimpArgs false
namespace Go.Proofs.YthaeomdpaadilaaGreatDoor
open Go.Lib
theorem tf_ne : ¬ (true = false) := by decide
theorem posB_mem {t : List ByteArray} {s : ByteArray} (ht : tabB t = true) : 0 ≤ posB t s ↔ s ∈ t := by
 unfold posB
 rw [if_pos ht]
 exact idxOfS_nonneg_iff t s
theorem with_sort (l : List ByteArray) (s : ByteArray) : withB (sortB l) s = sortB (l ++ [s]) := by
 unfold withB
 split
 ·rename_i h
  rw [posB_mem (tab_sort l)] at h
  have h1 := ((sortB_names l).2 s).1 h
  refine sortB_unique (sortB_names l).1.rise (fun y => ?_)
  rw [(sortB_names l).2, List.mem_append]
  constructor
  ·rintro ⟨a, b⟩
   exact ⟨.inl a, b⟩
  ·rintro ⟨a | a, b⟩
   ·exact ⟨a, b⟩
   ·simp at a
    subst a
    exact h1
 ·refine sortB_unique (sortB_names _).1.rise (fun y => ?_)
  rw [(sortB_names _).2, List.mem_append, (sortB_names l).2, List.mem_append]
  constructor
  ·rintro ⟨⟨a, b⟩ | a, c⟩
   ·exact ⟨.inl a, c⟩
   ·exact ⟨.inr a, c⟩
  ·rintro ⟨a | a, c⟩
   ·exact ⟨.inl ⟨a, c⟩, c⟩
   ·exact ⟨.inr a, c⟩
end Go.Proofs.YthaeomdpaadilaaGreatDoor

set_option linter.unusedVariables false
set_option linter.unusedSimpArgs false
namespace Go.Proofs.YthaeomdpaadilaaGreatDoor
open Go.RowKit
structure OR where
 e : TypeId
 sz : Nat
 v : Value
 n : Nat
 xs : List Value
def OR.ok (w : World) (base : Nat) (r : OR) : Prop := w.ownsRow base r.e r.sz r.v r.n r.xs
structure ORs (w : World) (base : Nat) (L : List OR) : Prop where
 all : ∀ (i : Nat) (r : OR), L[i]? = some r → r.ok w base
 ap : ∀ (i j : Nat) (r s : OR), L[i]? = some r → L[j]? = some s → i ≠ j → ∀ g, r.v.ownBlock = some g → s.v.ownBlock ≠ some g
/-- The blocks of rows. -/
def ownB (L : List OR) : List Nat := L.flatMap fun r => r.v.ownBlock.toList
theorem ownB_mem {L : List OR} {g : Nat} : g ∈ ownB L ↔ ∃ (i : Nat) (r : OR), L[i]? = some r ∧ r.v.ownBlock = some g := by
 unfold ownB
 rw [List.mem_flatMap]
 constructor
 ·rintro ⟨r, hr, hg⟩
  obtain ⟨i, hi⟩ := List.mem_iff_getElem?.1 hr
  exact ⟨i, r, hi, by simpa using hg⟩
 ·rintro ⟨i, r, hi, hg⟩
  exact ⟨r, List.mem_of_getElem? hi, by simp [hg]⟩
section
variable {w w' : World} {base : Nat} {L : List OR}
theorem ORs.only {S : List Nat} (h : ORs w base L) (O : Only S w w') (hS : ∀ g ∈ ownB L, g ∉ S) : ORs w' base L :=
 ⟨fun i r hr => own_only (h.all i r hr) O (fun g hg => hS g (ownB_mem.2 ⟨i, r, hr, hg⟩)), h.ap⟩
theorem ORs.same (h : ORs w base L) (O : Only [] w w') : ORs w' base L := h.only O (by simp)
theorem ORs.ge (h : ORs w base L) : ∀ g ∈ ownB L, base ≤ g ∧ g < w.heap.size := fun g hg => by
 obtain ⟨i, r, hi, hr⟩ := ownB_mem.1 hg
 exact (h.all i r hi).lt g hr
theorem ORs.upd {i : Nat} {r r' : OR} (h : ORs w base L) (hi : L[i]? = some r) (O : Only r.v.ownBlock.toList w w') (hr : r'.ok w' base) (hv : r'.v.ownBlock = r.v.ownBlock ∨ ∀ g, r'.v.ownBlock = some g → w.heap.size ≤ g) : ORs w' base (L.set i r') := by
 have hil := (List.getElem?_eq_some_iff.1 hi).1
 have key : ∀ (j : Nat) (s : OR), L[j]? = some s → j ≠ i → ∀ g, r'.v.ownBlock = some g → s.v.ownBlock ≠ some g := fun j s hs hji g hg hsg => by
  rcases hv with e | e
  ·rw [e] at hg
   exact h.ap i j r s hi hs (Ne.symm hji) g hg hsg
  ·have h1 := e g hg
   have h2 := (h.all j s hs).lt g hsg
   omega
 refine ⟨fun j s hs => ?_, fun j k s t hs ht hjk g hg htg => ?_⟩
 ·rw [List.getElem?_set] at hs
  by_cases hij : i = j
  ·rw [if_pos hij, if_pos hil] at hs
   obtain rfl := Option.some.inj hs
   exact hr
  ·rw [if_neg hij] at hs
   exact own_only (h.all j s hs) O (fun g hg hm => h.ap j i s r hs hi (Ne.symm hij) g hg (by simpa using hm))
 ·rw [List.getElem?_set] at hs ht
  by_cases hij : i = j
  ·rw [if_pos hij, if_pos hil] at hs
   obtain rfl := Option.some.inj hs
   rw [if_neg (by omega)] at ht
   exact key k t ht (by omega) g hg htg
  ·rw [if_neg hij] at hs
   by_cases hik : i = k
   ·rw [if_pos hik, if_pos hil] at ht
    obtain rfl := Option.some.inj ht
    exact key j s hs (by omega) g htg hg
   ·rw [if_neg hik] at ht
    exact h.ap j k s t hs ht hjk g hg htg
theorem ORs.push {r' : OR} (h : ORs w base L) (hr : r'.ok w base) (hv : r'.v.ownBlock = none) : ORs w base (L ++ [r']) := by
 have hat : ∀ (j : Nat) (s : OR), (L ++ [r'])[j]? = some s → L[j]? = some s ∨ s = r' := fun j s hs => by
  rcases Nat.lt_or_ge j L.length with hl | hl
  ·rw [List.getElem?_append_left hl] at hs
   exact .inl hs
  ·rw [List.getElem?_append_right hl] at hs
   cases hd : j - L.length with
   | zero => rw [hd] at hs; simp at hs; exact .inr hs.symm
   | succ k => rw [hd] at hs; simp at hs
 refine ⟨fun j s hs => ?_, fun j k s t hs ht hjk g hg htg => ?_⟩
 ·rcases hat j s hs with h1 | rfl
  ·exact h.all j s h1
  ·exact hr
 ·rcases hat j s hs with h1 | rfl
  ·rcases hat k t ht with h2 | rfl
   ·exact h.ap j k s t h1 h2 hjk g hg htg
   ·rw [hv] at htg; cases htg
  ·rw [hv] at hg; cases hg
/-- A cell of a row is written. -/
theorem ORs.cell {i g j : Nat} {r : OR} {xs : List Value} (h : ORs w base L) (hi : L[i]? = some r) (hg : r.v.ownBlock = some g) (hj : j < r.xs.length) (u : Value) (hx : r.xs.set j u = xs) :
  ORs (w.setCell ⟨g, j, none⟩ u) base (L.set i ⟨r.e, r.sz, r.v, r.n, xs⟩) :=
 h.upd (r' := ⟨r.e, r.sz, r.v, r.n, xs⟩) hi ((Only.refl _ w).put (p := ⟨g, j, none⟩) (fun _ => by simp [hg]) u) (by subst hx; exact own_set (h.all i r hi) hg hj u) (.inl rfl)
end
end Go.Proofs.YthaeomdpaadilaaGreatDoor
