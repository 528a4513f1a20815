/- Parts. -/
import Derived.Test.YtojlaphklkomfaaDoorPairMakesCardK22
set_option maxRecDepth 10000
set_option maxHeartbeats 16000000
set_option linter.unusedVariables false
set_option linter.unusedSimpArgs false
namespace Go.Proofs.YtojlaphklkomfaaDoor
open Go.RowKit
open Go.Lib hiding intOf
def mk0 : Mk := ⟨[], [], []⟩
def runM : Mk → List Ev6 → Mk × Int × Int
 | m, [] => (m, 0, 0)
 | m, a :: l => if takeE m a = 0 then runM (takeM m a) l else (m, a.ln, takeE m a)
def endE (m : Mk) : Int × Int := match m.ps.find? (fun p => decide (p.f = 0)) with | some p => (p.ln, 12) | none => (0, 0)
def followR (l : List Ev6) : Mk × Int × Int := if (runM mk0 l).2.2 = 0 then ((runM mk0 l).1, endE (runM mk0 l).1) else runM mk0 l
theorem with_mem {t : List ByteArray} {s z : ByteArray} (h : z ∈ withB t s) : z ∈ t ∨ z = s := by
 unfold withB at h
 split at h
 ·exact .inl h
 ·have := ((sortB_names (t ++ [s])).2 z).1 h
  simpa using this.1
theorem takeE_cases (m : Mk) (a : Ev6) : takeE m a = 0 ∨ takeE m a = 4 ∨ takeE m a = 7 ∨ takeE m a = 9 ∨ takeE m a = 10 := by
 unfold takeE
 split
 ·simp
 ·split
  ·split
   ·simp
   ·split
    ·split
     ·unfold addE
      split <;> simp
     ·simp
    ·simp
  ·split
   ·unfold beginE
    split <;> simp
   ·simp
theorem set_mem {ps : List Pt} {i j : Nat} {q p : Pt} (h : (ps.set i q)[j]? = some p) : (j = i ∧ p = q) ∨ (j ≠ i ∧ ps[j]? = some p) := by
 rw [List.getElem?_set] at h
 by_cases hij : i = j
 ·rw [if_pos hij] at h
  split at h
  ·exact .inl ⟨hij.symm, (Option.some.inj h).symm⟩
  ·cases h
 ·rw [if_neg hij] at h;exact .inr ⟨Ne.symm hij, h⟩
theorem mkb_take {m : Mk} {a : Ev6} (h : MkB m) (hs : a.s.size ≤ 65537) (hy : a.y.size ≤ 65537) (he : takeE m a = 0) : MkB (takeM m a) := by
 unfold takeE at he;unfold takeM
 split
 ·exact h
 ·rename_i hev
  rw [if_neg hev] at he
  cases ho : openI m.ps a.s with
  | none =>
   rw [ho] at he;dsimp only at he ⊢
   by_cases hk : a.k = 1
   ·rw [if_pos hk] at he ⊢;unfold beginE at he;unfold beginM
    by_cases hc : (withB m.ss a.s).length > 20 ∨ m.ps.length = 40
    ·rw [if_pos hc] at he
     cases he
    ·rw [if_neg hc];refine ⟨fun z hz => ?_, h.zk, by simp; have := h.np; omega, (by show (withB m.ss a.s).length ≤ 20; omega), h.nk, ?_, ?_⟩
     ·rcases with_mem hz with hz | rfl
      ·exact h.zs z hz
      ·exact hs
     ·intro i j p q hp hq hpq hp0 hq0;have hnew : ∀ (k : Nat) (r : Pt), (m.ps ++ [⟨a.s, 0, a.ln, [], []⟩])[k]? = some r → m.ps[k]? = some r ∨ (k = m.ps.length ∧ r = ⟨a.s, 0, a.ln, [], []⟩) := fun k r hr => by
       rcases Nat.lt_or_ge k m.ps.length with hlt | hge
       ·rw [List.getElem?_append_left hlt] at hr;exact .inl hr
       ·rw [List.getElem?_append_right hge] at hr
        cases hd : k - m.ps.length with
        | zero => rw [hd] at hr; simp at hr; exact .inr ⟨by omega, hr.symm⟩
        | succ n => rw [hd] at hr; simp at hr
      have hno := open_none ho;rcases hnew i p hp with hp | ⟨rfl, rfl⟩
      ·rcases hnew j q hq with hq | ⟨rfl, rfl⟩
       ·exact h.uni i j p q hp hq hpq hp0 hq0
       ·exact absurd ⟨hpq, hp0⟩ (hno p (List.mem_of_getElem? hp))
      ·rcases hnew j q hq with hq | ⟨rfl, rfl⟩
       ·exact absurd ⟨hpq.symm, hq0⟩ (hno q (List.mem_of_getElem? hq))
       ·rfl
     ·intro p hp;rcases List.mem_append.1 hp with hp | hp
      ·exact h.no p hp
      ·simp at hp;subst hp;exact ⟨by simp, rfl, hs, by simp⟩
   ·rw [if_neg hk] at he
    cases he
  | some i =>
   rw [ho] at he;obtain ⟨p, hp, hps, hpf⟩ := open_some ho;dsimp only at he ⊢
   by_cases hk : a.k = 1
   ·rw [if_pos hk] at he
    cases he
   ·rw [if_neg hk] at he ⊢;rw [hp] at he ⊢;dsimp only at he ⊢;have hpm := h.no p (List.mem_of_getElem? hp)
    by_cases hk2 : a.k = 2 ∨ a.k = 3
    ·rw [if_pos hk2] at he ⊢;unfold addE at he;unfold addM
     by_cases hc : p.ops.length = 20 ∨ (withB m.ks a.y).length > 40
     ·rw [if_pos hc] at he
      cases he
     ·rw [if_neg hc];refine ⟨h.zs, fun z hz => ?_, by simp; exact h.np, h.ns, (by show (withB m.ks a.y).length ≤ 40; omega), ?_, ?_⟩
      ·rcases with_mem hz with hz | rfl
       ·exact h.zk z hz
       ·exact hy
      ·intro j k q r hq hr hqr hq0 hr0;have hb : ∀ (j : Nat) (q : Pt), (m.ps.set i (addP p a))[j]? = some q → ∃ q', m.ps[j]? = some q' ∧ q'.s = q.s ∧ q'.f = q.f := fun j q hq => by
        rcases set_mem hq with ⟨rfl, rfl⟩ | ⟨_, hq⟩
        ·exact ⟨p, hp, rfl, rfl⟩
        ·exact ⟨q, hq, rfl, rfl⟩
       obtain ⟨q', h1, h2, h3⟩ := hb j q hq;obtain ⟨r', h4, h5, h6⟩ := hb k r hr;exact h.uni j k q' r' h1 h4 (by rw [h2, h5]; exact hqr) (by rw [h3]; exact hq0) (by rw [h6]; exact hr0)
      ·intro q hq;rcases mem_set_at hq with rfl | ⟨j, -, hq⟩
       ·refine ⟨by unfold addP; simp; omega, by unfold addP; simp; exact hpm.2.1, hpm.2.2.1, fun z hz => ?_⟩;rcases List.mem_append.1 hz with hz | hz
        ·exact hpm.2.2.2 z hz
        ·simp at hz;subst hz;exact hy
       ·exact h.no q (List.mem_of_getElem? hq)
    ·rw [if_neg hk2];refine ⟨h.zs, h.zk, by simp; exact h.np, h.ns, h.nk, ?_, ?_⟩
     ·intro j k q r hq hr hqr hq0 hr0;have hff : fateE a.k ≠ 0 := by unfold fateE; split <;> (try split) <;> decide
      rcases set_mem hq with ⟨rfl, rfl⟩ | ⟨_, hq⟩
      ·exact absurd hq0 hff
      ·rcases set_mem hr with ⟨rfl, rfl⟩ | ⟨_, hr⟩
       ·exact absurd hr0 hff
       ·exact h.uni j k q r hq hr hqr hq0 hr0
     ·intro q hq;rcases mem_set_at hq with rfl | ⟨j, -, hq⟩
      ·exact hpm
      ·exact h.no q (List.mem_of_getElem? hq)
theorem mkb_0 : MkB mk0 := ⟨by simp [mk0], by simp [mk0], by simp [mk0], by simp [mk0], by simp [mk0], by simp [mk0], by simp [mk0]⟩
theorem run_step {m : Mk} {a : Ev6} {l : List Ev6} (h : takeE m a = 0) : runM m (a :: l) = runM (takeM m a) l := by
 show (if takeE m a = 0 then _ else _) = _
 rw [if_pos h]
theorem run_stop {m : Mk} {a : Ev6} {l : List Ev6} (h : takeE m a ≠ 0) : runM m (a :: l) = (m, a.ln, takeE m a) := by
 show (if takeE m a = 0 then _ else _) = _
 rw [if_neg h]
end Go.Proofs.YtojlaphklkomfaaDoor
