/- Nothing of a log is lost in its history: counting. -/
import Derived.Test.YtojlaphklkomfaaDoorPairManyCardK41
import Derived.Test.YtojlaphklkomfaaDoorPairManyCardK43
set_option linter.unusedVariables false
set_option linter.unusedSimpArgs false
namespace Go.Proofs.YtojlaphklkomfaaDoor
open Go.RowKit
open Go.Lib hiding intOf
attribute [local go_sem ↓] Go.wp_at_zero Go.wp_at_succ

def sumO (ps : List Pt) : Nat := (ps.map fun p => p.ops.length).sum
theorem sum_set {ps : List Pt} {i : Nat} {p q : Pt} (hp : ps[i]? = some p) : sumO (ps.set i q) + p.ops.length = sumO ps + q.ops.length := by
  unfold sumO
  induction ps generalizing i with
  | nil => simp at hp
  | cons a l ih =>
    cases i with
    | zero =>
      simp at hp
      subst hp
      simp
      omega
    | succ i =>
      have := ih (i := i) (by simpa using hp)
      simp only [List.set_cons_succ, List.map_cons, List.sum_cons]
      omega
theorem take_counts {m : Mk} {a : Ev6} (he : takeE m a = 0) : (takeM m a).ps.length = m.ps.length + (if a.k = 1 then 1 else 0) ∧ sumO (takeM m a).ps = sumO m.ps + ((if a.k = 2 then 1 else 0) + (if a.k = 3 then 1 else 0)) := by
  unfold takeE at he
  unfold takeM
  by_cases hev : evOk a.k a.s a.y a.vk a.vn = false
  · rw [if_pos hev] at he
    cases he
  · rw [if_neg hev] at he
    rw [if_neg hev]
    cases ho : openI m.ps a.s with
    | none =>
      rw [ho] at he
      dsimp only at he ⊢
      by_cases hk : a.k = 1
      · rw [if_pos hk] at he
        rw [if_pos hk]
        unfold beginE at he
        unfold beginM
        by_cases hc : (withB m.ss a.s).length > 20 ∨ m.ps.length = 40
        · rw [if_pos hc] at he
          cases he
        · rw [if_neg hc, if_pos hk, if_neg (by omega), if_neg (by omega)]
          simp [sumO]
      · rw [if_neg hk] at he
        cases he
    | some i =>
      rw [ho] at he
      obtain ⟨p, hp, hps, hpf⟩ := open_some ho
      dsimp only at he ⊢
      by_cases hk : a.k = 1
      · rw [if_pos hk] at he
        cases he
      · rw [if_neg hk] at he
        rw [if_neg hk, if_neg hk]
        rw [hp] at he ⊢
        dsimp only at he ⊢
        by_cases hk2 : a.k = 2 ∨ a.k = 3
        · rw [if_pos hk2] at he
          rw [if_pos hk2]
          unfold addE at he
          unfold addM
          by_cases hc : p.ops.length = 20 ∨ (withB m.ks a.y).length > 40
          · rw [if_pos hc] at he
            cases he
          · rw [if_neg hc]
            have := sum_set (q := addP p a) hp
            have e : (addP p a).ops.length = p.ops.length + 1 := by unfold addP; simp
            refine ⟨by simp, ?_⟩
            dsimp only
            have h1 : ((if a.k = 2 then 1 else 0) + (if a.k = 3 then 1 else 0) : Nat) = 1 := by
              rcases hk2 with h | h <;> simp [h]
            omega
        · rw [if_neg hk2]
          have := sum_set (q := { p with f := fateE a.k }) hp
          refine ⟨by simp, ?_⟩
          dsimp only at this ⊢
          rw [if_neg (by omega), if_neg (by omega)]
          omega
theorem cnt_cons (kind : Int) (a : Ev6) (l : List Ev6) : cnt kind (a :: l) = (if a.k = kind then 1 else 0) + cnt kind l := by
  unfold cnt
  rw [List.countP_cons]
  by_cases h : a.k = kind <;> simp [h] <;> omega
theorem run_counts : ∀ (l : List Ev6) (m : Mk), (runM m l).2.2 = 0 → (runM m l).1.ps.length = m.ps.length + cnt 1 l ∧ sumO (runM m l).1.ps = sumO m.ps + (cnt 2 l + cnt 3 l)
  | [], m, _ => by simp [runM, cnt]
  | a :: l, m, h => by
    by_cases he : takeE m a = 0
    · rw [run_step he] at h ⊢
      obtain ⟨h1, h2⟩ := run_counts l _ h
      obtain ⟨h3, h4⟩ := take_counts he
      rw [cnt_cons, cnt_cons, cnt_cons]
      omega
    · rw [run_stop he] at h
      exact absurd h he
theorem take_kl {m : Mk} {a : Ev6} (h : ∀ p ∈ m.ps, p.ks.length = p.ops.length) : ∀ p ∈ (takeM m a).ps, p.ks.length = p.ops.length := by
  unfold takeM
  split
  · exact h
  · split
    · split
      · exact h
      · split
        · rename_i i _ _ p hp
          split
          · unfold addM
            split
            · exact h
            · intro q hq
              rcases mem_set_at hq with rfl | ⟨j, -, hq⟩
              · have := h p (List.mem_of_getElem? hp)
                unfold addP
                simp
                exact this
              · exact h q (List.mem_of_getElem? hq)
          · intro q hq
            rcases mem_set_at hq with rfl | ⟨j, -, hq⟩
            · exact h p (List.mem_of_getElem? hp)
            · exact h q (List.mem_of_getElem? hq)
        · exact h
    · split
      · unfold beginM
        split
        · exact h
        · intro q hq
          rcases List.mem_append.1 hq with hq | hq
          · exact h q hq
          · simp at hq
            subst hq
            rfl
      · exact h
theorem run_kl : ∀ (l : List Ev6) (m : Mk), (∀ p ∈ m.ps, p.ks.length = p.ops.length) → ∀ p ∈ (runM m l).1.ps, p.ks.length = p.ops.length
  | [], m, h => h
  | a :: l, m, h => by
    by_cases he : takeE m a = 0
    · rw [run_step he]
      exact run_kl l _ (take_kl h)
    · rw [run_stop he]
      exact h
theorem pair_counts {l : List Ev6} (h : pairE l = 0) : (pairH l).l.length = cnt 1 l ∧ ((pairH l).l.map fun t => t.ops.length).sum = cnt 2 l + cnt 3 l := by
  have hr : (runM mk0 l).2.2 = 0 := by
    unfold pairE followR at h
    split at h
    · assumption
    · exact h
  have hf : (followR l).1 = (runM mk0 l).1 := by
    unfold followR
    rw [if_pos hr]
  obtain ⟨h1, h2⟩ := run_counts l mk0 hr
  unfold pairH
  rw [if_pos h, hf]
  have hkl := run_kl l mk0 (by simp [mk0])
  generalize (runM mk0 l).1 = m at *
  refine ⟨by show (m.ps.map (txOf m)).length = _; rw [List.length_map, h1]; simp [mk0], ?_⟩
  show (((m.ps.map (txOf m)).map fun t => t.ops.length).sum) = _
  rw [List.map_map]
  have e : m.ps.map ((fun t : Tx => t.ops.length) ∘ txOf m) = m.ps.map fun p => p.ops.length := List.map_congr_left fun p hp => keyed_len m p (hkl p hp)
  rw [e]
  have := h2
  unfold sumO at this
  rw [this]
  simp [mk0]

theorem pair_none {l : List Ev6} (h : pairE l ≠ 0) : (pairH l).l.length = 0 := by
  unfold pairH
  rw [if_neg h]
  rfl

set_option maxHeartbeats 1000000 in
theorem popen_ok (A : Option Addr) (n c : Nat) (l : List Ev6) (w : World) (hn : l.length = n) (hnm : n ≤ 100000) (hA : Row w w.heap.size A (logC l)) (hz : ∀ x ∈ l, x.s.size ≤ 65537 ∧ x.y.size ≤ 65537) (hT : UTabs w) (hV : Verbs w) (hE : pairE l = 0) :
    Calls Tryd.prog 11 #[.slice A n c] w fun e w' => e = .returned (.slice none 0 0) ∧ Only [] w w' := by
  have HF := Lib.hid (follow_any A n c l w hn hnm hA hz hT hV)
  rw [show (followR l).2.2 = 0 from hE] at HF
  generalize (followR l).2.1 = ln at *
  clear hn hnm hA hz hT hV hE
  go_enter Tryd.func11, Tryd.ntmps11
  go_wp2_with fail
  refine (HF.out).mono ?_
  rintro e w2 ⟨gm, rfl, O2, -⟩
  have HO2 := Lib.hid O2
  clear O2 HF
  go_wp2
  go_ret
  exact ⟨rfl, HO2.out⟩

end Go.Proofs.YtojlaphklkomfaaDoor
