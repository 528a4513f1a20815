/- Contracts of the document's domain: Undo and Begin. -/
import Derived.Test.YtbidciakljpkiaaDoorRDomD
set_option linter.unusedVariables false
set_option linter.unusedSimpArgs false
namespace Go.Proofs.YtbidciakljpkiaaDoor
open Go.RowKit
attribute [local go_sem ↓] Go.wp_at_zero Go.wp_at_succ

set_option maxHeartbeats 1000000 in
theorem rdundo_none (p c : Nat) (A : Option Addr) (w : World) (h1 : w.cell? ⟨p, 1, none⟩ = some (.slice A 0 c)) :
    Calls Tryd.prog 19 #[.pointer (some ⟨p, 0, none⟩)] w fun e w' => e = .returned (.int .i64 3) ∧ w = w' := by
  go_enter Tryd.func19, Tryd.ntmps19
  go_wp2
  go_ret
  exact ⟨rfl, rfl⟩

set_option maxHeartbeats 1000000 in
theorem rdundo_low (p g m c n c1 : Nat) (A1 : Option Addr) (x : Value) (w : World) (h0 : w.cell? ⟨p, 0, none⟩ = some x) (h1 : w.cell? ⟨p, 1, none⟩ = some (.slice (some ⟨g, 0, none⟩) (m + 1) c)) (f0 : w.frozen? ⟨p, 0, none⟩ = false) (f1 : w.frozen? ⟨p, 1, none⟩ = false)
    (hg : w.cell? ⟨g, m, none⟩ = some (.slice A1 n c1)) (hm : m + 1 ≤ c) (hc : c ≤ maxLen) :
    Calls Tryd.prog 19 #[.pointer (some ⟨p, 0, none⟩)] w fun e w' => e = .returned (.int .i64 0) ∧ ∃ d, ((w.setCell ⟨p, 0, none⟩ (.slice A1 n c1)).setCell ⟨p, 1, none⟩ (.slice (some ⟨g, 0, none⟩) m c)).drewN d = w' := by
  unfold maxLen at hc
  have hz : ((m : Int) + 1 == 0) = false := by simp; omega
  have hb1 : (0 : Int) ≤ (m : Int) := Int.natCast_nonneg _
  have hb2 : (m : Int) ≤ (c : Int) := by omega
  have hb3 : (m : Int) < (m : Int) + 1 := by omega
  have hwm : IntKind.i64.wrap (m : Int) = (m : Int) := IntWalk.i64_in _ (by omega)
  go_enter Tryd.func19, Tryd.ntmps19
  go_wp2_with fail
  refine wp_region_noPanic ?_
  refine wp_region_timed (F := [⟨[], [19], fun w' => w'.cell? ⟨p, 1, none⟩ = some (.slice (some ⟨g, 0, none⟩) (m + 1) c)⟩, ⟨[], [19], fun w' => w'.cell? ⟨g, m, none⟩ = some (.slice A1 n c1)⟩]) (by kernel_rfl) (timed_holds (h1) (timed_holds (hg) (timed_nil))) ?_
  refine timed_pure (i := 0) (v := ?_) rfl (by kernel_rfl) (by kernel_rfl) (by kernel_rfl) (fun _ _ _ h => h) (by kernel_rfl) (by kernel_rfl) ?_ ?_
  rotate_left
  · (intro w; go_simp; try with_reducible rfl)
  try simp only [Act.put, List.getElem_toArray, List.getElem_cons_zero, List.getElem_cons_succ, List.setIfInBounds_toArray, List.set_cons_zero, List.set_cons_succ]
  refine timed_pure (i := 1) (v := ?_) rfl (by kernel_rfl) (by kernel_rfl) (by kernel_rfl) (fun _ _ _ h => h) (by kernel_rfl) (by kernel_rfl) ?_ ?_
  rotate_left
  · (intro w; go_simp; try with_reducible rfl)
  try simp only [Act.put, List.getElem_toArray, List.getElem_cons_zero, List.getElem_cons_succ, List.setIfInBounds_toArray, List.set_cons_zero, List.set_cons_succ]
  refine timed_pure (i := 2) (v := ?_) rfl (by kernel_rfl) (by kernel_rfl) (by kernel_rfl) (fun _ _ _ h => h) (by kernel_rfl) (by kernel_rfl) ?_ ?_
  rotate_left
  · (intro w; go_simp; try with_reducible rfl)
  try simp only [Act.put, List.getElem_toArray, List.getElem_cons_zero, List.getElem_cons_succ, List.setIfInBounds_toArray, List.set_cons_zero, List.set_cons_succ]
  refine timed_pure (i := 3) (v := ?_) rfl (by kernel_rfl) (by kernel_rfl) (by kernel_rfl) (fun _ _ _ h => h) (by kernel_rfl) (by kernel_rfl) ?_ ?_
  rotate_left
  · (intro w; go_simp; try with_reducible rfl)
  try simp only [Act.put, List.getElem_toArray, List.getElem_cons_zero, List.getElem_cons_succ, List.setIfInBounds_toArray, List.set_cons_zero, List.set_cons_succ]
  refine timed_pure (i := 4) (v := ?_) rfl (by kernel_rfl) (by kernel_rfl) (by kernel_rfl) (fun _ _ _ h => h) (by kernel_rfl) (by kernel_rfl) ?_ ?_
  rotate_left
  · (intro w; go_simp; try with_reducible rfl)
  try simp only [Act.put, List.getElem_toArray, List.getElem_cons_zero, List.getElem_cons_succ, List.setIfInBounds_toArray, List.set_cons_zero, List.set_cons_succ]
  refine timed_read (i := 5) (v := ?_) 0 rfl (by kernel_rfl) (by kernel_rfl) (by kernel_rfl) (fun _ _ _ h => h) (by kernel_rfl) (by kernel_rfl) rfl (by kernel_rfl) ?_ ?_
  rotate_left
  · (intro w hSw; (try dsimp only at hSw); go_simp; try with_reducible rfl)
  try simp only [Act.put, List.getElem_toArray, List.getElem_cons_zero, List.getElem_cons_succ, List.setIfInBounds_toArray, List.set_cons_zero, List.set_cons_succ]
  refine timed_pure (i := 6) (v := ?_) rfl (by kernel_rfl) (by kernel_rfl) (by kernel_rfl) (fun _ _ _ h => h) (by kernel_rfl) (by kernel_rfl) ?_ ?_
  rotate_left
  · (intro w; go_simp; try with_reducible rfl)
  try simp only [Act.put, List.getElem_toArray, List.getElem_cons_zero, List.getElem_cons_succ, List.setIfInBounds_toArray, List.set_cons_zero, List.set_cons_succ]
  refine timed_pure (i := 7) (v := ?_) rfl (by kernel_rfl) (by kernel_rfl) (by kernel_rfl) (fun _ _ _ h => h) (by kernel_rfl) (by kernel_rfl) ?_ ?_
  rotate_left
  · (intro w; go_simp; try with_reducible rfl)
  try simp only [Act.put, List.getElem_toArray, List.getElem_cons_zero, List.getElem_cons_succ, List.setIfInBounds_toArray, List.set_cons_zero, List.set_cons_succ]
  refine timed_pure (i := 8) (v := ?_) rfl (by kernel_rfl) (by kernel_rfl) (by kernel_rfl) (fun _ _ _ h => h) (by kernel_rfl) (by kernel_rfl) ?_ ?_
  rotate_left
  · (intro w; go_simp; try with_reducible rfl)
  try simp only [Act.put, List.getElem_toArray, List.getElem_cons_zero, List.getElem_cons_succ, List.setIfInBounds_toArray, List.set_cons_zero, List.set_cons_succ]
  refine timed_read (i := 9) (v := ?_) 1 rfl (by kernel_rfl) (by kernel_rfl) (by kernel_rfl) (fun _ _ _ h => h) (by kernel_rfl) (by kernel_rfl) rfl (by kernel_rfl) ?_ ?_
  rotate_left
  · (intro w hSw; (try dsimp only at hSw); go_simp; try with_reducible rfl)
  try simp only [Act.put, List.getElem_toArray, List.getElem_cons_zero, List.getElem_cons_succ, List.setIfInBounds_toArray, List.set_cons_zero, List.set_cons_succ]
  refine timed_pure (i := 10) (v := ?_) rfl (by kernel_rfl) (by kernel_rfl) (by kernel_rfl) (fun _ _ _ h => h) (by kernel_rfl) (by kernel_rfl) ?_ ?_
  rotate_left
  · (intro w; go_simp; try with_reducible rfl)
  try simp only [Act.put, List.getElem_toArray, List.getElem_cons_zero, List.getElem_cons_succ, List.setIfInBounds_toArray, List.set_cons_zero, List.set_cons_succ]
  refine timed_pure (i := 11) (v := ?_) rfl (by kernel_rfl) (by kernel_rfl) (by kernel_rfl) (fun _ _ _ h => h) (by kernel_rfl) (by kernel_rfl) ?_ ?_
  rotate_left
  · (intro w; go_simp; try with_reducible rfl)
  try simp only [Act.put, List.getElem_toArray, List.getElem_cons_zero, List.getElem_cons_succ, List.setIfInBounds_toArray, List.set_cons_zero, List.set_cons_succ]
  refine timed_pure (i := 12) (v := ?_) rfl (by kernel_rfl) (by kernel_rfl) (by kernel_rfl) (fun _ _ _ h => h) (by kernel_rfl) (by kernel_rfl) ?_ ?_
  rotate_left
  · (intro w; go_simp; try with_reducible rfl)
  try simp only [Act.put, List.getElem_toArray, List.getElem_cons_zero, List.getElem_cons_succ, List.setIfInBounds_toArray, List.set_cons_zero, List.set_cons_succ]
  refine timed_read (i := 13) (v := ?_) 0 rfl (by kernel_rfl) (by kernel_rfl) (by kernel_rfl) (fun _ _ _ h => h) (by kernel_rfl) (by kernel_rfl) rfl (by kernel_rfl) ?_ ?_
  rotate_left
  · (intro w hSw; (try dsimp only at hSw); go_simp; try with_reducible rfl)
  try simp only [Act.put, List.getElem_toArray, List.getElem_cons_zero, List.getElem_cons_succ, List.setIfInBounds_toArray, List.set_cons_zero, List.set_cons_succ]
  refine timed_pure (i := 14) (v := ?_) rfl (by kernel_rfl) (by kernel_rfl) (by kernel_rfl) (fun _ _ _ h => h) (by kernel_rfl) (by kernel_rfl) ?_ ?_
  rotate_left
  · (intro w; go_simp; try with_reducible rfl)
  try simp only [Act.put, List.getElem_toArray, List.getElem_cons_zero, List.getElem_cons_succ, List.setIfInBounds_toArray, List.set_cons_zero, List.set_cons_succ]
  refine timed_pure (i := 15) (v := ?_) rfl (by kernel_rfl) (by kernel_rfl) (by kernel_rfl) (fun _ _ _ h => h) (by kernel_rfl) (by kernel_rfl) ?_ ?_
  rotate_left
  · (intro w; go_simp; try with_reducible rfl)
  try simp only [Act.put, List.getElem_toArray, List.getElem_cons_zero, List.getElem_cons_succ, List.setIfInBounds_toArray, List.set_cons_zero, List.set_cons_succ]
  refine timed_pure (i := 16) (v := ?_) rfl (by kernel_rfl) (by kernel_rfl) (by kernel_rfl) (fun _ _ _ h => h) (by kernel_rfl) (by kernel_rfl) ?_ ?_
  rotate_left
  · (intro w; go_simp; try with_reducible rfl)
  try simp only [Act.put, List.getElem_toArray, List.getElem_cons_zero, List.getElem_cons_succ, List.setIfInBounds_toArray, List.set_cons_zero, List.set_cons_succ]
  refine timed_pure (i := 17) (v := ?_) rfl (by kernel_rfl) (by kernel_rfl) (by kernel_rfl) (fun _ _ _ h => h) (by kernel_rfl) (by kernel_rfl) ?_ ?_
  rotate_left
  · (intro w; go_simp; try with_reducible rfl)
  try simp only [Act.put, List.getElem_toArray, List.getElem_cons_zero, List.getElem_cons_succ, List.setIfInBounds_toArray, List.set_cons_zero, List.set_cons_succ]
  refine timed_pure (i := 18) (v := ?_) rfl (by kernel_rfl) (by kernel_rfl) (by kernel_rfl) (fun _ _ _ h => h) (by kernel_rfl) (by kernel_rfl) ?_ ?_
  rotate_left
  · (intro w; go_simp; try with_reducible rfl)
  try simp only [Act.put, List.getElem_toArray, List.getElem_cons_zero, List.getElem_cons_succ, List.setIfInBounds_toArray, List.set_cons_zero, List.set_cons_succ]
  refine timed_step (i := 19) (by kernel_rfl) rfl (fun K hK => ?_)
  go_simp
  refine hK.out _ _ (timed_over (by kernel_rfl) (timed_over (by kernel_rfl) (timed_nil))) ?_
  clear hK K
  try simp only [Act.put, List.getElem_toArray, List.getElem_cons_zero, List.getElem_cons_succ, List.setIfInBounds_toArray, List.set_cons_zero, List.set_cons_succ]
  refine timed_pure (i := 20) (v := ?_) rfl (by kernel_rfl) (by kernel_rfl) (by kernel_rfl) (fun _ _ _ h => h) (by kernel_rfl) (by kernel_rfl) ?_ ?_
  rotate_left
  · (intro w; go_simp; try with_reducible rfl)
  try simp only [Act.put, List.getElem_toArray, List.getElem_cons_zero, List.getElem_cons_succ, List.setIfInBounds_toArray, List.set_cons_zero, List.set_cons_succ]
  refine timed_pure (i := 21) (v := ?_) rfl (by kernel_rfl) (by kernel_rfl) (by kernel_rfl) (fun _ _ _ h => h) (by kernel_rfl) (by kernel_rfl) ?_ ?_
  rotate_left
  · (intro w; go_simp; try with_reducible rfl)
  try simp only [Act.put, List.getElem_toArray, List.getElem_cons_zero, List.getElem_cons_succ, List.setIfInBounds_toArray, List.set_cons_zero, List.set_cons_succ]
  refine timed_step (i := 22) (by kernel_rfl) rfl (fun K hK => ?_)
  go_simp
  refine hK.out _ _ (timed_over (by kernel_rfl) (timed_over (by kernel_rfl) (timed_nil))) ?_
  clear hK K
  try simp only [Act.put, List.getElem_toArray, List.getElem_cons_zero, List.getElem_cons_succ, List.setIfInBounds_toArray, List.set_cons_zero, List.set_cons_succ]
  refine timed_done (by kernel_rfl) ?_ _
  refine NoPanic.normal ?_
  go_wp2
  go_ret
  exact ⟨rfl, _, rfl⟩

theorem rdundo_any (p : Nat) (I J : List (List Bool)) (T : List (List (List Bool))) (fp : List Nat) (w : World) (h : RD w p I (T ++ [J]) fp) :
    Calls Tryd.prog 19 #[.pointer (some ⟨p, 0, none⟩)] w fun e w' => e = .returned (.int .i64 0) ∧ RD w' p J T fp ∧ Only fp w w' := by
  obtain ⟨VN, VT, f0, rows, fs, hp, hT, hl, hN, hr, hpw, m1, m2, m3, m4⟩ := h.lies
  have hrl : rows.length = T.length + 1 := by have := hT.1; simpa using this
  rcases List.eq_nil_or_concat rows with rfl | ⟨R, x, hcon⟩
  · simp at hrl
  rw [List.concat_eq_append] at hcon
  subst hcon
  have hRl : R.length = T.length := by simpa using hrl
  rcases List.eq_nil_or_concat fs with rfl | ⟨F, f, hcon⟩
  · simp at hl
  rw [List.concat_eq_append] at hcon
  subst hcon
  have hFl : F.length = T.length := by simpa using hl
  have e1 : (T ++ [J]).length = T.length + 1 := by simp
  rw [e1] at hT
  obtain ⟨g, c, rfl, -, -⟩ := hT.form (by omega)
  have hcap : T.length + 1 ≤ c ∧ c ≤ maxLen := by
    obtain ⟨A', c', e, h1, h2, -⟩ := own_row hT
    injection e with _ _ e
    subst e
    exact ⟨h1, h2⟩
  obtain ⟨hx, hxf⟩ := hr T.length x J f (by rw [← hRl]; simp) (by simp) (by rw [← hFl]; simp)
  obtain ⟨A1, c1, rfl, -, -⟩ := hx.slice
  have hcell : w.cell? ⟨g, T.length, none⟩ = some (.slice A1 J.length c1) := by
    rw [hT.cellAt T.length (by omega), ← hRl]
    simp
  refine (rdundo_low p g T.length c J.length c1 A1 VN w (hp.at_ 0) (hp.at_ 1) (hp.free 0) (hp.free 1) hcell hcap.1 hcap.2).mono ?_
  rintro e w' ⟨rfl, d, rfl⟩
  have hO : Only [p] w (((w.setCell ⟨p, 0, none⟩ (.slice A1 J.length c1)).setCell ⟨p, 1, none⟩ (.slice (some ⟨g, 0, none⟩) T.length c)).drewN d) := (((Only.refl _ _).put (by simp) _).put (by simp) _).drewN d
  have keepB : ∀ {V : Value} {K : List (List Bool)} {f' : List Nat}, Bx w 0 V K f' → Bx (((w.setCell ⟨p, 0, none⟩ (.slice A1 J.length c1)).setCell ⟨p, 1, none⟩ (.slice (some ⟨g, 0, none⟩) T.length c)).drewN d) 0 V K f' := fun {V K f'} hv => by
    obtain ⟨vs, o1, o2, o3, o4⟩ := hv.lies
    refine hv.only hO (fun g' hg' hm => ?_) (fun g' hg' hm => ?_)
    · simp at hm
      subst hm
      obtain ⟨cur, hcur⟩ := own_blk o1 hg'
      exact hcur.apart hp (by decide) rfl
    · simp at hm
      subst hm
      obtain ⟨-, cur, hcur⟩ := o4 g' hg'
      exact hcur.apart hp (by decide) rfl
  rw [← List.cons_append, List.pairwise_append] at hpw
  refine ⟨rfl, ⟨.slice A1 J.length c1, .slice (some ⟨g, 0, none⟩) T.length c, f, R, F, ?_, ?_, hFl, keepB hx, fun i v K f' hv hK hf => ?_, ?_, fun f' hf' => ?_, m2, hxf, m4⟩, hO.wide (fun i hi _ => by simp at hi; subst hi; exact m2)⟩
  · have := ((hp.put 0 (.slice A1 J.length c1)).put 1 (.slice (some ⟨g, 0, none⟩) T.length c)).drewN d
    simpa using this
  · have h1 := own_less hT
    rw [← hRl, List.take_left, hRl] at h1
    refine own_only h1 hO (fun g' hg' hm => ?_)
    simp at hm
    subst hm
    obtain ⟨cur, hcur⟩ := own_blk h1 hg'
    exact hcur.apart hp (by decide) rfl
  · have hi1 : i < R.length := (List.getElem?_eq_some_iff.1 hv).1
    obtain ⟨h1, h2⟩ := hr i v K f' (by rw [List.getElem?_append_left hi1]; exact hv) (by rw [List.getElem?_append_left (by omega)]; exact hK) (by rw [List.getElem?_append_left (by omega)]; exact hf)
    exact ⟨keepB h1, h2⟩
  · rw [List.pairwise_cons]
    refine ⟨fun b hb g' hg' hg2 => ?_, (List.pairwise_cons.1 hpw.1).2⟩
    exact hpw.2.2 b (by simp [hb]) f (by simp) g' hg2 hg'
  · rcases List.mem_cons.1 hf' with rfl | h1
    · exact m1 _ (by simp)
    · exact m1 _ (by simp [h1])

set_option maxHeartbeats 2000000 in
theorem rdbegin_any (p : Nat) (I : List (List Bool)) (T : List (List (List Bool))) (fp : List Nat) (w : World) (h : RD w p I T fp) (hF : FitI I) (hs : T.length < 1000) :
    Calls Tryd.prog 17 #[.pointer (some ⟨p, 0, none⟩)] w fun e w' => e = .returned (.int .i64 0) ∧ ∃ fp', RD w' p I (T ++ [I]) fp' ∧ Only fp w w' ∧ ∀ b ∈ fp', b ∈ fp ∨ w.heap.size ≤ b ∧ b < w'.heap.size := by
  obtain ⟨i0, hi, hz0, hz1, hz2⟩ := info_parts tinfo_boolss
  have hnI := hF.n
  obtain ⟨VN, VT, f0, rows, fs, hp, hT, hl, hN, hr, hpw, m1, m2, m3, m4⟩ := h.lies
  have hrl : rows.length = T.length := by have := hT.1; simpa using this
  obtain ⟨AT, cT, rfl, hc1, hc2, -, -⟩ := own_row hT
  obtain ⟨A, c, rfl, ha1, ha2⟩ := hN.slice
  have h0 : w.cell? ⟨p, 0, none⟩ = some (.slice A I.length c) := hp.at_ 0
  have h1 : w.cell? ⟨p, 1, none⟩ = some (.slice AT T.length cT) := hp.at_ 1
  unfold maxLen at hc2
  have HP := Lib.hid hp
  have HT := Lib.hid hT
  have HR := Lib.hid hr
  have HL := Lib.hid hl
  have HPW := Lib.hid hpw
  have HRL := Lib.hid hrl
  have HN := Lib.hid hN
  have HF := Lib.hid hF
  have hplt := hp.lt
  have hz : ((T.length : Int) == 1000) = false := by simp; omega
  obtain ⟨N, hNe⟩ : ∃ N, N = I.length := ⟨_, rfl⟩
  obtain ⟨M, hMe⟩ : ∃ M, M = T.length := ⟨_, rfl⟩
  have HNe := Lib.hid hNe
  have HMe := Lib.hid hMe
  rw [← hNe] at h0 ha1 HN hnI HP m3
  rw [← hMe] at h1 hc1 HT hz hs HP m4
  clear hp hT hr hl hpw hN hF hrl h hNe hMe
  go_enter Tryd.func17, Tryd.ntmps17
  go_wp2_with fail
  refine wp_region_noPanic ?_
  refine wp_region_timed (F := [⟨[], [11], fun w' => w'.cell? ⟨p, 1, none⟩ = some (.slice AT M cT)⟩, ⟨[], [14], fun w' => w'.cell? ⟨p, 0, none⟩ = some (.slice A N c)⟩]) (by kernel_rfl) (timed_holds (h1) (timed_holds (h0) (timed_nil))) ?_
  refine timed_pure (i := 0) (v := ?_) rfl (by kernel_rfl) (by kernel_rfl) (by kernel_rfl) (fun _ _ _ h => h) (by kernel_rfl) (by kernel_rfl) ?_ ?_
  rotate_left
  · (intro w; go_simp; try with_reducible rfl)
  try simp only [Act.put, List.getElem_toArray, List.getElem_cons_zero, List.getElem_cons_succ, List.setIfInBounds_toArray, List.set_cons_zero, List.set_cons_succ]
  refine timed_pure (i := 1) (v := ?_) rfl (by kernel_rfl) (by kernel_rfl) (by kernel_rfl) (fun _ _ _ h => h) (by kernel_rfl) (by kernel_rfl) ?_ ?_
  rotate_left
  · (intro w; go_simp; try with_reducible rfl)
  try simp only [Act.put, List.getElem_toArray, List.getElem_cons_zero, List.getElem_cons_succ, List.setIfInBounds_toArray, List.set_cons_zero, List.set_cons_succ]
  refine timed_pure (i := 2) (v := ?_) rfl (by kernel_rfl) (by kernel_rfl) (by kernel_rfl) (fun _ _ _ h => h) (by kernel_rfl) (by kernel_rfl) ?_ ?_
  rotate_left
  · (intro w; go_simp; try with_reducible rfl)
  try simp only [Act.put, List.getElem_toArray, List.getElem_cons_zero, List.getElem_cons_succ, List.setIfInBounds_toArray, List.set_cons_zero, List.set_cons_succ]
  refine timed_pure (i := 3) (v := ?_) rfl (by kernel_rfl) (by kernel_rfl) (by kernel_rfl) (fun _ _ _ h => h) (by kernel_rfl) (by kernel_rfl) ?_ ?_
  rotate_left
  · (intro w; go_simp; try with_reducible rfl)
  try simp only [Act.put, List.getElem_toArray, List.getElem_cons_zero, List.getElem_cons_succ, List.setIfInBounds_toArray, List.set_cons_zero, List.set_cons_succ]
  refine timed_read (i := 4) (v := ?_) 0 rfl (by kernel_rfl) (by kernel_rfl) (by kernel_rfl) (fun _ _ _ h => h) (by kernel_rfl) (by kernel_rfl) rfl (by kernel_rfl) ?_ ?_
  rotate_left
  · (intro w hSw; (try dsimp only at hSw); go_simp; try with_reducible rfl)
  try simp only [Act.put, List.getElem_toArray, List.getElem_cons_zero, List.getElem_cons_succ, List.setIfInBounds_toArray, List.set_cons_zero, List.set_cons_succ]
  refine timed_pure (i := 5) (v := ?_) rfl (by kernel_rfl) (by kernel_rfl) (by kernel_rfl) (fun _ _ _ h => h) (by kernel_rfl) (by kernel_rfl) ?_ ?_
  rotate_left
  · (intro w; go_simp; try with_reducible rfl)
  try simp only [Act.put, List.getElem_toArray, List.getElem_cons_zero, List.getElem_cons_succ, List.setIfInBounds_toArray, List.set_cons_zero, List.set_cons_succ]
  refine timed_pure (i := 6) (v := ?_) rfl (by kernel_rfl) (by kernel_rfl) (by kernel_rfl) (fun _ _ _ h => h) (by kernel_rfl) (by kernel_rfl) ?_ ?_
  rotate_left
  · (intro w; go_simp; try with_reducible rfl)
  try simp only [Act.put, List.getElem_toArray, List.getElem_cons_zero, List.getElem_cons_succ, List.setIfInBounds_toArray, List.set_cons_zero, List.set_cons_succ]
  refine timed_pure (i := 7) (v := ?_) rfl (by kernel_rfl) (by kernel_rfl) (by kernel_rfl) (fun _ _ _ h => h) (by kernel_rfl) (by kernel_rfl) ?_ ?_
  rotate_left
  · (intro w; go_simp; try with_reducible rfl)
  try simp only [Act.put, List.getElem_toArray, List.getElem_cons_zero, List.getElem_cons_succ, List.setIfInBounds_toArray, List.set_cons_zero, List.set_cons_succ]
  refine timed_read (i := 8) (v := ?_) 1 rfl (by kernel_rfl) (by kernel_rfl) (by kernel_rfl) (fun _ _ _ h => h) (by kernel_rfl) (by kernel_rfl) rfl (by kernel_rfl) ?_ ?_
  rotate_left
  · (intro w hSw; (try dsimp only at hSw); go_simp; try with_reducible rfl)
  try simp only [Act.put, List.getElem_toArray, List.getElem_cons_zero, List.getElem_cons_succ, List.setIfInBounds_toArray, List.set_cons_zero, List.set_cons_succ]
  refine timed_step (i := 9) (by kernel_rfl) rfl (fun K hK => ?_)
  go_simp
  have hcp := copied_any (.slice A N c) I f0 w.drew (HN.out.keep ((Only.refl [] w).drew)) HF.out
  refine hcp.mono ?_
  rintro e w1 ⟨V1, f1, ⟨rfl, hB1⟩, hO1⟩
  obtain ⟨A1, c1, hV1, hc11, hc12⟩ := hB1.slice
  rw [← HNe.out] at hV1
  subst hV1
  refine hK.out _ _ (timed_holds ((hO1.cell (p := ⟨p, 1, none⟩) hplt (by simp)).trans h1) (timed_holds ((hO1.cell (p := ⟨p, 0, none⟩) hplt (by simp)).trans h0) (timed_nil))) ?_
  clear hK K
  try simp only [Act.put, List.getElem_toArray, List.getElem_cons_zero, List.getElem_cons_succ, List.setIfInBounds_toArray, List.set_cons_zero, List.set_cons_succ]
  refine timed_step (i := 10) (by kernel_rfl) rfl (fun K hK => ?_)
  go_simp
  refine hK.out _ _ (timed_holds ((World.cell?_alloc_lt _ _ _ (Nat.lt_of_lt_of_le hplt hO1.size)).trans ((hO1.cell (p := ⟨p, 1, none⟩) hplt (by simp)).trans h1)) (timed_holds ((World.cell?_alloc_lt _ _ _ (Nat.lt_of_lt_of_le hplt hO1.size)).trans ((hO1.cell (p := ⟨p, 0, none⟩) hplt (by simp)).trans h0)) (timed_nil))) ?_
  clear hK K
  try simp only [Act.put, List.getElem_toArray, List.getElem_cons_zero, List.getElem_cons_succ, List.setIfInBounds_toArray, List.set_cons_zero, List.set_cons_succ]
  refine timed_step (i := 11) (by kernel_rfl) rfl (fun K hK => ?_)
  have OA : Only [] w (w1.alloc (.cells #[.slice A1 N c1] 51)) := (((Only.refl [] w).drew).trans hO1).alloc _
  refine step_append_row _ rfl (.tmp 13) (.tmp 19) 52 rfl 0 51 i0 _ 1 24 Tryd.underlying52 hi hz0 hz1 hz2 rfl (by omega) (.slice AT M cT) M rows (by rfl) (own_only HT.out OA (fun _ _ h => by cases h)) (w1.heap.size + 1) (some ⟨w1.heap.size, 0, none⟩) 1 1 [.slice A1 N c1] (by rfl) (by simp) (row_lit w1 51 #[.slice A1 N c1]) (by simp [Value.oneCell']) (by unfold maxLen; omega) (by omega) (by omega) ?_
  intro v' w3 hown hgrow hat
  obtain ⟨A', c', rfl, hc1', hc2', -, -⟩ := own_row hown
  have OV := only_grown hgrow
  have hP3 := OV.blk (OA.blk HP.out (by simp)) (own_apart HT.out HP.out (by decide))
  have hq2 : w3.cell? ⟨p, 1, none⟩ = some (.slice AT M cT) := hP3.at_ 1
  have hqf : w3.frozen? ⟨p, 1, none⟩ = false := hP3.free 1
  have hq0 : w3.cell? ⟨p, 0, none⟩ = some (.slice A N c) := hP3.at_ 0
  clear hP3
  refine hK.out _ _ (timed_over (by kernel_rfl) (timed_holds (hq0) (timed_nil))) ?_
  clear hK K
  try simp only [Act.put, List.getElem_toArray, List.getElem_cons_zero, List.getElem_cons_succ, List.setIfInBounds_toArray, List.set_cons_zero, List.set_cons_succ]
  refine timed_pure (i := 12) (v := ?_) rfl (by kernel_rfl) (by kernel_rfl) (by kernel_rfl) (fun _ _ _ h => h) (by kernel_rfl) (by kernel_rfl) ?_ ?_
  rotate_left
  · (intro w; go_simp; try with_reducible rfl)
  try simp only [Act.put, List.getElem_toArray, List.getElem_cons_zero, List.getElem_cons_succ, List.setIfInBounds_toArray, List.set_cons_zero, List.set_cons_succ]
  refine timed_pure (i := 13) (v := ?_) rfl (by kernel_rfl) (by kernel_rfl) (by kernel_rfl) (fun _ _ _ h => h) (by kernel_rfl) (by kernel_rfl) ?_ ?_
  rotate_left
  · (intro w; go_simp; try with_reducible rfl)
  try simp only [Act.put, List.getElem_toArray, List.getElem_cons_zero, List.getElem_cons_succ, List.setIfInBounds_toArray, List.set_cons_zero, List.set_cons_succ]
  refine timed_step (i := 14) (by kernel_rfl) rfl (fun K hK => ?_)
  go_simp
  refine hK.out _ _ (timed_over (by kernel_rfl) (timed_over (by kernel_rfl) (timed_nil))) ?_
  clear hK K
  try simp only [Act.put, List.getElem_toArray, List.getElem_cons_zero, List.getElem_cons_succ, List.setIfInBounds_toArray, List.set_cons_zero, List.set_cons_succ]
  refine timed_done (by kernel_rfl) ?_ _
  refine NoPanic.normal ?_
  go_wp2
  go_ret
  have O4 : Only [p] w3 (w3.setCell ⟨p, 1, none⟩ (.slice A' (M + 1) c')) := (Only.refl _ _).put (by simp) _
  have hmV : ∀ b ∈ (Value.slice AT M cT).ownBlock.toList, b ∈ fp := fun b hb => by
    cases hv : (Value.slice AT M cT).ownBlock with
    | none => rw [hv] at hb; cases hb
    | some g' => rw [hv] at hb; simp at hb; subst hb; exact m4 _ hv
  have O14 : Only fp w (w3.setCell ⟨p, 1, none⟩ (.slice A' (M + 1) c')) :=
    ((OA.wide (T := fp) (fun i hi _ => by cases hi)).step OV (fun i hi _ => hmV i hi)).step O4 (fun i hi _ => by simp at hi; subst hi; exact m2)
  have hP3' := OV.blk (OA.blk HP.out (by simp)) (own_apart HT.out HP.out (by decide))
  have hTA := own_only HT.out OA (fun _ _ h => by cases h)
  have keepB : ∀ {V : Value} {K : List (List Bool)} {f' : List Nat}, Bx w1 0 V K f' → Bx (w3.setCell ⟨p, 1, none⟩ (.slice A' (M + 1) c')) 0 V K f' := fun {V K f'} hv => by
    have a1 := hv.keep ((Only.refl [] w1).alloc (.cells #[.slice A1 N c1] 51))
    have a2 : Bx w3 0 V K f' := by
      obtain ⟨vs, o1, o2, o3, o4⟩ := a1.lies
      refine a1.only OV (fun g hg hm => ?_) (fun g hg hm => ?_)
      · obtain ⟨cur, hcur⟩ := own_blk o1 hg
        exact own_apart hTA hcur (by decide) hm
      · obtain ⟨-, cur, hcur⟩ := o4 g hg
        exact own_apart hTA hcur (by decide) hm
    obtain ⟨vs, o1, o2, o3, o4⟩ := a2.lies
    refine a2.only O4 (fun g hg hm => ?_) (fun g hg hm => ?_)
    · simp at hm
      subst hm
      obtain ⟨cur, hcur⟩ := own_blk o1 hg
      exact hcur.apart hP3' (by decide) rfl
    · simp at hm
      subst hm
      obtain ⟨-, cur, hcur⟩ := o4 g hg
      exact hcur.apart hP3' (by decide) rfl
  have O1' : Only [] w w1 := ((Only.refl [] w).drew).trans hO1
  have hx := keepB (hB1.low (Nat.zero_le _))
  have hgex : ∀ g, (Value.slice A1 N c1).ownBlock = some g → w.heap.size ≤ g ∧ g < w1.heap.size := fun g hg => hB1.own_lt hg
  have hfex : ∀ g ∈ f1, w.heap.size ≤ g ∧ g < w1.heap.size := fun g hg => by
    obtain ⟨vs, o1, o2, o3, o4⟩ := hB1.lies
    obtain ⟨h1, cur, h2⟩ := o4 g hg
    exact ⟨h1, h2.lt⟩
  refine ⟨rfl, f1 ++ ((Value.slice A1 N c1).ownBlock.toList ++ ((Value.slice A' (M + 1) c').ownBlock.toList ++ fp)), ⟨.slice A N c, .slice A' (M + 1) c', f0, rows ++ [.slice A1 N c1], fs ++ [f1], ?_, ?_, by simp [HL.out], keepB (HN.out.keep O1'), ?_, ?_, ?_, ?_, ?_, ?_⟩, O14, ?_⟩
  · have := hP3'.put 1 (.slice A' (M + 1) c')
    simpa using this
  · have a1 := own_only hown O4 (fun g' hg' hm => by
      simp at hm
      subst hm
      obtain ⟨cur, hcur⟩ := own_blk hown hg'
      exact hcur.apart hP3' (by decide) rfl)
    rw [HMe.out] at a1 ⊢
    simpa using a1
  · intro i v K f' hv hK hf
    have hll := HL.out
    have hrl := HRL.out
    rcases Nat.lt_or_ge i T.length with hi' | hi'
    · rw [List.getElem?_append_left (by omega)] at hv hK hf
      obtain ⟨h1, h2⟩ := HR.out i v K f' hv hK hf
      exact ⟨keepB (h1.keep O1'), fun g hg => by simp [h2 g hg]⟩
    · rw [List.getElem?_append_right (by omega)] at hv hK hf
      have hi0 : i - rows.length = 0 := by
        cases hk : i - rows.length with
        | zero => rfl
        | succ k => rw [hk] at hv; simp at hv
      rw [hi0] at hv
      rw [← hrl, hi0] at hK
      rw [hll, ← hrl, hi0] at hf
      simp at hv hK hf
      subst hv
      subst hK
      subst hf
      exact ⟨hx, fun g hg => by simp [hg]⟩
  · rw [← List.cons_append, List.pairwise_append]
    refine ⟨HPW.out, List.pairwise_singleton _ _, fun a ha b hb g hg hg' => ?_⟩
    simp at hb
    subst hb
    have h9 := (hfex g hg').1
    have : g < w.heap.size := by
      rcases List.mem_cons.1 ha with rfl | ha
      · obtain ⟨vs, o1, o2, o3, o4⟩ := HN.out.lies
        obtain ⟨-, cur, h2⟩ := o4 g hg
        exact h2.lt
      · obtain ⟨i, hia⟩ := List.mem_iff_getElem?.1 ha
        have hilt : i < fs.length := (List.getElem?_eq_some_iff.1 hia).1
        have hll := HL.out
        have hrl := HRL.out
        obtain ⟨v, hv⟩ : ∃ v, rows[i]? = some v := ⟨_, List.getElem?_eq_getElem (by omega)⟩
        obtain ⟨K, hK⟩ : ∃ K, T[i]? = some K := ⟨_, List.getElem?_eq_getElem (by omega)⟩
        obtain ⟨vs, o1, o2, o3, o4⟩ := (HR.out i v K a hv hK hia).1.lies
        obtain ⟨-, cur, h2⟩ := o4 g hg
        exact h2.lt
    omega
  · intro f' hf' g hg
    rw [← List.cons_append] at hf'
    rcases List.mem_append.1 hf' with h2 | h2
    · simp [m1 f' h2 g hg]
    · simp at h2
      subst h2
      simp [hg]
  · simp [m2]
  · intro g' hg'
    simp [m3 g' hg']
  · intro g' hg'
    simp [hg']
  · intro b hb
    have hsz := O14.size
    have hsz1 := OV.size
    have h9 : w.heap.size ≤ w1.heap.size := O1'.size
    simp only [World.size_alloc] at hsz1
    rw [World.size_setCell] at hsz ⊢
    rcases List.mem_append.1 hb with hb | hb
    · have := hfex b hb
      exact .inr ⟨this.1, by omega⟩
    rcases List.mem_append.1 hb with hb | hb
    · cases hv : (Value.slice A1 N c1).ownBlock with
      | none => rw [hv] at hb; cases hb
      | some g' =>
        rw [hv] at hb
        simp at hb
        subst hb
        have := hgex _ hv
        exact .inr ⟨this.1, by omega⟩
    · rcases List.mem_append.1 hb with hb | hb
      · rcases hat with hat | hat
        · rw [hat] at hb
          exact .inl (hmV b hb)
        · have hlt := own_lt hown hb
          rw [hat] at hb
          simp at hb
          subst hb
          exact .inr ⟨by omega, by omega⟩
      · exact .inl hb

end Go.Proofs.YtbidciakljpkiaaDoor
