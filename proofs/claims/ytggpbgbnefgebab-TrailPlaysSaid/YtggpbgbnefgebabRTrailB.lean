/- Contracts of the reference's trail, more: Begin and End. -/
import Derived.Test.YtggpbgbnefgebabRTrail
import Derived.Test.YtggpbgbnefgebabFuelPlays
set_option linter.unusedVariables false
set_option linter.unusedSimpArgs false
namespace Go.Proofs.Ytggpbgbnefgebab
open Go.RowKit
attribute [local go_sem ↓] Go.wp_at_zero Go.wp_at_succ

theorem one_cl (l : List Int) : ∀ u ∈ cl l, u.oneCell' = true := by
  intro u hu
  obtain ⟨z, _, rfl⟩ := List.mem_map.1 hu
  rfl
theorem own_ge {w : World} {base : Nat} {e : TypeId} {size : Nat} {v : Value} {n : Nat} {xs : List Value} (h : w.ownsRow base e size v n xs) {g : Nat} (hg : v.ownBlock = some g) : base ≤ g := by
  rcases h.2 with ⟨rfl, _⟩ | ⟨g', cap, cur, rfl, hb, hh, _⟩
  · simp [Value.ownBlock] at hg
  · simp [Value.ownBlock] at hg
    subst hg
    exact hb
theorem own_base {w : World} {base : Nat} {e : TypeId} {size : Nat} {v : Value} {n : Nat} {xs : List Value} (h : w.ownsRow base e size v n xs) : w.ownsRow 0 e size v n xs := by
  obtain ⟨hl, hv⟩ := h
  refine ⟨hl, ?_⟩
  rcases hv with hv | ⟨g, cap, cur, hv, hb, rest⟩
  · exact .inl hv
  · exact .inr ⟨g, cap, cur, hv, Nat.zero_le _, rest⟩

set_option maxHeartbeats 400000 in
theorem rbegin_full (p c : Nat) (A : Option Addr) (w : World) (h1 : w.cell? ⟨p, 1, none⟩ = some (.slice A 1000 c)) :
    Calls Try.prog 14 #[.pointer (some ⟨p, 0, none⟩)] w fun e w' => e = .returned (.int .i64 7) ∧ w = w' := by
  go_enter Try.func14, Try.ntmps14
  go_wp2
  go_ret
  exact ⟨rfl, rfl⟩

set_option maxHeartbeats 2000000 in
theorem rbegin_any (p n : Nat) (now : List Int) (saved : List (List Int)) (fp : List Nat) (w : World) (h : RT w p n (now :: saved) fp) (hn : n ≤ 1000) (hs : saved.length < 1000) :
    Calls Try.prog 14 #[.pointer (some ⟨p, 0, none⟩)] w fun e w' => e = .returned (.int .i64 0) ∧ ∃ fp', RT w' p n (now :: (saved ++ [now])) fp' ∧ Only fp w w' ∧ ∀ b ∈ fp', b ∈ fp ∨ w.heap.size ≤ b ∧ b < w'.heap.size := by
  obtain ⟨i0, hi, hz0, hz1, hz2⟩ := info_parts tinfo_ints
  obtain ⟨A, c, h0, hN0, hnl, -, -, hrow⟩ := h.now
  obtain ⟨VN, VT, rows, hp, hT, hl, hr, hpw, m1, m2⟩ := h.lies
  have hrl : rows.length = saved.length := by simpa using hl
  obtain ⟨AT, cT, rfl, hc1, hc2, -, -⟩ := own_row hT
  have h1 : w.cell? ⟨p, 1, none⟩ = some (.slice AT rows.length cT) := hp.at_ 1
  unfold maxLen at hc2
  have HP := Lib.hid hp
  have HT := Lib.hid hT
  have HR := Lib.hid hr
  have HL := Lib.hid hl
  have HPW := Lib.hid hpw
  have HNL := Lib.hid hnl
  have HROW := Lib.hid hrow
  have HRL := Lib.hid hrl
  have hplt := hp.lt
  have hrs : rows.length < 1000 := by omega
  have hz : ((rows.length : Int) == 1000) = false := by simp; omega
  clear hp hT hr hl hpw hnl hrow hN0 hrl h
  go_enter Try.func14, Try.ntmps14
  go_wp2_with fail
  refine wp_region_noPanic ?_
  refine wp_region_timed (F := [⟨[], [11], fun w' => w'.cell? ⟨p, 1, none⟩ = some (.slice AT rows.length cT)⟩, ⟨[], [14], fun w' => w'.cell? ⟨p, 0, none⟩ = some (.slice A n c)⟩]) (by kernel_rfl) (timed_holds (h1) (timed_holds (h0) (timed_nil))) ?_
  refine timed_pure (i := 0) (v := ?_) rfl (by kernel_rfl) (by kernel_rfl) (by kernel_rfl) (fun _ _ _ h => h) (by kernel_rfl) (by kernel_rfl) ?_ ?_
  rotate_left
  · (intro w; go_simp; try with_reducible rfl)
  try simp only [Act.put, List.setIfInBounds_toArray, List.set_cons_zero, List.set_cons_succ]
  refine timed_pure (i := 1) (v := ?_) rfl (by kernel_rfl) (by kernel_rfl) (by kernel_rfl) (fun _ _ _ h => h) (by kernel_rfl) (by kernel_rfl) ?_ ?_
  rotate_left
  · (intro w; go_simp; try with_reducible rfl)
  try simp only [Act.put, List.setIfInBounds_toArray, List.set_cons_zero, List.set_cons_succ]
  refine timed_pure (i := 2) (v := ?_) rfl (by kernel_rfl) (by kernel_rfl) (by kernel_rfl) (fun _ _ _ h => h) (by kernel_rfl) (by kernel_rfl) ?_ ?_
  rotate_left
  · (intro w; go_simp; try with_reducible rfl)
  try simp only [Act.put, List.setIfInBounds_toArray, List.set_cons_zero, List.set_cons_succ]
  refine timed_pure (i := 3) (v := ?_) rfl (by kernel_rfl) (by kernel_rfl) (by kernel_rfl) (fun _ _ _ h => h) (by kernel_rfl) (by kernel_rfl) ?_ ?_
  rotate_left
  · (intro w; go_simp; try with_reducible rfl)
  try simp only [Act.put, List.setIfInBounds_toArray, List.set_cons_zero, List.set_cons_succ]
  refine timed_read (i := 4) (v := ?_) 0 rfl (by kernel_rfl) (by kernel_rfl) (by kernel_rfl) (fun _ _ _ h => h) (by kernel_rfl) (by kernel_rfl) rfl (by kernel_rfl) ?_ ?_
  rotate_left
  · (intro w hSw; (try dsimp only at hSw); go_simp; try with_reducible rfl)
  try simp only [Act.put, List.setIfInBounds_toArray, List.set_cons_zero, List.set_cons_succ]
  refine timed_pure (i := 5) (v := ?_) rfl (by kernel_rfl) (by kernel_rfl) (by kernel_rfl) (fun _ _ _ h => h) (by kernel_rfl) (by kernel_rfl) ?_ ?_
  rotate_left
  · (intro w; go_simp; try with_reducible rfl)
  try simp only [Act.put, List.setIfInBounds_toArray, List.set_cons_zero, List.set_cons_succ]
  refine timed_pure (i := 6) (v := ?_) rfl (by kernel_rfl) (by kernel_rfl) (by kernel_rfl) (fun _ _ _ h => h) (by kernel_rfl) (by kernel_rfl) ?_ ?_
  rotate_left
  · (intro w; go_simp; try with_reducible rfl)
  try simp only [Act.put, List.setIfInBounds_toArray, List.set_cons_zero, List.set_cons_succ]
  refine timed_pure (i := 7) (v := ?_) rfl (by kernel_rfl) (by kernel_rfl) (by kernel_rfl) (fun _ _ _ h => h) (by kernel_rfl) (by kernel_rfl) ?_ ?_
  rotate_left
  · (intro w; go_simp; try with_reducible rfl)
  try simp only [Act.put, List.setIfInBounds_toArray, List.set_cons_zero, List.set_cons_succ]
  refine timed_read (i := 8) (v := ?_) 1 rfl (by kernel_rfl) (by kernel_rfl) (by kernel_rfl) (fun _ _ _ h => h) (by kernel_rfl) (by kernel_rfl) rfl (by kernel_rfl) ?_ ?_
  rotate_left
  · (intro w hSw; (try dsimp only at hSw); go_simp; try with_reducible rfl)
  try simp only [Act.put, List.setIfInBounds_toArray, List.set_cons_zero, List.set_cons_succ]
  refine timed_step (i := 9) (by kernel_rfl) rfl (fun K hK => ?_)
  go_simp
  have HRD : Row w.drew w.heap.size A (cl now) := HROW.out.only ((Only.refl [] w).drew) (fun _ h => by cases h)
  refine (ints_any A n c (cl now) _ HRD (by have := HNL.out; simpa [cl] using this) (one_cl now) (by omega)).mono ?_
  rintro e w1 ⟨v1, rfl, hv1, hO1⟩
  obtain ⟨A1, c1, rfl, hc11, hc12, -, -⟩ := own_row hv1
  refine hK.out _ _ (timed_holds ((hO1.cell (p := ⟨p, 1, none⟩) hplt (by simp)).trans h1) (timed_holds ((hO1.cell (p := ⟨p, 0, none⟩) hplt (by simp)).trans h0) (timed_nil))) ?_
  clear hK K
  try simp only [Act.put, List.setIfInBounds_toArray, List.set_cons_zero, List.set_cons_succ]
  refine timed_step (i := 10) (by kernel_rfl) rfl (fun K hK => ?_)
  go_simp
  refine hK.out _ _ (timed_holds ((World.cell?_alloc_lt _ _ _ (Nat.lt_of_lt_of_le hplt hO1.size)).trans ((hO1.cell (p := ⟨p, 1, none⟩) hplt (by simp)).trans h1)) (timed_holds ((World.cell?_alloc_lt _ _ _ (Nat.lt_of_lt_of_le hplt hO1.size)).trans ((hO1.cell (p := ⟨p, 0, none⟩) hplt (by simp)).trans h0)) (timed_nil))) ?_
  clear hK K
  try simp only [Act.put, List.setIfInBounds_toArray, List.set_cons_zero, List.set_cons_succ]
  refine timed_step (i := 11) (by kernel_rfl) rfl (fun K hK => ?_)
  have OA : Only [] w (w1.alloc (.cells #[.slice A1 n c1] 28)) := (((Only.refl [] w).drew).trans hO1).alloc _
  refine step_append_row _ rfl (.tmp 13) (.tmp 19) 29 rfl 0 28 i0 _ 1 24 Try.underlying29 hi hz0 hz1 hz2 rfl (by omega) (.slice AT rows.length cT) rows.length rows (by rfl) (own_only HT.out OA (fun _ _ h => by cases h)) (w1.heap.size + 1) (some ⟨w1.heap.size, 0, none⟩) 1 1 [.slice A1 n c1] (by rfl) (by simp) (row_lit w1 28 #[.slice A1 n c1]) (by simp [Value.oneCell']) (by unfold maxLen; omega) (by omega) (by omega) ?_
  intro v' w3 hown hgrow hat
  obtain ⟨A', c', rfl, hc1', hc2', -, -⟩ := own_row hown
  have OV := only_grown hgrow
  have hP3 := OV.blk (OA.blk HP.out (by simp)) (own_apart HT.out HP.out (by decide))
  have hq2 : w3.cell? ⟨p, 1, none⟩ = some (.slice AT rows.length cT) := hP3.at_ 1
  have hqf : w3.frozen? ⟨p, 1, none⟩ = false := hP3.free 1
  have hq0 : w3.cell? ⟨p, 0, none⟩ = some (.slice A n c) := (hP3.at_ 0).trans ((HP.out.at_ 0).symm.trans h0)
  clear hP3
  refine hK.out _ _ (timed_over (by kernel_rfl) (timed_holds (hq0) (timed_nil))) ?_
  clear hK K
  try simp only [Act.put, List.setIfInBounds_toArray, List.set_cons_zero, List.set_cons_succ]
  refine timed_pure (i := 12) (v := ?_) rfl (by kernel_rfl) (by kernel_rfl) (by kernel_rfl) (fun _ _ _ h => h) (by kernel_rfl) (by kernel_rfl) ?_ ?_
  rotate_left
  · (intro w; go_simp; try with_reducible rfl)
  try simp only [Act.put, List.setIfInBounds_toArray, List.set_cons_zero, List.set_cons_succ]
  refine timed_pure (i := 13) (v := ?_) rfl (by kernel_rfl) (by kernel_rfl) (by kernel_rfl) (fun _ _ _ h => h) (by kernel_rfl) (by kernel_rfl) ?_ ?_
  rotate_left
  · (intro w; go_simp; try with_reducible rfl)
  try simp only [Act.put, List.setIfInBounds_toArray, List.set_cons_zero, List.set_cons_succ]
  refine timed_step (i := 14) (by kernel_rfl) rfl (fun K hK => ?_)
  go_simp
  refine hK.out _ _ (timed_over (by kernel_rfl) (timed_over (by kernel_rfl) (timed_nil))) ?_
  clear hK K
  try simp only [Act.put, List.setIfInBounds_toArray, List.set_cons_zero, List.set_cons_succ]
  refine timed_done (by kernel_rfl) ?_ _
  refine NoPanic.normal ?_
  go_wp2
  go_ret
  have O4 : Only [p] w3 (w3.setCell ⟨p, 1, none⟩ (.slice A' (rows.length + 1) c')) := (Only.refl _ _).put (by simp) _
  have hmV : ∀ b ∈ (Value.slice AT rows.length cT).ownBlock.toList, b ∈ fp := fun b hb => by
    cases hv : (Value.slice AT rows.length cT).ownBlock with
    | none => rw [hv] at hb; cases hb
    | some g' => rw [hv] at hb; simp at hb; subst hb; exact m2 _ hv
  have O14 : Only fp w (w3.setCell ⟨p, 1, none⟩ (.slice A' (rows.length + 1) c')) :=
    ((OA.wide (T := fp) (fun i hi _ => by cases hi)).step OV (fun i hi _ => hmV i hi)).step O4 (fun i hi _ => by simp at hi; subst hi; exact m1)
  have hP3' := OV.blk (OA.blk HP.out (by simp)) (own_apart HT.out HP.out (by decide))
  have keepI : ∀ (base : Nat) (v : Value) (l : List Int), w1.ownsRow base 3 1 v n (cl l) → (w3.setCell ⟨p, 1, none⟩ (.slice A' (rows.length + 1) c')).ownsRow 0 3 1 v n (cl l) := fun base v l hv => by
    have a1 := own_only hv ((Only.refl [] w1).alloc (.cells #[.slice A1 n c1] 28)) (fun _ _ h => by cases h)
    have a2 := own_only a1 OV (fun g hg hm => by
      obtain ⟨cur, hcur⟩ := own_blk a1 hg
      exact own_apart (own_only HT.out OA (fun _ _ h => by cases h)) hcur (by decide) hm)
    have a3 := own_only a2 O4 (fun g hg hm => by
      simp at hm
      subst hm
      obtain ⟨cur, hcur⟩ := own_blk a2 hg
      exact hcur.apart hP3' (by decide) rfl)
    exact own_base a3
  have O1' : Only [] w w1 := ((Only.refl [] w).drew).trans hO1
  have hx := keepI _ _ _ hv1
  have hgex : ∀ g, (Value.slice A1 n c1).ownBlock = some g → w.heap.size ≤ g ∧ g < w1.heap.size := fun g hg => by
    obtain ⟨cur, hcur⟩ := own_blk hv1 hg
    exact ⟨own_ge hv1 hg, hcur.lt⟩
  refine ⟨rfl, (Value.slice A1 n c1).ownBlock.toList ++ ((Value.slice A' (rows.length + 1) c').ownBlock.toList ++ fp), ⟨VN, .slice A' (rows.length + 1) c', rows ++ [.slice A1 n c1], ?_, ?_, ?_, ?_, ?_, ?_, ?_⟩, O14, ?_⟩
  · have := hP3'.put 1 (.slice A' (rows.length + 1) c')
    simpa using this
  · have a1 := own_only hown O4 (fun g' hg' hm => by
      simp at hm
      subst hm
      obtain ⟨cur, hcur⟩ := own_blk hown hg'
      exact hcur.apart hP3' (by decide) rfl)
    simpa using a1
  · have := HL.out
    simp at this ⊢
    omega
  · intro i v l hv hd
    have hll := HL.out
    rcases Nat.lt_or_ge i (rows.length + 1) with hi' | hi'
    · rw [← List.cons_append, List.getElem?_append_left (by simpa using hi')] at hv
      rw [← List.cons_append, List.getElem?_append_left (by rw [← hll]; exact hi')] at hd
      obtain ⟨h1, h2⟩ := HR.out i v l hv hd
      exact ⟨keepI _ _ _ (own_only h1 O1' (fun _ _ h => by cases h)), fun g hg => by simp [h2 g hg]⟩
    · rw [← List.cons_append, List.getElem?_append_right (by simpa using hi')] at hv
      rw [← List.cons_append, List.getElem?_append_right (by rw [← hll]; exact hi')] at hd
      have hi0 : i - (VN :: rows).length = 0 := by
        cases hk : i - (VN :: rows).length with
        | zero => rfl
        | succ k => rw [hk] at hv; simp at hv
      have hi1 : i - (now :: saved).length = 0 := by
        rw [← hll]
        simpa using hi0
      rw [hi0] at hv
      rw [hi1] at hd
      simp at hv hd
      subst hv
      subst hd
      exact ⟨hx, fun g hg => by simp [hg]⟩
  · rw [← List.cons_append, List.pairwise_append]
    refine ⟨HPW.out, List.pairwise_singleton _ _, fun a ha b hb g hg hg' => ?_⟩
    simp at hb
    subst hb
    obtain ⟨i, hia⟩ := List.mem_iff_getElem?.1 ha
    have hilt : i < (VN :: rows).length := (List.getElem?_eq_some_iff.1 hia).1
    have hll := HL.out
    obtain ⟨l, hil⟩ : ∃ l, (now :: saved)[i]? = some l := ⟨_, List.getElem?_eq_getElem (by rw [← hll]; simpa using hilt)⟩
    obtain ⟨cur, hcur⟩ := own_blk (HR.out i a l hia hil).1 hg
    have := (hgex g hg').1
    have := hcur.lt
    omega
  · simp [m1]
  · intro g' hg'
    simp [hg']
  · intro b hb
    have hsz := O14.size
    have hsz1 := OV.size
    have h9 : w.heap.size ≤ w1.heap.size := O1'.size
    simp only [World.size_alloc] at hsz1
    rw [World.size_setCell] at hsz ⊢
    rcases List.mem_append.1 hb with hb | hb
    · cases hv : (Value.slice A1 n c1).ownBlock with
      | none => rw [hv] at hb; cases hb
      | some g' =>
        rw [hv] at hb
        simp at hb
        subst hb
        have := hgex _ hv
        exact .inr ⟨this.1, by omega⟩
    · rcases List.mem_append.1 hb with hb | hb
      · rcases hat with hat | hat
        · rw [hat] at hb
          exact .inl (hmV b hb)
        · have hlt := own_lt hown hb
          rw [hat] at hb
          simp at hb
          subst hb
          exact .inr ⟨by omega, by omega⟩
      · exact .inl hb

set_option maxHeartbeats 400000 in
theorem rend_none (p c : Nat) (u : Bool) (A : Option Addr) (w : World) (h1 : w.cell? ⟨p, 1, none⟩ = some (.slice A 0 c)) :
    Calls Try.prog 16 #[.pointer (some ⟨p, 0, none⟩), .bool u] w fun e w' => e = .returned (.int .i64 3) ∧ w = w' := by
  go_enter Try.func16, Try.ntmps16
  go_wp2
  go_ret
  exact ⟨rfl, rfl⟩

set_option maxHeartbeats 400000 in
theorem rend_keep (p g m c : Nat) (w : World) (h1 : w.cell? ⟨p, 1, none⟩ = some (.slice (some ⟨g, 0, none⟩) (m + 1) c)) (f1 : w.frozen? ⟨p, 1, none⟩ = false) (hm : m + 1 ≤ c) (hc : c ≤ maxLen) :
    Calls Try.prog 16 #[.pointer (some ⟨p, 0, none⟩), .bool false] w fun e w' => e = .returned (.int .i64 0) ∧ w.setCell ⟨p, 1, none⟩ (.slice (some ⟨g, 0, none⟩) m c) = w' := by
  unfold maxLen at hc
  have hz : ((m : Int) + 1 == 0) = false := by simp; omega
  have hb1 : (0 : Int) ≤ (m : Int) := Int.natCast_nonneg _
  have hb2 : (m : Int) ≤ (c : Int) := by omega
  go_enter Try.func16, Try.ntmps16
  go_wp2
  go_ret
  exact ⟨rfl, rfl⟩

set_option maxHeartbeats 400000 in
theorem rend_undo (p g m c n c1 : Nat) (A1 : Option Addr) (x : Value) (w : World) (h0 : w.cell? ⟨p, 0, none⟩ = some x) (h1 : w.cell? ⟨p, 1, none⟩ = some (.slice (some ⟨g, 0, none⟩) (m + 1) c)) (f0 : w.frozen? ⟨p, 0, none⟩ = false) (f1 : w.frozen? ⟨p, 1, none⟩ = false)
    (hg : w.cell? ⟨g, m, none⟩ = some (.slice A1 n c1)) (hm : m + 1 ≤ c) (hc : c ≤ maxLen) :
    Calls Try.prog 16 #[.pointer (some ⟨p, 0, none⟩), .bool true] w fun e w' => e = .returned (.int .i64 0) ∧ (w.setCell ⟨p, 0, none⟩ (.slice A1 n c1)).setCell ⟨p, 1, none⟩ (.slice (some ⟨g, 0, none⟩) m c) = w' := by
  unfold maxLen at hc
  have hz : ((m : Int) + 1 == 0) = false := by simp; omega
  have hb1 : (0 : Int) ≤ (m : Int) := Int.natCast_nonneg _
  have hb2 : (m : Int) ≤ (c : Int) := by omega
  have hb3 : (m : Int) < (m : Int) + 1 := by omega
  go_enter Try.func16, Try.ntmps16
  go_wp2
  go_ret
  exact ⟨rfl, rfl⟩

theorem rend_keep_any (p n : Nat) (now l : List Int) (init : List (List Int)) (fp : List Nat) (w : World) (h : RT w p n (now :: (init ++ [l])) fp) :
    Calls Try.prog 16 #[.pointer (some ⟨p, 0, none⟩), .bool false] w fun e w' => e = .returned (.int .i64 0) ∧ RT w' p n (now :: init) fp ∧ Only fp w w' := by
  obtain ⟨VN, VT, rows, hp, hT, hl, hr, hpw, m1, m2⟩ := h.lies
  have hrl : rows.length = init.length + 1 := by simpa using hl
  rcases List.eq_nil_or_concat rows with rfl | ⟨R, x, hcon⟩
  · simp at hrl
  rw [List.concat_eq_append] at hcon
  subst hcon
  have hRl : R.length = init.length := by simpa using hrl
  have e1 : (R ++ [x]).length = R.length + 1 := by simp
  rw [e1] at hT
  obtain ⟨g, c, rfl, -, -⟩ := hT.form (by omega)
  have hcap : R.length + 1 ≤ c ∧ c ≤ maxLen := by
    obtain ⟨A', c', e, h1, h2, -⟩ := own_row hT
    injection e with _ _ e
    subst e
    exact ⟨h1, h2⟩
  refine (rend_keep p g R.length c w (hp.at_ 1) (hp.free 1) hcap.1 hcap.2).mono ?_
  rintro e w' ⟨rfl, rfl⟩
  have hO : Only [p] w (w.setCell ⟨p, 1, none⟩ (.slice (some ⟨g, 0, none⟩) R.length c)) := (Only.refl _ _).put (by simp) _
  have keepI : ∀ (v : Value) (l : List Int), w.ownsRow 0 3 1 v n (cl l) → (w.setCell ⟨p, 1, none⟩ (.slice (some ⟨g, 0, none⟩) R.length c)).ownsRow 0 3 1 v n (cl l) := fun v l hv =>
    own_only hv hO (fun g' hg' hm => by
      simp at hm
      subst hm
      obtain ⟨cur, hcur⟩ := own_blk hv hg'
      exact hcur.apart hp (by decide) rfl)
  refine ⟨rfl, ⟨VN, _, R, hp.put 1 (.slice (some ⟨g, 0, none⟩) R.length c), ?_, by simp [hRl], fun i v l' hv hd => ?_, ?_, m1, m2⟩, hO.wide (fun i hi _ => by simp at hi; subst hi; exact m1)⟩
  · have h1 := own_less hT
    rw [List.take_left] at h1
    refine own_only h1 hO (fun g' hg' hm => ?_)
    simp at hm
    subst hm
    obtain ⟨cur, hcur⟩ := own_blk h1 hg'
    exact hcur.apart hp (by decide) rfl
  · have hi1 : i < (VN :: R).length := (List.getElem?_eq_some_iff.1 hv).1
    obtain ⟨h1, h2⟩ := hr i v l' (by rw [← List.cons_append, List.getElem?_append_left hi1]; exact hv) (by rw [← List.cons_append, List.getElem?_append_left (by simpa [hRl] using hi1)]; exact hd)
    exact ⟨keepI _ _ h1, h2⟩
  · rw [← List.cons_append, List.pairwise_append] at hpw
    exact hpw.1

theorem rend_undo_any (p n : Nat) (now l : List Int) (init : List (List Int)) (fp : List Nat) (w : World) (h : RT w p n (now :: (init ++ [l])) fp) :
    Calls Try.prog 16 #[.pointer (some ⟨p, 0, none⟩), .bool true] w fun e w' => e = .returned (.int .i64 0) ∧ RT w' p n (l :: init) fp ∧ Only fp w w' := by
  obtain ⟨VN, VT, rows, hp, hT, hl, hr, hpw, m1, m2⟩ := h.lies
  have hrl : rows.length = init.length + 1 := by simpa using hl
  rcases List.eq_nil_or_concat rows with rfl | ⟨R, x, hcon⟩
  · simp at hrl
  rw [List.concat_eq_append] at hcon
  subst hcon
  have hRl : R.length = init.length := by simpa using hrl
  have e1 : (R ++ [x]).length = R.length + 1 := by simp
  rw [e1] at hT
  obtain ⟨g, c, rfl, -, -⟩ := hT.form (by omega)
  have hcap : R.length + 1 ≤ c ∧ c ≤ maxLen := by
    obtain ⟨A', c', e, h1, h2, -⟩ := own_row hT
    injection e with _ _ e
    subst e
    exact ⟨h1, h2⟩
  have hxl := hr (R.length + 1) x l (by simp) (by simp [hRl])
  obtain ⟨A1, c1, rfl, -, -, -, -⟩ := own_row hxl.1
  have hcell : w.cell? ⟨g, R.length, none⟩ = some (.slice A1 n c1) := by
    rw [hT.cellAt R.length (by omega)]
    simp
  refine (rend_undo p g R.length c n c1 A1 VN w (hp.at_ 0) (hp.at_ 1) (hp.free 0) (hp.free 1) hcell hcap.1 hcap.2).mono ?_
  rintro e w' ⟨rfl, rfl⟩
  have hO : Only [p] w ((w.setCell ⟨p, 0, none⟩ (.slice A1 n c1)).setCell ⟨p, 1, none⟩ (.slice (some ⟨g, 0, none⟩) R.length c)) := ((Only.refl _ _).put (by simp) _).put (by simp) _
  have keepI : ∀ (v : Value) (l : List Int), w.ownsRow 0 3 1 v n (cl l) → ((w.setCell ⟨p, 0, none⟩ (.slice A1 n c1)).setCell ⟨p, 1, none⟩ (.slice (some ⟨g, 0, none⟩) R.length c)).ownsRow 0 3 1 v n (cl l) := fun v l hv =>
    own_only hv hO (fun g' hg' hm => by
      simp at hm
      subst hm
      obtain ⟨cur, hcur⟩ := own_blk hv hg'
      exact hcur.apart hp (by decide) rfl)
  rw [← List.cons_append, List.pairwise_append] at hpw
  refine ⟨rfl, ⟨.slice A1 n c1, .slice (some ⟨g, 0, none⟩) R.length c, R, ?_, ?_, by simp [hRl], fun i v l' hv hd => ?_, ?_, m1, m2⟩, hO.wide (fun i hi _ => by simp at hi; subst hi; exact m1)⟩
  · have := (hp.put 0 (.slice A1 n c1)).put 1 (.slice (some ⟨g, 0, none⟩) R.length c)
    simpa using this
  · have h1 := own_less hT
    rw [List.take_left] at h1
    refine own_only h1 hO (fun g' hg' hm => ?_)
    simp at hm
    subst hm
    obtain ⟨cur, hcur⟩ := own_blk h1 hg'
    exact hcur.apart hp (by decide) rfl
  · cases i with
    | zero =>
      simp at hv hd
      subst hv
      subst hd
      exact ⟨keepI _ _ hxl.1, hxl.2⟩
    | succ i =>
      simp at hv hd
      have hi1 : i < R.length := (List.getElem?_eq_some_iff.1 hv).1
      obtain ⟨h1, h2⟩ := hr (i + 1) v l' (by simp [List.getElem?_append_left hi1]; exact hv) (by simp [List.getElem?_append_left (show i < init.length by omega)]; exact hd)
      exact ⟨keepI _ _ h1, h2⟩
  · rw [List.pairwise_cons]
    refine ⟨fun a ha g' hg' hg2 => ?_, (List.pairwise_cons.1 hpw.1).2⟩
    exact hpw.2.2 a (by simp [ha]) (.slice A1 n c1) (by simp) g' hg2 hg'

end Go.Proofs.Ytggpbgbnefgebab
