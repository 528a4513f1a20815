/- TrailPlays: a trail that is changed, begun, undone and kept anyhow answers as the reference does. -/
import Derived.Test.YtggpbgbnefgebabRTrailB
set_option linter.unusedVariables false
set_option linter.unusedSimpArgs false
namespace Go.Proofs.Ytggpbgbnefgebab
open Go.RowKit
attribute [local go_sem ↓] Go.wp_at_zero Go.wp_at_succ

/-- Among four: one of 0 to 3. -/
def amg (x : Int) : Int := wrap64 ((IntKind.u64.wrap x).tmod 4)
theorem amg_bd (x : Int) : 0 ≤ amg x ∧ amg x ≤ 3 := by
  have h : 0 ≤ IntKind.u64.wrap x := by
    have := wf_wrap .u64 x
    simp [Lit.wf, IntKind.min, IntKind.max, IntKind.signed, IntKind.bits] at this
    exact this.1
  unfold amg
  generalize IntKind.u64.wrap x = y at *
  have h1 := Int.tmod_nonneg 4 h
  have h2 := Int.tmod_lt_of_pos y (show (0 : Int) < 4 by omega)
  have e : wrap64 (y.tmod 4) = y.tmod 4 := by unfold wrap64; omega
  rw [e]
  omega

set_option maxHeartbeats 400000 in
theorem among4 (x : Int) (w : World) :
    Calls Try.prog 10 #[.int .i64 x, .int .i64 4] w fun e w' => e = .returned (.int .i64 (amg x)) ∧ w = w' := by
  go_enter Try.func10, Try.ntmps10
  go_wp2
  go_ret
  exact ⟨rfl, rfl⟩

/-- Both trails, and what has changed since w0. -/
structure TP (w0 w : World) (p q n : Nat) (now : List Int) (saved : List (List Int)) (fp fq : List Nat) : Prop where
  T : Tr w p now saved fp
  R : RT w q n (now :: saved) fq
  len : now.length = n
  o : Only [] w0 w
  sep : ∀ b ∈ fp, b ∉ fq
  bp : ∀ b ∈ fp, w0.heap.size ≤ b ∧ b < w.heap.size
  bq : ∀ b ∈ fq, w0.heap.size ≤ b ∧ b < w.heap.size

section
variable {w0 w : World} {p q n : Nat} {now : List Int} {saved : List (List Int)} {fp fq : List Nat}
theorem TP.none_ (h : TP w0 w p q n now saved fp fq) {w' : World} (ho : Only [] w w') : TP w0 w' p q n now saved fp fq :=
  ⟨h.T.only ho (by simp), h.R.only ho (by simp), h.len, h.o.trans ho, h.sep, fun b hb => ⟨(h.bp b hb).1, Nat.lt_of_lt_of_le (h.bp b hb).2 ho.size⟩, fun b hb => ⟨(h.bq b hb).1, Nat.lt_of_lt_of_le (h.bq b hb).2 ho.size⟩⟩

/-- The program's trail takes a step. -/
theorem tp_left {w1 : World} {now' : List Int} {saved' : List (List Int)} {fp' : List Nat} (h : TP w0 w p q n now saved fp fq) (hT : Tr w1 p now' saved' fp') (hO : Only fp w w1)
    (hf : ∀ b ∈ fp', b ∈ fp ∨ w.heap.size ≤ b ∧ b < w1.heap.size) :
    RT w1 q n (now :: saved) fq ∧ Only [] w0 w1 ∧ (∀ b ∈ fp', b ∉ fq) ∧ (∀ b ∈ fp', w0.heap.size ≤ b ∧ b < w1.heap.size) ∧ (∀ b ∈ fq, w0.heap.size ≤ b ∧ b < w1.heap.size) := by
  have hs := h.o.size
  have hs1 := hO.size
  refine ⟨h.R.only hO (fun b hb hm => h.sep b hm hb), h.o.step hO (fun i hi hl => by have := (h.bp i hi).1; omega), fun b hb hm => ?_, fun b hb => ?_, fun b hb => ⟨(h.bq b hb).1, by have := (h.bq b hb).2; omega⟩⟩
  · rcases hf b hb with h1 | h1
    · exact h.sep b h1 hm
    · have := (h.bq b hm).2; omega
  · rcases hf b hb with h1 | h1
    · have := h.bp b h1; omega
    · omega

/-- The reference's trail follows. -/
theorem tp_right {w1 w2 : World} {now' : List Int} {saved' : List (List Int)} {fp' fq' : List Nat} (hT : Tr w1 p now' saved' fp') (hO0 : Only [] w0 w1) (hsep : ∀ b ∈ fp', b ∉ fq)
    (hbp : ∀ b ∈ fp', w0.heap.size ≤ b ∧ b < w1.heap.size) (hbq : ∀ b ∈ fq, w0.heap.size ≤ b ∧ b < w1.heap.size) (hlen : now'.length = n)
    (hR : RT w2 q n (now' :: saved') fq') (hO : Only fq w1 w2) (hf : ∀ b ∈ fq', b ∈ fq ∨ w1.heap.size ≤ b ∧ b < w2.heap.size) : TP w0 w2 p q n now' saved' fp' fq' := by
  have hs := hO0.size
  have hs1 := hO.size
  refine ⟨hT.only hO (fun b hb hm => hsep b hb hm), hR, hlen, hO0.step hO (fun i hi hl => by have := (hbq i hi).1; omega), fun b hb hm => ?_, fun b hb => ⟨(hbp b hb).1, by have := (hbp b hb).2; omega⟩, fun b hb => ?_⟩
  · rcases hf b hm with h1 | h1
    · exact hsep b hb h1
    · have := (hbp b hb).2; omega
  · rcases hf b hb with h1 | h1
    · have := hbq b h1; omega
    · omega
end

set_option maxRecDepth 100000 in
set_option maxHeartbeats 8000000 in
theorem trailPlays_walk (c8 : Int) (A : Option Addr) (m c n : Nat) (zs : List Int) (w : World) (h0 : 0 ≤ c8) (h1 : c8 ≤ 255) (hn : c8 % 9 = (n : Int)) (hmc : m ≤ c) (hc : c ≤ maxLen) (hz : zs.length = m * 3)
    (hr : Row w w.heap.size A (zs.map (Value.int .i64))) :
    Calls Try.prog 3 #[.int .u8 c8, .slice A m c] w fun e w' => e = .returned (.bool true) ∧ Only [] w w' := by
  unfold maxLen at hc
  have hn8 : n ≤ 8 := by omega
  have HN := Lib.hid hn
  have HR := Lib.hid hr
  have HZ := Lib.hid hz
  have hmk := fun W => run_make_row' (P := Try.prog) 28 3 (.int .i64 0) 8 Try.underlying28 tinfo_int rfl .i64 .i64 n (by omega) (by omega) W
  clear hn hr hz
  go_enter Try.func3, Try.ntmps3
  go_wp2_with fail
  simp only [HN.out]
  refine (tnew_ok n _ (by omega)).mono ?_
  rintro e w1 ⟨rfl, T1, O1⟩
  have hw1 : w.heap.size + 1 < w1.heap.size := by
    obtain ⟨gc, V, gs, hp, -⟩ := T1.lies
    exact hp.lt
  have B1 : Blk ((w1.alloc (.cells (madeCells #[.int .i64 0] n) 3)).alloc (.cells #[.slice (some ⟨w1.heap.size, 0, none⟩) n n, .slice none 0 0] 31)) (w1.heap.size + 1) 31 #[.slice (some ⟨w1.heap.size, 0, none⟩) n n, .slice none 0 0] := by
    have := Blk.made (w1.alloc (.cells (madeCells #[.int .i64 0] n) 3)) 31 #[.slice (some ⟨w1.heap.size, 0, none⟩) n n, .slice none 0 0]
    simpa using this
  have hown1 : ((w1.alloc (.cells (madeCells #[.int .i64 0] n) 3)).alloc (.cells #[.slice (some ⟨w1.heap.size, 0, none⟩) n n, .slice none 0 0] 31)).ownsRow 0 3 1 (.slice (some ⟨w1.heap.size, 0, none⟩) n n) n (cl (List.replicate n 0)) := by
    have h9 := World.ownsRow_lit (base := 0) (e := 3) (size := 1) w1 (madeCells #[.int .i64 0] n) n (Nat.zero_le _) (by unfold maxLen; omega) (by rw [size_madeCells, Nat.mul_one])
    rw [toList_madeCells_one] at h9
    have h8 := own_only h9 ((Only.refl [] _).alloc (.cells #[.slice (some ⟨w1.heap.size, 0, none⟩) n n, .slice none 0 0] 31)) (fun _ _ h => by cases h)
    simpa [cl] using h8
  have hTP : TP w ((w1.alloc (.cells (madeCells #[.int .i64 0] n) 3)).alloc (.cells #[.slice (some ⟨w1.heap.size, 0, none⟩) n n, .slice none 0 0] 31)) (w.heap.size + 1) (w1.heap.size + 1) n (List.replicate n 0) [] [w.heap.size, w.heap.size + 1] [w1.heap.size, w1.heap.size + 1] := by
    have hO := ((Only.refl [] w1).alloc (.cells (madeCells #[.int .i64 0] n) 3)).alloc (.cells #[.slice (some ⟨w1.heap.size, 0, none⟩) n n, .slice none 0 0] 31)
    refine ⟨T1.only hO (by simp), ⟨_, _, [], B1, World.ownsRow_nil _ _ _ _, rfl, fun i v l hv hd => ?_, List.pairwise_singleton _ _, by simp, (fun g hg => by simp [Value.ownBlock] at hg)⟩, by simp, O1.trans hO, (fun b hb => by simp at hb ⊢; omega), (fun b hb => by simp at hb ⊢; omega), (fun b hb => by simp at hb ⊢; omega)⟩
    cases i with
    | zero =>
      simp at hv hd
      subst hv
      subst hd
      exact ⟨hown1, fun g hg => by simp [Value.ownBlock] at hg; simp [hg]⟩
    | succ i => simp at hv
  go_wp2_with fail
  generalize ((w1.alloc (.cells (madeCells #[.int .i64 0] n) 3)).alloc (.cells #[.slice (some ⟨w1.heap.size, 0, none⟩) n n, .slice none 0 0] 31)) = w2 at *
  clear T1 O1 B1 hown1 hmk
  go_loopw [9] (fun i wr => ∃ (j : Nat) (now : List Int) (saved : List (List Int)) (fp fq : List Nat), i = .int .i64 j ∧ j ≤ 80 ∧ saved.length ≤ j ∧ TP w wr (w.heap.size + 1) (w1.heap.size + 1) n now saved fp fq) (fun i _ => 80 - (intOf i).toNat)
  case atStart => exact ⟨0, _, [], _, _, rfl, by omega, by simp, hTP⟩
  case round =>
    obtain ⟨j, now, saved, fp, fq, rfl, hj, hsj, TPr⟩ := hrel
    by_cases hgo : j < m ∧ j < 80
    · obtain ⟨hjm, hj80⟩ := hgo
      have hz' := HZ.out
      obtain ⟨b, off, rfl, hbB, hbw, hcell⟩ := HR.out.open_ (k := j * 3 + 2) (by rw [List.length_map, hz']; omega)
      obtain ⟨z0, hz0⟩ : ∃ z, zs[j * 3]? = some z := ⟨_, List.getElem?_eq_getElem (by omega)⟩
      obtain ⟨z1, hz1⟩ : ∃ z, zs[j * 3 + 1]? = some z := ⟨_, List.getElem?_eq_getElem (by omega)⟩
      obtain ⟨z2, hz2⟩ : ∃ z, zs[j * 3 + 2]? = some z := ⟨_, List.getElem?_eq_getElem (by omega)⟩
      have hc0 : wr.cell? ⟨b, off + j * 3, none⟩ = some (.int .i64 z0) :=
        (TPr.o.cell (p := ⟨b, off + j * 3, none⟩) hbw (by simp)).trans (hcell (j * 3) _ (by rw [List.getElem?_map, hz0]; rfl))
      have hc1 : wr.cell? ⟨b, off + j * 3 + 1, none⟩ = some (.int .i64 z1) := by
        have := (TPr.o.cell (p := ⟨b, off + (j * 3 + 1), none⟩) hbw (by simp)).trans (hcell (j * 3 + 1) _ (by rw [List.getElem?_map, hz1]; rfl))
        rw [Nat.add_assoc]
        exact this
      have hc2 : wr.cell? ⟨b, off + j * 3 + 2, none⟩ = some (.int .i64 z2) := by
        have := (TPr.o.cell (p := ⟨b, off + (j * 3 + 2), none⟩) hbw (by simp)).trans (hcell (j * 3 + 2) _ (by rw [List.getElem?_map, hz2]; rfl))
        rw [Nat.add_assoc]
        exact this
      have hj0 : (0 : Int) ≤ (j : Int) := Int.natCast_nonneg _
      have hj1 : (j : Int) < (m : Int) := by omega
      have hj2 : (j : Int) < 80 := by omega
      clear hcell hz0 hz1 hz2 hz'
      go_wp2_with fail
      refine (among4 z0 _).mono ?_
      rintro e wa' ⟨rfl, rfl⟩
      have hab := amg_bd z0
      generalize amg z0 = r at *
      have BA : Blk (wr.alloc (.cells #[.int .i64 z0, .int .i64 z1, .int .i64 z2] 33)) wr.heap.size 33 #[.int .i64 z0, .int .i64 z1, .int .i64 z2] := Blk.made _ _ _
      have TPa := TPr.none_ ((Only.refl [] wr).alloc (.cells #[.int .i64 z0, .int .i64 z1, .int .i64 z2] 33))
      have hfa : ∀ b ∈ fp, b ≠ wr.heap.size := fun b hb => Nat.ne_of_lt (TPr.bp b hb).2
      have hqa : ∀ b ∈ fq, b ≠ wr.heap.size := fun b hb => Nat.ne_of_lt (TPr.bq b hb).2
      have hnl := TPr.len
      have HNLL := Lib.hid hnl
      have hn1 : now.length ≤ 1000 := by omega
      clear TPr hc0 hc1 hc2 hnl
      generalize wr.alloc (.cells #[.int .i64 z0, .int .i64 z1, .int .i64 z2] 33) = wa at *
      generalize wr.heap.size = ab at *
      have hr4 : r = 0 ∨ r = 1 ∨ r = 2 ∨ r = 3 := by omega
      clear hab
      rcases hr4 with rfl | rfl | rfl | rfl
      · have TPd := TPa.none_ (Only.refl [] wa).drew
        have ha1 : wa.drew.cell? ⟨ab, 1, none⟩ = some (.int .i64 z1) := BA.at_ 1
        have ha2 : wa.drew.cell? ⟨ab, 2, none⟩ = some (.int .i64 z2) := BA.at_ 2
        have habl := BA.lt
        go_wp2_with fail
        refine wp_region_noPanic ?_
        refine wp_region_timed (F := [⟨[], [], fun w' => w'.cell? ⟨ab, 1, none⟩ = some (.int .i64 z1)⟩, ⟨[], [], fun w' => w'.cell? ⟨ab, 2, none⟩ = some (.int .i64 z2)⟩]) (by kernel_rfl) (timed_holds (ha1) (timed_holds (ha2) (timed_nil))) ?_
        refine timed_pure (i := 0) (v := ?_) rfl (by kernel_rfl) (by kernel_rfl) (by kernel_rfl) (fun _ _ _ h => h) (by kernel_rfl) (by kernel_rfl) ?_ ?_
        rotate_left
        · (intro w; go_simp; try with_reducible rfl)
        try simp only [Act.put, List.getElem_toArray, List.getElem_cons_zero, List.getElem_cons_succ, List.setIfInBounds_toArray, List.set_cons_zero, List.set_cons_succ]
        refine timed_pure (i := 1) (v := ?_) rfl (by kernel_rfl) (by kernel_rfl) (by kernel_rfl) (fun _ _ _ h => h) (by kernel_rfl) (by kernel_rfl) ?_ ?_
        rotate_left
        · (intro w; go_simp; try with_reducible rfl)
        try simp only [Act.put, List.getElem_toArray, List.getElem_cons_zero, List.getElem_cons_succ, List.setIfInBounds_toArray, List.set_cons_zero, List.set_cons_succ]
        refine timed_read (i := 2) (v := ?_) 0 rfl (by kernel_rfl) (by kernel_rfl) (by kernel_rfl) (fun _ _ _ h => h) (by kernel_rfl) (by kernel_rfl) rfl (by kernel_rfl) ?_ ?_
        rotate_left
        · (intro w hSw; (try dsimp only at hSw); go_simp; try with_reducible rfl)
        try simp only [Act.put, List.getElem_toArray, List.getElem_cons_zero, List.getElem_cons_succ, List.setIfInBounds_toArray, List.set_cons_zero, List.set_cons_succ]
        refine timed_pure (i := 3) (v := ?_) rfl (by kernel_rfl) (by kernel_rfl) (by kernel_rfl) (fun _ _ _ h => h) (by kernel_rfl) (by kernel_rfl) ?_ ?_
        rotate_left
        · (intro w; go_simp; try with_reducible rfl)
        try simp only [Act.put, List.getElem_toArray, List.getElem_cons_zero, List.getElem_cons_succ, List.setIfInBounds_toArray, List.set_cons_zero, List.set_cons_succ]
        refine timed_read (i := 4) (v := ?_) 1 rfl (by kernel_rfl) (by kernel_rfl) (by kernel_rfl) (fun _ _ _ h => h) (by kernel_rfl) (by kernel_rfl) rfl (by kernel_rfl) ?_ ?_
        rotate_left
        · (intro w hSw; (try dsimp only at hSw); go_simp; try with_reducible rfl)
        try simp only [Act.put, List.getElem_toArray, List.getElem_cons_zero, List.getElem_cons_succ, List.setIfInBounds_toArray, List.set_cons_zero, List.set_cons_succ]
        refine timed_pure (i := 6) (v := ?_) rfl (by kernel_rfl) (by kernel_rfl) (by kernel_rfl) (fun _ _ _ h => h) (by kernel_rfl) (by kernel_rfl) ?_ ?_
        rotate_left
        · (intro w; go_simp; try with_reducible rfl)
        try simp only [Act.put, List.getElem_toArray, List.getElem_cons_zero, List.getElem_cons_succ, List.setIfInBounds_toArray, List.set_cons_zero, List.set_cons_succ]
        refine timed_pure (i := 7) (v := ?_) rfl (by kernel_rfl) (by kernel_rfl) (by kernel_rfl) (fun _ _ _ h => h) (by kernel_rfl) (by kernel_rfl) ?_ ?_
        rotate_left
        · (intro w; go_simp; try with_reducible rfl)
        try simp only [Act.put, List.getElem_toArray, List.getElem_cons_zero, List.getElem_cons_succ, List.setIfInBounds_toArray, List.set_cons_zero, List.set_cons_succ]
        refine timed_read (i := 8) (v := ?_) 0 rfl (by kernel_rfl) (by kernel_rfl) (by kernel_rfl) (fun _ _ _ h => h) (by kernel_rfl) (by kernel_rfl) rfl (by kernel_rfl) ?_ ?_
        rotate_left
        · (intro w hSw; (try dsimp only at hSw); go_simp; try with_reducible rfl)
        try simp only [Act.put, List.getElem_toArray, List.getElem_cons_zero, List.getElem_cons_succ, List.setIfInBounds_toArray, List.set_cons_zero, List.set_cons_succ]
        refine timed_pure (i := 9) (v := ?_) rfl (by kernel_rfl) (by kernel_rfl) (by kernel_rfl) (fun _ _ _ h => h) (by kernel_rfl) (by kernel_rfl) ?_ ?_
        rotate_left
        · (intro w; go_simp; try with_reducible rfl)
        try simp only [Act.put, List.getElem_toArray, List.getElem_cons_zero, List.getElem_cons_succ, List.setIfInBounds_toArray, List.set_cons_zero, List.set_cons_succ]
        refine timed_read (i := 10) (v := ?_) 1 rfl (by kernel_rfl) (by kernel_rfl) (by kernel_rfl) (fun _ _ _ h => h) (by kernel_rfl) (by kernel_rfl) rfl (by kernel_rfl) ?_ ?_
        rotate_left
        · (intro w hSw; (try dsimp only at hSw); go_simp; try with_reducible rfl)
        try simp only [Act.put, List.getElem_toArray, List.getElem_cons_zero, List.getElem_cons_succ, List.setIfInBounds_toArray, List.set_cons_zero, List.set_cons_succ]
        refine timed_step (i := 5) (by kernel_rfl) rfl (fun K hK => ?_)
        go_simp
        refine (tset_any _ z1 z2 now saved fp _ TPd.T hn1).mono ?_
        rintro e w5 ⟨rfl, T5, O5⟩
        have L5 := tp_left TPd T5 O5 (fun b hb => Or.inl hb)
        refine hK.out _ _ (timed_holds ((O5.cell (p := ⟨ab, 1, none⟩) habl (fun hm => hfa _ hm rfl)).trans ha1) (timed_holds ((O5.cell (p := ⟨ab, 2, none⟩) habl (fun hm => hfa _ hm rfl)).trans ha2) (timed_nil))) ?_
        clear hK K
        try simp only [Act.put, List.getElem_toArray, List.getElem_cons_zero, List.getElem_cons_succ, List.setIfInBounds_toArray, List.set_cons_zero, List.set_cons_succ]
        refine timed_step (i := 11) (by kernel_rfl) rfl (fun K hK => ?_)
        go_simp
        refine (rset_any _ n z1 z2 now saved fq _ L5.1 (by omega)).mono ?_
        rintro e w6 ⟨rfl, R6, O6⟩
        refine hK.out _ _ (timed_holds ((O6.cell (p := ⟨ab, 1, none⟩) (Nat.lt_of_lt_of_le habl O5.size) (fun hm => hqa _ hm rfl)).trans ((O5.cell (p := ⟨ab, 1, none⟩) habl (fun hm => hfa _ hm rfl)).trans ha1)) (timed_holds ((O6.cell (p := ⟨ab, 2, none⟩) (Nat.lt_of_lt_of_le habl O5.size) (fun hm => hqa _ hm rfl)).trans ((O5.cell (p := ⟨ab, 2, none⟩) habl (fun hm => hfa _ hm rfl)).trans ha2)) (timed_nil))) ?_
        clear hK K
        try simp only [Act.put, List.getElem_toArray, List.getElem_cons_zero, List.getElem_cons_succ, List.setIfInBounds_toArray, List.set_cons_zero, List.set_cons_succ]
        refine timed_pure (i := 12) (v := ?_) rfl (by kernel_rfl) (by kernel_rfl) (by kernel_rfl) (fun _ _ _ h => h) (by kernel_rfl) (by kernel_rfl) ?_ ?_
        rotate_left
        · (intro w; go_simp; try with_reducible rfl)
        try simp only [Act.put, List.getElem_toArray, List.getElem_cons_zero, List.getElem_cons_succ, List.setIfInBounds_toArray, List.set_cons_zero, List.set_cons_succ]
        refine timed_pure (i := 13) (v := ?_) rfl (by kernel_rfl) (by kernel_rfl) (by kernel_rfl) (fun _ _ _ h => h) (by kernel_rfl) (by kernel_rfl) ?_ ?_
        rotate_left
        · (intro w; go_simp; try with_reducible rfl)
        try simp only [Act.put, List.getElem_toArray, List.getElem_cons_zero, List.getElem_cons_succ, List.setIfInBounds_toArray, List.set_cons_zero, List.set_cons_succ]
        refine timed_done (by kernel_rfl) ?_ _
        refine NoPanic.normal ?_
        have TPz := tp_right T5 L5.2.1 L5.2.2.1 L5.2.2.2.1 L5.2.2.2.2 (by rw [stL_length]; exact HNLL.out) R6 O6 (fun b hb => Or.inl hb)
        have BAz := O6.blk (O5.blk BA.drew (fun hm => hfa _ hm rfl)) (fun hm => hqa _ hm rfl)
        obtain ⟨nowz, savedz, fpz, fqz, hsz, TPz⟩ : ∃ a b c d, b.length ≤ j + 1 ∧ TP w w6 (w.heap.size + 1) (w1.heap.size + 1) n a b c d := ⟨_, _, _, _, by omega, TPz⟩
        clear T5 R6 O5 O6 L5 TPd TPa BA ha1 ha2
        go_wp2_with fail
        obtain ⟨AT, cT, hq1, hTc1, hTc2⟩ := TPz.R.then_
        obtain ⟨AN, cN, hq0, hNo, hNl, hNc1, hNc2, hNr⟩ := TPz.R.now
        have ha1 : w6.cell? ⟨ab, 1, none⟩ = some (.int .i64 z1) := BAz.at_ 1
        have hqlt : w1.heap.size + 1 < w6.heap.size := World.block_lt_of_cell? w6 _ hq1
        have halt := BAz.lt
        unfold maxLen at hTc2 hNc2
        have hnz : nowz.length ≤ 1000 := by rw [TPz.len]; omega
        have TPe := TPz.none_ (Only.refl [] w6).drew
        have HNl := Lib.hid hNl
        have HNr := Lib.hid hNr
        have TAe := Lib.hid (tall_any _ _ _ _ _ TPe.T hnz)
        have hszd : w6.drew.heap.size = w6.heap.size := rfl
        rw [hNl] at TAe
        clear hNl hNr hNo hszd
        refine wp_region_noPanic ?_
        refine wp_region_timed (F := [⟨[], [], fun w' => w'.cell? ⟨w1.heap.size + 1, 1, none⟩ = some (.slice AT savedz.length cT)⟩, ⟨[], [], fun w' => w'.cell? ⟨ab, 1, none⟩ = some (.int .i64 z1)⟩, ⟨[], [], fun w' => w'.cell? ⟨w1.heap.size + 1, 0, none⟩ = some (.slice AN n cN)⟩]) (by kernel_rfl) (timed_holds (hq1) (timed_holds (ha1) (timed_holds (hq0) (timed_nil)))) ?_
        refine timed_pure (i := 0) (v := ?_) rfl (by kernel_rfl) (by kernel_rfl) (by kernel_rfl) (fun _ _ _ h => h) (by kernel_rfl) (by kernel_rfl) ?_ ?_
        rotate_left
        · (intro w; go_simp; try with_reducible rfl)
        try simp only [Act.put, List.getElem_toArray, List.getElem_cons_zero, List.getElem_cons_succ, List.setIfInBounds_toArray, List.set_cons_zero, List.set_cons_succ]
        refine timed_pure (i := 1) (v := ?_) rfl (by kernel_rfl) (by kernel_rfl) (by kernel_rfl) (fun _ _ _ h => h) (by kernel_rfl) (by kernel_rfl) ?_ ?_
        rotate_left
        · (intro w; go_simp; try with_reducible rfl)
        try simp only [Act.put, List.getElem_toArray, List.getElem_cons_zero, List.getElem_cons_succ, List.setIfInBounds_toArray, List.set_cons_zero, List.set_cons_succ]
        refine timed_pure (i := 2) (v := ?_) rfl (by kernel_rfl) (by kernel_rfl) (by kernel_rfl) (fun _ _ _ h => h) (by kernel_rfl) (by kernel_rfl) ?_ ?_
        rotate_left
        · (intro w; go_simp; try with_reducible rfl)
        try simp only [Act.put, List.getElem_toArray, List.getElem_cons_zero, List.getElem_cons_succ, List.setIfInBounds_toArray, List.set_cons_zero, List.set_cons_succ]
        refine timed_pure (i := 3) (v := ?_) rfl (by kernel_rfl) (by kernel_rfl) (by kernel_rfl) (fun _ _ _ h => h) (by kernel_rfl) (by kernel_rfl) ?_ ?_
        rotate_left
        · (intro w; go_simp; try with_reducible rfl)
        try simp only [Act.put, List.getElem_toArray, List.getElem_cons_zero, List.getElem_cons_succ, List.setIfInBounds_toArray, List.set_cons_zero, List.set_cons_succ]
        refine timed_pure (i := 5) (v := ?_) rfl (by kernel_rfl) (by kernel_rfl) (by kernel_rfl) (fun _ _ _ h => h) (by kernel_rfl) (by kernel_rfl) ?_ ?_
        rotate_left
        · (intro w; go_simp; try with_reducible rfl)
        try simp only [Act.put, List.getElem_toArray, List.getElem_cons_zero, List.getElem_cons_succ, List.setIfInBounds_toArray, List.set_cons_zero, List.set_cons_succ]
        refine timed_pure (i := 6) (v := ?_) rfl (by kernel_rfl) (by kernel_rfl) (by kernel_rfl) (fun _ _ _ h => h) (by kernel_rfl) (by kernel_rfl) ?_ ?_
        rotate_left
        · (intro w; go_simp; try with_reducible rfl)
        try simp only [Act.put, List.getElem_toArray, List.getElem_cons_zero, List.getElem_cons_succ, List.setIfInBounds_toArray, List.set_cons_zero, List.set_cons_succ]
        refine timed_pure (i := 7) (v := ?_) rfl (by kernel_rfl) (by kernel_rfl) (by kernel_rfl) (fun _ _ _ h => h) (by kernel_rfl) (by kernel_rfl) ?_ ?_
        rotate_left
        · (intro w; go_simp; try with_reducible rfl)
        try simp only [Act.put, List.getElem_toArray, List.getElem_cons_zero, List.getElem_cons_succ, List.setIfInBounds_toArray, List.set_cons_zero, List.set_cons_succ]
        refine timed_read (i := 8) (v := ?_) 0 rfl (by kernel_rfl) (by kernel_rfl) (by kernel_rfl) (fun _ _ _ h => h) (by kernel_rfl) (by kernel_rfl) rfl (by kernel_rfl) ?_ ?_
        rotate_left
        · (intro w hSw; (try dsimp only at hSw); go_simp; try with_reducible rfl)
        try simp only [Act.put, List.getElem_toArray, List.getElem_cons_zero, List.getElem_cons_succ, List.setIfInBounds_toArray, List.set_cons_zero, List.set_cons_succ]
        refine timed_pure (i := 9) (v := ?_) rfl (by kernel_rfl) (by kernel_rfl) (by kernel_rfl) (fun _ _ _ h => h) (by kernel_rfl) (by kernel_rfl) ?_ ?_
        rotate_left
        · (intro w; go_simp; try with_reducible rfl)
        try simp only [Act.put, List.getElem_toArray, List.getElem_cons_zero, List.getElem_cons_succ, List.setIfInBounds_toArray, List.set_cons_zero, List.set_cons_succ]
        refine timed_step (i := 4) (by kernel_rfl) rfl (fun K hK => ?_)
        go_simp
        refine (tlevel_any _ _ _ _ _ TPe.T).mono ?_
        rintro e wq4 ⟨rfl, rfl⟩
        refine hK.out _ _ (timed_holds (hq1) (timed_holds (ha1) (timed_holds (hq0) (timed_nil)))) ?_
        clear hK K
        try simp only [Act.put, List.getElem_toArray, List.getElem_cons_zero, List.getElem_cons_succ, List.setIfInBounds_toArray, List.set_cons_zero, List.set_cons_succ]
        refine timed_pure (i := 10) (v := ?_) rfl (by kernel_rfl) (by kernel_rfl) (by kernel_rfl) (fun _ _ _ h => h) (by kernel_rfl) (by kernel_rfl) ?_ ?_
        rotate_left
        · (intro w; go_simp; try with_reducible rfl)
        try simp only [Act.put, List.getElem_toArray, List.getElem_cons_zero, List.getElem_cons_succ, List.setIfInBounds_toArray, List.set_cons_zero, List.set_cons_succ]
        refine timed_pure (i := 11) (v := ?_) rfl (by kernel_rfl) (by kernel_rfl) (by kernel_rfl) (fun _ _ _ h => h) (by kernel_rfl) (by kernel_rfl) ?_ ?_
        rotate_left
        · (intro w; go_simp; try with_reducible rfl)
        try simp only [Act.put, List.getElem_toArray, List.getElem_cons_zero, List.getElem_cons_succ, List.setIfInBounds_toArray, List.set_cons_zero, List.set_cons_succ]
        refine timed_pure (i := 12) (v := ?_) rfl (by kernel_rfl) (by kernel_rfl) (by kernel_rfl) (fun _ _ _ h => h) (by kernel_rfl) (by kernel_rfl) ?_ ?_
        rotate_left
        · (intro w; go_simp; try with_reducible rfl)
        try simp only [Act.put, List.getElem_toArray, List.getElem_cons_zero, List.getElem_cons_succ, List.setIfInBounds_toArray, List.set_cons_zero, List.set_cons_succ]
        refine timed_pure (i := 13) (v := ?_) rfl (by kernel_rfl) (by kernel_rfl) (by kernel_rfl) (fun _ _ _ h => h) (by kernel_rfl) (by kernel_rfl) ?_ ?_
        rotate_left
        · (intro w; go_simp; try with_reducible rfl)
        try simp only [Act.put, List.getElem_toArray, List.getElem_cons_zero, List.getElem_cons_succ, List.setIfInBounds_toArray, List.set_cons_zero, List.set_cons_succ]
        refine timed_pure (i := 14) (v := ?_) rfl (by kernel_rfl) (by kernel_rfl) (by kernel_rfl) (fun _ _ _ h => h) (by kernel_rfl) (by kernel_rfl) ?_ ?_
        rotate_left
        · (intro w; go_simp; try with_reducible rfl)
        try simp only [Act.put, List.getElem_toArray, List.getElem_cons_zero, List.getElem_cons_succ, List.setIfInBounds_toArray, List.set_cons_zero, List.set_cons_succ]
        refine timed_read (i := 15) (v := ?_) 1 rfl (by kernel_rfl) (by kernel_rfl) (by kernel_rfl) (fun _ _ _ h => h) (by kernel_rfl) (by kernel_rfl) rfl (by kernel_rfl) ?_ ?_
        rotate_left
        · (intro w hSw; (try dsimp only at hSw); go_simp; try with_reducible rfl)
        try simp only [Act.put, List.getElem_toArray, List.getElem_cons_zero, List.getElem_cons_succ, List.setIfInBounds_toArray, List.set_cons_zero, List.set_cons_succ]
        refine timed_pure (i := 17) (v := ?_) rfl (by kernel_rfl) (by kernel_rfl) (by kernel_rfl) (fun _ _ _ h => h) (by kernel_rfl) (by kernel_rfl) ?_ ?_
        rotate_left
        · (intro w; go_simp; try with_reducible rfl)
        try simp only [Act.put, List.getElem_toArray, List.getElem_cons_zero, List.getElem_cons_succ, List.setIfInBounds_toArray, List.set_cons_zero, List.set_cons_succ]
        refine timed_pure (i := 18) (v := ?_) rfl (by kernel_rfl) (by kernel_rfl) (by kernel_rfl) (fun _ _ _ h => h) (by kernel_rfl) (by kernel_rfl) ?_ ?_
        rotate_left
        · (intro w; go_simp; try with_reducible rfl)
        try simp only [Act.put, List.getElem_toArray, List.getElem_cons_zero, List.getElem_cons_succ, List.setIfInBounds_toArray, List.set_cons_zero, List.set_cons_succ]
        refine timed_read (i := 19) (v := ?_) 1 rfl (by kernel_rfl) (by kernel_rfl) (by kernel_rfl) (fun _ _ _ h => h) (by kernel_rfl) (by kernel_rfl) rfl (by kernel_rfl) ?_ ?_
        rotate_left
        · (intro w hSw; (try dsimp only at hSw); go_simp; try with_reducible rfl)
        try simp only [Act.put, List.getElem_toArray, List.getElem_cons_zero, List.getElem_cons_succ, List.setIfInBounds_toArray, List.set_cons_zero, List.set_cons_succ]
        refine timed_step (i := 16) (by kernel_rfl) rfl (fun K hK => ?_)
        go_simp
        refine (tget_any _ z1 _ _ _ _ TPe.T hnz).mono ?_
        rintro e wq5 ⟨rfl, rfl⟩
        refine hK.out _ _ (timed_holds (hq1) (timed_holds (ha1) (timed_holds (hq0) (timed_nil)))) ?_
        clear hK K
        try simp only [Act.put, List.getElem_toArray, List.getElem_cons_zero, List.getElem_cons_succ, List.setIfInBounds_toArray, List.set_cons_zero, List.set_cons_succ]
        refine timed_step (i := 20) (by kernel_rfl) rfl (fun K hK => ?_)
        go_simp
        refine (rget_any _ n z1 _ _ _ _ TPe.R (by omega)).mono ?_
        rintro e wq6 ⟨rfl, rfl⟩
        refine hK.out _ _ (timed_holds (hq1) (timed_holds (ha1) (timed_holds (hq0) (timed_nil)))) ?_
        clear hK K
        try simp only [Act.put, List.getElem_toArray, List.getElem_cons_zero, List.getElem_cons_succ, List.setIfInBounds_toArray, List.set_cons_zero, List.set_cons_succ]
        refine timed_pure (i := 21) (v := ?_) rfl (by kernel_rfl) (by kernel_rfl) (by kernel_rfl) (fun _ _ _ h => h) (by kernel_rfl) (by kernel_rfl) ?_ ?_
        rotate_left
        · (intro w; go_simp; try with_reducible rfl)
        try simp only [Act.put, List.getElem_toArray, List.getElem_cons_zero, List.getElem_cons_succ, List.setIfInBounds_toArray, List.set_cons_zero, List.set_cons_succ]
        refine timed_pure (i := 22) (v := ?_) rfl (by kernel_rfl) (by kernel_rfl) (by kernel_rfl) (fun _ _ _ h => h) (by kernel_rfl) (by kernel_rfl) ?_ ?_
        rotate_left
        · (intro w; go_simp; try with_reducible rfl)
        try simp only [Act.put, List.getElem_toArray, List.getElem_cons_zero, List.getElem_cons_succ, List.setIfInBounds_toArray, List.set_cons_zero, List.set_cons_succ]
        refine timed_pure (i := 23) (v := ?_) rfl (by kernel_rfl) (by kernel_rfl) (by kernel_rfl) (fun _ _ _ h => h) (by kernel_rfl) (by kernel_rfl) ?_ ?_
        rotate_left
        · (intro w; go_simp; try with_reducible rfl)
        try simp only [Act.put, List.getElem_toArray, List.getElem_cons_zero, List.getElem_cons_succ, List.setIfInBounds_toArray, List.set_cons_zero, List.set_cons_succ]
        refine timed_pure (i := 24) (v := ?_) rfl (by kernel_rfl) (by kernel_rfl) (by kernel_rfl) (fun _ _ _ h => h) (by kernel_rfl) (by kernel_rfl) ?_ ?_
        rotate_left
        · (intro w; go_simp; try with_reducible rfl)
        try simp only [Act.put, List.getElem_toArray, List.getElem_cons_zero, List.getElem_cons_succ, List.setIfInBounds_toArray, List.set_cons_zero, List.set_cons_succ]
        refine timed_pure (i := 26) (v := ?_) rfl (by kernel_rfl) (by kernel_rfl) (by kernel_rfl) (fun _ _ _ h => h) (by kernel_rfl) (by kernel_rfl) ?_ ?_
        rotate_left
        · (intro w; go_simp; try with_reducible rfl)
        try simp only [Act.put, List.getElem_toArray, List.getElem_cons_zero, List.getElem_cons_succ, List.setIfInBounds_toArray, List.set_cons_zero, List.set_cons_succ]
        refine timed_pure (i := 27) (v := ?_) rfl (by kernel_rfl) (by kernel_rfl) (by kernel_rfl) (fun _ _ _ h => h) (by kernel_rfl) (by kernel_rfl) ?_ ?_
        rotate_left
        · (intro w; go_simp; try with_reducible rfl)
        try simp only [Act.put, List.getElem_toArray, List.getElem_cons_zero, List.getElem_cons_succ, List.setIfInBounds_toArray, List.set_cons_zero, List.set_cons_succ]
        refine timed_pure (i := 28) (v := ?_) rfl (by kernel_rfl) (by kernel_rfl) (by kernel_rfl) (fun _ _ _ h => h) (by kernel_rfl) (by kernel_rfl) ?_ ?_
        rotate_left
        · (intro w; go_simp; try with_reducible rfl)
        try simp only [Act.put, List.getElem_toArray, List.getElem_cons_zero, List.getElem_cons_succ, List.setIfInBounds_toArray, List.set_cons_zero, List.set_cons_succ]
        refine timed_read (i := 29) (v := ?_) 2 rfl (by kernel_rfl) (by kernel_rfl) (by kernel_rfl) (fun _ _ _ h => h) (by kernel_rfl) (by kernel_rfl) rfl (by kernel_rfl) ?_ ?_
        rotate_left
        · (intro w hSw; (try dsimp only at hSw); go_simp; try with_reducible rfl)
        try simp only [Act.put, List.getElem_toArray, List.getElem_cons_zero, List.getElem_cons_succ, List.setIfInBounds_toArray, List.set_cons_zero, List.set_cons_succ]
        refine timed_step (i := 25) (by kernel_rfl) rfl (fun K hK => ?_)
        go_simp
        refine (TAe.out).mono ?_
        rintro e wy ⟨rfl, By, Oy⟩
        refine hK.out _ _ (timed_holds ((Oy.cell (p := ⟨w1.heap.size + 1, 1, none⟩) hqlt (by simp)).trans hq1) (timed_holds ((Oy.cell (p := ⟨ab, 1, none⟩) halt (by simp)).trans ha1) (timed_holds ((Oy.cell (p := ⟨w1.heap.size + 1, 0, none⟩) hqlt (by simp)).trans hq0) (timed_nil)))) ?_
        clear hK K
        try simp only [Act.put, List.getElem_toArray, List.getElem_cons_zero, List.getElem_cons_succ, List.setIfInBounds_toArray, List.set_cons_zero, List.set_cons_succ]
        refine timed_step (i := 30) (by kernel_rfl) rfl (fun K hK => ?_)
        go_simp
        have hrow2 : Row wy w6.heap.size AN (cl nowz) := HNr.out.only ((Only.refl [] w6).drew.trans Oy) (fun _ h => by cases h)
        refine (sameInts_any (some ⟨w6.heap.size, 0, none⟩) AN n n n cN nowz nowz wy _ _ (row_blk By) hrow2 HNl.out HNl.out (by omega) (by omega)).mono ?_
        rintro e wk ⟨rfl, kx, rfl⟩
        have hdd : decide (nowz = nowz) = true := by simp
        refine hK.out _ _ (timed_holds ((Oy.cell (p := ⟨w1.heap.size + 1, 1, none⟩) hqlt (by simp)).trans hq1) (timed_holds ((Oy.cell (p := ⟨ab, 1, none⟩) halt (by simp)).trans ha1) (timed_holds ((Oy.cell (p := ⟨w1.heap.size + 1, 0, none⟩) hqlt (by simp)).trans hq0) (timed_nil)))) ?_
        clear hK K
        try simp only [Act.put, List.getElem_toArray, List.getElem_cons_zero, List.getElem_cons_succ, List.setIfInBounds_toArray, List.set_cons_zero, List.set_cons_succ]
        refine timed_pure (i := 31) (v := ?_) rfl (by kernel_rfl) (by kernel_rfl) (by kernel_rfl) (fun _ _ _ h => h) (by kernel_rfl) (by kernel_rfl) ?_ ?_
        rotate_left
        · (intro w; go_simp; try with_reducible rfl)
        try simp only [Act.put, List.getElem_toArray, List.getElem_cons_zero, List.getElem_cons_succ, List.setIfInBounds_toArray, List.set_cons_zero, List.set_cons_succ]
        refine timed_pure (i := 32) (v := ?_) rfl (by kernel_rfl) (by kernel_rfl) (by kernel_rfl) (fun _ _ _ h => h) (by kernel_rfl) (by kernel_rfl) ?_ ?_
        rotate_left
        · (intro w; go_simp; try with_reducible rfl)
        try simp only [Act.put, List.getElem_toArray, List.getElem_cons_zero, List.getElem_cons_succ, List.setIfInBounds_toArray, List.set_cons_zero, List.set_cons_succ]
        refine timed_done (by kernel_rfl) ?_ _
        refine NoPanic.normal ?_
        have TPf := TPe.none_ (Oy.drewN kx)
        go_wp2
        go_roundw
        case rel => exact ⟨j + 1, nowz, savedz, fpz, fqz, by go_num, by omega, hsz, TPf⟩
        case measure => simp [intOf]; omega
      · have TB := Lib.hid (tbegin_any _ _ _ _ wa TPa.T hn1 (by omega))
        go_wp2_with fail
        refine (TB.out).mono ?_
        rintro e w5 ⟨rfl, fp5, T5, O5, hf5⟩
        have L5 := tp_left TPa T5 O5 hf5
        have RB := Lib.hid (rbegin_any _ n _ _ _ w5 L5.1 (by omega) (by omega))
        go_wp2_with fail
        refine (RB.out).mono ?_
        rintro e w6 ⟨rfl, fq6, R6, O6, hf6⟩
        have TPz := tp_right T5 L5.2.1 L5.2.2.1 L5.2.2.2.1 L5.2.2.2.2 HNLL.out R6 O6 hf6
        have BAz := O6.blk (O5.blk BA (fun hm => hfa _ hm rfl)) (fun hm => hqa _ hm rfl)
        obtain ⟨nowz, savedz, fpz, fqz, hsz, TPz⟩ : ∃ a b c d, b.length ≤ j + 1 ∧ TP w w6 (w.heap.size + 1) (w1.heap.size + 1) n a b c d := ⟨_, _, _, _, by simp; omega, TPz⟩
        clear T5 R6 O5 O6 L5 TPa BA TB RB hf5 hf6
        go_wp2_with fail
        obtain ⟨AT, cT, hq1, hTc1, hTc2⟩ := TPz.R.then_
        obtain ⟨AN, cN, hq0, hNo, hNl, hNc1, hNc2, hNr⟩ := TPz.R.now
        have ha1 : w6.cell? ⟨ab, 1, none⟩ = some (.int .i64 z1) := BAz.at_ 1
        have hqlt : w1.heap.size + 1 < w6.heap.size := World.block_lt_of_cell? w6 _ hq1
        have halt := BAz.lt
        unfold maxLen at hTc2 hNc2
        have hnz : nowz.length ≤ 1000 := by rw [TPz.len]; omega
        have TPe := TPz.none_ (Only.refl [] w6).drew
        have HNl := Lib.hid hNl
        have HNr := Lib.hid hNr
        have TAe := Lib.hid (tall_any _ _ _ _ _ TPe.T hnz)
        have hszd : w6.drew.heap.size = w6.heap.size := rfl
        rw [hNl] at TAe
        clear hNl hNr hNo hszd
        refine wp_region_noPanic ?_
        refine wp_region_timed (F := [⟨[], [], fun w' => w'.cell? ⟨w1.heap.size + 1, 1, none⟩ = some (.slice AT savedz.length cT)⟩, ⟨[], [], fun w' => w'.cell? ⟨ab, 1, none⟩ = some (.int .i64 z1)⟩, ⟨[], [], fun w' => w'.cell? ⟨w1.heap.size + 1, 0, none⟩ = some (.slice AN n cN)⟩]) (by kernel_rfl) (timed_holds (hq1) (timed_holds (ha1) (timed_holds (hq0) (timed_nil)))) ?_
        refine timed_pure (i := 0) (v := ?_) rfl (by kernel_rfl) (by kernel_rfl) (by kernel_rfl) (fun _ _ _ h => h) (by kernel_rfl) (by kernel_rfl) ?_ ?_
        rotate_left
        · (intro w; go_simp; try with_reducible rfl)
        try simp only [Act.put, List.getElem_toArray, List.getElem_cons_zero, List.getElem_cons_succ, List.setIfInBounds_toArray, List.set_cons_zero, List.set_cons_succ]
        refine timed_pure (i := 1) (v := ?_) rfl (by kernel_rfl) (by kernel_rfl) (by kernel_rfl) (fun _ _ _ h => h) (by kernel_rfl) (by kernel_rfl) ?_ ?_
        rotate_left
        · (intro w; go_simp; try with_reducible rfl)
        try simp only [Act.put, List.getElem_toArray, List.getElem_cons_zero, List.getElem_cons_succ, List.setIfInBounds_toArray, List.set_cons_zero, List.set_cons_succ]
        refine timed_pure (i := 2) (v := ?_) rfl (by kernel_rfl) (by kernel_rfl) (by kernel_rfl) (fun _ _ _ h => h) (by kernel_rfl) (by kernel_rfl) ?_ ?_
        rotate_left
        · (intro w; go_simp; try with_reducible rfl)
        try simp only [Act.put, List.getElem_toArray, List.getElem_cons_zero, List.getElem_cons_succ, List.setIfInBounds_toArray, List.set_cons_zero, List.set_cons_succ]
        refine timed_pure (i := 3) (v := ?_) rfl (by kernel_rfl) (by kernel_rfl) (by kernel_rfl) (fun _ _ _ h => h) (by kernel_rfl) (by kernel_rfl) ?_ ?_
        rotate_left
        · (intro w; go_simp; try with_reducible rfl)
        try simp only [Act.put, List.getElem_toArray, List.getElem_cons_zero, List.getElem_cons_succ, List.setIfInBounds_toArray, List.set_cons_zero, List.set_cons_succ]
        refine timed_pure (i := 5) (v := ?_) rfl (by kernel_rfl) (by kernel_rfl) (by kernel_rfl) (fun _ _ _ h => h) (by kernel_rfl) (by kernel_rfl) ?_ ?_
        rotate_left
        · (intro w; go_simp; try with_reducible rfl)
        try simp only [Act.put, List.getElem_toArray, List.getElem_cons_zero, List.getElem_cons_succ, List.setIfInBounds_toArray, List.set_cons_zero, List.set_cons_succ]
        refine timed_pure (i := 6) (v := ?_) rfl (by kernel_rfl) (by kernel_rfl) (by kernel_rfl) (fun _ _ _ h => h) (by kernel_rfl) (by kernel_rfl) ?_ ?_
        rotate_left
        · (intro w; go_simp; try with_reducible rfl)
        try simp only [Act.put, List.getElem_toArray, List.getElem_cons_zero, List.getElem_cons_succ, List.setIfInBounds_toArray, List.set_cons_zero, List.set_cons_succ]
        refine timed_pure (i := 7) (v := ?_) rfl (by kernel_rfl) (by kernel_rfl) (by kernel_rfl) (fun _ _ _ h => h) (by kernel_rfl) (by kernel_rfl) ?_ ?_
        rotate_left
        · (intro w; go_simp; try with_reducible rfl)
        try simp only [Act.put, List.getElem_toArray, List.getElem_cons_zero, List.getElem_cons_succ, List.setIfInBounds_toArray, List.set_cons_zero, List.set_cons_succ]
        refine timed_read (i := 8) (v := ?_) 0 rfl (by kernel_rfl) (by kernel_rfl) (by kernel_rfl) (fun _ _ _ h => h) (by kernel_rfl) (by kernel_rfl) rfl (by kernel_rfl) ?_ ?_
        rotate_left
        · (intro w hSw; (try dsimp only at hSw); go_simp; try with_reducible rfl)
        try simp only [Act.put, List.getElem_toArray, List.getElem_cons_zero, List.getElem_cons_succ, List.setIfInBounds_toArray, List.set_cons_zero, List.set_cons_succ]
        refine timed_pure (i := 9) (v := ?_) rfl (by kernel_rfl) (by kernel_rfl) (by kernel_rfl) (fun _ _ _ h => h) (by kernel_rfl) (by kernel_rfl) ?_ ?_
        rotate_left
        · (intro w; go_simp; try with_reducible rfl)
        try simp only [Act.put, List.getElem_toArray, List.getElem_cons_zero, List.getElem_cons_succ, List.setIfInBounds_toArray, List.set_cons_zero, List.set_cons_succ]
        refine timed_step (i := 4) (by kernel_rfl) rfl (fun K hK => ?_)
        go_simp
        refine (tlevel_any _ _ _ _ _ TPe.T).mono ?_
        rintro e wq4 ⟨rfl, rfl⟩
        refine hK.out _ _ (timed_holds (hq1) (timed_holds (ha1) (timed_holds (hq0) (timed_nil)))) ?_
        clear hK K
        try simp only [Act.put, List.getElem_toArray, List.getElem_cons_zero, List.getElem_cons_succ, List.setIfInBounds_toArray, List.set_cons_zero, List.set_cons_succ]
        refine timed_pure (i := 10) (v := ?_) rfl (by kernel_rfl) (by kernel_rfl) (by kernel_rfl) (fun _ _ _ h => h) (by kernel_rfl) (by kernel_rfl) ?_ ?_
        rotate_left
        · (intro w; go_simp; try with_reducible rfl)
        try simp only [Act.put, List.getElem_toArray, List.getElem_cons_zero, List.getElem_cons_succ, List.setIfInBounds_toArray, List.set_cons_zero, List.set_cons_succ]
        refine timed_pure (i := 11) (v := ?_) rfl (by kernel_rfl) (by kernel_rfl) (by kernel_rfl) (fun _ _ _ h => h) (by kernel_rfl) (by kernel_rfl) ?_ ?_
        rotate_left
        · (intro w; go_simp; try with_reducible rfl)
        try simp only [Act.put, List.getElem_toArray, List.getElem_cons_zero, List.getElem_cons_succ, List.setIfInBounds_toArray, List.set_cons_zero, List.set_cons_succ]
        refine timed_pure (i := 12) (v := ?_) rfl (by kernel_rfl) (by kernel_rfl) (by kernel_rfl) (fun _ _ _ h => h) (by kernel_rfl) (by kernel_rfl) ?_ ?_
        rotate_left
        · (intro w; go_simp; try with_reducible rfl)
        try simp only [Act.put, List.getElem_toArray, List.getElem_cons_zero, List.getElem_cons_succ, List.setIfInBounds_toArray, List.set_cons_zero, List.set_cons_succ]
        refine timed_pure (i := 13) (v := ?_) rfl (by kernel_rfl) (by kernel_rfl) (by kernel_rfl) (fun _ _ _ h => h) (by kernel_rfl) (by kernel_rfl) ?_ ?_
        rotate_left
        · (intro w; go_simp; try with_reducible rfl)
        try simp only [Act.put, List.getElem_toArray, List.getElem_cons_zero, List.getElem_cons_succ, List.setIfInBounds_toArray, List.set_cons_zero, List.set_cons_succ]
        refine timed_pure (i := 14) (v := ?_) rfl (by kernel_rfl) (by kernel_rfl) (by kernel_rfl) (fun _ _ _ h => h) (by kernel_rfl) (by kernel_rfl) ?_ ?_
        rotate_left
        · (intro w; go_simp; try with_reducible rfl)
        try simp only [Act.put, List.getElem_toArray, List.getElem_cons_zero, List.getElem_cons_succ, List.setIfInBounds_toArray, List.set_cons_zero, List.set_cons_succ]
        refine timed_read (i := 15) (v := ?_) 1 rfl (by kernel_rfl) (by kernel_rfl) (by kernel_rfl) (fun _ _ _ h => h) (by kernel_rfl) (by kernel_rfl) rfl (by kernel_rfl) ?_ ?_
        rotate_left
        · (intro w hSw; (try dsimp only at hSw); go_simp; try with_reducible rfl)
        try simp only [Act.put, List.getElem_toArray, List.getElem_cons_zero, List.getElem_cons_succ, List.setIfInBounds_toArray, List.set_cons_zero, List.set_cons_succ]
        refine timed_pure (i := 17) (v := ?_) rfl (by kernel_rfl) (by kernel_rfl) (by kernel_rfl) (fun _ _ _ h => h) (by kernel_rfl) (by kernel_rfl) ?_ ?_
        rotate_left
        · (intro w; go_simp; try with_reducible rfl)
        try simp only [Act.put, List.getElem_toArray, List.getElem_cons_zero, List.getElem_cons_succ, List.setIfInBounds_toArray, List.set_cons_zero, List.set_cons_succ]
        refine timed_pure (i := 18) (v := ?_) rfl (by kernel_rfl) (by kernel_rfl) (by kernel_rfl) (fun _ _ _ h => h) (by kernel_rfl) (by kernel_rfl) ?_ ?_
        rotate_left
        · (intro w; go_simp; try with_reducible rfl)
        try simp only [Act.put, List.getElem_toArray, List.getElem_cons_zero, List.getElem_cons_succ, List.setIfInBounds_toArray, List.set_cons_zero, List.set_cons_succ]
        refine timed_read (i := 19) (v := ?_) 1 rfl (by kernel_rfl) (by kernel_rfl) (by kernel_rfl) (fun _ _ _ h => h) (by kernel_rfl) (by kernel_rfl) rfl (by kernel_rfl) ?_ ?_
        rotate_left
        · (intro w hSw; (try dsimp only at hSw); go_simp; try with_reducible rfl)
        try simp only [Act.put, List.getElem_toArray, List.getElem_cons_zero, List.getElem_cons_succ, List.setIfInBounds_toArray, List.set_cons_zero, List.set_cons_succ]
        refine timed_step (i := 16) (by kernel_rfl) rfl (fun K hK => ?_)
        go_simp
        refine (tget_any _ z1 _ _ _ _ TPe.T hnz).mono ?_
        rintro e wq5 ⟨rfl, rfl⟩
        refine hK.out _ _ (timed_holds (hq1) (timed_holds (ha1) (timed_holds (hq0) (timed_nil)))) ?_
        clear hK K
        try simp only [Act.put, List.getElem_toArray, List.getElem_cons_zero, List.getElem_cons_succ, List.setIfInBounds_toArray, List.set_cons_zero, List.set_cons_succ]
        refine timed_step (i := 20) (by kernel_rfl) rfl (fun K hK => ?_)
        go_simp
        refine (rget_any _ n z1 _ _ _ _ TPe.R (by omega)).mono ?_
        rintro e wq6 ⟨rfl, rfl⟩
        refine hK.out _ _ (timed_holds (hq1) (timed_holds (ha1) (timed_holds (hq0) (timed_nil)))) ?_
        clear hK K
        try simp only [Act.put, List.getElem_toArray, List.getElem_cons_zero, List.getElem_cons_succ, List.setIfInBounds_toArray, List.set_cons_zero, List.set_cons_succ]
        refine timed_pure (i := 21) (v := ?_) rfl (by kernel_rfl) (by kernel_rfl) (by kernel_rfl) (fun _ _ _ h => h) (by kernel_rfl) (by kernel_rfl) ?_ ?_
        rotate_left
        · (intro w; go_simp; try with_reducible rfl)
        try simp only [Act.put, List.getElem_toArray, List.getElem_cons_zero, List.getElem_cons_succ, List.setIfInBounds_toArray, List.set_cons_zero, List.set_cons_succ]
        refine timed_pure (i := 22) (v := ?_) rfl (by kernel_rfl) (by kernel_rfl) (by kernel_rfl) (fun _ _ _ h => h) (by kernel_rfl) (by kernel_rfl) ?_ ?_
        rotate_left
        · (intro w; go_simp; try with_reducible rfl)
        try simp only [Act.put, List.getElem_toArray, List.getElem_cons_zero, List.getElem_cons_succ, List.setIfInBounds_toArray, List.set_cons_zero, List.set_cons_succ]
        refine timed_pure (i := 23) (v := ?_) rfl (by kernel_rfl) (by kernel_rfl) (by kernel_rfl) (fun _ _ _ h => h) (by kernel_rfl) (by kernel_rfl) ?_ ?_
        rotate_left
        · (intro w; go_simp; try with_reducible rfl)
        try simp only [Act.put, List.getElem_toArray, List.getElem_cons_zero, List.getElem_cons_succ, List.setIfInBounds_toArray, List.set_cons_zero, List.set_cons_succ]
        refine timed_pure (i := 24) (v := ?_) rfl (by kernel_rfl) (by kernel_rfl) (by kernel_rfl) (fun _ _ _ h => h) (by kernel_rfl) (by kernel_rfl) ?_ ?_
        rotate_left
        · (intro w; go_simp; try with_reducible rfl)
        try simp only [Act.put, List.getElem_toArray, List.getElem_cons_zero, List.getElem_cons_succ, List.setIfInBounds_toArray, List.set_cons_zero, List.set_cons_succ]
        refine timed_pure (i := 26) (v := ?_) rfl (by kernel_rfl) (by kernel_rfl) (by kernel_rfl) (fun _ _ _ h => h) (by kernel_rfl) (by kernel_rfl) ?_ ?_
        rotate_left
        · (intro w; go_simp; try with_reducible rfl)
        try simp only [Act.put, List.getElem_toArray, List.getElem_cons_zero, List.getElem_cons_succ, List.setIfInBounds_toArray, List.set_cons_zero, List.set_cons_succ]
        refine timed_pure (i := 27) (v := ?_) rfl (by kernel_rfl) (by kernel_rfl) (by kernel_rfl) (fun _ _ _ h => h) (by kernel_rfl) (by kernel_rfl) ?_ ?_
        rotate_left
        · (intro w; go_simp; try with_reducible rfl)
        try simp only [Act.put, List.getElem_toArray, List.getElem_cons_zero, List.getElem_cons_succ, List.setIfInBounds_toArray, List.set_cons_zero, List.set_cons_succ]
        refine timed_pure (i := 28) (v := ?_) rfl (by kernel_rfl) (by kernel_rfl) (by kernel_rfl) (fun _ _ _ h => h) (by kernel_rfl) (by kernel_rfl) ?_ ?_
        rotate_left
        · (intro w; go_simp; try with_reducible rfl)
        try simp only [Act.put, List.getElem_toArray, List.getElem_cons_zero, List.getElem_cons_succ, List.setIfInBounds_toArray, List.set_cons_zero, List.set_cons_succ]
        refine timed_read (i := 29) (v := ?_) 2 rfl (by kernel_rfl) (by kernel_rfl) (by kernel_rfl) (fun _ _ _ h => h) (by kernel_rfl) (by kernel_rfl) rfl (by kernel_rfl) ?_ ?_
        rotate_left
        · (intro w hSw; (try dsimp only at hSw); go_simp; try with_reducible rfl)
        try simp only [Act.put, List.getElem_toArray, List.getElem_cons_zero, List.getElem_cons_succ, List.setIfInBounds_toArray, List.set_cons_zero, List.set_cons_succ]
        refine timed_step (i := 25) (by kernel_rfl) rfl (fun K hK => ?_)
        go_simp
        refine (TAe.out).mono ?_
        rintro e wy ⟨rfl, By, Oy⟩
        refine hK.out _ _ (timed_holds ((Oy.cell (p := ⟨w1.heap.size + 1, 1, none⟩) hqlt (by simp)).trans hq1) (timed_holds ((Oy.cell (p := ⟨ab, 1, none⟩) halt (by simp)).trans ha1) (timed_holds ((Oy.cell (p := ⟨w1.heap.size + 1, 0, none⟩) hqlt (by simp)).trans hq0) (timed_nil)))) ?_
        clear hK K
        try simp only [Act.put, List.getElem_toArray, List.getElem_cons_zero, List.getElem_cons_succ, List.setIfInBounds_toArray, List.set_cons_zero, List.set_cons_succ]
        refine timed_step (i := 30) (by kernel_rfl) rfl (fun K hK => ?_)
        go_simp
        have hrow2 : Row wy w6.heap.size AN (cl nowz) := HNr.out.only ((Only.refl [] w6).drew.trans Oy) (fun _ h => by cases h)
        refine (sameInts_any (some ⟨w6.heap.size, 0, none⟩) AN n n n cN nowz nowz wy _ _ (row_blk By) hrow2 HNl.out HNl.out (by omega) (by omega)).mono ?_
        rintro e wk ⟨rfl, kx, rfl⟩
        have hdd : decide (nowz = nowz) = true := by simp
        refine hK.out _ _ (timed_holds ((Oy.cell (p := ⟨w1.heap.size + 1, 1, none⟩) hqlt (by simp)).trans hq1) (timed_holds ((Oy.cell (p := ⟨ab, 1, none⟩) halt (by simp)).trans ha1) (timed_holds ((Oy.cell (p := ⟨w1.heap.size + 1, 0, none⟩) hqlt (by simp)).trans hq0) (timed_nil)))) ?_
        clear hK K
        try simp only [Act.put, List.getElem_toArray, List.getElem_cons_zero, List.getElem_cons_succ, List.setIfInBounds_toArray, List.set_cons_zero, List.set_cons_succ]
        refine timed_pure (i := 31) (v := ?_) rfl (by kernel_rfl) (by kernel_rfl) (by kernel_rfl) (fun _ _ _ h => h) (by kernel_rfl) (by kernel_rfl) ?_ ?_
        rotate_left
        · (intro w; go_simp; try with_reducible rfl)
        try simp only [Act.put, List.getElem_toArray, List.getElem_cons_zero, List.getElem_cons_succ, List.setIfInBounds_toArray, List.set_cons_zero, List.set_cons_succ]
        refine timed_pure (i := 32) (v := ?_) rfl (by kernel_rfl) (by kernel_rfl) (by kernel_rfl) (fun _ _ _ h => h) (by kernel_rfl) (by kernel_rfl) ?_ ?_
        rotate_left
        · (intro w; go_simp; try with_reducible rfl)
        try simp only [Act.put, List.getElem_toArray, List.getElem_cons_zero, List.getElem_cons_succ, List.setIfInBounds_toArray, List.set_cons_zero, List.set_cons_succ]
        refine timed_done (by kernel_rfl) ?_ _
        refine NoPanic.normal ?_
        have TPf := TPe.none_ (Oy.drewN kx)
        go_wp2
        go_roundw
        case rel => exact ⟨j + 1, nowz, savedz, fpz, fqz, by go_num, by omega, hsz, TPf⟩
        case measure => simp [intOf]; omega
      · rcases List.eq_nil_or_concat saved with hsv | ⟨L, x, hsv⟩
        · subst hsv
          obtain ⟨AT0, cT0, hz1', -, -⟩ := TPa.R.then_
          obtain ⟨AP0, cP0, hz2', -, -⟩ := TPa.T.form
          have TU := Lib.hid (tundo_none _ 3 wa (by simpa using tlevel_any _ _ _ _ wa TPa.T) (tkeep_none _ _ _ wa TPa.T.made (by simpa using hz2')))
          have RU := Lib.hid (rend_none (w1.heap.size + 1) _ true _ wa (by simpa using hz1'))
          clear hz1' hz2'
          go_wp2_with fail
          refine (TU.out).mono ?_
          rintro e w5 ⟨rfl, rfl⟩
          go_wp2_with fail
          refine (RU.out).mono ?_
          rintro e w5 ⟨rfl, rfl⟩
          have BAz := BA
          obtain ⟨nowz, savedz, fpz, fqz, hsz, TPz⟩ : ∃ a b c d, b.length ≤ j + 1 ∧ TP w wa (w.heap.size + 1) (w1.heap.size + 1) n a b c d := ⟨_, _, _, _, by simp, TPa⟩
          clear TPa BA TU RU
          go_wp2_with fail
          obtain ⟨AT, cT, hq1, hTc1, hTc2⟩ := TPz.R.then_
          obtain ⟨AN, cN, hq0, hNo, hNl, hNc1, hNc2, hNr⟩ := TPz.R.now
          have ha1 : wa.cell? ⟨ab, 1, none⟩ = some (.int .i64 z1) := BAz.at_ 1
          have hqlt : w1.heap.size + 1 < wa.heap.size := World.block_lt_of_cell? wa _ hq1
          have halt := BAz.lt
          unfold maxLen at hTc2 hNc2
          have hnz : nowz.length ≤ 1000 := by rw [TPz.len]; omega
          have TPe := TPz.none_ (Only.refl [] wa).drew
          have HNl := Lib.hid hNl
          have HNr := Lib.hid hNr
          have TAe := Lib.hid (tall_any _ _ _ _ _ TPe.T hnz)
          have hszd : wa.drew.heap.size = wa.heap.size := rfl
          rw [hNl] at TAe
          clear hNl hNr hNo hszd
          refine wp_region_noPanic ?_
          refine wp_region_timed (F := [⟨[], [], fun w' => w'.cell? ⟨w1.heap.size + 1, 1, none⟩ = some (.slice AT savedz.length cT)⟩, ⟨[], [], fun w' => w'.cell? ⟨ab, 1, none⟩ = some (.int .i64 z1)⟩, ⟨[], [], fun w' => w'.cell? ⟨w1.heap.size + 1, 0, none⟩ = some (.slice AN n cN)⟩]) (by kernel_rfl) (timed_holds (hq1) (timed_holds (ha1) (timed_holds (hq0) (timed_nil)))) ?_
          refine timed_pure (i := 0) (v := ?_) rfl (by kernel_rfl) (by kernel_rfl) (by kernel_rfl) (fun _ _ _ h => h) (by kernel_rfl) (by kernel_rfl) ?_ ?_
          rotate_left
          · (intro w; go_simp; try with_reducible rfl)
          try simp only [Act.put, List.getElem_toArray, List.getElem_cons_zero, List.getElem_cons_succ, List.setIfInBounds_toArray, List.set_cons_zero, List.set_cons_succ]
          refine timed_pure (i := 1) (v := ?_) rfl (by kernel_rfl) (by kernel_rfl) (by kernel_rfl) (fun _ _ _ h => h) (by kernel_rfl) (by kernel_rfl) ?_ ?_
          rotate_left
          · (intro w; go_simp; try with_reducible rfl)
          try simp only [Act.put, List.getElem_toArray, List.getElem_cons_zero, List.getElem_cons_succ, List.setIfInBounds_toArray, List.set_cons_zero, List.set_cons_succ]
          refine timed_pure (i := 2) (v := ?_) rfl (by kernel_rfl) (by kernel_rfl) (by kernel_rfl) (fun _ _ _ h => h) (by kernel_rfl) (by kernel_rfl) ?_ ?_
          rotate_left
          · (intro w; go_simp; try with_reducible rfl)
          try simp only [Act.put, List.getElem_toArray, List.getElem_cons_zero, List.getElem_cons_succ, List.setIfInBounds_toArray, List.set_cons_zero, List.set_cons_succ]
          refine timed_pure (i := 3) (v := ?_) rfl (by kernel_rfl) (by kernel_rfl) (by kernel_rfl) (fun _ _ _ h => h) (by kernel_rfl) (by kernel_rfl) ?_ ?_
          rotate_left
          · (intro w; go_simp; try with_reducible rfl)
          try simp only [Act.put, List.getElem_toArray, List.getElem_cons_zero, List.getElem_cons_succ, List.setIfInBounds_toArray, List.set_cons_zero, List.set_cons_succ]
          refine timed_pure (i := 5) (v := ?_) rfl (by kernel_rfl) (by kernel_rfl) (by kernel_rfl) (fun _ _ _ h => h) (by kernel_rfl) (by kernel_rfl) ?_ ?_
          rotate_left
          · (intro w; go_simp; try with_reducible rfl)
          try simp only [Act.put, List.getElem_toArray, List.getElem_cons_zero, List.getElem_cons_succ, List.setIfInBounds_toArray, List.set_cons_zero, List.set_cons_succ]
          refine timed_pure (i := 6) (v := ?_) rfl (by kernel_rfl) (by kernel_rfl) (by kernel_rfl) (fun _ _ _ h => h) (by kernel_rfl) (by kernel_rfl) ?_ ?_
          rotate_left
          · (intro w; go_simp; try with_reducible rfl)
          try simp only [Act.put, List.getElem_toArray, List.getElem_cons_zero, List.getElem_cons_succ, List.setIfInBounds_toArray, List.set_cons_zero, List.set_cons_succ]
          refine timed_pure (i := 7) (v := ?_) rfl (by kernel_rfl) (by kernel_rfl) (by kernel_rfl) (fun _ _ _ h => h) (by kernel_rfl) (by kernel_rfl) ?_ ?_
          rotate_left
          · (intro w; go_simp; try with_reducible rfl)
          try simp only [Act.put, List.getElem_toArray, List.getElem_cons_zero, List.getElem_cons_succ, List.setIfInBounds_toArray, List.set_cons_zero, List.set_cons_succ]
          refine timed_read (i := 8) (v := ?_) 0 rfl (by kernel_rfl) (by kernel_rfl) (by kernel_rfl) (fun _ _ _ h => h) (by kernel_rfl) (by kernel_rfl) rfl (by kernel_rfl) ?_ ?_
          rotate_left
          · (intro w hSw; (try dsimp only at hSw); go_simp; try with_reducible rfl)
          try simp only [Act.put, List.getElem_toArray, List.getElem_cons_zero, List.getElem_cons_succ, List.setIfInBounds_toArray, List.set_cons_zero, List.set_cons_succ]
          refine timed_pure (i := 9) (v := ?_) rfl (by kernel_rfl) (by kernel_rfl) (by kernel_rfl) (fun _ _ _ h => h) (by kernel_rfl) (by kernel_rfl) ?_ ?_
          rotate_left
          · (intro w; go_simp; try with_reducible rfl)
          try simp only [Act.put, List.getElem_toArray, List.getElem_cons_zero, List.getElem_cons_succ, List.setIfInBounds_toArray, List.set_cons_zero, List.set_cons_succ]
          refine timed_step (i := 4) (by kernel_rfl) rfl (fun K hK => ?_)
          go_simp
          refine (tlevel_any _ _ _ _ _ TPe.T).mono ?_
          rintro e wq4 ⟨rfl, rfl⟩
          refine hK.out _ _ (timed_holds (hq1) (timed_holds (ha1) (timed_holds (hq0) (timed_nil)))) ?_
          clear hK K
          try simp only [Act.put, List.getElem_toArray, List.getElem_cons_zero, List.getElem_cons_succ, List.setIfInBounds_toArray, List.set_cons_zero, List.set_cons_succ]
          refine timed_pure (i := 10) (v := ?_) rfl (by kernel_rfl) (by kernel_rfl) (by kernel_rfl) (fun _ _ _ h => h) (by kernel_rfl) (by kernel_rfl) ?_ ?_
          rotate_left
          · (intro w; go_simp; try with_reducible rfl)
          try simp only [Act.put, List.getElem_toArray, List.getElem_cons_zero, List.getElem_cons_succ, List.setIfInBounds_toArray, List.set_cons_zero, List.set_cons_succ]
          refine timed_pure (i := 11) (v := ?_) rfl (by kernel_rfl) (by kernel_rfl) (by kernel_rfl) (fun _ _ _ h => h) (by kernel_rfl) (by kernel_rfl) ?_ ?_
          rotate_left
          · (intro w; go_simp; try with_reducible rfl)
          try simp only [Act.put, List.getElem_toArray, List.getElem_cons_zero, List.getElem_cons_succ, List.setIfInBounds_toArray, List.set_cons_zero, List.set_cons_succ]
          refine timed_pure (i := 12) (v := ?_) rfl (by kernel_rfl) (by kernel_rfl) (by kernel_rfl) (fun _ _ _ h => h) (by kernel_rfl) (by kernel_rfl) ?_ ?_
          rotate_left
          · (intro w; go_simp; try with_reducible rfl)
          try simp only [Act.put, List.getElem_toArray, List.getElem_cons_zero, List.getElem_cons_succ, List.setIfInBounds_toArray, List.set_cons_zero, List.set_cons_succ]
          refine timed_pure (i := 13) (v := ?_) rfl (by kernel_rfl) (by kernel_rfl) (by kernel_rfl) (fun _ _ _ h => h) (by kernel_rfl) (by kernel_rfl) ?_ ?_
          rotate_left
          · (intro w; go_simp; try with_reducible rfl)
          try simp only [Act.put, List.getElem_toArray, List.getElem_cons_zero, List.getElem_cons_succ, List.setIfInBounds_toArray, List.set_cons_zero, List.set_cons_succ]
          refine timed_pure (i := 14) (v := ?_) rfl (by kernel_rfl) (by kernel_rfl) (by kernel_rfl) (fun _ _ _ h => h) (by kernel_rfl) (by kernel_rfl) ?_ ?_
          rotate_left
          · (intro w; go_simp; try with_reducible rfl)
          try simp only [Act.put, List.getElem_toArray, List.getElem_cons_zero, List.getElem_cons_succ, List.setIfInBounds_toArray, List.set_cons_zero, List.set_cons_succ]
          refine timed_read (i := 15) (v := ?_) 1 rfl (by kernel_rfl) (by kernel_rfl) (by kernel_rfl) (fun _ _ _ h => h) (by kernel_rfl) (by kernel_rfl) rfl (by kernel_rfl) ?_ ?_
          rotate_left
          · (intro w hSw; (try dsimp only at hSw); go_simp; try with_reducible rfl)
          try simp only [Act.put, List.getElem_toArray, List.getElem_cons_zero, List.getElem_cons_succ, List.setIfInBounds_toArray, List.set_cons_zero, List.set_cons_succ]
          refine timed_pure (i := 17) (v := ?_) rfl (by kernel_rfl) (by kernel_rfl) (by kernel_rfl) (fun _ _ _ h => h) (by kernel_rfl) (by kernel_rfl) ?_ ?_
          rotate_left
          · (intro w; go_simp; try with_reducible rfl)
          try simp only [Act.put, List.getElem_toArray, List.getElem_cons_zero, List.getElem_cons_succ, List.setIfInBounds_toArray, List.set_cons_zero, List.set_cons_succ]
          refine timed_pure (i := 18) (v := ?_) rfl (by kernel_rfl) (by kernel_rfl) (by kernel_rfl) (fun _ _ _ h => h) (by kernel_rfl) (by kernel_rfl) ?_ ?_
          rotate_left
          · (intro w; go_simp; try with_reducible rfl)
          try simp only [Act.put, List.getElem_toArray, List.getElem_cons_zero, List.getElem_cons_succ, List.setIfInBounds_toArray, List.set_cons_zero, List.set_cons_succ]
          refine timed_read (i := 19) (v := ?_) 1 rfl (by kernel_rfl) (by kernel_rfl) (by kernel_rfl) (fun _ _ _ h => h) (by kernel_rfl) (by kernel_rfl) rfl (by kernel_rfl) ?_ ?_
          rotate_left
          · (intro w hSw; (try dsimp only at hSw); go_simp; try with_reducible rfl)
          try simp only [Act.put, List.getElem_toArray, List.getElem_cons_zero, List.getElem_cons_succ, List.setIfInBounds_toArray, List.set_cons_zero, List.set_cons_succ]
          refine timed_step (i := 16) (by kernel_rfl) rfl (fun K hK => ?_)
          go_simp
          refine (tget_any _ z1 _ _ _ _ TPe.T hnz).mono ?_
          rintro e wq5 ⟨rfl, rfl⟩
          refine hK.out _ _ (timed_holds (hq1) (timed_holds (ha1) (timed_holds (hq0) (timed_nil)))) ?_
          clear hK K
          try simp only [Act.put, List.getElem_toArray, List.getElem_cons_zero, List.getElem_cons_succ, List.setIfInBounds_toArray, List.set_cons_zero, List.set_cons_succ]
          refine timed_step (i := 20) (by kernel_rfl) rfl (fun K hK => ?_)
          go_simp
          refine (rget_any _ n z1 _ _ _ _ TPe.R (by omega)).mono ?_
          rintro e wq6 ⟨rfl, rfl⟩
          refine hK.out _ _ (timed_holds (hq1) (timed_holds (ha1) (timed_holds (hq0) (timed_nil)))) ?_
          clear hK K
          try simp only [Act.put, List.getElem_toArray, List.getElem_cons_zero, List.getElem_cons_succ, List.setIfInBounds_toArray, List.set_cons_zero, List.set_cons_succ]
          refine timed_pure (i := 21) (v := ?_) rfl (by kernel_rfl) (by kernel_rfl) (by kernel_rfl) (fun _ _ _ h => h) (by kernel_rfl) (by kernel_rfl) ?_ ?_
          rotate_left
          · (intro w; go_simp; try with_reducible rfl)
          try simp only [Act.put, List.getElem_toArray, List.getElem_cons_zero, List.getElem_cons_succ, List.setIfInBounds_toArray, List.set_cons_zero, List.set_cons_succ]
          refine timed_pure (i := 22) (v := ?_) rfl (by kernel_rfl) (by kernel_rfl) (by kernel_rfl) (fun _ _ _ h => h) (by kernel_rfl) (by kernel_rfl) ?_ ?_
          rotate_left
          · (intro w; go_simp; try with_reducible rfl)
          try simp only [Act.put, List.getElem_toArray, List.getElem_cons_zero, List.getElem_cons_succ, List.setIfInBounds_toArray, List.set_cons_zero, List.set_cons_succ]
          refine timed_pure (i := 23) (v := ?_) rfl (by kernel_rfl) (by kernel_rfl) (by kernel_rfl) (fun _ _ _ h => h) (by kernel_rfl) (by kernel_rfl) ?_ ?_
          rotate_left
          · (intro w; go_simp; try with_reducible rfl)
          try simp only [Act.put, List.getElem_toArray, List.getElem_cons_zero, List.getElem_cons_succ, List.setIfInBounds_toArray, List.set_cons_zero, List.set_cons_succ]
          refine timed_pure (i := 24) (v := ?_) rfl (by kernel_rfl) (by kernel_rfl) (by kernel_rfl) (fun _ _ _ h => h) (by kernel_rfl) (by kernel_rfl) ?_ ?_
          rotate_left
          · (intro w; go_simp; try with_reducible rfl)
          try simp only [Act.put, List.getElem_toArray, List.getElem_cons_zero, List.getElem_cons_succ, List.setIfInBounds_toArray, List.set_cons_zero, List.set_cons_succ]
          refine timed_pure (i := 26) (v := ?_) rfl (by kernel_rfl) (by kernel_rfl) (by kernel_rfl) (fun _ _ _ h => h) (by kernel_rfl) (by kernel_rfl) ?_ ?_
          rotate_left
          · (intro w; go_simp; try with_reducible rfl)
          try simp only [Act.put, List.getElem_toArray, List.getElem_cons_zero, List.getElem_cons_succ, List.setIfInBounds_toArray, List.set_cons_zero, List.set_cons_succ]
          refine timed_pure (i := 27) (v := ?_) rfl (by kernel_rfl) (by kernel_rfl) (by kernel_rfl) (fun _ _ _ h => h) (by kernel_rfl) (by kernel_rfl) ?_ ?_
          rotate_left
          · (intro w; go_simp; try with_reducible rfl)
          try simp only [Act.put, List.getElem_toArray, List.getElem_cons_zero, List.getElem_cons_succ, List.setIfInBounds_toArray, List.set_cons_zero, List.set_cons_succ]
          refine timed_pure (i := 28) (v := ?_) rfl (by kernel_rfl) (by kernel_rfl) (by kernel_rfl) (fun _ _ _ h => h) (by kernel_rfl) (by kernel_rfl) ?_ ?_
          rotate_left
          · (intro w; go_simp; try with_reducible rfl)
          try simp only [Act.put, List.getElem_toArray, List.getElem_cons_zero, List.getElem_cons_succ, List.setIfInBounds_toArray, List.set_cons_zero, List.set_cons_succ]
          refine timed_read (i := 29) (v := ?_) 2 rfl (by kernel_rfl) (by kernel_rfl) (by kernel_rfl) (fun _ _ _ h => h) (by kernel_rfl) (by kernel_rfl) rfl (by kernel_rfl) ?_ ?_
          rotate_left
          · (intro w hSw; (try dsimp only at hSw); go_simp; try with_reducible rfl)
          try simp only [Act.put, List.getElem_toArray, List.getElem_cons_zero, List.getElem_cons_succ, List.setIfInBounds_toArray, List.set_cons_zero, List.set_cons_succ]
          refine timed_step (i := 25) (by kernel_rfl) rfl (fun K hK => ?_)
          go_simp
          refine (TAe.out).mono ?_
          rintro e wy ⟨rfl, By, Oy⟩
          refine hK.out _ _ (timed_holds ((Oy.cell (p := ⟨w1.heap.size + 1, 1, none⟩) hqlt (by simp)).trans hq1) (timed_holds ((Oy.cell (p := ⟨ab, 1, none⟩) halt (by simp)).trans ha1) (timed_holds ((Oy.cell (p := ⟨w1.heap.size + 1, 0, none⟩) hqlt (by simp)).trans hq0) (timed_nil)))) ?_
          clear hK K
          try simp only [Act.put, List.getElem_toArray, List.getElem_cons_zero, List.getElem_cons_succ, List.setIfInBounds_toArray, List.set_cons_zero, List.set_cons_succ]
          refine timed_step (i := 30) (by kernel_rfl) rfl (fun K hK => ?_)
          go_simp
          have hrow2 : Row wy wa.heap.size AN (cl nowz) := HNr.out.only ((Only.refl [] wa).drew.trans Oy) (fun _ h => by cases h)
          refine (sameInts_any (some ⟨wa.heap.size, 0, none⟩) AN n n n cN nowz nowz wy _ _ (row_blk By) hrow2 HNl.out HNl.out (by omega) (by omega)).mono ?_
          rintro e wk ⟨rfl, kx, rfl⟩
          have hdd : decide (nowz = nowz) = true := by simp
          refine hK.out _ _ (timed_holds ((Oy.cell (p := ⟨w1.heap.size + 1, 1, none⟩) hqlt (by simp)).trans hq1) (timed_holds ((Oy.cell (p := ⟨ab, 1, none⟩) halt (by simp)).trans ha1) (timed_holds ((Oy.cell (p := ⟨w1.heap.size + 1, 0, none⟩) hqlt (by simp)).trans hq0) (timed_nil)))) ?_
          clear hK K
          try simp only [Act.put, List.getElem_toArray, List.getElem_cons_zero, List.getElem_cons_succ, List.setIfInBounds_toArray, List.set_cons_zero, List.set_cons_succ]
          refine timed_pure (i := 31) (v := ?_) rfl (by kernel_rfl) (by kernel_rfl) (by kernel_rfl) (fun _ _ _ h => h) (by kernel_rfl) (by kernel_rfl) ?_ ?_
          rotate_left
          · (intro w; go_simp; try with_reducible rfl)
          try simp only [Act.put, List.getElem_toArray, List.getElem_cons_zero, List.getElem_cons_succ, List.setIfInBounds_toArray, List.set_cons_zero, List.set_cons_succ]
          refine timed_pure (i := 32) (v := ?_) rfl (by kernel_rfl) (by kernel_rfl) (by kernel_rfl) (fun _ _ _ h => h) (by kernel_rfl) (by kernel_rfl) ?_ ?_
          rotate_left
          · (intro w; go_simp; try with_reducible rfl)
          try simp only [Act.put, List.getElem_toArray, List.getElem_cons_zero, List.getElem_cons_succ, List.setIfInBounds_toArray, List.set_cons_zero, List.set_cons_succ]
          refine timed_done (by kernel_rfl) ?_ _
          refine NoPanic.normal ?_
          have TPf := TPe.none_ (Oy.drewN kx)
          go_wp2
          go_roundw
          case rel => exact ⟨j + 1, nowz, savedz, fpz, fqz, by go_num, by omega, hsz, TPf⟩
          case measure => simp [intOf]; omega
        · rw [List.concat_eq_append] at hsv
          subst hsv
          have hLl : L.length ≤ j := by simp at hsj; omega
          have TU := Lib.hid (tundo_any _ _ _ _ _ wa TPa.T hn1)
          go_wp2_with fail
          refine (TU.out).mono ?_
          rintro e w5 ⟨rfl, T5, hx5, O5⟩
          have HX5 := Lib.hid hx5
          clear hx5
          have L5 := tp_left TPa T5 O5 (fun b hb => Or.inl hb)
          have RU := Lib.hid (rend_undo_any _ n _ _ _ _ w5 L5.1)
          go_wp2_with fail
          refine (RU.out).mono ?_
          rintro e w6 ⟨rfl, R6, O6⟩
          have TPz := tp_right T5 L5.2.1 L5.2.2.1 L5.2.2.2.1 L5.2.2.2.2 (by rw [HX5.out]; exact HNLL.out) R6 O6 (fun b hb => Or.inl hb)
          have BAz := O6.blk (O5.blk BA (fun hm => hfa _ hm rfl)) (fun hm => hqa _ hm rfl)
          obtain ⟨nowz, savedz, fpz, fqz, hsz, TPz⟩ : ∃ a b c d, b.length ≤ j + 1 ∧ TP w w6 (w.heap.size + 1) (w1.heap.size + 1) n a b c d := ⟨_, _, _, _, by omega, TPz⟩
          clear T5 R6 O5 O6 L5 TPa BA TU RU
          go_wp2_with fail
          obtain ⟨AT, cT, hq1, hTc1, hTc2⟩ := TPz.R.then_
          obtain ⟨AN, cN, hq0, hNo, hNl, hNc1, hNc2, hNr⟩ := TPz.R.now
          have ha1 : w6.cell? ⟨ab, 1, none⟩ = some (.int .i64 z1) := BAz.at_ 1
          have hqlt : w1.heap.size + 1 < w6.heap.size := World.block_lt_of_cell? w6 _ hq1
          have halt := BAz.lt
          unfold maxLen at hTc2 hNc2
          have hnz : nowz.length ≤ 1000 := by rw [TPz.len]; omega
          have TPe := TPz.none_ (Only.refl [] w6).drew
          have HNl := Lib.hid hNl
          have HNr := Lib.hid hNr
          have TAe := Lib.hid (tall_any _ _ _ _ _ TPe.T hnz)
          have hszd : w6.drew.heap.size = w6.heap.size := rfl
          rw [hNl] at TAe
          clear hNl hNr hNo hszd
          refine wp_region_noPanic ?_
          refine wp_region_timed (F := [⟨[], [], fun w' => w'.cell? ⟨w1.heap.size + 1, 1, none⟩ = some (.slice AT savedz.length cT)⟩, ⟨[], [], fun w' => w'.cell? ⟨ab, 1, none⟩ = some (.int .i64 z1)⟩, ⟨[], [], fun w' => w'.cell? ⟨w1.heap.size + 1, 0, none⟩ = some (.slice AN n cN)⟩]) (by kernel_rfl) (timed_holds (hq1) (timed_holds (ha1) (timed_holds (hq0) (timed_nil)))) ?_
          refine timed_pure (i := 0) (v := ?_) rfl (by kernel_rfl) (by kernel_rfl) (by kernel_rfl) (fun _ _ _ h => h) (by kernel_rfl) (by kernel_rfl) ?_ ?_
          rotate_left
          · (intro w; go_simp; try with_reducible rfl)
          try simp only [Act.put, List.getElem_toArray, List.getElem_cons_zero, List.getElem_cons_succ, List.setIfInBounds_toArray, List.set_cons_zero, List.set_cons_succ]
          refine timed_pure (i := 1) (v := ?_) rfl (by kernel_rfl) (by kernel_rfl) (by kernel_rfl) (fun _ _ _ h => h) (by kernel_rfl) (by kernel_rfl) ?_ ?_
          rotate_left
          · (intro w; go_simp; try with_reducible rfl)
          try simp only [Act.put, List.getElem_toArray, List.getElem_cons_zero, List.getElem_cons_succ, List.setIfInBounds_toArray, List.set_cons_zero, List.set_cons_succ]
          refine timed_pure (i := 2) (v := ?_) rfl (by kernel_rfl) (by kernel_rfl) (by kernel_rfl) (fun _ _ _ h => h) (by kernel_rfl) (by kernel_rfl) ?_ ?_
          rotate_left
          · (intro w; go_simp; try with_reducible rfl)
          try simp only [Act.put, List.getElem_toArray, List.getElem_cons_zero, List.getElem_cons_succ, List.setIfInBounds_toArray, List.set_cons_zero, List.set_cons_succ]
          refine timed_pure (i := 3) (v := ?_) rfl (by kernel_rfl) (by kernel_rfl) (by kernel_rfl) (fun _ _ _ h => h) (by kernel_rfl) (by kernel_rfl) ?_ ?_
          rotate_left
          · (intro w; go_simp; try with_reducible rfl)
          try simp only [Act.put, List.getElem_toArray, List.getElem_cons_zero, List.getElem_cons_succ, List.setIfInBounds_toArray, List.set_cons_zero, List.set_cons_succ]
          refine timed_pure (i := 5) (v := ?_) rfl (by kernel_rfl) (by kernel_rfl) (by kernel_rfl) (fun _ _ _ h => h) (by kernel_rfl) (by kernel_rfl) ?_ ?_
          rotate_left
          · (intro w; go_simp; try with_reducible rfl)
          try simp only [Act.put, List.getElem_toArray, List.getElem_cons_zero, List.getElem_cons_succ, List.setIfInBounds_toArray, List.set_cons_zero, List.set_cons_succ]
          refine timed_pure (i := 6) (v := ?_) rfl (by kernel_rfl) (by kernel_rfl) (by kernel_rfl) (fun _ _ _ h => h) (by kernel_rfl) (by kernel_rfl) ?_ ?_
          rotate_left
          · (intro w; go_simp; try with_reducible rfl)
          try simp only [Act.put, List.getElem_toArray, List.getElem_cons_zero, List.getElem_cons_succ, List.setIfInBounds_toArray, List.set_cons_zero, List.set_cons_succ]
          refine timed_pure (i := 7) (v := ?_) rfl (by kernel_rfl) (by kernel_rfl) (by kernel_rfl) (fun _ _ _ h => h) (by kernel_rfl) (by kernel_rfl) ?_ ?_
          rotate_left
          · (intro w; go_simp; try with_reducible rfl)
          try simp only [Act.put, List.getElem_toArray, List.getElem_cons_zero, List.getElem_cons_succ, List.setIfInBounds_toArray, List.set_cons_zero, List.set_cons_succ]
          refine timed_read (i := 8) (v := ?_) 0 rfl (by kernel_rfl) (by kernel_rfl) (by kernel_rfl) (fun _ _ _ h => h) (by kernel_rfl) (by kernel_rfl) rfl (by kernel_rfl) ?_ ?_
          rotate_left
          · (intro w hSw; (try dsimp only at hSw); go_simp; try with_reducible rfl)
          try simp only [Act.put, List.getElem_toArray, List.getElem_cons_zero, List.getElem_cons_succ, List.setIfInBounds_toArray, List.set_cons_zero, List.set_cons_succ]
          refine timed_pure (i := 9) (v := ?_) rfl (by kernel_rfl) (by kernel_rfl) (by kernel_rfl) (fun _ _ _ h => h) (by kernel_rfl) (by kernel_rfl) ?_ ?_
          rotate_left
          · (intro w; go_simp; try with_reducible rfl)
          try simp only [Act.put, List.getElem_toArray, List.getElem_cons_zero, List.getElem_cons_succ, List.setIfInBounds_toArray, List.set_cons_zero, List.set_cons_succ]
          refine timed_step (i := 4) (by kernel_rfl) rfl (fun K hK => ?_)
          go_simp
          refine (tlevel_any _ _ _ _ _ TPe.T).mono ?_
          rintro e wq4 ⟨rfl, rfl⟩
          refine hK.out _ _ (timed_holds (hq1) (timed_holds (ha1) (timed_holds (hq0) (timed_nil)))) ?_
          clear hK K
          try simp only [Act.put, List.getElem_toArray, List.getElem_cons_zero, List.getElem_cons_succ, List.setIfInBounds_toArray, List.set_cons_zero, List.set_cons_succ]
          refine timed_pure (i := 10) (v := ?_) rfl (by kernel_rfl) (by kernel_rfl) (by kernel_rfl) (fun _ _ _ h => h) (by kernel_rfl) (by kernel_rfl) ?_ ?_
          rotate_left
          · (intro w; go_simp; try with_reducible rfl)
          try simp only [Act.put, List.getElem_toArray, List.getElem_cons_zero, List.getElem_cons_succ, List.setIfInBounds_toArray, List.set_cons_zero, List.set_cons_succ]
          refine timed_pure (i := 11) (v := ?_) rfl (by kernel_rfl) (by kernel_rfl) (by kernel_rfl) (fun _ _ _ h => h) (by kernel_rfl) (by kernel_rfl) ?_ ?_
          rotate_left
          · (intro w; go_simp; try with_reducible rfl)
          try simp only [Act.put, List.getElem_toArray, List.getElem_cons_zero, List.getElem_cons_succ, List.setIfInBounds_toArray, List.set_cons_zero, List.set_cons_succ]
          refine timed_pure (i := 12) (v := ?_) rfl (by kernel_rfl) (by kernel_rfl) (by kernel_rfl) (fun _ _ _ h => h) (by kernel_rfl) (by kernel_rfl) ?_ ?_
          rotate_left
          · (intro w; go_simp; try with_reducible rfl)
          try simp only [Act.put, List.getElem_toArray, List.getElem_cons_zero, List.getElem_cons_succ, List.setIfInBounds_toArray, List.set_cons_zero, List.set_cons_succ]
          refine timed_pure (i := 13) (v := ?_) rfl (by kernel_rfl) (by kernel_rfl) (by kernel_rfl) (fun _ _ _ h => h) (by kernel_rfl) (by kernel_rfl) ?_ ?_
          rotate_left
          · (intro w; go_simp; try with_reducible rfl)
          try simp only [Act.put, List.getElem_toArray, List.getElem_cons_zero, List.getElem_cons_succ, List.setIfInBounds_toArray, List.set_cons_zero, List.set_cons_succ]
          refine timed_pure (i := 14) (v := ?_) rfl (by kernel_rfl) (by kernel_rfl) (by kernel_rfl) (fun _ _ _ h => h) (by kernel_rfl) (by kernel_rfl) ?_ ?_
          rotate_left
          · (intro w; go_simp; try with_reducible rfl)
          try simp only [Act.put, List.getElem_toArray, List.getElem_cons_zero, List.getElem_cons_succ, List.setIfInBounds_toArray, List.set_cons_zero, List.set_cons_succ]
          refine timed_read (i := 15) (v := ?_) 1 rfl (by kernel_rfl) (by kernel_rfl) (by kernel_rfl) (fun _ _ _ h => h) (by kernel_rfl) (by kernel_rfl) rfl (by kernel_rfl) ?_ ?_
          rotate_left
          · (intro w hSw; (try dsimp only at hSw); go_simp; try with_reducible rfl)
          try simp only [Act.put, List.getElem_toArray, List.getElem_cons_zero, List.getElem_cons_succ, List.setIfInBounds_toArray, List.set_cons_zero, List.set_cons_succ]
          refine timed_pure (i := 17) (v := ?_) rfl (by kernel_rfl) (by kernel_rfl) (by kernel_rfl) (fun _ _ _ h => h) (by kernel_rfl) (by kernel_rfl) ?_ ?_
          rotate_left
          · (intro w; go_simp; try with_reducible rfl)
          try simp only [Act.put, List.getElem_toArray, List.getElem_cons_zero, List.getElem_cons_succ, List.setIfInBounds_toArray, List.set_cons_zero, List.set_cons_succ]
          refine timed_pure (i := 18) (v := ?_) rfl (by kernel_rfl) (by kernel_rfl) (by kernel_rfl) (fun _ _ _ h => h) (by kernel_rfl) (by kernel_rfl) ?_ ?_
          rotate_left
          · (intro w; go_simp; try with_reducible rfl)
          try simp only [Act.put, List.getElem_toArray, List.getElem_cons_zero, List.getElem_cons_succ, List.setIfInBounds_toArray, List.set_cons_zero, List.set_cons_succ]
          refine timed_read (i := 19) (v := ?_) 1 rfl (by kernel_rfl) (by kernel_rfl) (by kernel_rfl) (fun _ _ _ h => h) (by kernel_rfl) (by kernel_rfl) rfl (by kernel_rfl) ?_ ?_
          rotate_left
          · (intro w hSw; (try dsimp only at hSw); go_simp; try with_reducible rfl)
          try simp only [Act.put, List.getElem_toArray, List.getElem_cons_zero, List.getElem_cons_succ, List.setIfInBounds_toArray, List.set_cons_zero, List.set_cons_succ]
          refine timed_step (i := 16) (by kernel_rfl) rfl (fun K hK => ?_)
          go_simp
          refine (tget_any _ z1 _ _ _ _ TPe.T hnz).mono ?_
          rintro e wq5 ⟨rfl, rfl⟩
          refine hK.out _ _ (timed_holds (hq1) (timed_holds (ha1) (timed_holds (hq0) (timed_nil)))) ?_
          clear hK K
          try simp only [Act.put, List.getElem_toArray, List.getElem_cons_zero, List.getElem_cons_succ, List.setIfInBounds_toArray, List.set_cons_zero, List.set_cons_succ]
          refine timed_step (i := 20) (by kernel_rfl) rfl (fun K hK => ?_)
          go_simp
          refine (rget_any _ n z1 _ _ _ _ TPe.R (by omega)).mono ?_
          rintro e wq6 ⟨rfl, rfl⟩
          refine hK.out _ _ (timed_holds (hq1) (timed_holds (ha1) (timed_holds (hq0) (timed_nil)))) ?_
          clear hK K
          try simp only [Act.put, List.getElem_toArray, List.getElem_cons_zero, List.getElem_cons_succ, List.setIfInBounds_toArray, List.set_cons_zero, List.set_cons_succ]
          refine timed_pure (i := 21) (v := ?_) rfl (by kernel_rfl) (by kernel_rfl) (by kernel_rfl) (fun _ _ _ h => h) (by kernel_rfl) (by kernel_rfl) ?_ ?_
          rotate_left
          · (intro w; go_simp; try with_reducible rfl)
          try simp only [Act.put, List.getElem_toArray, List.getElem_cons_zero, List.getElem_cons_succ, List.setIfInBounds_toArray, List.set_cons_zero, List.set_cons_succ]
          refine timed_pure (i := 22) (v := ?_) rfl (by kernel_rfl) (by kernel_rfl) (by kernel_rfl) (fun _ _ _ h => h) (by kernel_rfl) (by kernel_rfl) ?_ ?_
          rotate_left
          · (intro w; go_simp; try with_reducible rfl)
          try simp only [Act.put, List.getElem_toArray, List.getElem_cons_zero, List.getElem_cons_succ, List.setIfInBounds_toArray, List.set_cons_zero, List.set_cons_succ]
          refine timed_pure (i := 23) (v := ?_) rfl (by kernel_rfl) (by kernel_rfl) (by kernel_rfl) (fun _ _ _ h => h) (by kernel_rfl) (by kernel_rfl) ?_ ?_
          rotate_left
          · (intro w; go_simp; try with_reducible rfl)
          try simp only [Act.put, List.getElem_toArray, List.getElem_cons_zero, List.getElem_cons_succ, List.setIfInBounds_toArray, List.set_cons_zero, List.set_cons_succ]
          refine timed_pure (i := 24) (v := ?_) rfl (by kernel_rfl) (by kernel_rfl) (by kernel_rfl) (fun _ _ _ h => h) (by kernel_rfl) (by kernel_rfl) ?_ ?_
          rotate_left
          · (intro w; go_simp; try with_reducible rfl)
          try simp only [Act.put, List.getElem_toArray, List.getElem_cons_zero, List.getElem_cons_succ, List.setIfInBounds_toArray, List.set_cons_zero, List.set_cons_succ]
          refine timed_pure (i := 26) (v := ?_) rfl (by kernel_rfl) (by kernel_rfl) (by kernel_rfl) (fun _ _ _ h => h) (by kernel_rfl) (by kernel_rfl) ?_ ?_
          rotate_left
          · (intro w; go_simp; try with_reducible rfl)
          try simp only [Act.put, List.getElem_toArray, List.getElem_cons_zero, List.getElem_cons_succ, List.setIfInBounds_toArray, List.set_cons_zero, List.set_cons_succ]
          refine timed_pure (i := 27) (v := ?_) rfl (by kernel_rfl) (by kernel_rfl) (by kernel_rfl) (fun _ _ _ h => h) (by kernel_rfl) (by kernel_rfl) ?_ ?_
          rotate_left
          · (intro w; go_simp; try with_reducible rfl)
          try simp only [Act.put, List.getElem_toArray, List.getElem_cons_zero, List.getElem_cons_succ, List.setIfInBounds_toArray, List.set_cons_zero, List.set_cons_succ]
          refine timed_pure (i := 28) (v := ?_) rfl (by kernel_rfl) (by kernel_rfl) (by kernel_rfl) (fun _ _ _ h => h) (by kernel_rfl) (by kernel_rfl) ?_ ?_
          rotate_left
          · (intro w; go_simp; try with_reducible rfl)
          try simp only [Act.put, List.getElem_toArray, List.getElem_cons_zero, List.getElem_cons_succ, List.setIfInBounds_toArray, List.set_cons_zero, List.set_cons_succ]
          refine timed_read (i := 29) (v := ?_) 2 rfl (by kernel_rfl) (by kernel_rfl) (by kernel_rfl) (fun _ _ _ h => h) (by kernel_rfl) (by kernel_rfl) rfl (by kernel_rfl) ?_ ?_
          rotate_left
          · (intro w hSw; (try dsimp only at hSw); go_simp; try with_reducible rfl)
          try simp only [Act.put, List.getElem_toArray, List.getElem_cons_zero, List.getElem_cons_succ, List.setIfInBounds_toArray, List.set_cons_zero, List.set_cons_succ]
          refine timed_step (i := 25) (by kernel_rfl) rfl (fun K hK => ?_)
          go_simp
          refine (TAe.out).mono ?_
          rintro e wy ⟨rfl, By, Oy⟩
          refine hK.out _ _ (timed_holds ((Oy.cell (p := ⟨w1.heap.size + 1, 1, none⟩) hqlt (by simp)).trans hq1) (timed_holds ((Oy.cell (p := ⟨ab, 1, none⟩) halt (by simp)).trans ha1) (timed_holds ((Oy.cell (p := ⟨w1.heap.size + 1, 0, none⟩) hqlt (by simp)).trans hq0) (timed_nil)))) ?_
          clear hK K
          try simp only [Act.put, List.getElem_toArray, List.getElem_cons_zero, List.getElem_cons_succ, List.setIfInBounds_toArray, List.set_cons_zero, List.set_cons_succ]
          refine timed_step (i := 30) (by kernel_rfl) rfl (fun K hK => ?_)
          go_simp
          have hrow2 : Row wy w6.heap.size AN (cl nowz) := HNr.out.only ((Only.refl [] w6).drew.trans Oy) (fun _ h => by cases h)
          refine (sameInts_any (some ⟨w6.heap.size, 0, none⟩) AN n n n cN nowz nowz wy _ _ (row_blk By) hrow2 HNl.out HNl.out (by omega) (by omega)).mono ?_
          rintro e wk ⟨rfl, kx, rfl⟩
          have hdd : decide (nowz = nowz) = true := by simp
          refine hK.out _ _ (timed_holds ((Oy.cell (p := ⟨w1.heap.size + 1, 1, none⟩) hqlt (by simp)).trans hq1) (timed_holds ((Oy.cell (p := ⟨ab, 1, none⟩) halt (by simp)).trans ha1) (timed_holds ((Oy.cell (p := ⟨w1.heap.size + 1, 0, none⟩) hqlt (by simp)).trans hq0) (timed_nil)))) ?_
          clear hK K
          try simp only [Act.put, List.getElem_toArray, List.getElem_cons_zero, List.getElem_cons_succ, List.setIfInBounds_toArray, List.set_cons_zero, List.set_cons_succ]
          refine timed_pure (i := 31) (v := ?_) rfl (by kernel_rfl) (by kernel_rfl) (by kernel_rfl) (fun _ _ _ h => h) (by kernel_rfl) (by kernel_rfl) ?_ ?_
          rotate_left
          · (intro w; go_simp; try with_reducible rfl)
          try simp only [Act.put, List.getElem_toArray, List.getElem_cons_zero, List.getElem_cons_succ, List.setIfInBounds_toArray, List.set_cons_zero, List.set_cons_succ]
          refine timed_pure (i := 32) (v := ?_) rfl (by kernel_rfl) (by kernel_rfl) (by kernel_rfl) (fun _ _ _ h => h) (by kernel_rfl) (by kernel_rfl) ?_ ?_
          rotate_left
          · (intro w; go_simp; try with_reducible rfl)
          try simp only [Act.put, List.getElem_toArray, List.getElem_cons_zero, List.getElem_cons_succ, List.setIfInBounds_toArray, List.set_cons_zero, List.set_cons_succ]
          refine timed_done (by kernel_rfl) ?_ _
          refine NoPanic.normal ?_
          have TPf := TPe.none_ (Oy.drewN kx)
          go_wp2
          go_roundw
          case rel => exact ⟨j + 1, nowz, savedz, fpz, fqz, by go_num, by omega, hsz, TPf⟩
          case measure => simp [intOf]; omega
      · rcases List.eq_nil_or_concat saved with hsv | ⟨L, x, hsv⟩
        · subst hsv
          obtain ⟨AT0, cT0, hz1', -, -⟩ := TPa.R.then_
          obtain ⟨AP0, cP0, hz2', -, -⟩ := TPa.T.form
          have TU := Lib.hid (tkeep_none _ _ _ wa TPa.T.made (by simpa using hz2'))
          have RU := Lib.hid (rend_none (w1.heap.size + 1) _ false _ wa (by simpa using hz1'))
          clear hz1' hz2'
          go_wp2_with fail
          refine (TU.out).mono ?_
          rintro e w5 ⟨rfl, rfl⟩
          go_wp2_with fail
          refine (RU.out).mono ?_
          rintro e w5 ⟨rfl, rfl⟩
          have BAz := BA
          obtain ⟨nowz, savedz, fpz, fqz, hsz, TPz⟩ : ∃ a b c d, b.length ≤ j + 1 ∧ TP w wa (w.heap.size + 1) (w1.heap.size + 1) n a b c d := ⟨_, _, _, _, by simp, TPa⟩
          clear TPa BA TU RU
          go_wp2_with fail
          obtain ⟨AT, cT, hq1, hTc1, hTc2⟩ := TPz.R.then_
          obtain ⟨AN, cN, hq0, hNo, hNl, hNc1, hNc2, hNr⟩ := TPz.R.now
          have ha1 : wa.cell? ⟨ab, 1, none⟩ = some (.int .i64 z1) := BAz.at_ 1
          have hqlt : w1.heap.size + 1 < wa.heap.size := World.block_lt_of_cell? wa _ hq1
          have halt := BAz.lt
          unfold maxLen at hTc2 hNc2
          have hnz : nowz.length ≤ 1000 := by rw [TPz.len]; omega
          have TPe := TPz.none_ (Only.refl [] wa).drew
          have HNl := Lib.hid hNl
          have HNr := Lib.hid hNr
          have TAe := Lib.hid (tall_any _ _ _ _ _ TPe.T hnz)
          have hszd : wa.drew.heap.size = wa.heap.size := rfl
          rw [hNl] at TAe
          clear hNl hNr hNo hszd
          refine wp_region_noPanic ?_
          refine wp_region_timed (F := [⟨[], [], fun w' => w'.cell? ⟨w1.heap.size + 1, 1, none⟩ = some (.slice AT savedz.length cT)⟩, ⟨[], [], fun w' => w'.cell? ⟨ab, 1, none⟩ = some (.int .i64 z1)⟩, ⟨[], [], fun w' => w'.cell? ⟨w1.heap.size + 1, 0, none⟩ = some (.slice AN n cN)⟩]) (by kernel_rfl) (timed_holds (hq1) (timed_holds (ha1) (timed_holds (hq0) (timed_nil)))) ?_
          refine timed_pure (i := 0) (v := ?_) rfl (by kernel_rfl) (by kernel_rfl) (by kernel_rfl) (fun _ _ _ h => h) (by kernel_rfl) (by kernel_rfl) ?_ ?_
          rotate_left
          · (intro w; go_simp; try with_reducible rfl)
          try simp only [Act.put, List.getElem_toArray, List.getElem_cons_zero, List.getElem_cons_succ, List.setIfInBounds_toArray, List.set_cons_zero, List.set_cons_succ]
          refine timed_pure (i := 1) (v := ?_) rfl (by kernel_rfl) (by kernel_rfl) (by kernel_rfl) (fun _ _ _ h => h) (by kernel_rfl) (by kernel_rfl) ?_ ?_
          rotate_left
          · (intro w; go_simp; try with_reducible rfl)
          try simp only [Act.put, List.getElem_toArray, List.getElem_cons_zero, List.getElem_cons_succ, List.setIfInBounds_toArray, List.set_cons_zero, List.set_cons_succ]
          refine timed_pure (i := 2) (v := ?_) rfl (by kernel_rfl) (by kernel_rfl) (by kernel_rfl) (fun _ _ _ h => h) (by kernel_rfl) (by kernel_rfl) ?_ ?_
          rotate_left
          · (intro w; go_simp; try with_reducible rfl)
          try simp only [Act.put, List.getElem_toArray, List.getElem_cons_zero, List.getElem_cons_succ, List.setIfInBounds_toArray, List.set_cons_zero, List.set_cons_succ]
          refine timed_pure (i := 3) (v := ?_) rfl (by kernel_rfl) (by kernel_rfl) (by kernel_rfl) (fun _ _ _ h => h) (by kernel_rfl) (by kernel_rfl) ?_ ?_
          rotate_left
          · (intro w; go_simp; try with_reducible rfl)
          try simp only [Act.put, List.getElem_toArray, List.getElem_cons_zero, List.getElem_cons_succ, List.setIfInBounds_toArray, List.set_cons_zero, List.set_cons_succ]
          refine timed_pure (i := 5) (v := ?_) rfl (by kernel_rfl) (by kernel_rfl) (by kernel_rfl) (fun _ _ _ h => h) (by kernel_rfl) (by kernel_rfl) ?_ ?_
          rotate_left
          · (intro w; go_simp; try with_reducible rfl)
          try simp only [Act.put, List.getElem_toArray, List.getElem_cons_zero, List.getElem_cons_succ, List.setIfInBounds_toArray, List.set_cons_zero, List.set_cons_succ]
          refine timed_pure (i := 6) (v := ?_) rfl (by kernel_rfl) (by kernel_rfl) (by kernel_rfl) (fun _ _ _ h => h) (by kernel_rfl) (by kernel_rfl) ?_ ?_
          rotate_left
          · (intro w; go_simp; try with_reducible rfl)
          try simp only [Act.put, List.getElem_toArray, List.getElem_cons_zero, List.getElem_cons_succ, List.setIfInBounds_toArray, List.set_cons_zero, List.set_cons_succ]
          refine timed_pure (i := 7) (v := ?_) rfl (by kernel_rfl) (by kernel_rfl) (by kernel_rfl) (fun _ _ _ h => h) (by kernel_rfl) (by kernel_rfl) ?_ ?_
          rotate_left
          · (intro w; go_simp; try with_reducible rfl)
          try simp only [Act.put, List.getElem_toArray, List.getElem_cons_zero, List.getElem_cons_succ, List.setIfInBounds_toArray, List.set_cons_zero, List.set_cons_succ]
          refine timed_read (i := 8) (v := ?_) 0 rfl (by kernel_rfl) (by kernel_rfl) (by kernel_rfl) (fun _ _ _ h => h) (by kernel_rfl) (by kernel_rfl) rfl (by kernel_rfl) ?_ ?_
          rotate_left
          · (intro w hSw; (try dsimp only at hSw); go_simp; try with_reducible rfl)
          try simp only [Act.put, List.getElem_toArray, List.getElem_cons_zero, List.getElem_cons_succ, List.setIfInBounds_toArray, List.set_cons_zero, List.set_cons_succ]
          refine timed_pure (i := 9) (v := ?_) rfl (by kernel_rfl) (by kernel_rfl) (by kernel_rfl) (fun _ _ _ h => h) (by kernel_rfl) (by kernel_rfl) ?_ ?_
          rotate_left
          · (intro w; go_simp; try with_reducible rfl)
          try simp only [Act.put, List.getElem_toArray, List.getElem_cons_zero, List.getElem_cons_succ, List.setIfInBounds_toArray, List.set_cons_zero, List.set_cons_succ]
          refine timed_step (i := 4) (by kernel_rfl) rfl (fun K hK => ?_)
          go_simp
          refine (tlevel_any _ _ _ _ _ TPe.T).mono ?_
          rintro e wq4 ⟨rfl, rfl⟩
          refine hK.out _ _ (timed_holds (hq1) (timed_holds (ha1) (timed_holds (hq0) (timed_nil)))) ?_
          clear hK K
          try simp only [Act.put, List.getElem_toArray, List.getElem_cons_zero, List.getElem_cons_succ, List.setIfInBounds_toArray, List.set_cons_zero, List.set_cons_succ]
          refine timed_pure (i := 10) (v := ?_) rfl (by kernel_rfl) (by kernel_rfl) (by kernel_rfl) (fun _ _ _ h => h) (by kernel_rfl) (by kernel_rfl) ?_ ?_
          rotate_left
          · (intro w; go_simp; try with_reducible rfl)
          try simp only [Act.put, List.getElem_toArray, List.getElem_cons_zero, List.getElem_cons_succ, List.setIfInBounds_toArray, List.set_cons_zero, List.set_cons_succ]
          refine timed_pure (i := 11) (v := ?_) rfl (by kernel_rfl) (by kernel_rfl) (by kernel_rfl) (fun _ _ _ h => h) (by kernel_rfl) (by kernel_rfl) ?_ ?_
          rotate_left
          · (intro w; go_simp; try with_reducible rfl)
          try simp only [Act.put, List.getElem_toArray, List.getElem_cons_zero, List.getElem_cons_succ, List.setIfInBounds_toArray, List.set_cons_zero, List.set_cons_succ]
          refine timed_pure (i := 12) (v := ?_) rfl (by kernel_rfl) (by kernel_rfl) (by kernel_rfl) (fun _ _ _ h => h) (by kernel_rfl) (by kernel_rfl) ?_ ?_
          rotate_left
          · (intro w; go_simp; try with_reducible rfl)
          try simp only [Act.put, List.getElem_toArray, List.getElem_cons_zero, List.getElem_cons_succ, List.setIfInBounds_toArray, List.set_cons_zero, List.set_cons_succ]
          refine timed_pure (i := 13) (v := ?_) rfl (by kernel_rfl) (by kernel_rfl) (by kernel_rfl) (fun _ _ _ h => h) (by kernel_rfl) (by kernel_rfl) ?_ ?_
          rotate_left
          · (intro w; go_simp; try with_reducible rfl)
          try simp only [Act.put, List.getElem_toArray, List.getElem_cons_zero, List.getElem_cons_succ, List.setIfInBounds_toArray, List.set_cons_zero, List.set_cons_succ]
          refine timed_pure (i := 14) (v := ?_) rfl (by kernel_rfl) (by kernel_rfl) (by kernel_rfl) (fun _ _ _ h => h) (by kernel_rfl) (by kernel_rfl) ?_ ?_
          rotate_left
          · (intro w; go_simp; try with_reducible rfl)
          try simp only [Act.put, List.getElem_toArray, List.getElem_cons_zero, List.getElem_cons_succ, List.setIfInBounds_toArray, List.set_cons_zero, List.set_cons_succ]
          refine timed_read (i := 15) (v := ?_) 1 rfl (by kernel_rfl) (by kernel_rfl) (by kernel_rfl) (fun _ _ _ h => h) (by kernel_rfl) (by kernel_rfl) rfl (by kernel_rfl) ?_ ?_
          rotate_left
          · (intro w hSw; (try dsimp only at hSw); go_simp; try with_reducible rfl)
          try simp only [Act.put, List.getElem_toArray, List.getElem_cons_zero, List.getElem_cons_succ, List.setIfInBounds_toArray, List.set_cons_zero, List.set_cons_succ]
          refine timed_pure (i := 17) (v := ?_) rfl (by kernel_rfl) (by kernel_rfl) (by kernel_rfl) (fun _ _ _ h => h) (by kernel_rfl) (by kernel_rfl) ?_ ?_
          rotate_left
          · (intro w; go_simp; try with_reducible rfl)
          try simp only [Act.put, List.getElem_toArray, List.getElem_cons_zero, List.getElem_cons_succ, List.setIfInBounds_toArray, List.set_cons_zero, List.set_cons_succ]
          refine timed_pure (i := 18) (v := ?_) rfl (by kernel_rfl) (by kernel_rfl) (by kernel_rfl) (fun _ _ _ h => h) (by kernel_rfl) (by kernel_rfl) ?_ ?_
          rotate_left
          · (intro w; go_simp; try with_reducible rfl)
          try simp only [Act.put, List.getElem_toArray, List.getElem_cons_zero, List.getElem_cons_succ, List.setIfInBounds_toArray, List.set_cons_zero, List.set_cons_succ]
          refine timed_read (i := 19) (v := ?_) 1 rfl (by kernel_rfl) (by kernel_rfl) (by kernel_rfl) (fun _ _ _ h => h) (by kernel_rfl) (by kernel_rfl) rfl (by kernel_rfl) ?_ ?_
          rotate_left
          · (intro w hSw; (try dsimp only at hSw); go_simp; try with_reducible rfl)
          try simp only [Act.put, List.getElem_toArray, List.getElem_cons_zero, List.getElem_cons_succ, List.setIfInBounds_toArray, List.set_cons_zero, List.set_cons_succ]
          refine timed_step (i := 16) (by kernel_rfl) rfl (fun K hK => ?_)
          go_simp
          refine (tget_any _ z1 _ _ _ _ TPe.T hnz).mono ?_
          rintro e wq5 ⟨rfl, rfl⟩
          refine hK.out _ _ (timed_holds (hq1) (timed_holds (ha1) (timed_holds (hq0) (timed_nil)))) ?_
          clear hK K
          try simp only [Act.put, List.getElem_toArray, List.getElem_cons_zero, List.getElem_cons_succ, List.setIfInBounds_toArray, List.set_cons_zero, List.set_cons_succ]
          refine timed_step (i := 20) (by kernel_rfl) rfl (fun K hK => ?_)
          go_simp
          refine (rget_any _ n z1 _ _ _ _ TPe.R (by omega)).mono ?_
          rintro e wq6 ⟨rfl, rfl⟩
          refine hK.out _ _ (timed_holds (hq1) (timed_holds (ha1) (timed_holds (hq0) (timed_nil)))) ?_
          clear hK K
          try simp only [Act.put, List.getElem_toArray, List.getElem_cons_zero, List.getElem_cons_succ, List.setIfInBounds_toArray, List.set_cons_zero, List.set_cons_succ]
          refine timed_pure (i := 21) (v := ?_) rfl (by kernel_rfl) (by kernel_rfl) (by kernel_rfl) (fun _ _ _ h => h) (by kernel_rfl) (by kernel_rfl) ?_ ?_
          rotate_left
          · (intro w; go_simp; try with_reducible rfl)
          try simp only [Act.put, List.getElem_toArray, List.getElem_cons_zero, List.getElem_cons_succ, List.setIfInBounds_toArray, List.set_cons_zero, List.set_cons_succ]
          refine timed_pure (i := 22) (v := ?_) rfl (by kernel_rfl) (by kernel_rfl) (by kernel_rfl) (fun _ _ _ h => h) (by kernel_rfl) (by kernel_rfl) ?_ ?_
          rotate_left
          · (intro w; go_simp; try with_reducible rfl)
          try simp only [Act.put, List.getElem_toArray, List.getElem_cons_zero, List.getElem_cons_succ, List.setIfInBounds_toArray, List.set_cons_zero, List.set_cons_succ]
          refine timed_pure (i := 23) (v := ?_) rfl (by kernel_rfl) (by kernel_rfl) (by kernel_rfl) (fun _ _ _ h => h) (by kernel_rfl) (by kernel_rfl) ?_ ?_
          rotate_left
          · (intro w; go_simp; try with_reducible rfl)
          try simp only [Act.put, List.getElem_toArray, List.getElem_cons_zero, List.getElem_cons_succ, List.setIfInBounds_toArray, List.set_cons_zero, List.set_cons_succ]
          refine timed_pure (i := 24) (v := ?_) rfl (by kernel_rfl) (by kernel_rfl) (by kernel_rfl) (fun _ _ _ h => h) (by kernel_rfl) (by kernel_rfl) ?_ ?_
          rotate_left
          · (intro w; go_simp; try with_reducible rfl)
          try simp only [Act.put, List.getElem_toArray, List.getElem_cons_zero, List.getElem_cons_succ, List.setIfInBounds_toArray, List.set_cons_zero, List.set_cons_succ]
          refine timed_pure (i := 26) (v := ?_) rfl (by kernel_rfl) (by kernel_rfl) (by kernel_rfl) (fun _ _ _ h => h) (by kernel_rfl) (by kernel_rfl) ?_ ?_
          rotate_left
          · (intro w; go_simp; try with_reducible rfl)
          try simp only [Act.put, List.getElem_toArray, List.getElem_cons_zero, List.getElem_cons_succ, List.setIfInBounds_toArray, List.set_cons_zero, List.set_cons_succ]
          refine timed_pure (i := 27) (v := ?_) rfl (by kernel_rfl) (by kernel_rfl) (by kernel_rfl) (fun _ _ _ h => h) (by kernel_rfl) (by kernel_rfl) ?_ ?_
          rotate_left
          · (intro w; go_simp; try with_reducible rfl)
          try simp only [Act.put, List.getElem_toArray, List.getElem_cons_zero, List.getElem_cons_succ, List.setIfInBounds_toArray, List.set_cons_zero, List.set_cons_succ]
          refine timed_pure (i := 28) (v := ?_) rfl (by kernel_rfl) (by kernel_rfl) (by kernel_rfl) (fun _ _ _ h => h) (by kernel_rfl) (by kernel_rfl) ?_ ?_
          rotate_left
          · (intro w; go_simp; try with_reducible rfl)
          try simp only [Act.put, List.getElem_toArray, List.getElem_cons_zero, List.getElem_cons_succ, List.setIfInBounds_toArray, List.set_cons_zero, List.set_cons_succ]
          refine timed_read (i := 29) (v := ?_) 2 rfl (by kernel_rfl) (by kernel_rfl) (by kernel_rfl) (fun _ _ _ h => h) (by kernel_rfl) (by kernel_rfl) rfl (by kernel_rfl) ?_ ?_
          rotate_left
          · (intro w hSw; (try dsimp only at hSw); go_simp; try with_reducible rfl)
          try simp only [Act.put, List.getElem_toArray, List.getElem_cons_zero, List.getElem_cons_succ, List.setIfInBounds_toArray, List.set_cons_zero, List.set_cons_succ]
          refine timed_step (i := 25) (by kernel_rfl) rfl (fun K hK => ?_)
          go_simp
          refine (TAe.out).mono ?_
          rintro e wy ⟨rfl, By, Oy⟩
          refine hK.out _ _ (timed_holds ((Oy.cell (p := ⟨w1.heap.size + 1, 1, none⟩) hqlt (by simp)).trans hq1) (timed_holds ((Oy.cell (p := ⟨ab, 1, none⟩) halt (by simp)).trans ha1) (timed_holds ((Oy.cell (p := ⟨w1.heap.size + 1, 0, none⟩) hqlt (by simp)).trans hq0) (timed_nil)))) ?_
          clear hK K
          try simp only [Act.put, List.getElem_toArray, List.getElem_cons_zero, List.getElem_cons_succ, List.setIfInBounds_toArray, List.set_cons_zero, List.set_cons_succ]
          refine timed_step (i := 30) (by kernel_rfl) rfl (fun K hK => ?_)
          go_simp
          have hrow2 : Row wy wa.heap.size AN (cl nowz) := HNr.out.only ((Only.refl [] wa).drew.trans Oy) (fun _ h => by cases h)
          refine (sameInts_any (some ⟨wa.heap.size, 0, none⟩) AN n n n cN nowz nowz wy _ _ (row_blk By) hrow2 HNl.out HNl.out (by omega) (by omega)).mono ?_
          rintro e wk ⟨rfl, kx, rfl⟩
          have hdd : decide (nowz = nowz) = true := by simp
          refine hK.out _ _ (timed_holds ((Oy.cell (p := ⟨w1.heap.size + 1, 1, none⟩) hqlt (by simp)).trans hq1) (timed_holds ((Oy.cell (p := ⟨ab, 1, none⟩) halt (by simp)).trans ha1) (timed_holds ((Oy.cell (p := ⟨w1.heap.size + 1, 0, none⟩) hqlt (by simp)).trans hq0) (timed_nil)))) ?_
          clear hK K
          try simp only [Act.put, List.getElem_toArray, List.getElem_cons_zero, List.getElem_cons_succ, List.setIfInBounds_toArray, List.set_cons_zero, List.set_cons_succ]
          refine timed_pure (i := 31) (v := ?_) rfl (by kernel_rfl) (by kernel_rfl) (by kernel_rfl) (fun _ _ _ h => h) (by kernel_rfl) (by kernel_rfl) ?_ ?_
          rotate_left
          · (intro w; go_simp; try with_reducible rfl)
          try simp only [Act.put, List.getElem_toArray, List.getElem_cons_zero, List.getElem_cons_succ, List.setIfInBounds_toArray, List.set_cons_zero, List.set_cons_succ]
          refine timed_pure (i := 32) (v := ?_) rfl (by kernel_rfl) (by kernel_rfl) (by kernel_rfl) (fun _ _ _ h => h) (by kernel_rfl) (by kernel_rfl) ?_ ?_
          rotate_left
          · (intro w; go_simp; try with_reducible rfl)
          try simp only [Act.put, List.getElem_toArray, List.getElem_cons_zero, List.getElem_cons_succ, List.setIfInBounds_toArray, List.set_cons_zero, List.set_cons_succ]
          refine timed_done (by kernel_rfl) ?_ _
          refine NoPanic.normal ?_
          have TPf := TPe.none_ (Oy.drewN kx)
          go_wp2
          go_roundw
          case rel => exact ⟨j + 1, nowz, savedz, fpz, fqz, by go_num, by omega, hsz, TPf⟩
          case measure => simp [intOf]; omega
        · rw [List.concat_eq_append] at hsv
          subst hsv
          have hLl : L.length ≤ j := by simp at hsj; omega
          have TU := Lib.hid (tkeep_any _ _ _ _ _ wa TPa.T)
          go_wp2_with fail
          refine (TU.out).mono ?_
          rintro e w5 ⟨rfl, T5, O5⟩
          have L5 := tp_left TPa T5 O5 (fun b hb => Or.inl hb)
          have RU := Lib.hid (rend_keep_any _ n _ _ _ _ w5 L5.1)
          go_wp2_with fail
          refine (RU.out).mono ?_
          rintro e w6 ⟨rfl, R6, O6⟩
          have TPz := tp_right T5 L5.2.1 L5.2.2.1 L5.2.2.2.1 L5.2.2.2.2 HNLL.out R6 O6 (fun b hb => Or.inl hb)
          have BAz := O6.blk (O5.blk BA (fun hm => hfa _ hm rfl)) (fun hm => hqa _ hm rfl)
          obtain ⟨nowz, savedz, fpz, fqz, hsz, TPz⟩ : ∃ a b c d, b.length ≤ j + 1 ∧ TP w w6 (w.heap.size + 1) (w1.heap.size + 1) n a b c d := ⟨_, _, _, _, by omega, TPz⟩
          clear T5 R6 O5 O6 L5 TPa BA TU RU
          go_wp2_with fail
          obtain ⟨AT, cT, hq1, hTc1, hTc2⟩ := TPz.R.then_
          obtain ⟨AN, cN, hq0, hNo, hNl, hNc1, hNc2, hNr⟩ := TPz.R.now
          have ha1 : w6.cell? ⟨ab, 1, none⟩ = some (.int .i64 z1) := BAz.at_ 1
          have hqlt : w1.heap.size + 1 < w6.heap.size := World.block_lt_of_cell? w6 _ hq1
          have halt := BAz.lt
          unfold maxLen at hTc2 hNc2
          have hnz : nowz.length ≤ 1000 := by rw [TPz.len]; omega
          have TPe := TPz.none_ (Only.refl [] w6).drew
          have HNl := Lib.hid hNl
          have HNr := Lib.hid hNr
          have TAe := Lib.hid (tall_any _ _ _ _ _ TPe.T hnz)
          have hszd : w6.drew.heap.size = w6.heap.size := rfl
          rw [hNl] at TAe
          clear hNl hNr hNo hszd
          refine wp_region_noPanic ?_
          refine wp_region_timed (F := [⟨[], [], fun w' => w'.cell? ⟨w1.heap.size + 1, 1, none⟩ = some (.slice AT savedz.length cT)⟩, ⟨[], [], fun w' => w'.cell? ⟨ab, 1, none⟩ = some (.int .i64 z1)⟩, ⟨[], [], fun w' => w'.cell? ⟨w1.heap.size + 1, 0, none⟩ = some (.slice AN n cN)⟩]) (by kernel_rfl) (timed_holds (hq1) (timed_holds (ha1) (timed_holds (hq0) (timed_nil)))) ?_
          refine timed_pure (i := 0) (v := ?_) rfl (by kernel_rfl) (by kernel_rfl) (by kernel_rfl) (fun _ _ _ h => h) (by kernel_rfl) (by kernel_rfl) ?_ ?_
          rotate_left
          · (intro w; go_simp; try with_reducible rfl)
          try simp only [Act.put, List.getElem_toArray, List.getElem_cons_zero, List.getElem_cons_succ, List.setIfInBounds_toArray, List.set_cons_zero, List.set_cons_succ]
          refine timed_pure (i := 1) (v := ?_) rfl (by kernel_rfl) (by kernel_rfl) (by kernel_rfl) (fun _ _ _ h => h) (by kernel_rfl) (by kernel_rfl) ?_ ?_
          rotate_left
          · (intro w; go_simp; try with_reducible rfl)
          try simp only [Act.put, List.getElem_toArray, List.getElem_cons_zero, List.getElem_cons_succ, List.setIfInBounds_toArray, List.set_cons_zero, List.set_cons_succ]
          refine timed_pure (i := 2) (v := ?_) rfl (by kernel_rfl) (by kernel_rfl) (by kernel_rfl) (fun _ _ _ h => h) (by kernel_rfl) (by kernel_rfl) ?_ ?_
          rotate_left
          · (intro w; go_simp; try with_reducible rfl)
          try simp only [Act.put, List.getElem_toArray, List.getElem_cons_zero, List.getElem_cons_succ, List.setIfInBounds_toArray, List.set_cons_zero, List.set_cons_succ]
          refine timed_pure (i := 3) (v := ?_) rfl (by kernel_rfl) (by kernel_rfl) (by kernel_rfl) (fun _ _ _ h => h) (by kernel_rfl) (by kernel_rfl) ?_ ?_
          rotate_left
          · (intro w; go_simp; try with_reducible rfl)
          try simp only [Act.put, List.getElem_toArray, List.getElem_cons_zero, List.getElem_cons_succ, List.setIfInBounds_toArray, List.set_cons_zero, List.set_cons_succ]
          refine timed_pure (i := 5) (v := ?_) rfl (by kernel_rfl) (by kernel_rfl) (by kernel_rfl) (fun _ _ _ h => h) (by kernel_rfl) (by kernel_rfl) ?_ ?_
          rotate_left
          · (intro w; go_simp; try with_reducible rfl)
          try simp only [Act.put, List.getElem_toArray, List.getElem_cons_zero, List.getElem_cons_succ, List.setIfInBounds_toArray, List.set_cons_zero, List.set_cons_succ]
          refine timed_pure (i := 6) (v := ?_) rfl (by kernel_rfl) (by kernel_rfl) (by kernel_rfl) (fun _ _ _ h => h) (by kernel_rfl) (by kernel_rfl) ?_ ?_
          rotate_left
          · (intro w; go_simp; try with_reducible rfl)
          try simp only [Act.put, List.getElem_toArray, List.getElem_cons_zero, List.getElem_cons_succ, List.setIfInBounds_toArray, List.set_cons_zero, List.set_cons_succ]
          refine timed_pure (i := 7) (v := ?_) rfl (by kernel_rfl) (by kernel_rfl) (by kernel_rfl) (fun _ _ _ h => h) (by kernel_rfl) (by kernel_rfl) ?_ ?_
          rotate_left
          · (intro w; go_simp; try with_reducible rfl)
          try simp only [Act.put, List.getElem_toArray, List.getElem_cons_zero, List.getElem_cons_succ, List.setIfInBounds_toArray, List.set_cons_zero, List.set_cons_succ]
          refine timed_read (i := 8) (v := ?_) 0 rfl (by kernel_rfl) (by kernel_rfl) (by kernel_rfl) (fun _ _ _ h => h) (by kernel_rfl) (by kernel_rfl) rfl (by kernel_rfl) ?_ ?_
          rotate_left
          · (intro w hSw; (try dsimp only at hSw); go_simp; try with_reducible rfl)
          try simp only [Act.put, List.getElem_toArray, List.getElem_cons_zero, List.getElem_cons_succ, List.setIfInBounds_toArray, List.set_cons_zero, List.set_cons_succ]
          refine timed_pure (i := 9) (v := ?_) rfl (by kernel_rfl) (by kernel_rfl) (by kernel_rfl) (fun _ _ _ h => h) (by kernel_rfl) (by kernel_rfl) ?_ ?_
          rotate_left
          · (intro w; go_simp; try with_reducible rfl)
          try simp only [Act.put, List.getElem_toArray, List.getElem_cons_zero, List.getElem_cons_succ, List.setIfInBounds_toArray, List.set_cons_zero, List.set_cons_succ]
          refine timed_step (i := 4) (by kernel_rfl) rfl (fun K hK => ?_)
          go_simp
          refine (tlevel_any _ _ _ _ _ TPe.T).mono ?_
          rintro e wq4 ⟨rfl, rfl⟩
          refine hK.out _ _ (timed_holds (hq1) (timed_holds (ha1) (timed_holds (hq0) (timed_nil)))) ?_
          clear hK K
          try simp only [Act.put, List.getElem_toArray, List.getElem_cons_zero, List.getElem_cons_succ, List.setIfInBounds_toArray, List.set_cons_zero, List.set_cons_succ]
          refine timed_pure (i := 10) (v := ?_) rfl (by kernel_rfl) (by kernel_rfl) (by kernel_rfl) (fun _ _ _ h => h) (by kernel_rfl) (by kernel_rfl) ?_ ?_
          rotate_left
          · (intro w; go_simp; try with_reducible rfl)
          try simp only [Act.put, List.getElem_toArray, List.getElem_cons_zero, List.getElem_cons_succ, List.setIfInBounds_toArray, List.set_cons_zero, List.set_cons_succ]
          refine timed_pure (i := 11) (v := ?_) rfl (by kernel_rfl) (by kernel_rfl) (by kernel_rfl) (fun _ _ _ h => h) (by kernel_rfl) (by kernel_rfl) ?_ ?_
          rotate_left
          · (intro w; go_simp; try with_reducible rfl)
          try simp only [Act.put, List.getElem_toArray, List.getElem_cons_zero, List.getElem_cons_succ, List.setIfInBounds_toArray, List.set_cons_zero, List.set_cons_succ]
          refine timed_pure (i := 12) (v := ?_) rfl (by kernel_rfl) (by kernel_rfl) (by kernel_rfl) (fun _ _ _ h => h) (by kernel_rfl) (by kernel_rfl) ?_ ?_
          rotate_left
          · (intro w; go_simp; try with_reducible rfl)
          try simp only [Act.put, List.getElem_toArray, List.getElem_cons_zero, List.getElem_cons_succ, List.setIfInBounds_toArray, List.set_cons_zero, List.set_cons_succ]
          refine timed_pure (i := 13) (v := ?_) rfl (by kernel_rfl) (by kernel_rfl) (by kernel_rfl) (fun _ _ _ h => h) (by kernel_rfl) (by kernel_rfl) ?_ ?_
          rotate_left
          · (intro w; go_simp; try with_reducible rfl)
          try simp only [Act.put, List.getElem_toArray, List.getElem_cons_zero, List.getElem_cons_succ, List.setIfInBounds_toArray, List.set_cons_zero, List.set_cons_succ]
          refine timed_pure (i := 14) (v := ?_) rfl (by kernel_rfl) (by kernel_rfl) (by kernel_rfl) (fun _ _ _ h => h) (by kernel_rfl) (by kernel_rfl) ?_ ?_
          rotate_left
          · (intro w; go_simp; try with_reducible rfl)
          try simp only [Act.put, List.getElem_toArray, List.getElem_cons_zero, List.getElem_cons_succ, List.setIfInBounds_toArray, List.set_cons_zero, List.set_cons_succ]
          refine timed_read (i := 15) (v := ?_) 1 rfl (by kernel_rfl) (by kernel_rfl) (by kernel_rfl) (fun _ _ _ h => h) (by kernel_rfl) (by kernel_rfl) rfl (by kernel_rfl) ?_ ?_
          rotate_left
          · (intro w hSw; (try dsimp only at hSw); go_simp; try with_reducible rfl)
          try simp only [Act.put, List.getElem_toArray, List.getElem_cons_zero, List.getElem_cons_succ, List.setIfInBounds_toArray, List.set_cons_zero, List.set_cons_succ]
          refine timed_pure (i := 17) (v := ?_) rfl (by kernel_rfl) (by kernel_rfl) (by kernel_rfl) (fun _ _ _ h => h) (by kernel_rfl) (by kernel_rfl) ?_ ?_
          rotate_left
          · (intro w; go_simp; try with_reducible rfl)
          try simp only [Act.put, List.getElem_toArray, List.getElem_cons_zero, List.getElem_cons_succ, List.setIfInBounds_toArray, List.set_cons_zero, List.set_cons_succ]
          refine timed_pure (i := 18) (v := ?_) rfl (by kernel_rfl) (by kernel_rfl) (by kernel_rfl) (fun _ _ _ h => h) (by kernel_rfl) (by kernel_rfl) ?_ ?_
          rotate_left
          · (intro w; go_simp; try with_reducible rfl)
          try simp only [Act.put, List.getElem_toArray, List.getElem_cons_zero, List.getElem_cons_succ, List.setIfInBounds_toArray, List.set_cons_zero, List.set_cons_succ]
          refine timed_read (i := 19) (v := ?_) 1 rfl (by kernel_rfl) (by kernel_rfl) (by kernel_rfl) (fun _ _ _ h => h) (by kernel_rfl) (by kernel_rfl) rfl (by kernel_rfl) ?_ ?_
          rotate_left
          · (intro w hSw; (try dsimp only at hSw); go_simp; try with_reducible rfl)
          try simp only [Act.put, List.getElem_toArray, List.getElem_cons_zero, List.getElem_cons_succ, List.setIfInBounds_toArray, List.set_cons_zero, List.set_cons_succ]
          refine timed_step (i := 16) (by kernel_rfl) rfl (fun K hK => ?_)
          go_simp
          refine (tget_any _ z1 _ _ _ _ TPe.T hnz).mono ?_
          rintro e wq5 ⟨rfl, rfl⟩
          refine hK.out _ _ (timed_holds (hq1) (timed_holds (ha1) (timed_holds (hq0) (timed_nil)))) ?_
          clear hK K
          try simp only [Act.put, List.getElem_toArray, List.getElem_cons_zero, List.getElem_cons_succ, List.setIfInBounds_toArray, List.set_cons_zero, List.set_cons_succ]
          refine timed_step (i := 20) (by kernel_rfl) rfl (fun K hK => ?_)
          go_simp
          refine (rget_any _ n z1 _ _ _ _ TPe.R (by omega)).mono ?_
          rintro e wq6 ⟨rfl, rfl⟩
          refine hK.out _ _ (timed_holds (hq1) (timed_holds (ha1) (timed_holds (hq0) (timed_nil)))) ?_
          clear hK K
          try simp only [Act.put, List.getElem_toArray, List.getElem_cons_zero, List.getElem_cons_succ, List.setIfInBounds_toArray, List.set_cons_zero, List.set_cons_succ]
          refine timed_pure (i := 21) (v := ?_) rfl (by kernel_rfl) (by kernel_rfl) (by kernel_rfl) (fun _ _ _ h => h) (by kernel_rfl) (by kernel_rfl) ?_ ?_
          rotate_left
          · (intro w; go_simp; try with_reducible rfl)
          try simp only [Act.put, List.getElem_toArray, List.getElem_cons_zero, List.getElem_cons_succ, List.setIfInBounds_toArray, List.set_cons_zero, List.set_cons_succ]
          refine timed_pure (i := 22) (v := ?_) rfl (by kernel_rfl) (by kernel_rfl) (by kernel_rfl) (fun _ _ _ h => h) (by kernel_rfl) (by kernel_rfl) ?_ ?_
          rotate_left
          · (intro w; go_simp; try with_reducible rfl)
          try simp only [Act.put, List.getElem_toArray, List.getElem_cons_zero, List.getElem_cons_succ, List.setIfInBounds_toArray, List.set_cons_zero, List.set_cons_succ]
          refine timed_pure (i := 23) (v := ?_) rfl (by kernel_rfl) (by kernel_rfl) (by kernel_rfl) (fun _ _ _ h => h) (by kernel_rfl) (by kernel_rfl) ?_ ?_
          rotate_left
          · (intro w; go_simp; try with_reducible rfl)
          try simp only [Act.put, List.getElem_toArray, List.getElem_cons_zero, List.getElem_cons_succ, List.setIfInBounds_toArray, List.set_cons_zero, List.set_cons_succ]
          refine timed_pure (i := 24) (v := ?_) rfl (by kernel_rfl) (by kernel_rfl) (by kernel_rfl) (fun _ _ _ h => h) (by kernel_rfl) (by kernel_rfl) ?_ ?_
          rotate_left
          · (intro w; go_simp; try with_reducible rfl)
          try simp only [Act.put, List.getElem_toArray, List.getElem_cons_zero, List.getElem_cons_succ, List.setIfInBounds_toArray, List.set_cons_zero, List.set_cons_succ]
          refine timed_pure (i := 26) (v := ?_) rfl (by kernel_rfl) (by kernel_rfl) (by kernel_rfl) (fun _ _ _ h => h) (by kernel_rfl) (by kernel_rfl) ?_ ?_
          rotate_left
          · (intro w; go_simp; try with_reducible rfl)
          try simp only [Act.put, List.getElem_toArray, List.getElem_cons_zero, List.getElem_cons_succ, List.setIfInBounds_toArray, List.set_cons_zero, List.set_cons_succ]
          refine timed_pure (i := 27) (v := ?_) rfl (by kernel_rfl) (by kernel_rfl) (by kernel_rfl) (fun _ _ _ h => h) (by kernel_rfl) (by kernel_rfl) ?_ ?_
          rotate_left
          · (intro w; go_simp; try with_reducible rfl)
          try simp only [Act.put, List.getElem_toArray, List.getElem_cons_zero, List.getElem_cons_succ, List.setIfInBounds_toArray, List.set_cons_zero, List.set_cons_succ]
          refine timed_pure (i := 28) (v := ?_) rfl (by kernel_rfl) (by kernel_rfl) (by kernel_rfl) (fun _ _ _ h => h) (by kernel_rfl) (by kernel_rfl) ?_ ?_
          rotate_left
          · (intro w; go_simp; try with_reducible rfl)
          try simp only [Act.put, List.getElem_toArray, List.getElem_cons_zero, List.getElem_cons_succ, List.setIfInBounds_toArray, List.set_cons_zero, List.set_cons_succ]
          refine timed_read (i := 29) (v := ?_) 2 rfl (by kernel_rfl) (by kernel_rfl) (by kernel_rfl) (fun _ _ _ h => h) (by kernel_rfl) (by kernel_rfl) rfl (by kernel_rfl) ?_ ?_
          rotate_left
          · (intro w hSw; (try dsimp only at hSw); go_simp; try with_reducible rfl)
          try simp only [Act.put, List.getElem_toArray, List.getElem_cons_zero, List.getElem_cons_succ, List.setIfInBounds_toArray, List.set_cons_zero, List.set_cons_succ]
          refine timed_step (i := 25) (by kernel_rfl) rfl (fun K hK => ?_)
          go_simp
          refine (TAe.out).mono ?_
          rintro e wy ⟨rfl, By, Oy⟩
          refine hK.out _ _ (timed_holds ((Oy.cell (p := ⟨w1.heap.size + 1, 1, none⟩) hqlt (by simp)).trans hq1) (timed_holds ((Oy.cell (p := ⟨ab, 1, none⟩) halt (by simp)).trans ha1) (timed_holds ((Oy.cell (p := ⟨w1.heap.size + 1, 0, none⟩) hqlt (by simp)).trans hq0) (timed_nil)))) ?_
          clear hK K
          try simp only [Act.put, List.getElem_toArray, List.getElem_cons_zero, List.getElem_cons_succ, List.setIfInBounds_toArray, List.set_cons_zero, List.set_cons_succ]
          refine timed_step (i := 30) (by kernel_rfl) rfl (fun K hK => ?_)
          go_simp
          have hrow2 : Row wy w6.heap.size AN (cl nowz) := HNr.out.only ((Only.refl [] w6).drew.trans Oy) (fun _ h => by cases h)
          refine (sameInts_any (some ⟨w6.heap.size, 0, none⟩) AN n n n cN nowz nowz wy _ _ (row_blk By) hrow2 HNl.out HNl.out (by omega) (by omega)).mono ?_
          rintro e wk ⟨rfl, kx, rfl⟩
          have hdd : decide (nowz = nowz) = true := by simp
          refine hK.out _ _ (timed_holds ((Oy.cell (p := ⟨w1.heap.size + 1, 1, none⟩) hqlt (by simp)).trans hq1) (timed_holds ((Oy.cell (p := ⟨ab, 1, none⟩) halt (by simp)).trans ha1) (timed_holds ((Oy.cell (p := ⟨w1.heap.size + 1, 0, none⟩) hqlt (by simp)).trans hq0) (timed_nil)))) ?_
          clear hK K
          try simp only [Act.put, List.getElem_toArray, List.getElem_cons_zero, List.getElem_cons_succ, List.setIfInBounds_toArray, List.set_cons_zero, List.set_cons_succ]
          refine timed_pure (i := 31) (v := ?_) rfl (by kernel_rfl) (by kernel_rfl) (by kernel_rfl) (fun _ _ _ h => h) (by kernel_rfl) (by kernel_rfl) ?_ ?_
          rotate_left
          · (intro w; go_simp; try with_reducible rfl)
          try simp only [Act.put, List.getElem_toArray, List.getElem_cons_zero, List.getElem_cons_succ, List.setIfInBounds_toArray, List.set_cons_zero, List.set_cons_succ]
          refine timed_pure (i := 32) (v := ?_) rfl (by kernel_rfl) (by kernel_rfl) (by kernel_rfl) (fun _ _ _ h => h) (by kernel_rfl) (by kernel_rfl) ?_ ?_
          rotate_left
          · (intro w; go_simp; try with_reducible rfl)
          try simp only [Act.put, List.getElem_toArray, List.getElem_cons_zero, List.getElem_cons_succ, List.setIfInBounds_toArray, List.set_cons_zero, List.set_cons_succ]
          refine timed_done (by kernel_rfl) ?_ _
          refine NoPanic.normal ?_
          have TPf := TPe.none_ (Oy.drewN kx)
          go_wp2
          go_roundw
          case rel => exact ⟨j + 1, nowz, savedz, fpz, fqz, by go_num, by omega, hsz, TPf⟩
          case measure => simp [intOf]; omega
    · have hTo := TPr.o
      by_cases hlt : j < m
      · have hge : 80 ≤ j := by omega
        clear hgo
        go_wp2_with fail
        refine (tworks _).mono ?_
        rintro e w9 ⟨rfl, O9⟩
        go_wp2
        go_ret
        exact ⟨rfl, hTo.trans O9⟩
      · have hge : m ≤ j := by omega
        clear hgo
        go_wp2_with fail
        refine (tworks _).mono ?_
        rintro e w9 ⟨rfl, O9⟩
        go_wp2
        go_ret
        exact ⟨rfl, hTo.trans O9⟩

end Go.Proofs.Ytggpbgbnefgebab
