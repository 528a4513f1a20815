/- slices.Compact at values: the walk. -/
import Derived.Test.YtclikdibpeiamabVCompact
set_option linter.unusedVariables false
set_option linter.unusedSimpArgs false
namespace Go.Proofs.Ytclikdibpeiamab
open Go.RowKit Go.Sort
open Go.Lib hiding intOf
attribute [local go_sem ↓] Go.wp_at_zero Go.wp_at_succ

theorem putRowK_below {B : Nat} {a w : World} {g : Nat} (q : Nat) (d : Array (Int × Int)) (hg : B ≤ g) (h : Below B a w) : Below B a (putRowK encP 2 (Sort.ahead w q) g 0 d) := by
  refine ⟨h.os, h.tape, h.output, ?_, fun j hj => ?_⟩
  · have := h.size
    rw [size_putRowK]
    exact this
  · show (w.heap.modify g _)[j]? = _
    rw [Array.getElem?_modify, if_neg (by omega)]
    exact h.block j hj
theorem setCells_below {B b : Nat} {a : World} (hb : B ≤ b) : ∀ (vs : List Value) (o : Nat) (w : World), Below B a w → Below B a (w.setCells b o vs)
  | [], _, _, h => h
  | v :: vs, o, w, h => by
    refine setCells_below hb vs (o + 1) _ ⟨h.os, h.tape, h.output, by simpa [World.setCell] using h.size, fun k hk => ?_⟩
    rw [Below.heap_setCell w _ v k (by show k ≠ b; omega)]
    exact h.block k hk

/-- What the row holds, up to there. -/
theorem row_of_low {w : World} {g : Nat} (l : List (Int × Int)) (hg : g < w.heap.size) (h : ∀ j, j < l.length → w.cell? ⟨g, j * 2, none⟩ = some (.int .i64 (l[j]!).1) ∧ w.cell? ⟨g, j * 2 + 1, none⟩ = some (.int .i64 (l[j]!).2)) : Row w w.heap.size (some ⟨g, 0, none⟩) (edgeC l) := by
  refine .inr ⟨g, 0, rfl, hg, Nat.le_refl _, fun t u hu => ?_⟩
  have ht : t < l.length * 2 := by rw [← edgeC_len]; exact (List.getElem?_eq_some_iff.1 hu).1
  have hj : t / 2 < l.length := by omega
  obtain ⟨h0, h1⟩ := h (t / 2) hj
  have hE := edgeC_get l (t / 2) (l[t / 2]!) (by rw [List.getElem?_eq_getElem hj, getElem!_pos l (t / 2) hj])
  rw [Nat.zero_add]
  rcases Nat.mod_two_eq_zero_or_one t with h2 | h2
  · have e : t / 2 * 2 = t := by omega
    rw [e] at h0 hE
    rw [h0]
    rw [hE.1] at hu
    exact hu
  · have e : t / 2 * 2 + 1 = t := by omega
    rw [e] at h1 hE
    rw [h1]
    rw [hE.2] at hu
    exact hu

set_option maxHeartbeats 4000000 in
set_option maxRecDepth 10000 in
theorem vcompact_own (w0 w : World) (g cap n : Nat) (d : Array (Int × Int)) (hl : d.size = n) (hN : n ≤ 1000) (hcap : n ≤ cap) (hH : HoldsK encP 2 w g 0 d) (hg : w0.heap.size ≤ g) (hlt : g < w.heap.size) (h0 : Below w0.heap.size w0 w) :
    Calls Try.prog 16 #[.slice (some ⟨g, 0, none⟩) n cap] w fun e w' => e = .returned (.slice (some ⟨g, 0, none⟩) (compactUpTo d n).length cap) ∧ Below w0.heap.size w0 w' ∧ Row w' w'.heap.size (some ⟨g, 0, none⟩) (edgeC (compactUpTo d n)) := by
  have HH := Lib.hid hH
  have HB := Lib.hid (fun q dk => putRowK_below (B := w0.heap.size) (a := w0) (w := w) (g := g) q dk hg h0)
  have hsame : ∀ q, (∀ j, j < n → keeps d j = true) → compactUpTo d n = d.toList ∧ Below w0.heap.size w0 (w.drewN q) ∧ Row (w.drewN q) (w.drewN q).heap.size (some ⟨g, 0, none⟩) (edgeC d.toList) := by
    intro q hall
    refine ⟨by rw [compactUpTo_all d _ hall, ← hl, range_map_get], ⟨h0.os, h0.tape, h0.output, h0.size, h0.block⟩, row_of_low d.toList hlt fun j hj => ?_⟩
    have hj' : j < d.size := by simpa using hj
    have h := cellsP hH hj'
    rw [getElem!_pos d j hj'] at h
    rw [getElem!_pos d.toList j hj]
    exact ⟨h.1, h.2.1⟩
  have HS := Lib.hid hsame
  have HL := Lib.hid hl
  clear hH hsame h0 hl
  by_cases h2 : n < 2
  · have hd1 : decide ((n : Int) < 2) = true := by simp; omega
    have hd2 : (n : Int) < 2 := by omega
    go_enter Try.func16, Try.ntmps16
    go_wp2
    go_ret
    obtain ⟨e1, e2, e3⟩ := HS.out 0 (fun j hj => keeps_lt_one d j (by omega))
    rw [e1]
    exact ⟨by rw [Array.length_toList, HL.out]; rfl, e2, e3⟩
  · have hd1 : decide ((n : Int) < 2) = false := by simp; omega
    have hd2 : ¬ (n : Int) < 2 := by omega
    go_enter Try.func16, Try.ntmps16
    go_wp2_with fail
    go_loopw [3] (fun s3 wr => ∃ k q : Nat, 1 ≤ k ∧ k ≤ n ∧ s3 = .int .i64 k ∧ Hid (wr = w.drewN q) ∧ Hid (∀ j, j < k → keeps d j = true)) (fun s3 _ => n - (intOf s3).toNat)
    case atStart => exact ⟨1, 0, Nat.le_refl _, by omega, rfl, rfl, keeps_lt_one d⟩
    case round =>
      obtain ⟨k, q, hk1, hk, rfl, hw, hall⟩ := hrel
      by_cases hlt1 : k < n
      · obtain ⟨c0, c1, -, -⟩ := cellsP HH.out (i := k) (by rw [HL.out]; exact hlt1)
        obtain ⟨p0, p1, -, -⟩ := cellsP HH.out (i := k - 1) (by rw [HL.out]; omega)
        obtain ⟨x, hx⟩ : ∃ x, x = d[k]! := ⟨_, rfl⟩
        obtain ⟨y, hy⟩ : ∃ y, y = d[k - 1]! := ⟨_, rfl⟩
        rw [← hx] at c0 c1
        rw [← hy] at p0 p1
        have HX := Lib.hid hx
        have HY := Lib.hid hy
        clear hx hy
        obtain ⟨x0, x1⟩ := x
        obtain ⟨y0, y1⟩ := y
        dsimp only at c0 c1 p0 p1
        have c0' : wr.cell? ⟨g, k * 2, none⟩ = some (.int .i64 x0) := by rw [hw.out]; exact c0
        have c1' : wr.cell? ⟨g, k * 2 + 1, none⟩ = some (.int .i64 x1) := by rw [hw.out]; exact c1
        have p0' : wr.cell? ⟨g, (k - 1) * 2, none⟩ = some (.int .i64 y0) := by rw [hw.out]; exact p0
        have p1' : wr.cell? ⟨g, (k - 1) * 2 + 1, none⟩ = some (.int .i64 y1) := by rw [hw.out]; exact p1
        clear c0 c1 p0 p1
        have hk0 : (0 : Int) ≤ (k : Int) := Int.natCast_nonneg _
        have hkn : (k : Int) < (n : Int) := by omega
        by_cases hdup : x0 = y0 ∧ x1 = y1
        · obtain ⟨rfl, rfl⟩ := hdup
          go_wp2_with fail
          go_quiet (fail)
          go_wp2
          clear c0' c1' p0' p1'
          obtain ⟨wo, hwo⟩ : ∃ wo : World, wo = wr := ⟨_, rfl⟩
          subst hwo
          go_loopw [3, 5] (fun s3 s5 wi => ∃ (kk k2 q2 : Nat) (dk : Array (Int × Int)), s3 = .int .i64 kk ∧ s5 = .int .i64 k2 ∧ 1 ≤ k2 ∧ k + k2 ≤ n ∧ Hid (wi = putRowK encP 2 (Sort.ahead w q2) g 0 dk) ∧ Hid (CompInv d (k + k2) kk dk)) (fun _ s5 _ => n - (intOf s5).toNat)
          case atStart =>
            refine ⟨k, 1, q + nq, d, rfl, rfl, Nat.le_refl _, by omega, ?_, CompInv.start hall.out (keeps_neg (by omega) (by rw [← HX.out, ← HY.out]))⟩
            show wo.drewN nq = _
            rw [putRowK_self encP 2 (Sort.ahead w (q + nq)) g 0 d (holdsK_ahead encP 2 w (q + nq) g 0 d HH.out), hw.out]
            exact World.drewN_drewN w q nq
          case round =>
            obtain ⟨kk, k2, q2, dk, rfl, rfl, h21, hle, hwi, hI⟩ := hrel
            have hkk := hI.out.lt
            have hds := hI.out.size
            rw [HL.out] at hds
            have hHk : HoldsK encP 2 wr g 0 dk := by rw [hwi.out]; exact holdsK_putRowK encP 2 _ g 0 d dk (holdsK_ahead encP 2 w q2 g 0 d HH.out) hI.out.size
            by_cases hlt2 : k + k2 < n
            · obtain ⟨m0, m1, -, -⟩ := cellsP hHk (i := k + k2) (by omega)
              obtain ⟨r0, r1, -, -⟩ := cellsP hHk (i := k + k2 - 1) (by omega)
              obtain ⟨s0, s1, f0, f1⟩ := cellsP hHk (i := kk) (by omega)
              rw [hI.out.high (k + k2) (by omega), show (k + k2) * 2 = k * 2 + k2 * 2 by omega] at m0 m1
              rw [hI.out.high (k + k2 - 1) (by omega), show (k + k2 - 1) * 2 = k * 2 + (k2 - 1) * 2 by omega] at r0 r1
              clear hHk
              obtain ⟨u, hu⟩ : ∃ u, u = d[k + k2]! := ⟨_, rfl⟩
              obtain ⟨v, hv⟩ : ∃ v, v = d[k + k2 - 1]! := ⟨_, rfl⟩
              rw [← hu] at m0 m1
              rw [← hv] at r0 r1
              generalize dk[kk]! = old at s0 s1
              have HU := Lib.hid hu
              have HV := Lib.hid hv
              clear hu hv
              obtain ⟨u0, u1⟩ := u
              obtain ⟨v0, v1⟩ := v
              dsimp only at m0 m1 r0 r1
              have hkk0 : (0 : Int) ≤ (kk : Int) := Int.natCast_nonneg _
              have hkkn : (kk : Int) < (n : Int) := by omega
              have hk20 : (0 : Int) ≤ (k2 : Int) := Int.natCast_nonneg _
              have hk2n : (k2 : Int) < ((n - k : Nat) : Int) := by omega
              have hk2b : k2 ≤ 1000 := by omega
              have hwk : IntKind.i64.wrap ((k2 : Int) - 1) = (k2 : Int) - 1 := IntWalk.i64_in _ (by omega)
              have hm1 : (0 : Int) ≤ (k2 : Int) - 1 := by omega
              have hm2 : (k2 : Int) - 1 < ((n - k : Nat) : Int) := by omega
              have hm3 : ((k2 : Int) - 1).toNat = k2 - 1 := by omega
              have hm4 : k2 ≤ n - k := by omega
              have hm5 : (k2 : Int) ≤ ((n - k : Nat) : Int) := by omega
              have hm6 : (1 : Int) ≤ (k2 : Int) := by omega
              have hm7 : k2 - 1 < n - k := by omega
              have hm8 : k2 < n - k := by omega
              by_cases huv : u0 = v0 ∧ u1 = v1
              · obtain ⟨rfl, rfl⟩ := huv
                go_wp2_with fail
                go_quiet (fail)
                go_wp2
                go_roundw
                case rel =>
                  refine ⟨kk, k2 + 1, q2 + nq, dk, rfl, by go_num, by omega, by omega, ?_, hI.out.skip (keeps_neg (by omega) (by rw [← HU.out, ← HV.out]))⟩
                  show wr.drewN nq = _
                  rw [hwi.out, putRowK_drewN]
                case measure => simp [intOf]; omega
              · have hcase : (u0 == v0) = false ∨ ((u0 == v0) = true ∧ (u1 == v1) = false) := by
                  by_cases e0 : u0 = v0
                  · exact .inr ⟨by simp [e0], by simp; exact fun e1 => huv ⟨e0, e1⟩⟩
                  · exact .inl (by simp [e0])
                have HNE := Lib.hid huv
                clear huv
                rcases hcase with hb0 | ⟨hb0, hb1⟩
                all_goals
                  go_wp2_with fail
                  go_quiet (fail)
                  go_wp2
                  go_roundw
                  case rel =>
                    refine ⟨kk + 1, k2 + 1, q2 + nq, dk.setIfInBounds kk (u0, u1), by go_num, by go_num, by omega, by omega, ?_, ?_⟩
                    · exact store_worldP (wr := wr.drewN nq) (by omega) (by rw [hwi.out, putRowK_drewN]) (u0, u1)
                    · have h := hI.out.keep (by rw [HL.out]; omega) (keeps_pos (by rw [← HU.out, ← HV.out]; intro h; exact HNE.out ⟨congrArg Prod.fst h, congrArg Prod.snd h⟩))
                      rw [← HU.out] at h
                      exact h
                  case measure => simp [intOf]; omega
            · have hend : k + k2 = n := by omega
              have hcl := fun ty => run_clear2 (P := Try.prog) wr 22 24 ty (.agg #[.int .i64 0, .int .i64 0]) (.int .i64 0) (.int .i64 0) Try.underlying22 (fun _ => by kernel_rfl) rfl rfl rfl g (kk * 2) (n - kk) (cap - kk) (by omega)
                (fun j hj => by
                  have h := (hHk (kk * 2 + j) (by rw [size_flatK]; omega)).1
                  rw [Nat.zero_add] at h
                  rw [h]; rfl)
                (fun j hj => by
                  have h := (hHk (kk * 2 + j) (by rw [size_flatK]; omega)).2
                  rw [Nat.zero_add] at h
                  exact h)
              have HHK := Lib.hid hHk
              clear hHk
              generalize (Builtin.zeroCells (Value.agg #[.int .i64 0, .int .i64 0]).cells (n - kk)).toList = vs at hcl
              have hcl1 := fun ty => (hcl ty).1
              clear hcl
              have hkk0 : (0 : Int) ≤ (kk : Int) := Int.natCast_nonneg _
              have hkkn : (kk : Int) ≤ (n : Int) := by omega
              have hkkc : kk ≤ cap := by omega
              go_wp2
              go_ret
              have hI2 := hI.out
              rw [hend] at hI2
              have hlen := hI2.len
              refine ⟨by rw [hlen]; rfl, setCells_below hg vs _ _ (by rw [hwi.out]; exact HB.out q2 dk), ?_⟩
              have hgw : g < (wr.setCells g (kk * 2) vs).heap.size := by
                rw [size_setCells, hwi.out, size_putRowK]
                exact hlt
              refine row_of_low _ hgw fun j hj => ?_
              rw [hlen] at hj
              have hc := cellsP HHK.out (i := j) (by omega)
              have hlow := hI2.low j hj
              have e : (compactUpTo d n)[j]! = dk[j]! := by rw [List.getElem!_eq_getElem?_getD, hlow]; rfl
              rw [e]
              rw [World.cell?_setCells_out g vs (kk * 2) wr ⟨g, j * 2, none⟩ (fun _ _ => .inl (by show j * 2 < kk * 2; omega)), World.cell?_setCells_out g vs (kk * 2) wr ⟨g, j * 2 + 1, none⟩ (fun _ _ => .inl (by show j * 2 + 1 < kk * 2; omega))]
              exact ⟨hc.1, hc.2.1⟩
        · have hcase : (x0 == y0) = false ∨ ((x0 == y0) = true ∧ (x1 == y1) = false) := by
            by_cases e0 : x0 = y0
            · exact .inr ⟨by simp [e0], by simp; exact fun e1 => hdup ⟨e0, e1⟩⟩
            · exact .inl (by simp [e0])
          have HNE := Lib.hid hdup
          clear hdup
          rcases hcase with hb0 | ⟨hb0, hb1⟩
          all_goals
            go_wp2_with fail
            go_quiet (fail)
            go_wp2
            go_roundw
            case rel =>
              refine ⟨k + 1, q + nq, by omega, by omega, by go_num, by show _ = _; rw [hw.out, World.drewN_drewN], fun j hj => ?_⟩
              by_cases e : j = k
              · subst e
                exact keeps_pos (by rw [← HX.out, ← HY.out]; intro h; exact HNE.out ⟨congrArg Prod.fst h, congrArg Prod.snd h⟩)
              · exact hall.out j (by omega)
            case measure => simp [intOf]; omega
      · have hkn : k = n := by omega
        subst hkn
        go_wp2
        go_ret
        obtain ⟨e1, e2, e3⟩ := HS.out q hall.out
        rw [e1, hw.out]
        exact ⟨by rw [Array.length_toList, HL.out]; rfl, e2, e3⟩

end Go.Proofs.Ytclikdibpeiamab
