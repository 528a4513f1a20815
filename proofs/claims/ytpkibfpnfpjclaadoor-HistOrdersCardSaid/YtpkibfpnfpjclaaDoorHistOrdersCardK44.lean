/- The package hist: like, slices.EqualFunc of transactions, Same. -/
import Derived.Test.YtpkibfpnfpjclaaDoorHistOrdersCardK43
import Derived.Test.YtpkibfpnfpjclaaDoorHistOrdersCardK28
set_option linter.unusedVariables false
set_option linter.unusedSimpArgs false
namespace Go.Proofs.YtpkibfpnfpjclaaDoor
open Go.RowKit
open Go.Lib hiding intOf
attribute [local go_sem ↓] Go.wp_at_zero Go.wp_at_succ

set_option maxHeartbeats 2000000 in
theorem like_any (s f s' f' : Int) (xs ys : List Op4) (A A' : Option Addr) (c c' B B' n m : Nat) (w : World) (hA : Row w B A (opC xs)) (hA' : Row w B' A' (opC ys)) (hn : xs.length = n) (hm : ys.length = m) (h1 : n ≤ 1000) (h2 : m ≤ 1000) :
    Calls Tryd.prog 35 #[.agg #[.int .i64 s, .int .i64 f, .slice A n c], .agg #[.int .i64 s', .int .i64 f', .slice A' m c']] w fun e w' => e = .returned (.bool (decide (Tx.mk s f xs = Tx.mk s' f' ys))) ∧ Only [] w w' := by
  have b0 := (Blk.made w 45 #[.int .i64 s, .int .i64 f, .slice A n c]).alloc (.cells #[.int .i64 s', .int .i64 f', .slice A' m c'] 45)
  have b1 := Blk.made (w.alloc (.cells #[.int .i64 s, .int .i64 f, .slice A n c] 45)) 45 #[.int .i64 s', .int .i64 f', .slice A' m c']
  have O1 := ((Only.refl [] w).alloc (.cells #[.int .i64 s, .int .i64 f, .slice A n c] 45)).alloc (.cells #[.int .i64 s', .int .i64 f', .slice A' m c'] 45)
  simp only [World.size_alloc] at b1
  have HL := Lib.hid (eqop_any A A' n m c c' xs ys _ B B' (hA.only O1 (by simp)) (hA'.only O1 (by simp)) hn hm (by omega) (by omega))
  have H1 := Lib.hid O1
  have l0 := b0.lt
  have l1 := b1.lt
  have x0 := b0.at_ 0
  have x1 := b0.at_ 1
  have x2 := b0.at_ 2
  have y0 := b1.at_ 0
  have y1 := b1.at_ 1
  have y2 := b1.at_ 2
  simp at x0 x1 x2 y0 y1 y2
  clear hA hA' hn hm b0 b1 O1
  by_cases hs : s = s'
  · subst hs
    by_cases hf : f = f'
    · subst hf
      have HE : Hid (decide (Tx.mk s f xs = Tx.mk s f ys) = decide (xs = ys)) := Lib.hid (by simp)
      rw [HE.out]
      generalize decide (xs = ys) = b at *
      go_enter Tryd.func35, Tryd.ntmps35
      go_wp2_with fail
      refine (HL.out).mono ?_
      rintro e w2 ⟨rfl, q, rfl⟩
      go_wp2
      go_ret
      exact ⟨rfl, H1.out.drewN q⟩
    · have HE : Hid (decide (Tx.mk s f xs = Tx.mk s f' ys) = false) := Lib.hid (decide_eq_false (by intro e; injection e; contradiction))
      rw [HE.out]
      have hb : (f == f') = false := by simpa using hf
      clear hf HL
      go_enter Tryd.func35, Tryd.ntmps35
      go_wp2
      go_ret
      exact ⟨rfl, H1.out⟩
  · have HE : Hid (decide (Tx.mk s f xs = Tx.mk s' f' ys) = false) := Lib.hid (decide_eq_false (by intro e; injection e; contradiction))
    rw [HE.out]
    have hb : (s == s') = false := by simpa using hs
    clear hs HL
    go_enter Tryd.func35, Tryd.ntmps35
    go_wp2
    go_ret
    exact ⟨rfl, H1.out⟩

set_option maxRecDepth 10000 in
set_option maxHeartbeats 4000000 in
theorem eqtx_any (A A' : Option Addr) (n m c d B B' : Nat) (xs ys : List Tx) (w : World) (hA : LRow w B A xs) (hA' : LRow w B' A' ys) (hn : xs.length = n) (hm : ys.length = m) (hnm : n ≤ 1000) (hmm : m ≤ 1000) (hno : ∀ t ∈ xs, t.ops.length ≤ 1000) (hno' : ∀ t ∈ ys, t.ops.length ≤ 1000) :
    Calls Tryd.prog 34 #[.slice A n c, .slice A' m d, .func (.func 35) #[] #[]] w fun e w' => e = .returned (.bool (decide (xs = ys))) ∧ Only [] w w' := by
  have HA := Lib.hid hA
  have HA' := Lib.hid hA'
  have HN := Lib.hid hn
  have HM := Lib.hid hm
  have HNO := Lib.hid hno
  have HNO' := Lib.hid hno'
  clear hA hA' hn hm hno hno'
  by_cases hlen : n = m
  · subst hlen
    go_enter Tryd.func34, Tryd.ntmps34
    go_wp2_with fail
    go_loopw [17] (fun i wr => ∃ k : Nat, i = .int .i64 k ∧ k ≤ n ∧ Hid (xs.take k = ys.take k) ∧ Hid (Only [] w wr)) (fun i _ => n - (intOf i).toNat)
    case atStart => exact ⟨0, rfl, by omega, Lib.hid rfl, Lib.hid (Only.refl [] w)⟩
    case round =>
      obtain ⟨k, rfl, hk, hsame, hO⟩ := hrel
      have hxl := HN.out
      have hyl := HM.out
      have hsz := hO.out.size
      by_cases hlt : k < n
      · obtain ⟨x, hx⟩ : ∃ x, xs[k]? = some x := ⟨_, List.getElem?_eq_getElem (by omega)⟩
        obtain ⟨y, hy⟩ : ∃ y, ys[k]? = some y := ⟨_, List.getElem?_eq_getElem (by omega)⟩
        have HX := Lib.hid hx
        have HY := Lib.hid hy
        have hn1 := HNO.out x (List.mem_of_getElem? hx)
        have hn2 := HNO'.out y (List.mem_of_getElem? hy)
        obtain ⟨b, off, Z, cz, rfl, -, hbw, hT, hOk⟩ := HA.out.at_ hx
        obtain ⟨b', off', Z', cz', rfl, -, hbw', hT', hOk'⟩ := HA'.out.at_ hy
        obtain ⟨s, f, ops⟩ := x
        obtain ⟨s', f', ops'⟩ := y
        have ht1 := hT.only hO.out hbw (by simp)
        have ht2 := hT'.only hO.out hbw' (by simp)
        obtain ⟨a0, a1, a2⟩ := ht1
        dsimp only at a0 a1 a2 hn1 hn2
        generalize hmo : ops.length = mo at *
        have hbr : b < wr.heap.size := by omega
        have hbr' : b' < wr.heap.size := by omega
        have HL := Lib.hid (fun w' (O : Only [] wr w') => like_any s f s' f' ops ops' Z Z' cz cz' B B' mo ops'.length w' (hOk.row.only (hO.out.trans O) (by simp)) (hOk'.row.only (hO.out.trans O) (by simp)) hmo rfl hn1 hn2)
        have HT2 := Lib.hid ht2
        have hk0 : (0 : Int) ≤ (k : Int) := Int.natCast_nonneg _
        have hk1 : (k : Int) < (n : Int) := by omega
        have hwk : IntKind.i64.wrap ((k : Int) + 1) = (k : Int) + 1 := IntWalk.i64_in _ (by omega)
        clear hx hy hxl hyl hT hT' hOk hOk' ht2 hmo
        go_upto_region 6 with (fail)
        have O2 : Only [] wr (wr.alloc (.cells #[.int .i64 s, .int .i64 f, .slice Z mo cz] 45)) := (Only.refl [] wr).alloc _
        have bT := Blk.made wr 45 #[.int .i64 s, .int .i64 f, .slice Z mo cz]
        obtain ⟨d0, d1, d2⟩ := HT2.out.only O2 (by omega) (by simp)
        dsimp only at d0 d1 d2
        generalize ops'.length = mo' at *
        have HB1 := Lib.hid bT
        have HO2 := Lib.hid O2
        have hbr2 : b' < (wr.alloc (.cells #[.int .i64 s, .int .i64 f, .slice Z mo cz] 45)).heap.size := by simp; omega
        clear a0 a1 a2 O2 bT HT2
        generalize (wr.alloc (.cells #[.int .i64 s, .int .i64 f, .slice Z mo cz] 45)) = w2 at *
        go_upto_region 7 with (fail)
        have O3 : Only [] wr (w2.alloc (.cells #[.int .i64 s', .int .i64 f', .slice Z' mo' cz'] 45)) := HO2.out.alloc _
        have bX := HB1.out.alloc (.cells #[.int .i64 s', .int .i64 f', .slice Z' mo' cz'] 45)
        have bY := Blk.made w2 45 #[.int .i64 s', .int .i64 f', .slice Z' mo' cz']
        have HO3 := Lib.hid O3
        clear d0 d1 d2 O3
        generalize (w2.alloc (.cells #[.int .i64 s', .int .i64 f', .slice Z' mo' cz'] 45)) = w3 at *
        generalize w2.heap.size = gy at *
        generalize wr.heap.size = gx at *
        have lX := bX.lt
        have lY := bY.lt
        have x0 := bX.at_ 0
        have x1 := bX.at_ 1
        have x2 := bX.at_ 2
        have y0 := bY.at_ 0
        have y1 := bY.at_ 1
        have y2 := bY.at_ 2
        simp at x0 x1 x2 y0 y1 y2
        clear bX bY
        have HF := Lib.hid (HL.out w3 HO3.out)
        by_cases hxy : Tx.mk s f ops = Tx.mk s' f' ops'
        · rw [decide_eq_true hxy] at HF
          have HXY := Lib.hid hxy
          clear hxy
          go_wp2_with fail
          refine (HF.out).mono ?_
          rintro e w4 ⟨rfl, O4⟩
          have HO4 := Lib.hid (hO.out.trans (HO3.out.trans O4))
          clear O4
          go_wp2
          go_roundw
          case rel => exact ⟨k + 1, by go_num, by omega, Lib.hid ((takeG_eq hsame.out HX.out HY.out).2 HXY.out), HO4⟩
          case measure => simp [intOf]; omega
        · rw [decide_eq_false hxy] at HF
          have HXY := Lib.hid hxy
          clear hxy
          go_wp2_with fail
          refine (HF.out).mono ?_
          rintro e w4 ⟨rfl, O4⟩
          have HO4 := Lib.hid (hO.out.trans (HO3.out.trans O4))
          clear O4
          go_wp2
          go_ret
          refine ⟨?_, HO4.out⟩
          have : xs ≠ ys := fun e => HXY.out (by
            have h1 := HX.out
            have h2 := HY.out
            rw [e] at h1
            rw [h1] at h2
            exact Option.some.inj h2)
          simp [this]
      · have hge : n ≤ k := by omega
        have hkn : k = n := by omega
        subst hkn
        have hd : decide ((k : Int) < (k : Int)) = false := by simp
        have HD : Hid (xs = ys) := Lib.hid (by
          have h1 := hsame.out
          rwa [List.take_of_length_le (by omega), List.take_of_length_le (by omega)] at h1)
        clear hxl hyl
        go_wp2
        go_ret
        exact ⟨by simp [HD.out], hO.out⟩
  · have hb : ((n : Int) != (m : Int)) = true := by simp; omega
    have hne : xs ≠ ys := fun e => hlen (by rw [← HN.out, ← HM.out, e])
    have HNE := Lib.hid hne
    clear hlen hne
    go_enter Tryd.func34, Tryd.ntmps34
    go_wp2
    go_ret
    exact ⟨by simp [HNE.out], Only.refl [] w⟩

end Go.Proofs.YtpkibfpnfpjclaaDoor
