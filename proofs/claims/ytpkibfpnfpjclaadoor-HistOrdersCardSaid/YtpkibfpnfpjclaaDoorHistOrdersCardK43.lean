/- Whether two lists of texts, or of ops, are the same: slices.Equal, the document's Texts and SameOps. -/
import Derived.Test.YtpkibfpnfpjclaaDoorHistOrdersCardK42
import Derived.Deep.QuietTactic
import Derived.BigQuiet
set_option linter.unusedVariables false
set_option linter.unusedSimpArgs false
namespace Go.Proofs.YtpkibfpnfpjclaaDoor
open Go.RowKit
open Go.Lib hiding intOf
attribute [local go_sem ↓] Go.wp_at_zero Go.wp_at_succ

attribute [local go_sem ↓] run_neq_op4
theorem textb_ne {x y : ByteArray} (h : ¬ x = y) : ¬ x.toList = y.toList := fun e => h (by
  rw [Lib.toList_data, Lib.toList_data] at e
  obtain ⟨⟨x⟩⟩ := x
  obtain ⟨⟨y⟩⟩ := y
  simpa using e)
theorem takeG_eq {α : Type} {xs ys : List α} {k : Nat} {x y : α} (h : xs.take k = ys.take k) (hx : xs[k]? = some x) (hy : ys[k]? = some y) : (xs.take (k + 1) = ys.take (k + 1)) ↔ x = y := by
  rw [List.take_add_one, List.take_add_one, hx, hy, h]
  simp

set_option maxHeartbeats 2000000 in
theorem eqstr_any (A A' : Option Addr) (n m c d : Nat) (xs ys : List ByteArray) (w : World) (B B' : Nat) (hA : Row w B A (strs xs)) (hA' : Row w B' A' (strs ys)) (hn : xs.length = n) (hm : ys.length = m) (hnm : n ≤ 1000000) (hmm : m ≤ 1000000) :
    Calls Tryd.prog 33 #[.slice A n c, .slice A' m d] w fun e w' => e = .returned (.bool (decide (xs = ys))) ∧ ∃ k, w.drewN k = w' := by
  have HA := Lib.hid hA
  have HA' := Lib.hid hA'
  have HN := Lib.hid hn
  have HM := Lib.hid hm
  clear hA hA' hn hm
  by_cases hlen : n = m
  · subst hlen
    go_enter Tryd.func33, Tryd.ntmps33
    go_wp2_with fail
    go_loopw [13] (fun i wr => ∃ k q : Nat, i = .int .i64 k ∧ k ≤ n ∧ Hid (xs.take k = ys.take k) ∧ Hid (wr = w.drewN q)) (fun i _ => n - (intOf i).toNat)
    case atStart => exact ⟨0, 0, rfl, by omega, rfl, rfl⟩
    case round =>
      obtain ⟨k, q, rfl, hk, hsame, hw⟩ := hrel
      have hxl := HN.out
      have hyl := HM.out
      by_cases hlt : k < n
      · obtain ⟨x, hx⟩ : ∃ x, xs[k]? = some x := ⟨_, List.getElem?_eq_getElem (by omega)⟩
        obtain ⟨y, hy⟩ : ∃ y, ys[k]? = some y := ⟨_, List.getElem?_eq_getElem (by omega)⟩
        have HX := Lib.hid hx
        have HY := Lib.hid hy
        obtain ⟨b, off, rfl, -, hbw, hc⟩ := HA.out.open_ (k := k) (by rw [strs, List.length_map, HN.out]; exact hlt)
        obtain ⟨b', off', rfl, -, hbw', hc'⟩ := HA'.out.open_ (k := k) (by rw [strs, List.length_map, HM.out]; exact hlt)
        have hcx : wr.cell? ⟨b, off + k, none⟩ = some (.string x) := by rw [hw.out]; exact hc k _ (by rw [strs, List.getElem?_map, hx]; rfl)
        have hcy : wr.cell? ⟨b', off' + k, none⟩ = some (.string y) := by rw [hw.out]; exact hc' k _ (by rw [strs, List.getElem?_map, hy]; rfl)
        clear hc hc' 
        have hk0 : (0 : Int) ≤ (k : Int) := Int.natCast_nonneg _
        have hk1 : (k : Int) < (n : Int) := by omega
        clear hx hy hxl hyl
        by_cases hxy : x = y
        · have hb : (x.toList == y.toList) = true := by simp [hxy]
          have HXY := Lib.hid hxy
          clear hxy
          go_wp2_with fail
          go_quiet (fail)
          go_wp2
          go_roundw
          case rel =>
            refine ⟨k + 1, q + nq, by go_num, by omega, (takeG_eq hsame.out HX.out HY.out).2 HXY.out, ?_⟩
            show _ = _
            rw [hw.out, World.drewN_drewN]
          case measure => simp [intOf]; omega
        · have hb := textb_ne hxy
          have hb2 : (x.toList == y.toList) = false := by simpa using hb
          clear hb
          have HXY := Lib.hid hxy
          clear hxy
          go_wp2_with fail
          go_quiet (fail)
          go_wp2
          go_ret
          refine ⟨?_, q + nq, ?_⟩
          · have : xs ≠ ys := fun e => HXY.out (by
              have h1 := HX.out
              have h2 := HY.out
              rw [e] at h1
              rw [h1] at h2
              exact Option.some.inj h2)
            simp [this]
          · rw [hw.out, World.drewN_drewN]
      · have hge : n ≤ k := by omega
        clear hxl hyl
        go_wp2
        go_ret
        refine ⟨?_, q, hw.out.symm⟩
        have h1 := hsame.out
        have h2 := HN.out
        have h3 := HM.out
        rw [List.take_of_length_le (by omega), List.take_of_length_le (by omega)] at h1
        simp [h1]
  · have hb : ((n : Int) != (m : Int)) = true := by simp; omega
    have hne : xs ≠ ys := fun e => hlen (by rw [← HN.out, ← HM.out, e])
    have HNE := Lib.hid hne
    clear hlen hne
    go_enter Tryd.func33, Tryd.ntmps33
    go_wp2
    go_ret
    exact ⟨by simp [HNE.out], 0, rfl⟩

set_option maxHeartbeats 2000000 in
theorem eqop_any (A A' : Option Addr) (n m c d : Nat) (xs ys : List Op4) (w : World) (B B' : Nat) (hA : Row w B A (opC xs)) (hA' : Row w B' A' (opC ys)) (hn : xs.length = n) (hm : ys.length = m) (hnm : n ≤ 1000000) (hmm : m ≤ 1000000) :
    Calls Tryd.prog 46 #[.slice A n c, .slice A' m d] w fun e w' => e = .returned (.bool (decide (xs = ys))) ∧ ∃ k, w.drewN k = w' := by
  have HA := Lib.hid hA
  have HA' := Lib.hid hA'
  have HN := Lib.hid hn
  have HM := Lib.hid hm
  clear hA hA' hn hm
  by_cases hlen : n = m
  · subst hlen
    go_enter Tryd.func46, Tryd.ntmps46
    go_wp2_with fail
    go_loopw [13] (fun i wr => ∃ k q : Nat, i = .int .i64 k ∧ k ≤ n ∧ Hid (xs.take k = ys.take k) ∧ Hid (wr = w.drewN q)) (fun i _ => n - (intOf i).toNat)
    case atStart => exact ⟨0, 0, rfl, by omega, rfl, rfl⟩
    case round =>
      obtain ⟨k, q, rfl, hk, hsame, hw⟩ := hrel
      have hxl := HN.out
      have hyl := HM.out
      by_cases hlt : k < n
      · obtain ⟨x, hx⟩ : ∃ x, xs[k]? = some x := ⟨_, List.getElem?_eq_getElem (by omega)⟩
        obtain ⟨y, hy⟩ : ∃ y, ys[k]? = some y := ⟨_, List.getElem?_eq_getElem (by omega)⟩
        have HX := Lib.hid hx
        have HY := Lib.hid hy
        obtain ⟨b, off, rfl, -, hbw, h1⟩ := row_op HA.out hx
        obtain ⟨b', off', rfl, -, hbw', h2⟩ := row_op HA'.out hy
        obtain ⟨a0, a1, a2, a3⟩ := (show OpAt wr b (off + k * 4) x by rw [hw.out]; exact h1.only ((Only.refl [] w).drewN q) hbw (by simp))
        obtain ⟨d0, d1, d2, d3⟩ := (show OpAt wr b' (off' + k * 4) y by rw [hw.out]; exact h2.only ((Only.refl [] w).drewN q) hbw' (by simp))
        obtain ⟨xw, xk, xv, xn⟩ := x
        obtain ⟨yw, yk, yv, yn⟩ := y
        dsimp only at a0 a1 a2 a3 d0 d1 d2 d3
        clear h1 h2
        have hk0 : (0 : Int) ≤ (k : Int) := Int.natCast_nonneg _
        have hk1 : (k : Int) < (n : Int) := by omega
        clear hx hy hxl hyl
        by_cases hxy : Op4.mk xw xk xv xn = Op4.mk yw yk yv yn
        · have hb : neqOp xw xk xv xn yw yk yv yn = false := by unfold neqOp; rw [decide_eq_true hxy]; rfl
          have HXY := Lib.hid hxy
          clear hxy
          go_wp2_with fail
          go_quiet (fail)
          go_wp2
          go_roundw
          case rel =>
            refine ⟨k + 1, q + nq, by go_num, by omega, (takeG_eq hsame.out HX.out HY.out).2 HXY.out, ?_⟩
            show _ = _
            rw [hw.out, World.drewN_drewN]
          case measure => simp [intOf]; omega
        · have hb : neqOp xw xk xv xn yw yk yv yn = true := by unfold neqOp; rw [decide_eq_false hxy]; rfl
          have HXY := Lib.hid hxy
          clear hxy
          go_wp2_with fail
          go_quiet (fail)
          go_wp2
          go_ret
          refine ⟨?_, q + nq, ?_⟩
          · have : xs ≠ ys := fun e => HXY.out (by
              have h1 := HX.out
              have h2 := HY.out
              rw [e] at h1
              rw [h1] at h2
              exact Option.some.inj h2)
            simp [this]
          · rw [hw.out, World.drewN_drewN]
      · have hge : n ≤ k := by omega
        clear hxl hyl
        go_wp2
        go_ret
        refine ⟨?_, q, hw.out.symm⟩
        have h1 := hsame.out
        have h2 := HN.out
        have h3 := HM.out
        rw [List.take_of_length_le (by omega), List.take_of_length_le (by omega)] at h1
        simp [h1]
  · have hb : ((n : Int) != (m : Int)) = true := by simp; omega
    have hne : xs ≠ ys := fun e => hlen (by rw [← HN.out, ← HM.out, e])
    have HNE := Lib.hid hne
    clear hlen hne
    go_enter Tryd.func46, Tryd.ntmps46
    go_wp2
    go_ret
    exact ⟨by simp [HNE.out], 0, rfl⟩

set_option maxHeartbeats 2000000 in
theorem rtexts_any (A A' : Option Addr) (n m c d : Nat) (xs ys : List ByteArray) (w : World) (B B' : Nat) (hA : Row w B A (strs xs)) (hA' : Row w B' A' (strs ys)) (hn : xs.length = n) (hm : ys.length = m) (hnm : n ≤ 1000000) (hmm : m ≤ 1000000) :
    Calls Tryd.prog 47 #[.slice A n c, .slice A' m d] w fun e w' => e = .returned (.bool (decide (xs = ys))) ∧ ∃ k, w.drewN k = w' := by
  have HA := Lib.hid hA
  have HA' := Lib.hid hA'
  have HN := Lib.hid hn
  have HM := Lib.hid hm
  clear hA hA' hn hm
  by_cases hlen : n = m
  · subst hlen
    go_enter Tryd.func47, Tryd.ntmps47
    go_wp2_with fail
    go_loopw [5] (fun i wr => ∃ k q : Nat, i = .int .i64 k ∧ k ≤ n ∧ Hid (xs.take k = ys.take k) ∧ Hid (wr = w.drewN q)) (fun i _ => n - (intOf i).toNat)
    case atStart => exact ⟨0, 0, rfl, by omega, rfl, rfl⟩
    case round =>
      obtain ⟨k, q, rfl, hk, hsame, hw⟩ := hrel
      have hxl := HN.out
      have hyl := HM.out
      by_cases hlt : k < n
      · obtain ⟨x, hx⟩ : ∃ x, xs[k]? = some x := ⟨_, List.getElem?_eq_getElem (by omega)⟩
        obtain ⟨y, hy⟩ : ∃ y, ys[k]? = some y := ⟨_, List.getElem?_eq_getElem (by omega)⟩
        have HX := Lib.hid hx
        have HY := Lib.hid hy
        obtain ⟨b, off, rfl, -, hbw, hc⟩ := HA.out.open_ (k := k) (by rw [strs, List.length_map, HN.out]; exact hlt)
        obtain ⟨b', off', rfl, -, hbw', hc'⟩ := HA'.out.open_ (k := k) (by rw [strs, List.length_map, HM.out]; exact hlt)
        have hcx : wr.cell? ⟨b, off + k, none⟩ = some (.string x) := by rw [hw.out]; exact hc k _ (by rw [strs, List.getElem?_map, hx]; rfl)
        have hcy : wr.cell? ⟨b', off' + k, none⟩ = some (.string y) := by rw [hw.out]; exact hc' k _ (by rw [strs, List.getElem?_map, hy]; rfl)
        clear hc hc' 
        have hk0 : (0 : Int) ≤ (k : Int) := Int.natCast_nonneg _
        have hk1 : (k : Int) < (n : Int) := by omega
        clear hx hy hxl hyl
        by_cases hxy : x = y
        · have hb : (x.toList == y.toList) = true := by simp [hxy]
          have HXY := Lib.hid hxy
          clear hxy
          go_wp2_with fail
          go_quiet (fail)
          go_wp2
          go_roundw
          case rel =>
            refine ⟨k + 1, q + nq, by go_num, by omega, (takeG_eq hsame.out HX.out HY.out).2 HXY.out, ?_⟩
            show _ = _
            rw [hw.out, World.drewN_drewN]
          case measure => simp [intOf]; omega
        · have hb := textb_ne hxy
          have hb2 : (x.toList == y.toList) = false := by simpa using hb
          clear hb
          have HXY := Lib.hid hxy
          clear hxy
          go_wp2_with fail
          go_quiet (fail)
          go_wp2
          go_ret
          refine ⟨?_, q + nq, ?_⟩
          · have : xs ≠ ys := fun e => HXY.out (by
              have h1 := HX.out
              have h2 := HY.out
              rw [e] at h1
              rw [h1] at h2
              exact Option.some.inj h2)
            simp [this]
          · rw [hw.out, World.drewN_drewN]
      · have hge : n ≤ k := by omega
        clear hxl hyl
        go_wp2
        go_ret
        refine ⟨?_, q, hw.out.symm⟩
        have h1 := hsame.out
        have h2 := HN.out
        have h3 := HM.out
        rw [List.take_of_length_le (by omega), List.take_of_length_le (by omega)] at h1
        simp [h1]
  · have hb : ((n : Int) != (m : Int)) = true := by simp; omega
    have hne : xs ≠ ys := fun e => hlen (by rw [← HN.out, ← HM.out, e])
    have HNE := Lib.hid hne
    clear hlen hne
    go_enter Tryd.func47, Tryd.ntmps47
    go_wp2
    go_ret
    exact ⟨by simp [HNE.out], 0, rfl⟩

set_option maxHeartbeats 2000000 in
theorem rsameops_any (A A' : Option Addr) (n m c d : Nat) (xs ys : List Op4) (w : World) (B B' : Nat) (hA : Row w B A (opC xs)) (hA' : Row w B' A' (opC ys)) (hn : xs.length = n) (hm : ys.length = m) (hnm : n ≤ 1000000) (hmm : m ≤ 1000000) :
    Calls Tryd.prog 48 #[.slice A n c, .slice A' m d] w fun e w' => e = .returned (.bool (decide (xs = ys))) ∧ ∃ k, w.drewN k = w' := by
  have HA := Lib.hid hA
  have HA' := Lib.hid hA'
  have HN := Lib.hid hn
  have HM := Lib.hid hm
  clear hA hA' hn hm
  by_cases hlen : n = m
  · subst hlen
    go_enter Tryd.func48, Tryd.ntmps48
    go_wp2_with fail
    go_loopw [5] (fun i wr => ∃ k q : Nat, i = .int .i64 k ∧ k ≤ n ∧ Hid (xs.take k = ys.take k) ∧ Hid (wr = w.drewN q)) (fun i _ => n - (intOf i).toNat)
    case atStart => exact ⟨0, 0, rfl, by omega, rfl, rfl⟩
    case round =>
      obtain ⟨k, q, rfl, hk, hsame, hw⟩ := hrel
      have hxl := HN.out
      have hyl := HM.out
      by_cases hlt : k < n
      · obtain ⟨x, hx⟩ : ∃ x, xs[k]? = some x := ⟨_, List.getElem?_eq_getElem (by omega)⟩
        obtain ⟨y, hy⟩ : ∃ y, ys[k]? = some y := ⟨_, List.getElem?_eq_getElem (by omega)⟩
        have HX := Lib.hid hx
        have HY := Lib.hid hy
        obtain ⟨b, off, rfl, -, hbw, h1⟩ := row_op HA.out hx
        obtain ⟨b', off', rfl, -, hbw', h2⟩ := row_op HA'.out hy
        obtain ⟨a0, a1, a2, a3⟩ := (show OpAt wr b (off + k * 4) x by rw [hw.out]; exact h1.only ((Only.refl [] w).drewN q) hbw (by simp))
        obtain ⟨d0, d1, d2, d3⟩ := (show OpAt wr b' (off' + k * 4) y by rw [hw.out]; exact h2.only ((Only.refl [] w).drewN q) hbw' (by simp))
        obtain ⟨xw, xk, xv, xn⟩ := x
        obtain ⟨yw, yk, yv, yn⟩ := y
        dsimp only at a0 a1 a2 a3 d0 d1 d2 d3
        clear h1 h2
        have hk0 : (0 : Int) ≤ (k : Int) := Int.natCast_nonneg _
        have hk1 : (k : Int) < (n : Int) := by omega
        clear hx hy hxl hyl
        by_cases hxy : Op4.mk xw xk xv xn = Op4.mk yw yk yv yn
        · have hb : neqOp xw xk xv xn yw yk yv yn = false := by unfold neqOp; rw [decide_eq_true hxy]; rfl
          have HXY := Lib.hid hxy
          clear hxy
          go_wp2_with fail
          go_quiet (fail)
          go_wp2
          go_roundw
          case rel =>
            refine ⟨k + 1, q + nq, by go_num, by omega, (takeG_eq hsame.out HX.out HY.out).2 HXY.out, ?_⟩
            show _ = _
            rw [hw.out, World.drewN_drewN]
          case measure => simp [intOf]; omega
        · have hb : neqOp xw xk xv xn yw yk yv yn = true := by unfold neqOp; rw [decide_eq_false hxy]; rfl
          have HXY := Lib.hid hxy
          clear hxy
          go_wp2_with fail
          go_quiet (fail)
          go_wp2
          go_ret
          refine ⟨?_, q + nq, ?_⟩
          · have : xs ≠ ys := fun e => HXY.out (by
              have h1 := HX.out
              have h2 := HY.out
              rw [e] at h1
              rw [h1] at h2
              exact Option.some.inj h2)
            simp [this]
          · rw [hw.out, World.drewN_drewN]
      · have hge : n ≤ k := by omega
        clear hxl hyl
        go_wp2
        go_ret
        refine ⟨?_, q, hw.out.symm⟩
        have h1 := hsame.out
        have h2 := HN.out
        have h3 := HM.out
        rw [List.take_of_length_le (by omega), List.take_of_length_le (by omega)] at h1
        simp [h1]
  · have hb : ((n : Int) != (m : Int)) = true := by simp; omega
    have hne : xs ≠ ys := fun e => hlen (by rw [← HN.out, ← HM.out, e])
    have HNE := Lib.hid hne
    clear hlen hne
    go_enter Tryd.func48, Tryd.ntmps48
    go_wp2
    go_ret
    exact ⟨by simp [HNE.out], 0, rfl⟩

end Go.Proofs.YtpkibfpnfpjclaaDoor
