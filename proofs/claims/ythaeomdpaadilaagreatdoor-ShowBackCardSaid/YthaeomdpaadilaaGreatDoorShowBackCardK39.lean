/- The chapter's example of layer 12; works. Ops compared in one step. Whether two lists of texts, or of ops, are the same: the document's Texts and SameOps. Whether two histories are the same. Contracts of the reference of layer 5. -/
import Derived.Test.YthaeomdpaadilaaGreatDoorShowBackCardK37
import Derived.Test.YthaeomdpaadilaaGreatDoorShowBackCardK2
import Derived.Laws.StructEq
import Derived.Deep.QuietTactic
import Derived.BigQuiet
import Derived.Test.YthaeomdpaadilaaGreatDoorShowBackCardK10
import Derived.Test.YthaeomdpaadilaaGreatDoorShowBackCardK8
set_option linter.unusedVariables false
set_option linter.unusedSimpArgs false
namespace Go.Proofs.YthaeomdpaadilaaGreatDoor
open Go.RowKit
open Go.Lib hiding intOf
attribute [local go_sem ↓] Go.wp_at_zero Go.wp_at_succ

def ex12 : ByteArray := ⟨#[98, 101, 103, 105, 110, 32, 115, 10, 98, 101, 103, 105, 110, 32, 116, 10, 111, 107, 32, 116, 10, 111, 107, 32, 115]⟩
def out12 : ByteArray := ⟨#[98, 101, 103, 105, 110, 32, 115, 10, 111, 107, 32, 115, 10, 98, 101, 103, 105, 110, 32, 116, 10, 111, 107, 32, 116, 10]⟩
def hist12 : Hst := ⟨[⟨#[115]⟩, ⟨#[116]⟩], [], [⟨0, 1, []⟩, ⟨1, 1, []⟩]⟩
def evs12 : List Ev6 := [⟨1, ⟨#[115]⟩, ⟨#[]⟩, 0, 0, 1⟩, ⟨1, ⟨#[116]⟩, ⟨#[]⟩, 0, 0, 2⟩, ⟨4, ⟨#[116]⟩, ⟨#[]⟩, 0, 0, 3⟩, ⟨4, ⟨#[115]⟩, ⟨#[]⟩, 0, 0, 4⟩]
theorem ex12_log : logParse ex12 = (evs12, 0, 0) := by kernel_rfl
theorem ex12_rows : (linesOf (by_ ex12)).all (fun x => decide (x.length ≤ 65535)) = true := by kernel_rfl
theorem ex12_h : pairH evs12 = hist12 := by kernel_rfl
theorem ex12_e : pairE evs12 = 0 := by kernel_rfl
theorem ex12_l : pairL evs12 = 0 := by kernel_rfl
theorem ex12_show : showR ex12 = (hist12, 0, 0) := by
  unfold showR
  rw [ex12_log]
  dsimp only
  rw [if_pos rfl, ex12_h, ex12_e, ex12_l]
theorem ex12_ev : evsH hist12 = [⟨1, ⟨#[115]⟩, ⟨#[]⟩, 0, 0, 1⟩, ⟨4, ⟨#[115]⟩, ⟨#[]⟩, 0, 0, 2⟩, ⟨1, ⟨#[116]⟩, ⟨#[]⟩, 0, 0, 3⟩, ⟨4, ⟨#[116]⟩, ⟨#[]⟩, 0, 0, 4⟩] := by kernel_rfl
theorem ex12_print : showP hist12 = (out12, 0) := by kernel_rfl
theorem ex12_small : HSmall hist12 where
  s := fun x hx => by
    simp [hist12] at hx
    rcases hx with rfl | rfl <;> decide
  k := fun x hx => by simp [hist12] at hx
  ns := by decide
  nk := by decide
  nl := by decide
  no := fun t ht => by
    simp [hist12] at ht
    rcases ht with rfl | rfl <;> simp

set_option maxRecDepth 10000 in
set_option maxHeartbeats 4000000 in
theorem works12_any (w : World) (hT : UTabs w) (hM : MLen w) (hV : Verbs w) :
    Calls Tryz.prog 12 #[] w fun e w' => e = .returned (.bool true) ∧ Only [] w w' := by
  have HP := Lib.hid (fun w' (O : Only [] w w') => sparse_any ex12 w' (by decide) (fun x hx => by simpa using List.all_eq_true.1 ex12_rows x hx) (by rw [ex12_log]; decide) (fun x hx => by
    rw [ex12_log] at hx
    simp [evs12] at hx
    rcases hx with rfl | rfl | rfl | rfl <;> exact ⟨by decide, by decide⟩) (hT.only O) (hM.only O) (hV.only O))
  have HPR := Lib.hid (fun (A0 A1 A2 : Option Addr) (c0 c1 c2 B : Nat) w' (hA : HAt w' B A0 A1 A2 hist12) (O : Only [] w w') => sprint_any A0 A1 A2 2 0 2 c0 c1 c2 B hist12 w' ⟨hA, rfl, rfl, rfl, ex12_small, hT.only O⟩ (fun _ x hx => by
    rw [ex12_ev] at hx
    simp at hx
    rcases hx with rfl | rfl | rfl | rfl <;> exact ⟨by decide, by decide, by decide, by decide⟩) (hV.only O))
  rw [ex12_show] at HP
  rw [ex12_print] at HPR
  unfold ex12 at HP
  unfold out12 hval at HPR
  clear hT hM hV
  go_enter Tryz.func12, Tryz.ntmps12
  go_wp2_with fail
  refine (HP.out _ (Only.refl [] w)).mono ?_
  rintro e w2 ⟨B0, B1, B2, d0, d1, d2, ⟨rfl, hA⟩, O2⟩
  have HA := Lib.hid hA
  have HO2 := Lib.hid O2
  clear hA O2 HP
  go_wp2_with fail
  have O3 : Only [] w2 (w2.alloc (.cells #[.slice B0 2 d0, .slice B1 0 d1, .slice B2 2 d2] 25)) := (Only.refl [] w2).alloc _
  refine (HPR.out B0 B1 B2 d0 d1 d2 _ _ (HA.out.only O3 (by simp)) (HO2.out.trans O3)).mono ?_
  rintro e w3 ⟨rfl, O4⟩
  have HO4 := Lib.hid ((HO2.out.trans O3).trans O4)
  clear O3 O4
  go_wp2
  go_ret
  exact ⟨rfl, HO4.out⟩
end Go.Proofs.YthaeomdpaadilaaGreatDoor

set_option linter.unusedVariables false
set_option linter.unusedSimpArgs false
namespace Go.Proofs.YthaeomdpaadilaaGreatDoor
open Go.RowKit

deriving instance DecidableEq for Op4, Tx, Hst
def neqOp (xw : Bool) (xk xv xn : Int) (yw : Bool) (yk yv yn : Int) : Bool := !(decide (Op4.mk xw xk xv xn = Op4.mk yw yk yv yn))
theorem run_neq_op4 (xw yw : Bool) (xk xv xn yk yv yn : Int) (w : World) :
    (binOp .neq 50 (.agg #[.bool xw, .int .i64 xk, .int .i64 xv, .int .i64 xn]) (.agg #[.bool yw, .int .i64 yk, .int .i64 yv, .int .i64 yn])).run Tryz.prog w = .ok (.bool (neqOp xw xk xv xn yw yk yv yn)) w := by
  unfold neqOp
  by_cases h0 : xw = yw
  · subst h0
    by_cases h1 : xk = yk
    · subst h1
      by_cases h2 : xv = yv
      · subst h2
        by_cases h3 : xn = yn
        · subst h3
          go_simp
        · have e : (xn == yn) = false := by simpa using h3
          rw [decide_eq_false (by simpa using h3)]
          go_simp
      · have e : (xv == yv) = false := by simpa using h2
        rw [decide_eq_false (by intro e; injection e; contradiction)]
        go_simp
    · have e : (xk == yk) = false := by simpa using h1
      rw [decide_eq_false (by intro e; injection e; contradiction)]
      go_simp
  · have e : (xw == yw) = false := by simpa using h0
    rw [decide_eq_false (by intro e; injection e; contradiction)]
    go_simp

end Go.Proofs.YthaeomdpaadilaaGreatDoor

set_option linter.unusedVariables false
set_option linter.unusedSimpArgs false
namespace Go.Proofs.YthaeomdpaadilaaGreatDoor
open Go.RowKit
open Go.Lib hiding intOf
attribute [local go_sem ↓] Go.wp_at_zero Go.wp_at_succ

attribute [local go_sem ↓] run_neq_op4
theorem textb_ne {x y : ByteArray} (h : ¬ x = y) : ¬ x.toList = y.toList := fun e => h (by
  rw [Lib.toList_data, Lib.toList_data] at e
  obtain ⟨⟨x⟩⟩ := x
  obtain ⟨⟨y⟩⟩ := y
  simpa using e)
theorem takeG_eq {α : Type} {xs ys : List α} {k : Nat} {x y : α} (h : xs.take k = ys.take k) (hx : xs[k]? = some x) (hy : ys[k]? = some y) : (xs.take (k + 1) = ys.take (k + 1)) ↔ x = y := by
  rw [List.take_add_one, List.take_add_one, hx, hy, h]
  simp

set_option maxHeartbeats 2000000 in
theorem rtexts_any (A A' : Option Addr) (n m c d : Nat) (xs ys : List ByteArray) (w : World) (B B' : Nat) (hA : Row w B A (strs xs)) (hA' : Row w B' A' (strs ys)) (hn : xs.length = n) (hm : ys.length = m) (hnm : n ≤ 1000000) (hmm : m ≤ 1000000) :
    Calls Tryz.prog 27 #[.slice A n c, .slice A' m d] w fun e w' => e = .returned (.bool (decide (xs = ys))) ∧ ∃ k, w.drewN k = w' := by
  have HA := Lib.hid hA
  have HA' := Lib.hid hA'
  have HN := Lib.hid hn
  have HM := Lib.hid hm
  clear hA hA' hn hm
  by_cases hlen : n = m
  · subst hlen
    go_enter Tryz.func27, Tryz.ntmps27
    go_wp2_with fail
    go_loopw [5] (fun i wr => ∃ k q : Nat, i = .int .i64 k ∧ k ≤ n ∧ Hid (xs.take k = ys.take k) ∧ Hid (wr = w.drewN q)) (fun i _ => n - (intOf i).toNat)
    case atStart => exact ⟨0, 0, rfl, by omega, rfl, rfl⟩
    case round =>
      obtain ⟨k, q, rfl, hk, hsame, hw⟩ := hrel
      have hxl := HN.out
      have hyl := HM.out
      by_cases hlt : k < n
      · obtain ⟨x, hx⟩ : ∃ x, xs[k]? = some x := ⟨_, List.getElem?_eq_getElem (by omega)⟩
        obtain ⟨y, hy⟩ : ∃ y, ys[k]? = some y := ⟨_, List.getElem?_eq_getElem (by omega)⟩
        have HX := Lib.hid hx
        have HY := Lib.hid hy
        obtain ⟨b, off, rfl, -, hbw, hc⟩ := HA.out.open_ (k := k) (by rw [strs, List.length_map, HN.out]; exact hlt)
        obtain ⟨b', off', rfl, -, hbw', hc'⟩ := HA'.out.open_ (k := k) (by rw [strs, List.length_map, HM.out]; exact hlt)
        have hcx : wr.cell? ⟨b, off + k, none⟩ = some (.string x) := by rw [hw.out]; exact hc k _ (by rw [strs, List.getElem?_map, hx]; rfl)
        have hcy : wr.cell? ⟨b', off' + k, none⟩ = some (.string y) := by rw [hw.out]; exact hc' k _ (by rw [strs, List.getElem?_map, hy]; rfl)
        clear hc hc' 
        have hk0 : (0 : Int) ≤ (k : Int) := Int.natCast_nonneg _
        have hk1 : (k : Int) < (n : Int) := by omega
        clear hx hy hxl hyl
        by_cases hxy : x = y
        · have hb : (x.toList == y.toList) = true := by simp [hxy]
          have HXY := Lib.hid hxy
          clear hxy
          go_wp2_with fail
          go_quiet (fail)
          go_wp2
          go_roundw
          case rel =>
            refine ⟨k + 1, q + nq, by go_num, by omega, (takeG_eq hsame.out HX.out HY.out).2 HXY.out, ?_⟩
            show _ = _
            rw [hw.out, World.drewN_drewN]
          case measure => simp [intOf]; omega
        · have hb := textb_ne hxy
          have hb2 : (x.toList == y.toList) = false := by simpa using hb
          clear hb
          have HXY := Lib.hid hxy
          clear hxy
          go_wp2_with fail
          go_quiet (fail)
          go_wp2
          go_ret
          refine ⟨?_, q + nq, ?_⟩
          · have : xs ≠ ys := fun e => HXY.out (by
              have h1 := HX.out
              have h2 := HY.out
              rw [e] at h1
              rw [h1] at h2
              exact Option.some.inj h2)
            simp [this]
          · rw [hw.out, World.drewN_drewN]
      · have hge : n ≤ k := by omega
        clear hxl hyl
        go_wp2
        go_ret
        refine ⟨?_, q, hw.out.symm⟩
        have h1 := hsame.out
        have h2 := HN.out
        have h3 := HM.out
        rw [List.take_of_length_le (by omega), List.take_of_length_le (by omega)] at h1
        simp [h1]
  · have hb : ((n : Int) != (m : Int)) = true := by simp; omega
    have hne : xs ≠ ys := fun e => hlen (by rw [← HN.out, ← HM.out, e])
    have HNE := Lib.hid hne
    clear hlen hne
    go_enter Tryz.func27, Tryz.ntmps27
    go_wp2
    go_ret
    exact ⟨by simp [HNE.out], 0, rfl⟩

set_option maxHeartbeats 2000000 in
theorem rsameops_any (A A' : Option Addr) (n m c d : Nat) (xs ys : List Op4) (w : World) (B B' : Nat) (hA : Row w B A (opC xs)) (hA' : Row w B' A' (opC ys)) (hn : xs.length = n) (hm : ys.length = m) (hnm : n ≤ 1000000) (hmm : m ≤ 1000000) :
    Calls Tryz.prog 28 #[.slice A n c, .slice A' m d] w fun e w' => e = .returned (.bool (decide (xs = ys))) ∧ ∃ k, w.drewN k = w' := by
  have HA := Lib.hid hA
  have HA' := Lib.hid hA'
  have HN := Lib.hid hn
  have HM := Lib.hid hm
  clear hA hA' hn hm
  by_cases hlen : n = m
  · subst hlen
    go_enter Tryz.func28, Tryz.ntmps28
    go_wp2_with fail
    go_loopw [5] (fun i wr => ∃ k q : Nat, i = .int .i64 k ∧ k ≤ n ∧ Hid (xs.take k = ys.take k) ∧ Hid (wr = w.drewN q)) (fun i _ => n - (intOf i).toNat)
    case atStart => exact ⟨0, 0, rfl, by omega, rfl, rfl⟩
    case round =>
      obtain ⟨k, q, rfl, hk, hsame, hw⟩ := hrel
      have hxl := HN.out
      have hyl := HM.out
      by_cases hlt : k < n
      · obtain ⟨x, hx⟩ : ∃ x, xs[k]? = some x := ⟨_, List.getElem?_eq_getElem (by omega)⟩
        obtain ⟨y, hy⟩ : ∃ y, ys[k]? = some y := ⟨_, List.getElem?_eq_getElem (by omega)⟩
        have HX := Lib.hid hx
        have HY := Lib.hid hy
        obtain ⟨b, off, rfl, -, hbw, h1⟩ := row_op HA.out hx
        obtain ⟨b', off', rfl, -, hbw', h2⟩ := row_op HA'.out hy
        obtain ⟨a0, a1, a2, a3⟩ := (show OpAt wr b (off + k * 4) x by rw [hw.out]; exact h1.only ((Only.refl [] w).drewN q) hbw (by simp))
        obtain ⟨d0, d1, d2, d3⟩ := (show OpAt wr b' (off' + k * 4) y by rw [hw.out]; exact h2.only ((Only.refl [] w).drewN q) hbw' (by simp))
        obtain ⟨xw, xk, xv, xn⟩ := x
        obtain ⟨yw, yk, yv, yn⟩ := y
        dsimp only at a0 a1 a2 a3 d0 d1 d2 d3
        clear h1 h2
        have hk0 : (0 : Int) ≤ (k : Int) := Int.natCast_nonneg _
        have hk1 : (k : Int) < (n : Int) := by omega
        clear hx hy hxl hyl
        by_cases hxy : Op4.mk xw xk xv xn = Op4.mk yw yk yv yn
        · have hb : neqOp xw xk xv xn yw yk yv yn = false := by unfold neqOp; rw [decide_eq_true hxy]; rfl
          have HXY := Lib.hid hxy
          clear hxy
          go_wp2_with fail
          go_quiet (fail)
          go_wp2
          go_roundw
          case rel =>
            refine ⟨k + 1, q + nq, by go_num, by omega, (takeG_eq hsame.out HX.out HY.out).2 HXY.out, ?_⟩
            show _ = _
            rw [hw.out, World.drewN_drewN]
          case measure => simp [intOf]; omega
        · have hb : neqOp xw xk xv xn yw yk yv yn = true := by unfold neqOp; rw [decide_eq_false hxy]; rfl
          have HXY := Lib.hid hxy
          clear hxy
          go_wp2_with fail
          go_quiet (fail)
          go_wp2
          go_ret
          refine ⟨?_, q + nq, ?_⟩
          · have : xs ≠ ys := fun e => HXY.out (by
              have h1 := HX.out
              have h2 := HY.out
              rw [e] at h1
              rw [h1] at h2
              exact Option.some.inj h2)
            simp [this]
          · rw [hw.out, World.drewN_drewN]
      · have hge : n ≤ k := by omega
        clear hxl hyl
        go_wp2
        go_ret
        refine ⟨?_, q, hw.out.symm⟩
        have h1 := hsame.out
        have h2 := HN.out
        have h3 := HM.out
        rw [List.take_of_length_le (by omega), List.take_of_length_le (by omega)] at h1
        simp [h1]
  · have hb : ((n : Int) != (m : Int)) = true := by simp; omega
    have hne : xs ≠ ys := fun e => hlen (by rw [← HN.out, ← HM.out, e])
    have HNE := Lib.hid hne
    clear hlen hne
    go_enter Tryz.func28, Tryz.ntmps28
    go_wp2
    go_ret
    exact ⟨by simp [HNE.out], 0, rfl⟩

end Go.Proofs.YthaeomdpaadilaaGreatDoor

set_option linter.unusedVariables false
set_option linter.unusedSimpArgs false
namespace Go.Proofs.YthaeomdpaadilaaGreatDoor
open Go.RowKit

def eqH (g h : Hst) : Bool := decide (g.ss = h.ss) && (decide (g.ks = h.ks) && decide (g.l = h.l))
def sameH (g h : Hst) : Bool := mayH g && (mayH h && eqH g h)

end Go.Proofs.YthaeomdpaadilaaGreatDoor

set_option linter.unusedVariables false
set_option linter.unusedSimpArgs false
namespace Go.Proofs.YthaeomdpaadilaaGreatDoor
open Go.RowKit

set_option maxHeartbeats 400000 in
theorem rmay_any (k n : Int) (w : World) : Calls Tryz.prog 55 #[.agg #[.int .i64 k, .int .i64 n]] w fun e w' => e = .returned (.bool (mayB k n)) ∧ Only [] w w' := by
  unfold mayB
  by_cases h1 : k = 1
  · subst h1
    go_enter Tryz.func55, Tryz.ntmps55
    go_wp2
    go_ret
    exact ⟨by simp, (Only.refl _ _).alloc _⟩
  · have h1' : (k == 1) = false := by simp [h1]
    have H1 := Lib.hid h1
    clear h1
    by_cases h0 : k = 0
    · subst h0
      go_enter Tryz.func55, Tryz.ntmps55
      go_wp2
      go_ret
      exact ⟨ret_boolv (by simp; try (rw [Bool.eq_iff_iff]; simp)), (Only.refl _ _).alloc _⟩
    · have h0' : (k == 0) = false := by simp [h0]
      have H0 := Lib.hid h0
      clear h0
      by_cases h2 : k = 2
      · subst h2
        go_enter Tryz.func55, Tryz.ntmps55
        go_wp2
        go_ret
        exact ⟨ret_boolv (by simp; try (rw [Bool.eq_iff_iff]; simp)), (Only.refl _ _).alloc _⟩
      · have h2' : (k == 2) = false := by simp [h2]
        have H2 := Lib.hid h2
        clear h2
        go_enter Tryz.func55, Tryz.ntmps55
        go_wp2
        go_ret
        exact ⟨ret_boolv (by simp [H0.out, H1.out, H2.out]), (Only.refl _ _).alloc _⟩

end Go.Proofs.YthaeomdpaadilaaGreatDoor
