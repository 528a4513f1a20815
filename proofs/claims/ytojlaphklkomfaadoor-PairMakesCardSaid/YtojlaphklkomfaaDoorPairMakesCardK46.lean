/- Parts. -/
import Derived.Laws.StructEq
import Derived.Test.YtojlaphklkomfaaDoorPairMakesCardK28
import Derived.Test.YtojlaphklkomfaaDoorPairMakesCardK34
import Derived.Test.YtojlaphklkomfaaDoorPairMakesCardK44
set_option maxRecDepth 10000
set_option maxHeartbeats 16000000
set_option linter.unusedVariables false
set_option linter.unusedSimpArgs false
namespace Go.Proofs.YtojlaphklkomfaaDoor
open Go.RowKit
deriving instance DecidableEq for Op4, Tx, Hst
def neqOp (xw : Bool) (xk xv xn : Int) (yw : Bool) (yk yv yn : Int) : Bool := !(decide (Op4.mk xw xk xv xn = Op4.mk yw yk yv yn))
theorem run_neq_op4 (xw yw : Bool) (xk xv xn yk yv yn : Int) (w : World) :
  (binOp .neq 62 (.agg #[.bool xw, .int .i64 xk, .int .i64 xv, .int .i64 xn]) (.agg #[.bool yw, .int .i64 yk, .int .i64 yv, .int .i64 yn])).run Tryd.prog w = .ok (.bool (neqOp xw xk xv xn yw yk yv yn)) w := by
 unfold neqOp
 by_cases h0 : xw = yw
 ·subst h0
  by_cases h1 : xk = yk
  ·subst h1
   by_cases h2 : xv = yv
   ·subst h2
    by_cases h3 : xn = yn
    ·subst h3;go_simp
    ·have e : (xn == yn) = false := by simpa using h3
     rw [decide_eq_false (by simpa using h3)];go_simp
   ·have e : (xv == yv) = false := by simpa using h2
    rw [decide_eq_false (by intro e; injection e; contradiction)];go_simp
  ·have e : (xk == yk) = false := by simpa using h1
   rw [decide_eq_false (by intro e; injection e; contradiction)];go_simp
 ·have e : (xw == yw) = false := by simpa using h0
  rw [decide_eq_false (by intro e; injection e; contradiction)];go_simp
open Go.Lib hiding intOf
attribute [local go_sem ↓] Go.wp_at_zero Go.wp_at_succ
attribute [local go_sem ↓] run_neq_op4
theorem rtexts_any (A A' : Option Addr) (n m c d : Nat) (xs ys : List ByteArray) (w : World) (B B' : Nat) (hA : Row w B A (strs xs)) (hA' : Row w B' A' (strs ys)) (hn : xs.length = n) (hm : ys.length = m) (hnm : n ≤ 1000000) (hmm : m ≤ 1000000) :
  Calls Tryd.prog 21 #[.slice A n c, .slice A' m d] w fun e w' => e = .returned (.bool (decide (xs = ys))) ∧ ∃ k, w.drewN k = w' := by
 have HA := Hd hA;have HA' := Hd hA';have HN := Hd hn;have HM := Hd hm;clear hA hA' hn hm
 by_cases hlen : n = m
 ·subst hlen;go_enter Tryd.func21, Tryd.ntmps21;go_wp2_with fail
  go_loopw [5] (fun i wr => ∃ k q : Nat, i = .int .i64 k ∧ k ≤ n ∧ Hid (xs.take k = ys.take k) ∧ Hid (wr = w.drewN q)) (fun i _ => n - (intOf i).toNat)
  case atStart => exact ⟨0, 0, rfl, by omega, rfl, rfl⟩
  case round =>
   obtain ⟨k, q, rfl, hk, hsame, hw⟩ := hrel;have hxl := HN.out;have hyl := HM.out
   by_cases hlt : k < n
   ·obtain ⟨x, hx⟩ : ∃ x, xs[k]? = some x := ⟨_, List.getElem?_eq_getElem (by omega)⟩;obtain ⟨y, hy⟩ : ∃ y, ys[k]? = some y := ⟨_, List.getElem?_eq_getElem (by omega)⟩;have HX := Hd hx;have HY := Hd hy;obtain ⟨b, off, rfl, -, hbw, hc⟩ := HA.out.open_ (k := k) (by rw [strs, List.length_map, HN.out]; exact hlt);obtain ⟨b', off', rfl, -, hbw', hc'⟩ := HA'.out.open_ (k := k) (by rw [strs, List.length_map, HM.out]; exact hlt);have hcx : wr.cell? ⟨b, off + k, none⟩ = some (.string x) := by rw [hw.out]; exact hc k _ (by rw [strs, List.getElem?_map, hx]; rfl)
    have hcy : wr.cell? ⟨b', off' + k, none⟩ = some (.string y) := by rw [hw.out]; exact hc' k _ (by rw [strs, List.getElem?_map, hy]; rfl)
    clear hc hc' ;have hk0 : (0 : Int) ≤ (k : Int) := Int.natCast_nonneg _;have hk1 : (k : Int) < (n : Int) := by omega
    clear hx hy hxl hyl
    by_cases hxy : x = y
    ·have hb : (x.toList == y.toList) = true := by simp [hxy]
     have HXY := Hd hxy;clear hxy;go_wp2_with fail
     go_quiet (fail)
     go_wp2
     go_roundw
     case rel =>
      refine ⟨k + 1, q + nq, by go_num, by omega, (takeG_eq hsame.out HX.out HY.out).2 HXY.out, ?_⟩
      show _ = _
      rw [hw.out, World.drewN_drewN]
     case measure => simp [intOf]; omega
    ·have hb := textb_ne hxy;have hb2 : (x.toList == y.toList) = false := by simpa using hb
     clear hb;have HXY := Hd hxy;clear hxy;go_wp2_with fail
     go_quiet (fail)
     go_wp2
     go_ret
     refine ⟨?_, q + nq, ?_⟩
     ·have : xs ≠ ys := fun e => HXY.out (by
       have h1 := HX.out;have h2 := HY.out;rw [e] at h1;rw [h1] at h2;exact Option.some.inj h2)
      simp [this]
     ·rw [hw.out, World.drewN_drewN]
   ·have hge : n ≤ k := by omega
    clear hxl hyl;go_wp2
    go_ret
    refine ⟨?_, q, hw.out.symm⟩;have h1 := hsame.out;have h2 := HN.out;have h3 := HM.out;rw [List.take_of_length_le (by omega), List.take_of_length_le (by omega)] at h1;simp [h1]
 ·have hb : ((n : Int) != (m : Int)) = true := by simp; omega
  have hne : xs ≠ ys := fun e => hlen (by rw [← HN.out, ← HM.out, e]);have HNE := Hd hne;clear hlen hne;go_enter Tryd.func21, Tryd.ntmps21;go_wp2
  go_ret
  exact ⟨by simp [HNE.out], 0, rfl⟩
theorem rsameops_any (A A' : Option Addr) (n m c d : Nat) (xs ys : List Op4) (w : World) (B B' : Nat) (hA : Row w B A (opC xs)) (hA' : Row w B' A' (opC ys)) (hn : xs.length = n) (hm : ys.length = m) (hnm : n ≤ 1000000) (hmm : m ≤ 1000000) :
  Calls Tryd.prog 22 #[.slice A n c, .slice A' m d] w fun e w' => e = .returned (.bool (decide (xs = ys))) ∧ ∃ k, w.drewN k = w' := by
 have HA := Hd hA;have HA' := Hd hA';have HN := Hd hn;have HM := Hd hm;clear hA hA' hn hm
 by_cases hlen : n = m
 ·subst hlen;go_enter Tryd.func22, Tryd.ntmps22;go_wp2_with fail
  go_loopw [5] (fun i wr => ∃ k q : Nat, i = .int .i64 k ∧ k ≤ n ∧ Hid (xs.take k = ys.take k) ∧ Hid (wr = w.drewN q)) (fun i _ => n - (intOf i).toNat)
  case atStart => exact ⟨0, 0, rfl, by omega, rfl, rfl⟩
  case round =>
   obtain ⟨k, q, rfl, hk, hsame, hw⟩ := hrel;have hxl := HN.out;have hyl := HM.out
   by_cases hlt : k < n
   ·obtain ⟨x, hx⟩ : ∃ x, xs[k]? = some x := ⟨_, List.getElem?_eq_getElem (by omega)⟩;obtain ⟨y, hy⟩ : ∃ y, ys[k]? = some y := ⟨_, List.getElem?_eq_getElem (by omega)⟩;have HX := Hd hx;have HY := Hd hy;obtain ⟨b, off, rfl, -, hbw, h1⟩ := row_op HA.out hx;obtain ⟨b', off', rfl, -, hbw', h2⟩ := row_op HA'.out hy;obtain ⟨a0, a1, a2, a3⟩ := (show OpAt wr b (off + k * 4) x by rw [hw.out]; exact h1.only ((Only.refl [] w).drewN q) hbw (by simp));obtain ⟨d0, d1, d2, d3⟩ := (show OpAt wr b' (off' + k * 4) y by rw [hw.out]; exact h2.only ((Only.refl [] w).drewN q) hbw' (by simp));obtain ⟨xw, xk, xv, xn⟩ := x;obtain ⟨yw, yk, yv, yn⟩ := y;dsimp only at a0 a1 a2 a3 d0 d1 d2 d3;clear h1 h2;have hk0 : (0 : Int) ≤ (k : Int) := Int.natCast_nonneg _;have hk1 : (k : Int) < (n : Int) := by omega
    clear hx hy hxl hyl
    by_cases hxy : Op4.mk xw xk xv xn = Op4.mk yw yk yv yn
    ·have hb : neqOp xw xk xv xn yw yk yv yn = false := by unfold neqOp; rw [decide_eq_true hxy]; rfl
     have HXY := Hd hxy;clear hxy;go_wp2_with fail
     go_quiet (fail)
     go_wp2
     go_roundw
     case rel =>
      refine ⟨k + 1, q + nq, by go_num, by omega, (takeG_eq hsame.out HX.out HY.out).2 HXY.out, ?_⟩
      show _ = _
      rw [hw.out, World.drewN_drewN]
     case measure => simp [intOf]; omega
    ·have hb : neqOp xw xk xv xn yw yk yv yn = true := by unfold neqOp; rw [decide_eq_false hxy]; rfl
     have HXY := Hd hxy;clear hxy;go_wp2_with fail
     go_quiet (fail)
     go_wp2
     go_ret
     refine ⟨?_, q + nq, ?_⟩
     ·have : xs ≠ ys := fun e => HXY.out (by
       have h1 := HX.out;have h2 := HY.out;rw [e] at h1;rw [h1] at h2;exact Option.some.inj h2)
      simp [this]
     ·rw [hw.out, World.drewN_drewN]
   ·have hge : n ≤ k := by omega
    clear hxl hyl;go_wp2
    go_ret
    refine ⟨?_, q, hw.out.symm⟩;have h1 := hsame.out;have h2 := HN.out;have h3 := HM.out;rw [List.take_of_length_le (by omega), List.take_of_length_le (by omega)] at h1;simp [h1]
 ·have hb : ((n : Int) != (m : Int)) = true := by simp; omega
  have hne : xs ≠ ys := fun e => hlen (by rw [← HN.out, ← HM.out, e]);have HNE := Hd hne;clear hlen hne;go_enter Tryd.func22, Tryd.ntmps22;go_wp2
  go_ret
  exact ⟨by simp [HNE.out], 0, rfl⟩
end Go.Proofs.YtojlaphklkomfaaDoor
namespace Go.Proofs.YtojlaphklkomfaaDoor
open Go.RowKit
open Go.Lib hiding intOf
attribute [local go_sem ↓] Go.wp_at_zero Go.wp_at_succ



structure HIn (w : World) (B : Nat) (A0 A1 A2 : Option Addr) (n0 n1 n2 : Nat) (h : Hst) : Prop where
 at_ : HAt w B A0 A1 A2 h
 n0 : h.ss.length = n0
 n1 : h.ks.length = n1
 n2 : h.l.length = n2
 sm : HSmall h
 u : UTabs w
theorem HIn.only {S : List Nat} {w w' : World} {B : Nat} {A0 A1 A2 : Option Addr} {n0 n1 n2 : Nat} {h : Hst} (g : HIn w B A0 A1 A2 n0 n1 n2 h) (ho : Only S w w') (hS : ∀ i ∈ S, B ≤ i) (hU : UTabs w') : HIn w' B A0 A1 A2 n0 n1 n2 h :=
 ⟨g.at_.only ho hS, g.n0, g.n1, g.n2, g.sm, hU⟩
theorem HIn.up {w : World} {B : Nat} {A0 A1 A2 : Option Addr} {n0 n1 n2 : Nat} {h : Hst} (g : HIn w B A0 A1 A2 n0 n1 n2 h) : HIn w w.heap.size A0 A1 A2 n0 n1 n2 h := ⟨g.at_.up, g.n0, g.n1, g.n2, g.sm, g.u⟩
theorem HIn.same {w w' : World} {B : Nat} {A0 A1 A2 : Option Addr} {n0 n1 n2 : Nat} {h : Hst} (g : HIn w B A0 A1 A2 n0 n1 n2 h) (ho : Only [] w w') : HIn w' B A0 A1 A2 n0 n1 n2 h :=
 g.only ho (fun _ h => by cases h) (g.u.only ho)
end Go.Proofs.YtojlaphklkomfaaDoor
namespace Go.Proofs.YtojlaphklkomfaaDoor
open Go.RowKit
def eqH (g h : Hst) : Bool := decide (g.ss = h.ss) && (decide (g.ks = h.ks) && decide (g.l = h.l))

open Go.Lib hiding intOf
attribute [local go_sem ↓] Go.wp_at_zero Go.wp_at_succ


end Go.Proofs.YtojlaphklkomfaaDoor
