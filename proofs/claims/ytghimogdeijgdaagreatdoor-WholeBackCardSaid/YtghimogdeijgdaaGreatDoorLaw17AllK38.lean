/- Parts. -/
import Derived.Test.YtghimogdeijgdaaGreatDoorLaw17AllK37
import Derived.Laws.StructEq
set_option maxRecDepth 10000
set_option maxHeartbeats 16000000
set_option linter.unusedVariables false
set_option linter.unusedSimpArgs false
namespace Go.Proofs.YtghimogdeijgdaaGreatDoor
def HAgg (w : World) (m0 m1 m2 : Nat) (G : Hst) (y : Value) : Prop := ∃ B D0 D1 D2 f0 f1 f2, y = .agg #[.slice D0 m0 f0, .slice D1 m1 f1, .slice D2 m2 f2] ∧ HIn w B D0 D1 D2 m0 m1 m2 G
theorem HAgg.same {w w' : World} {m0 m1 m2 : Nat} {G : Hst} {y : Value} (h : HAgg w m0 m1 m2 G y) (O : Only [] w w') : HAgg w' m0 m1 m2 G y := by
 obtain ⟨B, D0, D1, D2, f0, f1, f2, e, hI⟩ := h;exact ⟨B, D0, D1, D2, f0, f1, f2, e, hI.same O⟩
open Go.RowKit
open Go.Lib hiding intOf
structure WldA where
 x : Wld
 A : Option Addr
 ca : Nat
 A' : Option Addr
 cb : Nat
structure WAt (w : World) (B : Nat) (y : WldA) : Prop where
 c : w.ownsRow B 4 1 (.slice y.A y.x.c.length y.ca) y.x.c.length (y.x.c.map Value.bool)
 l : w.ownsRow B 53 2 (.slice y.A' y.x.l.length y.cb) y.x.l.length (edgeC y.x.l)
theorem WAt.same {w w' : World} {B : Nat} {y : WldA} (h : WAt w B y) (o : Only [] w w') : WAt w' B y := ⟨own_only h.c o (by simp), own_only h.l o (by simp)⟩
theorem WAt.blkS {w w' : World} {B g : Nat} {y : WldA} {cs : Array Value} (h : WAt w B y) (hb : Blk w g 29 cs) (o : Only [g] w w') : WAt w' B y :=
 ⟨owb h.c hb o, owb h.l hb o⟩
theorem WAt.own {w w' : World} {B B' n : Nat} {y : WldA} {v : Value} {xs : List Value} (h : WAt w B y) (hv : w.ownsRow B' 29 2 v n xs) (o : Only v.ownBlock.toList w w') : WAt w' B y :=
 ⟨own_only h.c o (own_two h.c hv (by decide)), own_only h.l o (own_two h.l hv (by decide))⟩
def WAgg (w : World) (B : Nat) (x : Wld) (y : Value) : Prop := ∃ A c A' c', y = .agg #[.slice A x.c.length c, .slice A' x.l.length c'] ∧ WAt w B ⟨x, A, c, A', c'⟩
theorem WAgg.same {w w' : World} {B : Nat} {x : Wld} {y : Value} (h : WAgg w B x y) (o : Only [] w w') : WAgg w' B x y := by
 obtain ⟨A, c, A', c', e, hw⟩ := h;exact ⟨A, c, A', c', e, hw.same o⟩
theorem own_caps {w : World} {B : Nat} {e : TypeId} {size n c m : Nat} {A : Option Addr} {xs : List Value} (h : w.ownsRow B e size (.slice A n c) m xs) : n ≤ c ∧ c ≤ maxLen := by
 rcases h.2 with ⟨e, -⟩ | ⟨g1, cp1, cu1, e, -, -, h1, h2, -⟩
 ·injection e with e1 e2 e3;omega
 ·injection e with e1 e2 e3;omega
theorem WAt.low {w : World} {B B' : Nat} {y : WldA} (h : WAt w B y) (hb : B' ≤ B) : WAt w B' y := ⟨own_low h.c hb, own_low h.l hb⟩
theorem fewworld_agg (Ac Al : Option Addr) (nc nl cc cl Bc Bl : Nat) (x : Wld) (w : World) (hc : Row w Bc Ac (x.c.map Value.bool)) (hl : Row w Bl Al (edgeC x.l)) (hcl : x.c.length = nc) (hll : x.l.length = nl) (hnc : nc ≤ maxLen) (hnl : nl ≤ maxLen) (hcc : nc ≤ cc) (hcl' : nl ≤ cl) :
  Calls Tryz.prog 7 #[.agg #[.slice Ac nc cc, .slice Al nl cl]] w fun e w' => ∃ y, (e = .returned y ∧ WAgg w' w.heap.size (fewW x) y) ∧ Only [] w w' := by
 refine (fewworld_any Ac Al nc nl cc cl Bc Bl x w hc hl hcl hll hnc hnl hcc hcl').mono ?_;rintro e w' ⟨A1, A2, e1, e2, ⟨rfl, h1, h2⟩, O⟩;exact ⟨_, ⟨rfl, A1, e1, A2, e2, rfl, ⟨h1, h2⟩⟩, O⟩
theorem fewworld_in (B : Nat) (x : Wld) (y : Value) (w : World) (h : WAgg w B x y) (hf : fewW x = x) :
  Calls Tryz.prog 7 #[y] w fun e w' => ∃ y', (e = .returned y' ∧ WAgg w' w.heap.size x y') ∧ Only [] w w' := by
 obtain ⟨A, c, A', c', rfl, hw⟩ := h;have h1 := own_caps hw.c;have h2 := own_caps hw.l;have := fewworld_agg A A' x.c.length x.l.length c c' _ _ x w (own_row_at hw.c).1 (own_row_at hw.l).1 rfl rfl (Nat.le_trans h1.1 h1.2) (Nat.le_trans h2.1 h2.2) h1.1 h2.1;rw [hf] at this;exact this
theorem HIn.pastW {w w' : World} {B : Nat} {A0 A1 A2 : Option Addr} {n0 n1 n2 : Nat} {h : Hst} {g : Nat} {t : TypeId} {a0 a1 : Option Addr} {k0 k1 e0 e1 : Nat} (hI : HIn w B A0 A1 A2 n0 n1 n2 h) (hb : Blk w g t #[.slice a0 k0 e0, .slice a1 k1 e1]) (ho : Only [g] w w') (hU : UTabs w') :
  HIn w' w'.heap.size A0 A1 A2 n0 n1 n2 h := by
 have key : ∀ (u : Value), (∀ a n c, u ≠ .slice a n c) → ∀ j : Nat, (#[Value.slice a0 k0 e0, .slice a1 k1 e1] : Array Value)[j]? ≠ some u := by
  intro u hu j hj
  match j with
  | 0 => simp at hj; exact hu _ _ _ hj.symm
  | 1 => simp at hj; exact hu _ _ _ hj.symm
  | j + 2 => simp at hj
 obtain ⟨⟨r0, r1, ⟨xs, hx, r2, hxs⟩⟩, q0, q1, q2, q3, -⟩ := hI;have ks : ∀ l : List ByteArray, ∀ u : Value, (strs l)[0]? = some u → ∀ a n c, u ≠ .slice a n c := by
  intro l u hu a n c e;subst e
  cases l <;> simp [strs] at hu
 refine ⟨⟨row_past r0 hb (fun u hu => key u (ks _ u hu)) ho, row_past r1 hb (fun u hu => key u (ks _ u hu)) ho, ⟨xs, hx, row_past r2 hb (fun u hu => key u ?_) ho, fun x hx => ⟨row_past (hxs x hx).row hb (fun u hu => key u ?_) ho, (hxs x hx).le, (hxs x hx).cap⟩⟩⟩, q0, q1, q2, q3, hU⟩
 ·intro a n c e;subst e
  cases xs <;> simp [txC, TxA.c] at hu
 ·intro a n c e;subst e
  cases hxo : x.t.ops with
  | nil => rw [hxo] at hu; simp [opC] at hu
  | cons y l => rw [hxo] at hu; simp [opC, Op4.c] at hu


/-! ### The program's answers of values that hold a history, or a world -/
section
variable {m0 m1 m2 : Nat} {G : Hst} {w : World} {y z : Value} {X : Wld} {Bz : Nat}
end
end Go.Proofs.YtghimogdeijgdaaGreatDoor
namespace Go.Proofs.YtghimogdeijgdaaGreatDoor
open Go.RowKit
deriving instance DecidableEq for Op4, Tx, Hst
def neqOp (xw : Bool) (xk xv xn : Int) (yw : Bool) (yk yv yn : Int) : Bool := !(decide (Op4.mk xw xk xv xn = Op4.mk yw yk yv yn))
theorem run_neq_op4 (xw yw : Bool) (xk xv xn yk yv yn : Int) (w : World) :
  (binOp .neq 55 (.agg #[.bool xw, .int .i64 xk, .int .i64 xv, .int .i64 xn]) (.agg #[.bool yw, .int .i64 yk, .int .i64 yv, .int .i64 yn])).run Tryz.prog w = .ok (.bool (neqOp xw xk xv xn yw yk yv yn)) w := by
 unfold neqOp
 by_cases h0 : xw = yw
 ·subst h0
  by_cases h1 : xk = yk
  ·subst h1
   by_cases h2 : xv = yv
   ·subst h2
    by_cases h3 : xn = yn
    ·subst h3;go_simp
    ·have e : (xn == yn) = false := by simpa using h3
     rw [decide_eq_false (by simpa using h3)];go_simp
   ·have e : (xv == yv) = false := by simpa using h2
    rw [decide_eq_false (by intro e; injection e; contradiction)];go_simp
  ·have e : (xk == yk) = false := by simpa using h1
   rw [decide_eq_false (by intro e; injection e; contradiction)];go_simp
 ·have e : (xw == yw) = false := by simpa using h0
  rw [decide_eq_false (by intro e; injection e; contradiction)];go_simp
end Go.Proofs.YtghimogdeijgdaaGreatDoor
namespace Go.Proofs.YtghimogdeijgdaaGreatDoor
theorem textb_ne {x y : ByteArray} (h : ¬ x = y) : ¬ x.toList = y.toList := fun e => h (by
 rw [Lib.toList_data, Lib.toList_data] at e;obtain ⟨⟨x⟩⟩ := x;obtain ⟨⟨y⟩⟩ := y
 simpa using e)
theorem takeG_eq {α : Type} {xs ys : List α} {k : Nat} {x y : α} (h : xs.take k = ys.take k) (hx : xs[k]? = some x) (hy : ys[k]? = some y) : (xs.take (k + 1) = ys.take (k + 1)) ↔ x = y := by
 rw [List.take_add_one, List.take_add_one, hx, hy, h];simp
open Go.RowKit
open Go.Lib hiding intOf
attribute [local go_sem ↓] Go.wp_at_zero Go.wp_at_succ
attribute [local go_sem ↓] run_neq_op4
theorem rtexts_any (A A' : Option Addr) (n m c d : Nat) (xs ys : List ByteArray) (w : World) (B B' : Nat) (hA : Row w B A (strs xs)) (hA' : Row w B' A' (strs ys)) (hn : xs.length = n) (hm : ys.length = m) (hnm : n ≤ 1000000) (hmm : m ≤ 1000000) :
  Calls Tryz.prog 28 #[.slice A n c, .slice A' m d] w fun e w' => e = .returned (.bool (decide (xs = ys))) ∧ ∃ k, w.drewN k = w' := by
 have HA := Hd hA;have HA' := Hd hA';have HN := Hd hn;have HM := Hd hm;clear hA hA' hn hm
 by_cases hlen : n = m
 ·subst hlen;go_enter Tryz.func28, Tryz.ntmps28;go_wp2_with fail
  go_loopw [5] (fun i wr => ∃ k q : Nat, i = .int .i64 k ∧ k ≤ n ∧ Hid (xs.take k = ys.take k) ∧ Hid (wr = w.drewN q)) (fun i _ => n - (intOf i).toNat)
  case atStart => exact ⟨0, 0, rfl, by omega, rfl, rfl⟩
  case round =>
   obtain ⟨k, q, rfl, hk, hsame, hw⟩ := hrel;have hxl := HN.out;have hyl := HM.out
   by_cases hlt : k < n
   ·obtain ⟨x, hx⟩ : ∃ x, xs[k]? = some x := ⟨_, List.getElem?_eq_getElem (by omega)⟩;obtain ⟨y, hy⟩ : ∃ y, ys[k]? = some y := ⟨_, List.getElem?_eq_getElem (by omega)⟩;have HX := Hd hx;have HY := Hd hy;obtain ⟨b, off, rfl, -, hbw, hc⟩ := HA.out.open_ (k := k) (by rw [strs, List.length_map, HN.out]; exact hlt);obtain ⟨b', off', rfl, -, hbw', hc'⟩ := HA'.out.open_ (k := k) (by rw [strs, List.length_map, HM.out]; exact hlt);have hcx : wr.cell? ⟨b, off + k, none⟩ = some (.string x) := by rw [hw.out]; exact hc k _ (by rw [strs, List.getElem?_map, hx]; rfl)
    have hcy : wr.cell? ⟨b', off' + k, none⟩ = some (.string y) := by rw [hw.out]; exact hc' k _ (by rw [strs, List.getElem?_map, hy]; rfl)
    clear hc hc' ;have hk0 : (0 : Int) ≤ (k : Int) := Int.natCast_nonneg _;have hk1 : (k : Int) < (n : Int) := by omega
    clear hx hy hxl hyl
    by_cases hxy : x = y
    ·have hb : (x.toList == y.toList) = true := by simp [hxy]
     have HXY := Hd hxy;clear hxy;go_wp2_with fail
     go_quiet (fail)
     go_wp2
     go_roundw
     case rel =>
      refine ⟨k + 1, q + nq, by go_num, by omega, (takeG_eq hsame.out HX.out HY.out).2 HXY.out, ?_⟩
      show _ = _
      rw [hw.out, World.drewN_drewN]
     case measure => simp [intOf]; omega
    ·have hb := textb_ne hxy;have hb2 : (x.toList == y.toList) = false := by simpa using hb
     clear hb;have HXY := Hd hxy;clear hxy;go_wp2_with fail
     go_quiet (fail)
     go_wp2
     go_ret
     refine ⟨?_, q + nq, ?_⟩
     ·have : xs ≠ ys := fun e => HXY.out (by
       have h1 := HX.out;have h2 := HY.out;rw [e] at h1;rw [h1] at h2;exact Option.some.inj h2)
      simp [this]
     ·rw [hw.out, World.drewN_drewN]
   ·have hge : n ≤ k := by omega
    clear hxl hyl;go_wp2
    go_ret
    refine ⟨?_, q, hw.out.symm⟩;have h1 := hsame.out;have h2 := HN.out;have h3 := HM.out;rw [List.take_of_length_le (by omega), List.take_of_length_le (by omega)] at h1;simp [h1]
 ·have hb : ((n : Int) != (m : Int)) = true := by simp; omega
  have hne : xs ≠ ys := fun e => hlen (by rw [← HN.out, ← HM.out, e]);have HNE := Hd hne;clear hlen hne;go_enter Tryz.func28, Tryz.ntmps28;go_wp2
  go_ret
  exact ⟨by simp [HNE.out], 0, rfl⟩
theorem rsameops_any (A A' : Option Addr) (n m c d : Nat) (xs ys : List Op4) (w : World) (B B' : Nat) (hA : Row w B A (opC xs)) (hA' : Row w B' A' (opC ys)) (hn : xs.length = n) (hm : ys.length = m) (hnm : n ≤ 1000000) (hmm : m ≤ 1000000) :
  Calls Tryz.prog 29 #[.slice A n c, .slice A' m d] w fun e w' => e = .returned (.bool (decide (xs = ys))) ∧ ∃ k, w.drewN k = w' := by
 have HA := Hd hA;have HA' := Hd hA';have HN := Hd hn;have HM := Hd hm;clear hA hA' hn hm
 by_cases hlen : n = m
 ·subst hlen;go_enter Tryz.func29, Tryz.ntmps29;go_wp2_with fail
  go_loopw [5] (fun i wr => ∃ k q : Nat, i = .int .i64 k ∧ k ≤ n ∧ Hid (xs.take k = ys.take k) ∧ Hid (wr = w.drewN q)) (fun i _ => n - (intOf i).toNat)
  case atStart => exact ⟨0, 0, rfl, by omega, rfl, rfl⟩
  case round =>
   obtain ⟨k, q, rfl, hk, hsame, hw⟩ := hrel;have hxl := HN.out;have hyl := HM.out
   by_cases hlt : k < n
   ·obtain ⟨x, hx⟩ : ∃ x, xs[k]? = some x := ⟨_, List.getElem?_eq_getElem (by omega)⟩;obtain ⟨y, hy⟩ : ∃ y, ys[k]? = some y := ⟨_, List.getElem?_eq_getElem (by omega)⟩;have HX := Hd hx;have HY := Hd hy;obtain ⟨b, off, rfl, -, hbw, h1⟩ := row_op HA.out hx;obtain ⟨b', off', rfl, -, hbw', h2⟩ := row_op HA'.out hy;obtain ⟨a0, a1, a2, a3⟩ := (show OpAt wr b (off + k * 4) x by rw [hw.out]; exact h1.only ((Only.refl [] w).drewN q) hbw (by simp));obtain ⟨d0, d1, d2, d3⟩ := (show OpAt wr b' (off' + k * 4) y by rw [hw.out]; exact h2.only ((Only.refl [] w).drewN q) hbw' (by simp));obtain ⟨xw, xk, xv, xn⟩ := x;obtain ⟨yw, yk, yv, yn⟩ := y;dsimp only at a0 a1 a2 a3 d0 d1 d2 d3;clear h1 h2;have hk0 : (0 : Int) ≤ (k : Int) := Int.natCast_nonneg _;have hk1 : (k : Int) < (n : Int) := by omega
    clear hx hy hxl hyl
    by_cases hxy : Op4.mk xw xk xv xn = Op4.mk yw yk yv yn
    ·have hb : neqOp xw xk xv xn yw yk yv yn = false := by unfold neqOp; rw [decide_eq_true hxy]; rfl
     have HXY := Hd hxy;clear hxy;go_wp2_with fail
     go_quiet (fail)
     go_wp2
     go_roundw
     case rel =>
      refine ⟨k + 1, q + nq, by go_num, by omega, (takeG_eq hsame.out HX.out HY.out).2 HXY.out, ?_⟩
      show _ = _
      rw [hw.out, World.drewN_drewN]
     case measure => simp [intOf]; omega
    ·have hb : neqOp xw xk xv xn yw yk yv yn = true := by unfold neqOp; rw [decide_eq_false hxy]; rfl
     have HXY := Hd hxy;clear hxy;go_wp2_with fail
     go_quiet (fail)
     go_wp2
     go_ret
     refine ⟨?_, q + nq, ?_⟩
     ·have : xs ≠ ys := fun e => HXY.out (by
       have h1 := HX.out;have h2 := HY.out;rw [e] at h1;rw [h1] at h2;exact Option.some.inj h2)
      simp [this]
     ·rw [hw.out, World.drewN_drewN]
   ·have hge : n ≤ k := by omega
    clear hxl hyl;go_wp2
    go_ret
    refine ⟨?_, q, hw.out.symm⟩;have h1 := hsame.out;have h2 := HN.out;have h3 := HM.out;rw [List.take_of_length_le (by omega), List.take_of_length_le (by omega)] at h1;simp [h1]
 ·have hb : ((n : Int) != (m : Int)) = true := by simp; omega
  have hne : xs ≠ ys := fun e => hlen (by rw [← HN.out, ← HM.out, e]);have HNE := Hd hne;clear hlen hne;go_enter Tryz.func29, Tryz.ntmps29;go_wp2
  go_ret
  exact ⟨by simp [HNE.out], 0, rfl⟩
end Go.Proofs.YtghimogdeijgdaaGreatDoor
namespace Go.Proofs.YtghimogdeijgdaaGreatDoor
open Go.RowKit
def eqH (g h : Hst) : Bool := decide (g.ss = h.ss) && (decide (g.ks = h.ks) && decide (g.l = h.l))
open Go.Lib hiding intOf
abbrev Fr := List (Nat × TypeId × Array Value)
structure WS (w wr : World) (gr g6 : Nat) (c : List Bool) (l : List V2) (V1 V2 : Value) (F : Fr) : Prop where
 o : Only [] w wr
 br : Blk wr gr 29 #[.slice none 0 0, .slice none 0 0]
 bw : Blk wr g6 29 #[V1, V2]
 c : wr.ownsRow w.heap.size 4 1 V1 c.length (c.map Value.bool)
 l : wr.ownsRow w.heap.size 53 2 V2 l.length (edgeC l)
 ne : gr < g6
 b : w.heap.size ≤ gr
 f : ∀ b ∈ F, Blk wr b.1 b.2.1 b.2.2
 ft : ∀ b ∈ F, b.2.1 ≠ 4 ∧ b.2.1 ≠ 53 ∧ b.2.1 ≠ 29
section
variable {w wr w' : World} {gr g6 : Nat} {c : List Bool} {l : List V2} {V1 V2 : Value} {F : Fr}
theorem WS.same (h : WS w wr gr g6 c l V1 V2 F) (O : Only [] wr w') : WS w w' gr g6 c l V1 V2 F :=
 ⟨h.o.trans O, O.blk h.br (by simp), O.blk h.bw (by simp), own_only h.c O (by simp), own_only h.l O (by simp), h.ne, h.b, fun b hb => O.blk (h.f b hb) (by simp), h.ft⟩
theorem WS.less {F' : Fr} (h : WS w wr gr g6 c l V1 V2 F) (hF : ∀ b ∈ F', b ∈ F) : WS w wr gr g6 c l V1 V2 F' :=
 ⟨h.o, h.br, h.bw, h.c, h.l, h.ne, h.b, fun b hb => h.f b (hF b hb), fun b hb => h.ft b (hF b hb)⟩
theorem WS.alloc (h : WS w wr gr g6 c l V1 V2 F) (t : TypeId) (cs : Array Value) (ht : t ≠ 4 ∧ t ≠ 53 ∧ t ≠ 29) : WS w (wr.alloc (.cells cs t)) gr g6 c l V1 V2 ((wr.heap.size, t, cs) :: F) := by
 have h1 := h.same ((Only.refl [] wr).alloc (.cells cs t));refine ⟨h1.o, h1.br, h1.bw, h1.c, h1.l, h1.ne, h1.b, fun b hb => ?_, fun b hb => ?_⟩
 ·rcases List.mem_cons.1 hb with rfl | hb
  ·exact Blk.made wr t cs
  ·exact h1.f b hb
 ·rcases List.mem_cons.1 hb with rfl | hb
  ·exact ht
  ·exact h1.ft b hb
theorem WS.midC {wm : World} (h : WS w wr gr g6 c l V1 V2 F) (OA : Only [] wr wm) (hgrow : wm.grownBy w' V1.ownBlock) : Blk w' g6 29 #[V1, V2] :=
 have h1 := h.same OA
 (only_grown hgrow).blk h1.bw (own_apart h1.c h1.bw (by decide))
theorem WS.addC {b : Bool} {v' : Value} {wm : World} (h : WS w wr gr g6 c l V1 V2 F) (OA : Only [] wr wm) (hgrow : wm.grownBy w' V1.ownBlock) (hown : w'.ownsRow w.heap.size 4 1 v' (c.length + 1) (c.map Value.bool ++ [.bool b])) :
  WS w (w'.setCell ⟨g6, 0, none⟩ v') gr g6 (c ++ [b]) l v' V2 F := by
 have h1 := h.same OA;have OG : Only V1.ownBlock.toList wm w' := only_grown hgrow;have hbw := OG.blk h1.bw (own_apart h1.c h1.bw (by decide));have OP : Only [g6] w' (w'.setCell ⟨g6, 0, none⟩ v') := (Only.refl [g6] w').put (p := ⟨g6, 0, none⟩) (fun _ => by simp) v';have hl := own_only h1.l OG (own_two h1.l h1.c (by decide));have hg := h.ne;have hb := h.b;refine ⟨(h1.o.step OG (fun i hi hl => by have := (h1.c.lt i (by simpa using hi)).1; omega)).step OP (fun i hi hl => by simp at hi; omega), (OG.blk h1.br (own_apart h1.c h1.br (by decide))).far (p := ⟨g6, 0, none⟩) (by show gr ≠ g6; omega) v', hbw.put 0 v', ?_, own_only hl OP (fun g e hm => by simp at hm; subst hm; exact own_apart hl hbw (by decide) (by rw [e]; simp)), hg, hb, fun x hx => ?_, h.ft⟩
 ·have := own_only hown OP (fun g e hm => by simp at hm; subst hm; exact own_apart hown hbw (by decide) (by rw [e]; simp))
  simpa using this
 ·have h3 := OG.blk (h1.f x hx) (own_apart h1.c (h1.f x hx) (Ne.symm (h.ft x hx).1));exact h3.far (p := ⟨g6, 0, none⟩) (h3.apart hbw (h.ft x hx).2.2) v'
theorem WS.midL {wm : World} (h : WS w wr gr g6 c l V1 V2 F) (OA : Only [] wr wm) (hgrow : wm.grownBy w' V2.ownBlock) : Blk w' g6 29 #[V1, V2] :=
 have h1 := h.same OA
 (only_grown hgrow).blk h1.bw (own_apart h1.l h1.bw (by decide))
theorem WS.addL {a b : Int} {v' : Value} {wm : World} (h : WS w wr gr g6 c l V1 V2 F) (OA : Only [] wr wm) (hgrow : wm.grownBy w' V2.ownBlock) (hown : w'.ownsRow w.heap.size 53 2 v' (l.length + 1) (edgeC l ++ [.int .i64 a, .int .i64 b])) :
  WS w (w'.setCell ⟨g6, 1, none⟩ v') gr g6 c (l ++ [(a, b)]) V1 v' F := by
 have h1 := h.same OA;have OG : Only V2.ownBlock.toList wm w' := only_grown hgrow;have hbw := OG.blk h1.bw (own_apart h1.l h1.bw (by decide));have OP : Only [g6] w' (w'.setCell ⟨g6, 1, none⟩ v') := (Only.refl [g6] w').put (p := ⟨g6, 1, none⟩) (fun _ => by simp) v';have hc := own_only h1.c OG (own_two h1.c h1.l (by decide));have hg := h.ne;have hb := h.b;refine ⟨(h1.o.step OG (fun i hi hl => by have := (h1.l.lt i (by simpa using hi)).1; omega)).step OP (fun i hi hl => by simp at hi; omega), (OG.blk h1.br (own_apart h1.l h1.br (by decide))).far (p := ⟨g6, 1, none⟩) (by show gr ≠ g6; omega) v', hbw.put 1 v', own_only hc OP (fun g e hm => by simp at hm; subst hm; exact own_apart hc hbw (by decide) (by rw [e]; simp)), ?_, hg, hb, fun x hx => ?_, h.ft⟩
 ·have := own_only hown OP (fun g e hm => by simp at hm; subst hm; exact own_apart hown hbw (by decide) (by rw [e]; simp));have e : edgeC (l ++ [(a, b)]) = edgeC l ++ [.int .i64 a, .int .i64 b] := by simp [edgeC]
  rw [e, List.length_append];exact this
 ·have h3 := OG.blk (h1.f x hx) (own_apart h1.l (h1.f x hx) (Ne.symm (h.ft x hx).2.1));exact h3.far (p := ⟨g6, 1, none⟩) (h3.apart hbw (h.ft x hx).2.2) v'
theorem WS.putV {go : Nat} {x0 x1 x2 x3 : Value} (h : WS w wr gr g6 c l V1 V2 ((go, 55, #[x0, x1, x2, x3]) :: F)) (hF : ∀ b ∈ F, b.2.1 ≠ 55) (hg : w.heap.size ≤ go) (u v : Value) :
  WS w (wr.setCells go 2 [u, v]) gr g6 c l V1 V2 ((go, 55, #[x0, x1, u, v]) :: F) := by
 have hb : Blk wr go 55 #[x0, x1, x2, x3] := h.f _ List.mem_cons_self;have O : Only [go] wr (wr.setCells go 2 [u, v]) := setCells_only go _ _ _ _ _ (Only.refl _ _) (fun _ => by simp);refine ⟨h.o.step O (fun i hi hl => by simp at hi; omega), O.blk h.br (by have := h.br.apart hb (by decide); simpa using this), O.blk h.bw (by have := h.bw.apart hb (by decide); simpa using this),
  own_only h.c O (fun g e hm => by simp at hm; subst hm; exact own_apart h.c hb (by decide) (by rw [e]; simp)), own_only h.l O (fun g e hm => by simp at hm; subst hm; exact own_apart h.l hb (by decide) (by rw [e]; simp)), h.ne, h.b, fun x hx => ?_, fun x hx => ?_⟩
 ·rcases List.mem_cons.1 hx with rfl | hx
  ·exact (hb.put 2 u).put 3 v
  ·have h3 := h.f x (List.mem_cons_of_mem _ hx);exact O.blk h3 (by have := h3.apart hb (hF x hx); simpa using this)
 ·rcases List.mem_cons.1 hx with rfl | hx
  ·exact ⟨(by decide : 55 ≠ 4), (by decide : 55 ≠ 53), (by decide : 55 ≠ 29)⟩
  ·exact h.ft x (List.mem_cons_of_mem _ hx)
theorem blk_there {w : World} {g : Nat} {x0 x1 x2 x3 : Value} (hb : Blk w g 55 #[x0, x1, x2, x3]) : w.there g 2 2 := fun j hj => by
 have : j = 0 ∨ j = 1 := by omega
 rcases this with rfl | rfl
 ·exact ⟨by rw [hb.at_ 2]; rfl, hb.free 2⟩
 ·exact ⟨by rw [hb.at_ 3]; rfl, hb.free 3⟩
theorem WS.at_ {g : Nat} {t : TypeId} {cs : Array Value} (h : WS w wr gr g6 c l V1 V2 F) (i : Nat) (hi : F[i]? = some (g, t, cs)) : Blk wr g t cs := h.f _ (List.mem_of_getElem? hi)
theorem WS.done {A A' : Option Addr} {cA cB : Nat} (h : WS w wr gr g6 c l (.slice A c.length cA) (.slice A' l.length cB) F) (O : Only [gr] wr w') : WAt w' w.heap.size ⟨⟨c, l⟩, A, cA, A', cB⟩ :=
 WAt.blkS (w := wr) ⟨h.c, h.l⟩ h.br O
end
theorem wagg_none {w : World} {B : Nat} : WAgg w B ⟨[], []⟩ (.agg #[.slice none 0 0, .slice none 0 0]) := ⟨none, 0, none, 0, rfl, ⟨World.ownsRow_nil _ _ _ _, World.ownsRow_nil _ _ _ _⟩⟩
theorem readsO_le : ∀ (l m : List Op4), (readsO l m).length ≤ l.length
 | [], m => by cases m <;> simp [readsO]
 | o :: r, [] => by simp [readsO]
 | o :: r, p :: s => by
  have := readsO_le r s;rw [readsO, List.length_append, List.length_cons]
  by_cases e : o.vk = 2
  ·rw [if_pos e]; simp; omega
  ·rw [if_neg e]; simp; omega
theorem readsT_le (q : Nat) : ∀ (l m : List Tx), (∀ t ∈ l, t.ops.length ≤ q) → (readsT l m).length ≤ q * l.length
 | [], m, _ => by cases m <;> simp [readsT]
 | o :: r, [], _ => by simp [readsT]
 | o :: r, p :: s, h => by
  have h1 := readsT_le q r s (fun t ht => h t (List.mem_cons_of_mem _ ht));have h2 := readsO_le o.ops p.ops;have h3 := h o List.mem_cons_self;rw [readsT, List.length_append, List.length_cons, Nat.mul_add];omega
theorem comsT_le : ∀ (l m : List Tx), (comsT l m).length ≤ l.length
 | [], m => by cases m <;> simp [comsT]
 | o :: r, [] => by simp [comsT]
 | o :: r, p :: s => by
  have := comsT_le r s;rw [comsT, List.length_append, List.length_cons]
  by_cases e : o.f = 3
  ·rw [if_pos e]; simp; omega
  ·rw [if_neg e]; simp; omega

/-! ### What World answers -/
def wldR (h g : Hst) : Wld := if isWld h g = true then wldOf h g else ⟨[], []⟩
def headB (t u : Tx) : Bool := decide (t.s = u.s) && ((decide (t.f = 3) || decide (t.f = u.f)) && decide (t.ops.length = u.ops.length))
theorem sameTB_head (t u : Tx) : sameTB t u = (headB t u && opsSB t.ops u.ops) := by
 unfold sameTB headB;rw [Bool.and_assoc, Bool.and_assoc]
theorem isWld_no {h g : Hst} (e : matchB h g = false) : isWld h g = false := by
 unfold isWld;rw [e, Bool.and_false, Bool.and_false]
theorem isWld_tx {h g : Hst} {k : Nat} {t u : Tx} (ht : h.l[k]? = some t) (hu : g.l[k]? = some u) (e : sameTB t u = false) : isWld h g = false := by
 refine isWld_no ?_
 cases hm : matchB h g with
 | false => rfl
 | true =>
  have h1 := ((match_iff h g).1 hm).2.2.2 k t u ht hu;rw [(sameTB_iff t u).2 h1] at e
  cases e
theorem isWld_head {h g : Hst} {k : Nat} {t u : Tx} (ht : h.l[k]? = some t) (hu : g.l[k]? = some u) (e : headB t u = false) : isWld h g = false := isWld_tx ht hu (by rw [sameTB_head, e]; rfl)
theorem isWld_op {h g : Hst} {k j : Nat} {t u : Tx} {o p : Op4} (ht : h.l[k]? = some t) (hu : g.l[k]? = some u) (ho : t.ops[j]? = some o) (hp : u.ops[j]? = some p) (e : sameOB o p = false) : isWld h g = false :=
 isWld_tx ht hu (by
  rw [sameTB_head]
  cases hm : opsSB t.ops u.ops with
  | false => rw [Bool.and_false]
  | true =>
   have h1 := (opsSB_iff _ _).1 hm j o p ho hp;rw [(sameOB_iff o p).2 h1] at e
   cases e)
theorem opsSB_snoc : ∀ (l m : List Op4) (o p : Op4), l.length = m.length → opsSB (l ++ [o]) (m ++ [p]) = (opsSB l m && sameOB o p)
 | [], m, o, p, h => by
  obtain rfl : m = [] := List.length_eq_zero_iff.1 h.symm;rw [List.nil_append, List.nil_append];simp [opsSB]
 | a :: r, [], o, p, h => by simp at h
 | a :: r, b :: s, o, p, h => by
  rw [List.cons_append, List.cons_append, opsSB, opsSB, opsSB_snoc r s o p (by simpa using h), Bool.and_assoc]
theorem txsSB_snoc : ∀ (l m : List Tx) (o p : Tx), l.length = m.length → txsSB (l ++ [o]) (m ++ [p]) = (txsSB l m && sameTB o p)
 | [], m, o, p, h => by
  obtain rfl : m = [] := List.length_eq_zero_iff.1 h.symm;rw [List.nil_append, List.nil_append];simp [txsSB]
 | a :: r, [], o, p, h => by simp at h
 | a :: r, b :: s, o, p, h => by
  rw [List.cons_append, List.cons_append, txsSB, txsSB, txsSB_snoc r s o p (by simpa using h), Bool.and_assoc]
theorem opsSB_take {l m : List Op4} {i : Nat} {o p : Op4} (ho : l[i]? = some o) (hp : m[i]? = some p) : opsSB (l.take (i + 1)) (m.take (i + 1)) = (opsSB (l.take i) (m.take i) && sameOB o p) := by
 rw [take_one ho, take_one hp, opsSB_snoc];have h1 := (List.getElem?_eq_some_iff.1 ho).1;have h2 := (List.getElem?_eq_some_iff.1 hp).1;rw [List.length_take, List.length_take];omega
theorem txsSB_take {l m : List Tx} {i : Nat} {o p : Tx} (ho : l[i]? = some o) (hp : m[i]? = some p) : txsSB (l.take (i + 1)) (m.take (i + 1)) = (txsSB (l.take i) (m.take i) && sameTB o p) := by
 rw [take_one ho, take_one hp, txsSB_snoc];have h1 := (List.getElem?_eq_some_iff.1 ho).1;have h2 := (List.getElem?_eq_some_iff.1 hp).1;rw [List.length_take, List.length_take];omega
theorem eqH_eq {a b : Hst} (h : eqH a b = true) : a = b := by
 unfold eqH at h;simp only [Bool.and_eq_true, decide_eq_true_eq] at h;obtain ⟨h1, h2, h3⟩ := h;obtain ⟨a1, a2, a3⟩ := a;obtain ⟨b1, b2, b3⟩ := b;simp only at h1 h2 h3;rw [h1, h2, h3]
theorem eqH_refl (a : Hst) : eqH a a = true := by simp [eqH]
theorem isWld_ref {h g : Hst} (hm : mayH h = true) (hw : wholeB g = true) : isWld h g = (mayW h (wldOf h g) && eqH (makeH h (wldOf h g)) g) := by
 cases hq : matchB h g with
 | true =>
  obtain ⟨h1, h2⟩ := world_is hm hw hq;unfold isWld;rw [hm, hw, hq, h1, h2, eqH_refl]
  rfl
 | false =>
  rw [isWld_no hq]
  cases h2 : eqH (makeH h (wldOf h g)) g with
  | false => rw [Bool.and_false]
  | true =>
   rw [is_world hm (eqH_eq h2)] at hq
   cases hq
theorem may_tx {h : Hst} (hm : mayH h = true) : h.l.length ≤ 40 ∧ ∀ t ∈ h.l, t.ops.length ≤ 20 := by
 unfold mayH at hm;rw [Bool.and_eq_true, Bool.and_eq_true, Bool.and_eq_true] at hm;have h2 := hm.2.2.1;unfold txsB at h2;rw [Bool.and_eq_true, Bool.and_eq_true, decide_eq_true_eq] at h2;refine ⟨h2.1, fun t ht => ?_⟩;have h3 := List.all_eq_true.1 h2.2.1 t ht;unfold txB at h3;rw [Bool.and_eq_true, Bool.and_eq_true, decide_eq_true_eq, decide_eq_true_eq] at h3;exact h3.2.2
theorem small_make {h : Hst} (hs : HSmall h) (x : Wld) : HSmall (makeH h x) where
 s := hs.s
 k := hs.k
 ns := hs.ns
 nk := hs.nk
 nl := by unfold makeH; dsimp only; rw [fillT_len]; exact hs.nl
 no := by
  have H : ∀ (l : List Tx) (cs : List Bool) (vs : List V2), (∀ t ∈ l, t.ops.length ≤ 1000) → ∀ t ∈ fillT l cs vs, t.ops.length ≤ 1000 := by
   intro l
   induction l with
   | nil => intro cs vs _ t ht; simp [fillT] at ht
   | cons a r ih =>
    intro cs vs h1 t ht;rw [fillT] at ht;rcases List.mem_cons.1 ht with rfl | ht
    ·dsimp only;rw [fillO_len];exact h1 a List.mem_cons_self
    ·exact ih _ _ (fun u hu => h1 u (List.mem_cons_of_mem _ hu)) t ht
  exact H h.l _ _ hs.no
def fillP (o p : Op4) : Op4 := if o.vk = 2 then ⟨o.wr, o.key, p.vk, p.vn⟩ else o
theorem fillP_same (o p : Op4) : decide (fillP o p = p) = sameOB o p := by
 obtain ⟨a, b, c, d⟩ := o;obtain ⟨a', b', c', d'⟩ := p;unfold fillP sameOB;dsimp only
 by_cases e : c = 2
 ·rw [if_pos e, decide_eq_true e]
  by_cases h0 : a = a' <;> by_cases h1 : b = b' <;> simp [h0, h1]
 ·rw [if_neg e, decide_eq_false e]
  by_cases h0 : a = a' <;> by_cases h1 : b = b' <;> by_cases h2 : c = c' <;> by_cases h3 : d = d' <;> simp [h0, h1, h2, h3]
attribute [local go_sem ↓] Go.wp_at_zero Go.wp_at_succ
attribute [local go_sem ↓] run_neq_op4
theorem eqstr_any (A A' : Option Addr) (n m c d : Nat) (xs ys : List ByteArray) (w : World) (B B' : Nat) (hA : Row w B A (strs xs)) (hA' : Row w B' A' (strs ys)) (hn : xs.length = n) (hm : ys.length = m) (hnm : n ≤ 1000000) (hmm : m ≤ 1000000) :
  Calls Tryz.prog 35 #[.slice A n c, .slice A' m d] w fun e w' => e = .returned (.bool (decide (xs = ys))) ∧ ∃ k, w.drewN k = w' := by
 have HA := Hd hA;have HA' := Hd hA';have HN := Hd hn;have HM := Hd hm;clear hA hA' hn hm
 by_cases hlen : n = m
 ·subst hlen;go_enter Tryz.func35, Tryz.ntmps35;go_wp2_with fail
  go_loopw [13] (fun i wr => ∃ k q : Nat, i = .int .i64 k ∧ k ≤ n ∧ Hid (xs.take k = ys.take k) ∧ Hid (wr = w.drewN q)) (fun i _ => n - (intOf i).toNat)
  case atStart => exact ⟨0, 0, rfl, by omega, rfl, rfl⟩
  case round =>
   obtain ⟨k, q, rfl, hk, hsame, hw⟩ := hrel;have hxl := HN.out;have hyl := HM.out
   by_cases hlt : k < n
   ·obtain ⟨x, hx⟩ : ∃ x, xs[k]? = some x := ⟨_, List.getElem?_eq_getElem (by omega)⟩;obtain ⟨y, hy⟩ : ∃ y, ys[k]? = some y := ⟨_, List.getElem?_eq_getElem (by omega)⟩;have HX := Hd hx;have HY := Hd hy;obtain ⟨b, off, rfl, -, hbw, hc⟩ := HA.out.open_ (k := k) (by rw [strs, List.length_map, HN.out]; exact hlt);obtain ⟨b', off', rfl, -, hbw', hc'⟩ := HA'.out.open_ (k := k) (by rw [strs, List.length_map, HM.out]; exact hlt);have hcx : wr.cell? ⟨b, off + k, none⟩ = some (.string x) := by rw [hw.out]; exact hc k _ (by rw [strs, List.getElem?_map, hx]; rfl)
    have hcy : wr.cell? ⟨b', off' + k, none⟩ = some (.string y) := by rw [hw.out]; exact hc' k _ (by rw [strs, List.getElem?_map, hy]; rfl)
    clear hc hc' ;have hk0 : (0 : Int) ≤ (k : Int) := Int.natCast_nonneg _;have hk1 : (k : Int) < (n : Int) := by omega
    clear hx hy hxl hyl
    by_cases hxy : x = y
    ·have hb : (x.toList == y.toList) = true := by simp [hxy]
     have HXY := Hd hxy;clear hxy;go_wp2_with fail
     go_quiet (fail)
     go_wp2
     go_roundw
     case rel =>
      refine ⟨k + 1, q + nq, by go_num, by omega, (takeG_eq hsame.out HX.out HY.out).2 HXY.out, ?_⟩
      show _ = _
      rw [hw.out, World.drewN_drewN]
     case measure => simp [intOf]; omega
    ·have hb := textb_ne hxy;have hb2 : (x.toList == y.toList) = false := by simpa using hb
     clear hb;have HXY := Hd hxy;clear hxy;go_wp2_with fail
     go_quiet (fail)
     go_wp2
     go_ret
     refine ⟨?_, q + nq, ?_⟩
     ·have : xs ≠ ys := fun e => HXY.out (by
       have h1 := HX.out;have h2 := HY.out;rw [e] at h1;rw [h1] at h2;exact Option.some.inj h2)
      simp [this]
     ·rw [hw.out, World.drewN_drewN]
   ·have hge : n ≤ k := by omega
    clear hxl hyl;go_wp2
    go_ret
    refine ⟨?_, q, hw.out.symm⟩;have h1 := hsame.out;have h2 := HN.out;have h3 := HM.out;rw [List.take_of_length_le (by omega), List.take_of_length_le (by omega)] at h1;simp [h1]
 ·have hb : ((n : Int) != (m : Int)) = true := by simp; omega
  have hne : xs ≠ ys := fun e => hlen (by rw [← HN.out, ← HM.out, e]);have HNE := Hd hne;clear hlen hne;go_enter Tryz.func35, Tryz.ntmps35;go_wp2
  go_ret
  exact ⟨by simp [HNE.out], 0, rfl⟩
end Go.Proofs.YtghimogdeijgdaaGreatDoor
