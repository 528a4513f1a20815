/- known.Ops: the iterator over a history's ops. -/
import Derived.RangeFuncNested
import Derived.RangeFuncBound
import Derived.RangeFuncCalls
import Derived.RangeFuncLeaves
import Derived.RangeFuncBox
import Derived.Shelf.Abstract
import Derived.Shelf.RegionOpen
import Derived.WalkKit
import Derived.OwnWalkIn
import Derived.TacticsInMore
import Derived.LoopNIn
import Derived.LoopIn
import Derived.Maps.AppendAt
import Derived.Test.YtpkibfpnfpjclaaDoorHistOrdersCardK5
set_option linter.unusedVariables false
set_option linter.unusedSimpArgs false
namespace Go.Proofs.YtpkibfpnfpjclaaDoor
open Go.RowKit Go.Shelf
open Go.Lib hiding intOf
attribute [local go_sem] Oper.semAt_some

/-- An op with its place. -/
abbrev Pl := Nat × Nat × Op4
def plC (x : Pl) : Array Value := #[.agg #[.int .i64 (x.1 : Int), .int .i64 (x.2.1 : Int)], .agg #[.bool x.2.2.wr, .int .i64 x.2.2.key, .int .i64 x.2.2.vk, .int .i64 x.2.2.vn]]
def plsT (i : Nat) (l : List Op4) : List Pl := l.zipIdx.map fun x => (i, x.2, x.1)
def plsL (l : List Tx) : List Pl := l.zipIdx.flatMap fun x => plsT x.2 x.1.ops
theorem plsT_take {i : Nat} {l : List Op4} {j : Nat} {x : Op4} (h : l[j]? = some x) : plsT i (l.take (j + 1)) = plsT i (l.take j) ++ [(i, j, x)] := by
  have hj := (List.getElem?_eq_some_iff.1 h).1
  unfold plsT
  rw [List.take_add_one, h, List.zipIdx_append, List.map_append, List.length_take, Nat.min_eq_left (Nat.le_of_lt hj)]
  simp [List.zipIdx]
theorem plsL_take {l : List Tx} {k : Nat} {t : Tx} (h : l[k]? = some t) : plsL (l.take (k + 1)) = plsL (l.take k) ++ plsT k t.ops := by
  have hk := (List.getElem?_eq_some_iff.1 h).1
  unfold plsL
  rw [List.take_add_one, h, List.zipIdx_append, List.flatMap_append, List.length_take, Nat.min_eq_left (Nat.le_of_lt hk)]
  simp [List.zipIdx]
theorem plsT_len (i : Nat) (l : List Op4) : (plsT i l).length = l.length := by simp [plsT]
theorem plsL_len : ∀ (l : List Tx), (∀ t ∈ l, t.ops.length ≤ 1000) → (plsL l).length ≤ l.length * 1000 := by
  intro l
  unfold plsL
  generalize 0 = s
  induction l generalizing s with
  | nil => intro _; simp
  | cons t l ih =>
    intro h
    have h1 := ih (s + 1) (fun x hx => h x (List.mem_cons_of_mem _ hx))
    have h2 := h t List.mem_cons_self
    rw [List.zipIdx_cons, List.flatMap_cons, List.length_append, plsT_len, List.length_cons]
    show t.ops.length + _ ≤ _
    omega

theorem OpAt.belowB {B : Nat} {w w' : World} {b o : Nat} {x : Op4} (h : OpAt w b o x) (ho : Below B w w') (hb : b < B) : OpAt w' b o x :=
  ⟨(ho.cell (p := ⟨b, o, none⟩) hb).trans h.c0, (ho.cell (p := ⟨b, o + 1, none⟩) hb).trans h.c1, (ho.cell (p := ⟨b, o + 2, none⟩) hb).trans h.c2, (ho.cell (p := ⟨b, o + 3, none⟩) hb).trans h.c3⟩
theorem TxAt.belowB {B : Nat} {w w' : World} {b o : Nat} {x : TxA} (h : TxAt w b o x) (ho : Below B w w') (hb : b < B) : TxAt w' b o x :=
  ⟨(ho.cell (p := ⟨b, o, none⟩) hb).trans h.c0, (ho.cell (p := ⟨b, o + 1, none⟩) hb).trans h.c1, (ho.cell (p := ⟨b, o + 2, none⟩) hb).trans h.c2⟩

set_option maxRecDepth 100000 in
set_option maxHeartbeats 4000000 in
theorem ops1_in (F : Fence) (n : Nat) (hf : F.fn 55) (hro : F.round = none) (hn : 1 ≤ n) (l Bn n₀ : Nat) (A2 : Option Addr) (n2 c2 : Nat) (h : Hst) (J Jx : List Pl → World → Prop) (W : World) (hW0 : n₀ ≤ W.heap.size)
    (hn2 : h.l.length = n2) (hM : n2 ≤ 1000) (hno : ∀ t ∈ h.l, t.ops.length ≤ 1000) (hJ : AbidesFrom W.heap.size J)
    (hY : ∀ pre x W1, J pre W1 → pre.length < 1000001 → YieldAt F (n - 1) Tryd.prog l (plC x) W1 fun e W' =>
      (e = .returned (.bool true) ∧ J (pre ++ [x]) W' ∧ Below n₀ W1 W') ∨ (e = .returned (.bool false) ∧ Jx (pre ++ [x]) W'))
    (hBn : W.cell? ⟨Bn, 2, none⟩ = some (.slice A2 n2 c2)) (hg : LRow W n₀ A2 h.l) (h0 : J [] W) :
    CallsIn F n Tryd.prog 55 #[.func (.yield l) #[] #[], .pointer (some ⟨Bn, 0, none⟩)] W fun e W' => (∃ v, e = .returned v) ∧
      ((∃ ys, ys = plsL h.l ∧ J ys W') ∨ (∃ pre, True ∧ Jx pre W')) := by
  refine callsIn_of_wp Tryd.func55 rfl hf ?_ hro
  simp only [Tryd.ntmps55, List.size_toArray, List.length_cons, List.length_nil, Nat.reduceAdd, Nat.reduceSub, Array.replicate_succ, Array.replicate_zero, List.push_toArray, List.append_toArray, List.nil_append, List.cons_append]
  gi_wp2
  gi_loopw [10] (fun iv wr => ∃ k : Nat, iv = .int .i64 k ∧ k ≤ n2 ∧ J (plsL (h.l.take k)) wr ∧ Below n₀ W wr) (fun iv _ => n2 - (intOf iv).toNat)
  case atStart => exact ⟨0, rfl, by omega, h0, Below.refl _ _⟩
  case round =>
    obtain ⟨k, rfl, hk, hJs, hnx⟩ := hrel
    by_cases hlt : k < n2
    · obtain ⟨x, hx⟩ : ∃ x, h.l[k]? = some x := ⟨_, List.getElem?_eq_getElem (by rw [hn2]; exact hlt)⟩
      obtain ⟨b, off, A', cp, rfl, hb, -, hT, hOk⟩ := hg.at_ hx
      obtain ⟨a0, a1, a2⟩ := hT.belowB hnx hb
      have hm1 := hno x (List.mem_of_getElem? hx)
      have hpl := plsL_len (h.l.take k) (fun t ht => hno t (List.mem_of_mem_take ht))
      rw [List.length_take, hn2, Nat.min_eq_left hk] at hpl
      have HPT := Lib.hid (plsL_take hx)
      have HROW := Lib.hid hOk.row
      obtain ⟨s, f, ops⟩ := x
      dsimp only at a0 a1 a2 hm1 HPT HROW
      generalize hm : ops.length = m at *
      have h01 : (k : Int) < (n2 : Int) := by omega
      have hk0 : (0 : Int) ≤ (k : Int) := Int.natCast_nonneg _
      have hwk : IntKind.i64.wrap ((k : Int) + 1) = (k : Int) + 1 := IntWalk.i64_in _ (by omega)
      have hJ1 := hJ _ _ _ none hJs (World.grownBy_alloc wr (.cells #[.int .i64 s, .int .i64 f, .slice A' m cp] 45) none) (by simp)
      have hnx1 := hnx.alloc (by have := hnx.size; omega) (.cells #[.int .i64 s, .int .i64 f, .slice A' m cp] 45)
      clear hT hOk
      gi_wp2
      generalize hgt : wr.heap.size = gt
      gi_loopw [18] (fun iv wr => ∃ j : Nat, iv = .int .i64 j ∧ j ≤ m ∧ J (plsL (h.l.take k) ++ plsT k (ops.take j)) wr ∧ Below n₀ W wr) (fun iv _ => m - (intOf iv).toNat)
      case atStart => exact ⟨0, rfl, by omega, by simpa [plsT] using hJ1, hnx1⟩
      case round =>
        obtain ⟨j, rfl, hj, hJs2, hnx2⟩ := hrel
        clear hJ1 hnx1 hJs hnx a0 a1 a2 hgt
        by_cases hlt2 : j < m
        · obtain ⟨y, hy⟩ : ∃ y, ops[j]? = some y := ⟨_, List.getElem?_eq_getElem (by rw [hm]; exact hlt2)⟩
          obtain ⟨b', off', rfl, hb', -, hP⟩ := row_op HROW.out hy
          obtain ⟨p0, p1, p2, p3⟩ := hP.belowB hnx2 hb'
          have HTT := Lib.hid (plsT_take (i := k) hy)
          obtain ⟨yw, yk, yv, yn⟩ := y
          dsimp only at p0 p1 p2 p3
          have h02 : (j : Int) < (m : Int) := by omega
          have hj0 : (0 : Int) ≤ (j : Int) := Int.natCast_nonneg _
          have hwj : IntKind.i64.wrap ((j : Int) + 1) = (j : Int) + 1 := IntWalk.i64_in _ (by omega)
          have hJ3 := hJ _ _ _ none hJs2 (World.grownBy_alloc wr (.cells #[.bool yw, .int .i64 yk, .int .i64 yv, .int .i64 yn] 56) none) (by simp)
          have hnx3 := hnx2.alloc (by have := hnx2.size; omega) (.cells #[.bool yw, .int .i64 yk, .int .i64 yv, .int .i64 yn] 56)
          have hlen : (plsL (h.l.take k) ++ plsT k (ops.take j)).length < 1000001 := by
            rw [List.length_append, plsT_len, List.length_take]
            omega
          have HAP : Hid (plsL (h.l.take k) ++ plsT k (ops.take (j + 1)) = (plsL (h.l.take k) ++ plsT k (ops.take j)) ++ [(k, j, ⟨yw, yk, yv, yn⟩)]) := Lib.hid (by rw [HTT.out, List.append_assoc])
          obtain ⟨fn, tmps, assign, body, hyy, hR⟩ := hY _ (k, j, ⟨yw, yk, yv, yn⟩) _ hJ3 hlen
          dsimp only [plC] at hyy hR
          clear hP hy
          gi_wp2
          refine hR.mono ?_
          rintro e W3 (⟨rfl, hJ4, hk4⟩ | ⟨rfl, hJx4⟩)
          · gi_wp2
            go_roundw
            case rel => exact ⟨j + 1, by go_num, by omega, by rw [HAP.out]; exact hJ4, hnx3.trans hk4⟩
            case measure => simp [intOf]; omega
          · gi_wp2
            refine bodyPost_ret (results_none rfl _ _ _) rfl ?_
            exact ⟨⟨_, rfl⟩, .inr ⟨_, trivial, hJx4⟩⟩
        · obtain rfl : j = m := by omega
          have hd2 : decide ((j : Int) < (j : Int)) = false := by simp
          have hJE : J (plsL (h.l.take (k + 1))) wr := by
            rw [HPT.out]
            rwa [show ops.take j = ops from List.take_of_length_le (by rw [hm]; exact Nat.le_refl _)] at hJs2
          gi_wp2
          go_roundw
          case rel => exact ⟨k + 1, by go_num, by omega, hJE, hnx2⟩
          case measure => simp [intOf]; omega
    · obtain rfl : k = n2 := by omega
      have hd2 : decide ((k : Int) < (k : Int)) = false := by simp
      gi_wp2
      go_end0
      exact ⟨⟨_, rfl⟩, .inl ⟨_, rfl, by rwa [List.take_of_length_le (by rw [hn2]; exact Nat.le_refl _)] at hJs⟩⟩

set_option maxHeartbeats 1000000 in
/-- known.Ops: the history is boxed; the function value has captured the box. -/
theorem ops_in (F : Fence) (n : Nat) (hf : F.fn 45) (hro : F.round = none) (A0 A1 A2 : Option Addr) (n0 n1 n2 c0 c1 c2 : Nat) (w : World) :
    CallsIn F n Tryd.prog 45 #[.agg #[.slice A0 n0 c0, .slice A1 n1 c1, .slice A2 n2 c2]] w fun e w' => e = .returned (.func (.func 55) #[] #[.pointer (some ⟨w.heap.size, 0, none⟩)]) ∧ w' = w.alloc (.cells #[.slice A0 n0 c0, .slice A1 n1 c1, .slice A2 n2 c2] 25) := by
  refine callsIn_of_wp Tryd.func45 rfl hf ?_ hro
  simp only [Tryd.ntmps45, List.size_toArray, List.length_cons, List.length_nil, Nat.reduceAdd, Nat.reduceSub, Array.replicate_succ, Array.replicate_zero, List.push_toArray, List.append_toArray, List.nil_append, List.cons_append]
  gi_wp2
  go_ret
  exact ⟨rfl, rfl⟩

theorem ops_stops (F : Fence) (n : Nat) (hf : F.fn 55) (hro : F.round = none) (hn : 1 ≤ n) (Bn n₀ : Nat) (A2 : Option Addr) (n2 c2 : Nat) (h : Hst) (w : World) (hBn : Bn < w.heap.size) (hn₀ : n₀ ≤ w.heap.size)
    (hc : w.cell? ⟨Bn, 2, none⟩ = some (.slice A2 n2 c2)) (hg : LRow w n₀ A2 h.l) (hn2 : h.l.length = n2) (hM : n2 ≤ 1000) (hno : ∀ t ∈ h.l, t.ops.length ≤ 1000) :
    SeqStopsK F n Tryd.prog 55 #[.pointer (some ⟨Bn, 0, none⟩)] plC (Below n₀) (fun ys => ys = plsL h.l) (fun _ => True) 1000001 w := fun l J Jx W hW hJ _ hY h0 =>
  ops1_in F n hf hro hn l Bn n₀ A2 n2 c2 h J Jx W (Nat.le_trans hn₀ hW.size) hn2 hM hno hJ hY ((hW.cell (p := ⟨Bn, 2, none⟩) hBn).trans hc) (hg.only (Only.of_below hW []) (fun _ h => by cases h)) h0

end Go.Proofs.YtpkibfpnfpjclaaDoor
