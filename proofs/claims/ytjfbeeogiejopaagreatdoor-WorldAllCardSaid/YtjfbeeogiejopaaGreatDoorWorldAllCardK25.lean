/- Parts. -/
import Derived.Test.YtjfbeeogiejopaaGreatDoorWorldAllCardK9
import Derived.RangeFuncNested
import Derived.RangeFuncBound
import Derived.RangeFuncCalls
import Derived.RangeFuncLeaves
import Derived.RangeFuncBox
import Derived.Shelf.Abstract
import Derived.Shelf.RegionOpen
import Derived.WalkKit
import Derived.OwnWalkIn
import Derived.TacticsInMore
import Derived.LoopNIn
import Derived.LoopIn
import Derived.Maps.AppendAt
import Derived.Test.YtjfbeeogiejopaaGreatDoorWorldAllCardK21
import Derived.Test.YtjfbeeogiejopaaGreatDoorWorldAllCardK24
import Derived.Maps.OwnIn
import Derived.Sort.MapsRangeIn
import Derived.Test.YtjfbeeogiejopaaGreatDoorWorldAllCardK22
set_option maxRecDepth 10000
set_option maxHeartbeats 16000000
set_option linter.unusedVariables false
set_option linter.unusedSimpArgs false
namespace Go.Proofs.YtjfbeeogiejopaaGreatDoor
abbrev Pl := Nat × Nat × Op4
def plC (x : Pl) : Array Value := #[.agg #[.int .i64 (x.1 : Int), .int .i64 (x.2.1 : Int)], .agg #[.bool x.2.2.wr, .int .i64 x.2.2.key, .int .i64 x.2.2.vk, .int .i64 x.2.2.vn]]
def plsT (i : Nat) (l : List Op4) : List Pl := l.zipIdx.map fun x => (i, x.2, x.1)
def plsL (l : List Tx) : List Pl := l.zipIdx.flatMap fun x => plsT x.2 x.1.ops
theorem plsT_take {i : Nat} {l : List Op4} {j : Nat} {x : Op4} (h : l[j]? = some x) : plsT i (l.take (j + 1)) = plsT i (l.take j) ++ [(i, j, x)] := by
 have hj := (List.getElem?_eq_some_iff.1 h).1;unfold plsT;rw [List.take_add_one, h, List.zipIdx_append, List.map_append, List.length_take, Nat.min_eq_left (Nat.le_of_lt hj)];simp [List.zipIdx]
theorem plsL_take {l : List Tx} {k : Nat} {t : Tx} (h : l[k]? = some t) : plsL (l.take (k + 1)) = plsL (l.take k) ++ plsT k t.ops := by
 have hk := (List.getElem?_eq_some_iff.1 h).1;unfold plsL;rw [List.take_add_one, h, List.zipIdx_append, List.flatMap_append, List.length_take, Nat.min_eq_left (Nat.le_of_lt hk)];simp [List.zipIdx]
theorem plsT_len (i : Nat) (l : List Op4) : (plsT i l).length = l.length := by simp [plsT]
theorem plsL_len : ∀ (l : List Tx), (∀ t ∈ l, t.ops.length ≤ 1000) → (plsL l).length ≤ l.length * 1000 := by
 intro l;unfold plsL;generalize 0 = s
 induction l generalizing s with
 | nil => intro _; simp
 | cons t l ih =>
  intro h;have h1 := ih (s + 1) (fun x hx => h x (List.mem_cons_of_mem _ hx));have h2 := h t List.mem_cons_self;rw [List.zipIdx_cons, List.flatMap_cons, List.length_append, plsT_len, List.length_cons]
  show t.ops.length + _ ≤ _
  omega
def placeC (l : List (Int × Int)) : List Value := l.flatMap fun e => [.int .i64 e.1, .int .i64 e.2]
theorem placeC_append (l k : List (Int × Int)) : placeC (l ++ k) = placeC l ++ placeC k := by simp [placeC]
def lostP (ps : List Pl) : List (Int × Int) := (ps.filter fun x => decide (x.2.2.vk = 2)).map fun x => ((x.1 : Int), (x.2.1 : Int))
theorem lostP_hit (pre : List Pl) {x : Pl} (h : x.2.2.vk = 2) : lostP (pre ++ [x]) = lostP pre ++ [((x.1 : Int), (x.2.1 : Int))] := by simp [lostP, h]
theorem lostP_miss (pre : List Pl) {x : Pl} (h : ¬ x.2.2.vk = 2) : lostP (pre ++ [x]) = lostP pre := by simp [lostP, h]
theorem lostP_le (pre : List Pl) : (lostP pre).length ≤ pre.length := by
 unfold lostP;rw [List.length_map];exact List.length_filter_le _ _
theorem info_place : (Tryz.prog.info? 27).map (fun i => (i.zero, i.size, i.bytes)) = some (some (.agg #[.int .i64 0, .int .i64 0]), 2, 16) := by kernel_rfl
end Go.Proofs.YtjfbeeogiejopaaGreatDoor
namespace Go.Proofs.YtjfbeeogiejopaaGreatDoor
open Go.RowKit Go.Shelf
open Go.Lib hiding intOf
attribute [local go_sem] Oper.semAt_some
set_option maxRecDepth 100000 in
theorem ops1_in (F : Fence) (n : Nat) (hf : F.fn 106) (hro : F.round = none) (hn : 1 ≤ n) (l Bn n₀ : Nat) (A2 : Option Addr) (n2 c2 : Nat) (h : Hst) (J Jx : List Pl → World → Prop) (W : World) (hW0 : n₀ ≤ W.heap.size)
  (hn2 : h.l.length = n2) (hM : n2 ≤ 1000) (hno : ∀ t ∈ h.l, t.ops.length ≤ 1000) (hJ : AbidesFrom W.heap.size J)
  (PX : Pl → Prop) (hPX : ∀ i j t o, h.l[i]? = some t → t.ops[j]? = some o → PX (i, j, o))
  (hY : ∀ pre x W1, PX x → J pre W1 → pre.length < 1000001 → YieldAt F (n - 1) Tryz.prog l (plC x) W1 fun e W' =>
   (e = .returned (.bool true) ∧ J (pre ++ [x]) W' ∧ Below n₀ W1 W') ∨ (e = .returned (.bool false) ∧ Jx (pre ++ [x]) W'))
  (hBn : W.cell? ⟨Bn, 2, none⟩ = some (.slice A2 n2 c2)) (hg : LRow W n₀ A2 h.l) (h0 : J [] W) :
  CallsIn F n Tryz.prog 106 #[.func (.yield l) #[] #[], .pointer (some ⟨Bn, 0, none⟩)] W fun e W' => (∃ v, e = .returned v) ∧
   ((∃ ys, ys = plsL h.l ∧ J ys W') ∨ (∃ pre, True ∧ Jx pre W')) := by
 refine callsIn_of_wp Tryz.func106 rfl hf ?_ hro;simp only [Tryz.ntmps106, List.size_toArray, List.length_cons, List.length_nil, Nat.reduceAdd, Nat.reduceSub, Array.replicate_succ, Array.replicate_zero, List.push_toArray, List.append_toArray, List.nil_append, List.cons_append]
 gi_wp2
 gi_loopw [10] (fun iv wr => ∃ k : Nat, iv = .int .i64 k ∧ k ≤ n2 ∧ J (plsL (h.l.take k)) wr ∧ Below n₀ W wr) (fun iv _ => n2 - (intOf iv).toNat)
 case atStart => exact ⟨0, rfl, by omega, h0, Below.refl _ _⟩
 case round =>
  obtain ⟨k, rfl, hk, hJs, hnx⟩ := hrel
  by_cases hlt : k < n2
  ·obtain ⟨x, hx⟩ : ∃ x, h.l[k]? = some x := ⟨_, List.getElem?_eq_getElem (by rw [hn2]; exact hlt)⟩;obtain ⟨b, off, A', cp, rfl, hb, -, hT, hOk⟩ := hg.at_ hx;obtain ⟨a0, a1, a2⟩ := hT.belowB hnx hb;have hm1 := hno x (List.mem_of_getElem? hx);have hpl := plsL_len (h.l.take k) (fun t ht => hno t (List.mem_of_mem_take ht));rw [List.length_take, hn2, Nat.min_eq_left hk] at hpl;have HPT := Hd (plsL_take hx);have HROW := Hd hOk.row;have HPX := Hd (fun j o ho => hPX k j x o hx ho);obtain ⟨s, f, ops⟩ := x;dsimp only at a0 a1 a2 hm1 HPT HROW;generalize hm : ops.length = m at *;have h01 : (k : Int) < (n2 : Int) := by omega
   have hk0 : (0 : Int) ≤ (k : Int) := Int.natCast_nonneg _;have hwk : IntKind.i64.wrap ((k : Int) + 1) = (k : Int) + 1 := IntWalk.i64_in _ (by omega);have hJ1 := hJ _ _ _ none hJs (World.grownBy_alloc wr (.cells #[.int .i64 s, .int .i64 f, .slice A' m cp] 46) none) (by simp);have hnx1 := hnx.alloc (by have := hnx.size; omega) (.cells #[.int .i64 s, .int .i64 f, .slice A' m cp] 46);clear hT hOk
   gi_wp2
   generalize hgt : wr.heap.size = gt
   gi_loopw [18] (fun iv wr => ∃ j : Nat, iv = .int .i64 j ∧ j ≤ m ∧ J (plsL (h.l.take k) ++ plsT k (ops.take j)) wr ∧ Below n₀ W wr) (fun iv _ => m - (intOf iv).toNat)
   case atStart => exact ⟨0, rfl, by omega, by simpa [plsT] using hJ1, hnx1⟩
   case round =>
    obtain ⟨j, rfl, hj, hJs2, hnx2⟩ := hrel;clear hJ1 hnx1 hJs hnx a0 a1 a2 hgt
    by_cases hlt2 : j < m
    ·obtain ⟨y, hy⟩ : ∃ y, ops[j]? = some y := ⟨_, List.getElem?_eq_getElem (by rw [hm]; exact hlt2)⟩;obtain ⟨b', off', rfl, hb', -, hP⟩ := row_op HROW.out hy;obtain ⟨p0, p1, p2, p3⟩ := hP.belowB hnx2 hb';have HTT := Hd (plsT_take (i := k) hy);have HPY := HPX.out j y hy;obtain ⟨yw, yk, yv, yn⟩ := y;dsimp only at p0 p1 p2 p3;have h02 : (j : Int) < (m : Int) := by omega
     have hj0 : (0 : Int) ≤ (j : Int) := Int.natCast_nonneg _;have hwj : IntKind.i64.wrap ((j : Int) + 1) = (j : Int) + 1 := IntWalk.i64_in _ (by omega);have hJ3 := hJ _ _ _ none hJs2 (World.grownBy_alloc wr (.cells #[.bool yw, .int .i64 yk, .int .i64 yv, .int .i64 yn] 48) none) (by simp);have hnx3 := hnx2.alloc (by have := hnx2.size; omega) (.cells #[.bool yw, .int .i64 yk, .int .i64 yv, .int .i64 yn] 48);have hlen : (plsL (h.l.take k) ++ plsT k (ops.take j)).length < 1000001 := by
      rw [List.length_append, plsT_len, List.length_take];omega
     have HAP : Hid (plsL (h.l.take k) ++ plsT k (ops.take (j + 1)) = (plsL (h.l.take k) ++ plsT k (ops.take j)) ++ [(k, j, ⟨yw, yk, yv, yn⟩)]) := Hd (by rw [HTT.out, List.append_assoc]);obtain ⟨fn, tmps, assign, body, hyy, hR⟩ := hY _ (k, j, ⟨yw, yk, yv, yn⟩) _ HPY hJ3 hlen;dsimp only [plC] at hyy hR;clear hP hy HPY
     gi_wp2
     refine hR.mono ?_;rintro e W3 (⟨rfl, hJ4, hk4⟩ | ⟨rfl, hJx4⟩)
     ·gi_wp2
      go_roundw
      case rel => exact ⟨j + 1, by go_num, by omega, by rw [HAP.out]; exact hJ4, hnx3.trans hk4⟩
      case measure => simp [intOf]; omega
     ·gi_wp2
      refine bodyPost_ret (results_none rfl _ _ _) rfl ?_;exact ⟨⟨_, rfl⟩, .inr ⟨_, trivial, hJx4⟩⟩
    ·obtain rfl : j = m := by omega
     have hd2 : decide ((j : Int) < (j : Int)) = false := by simp
     have hJE : J (plsL (h.l.take (k + 1))) wr := by
      rw [HPT.out]
      rwa [show ops.take j = ops from List.take_of_length_le (by rw [hm]; exact Nat.le_refl _)] at hJs2
     gi_wp2
     go_roundw
     case rel => exact ⟨k + 1, by go_num, by omega, hJE, hnx2⟩
     case measure => simp [intOf]; omega
  ·obtain rfl : k = n2 := by omega
   have hd2 : decide ((k : Int) < (k : Int)) = false := by simp
   gi_wp2
   go_end0
   exact ⟨⟨_, rfl⟩, .inl ⟨_, rfl, by rwa [List.take_of_length_le (by rw [hn2]; exact Nat.le_refl _)] at hJs⟩⟩
theorem ops_in (F : Fence) (n : Nat) (hf : F.fn 80) (hro : F.round = none) (A0 A1 A2 : Option Addr) (n0 n1 n2 c0 c1 c2 : Nat) (w : World) :
  CallsIn F n Tryz.prog 80 #[.agg #[.slice A0 n0 c0, .slice A1 n1 c1, .slice A2 n2 c2]] w fun e w' => e = .returned (.func (.func 106) #[] #[.pointer (some ⟨w.heap.size, 0, none⟩)]) ∧ w' = w.alloc (.cells #[.slice A0 n0 c0, .slice A1 n1 c1, .slice A2 n2 c2] 25) := by
 refine callsIn_of_wp Tryz.func80 rfl hf ?_ hro;simp only [Tryz.ntmps80, List.size_toArray, List.length_cons, List.length_nil, Nat.reduceAdd, Nat.reduceSub, Array.replicate_succ, Array.replicate_zero, List.push_toArray, List.append_toArray, List.nil_append, List.cons_append]
 gi_wp2
 go_ret
 exact ⟨rfl, rfl⟩
theorem ops_stops (F : Fence) (n : Nat) (hf : F.fn 106) (hro : F.round = none) (hn : 1 ≤ n) (Bn n₀ : Nat) (A2 : Option Addr) (n2 c2 : Nat) (h : Hst) (w : World) (hBn : Bn < w.heap.size) (hn₀ : n₀ ≤ w.heap.size)
  (hc : w.cell? ⟨Bn, 2, none⟩ = some (.slice A2 n2 c2)) (hg : LRow w n₀ A2 h.l) (hn2 : h.l.length = n2) (hM : n2 ≤ 1000) (hno : ∀ t ∈ h.l, t.ops.length ≤ 1000) :
  SeqStopsK F n Tryz.prog 106 #[.pointer (some ⟨Bn, 0, none⟩)] plC (Below n₀) (fun ys => ys = plsL h.l) (fun _ => True) 1000001 w := fun l J Jx W hW hJ _ hY h0 =>
 ops1_in F n hf hro hn l Bn n₀ A2 n2 c2 h J Jx W (Nat.le_trans hn₀ hW.size) hn2 hM hno hJ (fun _ => True) (fun _ _ _ _ _ _ => trivial) (fun pre x W1 _ => hY pre x W1) ((hW.cell (p := ⟨Bn, 2, none⟩) hBn).trans hc) (hg.only (Only.of_below hW []) (fun _ h => by cases h)) h0
theorem ops_stopsP (F : Fence) (n : Nat) (hf : F.fn 106) (hro : F.round = none) (hn : 1 ≤ n) (Bn n₀ : Nat) (A2 : Option Addr) (n2 c2 : Nat) (h : Hst) (w : World) (hBn : Bn < w.heap.size) (hn₀ : n₀ ≤ w.heap.size)
  (hc : w.cell? ⟨Bn, 2, none⟩ = some (.slice A2 n2 c2)) (hg : LRow w n₀ A2 h.l) (hn2 : h.l.length = n2) (hM : n2 ≤ 1000) (hno : ∀ t ∈ h.l, t.ops.length ≤ 1000)
  (PX : Pl → Prop) (hPX : ∀ i j t o, h.l[i]? = some t → t.ops[j]? = some o → PX (i, j, o)) :
  SeqStopsK F n Tryz.prog 106 #[.pointer (some ⟨Bn, 0, none⟩)] (fun x : {x : Pl // PX x} => plC x.1) (Below n₀) (fun ys => ys.map Subtype.val = plsL h.l) (fun _ => True) 1000001 w := fun l J Jx W hW hJ _ hY h0 => by
 refine (ops1_in F n hf hro hn l Bn n₀ A2 n2 c2 h (fun pre W => ∃ pre' : List {x : Pl // PX x}, pre'.map Subtype.val = pre ∧ J pre' W) (fun pre W => ∃ pre' : List {x : Pl // PX x}, pre'.map Subtype.val = pre ∧ Jx pre' W) W (Nat.le_trans hn₀ hW.size) hn2 hM hno
  (fun pre X Y row ⟨pre', e, hs⟩ hg hr => ⟨pre', e, hJ pre' X Y row hs hg hr⟩) PX hPX ?_ ((hW.cell (p := ⟨Bn, 2, none⟩) hBn).trans hc) (hg.only (Only.of_below hW []) (fun _ h => by cases h)) ⟨[], rfl, h0⟩).mono ?_
 ·rintro pre x W1 hx ⟨pre', rfl, hs⟩ hl;obtain ⟨fn, tmps, assign, body, hyy, hR⟩ := hY pre' ⟨x, hx⟩ W1 hs (by simpa using hl);refine ⟨fn, tmps, assign, body, hyy, hR.mono ?_⟩;rintro e W' (⟨rfl, h1, h2⟩ | ⟨rfl, h1⟩)
  ·exact .inl ⟨rfl, ⟨_, by simp, h1⟩, h2⟩
  ·exact .inr ⟨rfl, _, by simp, h1⟩
 ·rintro e W' ⟨hv, ⟨ys, rfl, pre', e1, hs⟩ | ⟨pre, -, pre', e1, hs⟩⟩
  ·exact ⟨hv, .inl ⟨pre', e1, hs⟩⟩
  ·exact ⟨hv, .inr ⟨pre', trivial, hs⟩⟩
theorem law_i64 : Go.Maps.Keyed Tryz.prog 2 := Go.Maps.int_keyed Tryz.underlying2
theorem zero_unit (w : World) : (zeroValue 109).run Tryz.prog w = .ok (.agg #[]) w := by kernel_rfl
def NWf (n : Int) : Prop := (Lit.int .i64 n).wf = true
def HasN (D : DataW Unit) (p : Int → Bool) : Prop := ∀ n, NWf n → Maps.has D (.int .i64 n) = p n
def hitP (key : Int) (pre : List Pl) (n : Int) : Bool := pre.any fun x => hitN key n x.2.2
theorem HasN.nil (key : Int) : HasN (.map []) (hitP key []) := fun n _ => by simp [Maps.has, hitP]
theorem hitP_snoc (key : Int) (pre : List Pl) (x : Pl) (n : Int) : hitP key (pre ++ [x]) n = (hitP key pre n || hitN key n x.2.2) := by simp [hitP]
theorem HasN.put {D : DataW Unit} {key : Int} {pre : List Pl} (h : HasN D (hitP key pre)) (hD : Maps.IsMap D) {x : Pl} (hw : x.2.2.wr = true) (hk : x.2.2.key = key) (d : DataW Unit) : HasN (D.put (.int .i64 x.2.2.vn) d) (hitP key (pre ++ [x])) := fun n hn => by
 rw [hitP_snoc];unfold hitN;rw [hw, hk]
 by_cases e : x.2.2.vn = n
 ·subst e;rw [Maps.has_put_same hD (by trivial : WideAt.IsKeyLit (.int .i64 x.2.2.vn))];simp
 ·rw [Maps.has_put_other (by intro q; cases q; exact e rfl), h n hn];simp [e]
theorem HasN.skip {D : DataW Unit} {key : Int} {pre : List Pl} (h : HasN D (hitP key pre)) {x : Pl} (hx : (x.2.2.wr && decide (x.2.2.key = key)) = false) : HasN D (hitP key (pre ++ [x])) := fun n hn => by
 rw [hitP_snoc, h n hn];unfold hitN;rw [← Bool.and_assoc, hx];simp
theorem hitP_all (key n : Int) (l : List Tx) : hitP key (plsL l) n = wroteN l key n := by
 unfold hitP plsL wroteN;generalize 0 = s
 induction l generalizing s with
 | nil => rfl
 | cons t l ih =>
  rw [List.zipIdx_cons, List.flatMap_cons, List.any_append, ih (s + 1), List.any_cons]
  congr 1
  unfold plsT;rw [List.any_map]
  show List.any t.ops.zipIdx _ = _
  have : ∀ (l : List Op4) (q : Nat), (l.zipIdx q).any ((fun x : Pl => hitN key n x.2.2) ∘ fun x => (s, x.2, x.1)) = l.any (hitN key n) := by
   intro l
   induction l with
   | nil => intro q; rfl
   | cons o l ih => intro q; rw [List.zipIdx_cons, List.any_cons, List.any_cons, ih (q + 1)]; rfl
  exact this _ _
theorem nwf_nat {n : Nat} (h : n ≤ 1000) : NWf (n : Int) := WalkArith.wf_i64 (by omega)
set_option maxRecDepth 100000 in
theorem kfresh_in (F : Fence) (n : Nat) (hf0 : F.fn 47) (hf1 : F.fn 80) (hf2 : F.fn 106) (hro : F.round = none) (hn : 4 ≤ n) (A0 A1 A2 : Option Addr) (n0 n1 n2 c0 c1 c2 : Nat) (h : Hst) (key : Int) (w : World)
  (hg : LRow w w.heap.size A2 h.l) (hn2 : h.l.length = n2) (hM : n2 ≤ 40) (hno : ∀ t ∈ h.l, t.ops.length ≤ 20) (hI : HInt h) :
  CallsIn F n Tryz.prog 47 #[.agg #[.slice A0 n0 c0, .slice A1 n1 c1, .slice A2 n2 c2], .int .i64 key] w fun e W' => e = .returned (.agg #[.int .i64 1, .int .i64 (freshN h.l key : Int)]) ∧ Below w.heap.size w W' := by
 have h1 : 1 ≤ n := by omega
 have hmm := @run_makeMap Tryz.prog;refine callsIn_of_wp_marks Tryz.func47 rfl hf0 ?_ hro;simp only [Tryz.ntmps47, List.size_toArray, List.length_cons, List.length_nil, Nat.reduceAdd, Nat.reduceSub, Array.replicate_succ, Array.replicate_zero, List.push_toArray, List.append_toArray, List.nil_append, List.cons_append]
 gi_wp2_with (gi_at_call 80; refine (ops_in F (n - 1) hf1 hro _ _ _ _ _ _ _ _ _ _).mono ?_; rintro e w' ⟨rfl, rfl⟩)
 have hB0 : Below w.heap.size w ((((((w.alloc (.cells #[.slice A0 n0 c0, .slice A1 n1 c1, .slice A2 n2 c2] 25)).alloc (.cells #[.int .i64 key] 3)).alloc (.cells #[.int .i64 0, .int .i64 0] 38)).alloc (.map #[] 0)).alloc (.cells #[.map (some (w.heap.size + 1 + 1 + 1))] 105)).alloc (.cells #[.slice A0 n0 c0, .slice A1 n1 c1, .slice A2 n2 c2] 25)) :=
  ((((((Below.refl _ w).alloc (Nat.le_refl _) _).alloc (by simp) _).alloc (by simp; omega) _).alloc (by simp; omega) _).alloc (by simp; omega) _).alloc (by simp; omega) _
 have bK := ((((Boxed.new (w.alloc (.cells #[.slice A0 n0 c0, .slice A1 n1 c1, .slice A2 n2 c2] 25)) 3 (.int .i64 key)).alloc (.cells #[.int .i64 0, .int .i64 0] 38)).alloc (.map #[] 0)).alloc (.cells #[.map (some (w.heap.size + 1 + 1 + 1))] 105)).alloc (.cells #[.slice A0 n0 c0, .slice A1 n1 c1, .slice A2 n2 c2] 25);have bV := (((Blk.made ((w.alloc (.cells #[.slice A0 n0 c0, .slice A1 n1 c1, .slice A2 n2 c2] 25)).alloc (.cells #[.int .i64 key] 3)) 38 #[.int .i64 0, .int .i64 0]).alloc (.map #[] 0)).alloc (.cells #[.map (some (w.heap.size + 1 + 1 + 1))] 105)).alloc (.cells #[.slice A0 n0 c0, .slice A1 n1 c1, .slice A2 n2 c2] 25);have hM0 := World.ownsMap_made (H := Unit) (((w.alloc (.cells #[.slice A0 n0 c0, .slice A1 n1 c1, .slice A2 n2 c2] 25)).alloc (.cells #[.int .i64 key] 3)).alloc (.cells #[.int .i64 0, .int .i64 0] 38)) Tryz.prog 2 unitElem;have hM1 := ownsMap_only (ownsMap_only hM0 ((Only.refl [] _).alloc (.cells #[.map (some (w.heap.size + 1 + 1 + 1))] 105)) (by simp)) ((Only.refl [] _).alloc (.cells #[.slice A0 n0 c0, .slice A1 n1 c1, .slice A2 n2 c2] 25)) (by simp);have bM := (Boxed.new ((((w.alloc (.cells #[.slice A0 n0 c0, .slice A1 n1 c1, .slice A2 n2 c2] 25)).alloc (.cells #[.int .i64 key] 3)).alloc (.cells #[.int .i64 0, .int .i64 0] 38)).alloc (.map #[] 0)) 105 (.map (some (w.heap.size + 1 + 1 + 1)))).alloc (.cells #[.slice A0 n0 c0, .slice A1 n1 c1, .slice A2 n2 c2] 25);have bN := Blk.made (((((w.alloc (.cells #[.slice A0 n0 c0, .slice A1 n1 c1, .slice A2 n2 c2] 25)).alloc (.cells #[.int .i64 key] 3)).alloc (.cells #[.int .i64 0, .int .i64 0] 38)).alloc (.map #[] 0)).alloc (.cells #[.map (some (w.heap.size + 1 + 1 + 1))] 105)) 25 #[.slice A0 n0 c0, .slice A1 n1 c1, .slice A2 n2 c2];have hsz : ((((((w.alloc (.cells #[.slice A0 n0 c0, .slice A1 n1 c1, .slice A2 n2 c2] 25)).alloc (.cells #[.int .i64 key] 3)).alloc (.cells #[.int .i64 0, .int .i64 0] 38)).alloc (.map #[] 0)).alloc (.cells #[.map (some (w.heap.size + 1 + 1 + 1))] 105)).alloc (.cells #[.slice A0 n0 c0, .slice A1 n1 c1, .slice A2 n2 c2] 25)).heap.size = w.heap.size + 6 := by simp
 simp only [World.size_alloc] at bK bV hM1 bM bN;obtain ⟨W0, hW0⟩ : ∃ W0, ((((((w.alloc (.cells #[.slice A0 n0 c0, .slice A1 n1 c1, .slice A2 n2 c2] 25)).alloc (.cells #[.int .i64 key] 3)).alloc (.cells #[.int .i64 0, .int .i64 0] 38)).alloc (.map #[] 0)).alloc (.cells #[.map (some (w.heap.size + 1 + 1 + 1))] 105)).alloc (.cells #[.slice A0 n0 c0, .slice A1 n1 c1, .slice A2 n2 c2] 25)) = W0 := ⟨_, rfl⟩;rw [hW0] at bK bV hM1 bM bN hB0 hsz ⊢;clear hW0 hmm hM0;generalize hgn : w.heap.size + 1 + 1 + 1 + 1 + 1 = gn at *;generalize hgb : w.heap.size + 1 + 1 + 1 + 1 = gb at *;generalize hgm : w.heap.size + 1 + 1 + 1 = gm at *;generalize hgv : w.heap.size + 1 + 1 = gv at *;generalize hgk : w.heap.size + 1 = gk at *;have hg0 : LRow W0 w.heap.size A2 h.l := hg.only (Only.of_below hB0 []) (fun _ h => by cases h);have hgm0 : gm < W0.heap.size := ownsMap_blt hM1;refine wpIn_rangeFunc_ownH hro h1 (gf := 106) (lb := #[.pointer (some ⟨gn, 0, none⟩)]) rfl hf2 (enters_of Tryz.func106 (by kernel_rfl) rfl)
  (ops_stopsP F (n - 1) hf2 hro (by omega) gn w.heap.size A2 n2 c2 h W0 (by omega) (by omega) (bN.at_ 2) hg0 hn2 (by omega) (fun t ht => by have := hno t ht; omega) (fun x => OpI x.2.2) (fun i j t o ht ho => hI t (List.mem_of_getElem? ht) o (List.mem_of_getElem? ho))) belowK_t (belowK_b (by omega)) (Below.refl _ _) (fun _ => rfl)
  (fun pre W => ((((∃ D, W.ownsMap Tryz.prog 2 unitElem gm pre.length D ∧ HasN D (hitP key (pre.map Subtype.val))) ∧ Boxed W gb 105 (.map (some gm))) ∧ Boxed W gk 3 (.int .i64 key)) ∧ Blk W gv 38 #[.int .i64 0, .int .i64 0]) ∧ Below w.heap.size w W)
  (fun _ _ _ => False)
  (OwnFrom.and (OwnFrom.and (OwnFrom.and (OwnFrom.and (fun pre X Y row ⟨D, hD, hp⟩ hg hr => ⟨D, hD.kept hg (fun e => by have := (hr gm e.symm).1; omega), hp⟩) (Own.from (boxed_own gb 105 (fun _ => .map (some gm))) _)) (Own.from (boxed_own gk 3 (fun _ => .int .i64 key)) _)) (Own.from (blk_own gv 38 (fun _ => #[.int .i64 0, .int .i64 0])) _)) (ownFrom_below (Nat.le_refl _) (by omega)))
  (fun _ _ _ _ _ hs _ _ => hs)
  ⟨⟨⟨⟨⟨_, hM1, HasN.nil key⟩, bM⟩, bK⟩, bV⟩, hB0⟩
  (fun x a' W => ∃ B2, Blk W B2 48 #[.bool x.1.2.2.wr, .int .i64 x.1.2.2.key, .int .i64 x.1.2.2.vk, .int .i64 x.1.2.2.vn] ∧
   a' = { tmps := #[.agg #[.slice A0 n0 c0, .slice A1 n1 c1, .slice A2 n2 c2], .int .i64 key, .pointer (some ⟨w.heap.size, 0, none⟩), .pointer (some ⟨gk, 0, none⟩), .pointer (some ⟨gv, 0, none⟩), .pointer (some ⟨gb, 0, none⟩), undef, .pointer (some ⟨B2, 0, none⟩), undef, undef, undef, .map (some gm),
    .agg #[.slice A0 n0 c0, .slice A1 n1 c1, .slice A2 n2 c2], .func (.func 106) #[] #[.pointer (some ⟨gn, 0, none⟩)], .agg #[.int .i64 (x.1.1 : Int), .int .i64 (x.1.2.1 : Int)], .agg #[.bool x.1.2.2.wr, .int .i64 x.1.2.2.key, .int .i64 x.1.2.2.vk, .int .i64 x.1.2.2.vn], undef, undef, undef, undef, undef, undef, undef, undef, undef, undef, undef, undef, undef, undef, undef, undef, undef, undef, undef, undef, undef, undef, undef, undef, undef], defers := [] })
  (fun x a' _ X Y row hs hg hr => by
   obtain ⟨B2, b2, e⟩ := hs;exact ⟨B2, blk_own B2 _ (fun (_ : Unit) => _) () X Y row b2 hg (fun r e => (hr r e).2), e⟩)
  ?assign ?body ?done ?stop
 case assign =>
  rintro l pre x W K ⟨⟨⟨⟨⟨D, hD, hp⟩, bM⟩, bK⟩, bV⟩, hB1⟩ hK;unfold plC
  gi_wp2
  refine hK _ _ ((KeepsOthers.alloc _ _).from _) ((Below.refl _ W).alloc hB1.size _) ⟨⟨⟨⟨⟨D, ownsMap_only hD ((Only.refl [] W).alloc _) (by simp), hp⟩, bM.alloc _⟩, bK.alloc _⟩, bV.alloc _⟩, hB1.alloc hB1.size _⟩
   ⟨W.heap.size, Blk.made W _ _, rfl⟩
 case body =>
  rintro l pre ⟨⟨pi, pj, ⟨yw, yk, yv, yn⟩⟩, hx⟩ a' W hl ⟨r, hr⟩ ⟨⟨⟨⟨⟨D, hD, hp⟩, bM⟩, bK⟩, bV⟩, hB⟩ ⟨B2, bO, rfl⟩ hlt;have hcM := bM.cell;have hcK := bK.cell;dsimp only at bO;have o0 := bO.at_ 0;have o1 := bO.at_ 1;have o3 := bO.at_ 3;have lO := bO.lt;simp at o0 o1 o3;have HSK := fun hh => HasN.skip hp (x := (pi, pj, ⟨yw, yk, yv, yn⟩)) hh
  cases yw with
  | false =>
   gi_wp2
   exact ⟨KeepsFrom.refl _ _, Below.refl _ _, ⟨⟨⟨⟨⟨D, hD.mono (by simp), by rw [List.map_append]; exact HSK rfl⟩, bM⟩, bK⟩, bV⟩, hB⟩⟩
  | true =>
   by_cases hk : yk = key
   ·have hk1 : (yk == key) = true := by simpa using hk
    have HPT := fun d => HasN.put hp hD.isMap (x := (pi, pj, ⟨true, yk, yv, yn⟩)) rfl hk d;have hwy : (Lit.int .i64 yn).wf = true := WalkArith.wf_i64 (by unfold OpI at hx; dsimp only at hx; omega);clear HSK hk
    gi_wp2_with (refine wpListIn_mapUpdate_own _ rfl _ _ _ 105 rfl 2 109 law_i64 Tryz.underlying105 unitElem gm pre.length D rfl hD (by unfold maxLen; omega) _ _ _ rfl rfl (Maps.keyOf_int_mk Tryz.underlying2 hwy) _ [] unitElem_mk ?_; intro w4 hown4 hgrow4)
    have O4 : Only [gm] W w4 := Only.of_grown hgrow4 (fun x hx _ => by cases hx; simp);refine ⟨KeepsFrom.of_grownBy hgrow4 (fun j hj => by cases hj; omega), O4.below (by have := hB.size; omega) (by simp; omega), ⟨⟨⟨⟨⟨_, by simpa using hown4, by rw [List.map_append]; exact HPT _⟩, bM.kept hgrow4 (by simp; omega)⟩, bK.kept hgrow4 (by simp; omega)⟩, O4.blk bV (by simp; omega)⟩, hB.trans (O4.below (by have := hB.size; omega) (by simp; omega))⟩⟩
   ·have hk1 : (yk == key) = false := by simpa using hk
    gi_wp2
    exact ⟨KeepsFrom.refl _ _, Below.refl _ _, ⟨⟨⟨⟨⟨D, hD.mono (by simp), by rw [List.map_append]; exact HSK (by simp [hk])⟩, bM⟩, bK⟩, bV⟩, hB⟩⟩
 case done =>
  rintro D ys W hD hys ⟨⟨⟨⟨⟨D1, hD1, hp⟩, bM⟩, bK⟩, bV⟩, hB⟩ hK;have HP : Hid (∀ q : Int, NWf q → Maps.has D1 (.int .i64 q) = wroteN h.l key q) := Hd (fun q hq => by rw [hp q hq, hys, hitP_all]);have HB1 := Hd (fun (q : Nat) (hq : ∀ m : Nat, m < q → wroteN h.l key (m : Int) = true) => fresh_bound (by rw [hn2]; exact hM) hno hq);have HFR := Hd (fun (q : Nat) (hq : ∀ m : Nat, m < q → wroteN h.l key (m : Int) = true) (hb : q ≤ 800) (hw : wroteN h.l key (q : Int) = false) => fresh_is (by omega) hq hw);generalize ys.length = qn at *;have hDn : Hid (D < W.heap.size) := Hd (Array.getElem?_eq_some_iff.1 hK).1;clear hys hp hg hn2 hno hI hg0 bN bK
  gi_wp2_with fail
  gi_loopw [8] (fun v wr => ∃ q : Nat, v = .int .i64 (q : Int) ∧ q ≤ 800 ∧ Hid (∀ m : Nat, m < q → wroteN h.l key (m : Int) = true) ∧ Hid (Only [] W wr)) (fun v _ => 801 - (intOf v).toNat)
  case atStart => exact ⟨0, rfl, by omega, Hd (fun m hm => by omega), Hd (Only.refl [] W)⟩
  case round =>
   obtain ⟨q, rfl, hq, hall, hO⟩ := hrel;have bM2 := hO.out.blk (show Blk W gb 105 #[.map (some gm)] from bM) (by simp);have cM := bM2.at_ 0;have lM := bM2.lt;simp at cM;have HM2 := Hd (ownsMap_only hD1 hO.out (by simp));have hqw : NWf (q : Int) := nwf_nat (by omega);obtain ⟨bb, hbb⟩ : ∃ bb, bb = wroteN h.l key (q : Int) := ⟨_, rfl⟩;have HHB : Hid (Maps.has D1 (.int .i64 (q : Int)) = bb) := Hd (by rw [hbb]; exact HP.out _ hqw);have hwq : IntKind.i64.wrap ((q : Int) + 1) = (q : Int) + 1 := IntWalk.i64_in _ (by omega);have HBB := Hd hbb;clear hbb bM2;have bV2 := hO.out.blk bV (by simp);have lV := bV2.lt;have v0 := bV2.at_ 0;have v1 := bV2.at_ 1;have f0 := bV2.free 0;have f1 := bV2.free 1;simp at v0 v1;have HV2 := Hd bV2;clear bV2
   cases bb with
   | false =>
    have HFE := Hd (HFR.out q hall.out hq HBB.out.symm)
    gi_wp2_with (refine wpListIn_lookup_own_unit _ rfl _ _ 105 rfl 2 109 law_i64 Tryz.underlying105 (zero_unit _) gm qn D1 rfl HM2.out _ _ rfl (Maps.keyOf_int_mk Tryz.underlying2 hqw) ?_; rw [HHB.out])
    have bV3 := ((HV2.out.put 0 (.int .i64 1)).put 1 (.int .i64 (q : Int))).alloc (.cells #[] 109);have hK3 := (hO.out.keeps D hDn.out (by simp)).trans hK;have hB3 : Below w.heap.size w (((wr.setCell ⟨gv, 0, none⟩ (.int .i64 1)).setCell ⟨gv, 1, none⟩ (.int .i64 (q : Int))).alloc (.cells #[] 109)) := (((hB.trans (hO.out.below (by have := hB.size; omega) (by simp))).setCell (p := ⟨gv, 0, none⟩) (by simp; omega) _).setCell (p := ⟨gv, 1, none⟩) (by simp; omega) _).alloc (by have := hB.size; have := hO.out.size; simp; omega) _;have hK4 := (((KeepsOthers.setCell wr ⟨gv, 0, none⟩ (.int .i64 1)).trans (KeepsOthers.setCell _ ⟨gv, 1, none⟩ (.int .i64 (q : Int)))).trans (KeepsOthers.alloc _ (.cells #[] 109))).same D _ hK3 rfl;generalize (((wr.setCell ⟨gv, 0, none⟩ (.int .i64 1)).setCell ⟨gv, 1, none⟩ (.int .i64 (q : Int))).alloc (.cells #[] 109)) = W3 at *;refine ⟨by simp, .inl ⟨_, _, rfl, run_takeDeferred hK4, ?_⟩⟩;refine ⟨_, results_row1 rfl _ _ gv 38 #[.int .i64 1, .int .i64 (q : Int)] _ rfl ((blk_own gv 38 (fun (_ : Unit) => _)).putObj (s := ()) (.deferred none) (by simpa using bV3) hK4 rfl) Tryz.underlying38 rfl (by kernel_rfl), by rw [HFE.out], hB3.trans (belowK_b (w := w) (Nat.le_refl _) W3 D _ _ (by omega) hK4 rfl rfl)⟩
   | true =>
    have hq8 : Hid (q + 1 ≤ 800) := Hd (HB1.out (q + 1) (fun m hm => by
     by_cases e : m = q
     ·subst e; exact HBB.out.symm
     ·exact hall.out m (by omega)))
    have HALL : Hid (∀ m : Nat, m < q + 1 → wroteN h.l key (m : Int) = true) := Hd (fun m hm => by
     by_cases e : m = q
     ·subst e; exact HBB.out.symm
     ·exact hall.out m (by omega))
    gi_wp2_with (refine wpListIn_lookup_own_unit _ rfl _ _ 105 rfl 2 109 law_i64 Tryz.underlying105 (zero_unit _) gm qn D1 rfl HM2.out _ _ rfl (Maps.keyOf_int_mk Tryz.underlying2 hqw) ?_; rw [HHB.out])
    go_roundw
    case rel => exact ⟨q + 1, by go_num, hq8.out, HALL, Hd (hO.out.alloc _)⟩
    case measure => simp [intOf]; omega
 case stop =>
  rintro D c pre W _ _ h _;exact h.elim
theorem kfresh_any (A0 A1 A2 : Option Addr) (n0 n1 n2 c0 c1 c2 B : Nat) (h : Hst) (key : Int) (w : World) (hg : HIn w B A0 A1 A2 n0 n1 n2 h) (hm : mayH h = true) (hI : HInt h) :
  Calls Tryz.prog 47 #[hval A0 A1 A2 n0 n1 n2 c0 c1 c2, .int .i64 key] w fun e w' => e = .returned (.agg #[.int .i64 1, .int .i64 (freshN h.l key : Int)]) ∧ Only [] w w' :=
 (callsIn_wide.1 (kfresh_in Fence.wide 6 trivial trivial trivial rfl (by omega) A0 A1 A2 n0 n1 n2 c0 c1 c2 h key w hg.at_.r2.up hg.n2 (by rw [← hg.n2]; exact (may_ops hm).1) (may_ops hm).2.1 hI)).mono fun e W' ⟨he, hb⟩ => ⟨he, Only.of_below hb []⟩
end Go.Proofs.YtjfbeeogiejopaaGreatDoor
namespace Go.Proofs.YtjfbeeogiejopaaGreatDoor
open Go.RowKit
open Go.Lib hiding intOf
attribute [local go_sem ↓] Go.wp_at_zero Go.wp_at_succ
theorem read_inv {h : Hst} {a b : Int} {t : Tx} {o : Op4} (hr : readO h a b = some (t, o)) : mayH h = true ∧ ∃ i j : Nat, a = (i : Int) ∧ b = (j : Int) ∧ h.l[i]? = some t ∧ t.ops[j]? = some o ∧ o.wr = false := by
 unfold readO at hr
 cases ho : opAtH h a b with
 | none => rw [ho] at hr; cases hr
 | some x =>
  rw [ho] at hr;simp only [Option.bind_some] at hr
  split at hr
  ·cases hr
  ·rename_i hw
   simp at hr;subst hr;unfold opAtH txAtH at ho
   split at ho
   ·rename_i hc
    cases hx : h.l[a.toNat]? with
    | none => rw [hx] at ho; cases ho
    | some t' =>
     rw [hx] at ho;simp only [Option.bind_some] at ho
     split at ho
     ·rename_i hb
      cases hy : t'.ops[b.toNat]? with
      | none => rw [hy] at ho; cases ho
      | some o' =>
       rw [hy] at ho;simp at ho;obtain ⟨rfl, rfl⟩ := ho;exact ⟨hc.1, a.toNat, b.toNat, by omega, by omega, hx, hy, by simpa using hw⟩
     ·cases ho
   ·cases ho

end Go.Proofs.YtjfbeeogiejopaaGreatDoor
namespace Go.Proofs.YtjfbeeogiejopaaGreatDoor
open Go.RowKit
open Go.Lib hiding intOf
def short11 (s : ByteArray) : ByteArray := s.extract 0 (min s.size 100)
theorem short11_size (s : ByteArray) : (short11 s).size ≤ 100 := by
 unfold short11;rw [ByteArray.size_extract];omega
def fewTx (t : Tx) : Tx := { t with ops := t.ops.take 25 }
def fewH (h : Hst) : Hst := ⟨(h.ss.take 25).map short11, (h.ks.take 45).map short11, (h.l.take 45).map fewTx⟩
theorem few_small (h : Hst) : HSmall (fewH h) where
 s := fun x hx => by
  obtain ⟨y, -, rfl⟩ := List.mem_map.1 hx;have := short11_size y;omega
 k := fun x hx => by
  obtain ⟨y, -, rfl⟩ := List.mem_map.1 hx;have := short11_size y;omega
 ns := by unfold fewH; dsimp only; rw [List.length_map, List.length_take]; omega
 nk := by unfold fewH; dsimp only; rw [List.length_map, List.length_take]; omega
 nl := by unfold fewH; dsimp only; rw [List.length_map, List.length_take]; omega
 no := fun t ht => by
  obtain ⟨y, -, rfl⟩ := List.mem_map.1 ht;unfold fewTx;dsimp only;rw [List.length_take];omega
end Go.Proofs.YtjfbeeogiejopaaGreatDoor
