/- Parts. -/
import Derived.Test.YtjfbeeogiejopaaGreatDoorWorldNextCardK16
import Derived.Maps.OwnIn
import Derived.Sort.MapsRangeIn
import Derived.StillTailTactics
set_option maxRecDepth 10000
set_option maxHeartbeats 16000000
set_option linter.unusedVariables false
set_option linter.unusedSimpArgs false
namespace Go.Proofs.YtjfbeeogiejopaaGreatDoor
abbrev Pl := Nat × Nat × Op4
def plC (x : Pl) : Array Value := #[.agg #[.int .i64 (x.1 : Int), .int .i64 (x.2.1 : Int)], .agg #[.bool x.2.2.wr, .int .i64 x.2.2.key, .int .i64 x.2.2.vk, .int .i64 x.2.2.vn]]
def plsT (i : Nat) (l : List Op4) : List Pl := l.zipIdx.map fun x => (i, x.2, x.1)
def plsL (l : List Tx) : List Pl := l.zipIdx.flatMap fun x => plsT x.2 x.1.ops
theorem plsT_take {i : Nat} {l : List Op4} {j : Nat} {x : Op4} (h : l[j]? = some x) : plsT i (l.take (j + 1)) = plsT i (l.take j) ++ [(i, j, x)] := by
 have hj := (List.getElem?_eq_some_iff.1 h).1;unfold plsT;rw [List.take_add_one, h, List.zipIdx_append, List.map_append, List.length_take, Nat.min_eq_left (Nat.le_of_lt hj)];simp [List.zipIdx]
theorem plsL_take {l : List Tx} {k : Nat} {t : Tx} (h : l[k]? = some t) : plsL (l.take (k + 1)) = plsL (l.take k) ++ plsT k t.ops := by
 have hk := (List.getElem?_eq_some_iff.1 h).1;unfold plsL;rw [List.take_add_one, h, List.zipIdx_append, List.flatMap_append, List.length_take, Nat.min_eq_left (Nat.le_of_lt hk)];simp [List.zipIdx]
theorem plsT_len (i : Nat) (l : List Op4) : (plsT i l).length = l.length := by simp [plsT]
theorem plsL_len : ∀ (l : List Tx), (∀ t ∈ l, t.ops.length ≤ 1000) → (plsL l).length ≤ l.length * 1000 := by
 intro l;unfold plsL;generalize 0 = s
 induction l generalizing s with
 | nil => intro _; simp
 | cons t l ih =>
  intro h;have h1 := ih (s + 1) (fun x hx => h x (List.mem_cons_of_mem _ hx));have h2 := h t List.mem_cons_self;rw [List.zipIdx_cons, List.flatMap_cons, List.length_append, plsT_len, List.length_cons]
  show t.ops.length + _ ≤ _
  omega
def placeC (l : List (Int × Int)) : List Value := l.flatMap fun e => [.int .i64 e.1, .int .i64 e.2]
theorem placeC_append (l k : List (Int × Int)) : placeC (l ++ k) = placeC l ++ placeC k := by simp [placeC]
def lostP (ps : List Pl) : List (Int × Int) := (ps.filter fun x => decide (x.2.2.vk = 2)).map fun x => ((x.1 : Int), (x.2.1 : Int))
theorem lostP_hit (pre : List Pl) {x : Pl} (h : x.2.2.vk = 2) : lostP (pre ++ [x]) = lostP pre ++ [((x.1 : Int), (x.2.1 : Int))] := by simp [lostP, h]
theorem lostP_miss (pre : List Pl) {x : Pl} (h : ¬ x.2.2.vk = 2) : lostP (pre ++ [x]) = lostP pre := by simp [lostP, h]
theorem lostP_le (pre : List Pl) : (lostP pre).length ≤ pre.length := by
 unfold lostP;rw [List.length_map];exact List.length_filter_le _ _
theorem info_place : (Tryz.prog.info? 27).map (fun i => (i.zero, i.size, i.bytes)) = some (some (.agg #[.int .i64 0, .int .i64 0]), 2, 16) := by kernel_rfl
open Go.RowKit Go.Shelf
open Go.Lib hiding intOf
attribute [local go_sem] Oper.semAt_some
set_option maxRecDepth 100000 in
theorem ops1_in (F : Fence) (n : Nat) (hf : F.fn 106) (hro : F.round = none) (hn : 1 ≤ n) (l Bn n₀ : Nat) (A2 : Option Addr) (n2 c2 : Nat) (h : Hst) (J Jx : List Pl → World → Prop) (W : World) (hW0 : n₀ ≤ W.heap.size)
  (hn2 : h.l.length = n2) (hM : n2 ≤ 1000) (hno : ∀ t ∈ h.l, t.ops.length ≤ 1000) (hJ : AbidesFrom W.heap.size J)
  (PX : Pl → Prop) (hPX : ∀ i j t o, h.l[i]? = some t → t.ops[j]? = some o → PX (i, j, o))
  (hY : ∀ pre x W1, PX x → J pre W1 → pre.length < 1000001 → YieldAt F (n - 1) Tryz.prog l (plC x) W1 fun e W' =>
   (e = .returned (.bool true) ∧ J (pre ++ [x]) W' ∧ Below n₀ W1 W') ∨ (e = .returned (.bool false) ∧ Jx (pre ++ [x]) W'))
  (hBn : W.cell? ⟨Bn, 2, none⟩ = some (.slice A2 n2 c2)) (hg : LRow W n₀ A2 h.l) (h0 : J [] W) :
  CallsIn F n Tryz.prog 106 #[.func (.yield l) #[] #[], .pointer (some ⟨Bn, 0, none⟩)] W fun e W' => (∃ v, e = .returned v) ∧
   ((∃ ys, ys = plsL h.l ∧ J ys W') ∨ (∃ pre, True ∧ Jx pre W')) := by
 refine callsIn_of_wp Tryz.func106 rfl hf ?_ hro;simp only [Tryz.ntmps106, List.size_toArray, List.length_cons, List.length_nil, Nat.reduceAdd, Nat.reduceSub, Array.replicate_succ, Array.replicate_zero, List.push_toArray, List.append_toArray, List.nil_append, List.cons_append]
 gi_wp2
 gi_loopw [10] (fun iv wr => ∃ k : Nat, iv = .int .i64 k ∧ k ≤ n2 ∧ J (plsL (h.l.take k)) wr ∧ Below n₀ W wr) (fun iv _ => n2 - (intOf iv).toNat)
 case atStart => exact ⟨0, rfl, by omega, h0, Below.refl _ _⟩
 case round =>
  obtain ⟨k, rfl, hk, hJs, hnx⟩ := hrel
  by_cases hlt : k < n2
  ·obtain ⟨x, hx⟩ : ∃ x, h.l[k]? = some x := ⟨_, List.getElem?_eq_getElem (by rw [hn2]; exact hlt)⟩;obtain ⟨b, off, A', cp, rfl, hb, -, hT, hOk⟩ := hg.at_ hx;obtain ⟨a0, a1, a2⟩ := hT.belowB hnx hb;have hm1 := hno x (List.mem_of_getElem? hx);have hpl := plsL_len (h.l.take k) (fun t ht => hno t (List.mem_of_mem_take ht));rw [List.length_take, hn2, Nat.min_eq_left hk] at hpl;have HPT := Hd (plsL_take hx);have HROW := Hd hOk.row;have HPX := Hd (fun j o ho => hPX k j x o hx ho);obtain ⟨s, f, ops⟩ := x;dsimp only at a0 a1 a2 hm1 HPT HROW;generalize hm : ops.length = m at *;have h01 : (k : Int) < (n2 : Int) := by omega
   have hk0 : (0 : Int) ≤ (k : Int) := Int.natCast_nonneg _;have hwk : IntKind.i64.wrap ((k : Int) + 1) = (k : Int) + 1 := IntWalk.i64_in _ (by omega);have hJ1 := hJ _ _ _ none hJs (World.grownBy_alloc wr (.cells #[.int .i64 s, .int .i64 f, .slice A' m cp] 46) none) (by simp);have hnx1 := hnx.alloc (by have := hnx.size; omega) (.cells #[.int .i64 s, .int .i64 f, .slice A' m cp] 46);clear hT hOk
   gi_wp2
   generalize hgt : wr.heap.size = gt
   gi_loopw [18] (fun iv wr => ∃ j : Nat, iv = .int .i64 j ∧ j ≤ m ∧ J (plsL (h.l.take k) ++ plsT k (ops.take j)) wr ∧ Below n₀ W wr) (fun iv _ => m - (intOf iv).toNat)
   case atStart => exact ⟨0, rfl, by omega, by simpa [plsT] using hJ1, hnx1⟩
   case round =>
    obtain ⟨j, rfl, hj, hJs2, hnx2⟩ := hrel;clear hJ1 hnx1 hJs hnx a0 a1 a2 hgt
    by_cases hlt2 : j < m
    ·obtain ⟨y, hy⟩ : ∃ y, ops[j]? = some y := ⟨_, List.getElem?_eq_getElem (by rw [hm]; exact hlt2)⟩;obtain ⟨b', off', rfl, hb', -, hP⟩ := row_op HROW.out hy;obtain ⟨p0, p1, p2, p3⟩ := hP.belowB hnx2 hb';have HTT := Hd (plsT_take (i := k) hy);have HPY := HPX.out j y hy;obtain ⟨yw, yk, yv, yn⟩ := y;dsimp only at p0 p1 p2 p3;have h02 : (j : Int) < (m : Int) := by omega
     have hj0 : (0 : Int) ≤ (j : Int) := Int.natCast_nonneg _;have hwj : IntKind.i64.wrap ((j : Int) + 1) = (j : Int) + 1 := IntWalk.i64_in _ (by omega);have hJ3 := hJ _ _ _ none hJs2 (World.grownBy_alloc wr (.cells #[.bool yw, .int .i64 yk, .int .i64 yv, .int .i64 yn] 48) none) (by simp);have hnx3 := hnx2.alloc (by have := hnx2.size; omega) (.cells #[.bool yw, .int .i64 yk, .int .i64 yv, .int .i64 yn] 48);have hlen : (plsL (h.l.take k) ++ plsT k (ops.take j)).length < 1000001 := by
      rw [List.length_append, plsT_len, List.length_take];omega
     have HAP : Hid (plsL (h.l.take k) ++ plsT k (ops.take (j + 1)) = (plsL (h.l.take k) ++ plsT k (ops.take j)) ++ [(k, j, ⟨yw, yk, yv, yn⟩)]) := Hd (by rw [HTT.out, List.append_assoc]);obtain ⟨fn, tmps, assign, body, hyy, hR⟩ := hY _ (k, j, ⟨yw, yk, yv, yn⟩) _ HPY hJ3 hlen;dsimp only [plC] at hyy hR;clear hP hy HPY
     gi_wp2
     refine hR.mono ?_;rintro e W3 (⟨rfl, hJ4, hk4⟩ | ⟨rfl, hJx4⟩)
     ·gi_wp2
      go_roundw
      case rel => exact ⟨j + 1, by go_num, by omega, by rw [HAP.out]; exact hJ4, hnx3.trans hk4⟩
      case measure => simp [intOf]; omega
     ·gi_wp2
      refine bodyPost_ret (results_none rfl _ _ _) rfl ?_;exact ⟨⟨_, rfl⟩, .inr ⟨_, trivial, hJx4⟩⟩
    ·obtain rfl : j = m := by omega
     have hd2 : decide ((j : Int) < (j : Int)) = false := by simp
     have hJE : J (plsL (h.l.take (k + 1))) wr := by
      rw [HPT.out]
      rwa [show ops.take j = ops from List.take_of_length_le (by rw [hm]; exact Nat.le_refl _)] at hJs2
     gi_wp2
     go_roundw
     case rel => exact ⟨k + 1, by go_num, by omega, hJE, hnx2⟩
     case measure => simp [intOf]; omega
  ·obtain rfl : k = n2 := by omega
   have hd2 : decide ((k : Int) < (k : Int)) = false := by simp
   gi_wp2
   go_end0
   exact ⟨⟨_, rfl⟩, .inl ⟨_, rfl, by rwa [List.take_of_length_le (by rw [hn2]; exact Nat.le_refl _)] at hJs⟩⟩
theorem ops_in (F : Fence) (n : Nat) (hf : F.fn 80) (hro : F.round = none) (A0 A1 A2 : Option Addr) (n0 n1 n2 c0 c1 c2 : Nat) (w : World) :
  CallsIn F n Tryz.prog 80 #[.agg #[.slice A0 n0 c0, .slice A1 n1 c1, .slice A2 n2 c2]] w fun e w' => e = .returned (.func (.func 106) #[] #[.pointer (some ⟨w.heap.size, 0, none⟩)]) ∧ w' = w.alloc (.cells #[.slice A0 n0 c0, .slice A1 n1 c1, .slice A2 n2 c2] 25) := by
 refine callsIn_of_wp Tryz.func80 rfl hf ?_ hro;simp only [Tryz.ntmps80, List.size_toArray, List.length_cons, List.length_nil, Nat.reduceAdd, Nat.reduceSub, Array.replicate_succ, Array.replicate_zero, List.push_toArray, List.append_toArray, List.nil_append, List.cons_append]
 gi_wp2
 go_ret
 exact ⟨rfl, rfl⟩
theorem ops_stops (F : Fence) (n : Nat) (hf : F.fn 106) (hro : F.round = none) (hn : 1 ≤ n) (Bn n₀ : Nat) (A2 : Option Addr) (n2 c2 : Nat) (h : Hst) (w : World) (hBn : Bn < w.heap.size) (hn₀ : n₀ ≤ w.heap.size)
  (hc : w.cell? ⟨Bn, 2, none⟩ = some (.slice A2 n2 c2)) (hg : LRow w n₀ A2 h.l) (hn2 : h.l.length = n2) (hM : n2 ≤ 1000) (hno : ∀ t ∈ h.l, t.ops.length ≤ 1000) :
  SeqStopsK F n Tryz.prog 106 #[.pointer (some ⟨Bn, 0, none⟩)] plC (Below n₀) (fun ys => ys = plsL h.l) (fun _ => True) 1000001 w := fun l J Jx W hW hJ _ hY h0 =>
 ops1_in F n hf hro hn l Bn n₀ A2 n2 c2 h J Jx W (Nat.le_trans hn₀ hW.size) hn2 hM hno hJ (fun _ => True) (fun _ _ _ _ _ _ => trivial) (fun pre x W1 _ => hY pre x W1) ((hW.cell (p := ⟨Bn, 2, none⟩) hBn).trans hc) (hg.only (Only.of_below hW []) (fun _ h => by cases h)) h0
theorem ops_stopsP (F : Fence) (n : Nat) (hf : F.fn 106) (hro : F.round = none) (hn : 1 ≤ n) (Bn n₀ : Nat) (A2 : Option Addr) (n2 c2 : Nat) (h : Hst) (w : World) (hBn : Bn < w.heap.size) (hn₀ : n₀ ≤ w.heap.size)
  (hc : w.cell? ⟨Bn, 2, none⟩ = some (.slice A2 n2 c2)) (hg : LRow w n₀ A2 h.l) (hn2 : h.l.length = n2) (hM : n2 ≤ 1000) (hno : ∀ t ∈ h.l, t.ops.length ≤ 1000)
  (PX : Pl → Prop) (hPX : ∀ i j t o, h.l[i]? = some t → t.ops[j]? = some o → PX (i, j, o)) :
  SeqStopsK F n Tryz.prog 106 #[.pointer (some ⟨Bn, 0, none⟩)] (fun x : {x : Pl // PX x} => plC x.1) (Below n₀) (fun ys => ys.map Subtype.val = plsL h.l) (fun _ => True) 1000001 w := fun l J Jx W hW hJ _ hY h0 => by
 refine (ops1_in F n hf hro hn l Bn n₀ A2 n2 c2 h (fun pre W => ∃ pre' : List {x : Pl // PX x}, pre'.map Subtype.val = pre ∧ J pre' W) (fun pre W => ∃ pre' : List {x : Pl // PX x}, pre'.map Subtype.val = pre ∧ Jx pre' W) W (Nat.le_trans hn₀ hW.size) hn2 hM hno
  (fun pre X Y row ⟨pre', e, hs⟩ hg hr => ⟨pre', e, hJ pre' X Y row hs hg hr⟩) PX hPX ?_ ((hW.cell (p := ⟨Bn, 2, none⟩) hBn).trans hc) (hg.only (Only.of_below hW []) (fun _ h => by cases h)) ⟨[], rfl, h0⟩).mono ?_
 ·rintro pre x W1 hx ⟨pre', rfl, hs⟩ hl;obtain ⟨fn, tmps, assign, body, hyy, hR⟩ := hY pre' ⟨x, hx⟩ W1 hs (by simpa using hl);refine ⟨fn, tmps, assign, body, hyy, hR.mono ?_⟩;rintro e W' (⟨rfl, h1, h2⟩ | ⟨rfl, h1⟩)
  ·exact .inl ⟨rfl, ⟨_, by simp, h1⟩, h2⟩
  ·exact .inr ⟨rfl, _, by simp, h1⟩
 ·rintro e W' ⟨hv, ⟨ys, rfl, pre', e1, hs⟩ | ⟨pre, -, pre', e1, hs⟩⟩
  ·exact ⟨hv, .inl ⟨pre', e1, hs⟩⟩
  ·exact ⟨hv, .inr ⟨pre', trivial, hs⟩⟩
theorem law_i64 : Go.Maps.Keyed Tryz.prog 2 := Go.Maps.int_keyed Tryz.underlying2
theorem zero_unit (w : World) : (zeroValue 109).run Tryz.prog w = .ok (.agg #[]) w := by kernel_rfl
def NWf (n : Int) : Prop := (Lit.int .i64 n).wf = true
def HasN (D : DataW Unit) (p : Int → Bool) : Prop := ∀ n, NWf n → Maps.has D (.int .i64 n) = p n
def hitP (key : Int) (pre : List Pl) (n : Int) : Bool := pre.any fun x => hitN key n x.2.2
theorem HasN.nil (key : Int) : HasN (.map []) (hitP key []) := fun n _ => by simp [Maps.has, hitP]
theorem hitP_snoc (key : Int) (pre : List Pl) (x : Pl) (n : Int) : hitP key (pre ++ [x]) n = (hitP key pre n || hitN key n x.2.2) := by simp [hitP]
theorem HasN.put {D : DataW Unit} {key : Int} {pre : List Pl} (h : HasN D (hitP key pre)) (hD : Maps.IsMap D) {x : Pl} (hw : x.2.2.wr = true) (hk : x.2.2.key = key) (d : DataW Unit) : HasN (D.put (.int .i64 x.2.2.vn) d) (hitP key (pre ++ [x])) := fun n hn => by
 rw [hitP_snoc];unfold hitN;rw [hw, hk]
 by_cases e : x.2.2.vn = n
 ·subst e;rw [Maps.has_put_same hD (by trivial : WideAt.IsKeyLit (.int .i64 x.2.2.vn))];simp
 ·rw [Maps.has_put_other (by intro q; cases q; exact e rfl), h n hn];simp [e]
theorem HasN.skip {D : DataW Unit} {key : Int} {pre : List Pl} (h : HasN D (hitP key pre)) {x : Pl} (hx : (x.2.2.wr && decide (x.2.2.key = key)) = false) : HasN D (hitP key (pre ++ [x])) := fun n hn => by
 rw [hitP_snoc, h n hn];unfold hitN;rw [← Bool.and_assoc, hx];simp
theorem hitP_all (key n : Int) (l : List Tx) : hitP key (plsL l) n = wroteN l key n := by
 unfold hitP plsL wroteN;generalize 0 = s
 induction l generalizing s with
 | nil => rfl
 | cons t l ih =>
  rw [List.zipIdx_cons, List.flatMap_cons, List.any_append, ih (s + 1), List.any_cons]
  congr 1
  unfold plsT;rw [List.any_map]
  show List.any t.ops.zipIdx _ = _
  have : ∀ (l : List Op4) (q : Nat), (l.zipIdx q).any ((fun x : Pl => hitN key n x.2.2) ∘ fun x => (s, x.2, x.1)) = l.any (hitN key n) := by
   intro l
   induction l with
   | nil => intro q; rfl
   | cons o l ih => intro q; rw [List.zipIdx_cons, List.any_cons, List.any_cons, ih (q + 1)]; rfl
  exact this _ _
theorem nwf_nat {n : Nat} (h : n ≤ 1000) : NWf (n : Int) := WalkArith.wf_i64 (by omega)
set_option maxRecDepth 100000 in
theorem kfresh_in (F : Fence) (n : Nat) (hf0 : F.fn 47) (hf1 : F.fn 80) (hf2 : F.fn 106) (hro : F.round = none) (hn : 4 ≤ n) (A0 A1 A2 : Option Addr) (n0 n1 n2 c0 c1 c2 : Nat) (h : Hst) (key : Int) (w : World)
  (hg : LRow w w.heap.size A2 h.l) (hn2 : h.l.length = n2) (hM : n2 ≤ 40) (hno : ∀ t ∈ h.l, t.ops.length ≤ 20) (hI : HInt h) :
  CallsIn F n Tryz.prog 47 #[.agg #[.slice A0 n0 c0, .slice A1 n1 c1, .slice A2 n2 c2], .int .i64 key] w fun e W' => e = .returned (.agg #[.int .i64 1, .int .i64 (freshN h.l key : Int)]) ∧ Below w.heap.size w W' := by
 have h1 : 1 ≤ n := by omega
 have hmm := @run_makeMap Tryz.prog;refine callsIn_of_wp_marks Tryz.func47 rfl hf0 ?_ hro;simp only [Tryz.ntmps47, List.size_toArray, List.length_cons, List.length_nil, Nat.reduceAdd, Nat.reduceSub, Array.replicate_succ, Array.replicate_zero, List.push_toArray, List.append_toArray, List.nil_append, List.cons_append]
 gi_wp2_with (gi_at_call 80; refine (ops_in F (n - 1) hf1 hro _ _ _ _ _ _ _ _ _ _).mono ?_; rintro e w' ⟨rfl, rfl⟩)
 have hB0 : Below w.heap.size w ((((((w.alloc (.cells #[.slice A0 n0 c0, .slice A1 n1 c1, .slice A2 n2 c2] 25)).alloc (.cells #[.int .i64 key] 3)).alloc (.cells #[.int .i64 0, .int .i64 0] 38)).alloc (.map #[] 0)).alloc (.cells #[.map (some (w.heap.size + 1 + 1 + 1))] 105)).alloc (.cells #[.slice A0 n0 c0, .slice A1 n1 c1, .slice A2 n2 c2] 25)) :=
  ((((((Below.refl _ w).alloc (Nat.le_refl _) _).alloc (by simp) _).alloc (by simp; omega) _).alloc (by simp; omega) _).alloc (by simp; omega) _).alloc (by simp; omega) _
 have bK := ((((Boxed.new (w.alloc (.cells #[.slice A0 n0 c0, .slice A1 n1 c1, .slice A2 n2 c2] 25)) 3 (.int .i64 key)).alloc (.cells #[.int .i64 0, .int .i64 0] 38)).alloc (.map #[] 0)).alloc (.cells #[.map (some (w.heap.size + 1 + 1 + 1))] 105)).alloc (.cells #[.slice A0 n0 c0, .slice A1 n1 c1, .slice A2 n2 c2] 25);have bV := (((Blk.made ((w.alloc (.cells #[.slice A0 n0 c0, .slice A1 n1 c1, .slice A2 n2 c2] 25)).alloc (.cells #[.int .i64 key] 3)) 38 #[.int .i64 0, .int .i64 0]).alloc (.map #[] 0)).alloc (.cells #[.map (some (w.heap.size + 1 + 1 + 1))] 105)).alloc (.cells #[.slice A0 n0 c0, .slice A1 n1 c1, .slice A2 n2 c2] 25);have hM0 := World.ownsMap_made (H := Unit) (((w.alloc (.cells #[.slice A0 n0 c0, .slice A1 n1 c1, .slice A2 n2 c2] 25)).alloc (.cells #[.int .i64 key] 3)).alloc (.cells #[.int .i64 0, .int .i64 0] 38)) Tryz.prog 2 unitElem;have hM1 := ownsMap_only (ownsMap_only hM0 ((Only.refl [] _).alloc (.cells #[.map (some (w.heap.size + 1 + 1 + 1))] 105)) (by simp)) ((Only.refl [] _).alloc (.cells #[.slice A0 n0 c0, .slice A1 n1 c1, .slice A2 n2 c2] 25)) (by simp);have bM := (Boxed.new ((((w.alloc (.cells #[.slice A0 n0 c0, .slice A1 n1 c1, .slice A2 n2 c2] 25)).alloc (.cells #[.int .i64 key] 3)).alloc (.cells #[.int .i64 0, .int .i64 0] 38)).alloc (.map #[] 0)) 105 (.map (some (w.heap.size + 1 + 1 + 1)))).alloc (.cells #[.slice A0 n0 c0, .slice A1 n1 c1, .slice A2 n2 c2] 25);have bN := Blk.made (((((w.alloc (.cells #[.slice A0 n0 c0, .slice A1 n1 c1, .slice A2 n2 c2] 25)).alloc (.cells #[.int .i64 key] 3)).alloc (.cells #[.int .i64 0, .int .i64 0] 38)).alloc (.map #[] 0)).alloc (.cells #[.map (some (w.heap.size + 1 + 1 + 1))] 105)) 25 #[.slice A0 n0 c0, .slice A1 n1 c1, .slice A2 n2 c2];have hsz : ((((((w.alloc (.cells #[.slice A0 n0 c0, .slice A1 n1 c1, .slice A2 n2 c2] 25)).alloc (.cells #[.int .i64 key] 3)).alloc (.cells #[.int .i64 0, .int .i64 0] 38)).alloc (.map #[] 0)).alloc (.cells #[.map (some (w.heap.size + 1 + 1 + 1))] 105)).alloc (.cells #[.slice A0 n0 c0, .slice A1 n1 c1, .slice A2 n2 c2] 25)).heap.size = w.heap.size + 6 := by simp
 simp only [World.size_alloc] at bK bV hM1 bM bN;obtain ⟨W0, hW0⟩ : ∃ W0, ((((((w.alloc (.cells #[.slice A0 n0 c0, .slice A1 n1 c1, .slice A2 n2 c2] 25)).alloc (.cells #[.int .i64 key] 3)).alloc (.cells #[.int .i64 0, .int .i64 0] 38)).alloc (.map #[] 0)).alloc (.cells #[.map (some (w.heap.size + 1 + 1 + 1))] 105)).alloc (.cells #[.slice A0 n0 c0, .slice A1 n1 c1, .slice A2 n2 c2] 25)) = W0 := ⟨_, rfl⟩;rw [hW0] at bK bV hM1 bM bN hB0 hsz ⊢;clear hW0 hmm hM0;generalize hgn : w.heap.size + 1 + 1 + 1 + 1 + 1 = gn at *;generalize hgb : w.heap.size + 1 + 1 + 1 + 1 = gb at *;generalize hgm : w.heap.size + 1 + 1 + 1 = gm at *;generalize hgv : w.heap.size + 1 + 1 = gv at *;generalize hgk : w.heap.size + 1 = gk at *;have hg0 : LRow W0 w.heap.size A2 h.l := hg.only (Only.of_below hB0 []) (fun _ h => by cases h);have hgm0 : gm < W0.heap.size := ownsMap_blt hM1;refine wpIn_rangeFunc_ownH hro h1 (gf := 106) (lb := #[.pointer (some ⟨gn, 0, none⟩)]) rfl hf2 (enters_of Tryz.func106 (by kernel_rfl) rfl)
  (ops_stopsP F (n - 1) hf2 hro (by omega) gn w.heap.size A2 n2 c2 h W0 (by omega) (by omega) (bN.at_ 2) hg0 hn2 (by omega) (fun t ht => by have := hno t ht; omega) (fun x => OpI x.2.2) (fun i j t o ht ho => hI t (List.mem_of_getElem? ht) o (List.mem_of_getElem? ho))) belowK_t (belowK_b (by omega)) (Below.refl _ _) (fun _ => rfl)
  (fun pre W => ((((∃ D, W.ownsMap Tryz.prog 2 unitElem gm pre.length D ∧ HasN D (hitP key (pre.map Subtype.val))) ∧ Boxed W gb 105 (.map (some gm))) ∧ Boxed W gk 3 (.int .i64 key)) ∧ Blk W gv 38 #[.int .i64 0, .int .i64 0]) ∧ Below w.heap.size w W)
  (fun _ _ _ => False)
  (OwnFrom.and (OwnFrom.and (OwnFrom.and (OwnFrom.and (fun pre X Y row ⟨D, hD, hp⟩ hg hr => ⟨D, hD.kept hg (fun e => by have := (hr gm e.symm).1; omega), hp⟩) (Own.from (boxed_own gb 105 (fun _ => .map (some gm))) _)) (Own.from (boxed_own gk 3 (fun _ => .int .i64 key)) _)) (Own.from (blk_own gv 38 (fun _ => #[.int .i64 0, .int .i64 0])) _)) (ownFrom_below (Nat.le_refl _) (by omega)))
  (fun _ _ _ _ _ hs _ _ => hs)
  ⟨⟨⟨⟨⟨_, hM1, HasN.nil key⟩, bM⟩, bK⟩, bV⟩, hB0⟩
  (fun x a' W => ∃ B2, Blk W B2 48 #[.bool x.1.2.2.wr, .int .i64 x.1.2.2.key, .int .i64 x.1.2.2.vk, .int .i64 x.1.2.2.vn] ∧
   a' = { tmps := #[.agg #[.slice A0 n0 c0, .slice A1 n1 c1, .slice A2 n2 c2], .int .i64 key, .pointer (some ⟨w.heap.size, 0, none⟩), .pointer (some ⟨gk, 0, none⟩), .pointer (some ⟨gv, 0, none⟩), .pointer (some ⟨gb, 0, none⟩), undef, .pointer (some ⟨B2, 0, none⟩), undef, undef, undef, .map (some gm),
    .agg #[.slice A0 n0 c0, .slice A1 n1 c1, .slice A2 n2 c2], .func (.func 106) #[] #[.pointer (some ⟨gn, 0, none⟩)], .agg #[.int .i64 (x.1.1 : Int), .int .i64 (x.1.2.1 : Int)], .agg #[.bool x.1.2.2.wr, .int .i64 x.1.2.2.key, .int .i64 x.1.2.2.vk, .int .i64 x.1.2.2.vn], undef, undef, undef, undef, undef, undef, undef, undef, undef, undef, undef, undef, undef, undef, undef, undef, undef, undef, undef, undef, undef, undef, undef, undef, undef], defers := [] })
  (fun x a' _ X Y row hs hg hr => by
   obtain ⟨B2, b2, e⟩ := hs;exact ⟨B2, blk_own B2 _ (fun (_ : Unit) => _) () X Y row b2 hg (fun r e => (hr r e).2), e⟩)
  ?assign ?body ?done ?stop
 case assign =>
  rintro l pre x W K ⟨⟨⟨⟨⟨D, hD, hp⟩, bM⟩, bK⟩, bV⟩, hB1⟩ hK;unfold plC
  gi_wp2
  refine hK _ _ ((KeepsOthers.alloc _ _).from _) ((Below.refl _ W).alloc hB1.size _) ⟨⟨⟨⟨⟨D, ownsMap_only hD ((Only.refl [] W).alloc _) (by simp), hp⟩, bM.alloc _⟩, bK.alloc _⟩, bV.alloc _⟩, hB1.alloc hB1.size _⟩
   ⟨W.heap.size, Blk.made W _ _, rfl⟩
 case body =>
  rintro l pre ⟨⟨pi, pj, ⟨yw, yk, yv, yn⟩⟩, hx⟩ a' W hl ⟨r, hr⟩ ⟨⟨⟨⟨⟨D, hD, hp⟩, bM⟩, bK⟩, bV⟩, hB⟩ ⟨B2, bO, rfl⟩ hlt;have hcM := bM.cell;have hcK := bK.cell;dsimp only at bO;have o0 := bO.at_ 0;have o1 := bO.at_ 1;have o3 := bO.at_ 3;have lO := bO.lt;simp at o0 o1 o3;have HSK := fun hh => HasN.skip hp (x := (pi, pj, ⟨yw, yk, yv, yn⟩)) hh
  cases yw with
  | false =>
   gi_wp2
   exact ⟨KeepsFrom.refl _ _, Below.refl _ _, ⟨⟨⟨⟨⟨D, hD.mono (by simp), by rw [List.map_append]; exact HSK rfl⟩, bM⟩, bK⟩, bV⟩, hB⟩⟩
  | true =>
   by_cases hk : yk = key
   ·have hk1 : (yk == key) = true := by simpa using hk
    have HPT := fun d => HasN.put hp hD.isMap (x := (pi, pj, ⟨true, yk, yv, yn⟩)) rfl hk d;have hwy : (Lit.int .i64 yn).wf = true := WalkArith.wf_i64 (by unfold OpI at hx; dsimp only at hx; omega);clear HSK hk
    gi_wp2_with (refine wpListIn_mapUpdate_own _ rfl _ _ _ 105 rfl 2 109 law_i64 Tryz.underlying105 unitElem gm pre.length D rfl hD (by unfold maxLen; omega) _ _ _ rfl rfl (Maps.keyOf_int_mk Tryz.underlying2 hwy) _ [] unitElem_mk ?_; intro w4 hown4 hgrow4)
    have O4 : Only [gm] W w4 := Only.of_grown hgrow4 (fun x hx _ => by cases hx; simp);refine ⟨KeepsFrom.of_grownBy hgrow4 (fun j hj => by cases hj; omega), O4.below (by have := hB.size; omega) (by simp; omega), ⟨⟨⟨⟨⟨_, by simpa using hown4, by rw [List.map_append]; exact HPT _⟩, bM.kept hgrow4 (by simp; omega)⟩, bK.kept hgrow4 (by simp; omega)⟩, O4.blk bV (by simp; omega)⟩, hB.trans (O4.below (by have := hB.size; omega) (by simp; omega))⟩⟩
   ·have hk1 : (yk == key) = false := by simpa using hk
    gi_wp2
    exact ⟨KeepsFrom.refl _ _, Below.refl _ _, ⟨⟨⟨⟨⟨D, hD.mono (by simp), by rw [List.map_append]; exact HSK (by simp [hk])⟩, bM⟩, bK⟩, bV⟩, hB⟩⟩
 case done =>
  rintro D ys W hD hys ⟨⟨⟨⟨⟨D1, hD1, hp⟩, bM⟩, bK⟩, bV⟩, hB⟩ hK;have HP : Hid (∀ q : Int, NWf q → Maps.has D1 (.int .i64 q) = wroteN h.l key q) := Hd (fun q hq => by rw [hp q hq, hys, hitP_all]);have HB1 := Hd (fun (q : Nat) (hq : ∀ m : Nat, m < q → wroteN h.l key (m : Int) = true) => fresh_bound (by rw [hn2]; exact hM) hno hq);have HFR := Hd (fun (q : Nat) (hq : ∀ m : Nat, m < q → wroteN h.l key (m : Int) = true) (hb : q ≤ 800) (hw : wroteN h.l key (q : Int) = false) => fresh_is (by omega) hq hw);generalize ys.length = qn at *;have hDn : Hid (D < W.heap.size) := Hd (Array.getElem?_eq_some_iff.1 hK).1;clear hys hp hg hn2 hno hI hg0 bN bK
  gi_wp2_with fail
  gi_loopw [8] (fun v wr => ∃ q : Nat, v = .int .i64 (q : Int) ∧ q ≤ 800 ∧ Hid (∀ m : Nat, m < q → wroteN h.l key (m : Int) = true) ∧ Hid (Only [] W wr)) (fun v _ => 801 - (intOf v).toNat)
  case atStart => exact ⟨0, rfl, by omega, Hd (fun m hm => by omega), Hd (Only.refl [] W)⟩
  case round =>
   obtain ⟨q, rfl, hq, hall, hO⟩ := hrel;have bM2 := hO.out.blk (show Blk W gb 105 #[.map (some gm)] from bM) (by simp);have cM := bM2.at_ 0;have lM := bM2.lt;simp at cM;have HM2 := Hd (ownsMap_only hD1 hO.out (by simp));have hqw : NWf (q : Int) := nwf_nat (by omega);obtain ⟨bb, hbb⟩ : ∃ bb, bb = wroteN h.l key (q : Int) := ⟨_, rfl⟩;have HHB : Hid (Maps.has D1 (.int .i64 (q : Int)) = bb) := Hd (by rw [hbb]; exact HP.out _ hqw);have hwq : IntKind.i64.wrap ((q : Int) + 1) = (q : Int) + 1 := IntWalk.i64_in _ (by omega);have HBB := Hd hbb;clear hbb bM2;have bV2 := hO.out.blk bV (by simp);have lV := bV2.lt;have v0 := bV2.at_ 0;have v1 := bV2.at_ 1;have f0 := bV2.free 0;have f1 := bV2.free 1;simp at v0 v1;have HV2 := Hd bV2;clear bV2
   cases bb with
   | false =>
    have HFE := Hd (HFR.out q hall.out hq HBB.out.symm)
    gi_wp2_with (refine wpListIn_lookup_own_unit _ rfl _ _ 105 rfl 2 109 law_i64 Tryz.underlying105 (zero_unit _) gm qn D1 rfl HM2.out _ _ rfl (Maps.keyOf_int_mk Tryz.underlying2 hqw) ?_; rw [HHB.out])
    have bV3 := ((HV2.out.put 0 (.int .i64 1)).put 1 (.int .i64 (q : Int))).alloc (.cells #[] 109);have hK3 := (hO.out.keeps D hDn.out (by simp)).trans hK;have hB3 : Below w.heap.size w (((wr.setCell ⟨gv, 0, none⟩ (.int .i64 1)).setCell ⟨gv, 1, none⟩ (.int .i64 (q : Int))).alloc (.cells #[] 109)) := (((hB.trans (hO.out.below (by have := hB.size; omega) (by simp))).setCell (p := ⟨gv, 0, none⟩) (by simp; omega) _).setCell (p := ⟨gv, 1, none⟩) (by simp; omega) _).alloc (by have := hB.size; have := hO.out.size; simp; omega) _;have hK4 := (((KeepsOthers.setCell wr ⟨gv, 0, none⟩ (.int .i64 1)).trans (KeepsOthers.setCell _ ⟨gv, 1, none⟩ (.int .i64 (q : Int)))).trans (KeepsOthers.alloc _ (.cells #[] 109))).same D _ hK3 rfl;generalize (((wr.setCell ⟨gv, 0, none⟩ (.int .i64 1)).setCell ⟨gv, 1, none⟩ (.int .i64 (q : Int))).alloc (.cells #[] 109)) = W3 at *;refine ⟨by simp, .inl ⟨_, _, rfl, run_takeDeferred hK4, ?_⟩⟩;refine ⟨_, results_row1 rfl _ _ gv 38 #[.int .i64 1, .int .i64 (q : Int)] _ rfl ((blk_own gv 38 (fun (_ : Unit) => _)).putObj (s := ()) (.deferred none) (by simpa using bV3) hK4 rfl) Tryz.underlying38 rfl (by kernel_rfl), by rw [HFE.out], hB3.trans (belowK_b (w := w) (Nat.le_refl _) W3 D _ _ (by omega) hK4 rfl rfl)⟩
   | true =>
    have hq8 : Hid (q + 1 ≤ 800) := Hd (HB1.out (q + 1) (fun m hm => by
     by_cases e : m = q
     ·subst e; exact HBB.out.symm
     ·exact hall.out m (by omega)))
    have HALL : Hid (∀ m : Nat, m < q + 1 → wroteN h.l key (m : Int) = true) := Hd (fun m hm => by
     by_cases e : m = q
     ·subst e; exact HBB.out.symm
     ·exact hall.out m (by omega))
    gi_wp2_with (refine wpListIn_lookup_own_unit _ rfl _ _ 105 rfl 2 109 law_i64 Tryz.underlying105 (zero_unit _) gm qn D1 rfl HM2.out _ _ rfl (Maps.keyOf_int_mk Tryz.underlying2 hqw) ?_; rw [HHB.out])
    go_roundw
    case rel => exact ⟨q + 1, by go_num, hq8.out, HALL, Hd (hO.out.alloc _)⟩
    case measure => simp [intOf]; omega
 case stop =>
  rintro D c pre W _ _ h _;exact h.elim
theorem kfresh_any (A0 A1 A2 : Option Addr) (n0 n1 n2 c0 c1 c2 B : Nat) (h : Hst) (key : Int) (w : World) (hg : HIn w B A0 A1 A2 n0 n1 n2 h) (hm : mayH h = true) (hI : HInt h) :
  Calls Tryz.prog 47 #[hval A0 A1 A2 n0 n1 n2 c0 c1 c2, .int .i64 key] w fun e w' => e = .returned (.agg #[.int .i64 1, .int .i64 (freshN h.l key : Int)]) ∧ Only [] w w' :=
 (callsIn_wide.1 (kfresh_in Fence.wide 6 trivial trivial trivial rfl (by omega) A0 A1 A2 n0 n1 n2 c0 c1 c2 h key w hg.at_.r2.up hg.n2 (by rw [← hg.n2]; exact (may_ops hm).1) (may_ops hm).2.1 hI)).mono fun e W' ⟨he, hb⟩ => ⟨he, Only.of_below hb []⟩
end Go.Proofs.YtjfbeeogiejopaaGreatDoor
namespace Go.Proofs.YtjfbeeogiejopaaGreatDoor
open Go.RowKit
open Go.Lib hiding intOf
attribute [local go_sem ↓] Go.wp_at_zero Go.wp_at_succ
theorem read_inv {h : Hst} {a b : Int} {t : Tx} {o : Op4} (hr : readO h a b = some (t, o)) : mayH h = true ∧ ∃ i j : Nat, a = (i : Int) ∧ b = (j : Int) ∧ h.l[i]? = some t ∧ t.ops[j]? = some o ∧ o.wr = false := by
 unfold readO at hr
 cases ho : opAtH h a b with
 | none => rw [ho] at hr; cases hr
 | some x =>
  rw [ho] at hr;simp only [Option.bind_some] at hr
  split at hr
  ·cases hr
  ·rename_i hw
   simp at hr;subst hr;unfold opAtH txAtH at ho
   split at ho
   ·rename_i hc
    cases hx : h.l[a.toNat]? with
    | none => rw [hx] at ho; cases ho
    | some t' =>
     rw [hx] at ho;simp only [Option.bind_some] at ho
     split at ho
     ·rename_i hb
      cases hy : t'.ops[b.toNat]? with
      | none => rw [hy] at ho; cases ho
      | some o' =>
       rw [hy] at ho;simp at ho;obtain ⟨rfl, rfl⟩ := ho;exact ⟨hc.1, a.toNat, b.toNat, by omega, by omega, hx, hy, by simpa using hw⟩
     ·cases ho
   ·cases ho

end Go.Proofs.YtjfbeeogiejopaaGreatDoor
namespace Go.Proofs.YtjfbeeogiejopaaGreatDoor
open Go.RowKit
open Go.Lib hiding intOf
def short11 (s : ByteArray) : ByteArray := s.extract 0 (min s.size 100)
theorem short11_size (s : ByteArray) : (short11 s).size ≤ 100 := by
 unfold short11;rw [ByteArray.size_extract];omega
theorem short11_same {s : ByteArray} (h : s.size ≤ 100) : short11 s = s := by
 unfold short11;rw [Nat.min_eq_left h];exact by_inj (by rw [by_extract, List.drop_zero, List.take_of_length_le (by rw [by_length]; exact Nat.le_refl _)])
def fewTx (t : Tx) : Tx := { t with ops := t.ops.take 25 }
def fewH (h : Hst) : Hst := ⟨(h.ss.take 25).map short11, (h.ks.take 45).map short11, (h.l.take 45).map fewTx⟩
theorem few_names (l : List ByteArray) (n : Nat) : (((l.take n).map short11).take n).map short11 = (l.take n).map short11 := by
 rw [List.take_of_length_le (by rw [List.length_map, List.length_take]; omega)]
 conv => rhs; rw [← List.map_id ((l.take n).map short11)]
 refine List.map_congr_left fun z hz => ?_;obtain ⟨y, -, rfl⟩ := List.mem_map.1 hz;exact short11_same (short11_size y)
theorem few_few (h : Hst) : fewH (fewH h) = fewH h := by
 unfold fewH;rw [few_names, few_names]
 congr 1
 dsimp only;rw [List.take_of_length_le (by rw [List.length_map, List.length_take]; omega)]
 conv => rhs; rw [← List.map_id ((h.l.take 45).map fewTx)]
 refine List.map_congr_left fun z hz => ?_;obtain ⟨y, -, rfl⟩ := List.mem_map.1 hz;unfold fewTx;dsimp only;rw [List.take_of_length_le (by rw [List.length_take]; omega)]
 rfl
theorem few_small (h : Hst) : HSmall (fewH h) where
 s := fun x hx => by
  obtain ⟨y, -, rfl⟩ := List.mem_map.1 hx;have := short11_size y;omega
 k := fun x hx => by
  obtain ⟨y, -, rfl⟩ := List.mem_map.1 hx;have := short11_size y;omega
 ns := by unfold fewH; dsimp only; rw [List.length_map, List.length_take]; omega
 nk := by unfold fewH; dsimp only; rw [List.length_map, List.length_take]; omega
 nl := by unfold fewH; dsimp only; rw [List.length_map, List.length_take]; omega
 no := fun t ht => by
  obtain ⟨y, -, rfl⟩ := List.mem_map.1 ht;unfold fewTx;dsimp only;rw [List.length_take];omega
attribute [local go_sem ↓] Go.wp_at_zero Go.wp_at_succ
theorem info_str : (Tryz.prog.info? 9).map (fun i => (i.zero, i.size, i.bytes)) = some (some (.string ⟨#[]⟩), 1, 16) := by kernel_rfl
theorem info_op : (Tryz.prog.info? 48).map (fun i => (i.zero, i.size, i.bytes)) = some (some (.agg #[.bool false, .int .i64 0, .int .i64 0, .int .i64 0]), 4, 32) := by kernel_rfl
theorem info_txn : (Tryz.prog.info? 46).map (fun i => (i.zero, i.size, i.bytes)) = some (some (.agg #[.int .i64 0, .int .i64 0, .slice none 0 0]), 3, 40) := by kernel_rfl
theorem own_row_at {w : World} {base : Nat} {e : TypeId} {size n c : Nat} {A : Option Addr} {xs : List Value} (h : w.ownsRow base e size (.slice A n c) n xs) : Row w w.heap.size A xs ∧ n ≤ c ∧ c ≤ maxLen := by
 obtain ⟨A', c', e1, h1, h2, -, h3⟩ := own_row h;injection e1 with ea eb ec;subst ea ec;exact ⟨h3, h1, h2⟩
theorem own_addz {size : Nat} {A : Option Addr} {c : Nat} : (if c = 0 then A else A.map (·.add (0 * size))) = A := by
 split
 ·rfl
 ·cases A with
  | none => rfl
  | some a => simp [Addr.add]
theorem oslice_to (A : Option Addr) (len c m : Nat) (hm : m ≤ c) (W : World) : (Instr.slice 44 (.slice A len c) none (some (.int .i64 (m : Int))) none).run Tryz.prog W = .ok (.slice A m c) W := by
 rw [run_slice_h (P := Tryz.prog) W 44 A len c (by kernel_rfl) .i64 (m : Int) (by omega) (by omega)];have hs : (sizeOf (Tryz.prog.elem 44)).run Tryz.prog W = .ok 4 W := by kernel_rfl
 rw [hs];simp only [Result.andThen, sliced, Int.toNat_natCast, Nat.sub_zero];rw [own_addz (size := 4)]
attribute [-go_sem] Go.run_slice_l Go.run_slice_h Go.run_slice_any Go.run_slice_lh in
theorem few11_any (A0 A1 A2 : Option Addr) (n0 n1 n2 c0 c1 c2 B : Nat) (h : Hst) (w : World) (hg : HAt w B A0 A1 A2 h) (hn0 : h.ss.length = n0) (hn1 : h.ks.length = n1) (hn2 : h.l.length = n2) (hm0 : n0 ≤ 9223372036854775807) (hm1 : n1 ≤ 9223372036854775807) (hm2 : n2 ≤ 9223372036854775807)
  (hz0 : ∀ z ∈ h.ss, z.size ≤ 9223372036854775807) (hz1 : ∀ z ∈ h.ks, z.size ≤ 9223372036854775807) :
  Calls Tryz.prog 9 #[hval A0 A1 A2 n0 n1 n2 c0 c1 c2] w fun e w' => ∃ A0' A1' A2' c0' c1' c2', (e = .returned (hval A0' A1' A2' (fewH h).ss.length (fewH h).ks.length (fewH h).l.length c0' c1' c2') ∧ HAt w' w'.heap.size A0' A1' A2' (fewH h)) ∧ Only [] w w' := by
 unfold hval;have HG := Hd hg;have HN0 := Hd hn0;have HN1 := Hd hn1;have HN2 := Hd hn2;have HZ0 := Hd hz0;have HZ1 := Hd hz1;obtain ⟨is, his, hs0, hs1, hs2⟩ := info_parts info_str;clear hg hn0 hn1 hn2 hz0 hz1;have b0 := ((Blk.made w 25 #[.slice A0 n0 c0, .slice A1 n1 c1, .slice A2 n2 c2]).alloc (.cells #[.slice none 0 0, .slice none 0 0, .slice none 0 0] 25)).alloc (.cells #[.slice none 0 0, .slice none 0 0, .slice none 0 0] 25);have b1 := (Blk.made (w.alloc (.cells #[.slice A0 n0 c0, .slice A1 n1 c1, .slice A2 n2 c2] 25)) 25 #[.slice none 0 0, .slice none 0 0, .slice none 0 0]).alloc (.cells #[.slice none 0 0, .slice none 0 0, .slice none 0 0] 25);have b2 := Blk.made ((w.alloc (.cells #[.slice A0 n0 c0, .slice A1 n1 c1, .slice A2 n2 c2] 25)).alloc (.cells #[.slice none 0 0, .slice none 0 0, .slice none 0 0] 25)) 25 #[.slice none 0 0, .slice none 0 0, .slice none 0 0];have o0 : Only [] w (((w.alloc (.cells #[.slice A0 n0 c0, .slice A1 n1 c1, .slice A2 n2 c2] 25)).alloc (.cells #[.slice none 0 0, .slice none 0 0, .slice none 0 0] 25)).alloc (.cells #[.slice none 0 0, .slice none 0 0, .slice none 0 0] 25)) := (((Only.refl [] w).alloc _).alloc _).alloc _;simp only [World.size_alloc] at b1 b2;have hszz : (((w.alloc (.cells #[.slice A0 n0 c0, .slice A1 n1 c1, .slice A2 n2 c2] 25)).alloc (.cells #[.slice none 0 0, .slice none 0 0, .slice none 0 0] 25)).alloc (.cells #[.slice none 0 0, .slice none 0 0, .slice none 0 0] 25)).heap.size = w.heap.size + 3 := by simp
 go_enter Tryz.func9, Tryz.ntmps9
 go_upto_block 0 with fail
 generalize (((w.alloc (.cells #[.slice A0 n0 c0, .slice A1 n1 c1, .slice A2 n2 c2] 25)).alloc (.cells #[.slice none 0 0, .slice none 0 0, .slice none 0 0] 25)).alloc (.cells #[.slice none 0 0, .slice none 0 0, .slice none 0 0] 25)) = wz at *;generalize hgr : w.heap.size + 1 + 1 = g2 at *;generalize hgq : w.heap.size + 1 = g1 at *;generalize hgp : w.heap.size = g0 at *;have HBH0 := Hd b0;have HBR0 := Hd b1;have HBO0 := Hd b2;have HO0 := Hd o0;clear b0 b1 b2 o0;go_cut [4] (fun s wx => ∃ A' c', Hid (Blk wx g2 25 #[(.slice A' (((h.ss.take 25).map short11)).length c'), .slice none 0 0, .slice none 0 0]) ∧ Hid (wx.ownsRow wz.heap.size 9 1 (.slice A' (((h.ss.take 25).map short11)).length c') (((h.ss.take 25).map short11)).length (strs ((h.ss.take 25).map short11))) ∧ Hid (Only [g2] wz wx))
 case first =>
  go_wp2_with fail
  go_loopw [4] (fun iv wr => ∃ (k : Nat) (V : Value), iv = .int .i64 k ∧ k ≤ n0 ∧ k ≤ 25 ∧ Hid (Blk wr g2 25 #[V, .slice none 0 0, .slice none 0 0]) ∧ Hid (wr.ownsRow wz.heap.size 9 1 V k (strs ((h.ss.take k).map short11))) ∧ Hid (Only [g2] wz wr)) (fun iv _ => n0 - (intOf iv).toNat)
  case atStart => exact ⟨0, .slice none 0 0, rfl, by omega, by omega, HBO0, Hd ⟨rfl, .inl ⟨rfl, rfl⟩⟩, Hd (Only.refl _ _)⟩
  case round =>
   obtain ⟨k, V, rfl, hk, hk2, hBO, hV, hO⟩ := hrel;have hsz := hO.out.size;have hBH : Hid (Blk wr g0 25 #[.slice A0 n0 c0, .slice A1 n1 c1, .slice A2 n2 c2]) := Hd (hO.out.blk HBH0.out (by simp; omega));have lH := hBH.out.lt;have yH := hBH.out.at_ 0;simp at yH
   by_cases hlt : k < n0 ∧ k < 25
   ·obtain ⟨hlt1, hlt2⟩ := hlt;have h01 : (k : Int) < (n0 : Int) := by omega
    have h02 : (k : Int) < 25 := by omega
    have hk0 : (0 : Int) ≤ (k : Int) := Int.natCast_nonneg _;have hwk : IntKind.i64.wrap ((k : Int) + 1) = (k : Int) + 1 := IntWalk.i64_in _ (by omega);obtain ⟨x, hx⟩ : ∃ x, h.ss[k]? = some x := ⟨_, List.getElem?_eq_getElem (by rw [HN0.out]; exact hlt1)⟩;obtain ⟨b, off, rfl, -, hbw, hcell⟩ := HG.out.r0.open_ (k := k) (by rw [strs, List.length_map, HN0.out]; exact hlt1);have hls := HZ0.out x (List.mem_of_getElem? hx);have hbz : b < wz.heap.size := by have := HO0.out.size; omega
    have HCK : Hid (wr.cell? ⟨b, off + k, none⟩ = some (.string x)) := Hd (((HO0.out.step hO.out (fun i hi hl => by simp at hi; omega)).cell (p := ⟨b, off + k, none⟩) hbw (by simp)).trans (hcell k _ (by rw [strs, List.getElem?_map, hx]; rfl)));have hbr : b < wr.heap.size := by omega
    obtain ⟨q, hq⟩ : ∃ q, q = min x.size 100 := ⟨_, rfl⟩;have hmin : min (x.size : Int) 100 = (q : Int) := by omega
    have hq1 : (0 : Int) ≤ (q : Int) := Int.natCast_nonneg _;have hq2 : (q : Int) ≤ (x.size : Int) := by omega
    have HTK : Hid (strs ((h.ss.take (k + 1)).map short11) = strs ((h.ss.take k).map short11) ++ [.string (x.extract 0 q)]) := Hd (by rw [List.take_add_one, hx, hq]; simp [strs, short11]);have hlen : (strs ((h.ss.take k).map short11)).length = k := by rw [strs, List.length_map, List.length_map, List.length_take, HN0.out]; omega
    clear hcell hx hq;go_upto_region 5 with (fail)
    clear yH lH;have RD0 := Hd fun wq (hSw : Only V.ownBlock.toList wr wq) => aI ((hSw.blk hBO.out (own_apart hV.out hBO.out (by decide))).lt) (aI ((hSw.blk hBH.out (own_apart hV.out hBH.out (by decide))).lt) (aI ((hSw.blk hBO.out (own_apart hV.out hBO.out (by decide))).at_ 0) (aI ((hSw.blk hBH.out (own_apart hV.out hBH.out (by decide))).at_ 0) ((hSw.cell (p := ⟨b, off + k, none⟩) hbr (own_off hV.out hbz)).trans HCK.out))));refine rg1 [18] V.ownBlock.toList wr ?_;refine tQ 0 (h := trq 1 0 RD0 (h := tQ 2 (h := trq 3 0 RD0 (h := tQ 4 (h := tQ 5 (h := trq 6 0 RD0 (h := tQ 7 (h := trq 8 0 RD0 (h := tQ 9 (h := tQ 10 (h := trq 11 0 RD0 (h := tQ 12 (h := tQ 13 (h := tQ 14 (h := ?_)))))))))))))));refine tst (i := 15) fun K hK => ?_;go_simp;have OA : Only [] wr ((wr.alloc (.cells #[.string (x.extract 0 q)] 9)).drew) := ((Only.refl [] wr).alloc _).drew;refine kOut hK (((Only.refl _ wr).alloc _).drew) (h := ?_);clear hK K;refine tst (i := 16) fun K hK => ?_;refine step_append_row _ rfl (.tmp 21) (.tmp 35) 22 rfl wz.heap.size 9 is _ 1 16 Tryz.underlying22 his hs0 hs1 hs2 rfl (by omega) V k (strs ((h.ss.take k).map short11)) (by rfl) (own_only hV.out OA (by simp)) (wr.heap.size + 1) (some ⟨wr.heap.size, 0, none⟩) 1 1 [.string (x.extract 0 q)] (by rfl) (by rfl) (by exact row_lit wr 9 #[.string (x.extract 0 q)]) (by intro u hu; simp at hu; subst hu; rfl) (by unfold maxLen; omega) (by omega) (by have := OA.size; omega) ?_;intro v3 w4 hown3 hgrow hat;obtain ⟨A3, c3, e3, -, -, -, -⟩ := own_row hown3;subst e3;have O4 : Only V.ownBlock.toList wr w4 := ((Only.refl V.ownBlock.toList wr).alloc (.cells #[.string (x.extract 0 q)] 9)).drew.step (only_grown hgrow) (fun j hj hl => hj);have bG := O4.blk hBO.out (own_apart hV.out hBO.out (by decide));have lG := bG.lt;have cG := bG.at_ 0;have fG := bG.free 0;simp at cG;clear hgrow hat OA;refine kOut hK (O4) (h := ?_);clear hK K;refine tQ 17 (h := ?_);refine tst (i := 18) fun K hK => ?_;go_simp;refine hK.out _ _ (timed_over (by kernel_rfl) (timed_nil)) ?_;clear hK K;(try simp only [tdz]);refine tdn ?_;have HB5 := Hd (bG.put 0 (.slice A3 (k + 1) c3));have O5 : Only [g2] w4 (w4.setCell ⟨g2, 0, none⟩ (.slice A3 (k + 1) c3)) := (Only.refl [g2] w4).put (fun _ => by simp) (.slice A3 (k + 1) c3);have HV5 := Hd (own_only hown3 O5 (fun g hg hm => by simp at hm; subst hm; exact own_apart hown3 bG (by decide) (by rw [hg]; simp)));have HO5 := Hd ((hO.out.step O4 (fun i hi hl => by have := own_new hV.out (S := [g2]) i hi hl; exact this)).trans O5);clear bG O5 hown3 O4 cG lG fG;go_wp2
    go_roundw
    case rel => exact ⟨k + 1, .slice A3 (k + 1) c3, by go_num, by omega, by omega, by simpa using HB5, Hd (by rw [HTK.out]; exact HV5.out), HO5⟩
    case measure => simp [intOf]; omega
   ·have hguard : (decide ((k : Int) < (n0 : Int)) = false ∧ decide (k < n0) = false) ∨ ((k : Int) < (n0 : Int) ∧ decide ((k : Int) < 25) = false ∧ decide (k < 25) = false) := by
     by_cases h : k < n0
     ·right
      exact ⟨by omega, decide_eq_false (by omega), decide_eq_false (by omega)⟩
     ·left
      exact ⟨decide_eq_false (by omega), decide_eq_false (by omega)⟩
    have hall : (h.ss.take k).map short11 = (h.ss.take 25).map short11 := by
     congr 1
     rcases Nat.lt_or_ge k n0 with h | h
     ·have : k = 25 := by omega
      rw [this]
     ·rw [List.take_of_length_le (by rw [HN0.out]; omega), List.take_of_length_le (by rw [HN0.out]; omega)]
    have hV2 := hV.out;rw [hall] at hV2;have hkl : k = ((h.ss.take 25).map short11).length := by rw [← hall, List.length_map, List.length_take, HN0.out]; omega
    rw [hkl] at hV2;obtain ⟨A', c', rfl, -, -, -, -⟩ := own_row hV2;have HR2 := Hd hV2;clear hlt hV2 hV hall hkl;rcases hguard with ⟨h1, h2⟩ | ⟨h1, h2, h3⟩
    all_goals
     go_wp2_with fail
     go_meet
     exact ⟨A', c', hBO, HR2, hO⟩
 case rest =>
  obtain ⟨wa, hwa⟩ : ∃ wa, wa = wc := ⟨_, rfl⟩;subst hwa;obtain ⟨A0', c0', HBO1, HR0, HOa⟩ := hcut;have hsa := HOa.out.size;have HO1 := Hd (HO0.out.step HOa.out (fun i hi hl => by simp at hi; omega));have HBH1 := Hd (HOa.out.blk HBH0.out (by simp; omega));have HBR1 := Hd (HOa.out.blk HBR0.out (by simp; omega));clear HBO0 HBH0 HBR0 HO0 HOa
  go_upto_block 2 with fail
  go_cut [5] (fun s wx => ∃ A' c', Hid (Blk wx g2 25 #[(.slice A0' ((h.ss.take 25).map short11).length c0'), (.slice A' (((h.ks.take 45).map short11)).length c'), .slice none 0 0]) ∧ Hid (wx.ownsRow wa.heap.size 9 1 (.slice A' (((h.ks.take 45).map short11)).length c') (((h.ks.take 45).map short11)).length (strs ((h.ks.take 45).map short11))) ∧ Hid (Only [g2] wa wx))
  case first =>
   go_wp2_with fail
   go_loopw [5] (fun iv wr => ∃ (k : Nat) (V : Value), iv = .int .i64 k ∧ k ≤ n1 ∧ k ≤ 45 ∧ Hid (Blk wr g2 25 #[(.slice A0' ((h.ss.take 25).map short11).length c0'), V, .slice none 0 0]) ∧ Hid (wr.ownsRow wa.heap.size 9 1 V k (strs ((h.ks.take k).map short11))) ∧ Hid (Only [g2] wa wr)) (fun iv _ => n1 - (intOf iv).toNat)
   case atStart => exact ⟨0, .slice none 0 0, rfl, by omega, by omega, HBO1, Hd ⟨rfl, .inl ⟨rfl, rfl⟩⟩, Hd (Only.refl _ _)⟩
   case round =>
    obtain ⟨k, V, rfl, hk, hk2, hBO, hV, hO⟩ := hrel;have hsz := hO.out.size;have hBH : Hid (Blk wr g0 25 #[.slice A0 n0 c0, .slice A1 n1 c1, .slice A2 n2 c2]) := Hd (hO.out.blk HBH1.out (by simp; omega));have lH := hBH.out.lt;have yH := hBH.out.at_ 1;simp at yH
    by_cases hlt : k < n1 ∧ k < 45
    ·obtain ⟨hlt1, hlt2⟩ := hlt;have h01 : (k : Int) < (n1 : Int) := by omega
     have h02 : (k : Int) < 45 := by omega
     have hk0 : (0 : Int) ≤ (k : Int) := Int.natCast_nonneg _;have hwk : IntKind.i64.wrap ((k : Int) + 1) = (k : Int) + 1 := IntWalk.i64_in _ (by omega);obtain ⟨x, hx⟩ : ∃ x, h.ks[k]? = some x := ⟨_, List.getElem?_eq_getElem (by rw [HN1.out]; exact hlt1)⟩;obtain ⟨b, off, rfl, -, hbw, hcell⟩ := HG.out.r1.open_ (k := k) (by rw [strs, List.length_map, HN1.out]; exact hlt1);have hls := HZ1.out x (List.mem_of_getElem? hx);have hbz : b < wa.heap.size := by have := HO1.out.size; omega
     have HCK : Hid (wr.cell? ⟨b, off + k, none⟩ = some (.string x)) := Hd (((HO1.out.step hO.out (fun i hi hl => by simp at hi; omega)).cell (p := ⟨b, off + k, none⟩) hbw (by simp)).trans (hcell k _ (by rw [strs, List.getElem?_map, hx]; rfl)));have hbr : b < wr.heap.size := by omega
     obtain ⟨q, hq⟩ : ∃ q, q = min x.size 100 := ⟨_, rfl⟩;have hmin : min (x.size : Int) 100 = (q : Int) := by omega
     have hq1 : (0 : Int) ≤ (q : Int) := Int.natCast_nonneg _;have hq2 : (q : Int) ≤ (x.size : Int) := by omega
     have HTK : Hid (strs ((h.ks.take (k + 1)).map short11) = strs ((h.ks.take k).map short11) ++ [.string (x.extract 0 q)]) := Hd (by rw [List.take_add_one, hx, hq]; simp [strs, short11]);have hlen : (strs ((h.ks.take k).map short11)).length = k := by rw [strs, List.length_map, List.length_map, List.length_take, HN1.out]; omega
     clear hcell hx hq;go_upto_region 9 with (fail)
     clear yH lH;have RD0 := Hd fun wq (hSw : Only V.ownBlock.toList wr wq) => aI ((hSw.blk hBO.out (own_apart hV.out hBO.out (by decide))).lt) (aI ((hSw.blk hBH.out (own_apart hV.out hBH.out (by decide))).lt) (aI ((hSw.blk hBO.out (own_apart hV.out hBO.out (by decide))).at_ 1) (aI ((hSw.blk hBH.out (own_apart hV.out hBH.out (by decide))).at_ 1) ((hSw.cell (p := ⟨b, off + k, none⟩) hbr (own_off hV.out hbz)).trans HCK.out))));refine rg1 [18] V.ownBlock.toList wr ?_;refine tQ 0 (h := trq 1 0 RD0 (h := tQ 2 (h := trq 3 0 RD0 (h := tQ 4 (h := tQ 5 (h := trq 6 0 RD0 (h := tQ 7 (h := trq 8 0 RD0 (h := tQ 9 (h := tQ 10 (h := trq 11 0 RD0 (h := tQ 12 (h := tQ 13 (h := tQ 14 (h := ?_)))))))))))))));refine tst (i := 15) fun K hK => ?_;go_simp;have OA : Only [] wr ((wr.alloc (.cells #[.string (x.extract 0 q)] 9)).drew) := ((Only.refl [] wr).alloc _).drew;refine kOut hK (((Only.refl _ wr).alloc _).drew) (h := ?_);clear hK K;refine tst (i := 16) fun K hK => ?_;refine step_append_row _ rfl (.tmp 50) (.tmp 64) 22 rfl wa.heap.size 9 is _ 1 16 Tryz.underlying22 his hs0 hs1 hs2 rfl (by omega) V k (strs ((h.ks.take k).map short11)) (by rfl) (own_only hV.out OA (by simp)) (wr.heap.size + 1) (some ⟨wr.heap.size, 0, none⟩) 1 1 [.string (x.extract 0 q)] (by rfl) (by rfl) (by exact row_lit wr 9 #[.string (x.extract 0 q)]) (by intro u hu; simp at hu; subst hu; rfl) (by unfold maxLen; omega) (by omega) (by have := OA.size; omega) ?_;intro v3 w4 hown3 hgrow hat;obtain ⟨A3, c3, e3, -, -, -, -⟩ := own_row hown3;subst e3;have O4 : Only V.ownBlock.toList wr w4 := ((Only.refl V.ownBlock.toList wr).alloc (.cells #[.string (x.extract 0 q)] 9)).drew.step (only_grown hgrow) (fun j hj hl => hj);have bG := O4.blk hBO.out (own_apart hV.out hBO.out (by decide));have lG := bG.lt;have cG := bG.at_ 1;have fG := bG.free 1;simp at cG;clear hgrow hat OA;refine kOut hK (O4) (h := ?_);clear hK K;refine tQ 17 (h := ?_);refine tst (i := 18) fun K hK => ?_;go_simp;refine hK.out _ _ (timed_over (by kernel_rfl) (timed_nil)) ?_;clear hK K;(try simp only [tdz]);refine tdn ?_;have HB5 := Hd (bG.put 1 (.slice A3 (k + 1) c3));have O5 : Only [g2] w4 (w4.setCell ⟨g2, 1, none⟩ (.slice A3 (k + 1) c3)) := (Only.refl [g2] w4).put (fun _ => by simp) (.slice A3 (k + 1) c3);have HV5 := Hd (own_only hown3 O5 (fun g hg hm => by simp at hm; subst hm; exact own_apart hown3 bG (by decide) (by rw [hg]; simp)));have HO5 := Hd ((hO.out.step O4 (fun i hi hl => by have := own_new hV.out (S := [g2]) i hi hl; exact this)).trans O5);clear bG O5 hown3 O4 cG lG fG;go_wp2
     go_roundw
     case rel => exact ⟨k + 1, .slice A3 (k + 1) c3, by go_num, by omega, by omega, by simpa using HB5, Hd (by rw [HTK.out]; exact HV5.out), HO5⟩
     case measure => simp [intOf]; omega
    ·have hguard : (decide ((k : Int) < (n1 : Int)) = false ∧ decide (k < n1) = false) ∨ ((k : Int) < (n1 : Int) ∧ decide ((k : Int) < 45) = false ∧ decide (k < 45) = false) := by
      by_cases h : k < n1
      ·right
       exact ⟨by omega, decide_eq_false (by omega), decide_eq_false (by omega)⟩
      ·left
       exact ⟨decide_eq_false (by omega), decide_eq_false (by omega)⟩
     have hall : (h.ks.take k).map short11 = (h.ks.take 45).map short11 := by
      congr 1
      rcases Nat.lt_or_ge k n1 with h | h
      ·have : k = 45 := by omega
       rw [this]
      ·rw [List.take_of_length_le (by rw [HN1.out]; omega), List.take_of_length_le (by rw [HN1.out]; omega)]
     have hV2 := hV.out;rw [hall] at hV2;have hkl : k = ((h.ks.take 45).map short11).length := by rw [← hall, List.length_map, List.length_take, HN1.out]; omega
     rw [hkl] at hV2;obtain ⟨A', c', rfl, -, -, -, -⟩ := own_row hV2;have HR2 := Hd hV2;clear hlt hV2 hV hall hkl;rcases hguard with ⟨h1, h2⟩ | ⟨h1, h2, h3⟩
     all_goals
      go_wp2_with fail
      go_meet
      exact ⟨A', c', hBO, HR2, hO⟩
  case rest =>
   obtain ⟨wb, hwb⟩ : ∃ wb, wb = wc := ⟨_, rfl⟩;subst hwb;obtain ⟨A1', c1', HBO2, HR1, HOb⟩ := hcut;have hsb := HOb.out.size;have HO2 := Hd (HO1.out.step HOb.out (fun i hi hl => by simp at hi; omega));have HBH2 := Hd (HOb.out.blk HBH1.out (by simp; omega));have HBR2 := Hd (HOb.out.blk HBR1.out (by simp; omega));have HR0b := Hd (own_only HR0.out HOb.out (fun g hg hm => by simp at hm; subst hm; exact own_apart HR0.out HBO1.out (by decide) (by rw [hg]; simp)));have HLb := Hd (fun (k : Nat) (t : Tx) (hk : h.l[k]? = some t) => HG.out.r2.at_ hk);obtain ⟨io, hio, ho0, ho1, ho2⟩ := info_parts info_op;obtain ⟨ix, hix, hx0, hx1, hx2⟩ := info_parts info_txn;clear HBO1 HBH1 HBR1 HO1 HOb HR0;generalize hm0 : ((h.ss.take 25).map short11).length = m0 at *;generalize hm1 : ((h.ks.take 45).map short11).length = m1 at *
   go_upto_block 4 with fail
   go_cut [6] (fun s wx => ∃ A' c' xs, Hid (Blk wx g2 25 #[.slice A0' m0 c0', .slice A1' m1 c1', .slice A' ((h.l.take 45).map fewTx).length c']) ∧ Hid (wx.ownsRow wb.heap.size 46 3 (.slice A' ((h.l.take 45).map fewTx).length c') ((h.l.take 45).map fewTx).length (txC xs)) ∧ Hid (xs.map TxA.t = (h.l.take 45).map fewTx) ∧
     Hid (∀ x ∈ xs, wx.ownsRow wb.heap.size 48 4 (.slice x.A x.t.ops.length x.cp) x.t.ops.length (opC x.t.ops)) ∧ Hid (Only [g2] wb wx))
   case first =>
    go_wp2_with fail
    go_loopw [6] (fun iv wr => ∃ (k : Nat) (V : Value) (xs : List TxA), iv = .int .i64 k ∧ k ≤ n2 ∧ k ≤ 45 ∧ Hid (Blk wr g2 25 #[.slice A0' m0 c0', .slice A1' m1 c1', V]) ∧ Hid (wr.ownsRow wb.heap.size 46 3 V k (txC xs)) ∧ Hid (xs.map TxA.t = (h.l.take k).map fewTx) ∧
     Hid (∀ x ∈ xs, wr.ownsRow wb.heap.size 48 4 (.slice x.A x.t.ops.length x.cp) x.t.ops.length (opC x.t.ops)) ∧ Hid (Only [g2] wb wr)) (fun iv _ => n2 - (intOf iv).toNat)
    case atStart => exact ⟨0, .slice none 0 0, [], rfl, by omega, by omega, HBO2, Hd ⟨rfl, .inl ⟨rfl, rfl⟩⟩, Hd rfl, Hd (fun x hx => by cases hx), Hd (Only.refl _ _)⟩
    case round =>
     obtain ⟨k, V, xs, rfl, hk, hk2, hBO, hV, hXS, hOP, hO⟩ := hrel;have hsz := hO.out.size;have hBH : Hid (Blk wr g0 25 #[.slice A0 n0 c0, .slice A1 n1 c1, .slice A2 n2 c2]) := Hd (hO.out.blk HBH2.out (by simp; omega));have lH := hBH.out.lt;have yH := hBH.out.at_ 2;simp at yH
     by_cases hlt : k < n2 ∧ k < 45
     ·obtain ⟨hlt1, hlt2⟩ := hlt;have h01 : (k : Int) < (n2 : Int) := by omega
      have h02 : (k : Int) < 45 := by omega
      have hk0 : (0 : Int) ≤ (k : Int) := Int.natCast_nonneg _;have hwk : IntKind.i64.wrap ((k : Int) + 1) = (k : Int) + 1 := IntWalk.i64_in _ (by omega);obtain ⟨x, hx⟩ : ∃ x, h.l[k]? = some x := ⟨_, List.getElem?_eq_getElem (by rw [HN2.out]; exact hlt1)⟩;obtain ⟨b, off, A', cp, rfl, -, hbw, hT, hOk⟩ := HLb.out k x hx;have OWR : Only [] w wr := HO2.out.step hO.out (fun i hi hl => by simp at hi; omega);obtain ⟨a0, a1, a2⟩ := hT.only OWR hbw (by simp);have hbr : b < wr.heap.size := by have := OWR.size; omega
      have HROW := Hd (hOk.row.only OWR (fun _ h => by cases h));have hle := hOk.le;have hcap := hOk.cap;unfold maxLen at hcap;have HTK : Hid ((h.l.take (k + 1)).map fewTx = (h.l.take k).map fewTx ++ [fewTx x]) := Hd (by rw [List.take_add_one, hx]; simp);obtain ⟨s, f, ops⟩ := x;dsimp only at a0 a1 a2 hle HROW;generalize hm : ops.length = m at *;have HMM := Hd hm;obtain ⟨q, hq⟩ : ∃ q, q = min m 25 := ⟨_, rfl⟩;have hmin : min (m : Int) 25 = (q : Int) := by omega
      have hq1 : (0 : Int) ≤ (q : Int) := Int.natCast_nonneg _;have hq2 : (q : Int) ≤ (m : Int) := by omega
      have hq3 : (q : Int) ≤ (cp : Int) := by omega
      have HTQ := Hd hq;clear hT hOk hx hm hq OWR;go_upto_region 14 with (fail)
      have O2 : Only [] wr (wr.alloc (.cells #[.int .i64 s, .int .i64 f, .slice A' m cp] 46)) := (Only.refl [] wr).alloc _;have bT := Blk.made wr 46 #[.int .i64 s, .int .i64 f, .slice A' m cp];have hszt : wr.heap.size < (wr.alloc (.cells #[.int .i64 s, .int .i64 f, .slice A' m cp] 46)).heap.size := by simp
      clear a0 a1 a2;generalize (wr.alloc (.cells #[.int .i64 s, .int .i64 f, .slice A' m cp] 46)) = w2 at *;generalize hgt : wr.heap.size = gt at *;have lT := bT.lt;have t2 := bT.at_ 2;have f2 := bT.free 2;simp at t2;have hsl : ∀ W, (Instr.slice 44 (.slice A' m cp) none (some (.int .i64 (q : Int))) none).run Tryz.prog W = .ok (.slice A' q cp) W := fun W => oslice_to A' m cp q (by omega) W;have HLT : Hid ((w2.alloc (.cells #[] 48)).ownsRow w2.heap.size 48 4 (.slice (some ⟨w2.heap.size, 0, none⟩) 0 0) 0 []) := Hd (World.ownsRow_lit w2 #[] 0 (Nat.le_refl _) (by unfold maxLen; omega) rfl);have HRQ : Hid (Row (w2.alloc (.cells #[] 48)) B A' (opC (ops.take q))) := Hd (by
       rw [opC_take];exact ((HROW.out.only (O2.alloc _) (fun _ h => by cases h)).take _))
      have hlq : (ops.take q).length = q := by rw [List.length_take, HMM.out]; omega
      have hlq4 : (opC (ops.take q)).length = q * 4 := by rw [opC_len, hlq]
      have HBT := Hd bT;clear bT;go_upto_region 15 with (
       at_builtin
       refine wpList_append_row _ rfl (.tmp 83) (.tmp 90) _ rfl w2.heap.size 48 io _ 4 32 Tryz.underlying44 hio ho0 ho1 ho2 rfl (by omega) _ 0 [] rfl HLT.out _ A' q cp (opC (ops.take q)) (by rfl) hlq4 HRQ.out (one_opC _) (by unfold maxLen; omega) (by omega) (by simp) ?_;intro v4 w4 hown4 hgrow4 hat4;have O4 : Only [] w2 w4 := ((Only.refl [] w2).alloc (.cells #[] 48)).step (only_grown hgrow4) (own_new HLT.out);have hown4' : w4.ownsRow w2.heap.size 48 4 v4 q (opC (ops.take q)) := by simpa using hown4
       obtain ⟨A4, c4, e4, -, -, -, -⟩ := own_row hown4';subst e4;have bT4 := O4.blk HBT.out (by simp);have lT4 := bT4.lt;have fT4 := bT4.free 2;have tT4 := bT4.at_ 2;simp at tT4;have HOW4 := Hd hown4';have HBT4 := Hd bT4;have HO4 := Hd O4;clear hown4 hgrow4 hat4 O4 hown4' bT4)
      have OW : Only [] wr w4 := O2.trans HO4.out;have O5 : Only [gt] w4 (w4.setCell ⟨gt, 2, none⟩ (.slice A4 q c4)) := (Only.refl [gt] w4).put (fun _ => by simp) _;have bT5 := HBT4.out.put 2 (.slice A4 q c4);have bG5 := O5.blk (OW.blk hBO.out (by simp)) (by simp; omega);have bH5 := O5.blk (OW.blk hBH.out (by simp)) (by simp; omega);have hV5 := own_only (own_only hV.out OW (fun _ _ h => by cases h)) O5 (fun g hg hm => by
       simp at hm;have := own_lt hV.out (g := g) (by rw [hg]; simp);omega)
      have HOP5 : Hid (∀ x ∈ xs, (w4.setCell ⟨gt, 2, none⟩ (.slice A4 q c4)).ownsRow wb.heap.size 48 4 (.slice x.A x.t.ops.length x.cp) x.t.ops.length (opC x.t.ops)) := Hd (fun x hx => own_only (own_only (hOP.out x hx) OW (fun _ _ h => by cases h)) O5 (fun g hg hm => by
       simp at hm;have := own_lt (hOP.out x hx) (g := g) (by rw [hg]; simp);omega))
      have HNW5 := Hd (own_only HOW4.out O5 (fun g hg hm => by simp at hm; subst hm; exact own_apart HOW4.out HBT4.out (by decide) (by rw [hg]; simp)));have HO5 := Hd ((hO.out.trans (OW.wide (fun i hi hl => by cases hi))).step O5 (fun i hi hl => by simp at hi; omega));have hs5 := HO5.out.size;have hw2 : wb.heap.size ≤ w2.heap.size := by omega
      clear OW O5 hV hOP hO hBO hBH HBT4 HOW4 HO4 HBT HRQ HLT tT4 fT4 lT4 yH lH O2 hsl t2 f2 lT;generalize (w4.setCell ⟨gt, 2, none⟩ (.slice A4 q c4)) = w5 at *;have lT := bT5.lt;have t0 := bT5.at_ 0;have t1 := bT5.at_ 1;have t2 := bT5.at_ 2;have lG := bG5.lt;have d2 := bG5.at_ 2;simp at t0 t1 t2 d2;have HV5 := Hd hV5;have HBG5 := Hd bG5;have hxl : xs.length = k := by
       have := congrArg List.length hXS.out;rw [List.length_map, List.length_map, List.length_take, HN2.out] at this;omega
      clear bT5 hV5 bG5 bH5;go_wp2_with (
       at_builtin
       refine wpList_append_row _ rfl (.tmp 94) (.tmp 96) _ rfl wb.heap.size 46 ix _ 3 40 Tryz.underlying23 hix hx0 hx1 hx2 rfl (by omega) V k (txC xs) (by rfl) (own_only HV5.out ((Only.refl [] w5).alloc _) (by simp)) (w5.heap.size + 1) (some ⟨w5.heap.size, 0, none⟩) 1 1 [.int .i64 s, .int .i64 f, .slice A4 q c4] (by rfl) (by rfl) (row_lit w5 46 #[.int .i64 s, .int .i64 f, .slice A4 q c4]) (by intro u hu; simp at hu; rcases hu with rfl | rfl | rfl <;> rfl) (by unfold maxLen; omega) (by omega) (by simp; omega) ?_;intro v6 w6 hown6 hgrow6 hat6;have O6 : Only V.ownBlock.toList w5 w6 := ((Only.refl V.ownBlock.toList w5).alloc (.cells #[.int .i64 s, .int .i64 f, .slice A4 q c4] 46)).step (only_grown hgrow6) (fun j hj hl => hj);obtain ⟨A6, c6, e6, -, -, -, -⟩ := own_row hown6;subst e6;have bG6 := O6.blk HBG5.out (own_apart HV5.out HBG5.out (by decide));have lG6 := bG6.lt;have fG6 := bG6.free 2;have dG6 := bG6.at_ 2;simp at dG6;have HOW6 := Hd hown6;have HBG6 := Hd bG6;have HO6 := Hd O6;clear hown6 hgrow6 hat6 O6 bG6)
      have O7 : Only [g2] w6 (w6.setCell ⟨g2, 2, none⟩ (.slice A6 (k + 1) c6)) := (Only.refl [g2] w6).put (fun _ => by simp) _;have HB7 := Hd (HBG6.out.put 2 (.slice A6 (k + 1) c6));have HV7 := Hd (own_only HOW6.out O7 (fun g hg hm => by simp at hm; subst hm; exact own_apart HOW6.out HBG6.out (by decide) (by rw [hg]; simp)));have up7 : ∀ {v : Value} {n : Nat} {c : List Value}, w5.ownsRow wb.heap.size 48 4 v n c → (w6.setCell ⟨g2, 2, none⟩ (.slice A6 (k + 1) c6)).ownsRow wb.heap.size 48 4 v n c := fun {v n c} hv => by
       have h6 := own_only hv HO6.out (own_two hv HV5.out (by decide));exact own_only h6 O7 (fun g hg hm => by simp at hm; subst hm; exact own_apart h6 HBG6.out (by decide) (by rw [hg]; simp))
      have HXS7 : Hid ((xs ++ [(⟨⟨s, f, ops.take q⟩, A4, c4⟩ : TxA)]).map TxA.t = (h.l.take (k + 1)).map fewTx) := Hd (by
       rw [List.map_append, hXS.out, HTK.out]
       congr 1
       unfold fewTx;dsimp only [List.map_cons, List.map_nil]
       congr 2
       rw [HTQ.out];rcases Nat.le_total m 25 with h | h
       ·rw [Nat.min_eq_left h, List.take_of_length_le (by rw [HMM.out]; exact Nat.le_refl _), List.take_of_length_le (by rw [HMM.out]; exact h)]
        rfl
       ·rw [Nat.min_eq_right h]
        rfl)
      have HOP7 : Hid (∀ x ∈ xs ++ [(⟨⟨s, f, ops.take q⟩, A4, c4⟩ : TxA)], (w6.setCell ⟨g2, 2, none⟩ (.slice A6 (k + 1) c6)).ownsRow wb.heap.size 48 4 (.slice x.A x.t.ops.length x.cp) x.t.ops.length (opC x.t.ops)) := Hd (fun x hx => by
       rcases List.mem_append.1 hx with hx | hx
       ·exact up7 (HOP5.out x hx)
       ·simp at hx;subst hx;dsimp only;rw [hlq];exact up7 (own_lower HNW5.out hw2))
      have HVV7 : Hid ((w6.setCell ⟨g2, 2, none⟩ (.slice A6 (k + 1) c6)).ownsRow wb.heap.size 46 3 (.slice A6 (k + 1) c6) (k + 1) (txC (xs ++ [(⟨⟨s, f, ops.take q⟩, A4, c4⟩ : TxA)]))) := Hd (by
       have := HV7.out;rw [txC_append]
       simpa [txC, TxA.c, hlq] using this)
      have HO7 := Hd ((HO5.out.step HO6.out (own_new HV5.out)).trans O7);clear O7 up7;go_wp2
      go_roundw
      case rel => exact ⟨k + 1, .slice A6 (k + 1) c6, _, by go_num, by omega, by omega, by simpa using HB7, HVV7, HXS7, HOP7, HO7⟩
      case measure => simp [intOf]; omega
     ·have hguard : (decide ((k : Int) < (n2 : Int)) = false ∧ decide (k < n2) = false) ∨ ((k : Int) < (n2 : Int) ∧ decide ((k : Int) < 45) = false ∧ decide (k < 45) = false) := by
       by_cases h : k < n2
       ·right
        exact ⟨by omega, decide_eq_false (by omega), decide_eq_false (by omega)⟩
       ·left
        exact ⟨decide_eq_false (by omega), decide_eq_false (by omega)⟩
      have hall : (h.l.take k).map fewTx = (h.l.take 45).map fewTx := by
       congr 1
       rcases Nat.lt_or_ge k n2 with h | h
       ·have : k = 45 := by omega
        rw [this]
       ·rw [List.take_of_length_le (by rw [HN2.out]; omega), List.take_of_length_le (by rw [HN2.out]; omega)]
      have hV2 := hV.out;have hX2 := hXS.out;rw [hall] at hX2;have hkl : k = ((h.l.take 45).map fewTx).length := by rw [← hall, List.length_map, List.length_take, HN2.out]; omega
      rw [hkl] at hV2;obtain ⟨A', c', rfl, -, -, -, -⟩ := own_row hV2;have HR2 := Hd hV2;have HX2 := Hd hX2;clear hlt hV2 hV hall hkl hX2 hXS;rcases hguard with ⟨h1, h2⟩ | ⟨h1, h2, h3⟩
      all_goals
       go_wp2_with fail
       go_meet
       exact ⟨A', c', xs, hBO, HR2, HX2, hOP, hO⟩
   case rest =>
    obtain ⟨wd, hwd⟩ : ∃ wd, wd = wc := ⟨_, rfl⟩;subst hwd;obtain ⟨A2', c2', xs, HBO3, HR2, HXS, HOPS, HOd⟩ := hcut;generalize hm2 : ((h.l.take 45).map fewTx).length = m2 at *;have hbR := HOd.out.blk HBR2.out (by simp; omega);have HR0d := Hd (own_only HR0b.out HOd.out (fun g hg hm => by simp at hm; subst hm; exact own_apart HR0b.out HBO2.out (by decide) (by rw [hg]; simp)));have HR1d := Hd (own_only HR1.out HOd.out (fun g hg hm => by simp at hm; subst hm; exact own_apart HR1.out HBO2.out (by decide) (by rw [hg]; simp)));have HOW := Hd (HO2.out.step HOd.out (fun i hi hl => by simp at hi; omega));have lO := HBO3.out.lt;have d0 := HBO3.out.at_ 0;have d1 := HBO3.out.at_ 1;have d2 := HBO3.out.at_ 2;simp at d0 d1 d2;have lR := hbR.lt;have f0 := hbR.free 0;have f1 := hbR.free 1;have f2 := hbR.free 2;have HBR := Hd hbR;clear hbR HR0b HR1 HBR2 HBH2 HBO2 HO2 HOd;go_upto_region 16 with (fail)
    refine wp_region_lit ?_;refine wpList_load_mid rfl 25 (.tmp 3) rfl g2 0 rfl (#[.slice A0' m0 c0', .slice A1' m1 c1', .slice A2' m2 c2'] : Array Value).toList _ HBO3.out.range Tryz.underlying25 rfl (by kernel_rfl) ?_;refine wpList_store_mid rfl 25 (.tmp 2) (.tmp 99) rfl g1 0 #[.slice A0' m0 c0', .slice A1' m1 c1', .slice A2' m2 c2'] rfl rfl HBR.out.there (by kernel_rfl) (by kernel_rfl) ?_;go_wp2
    refine bodyPost_ret (results_row1 Tryz.results9 _ _ g1 25 #[.slice A0' m0 c0', .slice A1' m1 c1', .slice A2' m2 c2'] _ rfl (HBR.out.putAll _ rfl) Tryz.underlying25 rfl (by kernel_rfl)) rfl ?_;have OS : Only [g1] wd (wd.setCells g1 0 (#[.slice A0' m0 c0', .slice A1' m1 c1', .slice A2' m2 c2'] : Array Value).toList) := (Only.refl [g1] wd).putAll (fun _ => by simp) _;have upS : ∀ {base : Nat} {e : TypeId} {size n : Nat} {v : Value} {c : List Value}, wd.ownsRow base e size v n c → e ≠ 25 → (wd.setCells g1 0 (#[.slice A0' m0 c0', .slice A1' m1 c1', .slice A2' m2 c2'] : Array Value).toList).ownsRow base e size v n c := fun {base e size n v c} hv hne =>
     own_only hv OS (fun g hg hm => by simp at hm; subst hm; exact own_apart hv HBR.out hne (by rw [hg]; simp))
    have hF0 : (fewH h).ss.length = m0 := hm0;have hF1 : (fewH h).ks.length = m1 := hm1;have hF2 : (fewH h).l.length = m2 := hm2;refine ⟨A0', A1', A2', c0', c1', c2', ⟨by rw [hF0, hF1, hF2], ⟨(own_row_at (upS HR0d.out (by decide))).1, (own_row_at (upS HR1d.out (by decide))).1, xs, HXS.out, (own_row_at (upS HR2.out (by decide))).1, fun x hx => ?_⟩⟩, HOW.out.step OS (fun i hi hl => by simp at hi; omega)⟩;have hx1 := own_row_at (upS (HOPS.out x hx) (by decide));exact ⟨hx1.1, hx1.2.1, hx1.2.2⟩
end Go.Proofs.YtjfbeeogiejopaaGreatDoor
