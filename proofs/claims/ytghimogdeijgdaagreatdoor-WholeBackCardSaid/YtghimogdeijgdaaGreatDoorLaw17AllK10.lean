/- Parts. -/
import Derived.Test.YtghimogdeijgdaaGreatDoorLaw17AllK9
import Derived.Maps.OwnIn
import Derived.Sort.MapsRangeIn
set_option maxRecDepth 10000
set_option maxHeartbeats 16000000
set_option linter.unusedVariables false
set_option linter.unusedSimpArgs false
namespace Go.Proofs.YtghimogdeijgdaaGreatDoor
open Go.RowKit Go.Shelf
open Go.Lib hiding intOf
attribute [local go_sem] Oper.semAt_some
set_option maxRecDepth 100000 in
theorem ops1_in (F : Fence) (n : Nat) (hf : F.fn 75) (hro : F.round = none) (hn : 1 ≤ n) (l Bn n₀ : Nat) (A2 : Option Addr) (n2 c2 : Nat) (h : Hst) (J Jx : List Pl → World → Prop) (W : World) (hW0 : n₀ ≤ W.heap.size)
  (hn2 : h.l.length = n2) (hM : n2 ≤ 1000) (hno : ∀ t ∈ h.l, t.ops.length ≤ 1000) (hJ : AbidesFrom W.heap.size J)
  (PX : Pl → Prop) (hPX : ∀ i j t o, h.l[i]? = some t → t.ops[j]? = some o → PX (i, j, o))
  (hY : ∀ pre x W1, PX x → J pre W1 → pre.length < 1000001 → YieldAt F (n - 1) Tryz.prog l (plC x) W1 fun e W' =>
   (e = .returned (.bool true) ∧ J (pre ++ [x]) W' ∧ Below n₀ W1 W') ∨ (e = .returned (.bool false) ∧ Jx (pre ++ [x]) W'))
  (hBn : W.cell? ⟨Bn, 2, none⟩ = some (.slice A2 n2 c2)) (hg : LRow W n₀ A2 h.l) (h0 : J [] W) :
  CallsIn F n Tryz.prog 75 #[.func (.yield l) #[] #[], .pointer (some ⟨Bn, 0, none⟩)] W fun e W' => (∃ v, e = .returned v) ∧
   ((∃ ys, ys = plsL h.l ∧ J ys W') ∨ (∃ pre, True ∧ Jx pre W')) := by
 refine callsIn_of_wp Tryz.func75 rfl hf ?_ hro;simp only [Tryz.ntmps75, List.size_toArray, List.length_cons, List.length_nil, Nat.reduceAdd, Nat.reduceSub, Array.replicate_succ, Array.replicate_zero, List.push_toArray, List.append_toArray, List.nil_append, List.cons_append]
 gi_wp2
 gi_loopw [10] (fun iv wr => ∃ k : Nat, iv = .int .i64 k ∧ k ≤ n2 ∧ J (plsL (h.l.take k)) wr ∧ Below n₀ W wr) (fun iv _ => n2 - (intOf iv).toNat)
 case atStart => exact ⟨0, rfl, by omega, h0, Below.refl _ _⟩
 case round =>
  obtain ⟨k, rfl, hk, hJs, hnx⟩ := hrel
  by_cases hlt : k < n2
  ·obtain ⟨x, hx⟩ : ∃ x, h.l[k]? = some x := ⟨_, List.getElem?_eq_getElem (by rw [hn2]; exact hlt)⟩;obtain ⟨b, off, A', cp, rfl, hb, -, hT, hOk⟩ := hg.at_ hx;obtain ⟨a0, a1, a2⟩ := hT.belowB hnx hb;have hm1 := hno x (List.mem_of_getElem? hx);have hpl := plsL_len (h.l.take k) (fun t ht => hno t (List.mem_of_mem_take ht));rw [List.length_take, hn2, Nat.min_eq_left hk] at hpl;have HPT := Hd (plsL_take hx);have HROW := Hd hOk.row;have HPX := Hd (fun j o ho => hPX k j x o hx ho);obtain ⟨s, f, ops⟩ := x;dsimp only at a0 a1 a2 hm1 HPT HROW;generalize hm : ops.length = m at *;have h01 : (k : Int) < (n2 : Int) := by omega
   have hk0 : (0 : Int) ≤ (k : Int) := Int.natCast_nonneg _;have hwk : IntKind.i64.wrap ((k : Int) + 1) = (k : Int) + 1 := IntWalk.i64_in _ (by omega);have hJ1 := hJ _ _ _ none hJs (World.grownBy_alloc wr (.cells #[.int .i64 s, .int .i64 f, .slice A' m cp] 48) none) (by simp);have hnx1 := hnx.alloc (by have := hnx.size; omega) (.cells #[.int .i64 s, .int .i64 f, .slice A' m cp] 48);clear hT hOk
   gi_wp2
   generalize hgt : wr.heap.size = gt
   gi_loopw [18] (fun iv wr => ∃ j : Nat, iv = .int .i64 j ∧ j ≤ m ∧ J (plsL (h.l.take k) ++ plsT k (ops.take j)) wr ∧ Below n₀ W wr) (fun iv _ => m - (intOf iv).toNat)
   case atStart => exact ⟨0, rfl, by omega, by simpa [plsT] using hJ1, hnx1⟩
   case round =>
    obtain ⟨j, rfl, hj, hJs2, hnx2⟩ := hrel;clear hJ1 hnx1 hJs hnx a0 a1 a2 hgt
    by_cases hlt2 : j < m
    ·obtain ⟨y, hy⟩ : ∃ y, ops[j]? = some y := ⟨_, List.getElem?_eq_getElem (by rw [hm]; exact hlt2)⟩;obtain ⟨b', off', rfl, hb', -, hP⟩ := row_op HROW.out hy;obtain ⟨p0, p1, p2, p3⟩ := hP.belowB hnx2 hb';have HTT := Hd (plsT_take (i := k) hy);have HPY := HPX.out j y hy;obtain ⟨yw, yk, yv, yn⟩ := y;dsimp only at p0 p1 p2 p3;have h02 : (j : Int) < (m : Int) := by omega
     have hj0 : (0 : Int) ≤ (j : Int) := Int.natCast_nonneg _;have hwj : IntKind.i64.wrap ((j : Int) + 1) = (j : Int) + 1 := IntWalk.i64_in _ (by omega);have hJ3 := hJ _ _ _ none hJs2 (World.grownBy_alloc wr (.cells #[.bool yw, .int .i64 yk, .int .i64 yv, .int .i64 yn] 55) none) (by simp);have hnx3 := hnx2.alloc (by have := hnx2.size; omega) (.cells #[.bool yw, .int .i64 yk, .int .i64 yv, .int .i64 yn] 55);have hlen : (plsL (h.l.take k) ++ plsT k (ops.take j)).length < 1000001 := by
      rw [List.length_append, plsT_len, List.length_take];omega
     have HAP : Hid (plsL (h.l.take k) ++ plsT k (ops.take (j + 1)) = (plsL (h.l.take k) ++ plsT k (ops.take j)) ++ [(k, j, ⟨yw, yk, yv, yn⟩)]) := Hd (by rw [HTT.out, List.append_assoc]);obtain ⟨fn, tmps, assign, body, hyy, hR⟩ := hY _ (k, j, ⟨yw, yk, yv, yn⟩) _ HPY hJ3 hlen;dsimp only [plC] at hyy hR;clear hP hy HPY
     gi_wp2
     refine hR.mono ?_;rintro e W3 (⟨rfl, hJ4, hk4⟩ | ⟨rfl, hJx4⟩)
     ·gi_wp2
      go_roundw
      case rel => exact ⟨j + 1, by go_num, by omega, by rw [HAP.out]; exact hJ4, hnx3.trans hk4⟩
      case measure => simp [intOf]; omega
     ·gi_wp2
      refine bodyPost_ret (results_none rfl _ _ _) rfl ?_;exact ⟨⟨_, rfl⟩, .inr ⟨_, trivial, hJx4⟩⟩
    ·obtain rfl : j = m := by omega
     have hd2 : decide ((j : Int) < (j : Int)) = false := by simp
     have hJE : J (plsL (h.l.take (k + 1))) wr := by
      rw [HPT.out]
      rwa [show ops.take j = ops from List.take_of_length_le (by rw [hm]; exact Nat.le_refl _)] at hJs2
     gi_wp2
     go_roundw
     case rel => exact ⟨k + 1, by go_num, by omega, hJE, hnx2⟩
     case measure => simp [intOf]; omega
  ·obtain rfl : k = n2 := by omega
   have hd2 : decide ((k : Int) < (k : Int)) = false := by simp
   gi_wp2
   go_end0
   exact ⟨⟨_, rfl⟩, .inl ⟨_, rfl, by rwa [List.take_of_length_le (by rw [hn2]; exact Nat.le_refl _)] at hJs⟩⟩
theorem ops_in (F : Fence) (n : Nat) (hf : F.fn 61) (hro : F.round = none) (A0 A1 A2 : Option Addr) (n0 n1 n2 c0 c1 c2 : Nat) (w : World) :
  CallsIn F n Tryz.prog 61 #[.agg #[.slice A0 n0 c0, .slice A1 n1 c1, .slice A2 n2 c2]] w fun e w' => e = .returned (.func (.func 75) #[] #[.pointer (some ⟨w.heap.size, 0, none⟩)]) ∧ w' = w.alloc (.cells #[.slice A0 n0 c0, .slice A1 n1 c1, .slice A2 n2 c2] 25) := by
 refine callsIn_of_wp Tryz.func61 rfl hf ?_ hro;simp only [Tryz.ntmps61, List.size_toArray, List.length_cons, List.length_nil, Nat.reduceAdd, Nat.reduceSub, Array.replicate_succ, Array.replicate_zero, List.push_toArray, List.append_toArray, List.nil_append, List.cons_append]
 gi_wp2
 go_ret
 exact ⟨rfl, rfl⟩
theorem ops_stops (F : Fence) (n : Nat) (hf : F.fn 75) (hro : F.round = none) (hn : 1 ≤ n) (Bn n₀ : Nat) (A2 : Option Addr) (n2 c2 : Nat) (h : Hst) (w : World) (hBn : Bn < w.heap.size) (hn₀ : n₀ ≤ w.heap.size)
  (hc : w.cell? ⟨Bn, 2, none⟩ = some (.slice A2 n2 c2)) (hg : LRow w n₀ A2 h.l) (hn2 : h.l.length = n2) (hM : n2 ≤ 1000) (hno : ∀ t ∈ h.l, t.ops.length ≤ 1000) :
  SeqStopsK F n Tryz.prog 75 #[.pointer (some ⟨Bn, 0, none⟩)] plC (Below n₀) (fun ys => ys = plsL h.l) (fun _ => True) 1000001 w := fun l J Jx W hW hJ _ hY h0 =>
 ops1_in F n hf hro hn l Bn n₀ A2 n2 c2 h J Jx W (Nat.le_trans hn₀ hW.size) hn2 hM hno hJ (fun _ => True) (fun _ _ _ _ _ _ => trivial) (fun pre x W1 _ => hY pre x W1) ((hW.cell (p := ⟨Bn, 2, none⟩) hBn).trans hc) (hg.only (Only.of_below hW []) (fun _ h => by cases h)) h0
def NWf (n : Int) : Prop := (Lit.int .i64 n).wf = true
def HasN (D : DataW Unit) (p : Int → Bool) : Prop := ∀ n, NWf n → Maps.has D (.int .i64 n) = p n
def hitP (key : Int) (pre : List Pl) (n : Int) : Bool := pre.any fun x => hitN key n x.2.2
theorem HasN.nil (key : Int) : HasN (.map []) (hitP key []) := fun n _ => by simp [Maps.has, hitP]
theorem hitP_snoc (key : Int) (pre : List Pl) (x : Pl) (n : Int) : hitP key (pre ++ [x]) n = (hitP key pre n || hitN key n x.2.2) := by simp [hitP]
theorem HasN.put {D : DataW Unit} {key : Int} {pre : List Pl} (h : HasN D (hitP key pre)) (hD : Maps.IsMap D) {x : Pl} (hw : x.2.2.wr = true) (hk : x.2.2.key = key) (d : DataW Unit) : HasN (D.put (.int .i64 x.2.2.vn) d) (hitP key (pre ++ [x])) := fun n hn => by
 rw [hitP_snoc];unfold hitN;rw [hw, hk]
 by_cases e : x.2.2.vn = n
 ·subst e;rw [Maps.has_put_same hD (by trivial : WideAt.IsKeyLit (.int .i64 x.2.2.vn))];simp
 ·rw [Maps.has_put_other (by intro q; cases q; exact e rfl), h n hn];simp [e]
theorem HasN.skip {D : DataW Unit} {key : Int} {pre : List Pl} (h : HasN D (hitP key pre)) {x : Pl} (hx : (x.2.2.wr && decide (x.2.2.key = key)) = false) : HasN D (hitP key (pre ++ [x])) := fun n hn => by
 rw [hitP_snoc, h n hn];unfold hitN;rw [← Bool.and_assoc, hx];simp
end Go.Proofs.YtghimogdeijgdaaGreatDoor
namespace Go.Proofs.YtghimogdeijgdaaGreatDoor
open Go.RowKit
open Go.Lib hiding intOf
attribute [local go_sem ↓] Go.wp_at_zero Go.wp_at_succ

end Go.Proofs.YtghimogdeijgdaaGreatDoor
namespace Go.Proofs.YtghimogdeijgdaaGreatDoor

structure Wld where
 c : List Bool
 l : List V2

/-! ### Which transactions are asked for, by rank -/
theorem which_upto {p : Tx → Bool} {l : List Tx} : ∀ k, k ≤ l.length → ∀ (q : Nat) (z : Int), (whichL p (l.take k))[q]? = some z → ∃ (i : Nat) (t : Tx), z = (i : Int) ∧ i < k ∧ l[i]? = some t ∧ p t = true ∧ (whichL p (l.take i)).length = q := by
 intro k
 induction k with
 | zero => intro _ q z h; simp [whichL] at h
 | succ k ih =>
  intro hk q z h;obtain ⟨t, ht⟩ : ∃ t, l[k]? = some t := ⟨_, List.getElem?_eq_getElem (by omega)⟩;rw [which_take ht] at h
  by_cases hq : q < (whichL p (l.take k)).length
  ·rw [List.getElem?_append_left hq] at h;obtain ⟨i, t', h1, h2, h3⟩ := ih (by omega) q z h;exact ⟨i, t', h1, by omega, h3⟩
  ·rw [List.getElem?_append_right (by omega)] at h
   by_cases hp : p t = true
   ·rw [if_pos hp] at h;have h0 : q - (whichL p (l.take k)).length = 0 := by
     cases hd : q - (whichL p (l.take k)).length with
     | zero => rfl
     | succ d => rw [hd] at h; simp at h
    rw [h0] at h;simp at h;exact ⟨k, t, h.symm, by omega, ht, hp, by omega⟩
   ·rw [if_neg hp] at h;simp at h
theorem which_get {p : Tx → Bool} {l : List Tx} {q : Nat} {z : Int} (h : (whichL p l)[q]? = some z) : ∃ (i : Nat) (t : Tx), z = (i : Int) ∧ l[i]? = some t ∧ p t = true ∧ (whichL p (l.take i)).length = q := by
 rw [← List.take_length (l := l)] at h;obtain ⟨i, t, h1, -, h2⟩ := which_upto _ (Nat.le_refl _) q z h;exact ⟨i, t, h1, h2⟩
theorem which_mono (p : Tx → Bool) (l : List Tx) (i : Nat) : ∀ d, (whichL p (l.take i)).length ≤ (whichL p (l.take (i + d))).length
 | 0 => Nat.le_refl _
 | d + 1 => by
  refine Nat.le_trans (which_mono p l i d) ?_
  cases h : l[i + d]? with
  | none =>
   have := List.getElem?_eq_none_iff.1 h;rw [List.take_of_length_le (by omega), List.take_of_length_le (by omega)];exact Nat.le_refl _
  | some t =>
   rw [← Nat.add_assoc, which_take h, List.length_append];omega
theorem which_rank {p : Tx → Bool} {l : List Tx} {i j : Nat} {t : Tx} (h : l[i]? = some t) (hp : p t = true) (hij : i < j) : (whichL p (l.take i)).length < (whichL p (l.take j)).length := by
 have h1 := which_mono p l (i + 1) (j - (i + 1));rw [show i + 1 + (j - (i + 1)) = j by omega, which_take h, if_pos hp, List.length_append] at h1;simp at h1;omega
theorem which_rank_lt {p : Tx → Bool} {l : List Tx} {i : Nat} {t : Tx} (h : l[i]? = some t) (hp : p t = true) : (whichL p (l.take i)).length < (whichL p l).length := by
 have := which_rank h hp (List.getElem?_eq_some_iff.1 h).1
 rwa [List.take_length] at this

/-! ### Who committed -/
def infoB (t : Tx) : Bool := decide (t.f = 3)
def rankL (l : List Tx) (i : Nat) : Nat := (whichL infoB (l.take i)).length
def comB (l : List Tx) (c : List Bool) (i : Nat) (t : Tx) : Bool := if t.f = 3 then c.getD (rankL l i) false else decide (t.f = 1)
def comL (l : List Tx) (c : List Bool) : List Bool := l.zipIdx.map fun x => comB l c x.2 x.1
def comQ (q : Nat) (l : List Tx) (c : List Bool) : List Bool := l.zipIdx.map fun x => if x.1.f = 3 ∧ rankL l x.2 < q then c.getD (rankL l x.2) false else decide (x.1.f = 1)
theorem comL_len (l : List Tx) (c : List Bool) : (comL l c).length = l.length := by simp [comL]
theorem comQ_len (q : Nat) (l : List Tx) (c : List Bool) : (comQ q l c).length = l.length := by simp [comQ]
theorem comL_get {l : List Tx} {c : List Bool} {i : Nat} {t : Tx} (h : l[i]? = some t) : (comL l c)[i]? = some (comB l c i t) := by
 unfold comL;rw [List.getElem?_map, List.getElem?_zipIdx, h];simp
theorem comQ_get {q : Nat} {l : List Tx} {c : List Bool} {i : Nat} {t : Tx} (h : l[i]? = some t) : (comQ q l c)[i]? = some (if t.f = 3 ∧ rankL l i < q then c.getD (rankL l i) false else decide (t.f = 1)) := by
 unfold comQ;rw [List.getElem?_map, List.getElem?_zipIdx, h];simp
theorem comQ_zero (l : List Tx) (c : List Bool) : comQ 0 l c = l.map fun t => decide (t.f = 1) := by
 unfold comQ;refine List.ext_getElem? fun i => ?_;rw [List.getElem?_map, List.getElem?_map, List.getElem?_zipIdx]
 cases l[i]? with
 | none => rfl
 | some t => simp
theorem comQ_all (l : List Tx) (c : List Bool) : comQ (whichL infoB l).length l c = comL l c := by
 refine List.ext_getElem? fun i => ?_
 cases h : l[i]? with
 | none => rw [List.getElem?_eq_none (by rw [comQ_len]; exact List.getElem?_eq_none_iff.1 h), List.getElem?_eq_none (by rw [comL_len]; exact List.getElem?_eq_none_iff.1 h)]
 | some t =>
  rw [comQ_get h, comL_get h];unfold comB
  by_cases hf : t.f = 3
  ·rw [if_pos ⟨hf, which_rank_lt h (by simp [infoB, hf])⟩, if_pos hf]
  ·rw [if_neg (fun e => hf e.1), if_neg hf]
theorem comQ_step {q : Nat} {l : List Tx} {c : List Bool} {i : Nat} {t : Tx} (h : l[i]? = some t) (hp : infoB t = true) (hr : rankL l i = q) : comQ (q + 1) l c = (comQ q l c).set i (c.getD q false) := by
 have hi := (List.getElem?_eq_some_iff.1 h).1;refine List.ext_getElem? fun k => ?_;rw [List.getElem?_set]
 split
 ·rename_i e
  subst e;rw [if_pos (by rw [comQ_len]; exact hi), comQ_get h, if_pos ⟨by simpa [infoB] using hp, by omega⟩, hr]
 ·rename_i e
  cases hk : l[k]? with
  | none => rw [List.getElem?_eq_none (by rw [comQ_len]; exact List.getElem?_eq_none_iff.1 hk), List.getElem?_eq_none (by rw [comQ_len]; exact List.getElem?_eq_none_iff.1 hk)]
  | some u =>
   rw [comQ_get hk, comQ_get hk]
   by_cases hu : u.f = 3
   ·have hne : rankL l k ≠ q := by
     intro hq;rcases Nat.lt_or_ge i k with hik | hik
     ·have := which_rank (p := infoB) h hp hik;unfold rankL at hr hq;omega
     ·have := which_rank (p := infoB) (i := k) (j := i) hk (by simp [infoB, hu]) (by omega);unfold rankL at hr hq;omega
    by_cases hq : rankL l k < q
    ·rw [if_pos ⟨hu, by omega⟩, if_pos ⟨hu, hq⟩]
    ·rw [if_neg (by omega), if_neg (by omega)]
   ·rw [if_neg (fun e => hu e.1), if_neg (fun e => hu e.1)]

/-! ### What is tried -/
def lostX (l : List Tx) : List Pl := (plsL l).filter fun x => decide (x.2.2.vk = 2)
theorem lostP_eq (l : List Tx) : lostP (plsL l) = (lostX l).map fun x => ((x.1 : Int), (x.2.1 : Int)) := rfl
def triesO (h : Hst) (i : Nat) (t : Tx) (j : Nat) (o : Op4) (b : Bool) : List V2 :=
 if b = true then
  match leftW o.key (t.ops.take j) with
  | some v => [v, (1, (freshN h.l o.key : Int))]
  | none => sortV (valsO (i : Int) o.key h.l) ++ [(1, (freshN h.l o.key : Int))]
 else [(0, 0)]
def triesX (h : Hst) (b : Bool) (x : Pl) : List V2 :=
 match h.l[x.1]? with
 | some t => triesO h x.1 t x.2.1 x.2.2 b
 | none => []
def okV (v : V2) : Bool := decide (v.1 = 1) || (decide (v.1 = 0) && decide (v.2 = 0))
def mayW (h : Hst) (w : Wld) : Bool := mayH h && (decide (w.c.length = (whichL infoB h.l).length) && (decide (w.l.length = (lostX h.l).length) && w.l.all okV))

/-! ### Counting up -/
section
variable {α : Type} [BEq α]
variable {d : α}
end
end Go.Proofs.YtghimogdeijgdaaGreatDoor
