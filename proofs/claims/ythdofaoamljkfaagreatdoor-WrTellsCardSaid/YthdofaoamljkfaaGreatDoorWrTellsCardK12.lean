/- Parts. -/
import Derived.Lib.Agree
import Derived.Shelf.SlSortCmp.Insertion
import Derived.Shelf.GgSortFunc.InsertionK
import Derived.Shelf.SlSortFuncK.RowK2
import Derived.Lib.SliceRun
import Derived.Deep.LoopGhost
import Derived.Test.YthdofaoamljkfaaGreatDoorWrTellsCardK11
import Derived.Maps.OwnIn
import Derived.Sort.MapsRangeIn
set_option maxRecDepth 10000
set_option maxHeartbeats 16000000
set_option linter.unusedVariables false
set_option linter.unusedSimpArgs false
namespace Go.Proofs.YthdofaoamljkfaaGreatDoor
open Go.RowKit Go.ChangeShapes Go.WideShapes
section
variable {H : Type} {enc : TypeId × Value → H} {P : Program} {w : World}
open Go.Deep
end
section
variable {H : Type} {enc : TypeId × Value → H} {P : Program} {w : World}
end
end Go.Proofs.YthdofaoamljkfaaGreatDoor


namespace Go.Proofs.YthdofaoamljkfaaGreatDoor
open Go.RowKit
open Go.Lib hiding intOf
attribute [local go_sem ↓] Go.wp_at_zero Go.wp_at_succ
@[reducible] def ValT : Type := {a : Int × Int // mayP a = true}
theorem val_0 : mayP (0, 0) = true := by decide
def HasBlk (w : World) (g : Nat) (t : TypeId) (k : Nat) : Prop := ∃ cs, Blk w g t cs ∧ cs.size = k
theorem HasBlk.modify {w : World} {g : Nat} {t : TypeId} {k : Nat} (h : HasBlk w g t k) {w' : World} (f : Array Value → Array Value) (hf : ∀ cs, (f cs).size = cs.size) (he : w'.heap[g]? = (w.heap.modify g (Go.Sort.onCells f))[g]?) : HasBlk w' g t k := by
 obtain ⟨cs, hb, hs⟩ := h;unfold Blk at hb;rw [Array.getElem?_modify, if_pos rfl, hb] at he;exact ⟨_, he, by rw [hf]; exact hs⟩
theorem HasBlk.setCells {w : World} {g : Nat} {t : TypeId} {n : Nat} (h : HasBlk w g t n) : ∀ (vs : List Value) (o : Nat), HasBlk (w.setCells g o vs) g t n
 | [], _ => h
 | v :: vs, o => by
  obtain ⟨cs, hb, hs⟩ := h;exact HasBlk.setCells (w := w.setCell ⟨g, o, none⟩ v) ⟨_, hb.put o v, by simpa using hs⟩ vs (o + 1)
end Go.Proofs.YthdofaoamljkfaaGreatDoor
namespace Go.Proofs.YthdofaoamljkfaaGreatDoor
open Go.RowKit Go.Sort
open Go.Lib hiding intOf
attribute [local go_sem ↓] Go.wp_at_zero Go.wp_at_succ


end Go.Proofs.YthdofaoamljkfaaGreatDoor
namespace Go.Proofs.YthdofaoamljkfaaGreatDoor
open Go.RowKit
open Go.Lib hiding intOf
attribute [local go_sem ↓] Go.wp_at_zero Go.wp_at_succ


end Go.Proofs.YthdofaoamljkfaaGreatDoor
namespace Go.Proofs.YthdofaoamljkfaaGreatDoor
open Go.RowKit
section
variable {P : Program} {ops : Array Oper} {Q : Exit → Act → World → Prop} {md : Region.Mode} {S : Array Bool → World → Prop}
theorem timed_forks {l : List Nat} {fuel : Nat} {listed : Array Bool} {a : Act} {w : World} (hr : Region.ready md ops listed = l) (hl : l ≠ [])
  (h : ∀ k ∈ l, ∃ ok, ops[k]? = some ok ∧ ∀ K' : Act → World → Prop, Shut (∀ a w, S (listed.setIfInBounds k true) w → (S (listed.setIfInBounds k true) w → wpAnyT P md ops Q S fuel (listed.setIfInBounds k true) a w) → K' a w) →
   if Region.wanted ok (yielded ops a.tmps) = true then Oper.wp P ok a w K' Q else K' (a.put ok.dst undef) w) : S listed w → wpAnyT P md ops Q S (fuel + 1) listed a w := by
 intro _;refine ⟨fun h0 => (by rw [hr] at h0; exact absurd h0 hl), fun k hk => ?_⟩;rw [hr] at hk;obtain ⟨ok, ho, hs⟩ := h k hk;exact wpOp_step ho (fun K' hK => hs K' (fun a w hS hW => hK a w ⟨hS, hW hS⟩))
end
section
variable {G : Prop}
theorem cut_0_0 (F : World → Prop) {L : World → Prop} (h1 : (∀ (w : World), F w  → L w ) → G) (h2 : ∀ (w : World), F w  → L w ) : G := h1 h2
theorem cut_1_0 (F : World → Nat → Prop) {L : World → Nat → Prop} (h1 : (∀ (w : World) (g0 : Nat), F w g0  → L w g0 ) → G) (h2 : ∀ (w : World) (g0 : Nat), F w g0  → L w g0 ) : G := h1 h2
end
theorem fork_cons {p : Nat → Prop} {k : Nat} {l : List Nat} (h : p k) (r : ∀ j ∈ l, p j) : ∀ j ∈ k :: l, p j := List.forall_mem_cons.2 ⟨h, r⟩
theorem fork_nil {p : Nat → Prop} : ∀ j ∈ ([] : List Nat), p j := fun _ h => by cases h
open Go.Lib hiding intOf
attribute [local go_sem ↓] Go.wp_at_zero Go.wp_at_succ
def HInt (h : Hst) : Prop := ∀ t ∈ h.l, ∀ x ∈ t.ops, OpI x
theorem may_ops {h : Hst} (hm : mayH h = true) : h.l.length ≤ 40 ∧ (∀ t ∈ h.l, t.ops.length ≤ 20) ∧ ∀ t ∈ h.l, ∀ o ∈ t.ops, 0 ≤ o.key ∧ o.key < (h.ks.length : Int) ∧ mayB o.vk o.vn = true ∧ (o.wr = true → o.vk = 1) := by
 unfold mayH namesB txsB opsB at hm;simp only [Bool.and_eq_true, decide_eq_true_eq] at hm;obtain ⟨-, -, ⟨hn, hx, -⟩, ho, -⟩ := hm;refine ⟨hn, fun t ht => ?_, fun t ht o hop => ?_⟩
 ·have h1 := List.all_eq_true.1 hx t ht;unfold txB at h1;simp only [Bool.and_eq_true, decide_eq_true_eq] at h1;exact h1.2.2
 ·have h1 := List.all_eq_true.1 (List.all_eq_true.1 ho t ht) o hop;unfold opB at h1;simp only [Bool.and_eq_true, decide_eq_true_eq, Bool.or_eq_true, Bool.not_eq_true'] at h1;refine ⟨h1.1.1, h1.1.2, h1.2.1, fun hw => ?_⟩;rcases h1.2.2 with h2 | h2
  ·rw [hw] at h2; cases h2
  ·exact h2
end Go.Proofs.YthdofaoamljkfaaGreatDoor
namespace Go.Proofs.YthdofaoamljkfaaGreatDoor
abbrev Pl := Nat × Nat × Op4
def plsT (i : Nat) (l : List Op4) : List Pl := l.zipIdx.map fun x => (i, x.2, x.1)
def plsL (l : List Tx) : List Pl := l.zipIdx.flatMap fun x => plsT x.2 x.1.ops
theorem plsT_take {i : Nat} {l : List Op4} {j : Nat} {x : Op4} (h : l[j]? = some x) : plsT i (l.take (j + 1)) = plsT i (l.take j) ++ [(i, j, x)] := by
 have hj := (List.getElem?_eq_some_iff.1 h).1;unfold plsT;rw [List.take_add_one, h, List.zipIdx_append, List.map_append, List.length_take, Nat.min_eq_left (Nat.le_of_lt hj)];simp [List.zipIdx]
theorem plsL_take {l : List Tx} {k : Nat} {t : Tx} (h : l[k]? = some t) : plsL (l.take (k + 1)) = plsL (l.take k) ++ plsT k t.ops := by
 have hk := (List.getElem?_eq_some_iff.1 h).1;unfold plsL;rw [List.take_add_one, h, List.zipIdx_append, List.flatMap_append, List.length_take, Nat.min_eq_left (Nat.le_of_lt hk)];simp [List.zipIdx]
theorem plsT_len (i : Nat) (l : List Op4) : (plsT i l).length = l.length := by simp [plsT]
theorem plsL_len : ∀ (l : List Tx), (∀ t ∈ l, t.ops.length ≤ 1000) → (plsL l).length ≤ l.length * 1000 := by
 intro l;unfold plsL;generalize 0 = s
 induction l generalizing s with
 | nil => intro _; simp
 | cons t l ih =>
  intro h;have h1 := ih (s + 1) (fun x hx => h x (List.mem_cons_of_mem _ hx));have h2 := h t List.mem_cons_self;rw [List.zipIdx_cons, List.flatMap_cons, List.length_append, plsT_len, List.length_cons]
  show t.ops.length + _ ≤ _
  omega
def placeC (l : List (Int × Int)) : List Value := l.flatMap fun e => [.int .i64 e.1, .int .i64 e.2]
theorem placeC_append (l k : List (Int × Int)) : placeC (l ++ k) = placeC l ++ placeC k := by simp [placeC]
def lostP (ps : List Pl) : List (Int × Int) := (ps.filter fun x => decide (x.2.2.vk = 2)).map fun x => ((x.1 : Int), (x.2.1 : Int))
theorem lostP_hit (pre : List Pl) {x : Pl} (h : x.2.2.vk = 2) : lostP (pre ++ [x]) = lostP pre ++ [((x.1 : Int), (x.2.1 : Int))] := by simp [lostP, h]
theorem lostP_miss (pre : List Pl) {x : Pl} (h : ¬ x.2.2.vk = 2) : lostP (pre ++ [x]) = lostP pre := by simp [lostP, h]
theorem lostP_le (pre : List Pl) : (lostP pre).length ≤ pre.length := by
 unfold lostP;rw [List.length_map];exact List.length_filter_le _ _
theorem info_place : (Tryz.prog.info? 56).map (fun i => (i.zero, i.size, i.bytes)) = some (some (.agg #[.int .i64 0, .int .i64 0]), 2, 16) := by kernel_rfl
open Go.RowKit Go.Shelf
open Go.Lib hiding intOf
attribute [local go_sem] Oper.semAt_some

def NWf (n : Int) : Prop := (Lit.int .i64 n).wf = true
def HasN (D : DataW Unit) (p : Int → Bool) : Prop := ∀ n, NWf n → Maps.has D (.int .i64 n) = p n
def hitP (key : Int) (pre : List Pl) (n : Int) : Bool := pre.any fun x => hitN key n x.2.2
theorem HasN.nil (key : Int) : HasN (.map []) (hitP key []) := fun n _ => by simp [Maps.has, hitP]
theorem hitP_snoc (key : Int) (pre : List Pl) (x : Pl) (n : Int) : hitP key (pre ++ [x]) n = (hitP key pre n || hitN key n x.2.2) := by simp [hitP]
theorem HasN.put {D : DataW Unit} {key : Int} {pre : List Pl} (h : HasN D (hitP key pre)) (hD : Maps.IsMap D) {x : Pl} (hw : x.2.2.wr = true) (hk : x.2.2.key = key) (d : DataW Unit) : HasN (D.put (.int .i64 x.2.2.vn) d) (hitP key (pre ++ [x])) := fun n hn => by
 rw [hitP_snoc];unfold hitN;rw [hw, hk]
 by_cases e : x.2.2.vn = n
 ·subst e;rw [Maps.has_put_same hD (by trivial : WideAt.IsKeyLit (.int .i64 x.2.2.vn))];simp
 ·rw [Maps.has_put_other (by intro q; cases q; exact e rfl), h n hn];simp [e]
theorem HasN.skip {D : DataW Unit} {key : Int} {pre : List Pl} (h : HasN D (hitP key pre)) {x : Pl} (hx : (x.2.2.wr && decide (x.2.2.key = key)) = false) : HasN D (hitP key (pre ++ [x])) := fun n hn => by
 rw [hitP_snoc, h n hn];unfold hitN;rw [← Bool.and_assoc, hx];simp
end Go.Proofs.YthdofaoamljkfaaGreatDoor
namespace Go.Proofs.YthdofaoamljkfaaGreatDoor
open Go.RowKit
open Go.Lib hiding intOf
attribute [local go_sem ↓] Go.wp_at_zero Go.wp_at_succ
theorem read_inv {h : Hst} {a b : Int} {t : Tx} {o : Op4} (hr : readO h a b = some (t, o)) : mayH h = true ∧ ∃ i j : Nat, a = (i : Int) ∧ b = (j : Int) ∧ h.l[i]? = some t ∧ t.ops[j]? = some o ∧ o.wr = false := by
 unfold readO at hr
 cases ho : opAtH h a b with
 | none => rw [ho] at hr; cases hr
 | some x =>
  rw [ho] at hr;simp only [Option.bind_some] at hr
  split at hr
  ·cases hr
  ·rename_i hw
   simp at hr;subst hr;unfold opAtH txAtH at ho
   split at ho
   ·rename_i hc
    cases hx : h.l[a.toNat]? with
    | none => rw [hx] at ho; cases ho
    | some t' =>
     rw [hx] at ho;simp only [Option.bind_some] at ho
     split at ho
     ·rename_i hb
      cases hy : t'.ops[b.toNat]? with
      | none => rw [hy] at ho; cases ho
      | some o' =>
       rw [hy] at ho;simp at ho;obtain ⟨rfl, rfl⟩ := ho;exact ⟨hc.1, a.toNat, b.toNat, by omega, by omega, hx, hy, by simpa using hw⟩
     ·cases ho
   ·cases ho
end Go.Proofs.YthdofaoamljkfaaGreatDoor
namespace Go.Proofs.YthdofaoamljkfaaGreatDoor

theorem which_upto {p : Tx → Bool} {l : List Tx} : ∀ k, k ≤ l.length → ∀ (q : Nat) (z : Int), (whichL p (l.take k))[q]? = some z → ∃ (i : Nat) (t : Tx), z = (i : Int) ∧ i < k ∧ l[i]? = some t ∧ p t = true ∧ (whichL p (l.take i)).length = q := by
 intro k
 induction k with
 | zero => intro _ q z h; simp [whichL] at h
 | succ k ih =>
  intro hk q z h;obtain ⟨t, ht⟩ : ∃ t, l[k]? = some t := ⟨_, List.getElem?_eq_getElem (by omega)⟩;rw [which_take ht] at h
  by_cases hq : q < (whichL p (l.take k)).length
  ·rw [List.getElem?_append_left hq] at h;obtain ⟨i, t', h1, h2, h3⟩ := ih (by omega) q z h;exact ⟨i, t', h1, by omega, h3⟩
  ·rw [List.getElem?_append_right (by omega)] at h
   by_cases hp : p t = true
   ·rw [if_pos hp] at h;have h0 : q - (whichL p (l.take k)).length = 0 := by
     cases hd : q - (whichL p (l.take k)).length with
     | zero => rfl
     | succ d => rw [hd] at h; simp at h
    rw [h0] at h;simp at h;exact ⟨k, t, h.symm, by omega, ht, hp, by omega⟩
   ·rw [if_neg hp] at h;simp at h
theorem which_get {p : Tx → Bool} {l : List Tx} {q : Nat} {z : Int} (h : (whichL p l)[q]? = some z) : ∃ (i : Nat) (t : Tx), z = (i : Int) ∧ l[i]? = some t ∧ p t = true ∧ (whichL p (l.take i)).length = q := by
 rw [← List.take_length (l := l)] at h;obtain ⟨i, t, h1, -, h2⟩ := which_upto _ (Nat.le_refl _) q z h;exact ⟨i, t, h1, h2⟩
def infoB (t : Tx) : Bool := decide (t.f = 3)
def lostX (l : List Tx) : List Pl := (plsL l).filter fun x => decide (x.2.2.vk = 2)
theorem lostP_eq (l : List Tx) : lostP (plsL l) = (lostX l).map fun x => ((x.1 : Int), (x.2.1 : Int)) := rfl
section
variable {α : Type} [BEq α]
def nextOf (vs : List α) (x : α) : Option α := vs[vs.idxOf x + 1]?
def upL (d : α) : List (List α) → List α → Option (List α)
 | vs :: r, x :: xs =>
  match upL d r xs with
  | some ys => some (x :: ys)
  | none => (nextOf vs x).map fun y => y :: r.map fun us => us.headD d
 | _, _ => none
def headsL (d : α) (vals : List (List α)) : List α := vals.map fun us => us.headD d
variable {d : α}
theorem upL_cons {vs : List α} {r : List (List α)} {x : α} {xs : List α} : upL d (vs :: r) (x :: xs) = match upL d r xs with
  | some ys => some (x :: ys)
  | none => (nextOf vs x).map fun y => y :: headsL d r := rfl
theorem upL_pre : ∀ {v1 v2 : List (List α)} {l1 l2 ys : List α}, v1.length = l1.length → upL d v2 l2 = some ys → upL d (v1 ++ v2) (l1 ++ l2) = some (l1 ++ ys)
 | [], v2, [], l2, ys, _, h => h
 | vs :: v1, v2, x :: l1, l2, ys, hl, h => by
  have := upL_pre (v1 := v1) (l1 := l1) (by simpa using hl) h;rw [List.cons_append, List.cons_append, upL_cons, this]
  rfl
 | [], v2, x :: l1, l2, ys, hl, h => by simp at hl
 | vs :: v1, v2, [], l2, ys, hl, h => by simp at hl
theorem drop_cons {β : Type} {l : List β} {i : Nat} {x : β} (h : l[i]? = some x) : l.drop i = x :: l.drop (i + 1) := by
 obtain ⟨hi, rfl⟩ := List.getElem?_eq_some_iff.1 h;exact List.drop_eq_getElem_cons hi
theorem upL_at {vals : List (List α)} {l : List α} {i : Nat} {vs : List α} {x y : α} (hv : vals[i]? = some vs) (hx : l[i]? = some x) (hn : upL d (vals.drop (i + 1)) (l.drop (i + 1)) = none) (hy : nextOf vs x = some y) :
  upL d vals l = some (l.take i ++ y :: headsL d (vals.drop (i + 1))) := by
 have h1 : upL d (vals.drop i) (l.drop i) = some (y :: headsL d (vals.drop (i + 1))) := by
  rw [drop_cons hv, drop_cons hx, upL_cons, hn, hy]
  rfl
 have hi := (List.getElem?_eq_some_iff.1 hv).1;have hj := (List.getElem?_eq_some_iff.1 hx).1;have := upL_pre (d := d) (v1 := vals.take i) (l1 := l.take i) (by rw [List.length_take, List.length_take]; omega) h1
 rwa [List.take_append_drop, List.take_append_drop] at this
theorem upL_on {vals : List (List α)} {l : List α} {i : Nat} {vs : List α} {x : α} (hv : vals[i]? = some vs) (hx : l[i]? = some x) (hn : upL d (vals.drop (i + 1)) (l.drop (i + 1)) = none) (hy : nextOf vs x = none) :
  upL d (vals.drop i) (l.drop i) = none := by
 rw [drop_cons hv, drop_cons hx, upL_cons, hn, hy]
 rfl
theorem upL_end {vals : List (List α)} {l : List α} {n : Nat} (h1 : vals.length ≤ n) : upL d (vals.drop n) (l.drop n) = none := by
 rw [List.drop_of_length_le h1]
 rfl
end
def lostN (l : List Op4) : Nat := (l.filter fun o => decide (o.vk = 2)).length
def lostT (l : List Tx) : Nat := (l.map fun t => lostN t.ops).sum
theorem lostN_cons (o : Op4) (r : List Op4) : lostN (o :: r) = (if o.vk = 2 then 1 else 0) + lostN r := by
 unfold lostN
 by_cases h : o.vk = 2
 ·simp [List.filter_cons, h]; omega
 ·simp [List.filter_cons, h]
theorem lostT_cons (t : Tx) (r : List Tx) : lostT (t :: r) = lostN t.ops + lostT r := by simp [lostT]
theorem which_len (p : Tx → Bool) (l : List Tx) : (whichL p l).length = (l.filter p).length := by
 have H : ∀ (l : List Tx) (k : Nat), ((l.zipIdx k).filter fun x => p x.1).length = (l.filter p).length := by
  intro l
  induction l with
  | nil => intro k; rfl
  | cons t r ih =>
   intro k;rw [List.zipIdx_cons, List.filter_cons, List.filter_cons]
   by_cases h : p t = true
   ·rw [if_pos h, if_pos h, List.length_cons, List.length_cons, ih]
   ·rw [if_neg h, if_neg h, ih]
 unfold whichL;rw [List.length_map, H]
def knownT (t : Tx) : Bool := decide (t.f ≠ 3) && t.ops.all fun o => decide (o.vk ≠ 2)
def wholeB (h : Hst) : Bool := mayH h && h.l.all knownT
theorem plsT_lost (i : Nat) (l : List Op4) : ((plsT i l).filter fun x => decide (x.2.2.vk = 2)).length = lostN l := by
 have H : ∀ (l : List Op4) (k : Nat), (((l.zipIdx k).map fun x => ((i, x.2, x.1) : Pl)).filter fun x => decide (x.2.2.vk = 2)).length = lostN l := by
  intro l
  induction l with
  | nil => intro k; rfl
  | cons o r ih =>
   intro k;rw [List.zipIdx_cons, List.map_cons, List.filter_cons, lostN_cons]
   by_cases h : o.vk = 2
   ·rw [if_pos (by simpa using h), if_pos h, List.length_cons, ih]; omega
   ·rw [if_neg (by simpa using h), if_neg h, ih]; omega
 exact H l 0
theorem lostXw_len (l : List Tx) : (lostX l).length = lostT l := by
 have H : ∀ (l : List Tx) (k : Nat), (((l.zipIdx k).flatMap fun x => plsT x.2 x.1.ops).filter fun x => decide (x.2.2.vk = 2)).length = lostT l := by
  intro l
  induction l with
  | nil => intro k; rfl
  | cons t r ih =>
   intro k;rw [List.zipIdx_cons, List.flatMap_cons, List.filter_append, List.length_append, plsT_lost, ih, lostT_cons]
 exact H l 0
def Goes {β : Type} (f : β → Option β) (L : List β) : Prop := ∀ (i : Nat) (x : β), L[i]? = some x → f x = L[i + 1]?
theorem Goes.tail {β : Type} {f : β → Option β} {a : β} {L : List β} (h : Goes f (a :: L)) : Goes f L := fun i x hx => by
 have := h (i + 1) x (by simpa using hx)
 simpa using this
theorem Goes.head {β : Type} {f : β → Option β} {a : β} {L : List β} (h : Goes f (a :: L)) : f a = L[0]? := by
 have := h 0 a rfl
 simpa using this
theorem Goes.inj {β : Type} {f : β → Option β} {L : List β} (h : Goes f L) {i j : Nat} {x : β} (hi : L[i]? = some x) (hj : L[j]? = some x) : i = j := by
 have key : ∀ (k i j : Nat) (x : β), L.length - j ≤ k → i < j → L[i]? = some x → L[j]? = some x → False := by
  intro k
  induction k with
  | zero => intro i j x hk hij hi hj; have := (List.getElem?_eq_some_iff.1 hj).1; omega
  | succ k ih =>
   intro i j x hk hij hi hj;have h1 := h i x hi;have h2 := h j x hj;have hjl := (List.getElem?_eq_some_iff.1 hj).1;have hil : L[i + 1]? = some L[i + 1] := List.getElem?_eq_getElem (by omega);exact ih (i + 1) (j + 1) L[i + 1] (by omega) (by omega) hil (by rw [← h2, h1, hil])
 rcases Nat.lt_trichotomy i j with hij | hij | hij
 ·exact (key _ i j x (Nat.le_refl _) hij hi hj).elim
 ·exact hij
 ·exact (key _ j i x (Nat.le_refl _) hij hj hi).elim
open Go.Lib hiding intOf
def outAt (ops : List Op4) (i : Nat) (o : Op4) : Bool := !o.wr && !(leftW o.key (ops.take i)).isSome
def outI (ops : List Op4) : List Int := (ops.zipIdx.filter fun x => outAt ops x.2 x.1).map fun x => (x.2 : Int)
def outT (t : Tx) (i : Int) : List (Int × Int) := if t.f = 1 then (outI t.ops).map fun k => (i, k) else []
def rdsL (l : List Tx) : List (Int × Int) := l.zipIdx.flatMap fun x => outT x.1 (x.2 : Int)
def choL (h : Hst) : List (List Int) := (rdsL h.l).map fun p => wrOf h p.1 p.2
def leavs (key : Int) (v : Int × Int) (l : List Tx) : List Int := (l.zipIdx.filter fun x => decide (x.1.f = 1) && decide (leftW key x.1.ops = some v)).map fun x => (x.2 : Int)
theorem outI_step {ops : List Op4} {k : Nat} {o : Op4} (h : ops[k]? = some o) : ((ops.take (k + 1)).zipIdx.filter fun x => outAt ops x.2 x.1).map (fun x => (x.2 : Int)) = ((ops.take k).zipIdx.filter fun x => outAt ops x.2 x.1).map (fun x => (x.2 : Int)) ++ if outAt ops k o = true then [(k : Int)] else [] := by
 have hk := (List.getElem?_eq_some_iff.1 h).1;rw [List.take_add_one, h, Option.toList_some, List.zipIdx_append, List.filter_append, List.map_append, List.length_take, Nat.min_eq_left (Nat.le_of_lt hk)]
 congr 1
 cases hp : outAt ops k o <;> simp [hp, List.zipIdx]
def outN (ops : List Op4) (k : Nat) : List Int := ((ops.take k).zipIdx.filter fun x => outAt ops x.2 x.1).map fun x => (x.2 : Int)
theorem outN_step {ops : List Op4} {k : Nat} {o : Op4} (h : ops[k]? = some o) : outN ops (k + 1) = outN ops k ++ if outAt ops k o = true then [(k : Int)] else [] := outI_step h
theorem outN_all (ops : List Op4) {k : Nat} (h : ops.length ≤ k) : outN ops k = outI ops := by
 unfold outN outI;rw [List.take_of_length_le h]
theorem outN_le (ops : List Op4) (k : Nat) : (outN ops k).length ≤ k := by
 unfold outN;rw [List.length_map];refine Nat.le_trans (List.length_filter_le _ _) ?_;rw [List.length_zipIdx, List.length_take];omega
theorem outI_mem {ops : List Op4} {k : Int} (h : k ∈ outI ops) : ∃ (i : Nat) (o : Op4), k = (i : Int) ∧ ops[i]? = some o ∧ outAt ops i o = true := by
 unfold outI at h;obtain ⟨⟨o, i⟩, hx, rfl⟩ := List.mem_map.1 h;obtain ⟨h1, h2⟩ := List.mem_filter.1 hx;exact ⟨i, o, rfl, (List.mem_zipIdx_iff_getElem?.1 h1), h2⟩
theorem rdsL_take {l : List Tx} {k : Nat} {t : Tx} (h : l[k]? = some t) : rdsL (l.take (k + 1)) = rdsL (l.take k) ++ outT t (k : Int) := by
 have hk := (List.getElem?_eq_some_iff.1 h).1;unfold rdsL;rw [List.take_add_one, h, Option.toList_some, List.zipIdx_append, List.flatMap_append, List.length_take, Nat.min_eq_left (Nat.le_of_lt hk)];simp [List.zipIdx]
theorem rdsL_mem {l : List Tx} {p : Int × Int} (h : p ∈ rdsL l) : ∃ (i : Nat) (t : Tx) (k : Nat) (o : Op4), p = ((i : Int), (k : Int)) ∧ l[i]? = some t ∧ t.f = 1 ∧ t.ops[k]? = some o ∧ outAt t.ops k o = true := by
 unfold rdsL at h;obtain ⟨⟨t, i⟩, hx, hp⟩ := List.mem_flatMap.1 h;have h1 := List.mem_zipIdx_iff_getElem?.1 hx;unfold outT at hp
 by_cases hf : t.f = 1
 ·rw [if_pos hf] at hp;obtain ⟨k, hk, rfl⟩ := List.mem_map.1 hp;obtain ⟨j, o, rfl, h2, h3⟩ := outI_mem hk;exact ⟨i, t, j, o, rfl, h1, hf, h2, h3⟩
 ·rw [if_neg hf] at hp
  cases hp
theorem leavs_take {key : Int} {v : Int × Int} {l : List Tx} {k : Nat} {t : Tx} (h : l[k]? = some t) : leavs key v (l.take (k + 1)) = leavs key v (l.take k) ++ if t.f = 1 ∧ leftW key t.ops = some v then [(k : Int)] else [] := by
 have hk := (List.getElem?_eq_some_iff.1 h).1;unfold leavs;rw [List.take_add_one, h, Option.toList_some, List.zipIdx_append, List.filter_append, List.map_append, List.length_take, Nat.min_eq_left (Nat.le_of_lt hk)]
 congr 1
 by_cases hp : t.f = 1 ∧ leftW key t.ops = some v
 ·rw [if_pos hp];simp [List.zipIdx, hp.1, hp.2]
 ·rw [if_neg hp];have : (decide (t.f = 1) && decide (leftW key t.ops = some v)) = false := by
   rw [Bool.and_eq_false_iff]
   by_cases h1 : t.f = 1
   ·exact .inr (decide_eq_false (fun e => hp ⟨h1, e⟩))
   ·exact .inl (decide_eq_false h1)
  simp [List.zipIdx, this]
theorem leavs_filter (key : Int) (v : Int × Int) (a : Int) (hv : v.1 ≠ 2) : ∀ (l : List Tx) (n : Nat), (∀ t ∈ l, t.f = 1 ∨ t.f = 2) →
  ((l.zipIdx n).filter fun x => fitsO v (forT a key x.2 x.1)).map (fun x => (x.2 : Int)) = (((l.zipIdx n).filter fun x => decide (x.1.f = 1) && decide (leftW key x.1.ops = some v)).map fun x => (x.2 : Int)).filter fun i => decide (i ≠ a)
 | [], _, _ => rfl
 | t :: r, n, h => by
  have ih := leavs_filter key v a hv r (n + 1) (fun x hx => h x (List.mem_cons_of_mem _ hx));have ht := h t List.mem_cons_self;rw [List.zipIdx_cons, List.filter_cons, List.filter_cons]
  by_cases h1 : t.f = 1 ∧ leftW key t.ops = some v
  ·have e1 : (decide (t.f = 1) && decide (leftW key t.ops = some v)) = true := by simp [h1.1, h1.2]
   dsimp only;rw [if_pos e1, List.map_cons, List.filter_cons]
   by_cases h2 : (n : Int) = a
   ·have e2 : fitsO v (forT a key n t) = false := by unfold forT; rw [if_pos (.inl h2)]; rfl
    rw [if_neg (by rw [e2]; decide), if_neg (by simp [h2])];exact ih
   ·have e2 : fitsO v (forT a key n t) = true := by
     unfold forT;rw [if_neg (by rw [h1.1]; intro e; rcases e with e | e; exact h2 e; omega), h1.2];simp [fitsO, fitsV]
    rw [if_pos e2, if_pos (by simp [h2]), List.map_cons, ih]
  ·have e1 : (decide (t.f = 1) && decide (leftW key t.ops = some v)) = false := by
    rw [Bool.and_eq_false_iff]
    by_cases h3 : t.f = 1
    ·exact .inr (decide_eq_false (fun e => h1 ⟨h3, e⟩))
    ·exact .inl (decide_eq_false h3)
   have e2 : fitsO v (forT a key n t) = false := by
    unfold forT
    by_cases h2 : (n : Int) = a ∨ t.f = 2
    ·rw [if_pos h2]; rfl
    ·rw [if_neg h2];have h3 : t.f = 1 := by rcases ht with ht | ht; exact ht; exact absurd (.inr ht) h2
     cases hL : leftW key t.ops with
     | none => rfl
     | some u =>
      simp only [fitsO, fitsV, Bool.or_eq_false_iff, decide_eq_false_iff_not];exact ⟨hv, fun e => h1 ⟨h3, by rw [hL, e]⟩⟩
   dsimp only;rw [e1, e2]
   simpa using ih
theorem whole_fates {h : Hst} (hw : wholeB h = true) (hf : ∀ t ∈ h.l, t.f = 1 ∨ t.f = 2 ∨ t.f = 3) : ∀ t ∈ h.l, t.f = 1 ∨ t.f = 2 := fun t ht => by
 unfold wholeB at hw;rw [Bool.and_eq_true] at hw;have h1 := List.all_eq_true.1 hw.2 t ht;unfold knownT at h1;rw [Bool.and_eq_true] at h1;have h2 : t.f ≠ 3 := of_decide_eq_true h1.1;rcases hf t ht with e | e | e
 ·exact .inl e
 ·exact .inr e
 ·exact absurd e h2
theorem whole_kinds {h : Hst} (hw : wholeB h = true) {t : Tx} (ht : t ∈ h.l) {o : Op4} (ho : o ∈ t.ops) : o.vk ≠ 2 := by
 unfold wholeB at hw;rw [Bool.and_eq_true] at hw;have h1 := List.all_eq_true.1 hw.2 t ht;unfold knownT at h1;rw [Bool.and_eq_true] at h1;exact of_decide_eq_true (List.all_eq_true.1 h1.2 o ho)
def cntM (c : List (List Int)) : Nat := c.foldl (fun n l => min (n * l.length) 1000000) 1
theorem cntM_snoc (c : List (List Int)) (l : List Int) : cntM (c ++ [l]) = min (cntM c * l.length) 1000000 := by unfold cntM; rw [List.foldl_append]; rfl
theorem cntM_le (c : List (List Int)) : cntM c ≤ 1000000 := by
 rcases List.eq_nil_or_concat c with rfl | ⟨d, l, rfl⟩
 ·decide
 ·rw [List.concat_eq_append, cntM_snoc];exact Nat.min_le_right _ _
end Go.Proofs.YthdofaoamljkfaaGreatDoor
