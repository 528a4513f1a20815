/- Parts. -/
import Derived.Test.YtbiclliooidkjaaGreatDoorLaw41AllK19
set_option maxRecDepth 10000
set_option maxHeartbeats 16000000
set_option linter.unusedVariables false
set_option linter.unusedSimpArgs false
namespace Go.Proofs.YtbiclliooidkjaaGreatDoor
open Go.RowKit Go.Shelf
open Go.Lib hiding intOf
attribute [local go_sem] Oper.semAt_some
theorem cell_two_new (w : World) (x y : Value) (t : TypeId) : ∀ j u, [x, y][j]? = some u → (w.alloc (.cells #[x, y] t)).cell? ((⟨w.heap.size, 0, none⟩ : Addr).add j) = some u := by
 intro j u hj;have e : (⟨w.heap.size, 0, none⟩ : Addr).add j = ⟨w.heap.size, j, none⟩ := by
  unfold Addr.add
  split
  ·rename_i h; subst h; rfl
  ·simp
 rw [e, (Blk.made w t #[x, y]).at_ j]
 simpa using hj
set_option maxRecDepth 100000 in
theorem lost_in (F : Fence) (n : Nat) (hf0 : F.fn 33) (hf1 : F.fn 52) (hf2 : F.fn 69) (hro : F.round = none) (hn : 4 ≤ n) (A0 A1 A2 : Option Addr) (n0 n1 n2 c0 c1 c2 : Nat) (h : Hst) (w : World)
  (hg : LRow w w.heap.size A2 h.l) (hn2 : h.l.length = n2) (hM : n2 ≤ 1000) (hno : ∀ t ∈ h.l, t.ops.length ≤ 1000) :
  CallsIn F n Tryz.prog 33 #[.agg #[.slice A0 n0 c0, .slice A1 n1 c1, .slice A2 n2 c2]] w fun e W' => ∃ v, e = .returned v ∧ W'.ownsRow w.heap.size 67 2 v (lostP (plsL h.l)).length (placeC (lostP (plsL h.l))) ∧ Below w.heap.size w W' := by
 have h1 : 1 ≤ n := by omega
 obtain ⟨i0, hi, hz0, hz1, hz2⟩ := info_parts info_place;refine callsIn_of_wp_marks Tryz.func33 rfl hf0 ?_ hro;simp only [Tryz.ntmps33, List.size_toArray, List.length_cons, List.length_nil, Nat.reduceAdd, Nat.reduceSub, Array.replicate_succ, Array.replicate_zero, List.push_toArray, List.append_toArray, List.nil_append, List.cons_append]
 gi_wp2_with (gi_at_call 52; refine (ops_in F (n - 1) hf1 hro _ _ _ _ _ _ _ _ _ _).mono ?_; rintro e w' ⟨rfl, rfl⟩)
 have bL := (Boxed.new (w.alloc (.cells #[.slice A0 n0 c0, .slice A1 n1 c1, .slice A2 n2 c2] 25)) 45 (.slice none 0 0)).alloc (.cells #[.slice A0 n0 c0, .slice A1 n1 c1, .slice A2 n2 c2] 25);have bN := Blk.made ((w.alloc (.cells #[.slice A0 n0 c0, .slice A1 n1 c1, .slice A2 n2 c2] 25)).alloc (.cells #[.slice none 0 0] 45)) 25 #[.slice A0 n0 c0, .slice A1 n1 c1, .slice A2 n2 c2];simp only [World.size_alloc] at bL bN;have hB0 : Below w.heap.size w (((w.alloc (.cells #[.slice A0 n0 c0, .slice A1 n1 c1, .slice A2 n2 c2] 25)).alloc (.cells #[.slice none 0 0] 45)).alloc (.cells #[.slice A0 n0 c0, .slice A1 n1 c1, .slice A2 n2 c2] 25)) := (((Below.refl _ w).alloc (Nat.le_refl _) _).alloc (by simp) _).alloc (by simp; omega) _;have hsz : (((w.alloc (.cells #[.slice A0 n0 c0, .slice A1 n1 c1, .slice A2 n2 c2] 25)).alloc (.cells #[.slice none 0 0] 45)).alloc (.cells #[.slice A0 n0 c0, .slice A1 n1 c1, .slice A2 n2 c2] 25)).heap.size = w.heap.size + 3 := by simp
 obtain ⟨W0, hW0⟩ : ∃ W0, (((w.alloc (.cells #[.slice A0 n0 c0, .slice A1 n1 c1, .slice A2 n2 c2] 25)).alloc (.cells #[.slice none 0 0] 45)).alloc (.cells #[.slice A0 n0 c0, .slice A1 n1 c1, .slice A2 n2 c2] 25)) = W0 := ⟨_, rfl⟩;rw [hW0] at bL bN hB0 hsz ⊢;clear hW0;have hg0 : LRow W0 w.heap.size A2 h.l := hg.only (Only.of_below hB0 []) (fun _ h => by cases h);refine wpIn_rangeFunc_ownH hro h1 (gf := 69) (lb := #[.pointer (some ⟨w.heap.size + 1 + 1, 0, none⟩)]) rfl hf2 (enters_of Tryz.func69 (by kernel_rfl) rfl)
  (ops_stops F (n - 1) hf2 hro (by omega) (w.heap.size + 1 + 1) w.heap.size A2 n2 c2 h W0 (by omega) (by omega) (bN.at_ 2) hg0 hn2 hM hno) belowK_t (belowK_b (by omega)) (Below.refl _ _) (fun _ => rfl)
  (fun pre W => (∃ v, Boxed W (w.heap.size + 1) 45 v ∧ W.ownsRow w.heap.size 67 2 v (lostP pre).length (placeC (lostP pre)) ∧ True) ∧ Below w.heap.size w W)
  (fun _ _ _ => False)
  (OwnFrom.and (Own.from (holdsRow_own w.heap.size (w.heap.size + 1) 45 67 2 (fun pre => (lostP pre).length) (fun pre => placeC (lostP pre)) (fun _ _ => True)) _) (ownFrom_below (Nat.le_refl _) (by omega)))
  (fun _ _ _ _ _ hs _ _ => hs)
  ⟨⟨_, bL, World.ownsRow_nil _ _ _ _, trivial⟩, hB0⟩
  (fun x a' W => ∃ B1 B2, (Blk W B1 67 #[.int .i64 (x.1 : Int), .int .i64 (x.2.1 : Int)] ∧ Blk W B2 50 #[.bool x.2.2.wr, .int .i64 x.2.2.key, .int .i64 x.2.2.vk, .int .i64 x.2.2.vn]) ∧
   a' = { tmps := #[.agg #[.slice A0 n0 c0, .slice A1 n1 c1, .slice A2 n2 c2], .pointer (some ⟨w.heap.size, 0, none⟩), .slice none 0 0, .pointer (some ⟨w.heap.size + 1, 0, none⟩), .pointer (some ⟨B1, 0, none⟩), .pointer (some ⟨B2, 0, none⟩),
    .agg #[.slice A0 n0 c0, .slice A1 n1 c1, .slice A2 n2 c2], .func (.func 69) #[] #[.pointer (some ⟨w.heap.size + 1 + 1, 0, none⟩)], .agg #[.int .i64 (x.1 : Int), .int .i64 (x.2.1 : Int)], .agg #[.bool x.2.2.wr, .int .i64 x.2.2.key, .int .i64 x.2.2.vk, .int .i64 x.2.2.vn], undef, undef, undef, undef, undef, undef, undef, undef, undef], defers := [] })
  (fun x a' _ X Y row hs hg hr => by
   obtain ⟨B1, B2, ⟨b1, b2⟩, e⟩ := hs;exact ⟨B1, B2, ⟨blk_own B1 _ (fun (_ : Unit) => _) () X Y row b1 hg (fun r e => (hr r e).2), blk_own B2 _ (fun (_ : Unit) => _) () X Y row b2 hg (fun r e => (hr r e).2)⟩, e⟩)
  ?assign ?body ?done ?stop
 case assign =>
  rintro l pre x W K ⟨⟨v, hv, hrow, -⟩, hB1⟩ hK;unfold plC
  gi_wp2
  refine hK _ _ (((KeepsOthers.alloc _ _).trans (KeepsOthers.alloc _ _)).from _) (((Below.refl _ W).alloc hB1.size _).alloc (by have := hB1.size; simp; omega) _) ⟨⟨v, (hv.alloc _).alloc _, ?_, trivial⟩, (hB1.alloc hB1.size _).alloc (by have := hB1.size; simp; omega) _⟩
   ⟨W.heap.size, W.heap.size + 1, ⟨(Blk.made W _ _).alloc _, by have := Blk.made (W.alloc (.cells #[.int .i64 (x.1 : Int), .int .i64 (x.2.1 : Int)] 67)) 50 #[.bool x.2.2.wr, .int .i64 x.2.2.key, .int .i64 x.2.2.vk, .int .i64 x.2.2.vn]; simpa using this⟩, rfl⟩
  exact own_only hrow (((Only.refl [] W).alloc _).alloc _) (by simp)
 case body =>
  rintro l pre ⟨pi, pj, ⟨yw, yk, yv, yn⟩⟩ a' W hl ⟨r, hr⟩ ⟨⟨v, hv, hrow, -⟩, hB⟩ ⟨B1, B2, ⟨bP, bO⟩, rfl⟩ hlt;have hc := hv.cell;dsimp only at bP bO;have p0 := bP.at_ 0;have p1 := bP.at_ 1;have o2 := bO.at_ 2;have lP := bP.lt;have lO := bO.lt;simp at p0 p1 o2;have hpl := lostP_le pre
  by_cases hk : yv = 2
  ·subst hk
   gi_wp2_with (gi_at_builtin; refine wpListIn_append_own _ rfl _ _ 45 rfl w.heap.size 67 i0 (.agg #[.int .i64 0, .int .i64 0]) 2 16 Tryz.underlying45 hi hz0 hz1 hz2 rfl (by decide) _ _ _ rfl (hrow.alloc _) ⟨W.heap.size, 0, none⟩ 1 1 [.int .i64 (pi : Int), .int .i64 (pj : Int)] rfl rfl (cell_two_new _ _ _ _) (by intro u hu; simp at hu; rcases hu with rfl | rfl <;> rfl) (by unfold maxLen; omega) (by omega) (by have := hB.size; simp; omega) ?_; intro v' w1 hown' hgrow _; obtain ⟨g', cap', rfl⟩ := ownsRow_succ hown'; obtain ⟨hv1, hv2, hr2, hk2, hb2⟩ := hv.appended (by decide) hrow hB.size (by omega) hown' hgrow; have hc1 := hv1.cell; have hf1 := hv1.frozen)
   exact ⟨hk2.from _, hb2, ⟨_, hv2, by rw [lostP_hit pre (by rfl), placeC_append]; simpa [placeC] using hr2, trivial⟩, hB.trans hb2⟩
  ·have hk1 : (yv == 2) = false := by simpa using hk
   gi_wp2
   exact ⟨KeepsFrom.refl _ _, Below.refl _ _, ⟨v, hv, by rw [lostP_miss pre (by exact hk)]; exact hrow, trivial⟩, hB⟩
 case done =>
  rintro D ys W hD rfl ⟨⟨v, hv, hrow, -⟩, hB⟩ hK;have hc := hv.cell
  gi_wp2
  refine ⟨by simp, .inl ⟨_, _, rfl, run_takeDeferred hK, ?_⟩⟩;exact ⟨_, results_tmp rfl _ _ _, v, rfl, ownsRow_putObj hrow _ hK rfl, hB.trans (belowK_b (w := w) (Nat.le_refl _) W D _ _ (by omega) hK rfl rfl)⟩
 case stop =>
  rintro D c pre W _ _ h _;exact h.elim
theorem klost_any (A0 A1 A2 : Option Addr) (n0 n1 n2 c0 c1 c2 B : Nat) (h : Hst) (w : World) (hg : LRow w B A2 h.l) (hn2 : h.l.length = n2) (hM : n2 ≤ 1000) (hno : ∀ t ∈ h.l, t.ops.length ≤ 1000) :
  Calls Tryz.prog 33 #[hval A0 A1 A2 n0 n1 n2 c0 c1 c2] w fun e W' => ∃ V, (e = .returned V ∧ W'.ownsRow w.heap.size 67 2 V (lostP (plsL h.l)).length (placeC (lostP (plsL h.l)))) ∧ Only [] w W' :=
 (callsIn_wide.1 (lost_in Fence.wide 6 trivial trivial trivial rfl (by omega) A0 A1 A2 n0 n1 n2 c0 c1 c2 h w hg.up hn2 hM hno)).mono fun e W' ⟨v, he, ho, hb⟩ => ⟨v, ⟨he, ho⟩, Only.of_below hb []⟩
end Go.Proofs.YtbiclliooidkjaaGreatDoor
namespace Go.Proofs.YtbiclliooidkjaaGreatDoor
open Go.RowKit
open Go.Lib hiding intOf
attribute [local go_sem ↓] Go.wp_at_zero Go.wp_at_succ
theorem mayH_err {h : Hst} (hm : mayH h = true) : errH h = 0 := by unfold errH; rw [hm]; rfl
theorem mayH_errn {h : Hst} (hm : mayH h = false) : errH h = 4 := by unfold errH; rw [hm]; rfl
def infL (h : Hst) : List Int := if mayH h = true then whichL (fun t => decide (t.f = 3)) h.l else []
def losL (h : Hst) : List (Int × Int) := if mayH h = true then lostP (plsL h.l) else []
theorem kinfos_any (A0 A1 A2 : Option Addr) (n0 n1 n2 c0 c1 c2 B : Nat) (h : Hst) (w : World) (hg : LRow w B A2 h.l) (hn2 : h.l.length = n2) (hM : n2 ≤ 1000) :
  Calls Tryz.prog 32 #[hval A0 A1 A2 n0 n1 n2 c0 c1 c2] w fun e w' =>
   ∃ A c, (e = .returned (.slice A (whichL (fun t => decide (t.f = 3)) h.l).length c) ∧ Row w' w'.heap.size A ((whichL (fun t => decide (t.f = 3)) h.l).map (Value.int .i64))) ∧ Only [] w w' := by
 have HX := Hd (fun w' (O : Only [] w w') => whichI_any A0 A1 A2 n0 n1 n2 c0 c1 c2 B h w' (hg.only O (fun _ h => by cases h)) hn2 hM);unfold hval at HX ⊢;clear hg hn2;have O1 : Only [] w (w.alloc (.cells #[.slice A0 n0 c0, .slice A1 n1 c1, .slice A2 n2 c2] 25)) := (Only.refl [] w).alloc _;have HF := Hd (HX.out _ O1);have HO1 := Hd O1;clear O1;generalize (whichL (fun t => decide (t.f = 3)) h.l) = L at *;go_enter Tryz.func32, Tryz.ntmps32;go_wp2_with fail
 refine (HF.out).mono ?_;rintro e w3 ⟨V, ⟨rfl, hV⟩, O3⟩;have HO3 := Hd (HO1.out.trans O3);obtain ⟨A, c, rfl, -, -, -, hR⟩ := own_row hV;have HR := Hd hR;clear O3 hV hR;go_wp2
 go_ret
 exact ⟨_, _, ⟨rfl, HR.out⟩, HO3.out⟩
end Go.Proofs.YtbiclliooidkjaaGreatDoor
namespace Go.Proofs.YtbiclliooidkjaaGreatDoor
theorem may_opsB {h : Hst} (hm : mayH h = true) : opsB h = true := by
 unfold mayH at hm;simp only [Bool.and_eq_true] at hm;exact hm.2.2.2
theorem used_anyOp {h : Hst} (hm : mayH h = true) {i : Nat} (hi : i < h.ks.length) : usedK anyOp h.l (i : Int) = true := by
 have h1 := may_opsB hm;unfold opsB useB at h1;simp only [Bool.and_eq_true] at h1;have h2 := List.all_eq_true.1 h1.2 i (List.mem_range.2 hi);have h3 : (i : Int) ∈ keysL h.l := by simpa using h2
 unfold keysL at h3;obtain ⟨t, ht, h4⟩ := List.mem_flatMap.1 h3;obtain ⟨o, ho, h5⟩ := List.mem_map.1 h4;rw [← h5];exact used_of ht ho rfl
theorem numK_anyOp {h : Hst} (hm : mayH h = true) {i : Nat} (hi : i ≤ h.ks.length) : numK anyOp h.l i = i := by
 unfold numK;rw [List.filter_eq_self.2 (fun k hk => used_anyOp hm (by have := List.mem_range.1 hk; omega)), List.length_range]
theorem keptK_anyOp {h : Hst} (hm : mayH h = true) : keptK anyOp h.l h.ks = h.ks := by
 unfold keptK;rw [List.filter_eq_self.2 (fun x hx => used_anyOp hm (by
  obtain ⟨a, i⟩ := x;have h1 := List.mem_zipIdx hx;simp at h1;omega))]
 simp
theorem keptT_anyOp {h : Hst} (hm : mayH h = true) {t : Tx} (ht : t ∈ h.l) : keptT anyOp h.l t = t := by
 have h1 := may_opsB hm;unfold opsB at h1;simp only [Bool.and_eq_true] at h1;have h2 := List.all_eq_true.1 h1.1 t ht;have h3 : keptO anyOp h.l t.ops = t.ops := by
  unfold keptO;rw [show t.ops.filter anyOp = t.ops from List.filter_eq_self.2 (fun _ _ => rfl)]
  conv => rhs; rw [← List.map_id t.ops]
  refine List.map_congr_left fun o ho => ?_;have h4 := List.all_eq_true.1 h2 o ho;unfold opB at h4;simp only [Bool.and_eq_true, decide_eq_true_eq] at h4;unfold keyTo;rw [numK_anyOp hm (by omega)];have : ((o.key.toNat : Nat) : Int) = o.key := by omega
  rw [this]
  rfl
 unfold keptT;rw [h3]
theorem keptH_anyOp {h : Hst} (hm : mayH h = true) : keptH anyOp h = h := by
 unfold keptH;rw [keptK_anyOp hm];have : h.l.map (keptT anyOp h.l) = h.l := by
  conv => rhs; rw [← List.map_id h.l]
  exact List.map_congr_left fun t ht => keptT_anyOp hm ht
 rw [this]
open Go.RowKit
open Go.Lib hiding intOf
attribute [local go_sem ↓] Go.wp_at_zero Go.wp_at_succ

end Go.Proofs.YtbiclliooidkjaaGreatDoor
namespace Go.Proofs.YtbiclliooidkjaaGreatDoor
theorem kept_ops {p : Op4 → Bool} {h : Hst} {t : Tx} (ht : t ∈ (keptH p h).l) : ∃ t0 ∈ h.l, t = keptT p h.l t0 := by
 obtain ⟨t0, h0, rfl⟩ := List.mem_map.1 ht;exact ⟨t0, h0, rfl⟩
theorem kept_op {p : Op4 → Bool} {l : List Tx} {ops : List Op4} {o : Op4} (ho : o ∈ keptO p l ops) : ∃ o0 ∈ ops, p o0 = true ∧ o = keyTo p l o0 := by
 obtain ⟨o0, h0, rfl⟩ := List.mem_map.1 ho;obtain ⟨h1, h2⟩ := List.mem_filter.1 h0;exact ⟨o0, h1, h2, rfl⟩
theorem keptK_sub (p : Op4 → Bool) (l : List Tx) (ks : List ByteArray) : (keptK p l ks).Sublist ks := by
 unfold keptK;have h1 := (List.filter_sublist (l := ks.zipIdx) (p := fun x => usedK p l (x.2 : Int))).map Prod.fst
 rwa [show ks.zipIdx.map Prod.fst = ks by simp] at h1
theorem tab_sub {l k : List ByteArray} (hs : l.Sublist k) (h : tabB k = true) : tabB l = true := by
 unfold tabB at h ⊢;rw [Bool.and_eq_true] at h ⊢;refine ⟨List.all_eq_true.2 fun x hx => List.all_eq_true.1 h.1 x (hs.subset hx), of_rising _ ((rising_of _ h.2).sublist hs)⟩
theorem numK_mono (p : Op4 → Bool) (l : List Tx) {i j : Nat} (h : i ≤ j) : numK p l i ≤ numK p l j := by
  induction j with
  | zero => have : i = 0 := by omega
            rw [this]; exact Nat.le_refl _
  | succ j ih =>
    rw [numK_succ]
    rcases Nat.lt_or_ge i (j + 1) with h1 | h1
    · have := ih (by omega)
      omega
    · have : i = j + 1 := by omega
      subst this
      rw [← numK_succ]
      exact Nat.le_refl _
theorem numK_lt {p : Op4 → Bool} {l : List Tx} {i j : Nat} (h : i < j) (hu : usedK p l (i : Int) = true) : numK p l i < numK p l j := by
 have h1 := numK_mono p l (show i + 1 ≤ j by omega);rw [numK_succ, if_pos hu] at h1;omega
theorem numK_onto {p : Op4 → Bool} {l : List Tx} {n i : Nat} (h : i < numK p l n) : ∃ k, k < n ∧ usedK p l (k : Int) = true ∧ numK p l k = i := by
 induction n with
 | zero => simp [numK] at h
 | succ n ih =>
  rw [numK_succ] at h
  by_cases h1 : i < numK p l n
  ·obtain ⟨k, h2, h3, h4⟩ := ih h1;exact ⟨k, by omega, h3, h4⟩
  ·cases hu : usedK p l (n : Int) with
   | false => rw [hu] at h; simp at h; omega
   | true => rw [hu] at h; simp at h; exact ⟨n, by omega, hu, by omega⟩
theorem keptK_all (p : Op4 → Bool) (l : List Tx) (ks : List ByteArray) : (keptK p l ks).length = numK p l ks.length := by
 have h1 := keptK_len p l ks ks.length (Nat.le_refl _)
 rwa [List.take_length] at h1
theorem kept_may {p : Op4 → Bool} {h : Hst} (hm : mayH h = true) : mayH (keptH p h) = true := by
 unfold mayH at hm ⊢;simp only [Bool.and_eq_true] at hm ⊢;obtain ⟨h0, h1, h2, h3⟩ := hm;refine ⟨h0, ?_, ?_, ?_⟩
 ·unfold namesB at h1 ⊢;simp only [Bool.and_eq_true, decide_eq_true_eq] at h1 ⊢;have hs := keptK_sub p h.l h.ks;exact ⟨Nat.le_trans hs.length_le h1.1, tab_sub hs h1.2⟩
 ·unfold txsB at h2 ⊢;simp only [Bool.and_eq_true, decide_eq_true_eq] at h2 ⊢;obtain ⟨ha, hb, hc⟩ := h2;refine ⟨by simpa [keptH] using ha, List.all_eq_true.2 fun t ht => ?_, ?_⟩
  ·obtain ⟨t0, ht0, rfl⟩ := kept_ops ht;have hb0 := List.all_eq_true.1 hb t0 ht0;unfold txB at hb0 ⊢;simp only [Bool.and_eq_true, decide_eq_true_eq] at hb0 ⊢;have := keptO_len p h.l t0.ops;exact ⟨hb0.1, hb0.2.1, Nat.le_trans this hb0.2.2⟩
  ·have e : (keptH p h).l.map Tx.s = h.l.map Tx.s := by
    unfold keptH;rw [List.map_map]
    rfl
   rw [e];exact hc
 ·unfold opsB at h3 ⊢;simp only [Bool.and_eq_true] at h3 ⊢;obtain ⟨ha, hb⟩ := h3;have hkl : (keptH p h).ks.length = numK p h.l h.ks.length := keptK_all p h.l h.ks;refine ⟨List.all_eq_true.2 fun t ht => List.all_eq_true.2 fun o ho => ?_, ?_⟩
  ·obtain ⟨t0, ht0, rfl⟩ := kept_ops ht;obtain ⟨o0, ho0, hp, rfl⟩ := kept_op ho;have h4 := List.all_eq_true.1 (List.all_eq_true.1 ha t0 ht0) o0 ho0;unfold opB at h4 ⊢;simp only [Bool.and_eq_true, decide_eq_true_eq] at h4 ⊢;obtain ⟨⟨k0, k1⟩, h5⟩ := h4;have hu : usedK p h.l ((o0.key.toNat : Nat) : Int) = true := by
    rw [show ((o0.key.toNat : Nat) : Int) = o0.key by omega];exact used_of ht0 ho0 hp
   have h6 : numK p h.l o0.key.toNat < numK p h.l h.ks.length := numK_lt (by omega) hu;refine ⟨⟨?_, ?_⟩, h5⟩
   ·show (0 : Int) ≤ (numK p h.l o0.key.toNat : Int)
    omega
   ·show (numK p h.l o0.key.toNat : Int) < _
    rw [hkl];omega
  ·unfold useB;refine List.all_eq_true.2 fun i hi => ?_;have hi' := List.mem_range.1 hi;rw [hkl] at hi';obtain ⟨k, hk, hu, hn⟩ := numK_onto hi';unfold usedK at hu;obtain ⟨t, ht, hu⟩ := List.any_eq_true.1 hu;unfold txUse at hu;obtain ⟨o, ho, hu⟩ := List.any_eq_true.1 hu;unfold opUse at hu;simp only [Bool.and_eq_true, decide_eq_true_eq] at hu;rw [decide_eq_true_eq];unfold keysL;refine List.mem_flatMap.2 ⟨keptT p h.l t, List.mem_map.2 ⟨t, ht, rfl⟩, List.mem_map.2 ⟨keyTo p h.l o, List.mem_map.2 ⟨o, List.mem_filter.2 ⟨ho, hu.2⟩, rfl⟩, ?_⟩⟩
   show (numK p h.l o.key.toNat : Int) = (i : Int)
   rw [hu.1, show ((k : Int)).toNat = k by omega, hn]
theorem kept_small {p : Op4 → Bool} {h : Hst} (hs : HSmall h) : HSmall (keptH p h) where
 s := hs.s
 k := fun x hx => hs.k x ((keptK_sub p h.l h.ks).subset hx)
 ns := hs.ns
 nk := Nat.le_trans (keptK_sub p h.l h.ks).length_le hs.nk
 nl := by
  have := hs.nl
  simpa [keptH] using this
 no := fun t ht => by
  obtain ⟨t0, ht0, rfl⟩ := kept_ops ht;exact Nat.le_trans (keptO_len p h.l t0.ops) (hs.no t0 ht0)
theorem empty_small : HSmall ⟨[], [], []⟩ where
 s := fun x hx => by cases hx
 k := fun x hx => by cases hx
 ns := by decide
 nk := by decide
 nl := by decide
 no := fun t ht => by cases ht
open Go.RowKit
structure ExV (w w' : World) : Prop where
 only : Only [] w w'
 drawn : w.drawn ≤ w'.drawn
section
variable {w w' w'' : World}
theorem ExV.refl (w : World) : ExV w w := ⟨Only.refl [] w, Nat.le_refl _⟩
theorem ExV.trans (h : ExV w w') (k : ExV w' w'') : ExV w w'' := ⟨h.only.trans k.only, Nat.le_trans h.drawn k.drawn⟩
theorem ExV.alloc (h : ExV w w') (o : Obj) : ExV w (w'.alloc o) := ⟨h.only.alloc o, h.drawn⟩
theorem ExV.drewN (h : ExV w w') (n : Nat) : ExV w (w'.drewN n) := ⟨h.only.drewN n, Nat.le_trans h.drawn (by show w'.drawn ≤ w'.drawn + n; omega)⟩
theorem ExV.drew (h : ExV w w') : ExV w w'.drew := ⟨h.only.drew, Nat.le_trans h.drawn (by show w'.drawn ≤ w'.drawn + 1; omega)⟩
theorem ExV.put (h : ExV w w') {p : Addr} (hp : p.block < w.heap.size → p.block ∈ ([] : List Nat)) (u : Value) : ExV w (w'.setCell p u) := ⟨h.only.put hp u, h.drawn⟩
theorem ExV.blk {g : Nat} {t : TypeId} {cs : Array Value} (h : ExV w w') (hb : Blk w g t cs) (hg : g ∉ ([] : List Nat)) : Blk w' g t cs := h.only.blk hb hg
theorem ExV.size (h : ExV w w') : w.heap.size ≤ w'.heap.size := h.only.size
end
theorem ExV.grown {w w' : World} (h : ExV w w') : ∃ q os, w' = Go.Sort.grow (w.drewN q) os := by
 have hb : Below w.heap.size w w' := h.only.below (Nat.le_refl _) (by simp);refine ⟨w'.drawn - w.drawn, w'.heap.extract w.heap.size w'.heap.size, ?_⟩;have hd := h.drawn;obtain ⟨heap', tape', drawn', os', output'⟩ := w';have e1 : os' = w.os := hb.os;have e2 : tape' = w.tape := hb.tape;have e3 : output' = w.output := hb.output;have hs : w.heap.size ≤ heap'.size := hb.size;have hk' : ∀ k, k < w.heap.size → heap'[k]? = w.heap[k]? := hb.block;have hd' : w.drawn ≤ drawn' := hd;subst e1 e2 e3;have eh : heap' = w.heap ++ heap'.extract w.heap.size heap'.size := by
  apply Array.ext_getElem?
  intro k
  by_cases hk : k < w.heap.size
  ·rw [Array.getElem?_append_left hk]; exact hk' k hk
  ·rw [Array.getElem?_append_right (by omega), Array.getElem?_extract]
   by_cases hk2 : k < heap'.size
   ·rw [if_pos (by omega)]; congr 1; omega
   ·rw [if_neg (by omega), Array.getElem?_eq_none (by omega)]
 have ed : w.drawn + (drawn' - w.drawn) = drawn' := by omega
 simp only [Go.Sort.grow, World.drewN, ed]
 congr 1
def bK (t : Int) : Int := if t = 1 then 1 else if t = 2 then 2 else 0
def bN (t n : Int) : Int := if t = 1 then n else 0
def bE (t : Int) : Int := if t = 0 ∨ t = 1 ∨ t = 2 then 0 else 15
def oT (k : Int) : Int := if k = 1 then 1 else if k = 2 then 2 else 0
def lessBV (k m k' m' : Int) : Bool := if k = k' then decide (k = 1 ∧ m < m') else decide (k < k')
def cK (k : Int) : Int := if k = 1 then 1 else if k = 2 then 2 else 0
def cN (k n : Int) : Int := if k = 1 then n else 0
def lessV (a b : Int × Int) : Bool := mayB a.1 a.2 && mayB b.1 b.2 && lessBV (cK a.1) (cN a.1 a.2) (cK b.1) (cN b.1 b.2)
end Go.Proofs.YtbiclliooidkjaaGreatDoor
