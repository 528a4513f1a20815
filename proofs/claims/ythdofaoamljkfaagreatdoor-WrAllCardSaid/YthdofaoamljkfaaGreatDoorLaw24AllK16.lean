/- Parts. -/
import Derived.Test.YthdofaoamljkfaaGreatDoorLaw24AllK13
set_option maxRecDepth 10000
set_option maxHeartbeats 16000000
set_option linter.unusedVariables false
set_option linter.unusedSimpArgs false
namespace Go.Proofs.YthdofaoamljkfaaGreatDoor
open Go.RowKit Go.Shelf
open Go.Lib hiding intOf
attribute [local go_sem] Oper.semAt_some
theorem info_opl : (Tryz.prog.info? 70).map (fun i => (i.zero, i.size, i.bytes)) = some (some (.agg #[.bool false, .int .i64 0, .int .i64 0, .int .i64 0]), 4, 32) := by kernel_rfl
theorem cells_new (w : World) (cs : List Value) (t : TypeId) : ∀ j u, cs[j]? = some u → (w.alloc (.cells cs.toArray t)).cell? ((⟨w.heap.size, 0, none⟩ : Addr).add j) = some u := by
 intro j u hj;have e : (⟨w.heap.size, 0, none⟩ : Addr).add j = ⟨w.heap.size, j, none⟩ := by
  unfold Addr.add
  split
  ·rename_i h; subst h; rfl
  ·simp
 rw [e, (Blk.made w t cs.toArray).at_ j]
 simpa using hj
def rvB (pre : List Bo) : List Op4 := (pre.map Prod.snd).reverse
theorem rvB_snoc (pre : List Bo) (x : Bo) : rvB (pre ++ [x]) = x.2 :: rvB pre := by simp [rvB]
theorem rvB_all (l : List Op4) : rvB (zl l).reverse = l := by
 unfold rvB;rw [List.map_reverse, List.reverse_reverse, zl_snd]
def BoK (x : Bo) : Prop := 0 ≤ x.2.key ∧ x.2.key < 40
theorem rvB_ok (pre : List {x : Bo // BoK x}) : KeyOk (rvB (pre.map Subtype.val)) := fun o ho => by
 unfold rvB at ho;rw [List.mem_reverse, List.mem_map] at ho;obtain ⟨y, hy, rfl⟩ := ho;obtain ⟨z, -, rfl⟩ := List.mem_map.1 hy;exact z.2
theorem lastR_cons (o : Op4) (r : List Op4) : lastR (o :: r) = lastR r ++ if o.wr = true ∧ leftW o.key r = none then [o] else [] := rfl
theorem keyR_cons (o : Op4) (r : List Op4) : keyR (o :: r) = keyStep (keyR r) o := by
 unfold keyR keyM;rw [List.reverse_cons, List.foldl_append]
 rfl
theorem or_bit {K q : Nat} (h : K.testBit q = true) : K ||| 2 ^ ((q : Int).toNat) = K := by
 refine Nat.eq_of_testBit_eq fun i => ?_;rw [Nat.testBit_or, Int.toNat_natCast, Nat.testBit_two_pow]
 by_cases e : q = i
 ·subst e; rw [h]; rfl
 ·simp [e]
theorem klast_box {W w1 : World} {gl gk : Nat} {t : TypeId} {v0 v u : Value} {base n : Nat} {xs : List Value} {tmp : Obj} (hK : Boxed W gk t u) (hr : W.ownsRow base 70 4 v n xs) (hg : (W.alloc tmp).grownBy w1 v.ownBlock) (ht : 70 ≠ t) (hne : gk ≠ gl) :
  Boxed (w1.setCell ⟨gl, 0, none⟩ v0) gk t u := by
 have h1 : Boxed w1 gk t u := (hK.alloc tmp).kept hg (fun e => own_apart hr hK ht (by rw [← e]; simp));exact h1.other hne _
set_option maxRecDepth 100000 in
theorem klast_in (n : Nat) (hn : 6 ≤ n) (A : Option Addr) (m c : Nat) (ops : List Op4) (w : World)
  (hg : Row w w.heap.size A (opC ops)) (hm : ops.length = m) (hM : m ≤ 1000) (hk : KeyOk ops) :
  CallsIn Fence.wide n Tryz.prog 44 #[.slice A m c] w fun e W' => ∃ v, e = .returned v ∧ W'.ownsRow w.heap.size 70 4 v (lastR ops).length (opC (lastR ops)) ∧ Below w.heap.size w W' := by
 have h1 : 1 ≤ n := by omega
 have hro : (Fence.wide).round = none := rfl;have hf1 : Fence.wide.fn 68 := trivial;have hf2 : Fence.wide.fn 82 := trivial;have hf3 : Fence.wide.fn 67 := trivial;have hf4 : Fence.wide.fn 66 := trivial;obtain ⟨i0, hi, hz0, hz1, hz2⟩ := info_parts info_opl;refine callsIn_of_wp_marks Tryz.func44 rfl trivial ?_ hro;simp only [Tryz.ntmps44, List.size_toArray, List.length_cons, List.length_nil, Nat.reduceAdd, Nat.reduceSub, Array.replicate_succ, Array.replicate_zero, List.push_toArray, List.append_toArray, List.nil_append, List.cons_append]
 gi_wp2_with (gi_at_call 68; refine (back_in Fence.wide (n - 1) trivial hro _ _ _ _).mono ?_; rintro e w' ⟨rfl, rfl⟩)
 have bL := ((Boxed.new w 45 (.slice none 0 0)).alloc (.cells #[.int .u64 0] 92)).alloc (.cells #[.slice A m c] 45);have bK := (Boxed.new (w.alloc (.cells #[.slice none 0 0] 45)) 92 (.int .u64 0)).alloc (.cells #[.slice A m c] 45);have bS := Boxed.new ((w.alloc (.cells #[.slice none 0 0] 45)).alloc (.cells #[.int .u64 0] 92)) 45 (.slice A m c);simp only [World.size_alloc] at bK bS;have hB0 : Below w.heap.size w (((w.alloc (.cells #[.slice none 0 0] 45)).alloc (.cells #[.int .u64 0] 92)).alloc (.cells #[.slice A m c] 45)) := (((Below.refl _ w).alloc (Nat.le_refl _) _).alloc (by simp) _).alloc (by simp; omega) _;have hsz : (((w.alloc (.cells #[.slice none 0 0] 45)).alloc (.cells #[.int .u64 0] 92)).alloc (.cells #[.slice A m c] 45)).heap.size = w.heap.size + 3 := by simp
 obtain ⟨W0, hW0⟩ : ∃ W0, (((w.alloc (.cells #[.slice none 0 0] 45)).alloc (.cells #[.int .u64 0] 92)).alloc (.cells #[.slice A m c] 45)) = W0 := ⟨_, rfl⟩;rw [hW0] at bL bK bS hB0 hsz ⊢;clear hW0;have hg0 : Row W0 w.heap.size A (opC ops) := hg.only (Only.of_below hB0 []) (fun _ h => by cases h);refine wpIn_rangeFunc_ownH hro h1 (gf := 82) (lb := #[.pointer (some ⟨w.heap.size + 1 + 1, 0, none⟩)]) rfl trivial (enters_of Tryz.func82 (by kernel_rfl) rfl)
  (back_stopsP BoK (fun A B => Below w.heap.size A B ∧ B.cell? ⟨w.heap.size + 1 + 1, 0, none⟩ = A.cell? ⟨w.heap.size + 1 + 1, 0, none⟩) Fence.wide (n - 1) trivial hro (by omega) (w.heap.size + 1 + 1) w.heap.size A m c ops W0 (by omega) (fun _ => ⟨Below.refl _ _, rfl⟩) (fun h k => ⟨h.1.trans k.1, k.2.trans h.2⟩) (fun h => h.1) (fun h => h.2) bS.cell hg0 hm hM (fun k o ho => hk o (List.mem_of_getElem? ho))) (fun h k => ⟨h.1.trans k.1, k.2.trans h.2⟩) (fun W l o o' h1 h2 h3 h4 => ⟨belowK_b (w := W0) (by omega) W l o o' h1 h2 h3 h4, (belowK_b (w := W0) (n₀ := W0.heap.size) (Nat.le_refl _) W l o o' h1 h2 h3 h4).cell (p := ⟨w.heap.size + 1 + 1, 0, none⟩) (by simp; omega)⟩) (Below.refl _ _) (fun _ => rfl)
  (fun pre W => (((∃ v, Boxed W w.heap.size 45 v ∧ W.ownsRow w.heap.size 70 4 v (lastR (rvB (pre.map Subtype.val))).length (opC (lastR (rvB (pre.map Subtype.val)))) ∧ True) ∧ Boxed W (w.heap.size + 1) 92 (.int .u64 (keyR (rvB (pre.map Subtype.val)) : Int))) ∧ Below w.heap.size w W) ∧ W0.heap.size ≤ W.heap.size ∧ Boxed W (w.heap.size + 1 + 1) 45 (.slice A m c))
  (fun _ _ _ => False)
  (OwnFrom.and (OwnFrom.and (OwnFrom.and (Own.from (holdsRow_own w.heap.size w.heap.size 45 70 4 (fun (pre : List {x : Bo // BoK x}) => (lastR (rvB (pre.map Subtype.val))).length) (fun (pre : List {x : Bo // BoK x}) => opC (lastR (rvB (pre.map Subtype.val)))) (fun _ _ => True)) _) (Own.from (boxed_own (w.heap.size + 1) 92 (fun (pre : List {x : Bo // BoK x}) => .int .u64 (keyR (rvB (pre.map Subtype.val)) : Int))) _)) (ownFrom_below (Nat.le_refl _) (by omega))) (OwnFrom.and (fun s X Y row hs hg hr => Nat.le_trans hs hg.size) (Own.from (boxed_own (w.heap.size + 1 + 1) 45 (fun (_ : List {x : Bo // BoK x}) => .slice A m c)) _)))
  (fun _ _ _ _ _ hs _ _ => hs)
  ⟨⟨⟨⟨_, bL, World.ownsRow_nil _ _ _ _, trivial⟩, bK⟩, hB0⟩, Nat.le_refl _, bS⟩
  (fun x a' W => ∃ Bx, W0.heap.size ≤ Bx ∧ Blk W Bx 70 #[.bool x.1.2.wr, .int .i64 x.1.2.key, .int .i64 x.1.2.vk, .int .i64 x.1.2.vn] ∧
   a' = { tmps := #[.slice A m c, undef, .slice none 0 0, .pointer (some ⟨w.heap.size, 0, none⟩), .pointer (some ⟨w.heap.size + 1, 0, none⟩), undef, .pointer (some ⟨Bx, 0, none⟩), .slice A m c, .func (.func 82) #[] #[.pointer (some ⟨w.heap.size + 1 + 1, 0, none⟩)], .int .i64 (x.1.1 : Int), .agg #[.bool x.1.2.wr, .int .i64 x.1.2.key, .int .i64 x.1.2.vk, .int .i64 x.1.2.vn], undef, undef, undef, undef, undef, undef, undef, undef, undef, undef, undef, undef, undef, undef, undef, undef, undef, undef], defers := [] })
  (fun x a' _ X Y row hs hg hr => by
   obtain ⟨Bx, h0, b1, e⟩ := hs;exact ⟨Bx, h0, blk_own Bx _ (fun (_ : Unit) => _) () X Y row b1 hg (fun r e => (hr r e).2), e⟩)
  ?assign ?body ?done ?stop
 case assign =>
  rintro l pre x W K ⟨⟨⟨⟨v, hv, hrow, -⟩, bK⟩, hB1⟩, hsW, bS1⟩ hK;unfold bkC
  gi_wp2
  refine hK _ _ ((KeepsOthers.alloc _ _).from _) ⟨(Below.refl _ W).alloc hB1.size _, (bS1.alloc _).cell.trans bS1.cell.symm⟩ ⟨⟨⟨⟨v, hv.alloc _, own_only hrow ((Only.refl [] W).alloc _) (by simp), trivial⟩, bK.alloc _⟩, hB1.alloc hB1.size _⟩, by simp; omega, bS1.alloc _⟩
   ⟨W.heap.size, hsW, Blk.made W _ _, rfl⟩
 case body =>
  rintro l pre ⟨⟨xi, ⟨yw, yk, yv, yn⟩⟩, hx⟩ a' W hl ⟨r, hr⟩ ⟨⟨⟨⟨v, hv, hrow, -⟩, bK⟩, hB⟩, hsW, bS1⟩ ⟨Bx, hBx, bO, rfl⟩ hlt;have hd1 : 1 ≤ n - 1 - 1 := by omega
  have hf5 : (Fence.wide.inRound l).fn 67 := trivial;have hf6 : (Fence.wide.inRound l).fn 66 := trivial;have hko := rvB_ok pre;have hrl := lastR_le (rvB (pre.map Subtype.val));have hlen : (rvB (pre.map Subtype.val)).length < 1000001 := by simpa [rvB] using hlt
  have hrs : ∀ y : {x : Bo // BoK x}, rvB ((pre ++ [y]).map Subtype.val) = y.1.2 :: rvB (pre.map Subtype.val) := fun y => by rw [List.map_append]; exact rvB_snoc _ _
  generalize rvB (pre.map Subtype.val) = R at *;have hc := hv.cell;have hcK := bK.cell;have hfK := bK.frozen;have hcL := hv.lt;have hcKl := bK.lt;dsimp only at bO;have o0 := bO.at_ 0;have o1 := bO.at_ 1;have o2 := bO.at_ 2;have o3 := bO.at_ 3;have lO := bO.lt;simp at o0 o1 o2 o3;unfold BoK at hx;dsimp only at hx;obtain ⟨q, rfl⟩ : ∃ q : Nat, yk = (q : Int) := ⟨yk.toNat, by omega⟩;have hq : q < 40 := by omega
  have hKl := keyR_lt R hko;have hKb := keyR_bit R hko q
  cases yw with
  | false =>
   gi_wp2
   exact ⟨KeepsFrom.refl _ _, ⟨Below.refl _ _, rfl⟩, ⟨⟨⟨⟨v, hv, by rw [hrs, lastR_cons, if_neg (by simp), List.append_nil]; exact hrow, trivial⟩, by rw [hrs, keyR_cons]; exact bK⟩, hB⟩, hsW, bS1⟩⟩
  | true =>
   have HHA := Hd (fun w' => khas_any (keyR R) q w' hKl (by omega));have HWI := Hd (fun w' => kwith_any (keyR R) q w' hKl (by omega))
   cases hb : (keyR R).testBit q with
   | true =>
    rw [hb] at HHA;have hls : leftW (q : Int) R ≠ none := fun e => by rw [hb, e] at hKb; cases hKb
    gi_wp2_with (gi_at_call 67; refine (CallsIn.inRound l (callsIn_wide.2 (HHA.out _))).mono ?_; rintro e w' ⟨rfl, rfl⟩)
    exact ⟨KeepsFrom.refl _ _, ⟨Below.refl _ _, rfl⟩, ⟨⟨⟨⟨v, hv, by rw [hrs, lastR_cons, if_neg (fun c => hls c.2), List.append_nil]; exact hrow, trivial⟩, by rw [hrs, keyR_cons]; unfold keyStep; rw [if_pos rfl]; rw [or_bit hb]; exact bK⟩, hB⟩, hsW, bS1⟩⟩
   | false =>
    rw [hb] at HHA;have hls : leftW (q : Int) R = none := by
     cases hL : leftW (q : Int) R with
     | none => rfl
     | some u => rw [hb, hL] at hKb; cases hKb
    have hkN : Hid (((keyR R ||| 2 ^ q : Nat) : Int) = (keyR (⟨true, (q : Int), yv, yn⟩ :: R) : Int)) := Hd (by rw [keyR_cons]; rfl);have hlN : Hid (lastR (⟨true, (q : Int), yv, yn⟩ :: R) = lastR R ++ [⟨true, (q : Int), yv, yn⟩]) := Hd (by rw [lastR_cons, if_pos ⟨rfl, hls⟩]);have hne : w.heap.size ≠ w.heap.size + 1 := by omega
    have hBx1 : Bx ≠ w.heap.size + 1 := by omega
    clear hls hKb hb;obtain ⟨W5, hW5⟩ : ∃ W5, W.setCell ⟨w.heap.size + 1, 0, none⟩ (.int .u64 ((keyR R ||| 2 ^ q : Nat) : Int)) = W5 := ⟨_, rfl⟩;have O5 : Only [w.heap.size + 1] W W5 := by rw [← hW5]; exact (Only.refl _ W).put (p := ⟨w.heap.size + 1, 0, none⟩) (fun _ => by simp) _
    have hv5 : Boxed W5 w.heap.size 45 v := by rw [← hW5]; exact hv.other hne _
    have bK5 : Boxed W5 (w.heap.size + 1) 92 (.int .u64 (keyR (⟨true, (q : Int), yv, yn⟩ :: R) : Int)) := by rw [← hW5, ← hkN.out]; exact Boxed.set _ bK
    have hrow5 := own_only hrow O5 (fun g hg hm => by
     obtain ⟨cur, hb⟩ := own_blk hrow hg;simp at hm;subst hm;have h9 := (show W.heap[w.heap.size + 1]? = _ from hb).symm.trans (show W.heap[w.heap.size + 1]? = _ from bK);simp at h9)
    have hk5 : KeepsOthers W W5 := by rw [← hW5]; exact KeepsOthers.setCell _ _ _
    have hb5 : Below w.heap.size W W5 := by rw [← hW5]; exact (Below.refl _ W).setCell (p := ⟨w.heap.size + 1, 0, none⟩) (by simp) _
    have bS5 : Boxed W5 (w.heap.size + 1 + 1) 45 (.slice A m c) := by rw [← hW5]; exact bS1.other (by omega) _
    have hs5 : W5.heap.size = W.heap.size := by rw [← hW5]; simp
    have hsW5 : w.heap.size ≤ W5.heap.size := by omega
    have hbK5 : w.heap.size + 1 < W5.heap.size := by omega
    have bO5 := O5.blk bO (by simp; omega);have q0 := bO5.at_ 0;have q1 := bO5.at_ 1;have q2 := bO5.at_ 2;have q3 := bO5.at_ 3;have lO5 := bO5.lt;simp at q0 q1 q2 q3;have hc5 := hv5.cell;have hl5 := hv5.lt
    gi_wp2_with (first
     | (gi_at_call 67; refine (CallsIn.inRound l (callsIn_wide.2 (HHA.out _))).mono ?_; rintro e w' ⟨rfl, rfl⟩)
     | (gi_at_call 66; refine (CallsIn.inRound l (callsIn_wide.2 (HWI.out _))).mono ?_; rintro e w' ⟨rfl, rfl⟩)
     | (gi_at_builtin; refine wpListIn_append_own _ rfl _ _ 45 rfl w.heap.size 70 i0 _ 4 32 Tryz.underlying45 hi hz0 hz1 hz2 rfl (by decide) _ _ _ rfl (hrow5.alloc _) ⟨W.heap.size, 0, none⟩ 1 1 [.bool true, .int .i64 (q : Int), .int .i64 yv, .int .i64 yn] rfl rfl (by rw [← hs5]; exact cells_new W5 [.bool true, .int .i64 (q : Int), .int .i64 yv, .int .i64 yn] _) (by intro u hu; simp at hu; rcases hu with rfl | rfl | rfl | rfl <;> rfl) (by unfold maxLen; omega) (by omega) (by simp; omega) ?_; intro v' w1 hown' hgrow _; obtain ⟨g', cap', rfl⟩ := ownsRow_succ hown'; obtain ⟨hv1, hv2, hr2, hk2, hb2⟩ := hv5.appended (by decide) hrow5 hsW5 (by omega) hown' hgrow; have hc1 := hv1.cell; have hf1 := hv1.frozen; have bK8 : Boxed (w1.setCell ⟨w.heap.size, 0, none⟩ (.slice (some ⟨g', 0, none⟩) ((lastR R).length + 1) cap')) (w.heap.size + 1) 92 (.int .u64 (keyR (⟨true, (q : Int), yv, yn⟩ :: R) : Int)) := klast_box bK5 hrow5 hgrow (by decide) (by omega); have bS8 := klast_box (v0 := .slice (some ⟨g', 0, none⟩) ((lastR R).length + 1) cap') (gl := w.heap.size) bS5 hrow5 hgrow (by decide) (by omega)))
    refine ⟨(hk5.trans hk2).from _, ⟨hb5.trans hb2, bS8.cell.trans bS1.cell.symm⟩, ⟨⟨⟨⟨_, hv2, by rw [hrs, hlN.out, List.length_append, opC_append]; exact hr2, trivial⟩, by rw [hrs]; exact bK8⟩, hB.trans (hb5.trans hb2)⟩, by have := hgrow.size; simp at this ⊢; omega, bS8⟩⟩
 case done =>
  rintro D ys W hD hys ⟨⟨⟨⟨v, hv, hrow, -⟩, bK⟩, hB⟩, hsW, -⟩ hK;have hc := hv.cell;rw [hys, rvB_all] at hrow
  gi_wp2
  refine ⟨by simp, .inl ⟨_, _, rfl, run_takeDeferred hK, ?_⟩⟩;exact ⟨_, results_tmp rfl _ _ _, v, rfl, ownsRow_putObj hrow _ hK rfl, hB.trans (belowK_b (w := w) (Nat.le_refl _) W D _ _ (by omega) hK rfl rfl)⟩
 case stop =>
  rintro D c pre W _ _ h _;exact h.elim
theorem klast_any (A : Option Addr) (m c B : Nat) (ops : List Op4) (w : World) (hg : Row w B A (opC ops)) (hm : ops.length = m) (hM : m ≤ 1000) (hk : KeyOk ops) :
  Calls Tryz.prog 44 #[.slice A m c] w fun e W' => ∃ V, (e = .returned V ∧ W'.ownsRow w.heap.size 70 4 V (lastR ops).length (opC (lastR ops))) ∧ Only [] w W' :=
 (callsIn_wide.1 (klast_in 6 (by omega) A m c ops w (row_up hg) hm hM hk)).mono fun e W' ⟨v, he, ho, hb⟩ => ⟨v, ⟨he, ho⟩, Only.of_below hb []⟩
end Go.Proofs.YthdofaoamljkfaaGreatDoor
namespace Go.Proofs.YthdofaoamljkfaaGreatDoor
open Go.RowKit
open Go.Lib hiding intOf
attribute [local go_sem ↓] Go.wp_at_zero Go.wp_at_succ
structure SlI where
 l : List Int
 A : Option Addr
 cp : Nat
def siC (x : SlI) : Value := .slice x.A x.l.length x.cp
structure ChAt (w : World) (gc B nl : Nat) (xs : List SlI) : Prop where
 box : ∃ AV cV, Blk w gc 31 #[.slice AV nl cV] ∧ Row w B AV (xs.map siC)
 len : xs.length = nl
 rows : ∀ x ∈ xs, Row w B x.A (x.l.map (Value.int .i64))
 lt : gc < B
 few : ∀ x ∈ xs, x.l.length ≤ 1000
theorem ChAt.only {w w' : World} {gc B nl : Nat} {xs : List SlI} {S : List Nat} (h : ChAt w gc B nl xs) (ho : Only S w w') (hS : ∀ i ∈ S, B ≤ i) : ChAt w' gc B nl xs := by
 obtain ⟨⟨AV, cV, hb, hr⟩, h2, h3, h4, h5⟩ := h;exact ⟨⟨AV, cV, ho.blk hb (fun hm => by have := hS _ hm; omega), hr.only ho hS⟩, h2, fun x hx => (h3 x hx).only ho hS, h4, h5⟩
theorem wris1_any (gc B nl : Nat) (xs : List SlI) (i : Nat) (x : SlI) (w : World) (hT : ChAt w gc B nl xs) (hx : xs[i]? = some x) :
  Calls Tryz.prog 46 #[.int .i64 (i : Int), .pointer (some ⟨gc, 0, none⟩)] w fun e w' => e = .returned (siC x) ∧ Only [] w w' := by
 obtain ⟨⟨AV, cV, hb, hr⟩, hl, -, -⟩ := hT;have hi := (List.getElem?_eq_some_iff.1 hx).1;obtain ⟨b, off, rfl, -, hbw, hc⟩ := hr.open_ (k := i) (by rw [List.length_map]; exact hi);have c0 := hc i _ (by rw [List.getElem?_map, hx]; rfl);have lB := hb.lt;have y0 := hb.at_ 0;simp at y0;have hi0 : (0 : Int) ≤ (i : Int) := Int.natCast_nonneg _;have hi1 : (i : Int) < (nl : Int) := by omega
 unfold siC at *;obtain ⟨l, A, cp⟩ := x;dsimp only at *;generalize l.length = m at *;clear hb hr hc hx hl;go_enter Tryz.func46, Tryz.ntmps46;go_wp2
 go_ret
 exact ⟨rfl, Only.refl [] w⟩
theorem wrnext1_any (gc B nl : Nat) (xs : List SlI) (i : Nat) (x : SlI) (w : World) (hT : ChAt w gc B nl xs) (hx : xs[i]? = some x) :
  Calls Tryz.prog 38 #[.int .i64 (i : Int), .pointer (some ⟨gc, 0, none⟩)] w fun e w' => e = .returned (siC x) ∧ Only [] w w' := by
 obtain ⟨⟨AV, cV, hb, hr⟩, hl, -, -⟩ := hT;have hi := (List.getElem?_eq_some_iff.1 hx).1;obtain ⟨b, off, rfl, -, hbw, hc⟩ := hr.open_ (k := i) (by rw [List.length_map]; exact hi);have c0 := hc i _ (by rw [List.getElem?_map, hx]; rfl);have lB := hb.lt;have y0 := hb.at_ 0;simp at y0;have hi0 : (0 : Int) ≤ (i : Int) := Int.natCast_nonneg _;have hi1 : (i : Int) < (nl : Int) := by omega
 unfold siC at *;obtain ⟨l, A, cp⟩ := x;dsimp only at *;generalize l.length = m at *;clear hb hr hc hx hl;go_enter Tryz.func38, Tryz.ntmps38;go_wp2
 go_ret
 exact ⟨rfl, Only.refl [] w⟩
def isI (vals : List (List Int)) (l : List Int) : Bool := (l.zip vals).all fun p => decide (p.1 ∈ p.2)
theorem zipI_take {l : List Int} {vals : List (List Int)} {k : Nat} {x : Int} {vs : List Int} (hx : l[k]? = some x) (hv : vals[k]? = some vs) : (l.take (k + 1)).zip vals = (l.take k).zip vals ++ [(x, vs)] := by
 induction l generalizing vals k with
 | nil => simp at hx
 | cons y l ih =>
  cases vals with
  | nil => simp at hv
  | cons us vals =>
   cases k with
   | zero =>
    simp at hx hv;simp [hx, hv]
   | succ k =>
    simp only [List.getElem?_cons_succ] at hx hv;simp only [List.take_succ_cons, List.zip_cons_cons, List.cons_append];rw [ih hx hv]
theorem isI_take {vals : List (List Int)} {l : List Int} {k : Nat} {x : Int} {vs : List Int} (hx : l[k]? = some x) (hv : vals[k]? = some vs) : isI vals (l.take (k + 1)) = (isI vals (l.take k) && decide (x ∈ vs)) := by
 unfold isI;rw [zipI_take hx hv, List.all_append];simp
theorem isI_iff {vals : List (List Int)} {l : List Int} : isI vals l = true ↔ ∀ (i : Nat) (x : Int) (vs : List Int), l[i]? = some x → vals[i]? = some vs → x ∈ vs := by
 unfold isI;rw [List.all_eq_true]
 constructor
 ·intro h i x vs hx hv;have hm : (x, vs) ∈ l.zip vals := List.mem_of_getElem? (i := i) (by rw [List.getElem?_zip_eq_some]; exact ⟨hx, hv⟩)
  simpa using h _ hm
 ·intro h p hp;obtain ⟨i, hi⟩ := List.mem_iff_getElem?.1 hp;obtain ⟨h1, h2⟩ := List.getElem?_zip_eq_some.1 hi
  simpa using h i _ _ h1 h2
theorem isI_false {vals : List (List Int)} {l : List Int} {k : Nat} {x : Int} {vs : List Int} (hx : l[k]? = some x) (hv : vals[k]? = some vs) (h : ¬ x ∈ vs) : isI vals l = false := by
 cases hb : isI vals l with
 | false => rfl
 | true => exact absurd (isI_iff.1 hb k x vs hx hv) h
theorem iis_any (A : Option Addr) (m c Bl gc B : Nat) (l : List Int) (xs : List SlI) (w : World) (hg : Row w Bl A (l.map (Value.int .i64))) (hm : l.length = m) (hM : m ≤ 100000) (hT : ChAt w gc B m xs) :
  Calls Tryz.prog 45 #[.slice A m c, .func (.func 46) #[] #[.pointer (some ⟨gc, 0, none⟩)]] w fun e w' => e = .returned (.bool (isI (xs.map (fun x => x.l)) l)) ∧ Only [] w w' := by
 have HG := Hd hg;have HM := Hd hm;have HT := Hd hT;clear hg hm hT;go_enter Tryz.func45, Tryz.ntmps45;go_wp2_with fail
 go_loopw [9] (fun iv wr => ∃ k : Nat, iv = .int .i64 (k : Int) ∧ k ≤ m ∧ Hid (isI (xs.map (fun x => x.l)) (l.take k) = true) ∧ Hid (Only [] w wr)) (fun iv _ => m - (intOf iv).toNat)
 case atStart => exact ⟨0, rfl, by omega, Hd rfl, Hd (Only.refl [] w)⟩
 case round =>
  obtain ⟨k, rfl, hk, hn, hO⟩ := hrel
  by_cases hlt : k < m
  ·obtain ⟨u, hu⟩ : ∃ u, l[k]? = some u := ⟨_, List.getElem?_eq_getElem (by rw [HM.out]; exact hlt)⟩;obtain ⟨x, hx⟩ : ∃ x, xs[k]? = some x := ⟨_, List.getElem?_eq_getElem (by rw [HT.out.len]; exact hlt)⟩;have hxm := List.mem_of_getElem? hx;have hv : (xs.map (fun x => x.l))[k]? = some x.l := by rw [List.getElem?_map, hx]; rfl
   have HTK := Hd (isI_take (k := k) hu hv);have HF := Hd (fun h => isI_false hu hv h);have HNX := Hd (fun w' (O : Only [] w w') => wris1_any gc B m xs k x w' (HT.out.only O (by simp)) hx);have HCO := Hd (fun w' (O : Only [] w w') => contI_any x.A x.l.length x.cp B x.l u w' rfl (Nat.le_trans (HT.out.few x hxm) (by omega)) ((HT.out.rows x hxm).only O (by simp)));unfold siC at *;obtain ⟨b, off, rfl, hbB, hbw, hc⟩ := (HG.out.only hO.out (by simp)).open_ (k := k) (by rw [List.length_map, HM.out]; omega);have c0 := hc k _ (by rw [List.getElem?_map, hu]; rfl);have h01 : (k : Int) < (m : Int) := by omega
   have hk0 : (0 : Int) ≤ (k : Int) := Int.natCast_nonneg _;have hwk : IntKind.i64.wrap ((k : Int) + 1) = (k : Int) + 1 := IntWalk.i64_in _ (by omega);clear hc hu hx hv hxm;obtain ⟨d, hd⟩ : ∃ d, d = decide (u ∈ x.l) := ⟨_, rfl⟩;rw [← hd] at HCO HTK;have HD := Hd hd;clear hd;go_wp2_with fail
   refine (HNX.out _ hO.out).mono ?_;rintro e w5 ⟨rfl, O5⟩;have HO5 := Hd (hO.out.trans O5);clear O5 HNX;go_wp2_with fail
   refine (HCO.out _ HO5.out).mono ?_;rintro e w6 ⟨rfl, rfl⟩
   cases d with
   | true =>
    have HT1 : Hid (isI (xs.map (fun x => x.l)) (l.take (k + 1)) = true) := Hd (by rw [HTK.out, hn.out]; rfl);go_wp2
    go_roundw
    case rel => exact ⟨k + 1, by go_num, by omega, HT1, HO5⟩
    case measure => simp [intOf]; omega
   | false =>
    have HT1 := Hd (HF.out (of_decide_eq_false HD.out.symm));go_wp2
    go_ret
    exact ⟨by rw [HT1.out]; rfl, HO5.out⟩
  ·obtain rfl : k = m := by omega
   have HT1 : Hid (isI (xs.map (fun x => x.l)) l = true) := Hd (by have := hn.out; rwa [List.take_of_length_le (by rw [HM.out]; exact Nat.le_refl _)] at this);go_wp2
   go_ret
   exact ⟨by rw [HT1.out]; rfl, hO.out⟩
end Go.Proofs.YthdofaoamljkfaaGreatDoor
