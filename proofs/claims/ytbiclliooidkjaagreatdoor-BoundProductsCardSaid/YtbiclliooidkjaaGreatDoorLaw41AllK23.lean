/- Parts. -/
import Derived.Test.YtbiclliooidkjaaGreatDoorLaw41AllK19
set_option maxRecDepth 10000
set_option maxHeartbeats 16000000
set_option linter.unusedVariables false
set_option linter.unusedSimpArgs false
namespace Go.Proofs.YtbiclliooidkjaaGreatDoor
open Go.RowKit Go.Shelf
open Go.Lib hiding intOf
attribute [local go_sem] Oper.semAt_some
abbrev Bo := Nat × Op4
def bkC (x : Bo) : Array Value := #[.int .i64 (x.1 : Int), .agg #[.bool x.2.wr, .int .i64 x.2.key, .int .i64 x.2.vk, .int .i64 x.2.vn]]
def zl (l : List Op4) : List Bo := l.zipIdx.map fun x => (x.2, x.1)
theorem zl_len (l : List Op4) : (zl l).length = l.length := by simp [zl]
theorem zl_snd (l : List Op4) : (zl l).map Prod.snd = l := by
 unfold zl;rw [List.map_map];refine List.ext_getElem? fun i => ?_;simp only [List.getElem?_map, List.getElem?_zipIdx]
 cases l[i]? <;> rfl
theorem zl_drop {l : List Op4} {k : Nat} {o : Op4} (h : l[k]? = some o) : ((zl l).drop k).reverse = ((zl l).drop (k + 1)).reverse ++ [(k, o)] := by
 have hk := (List.getElem?_eq_some_iff.1 h).1;have hz : (zl l)[k]? = some (k, o) := by
  unfold zl;rw [List.getElem?_map, List.getElem?_zipIdx, h];simp
 obtain ⟨h1, h2⟩ := List.getElem?_eq_some_iff.1 hz;rw [List.drop_eq_getElem_cons h1, List.reverse_cons, h2]
theorem zl_prefix (l : List Op4) (k : Nat) : ((zl l).drop k).reverse <+: (zl l).reverse := by
 conv => rhs; rw [← List.take_append_drop k (zl l), List.reverse_append]
 exact List.prefix_append _ _
def lastO (pre : List Bo) : Op4 := (pre.getLast?.map Prod.snd).getD ⟨false, 0, 0, 0⟩
theorem lastO_snoc (pre : List Bo) (x : Bo) : lastO (pre ++ [x]) = x.2 := by simp [lastO]
def HitAt (key : Int) (pre : List Bo) : Prop := ∃ pre0 x, pre = pre0 ++ [x] ∧ (∀ y ∈ pre0, hitO key y.2 = false) ∧ hitO key x.2 = true
theorem hitAt_left {key : Int} {l : List Op4} {pre : List Bo} (hp : pre <+: (zl l).reverse) (h : HitAt key pre) : leftW key l = some ((lastO pre).vk, (lastO pre).vn) := by
 obtain ⟨pre0, x, rfl, hm, hx⟩ := h;obtain ⟨post, hpost⟩ := hp;have e : zl l = post.reverse ++ x :: pre0.reverse := by
  have := congrArg List.reverse hpost;rw [List.reverse_reverse] at this;rw [← this];simp
 have el : l = (post.reverse.map Prod.snd ++ [x.2]) ++ pre0.reverse.map Prod.snd := by
  conv => lhs; rw [← zl_snd l, e]
  simp
 rw [lastO_snoc, el, leftW_app key _ _ (fun o ho => by
  obtain ⟨y, hy, rfl⟩ := List.mem_map.1 ho;exact hm y (List.mem_reverse.1 hy)), leftW_snoc, if_pos hx]
theorem noHit_left {key : Int} {l : List Op4} (h : ∀ y ∈ (zl l).reverse, hitO key y.2 = false) : leftW key l = none :=
 leftW_miss fun o ho => by
  rw [← zl_snd l] at ho;obtain ⟨y, hy, rfl⟩ := List.mem_map.1 ho;exact h y (List.mem_reverse.2 hy)
set_option maxRecDepth 100000 in
theorem back1_in (F : Fence) (n : Nat) (hf : F.fn 68) (hro : F.round = none) (hn : 1 ≤ n) (l Bn n₀ : Nat) (A : Option Addr) (m c : Nat) (ops : List Op4) (J Jx : List Bo → World → Prop) (W : World) (hW0 : n₀ ≤ W.heap.size)
  (hm : ops.length = m) (hM : m ≤ 1000) (hJ : AbidesFrom W.heap.size J)
  (hY : ∀ pre x W1, J pre W1 → pre.length < 1000001 → YieldAt F (n - 1) Tryz.prog l (bkC x) W1 fun e W' =>
   (e = .returned (.bool true) ∧ J (pre ++ [x]) W' ∧ Below n₀ W1 W') ∨ (e = .returned (.bool false) ∧ Jx (pre ++ [x]) W'))
  (hlt0 : Bn < n₀) (hBn : W.cell? ⟨Bn, 0, none⟩ = some (.slice A m c)) (hg : Row W n₀ A (opC ops)) (h0 : J [] W) :
  CallsIn F n Tryz.prog 68 #[.func (.yield l) #[] #[], .pointer (some ⟨Bn, 0, none⟩)] W fun e W' => (∃ v, e = .returned v) ∧
   ((∃ ys, ys = (zl ops).reverse ∧ J ys W') ∨ (∃ pre, pre <+: (zl ops).reverse ∧ Jx pre W')) := by
 have hzm : (zl ops).length = m := by rw [zl_len, hm]
 have HZ := Hd hzm;have HM := Hd hm;have hw1 : IntKind.i64.wrap ((m : Int) - 1) = (m : Int) - 1 := IntWalk.i64_in _ (by omega);clear hzm hm;refine callsIn_of_wp Tryz.func68 rfl hf ?_ hro;simp only [Tryz.ntmps68, List.size_toArray, List.length_cons, List.length_nil, Nat.reduceAdd, Nat.reduceSub, Array.replicate_succ, Array.replicate_zero, List.push_toArray, List.append_toArray, List.nil_append, List.cons_append]
 gi_wp2
 gi_loopw [3] (fun iv wr => ∃ k : Nat, iv = .int .i64 ((k : Int) - 1) ∧ k ≤ m ∧ J ((zl ops).drop k).reverse wr ∧ Below n₀ W wr) (fun iv _ => (intOf iv + 1).toNat)
 case atStart => exact ⟨m, rfl, Nat.le_refl _, by rw [List.drop_of_length_le (by rw [HZ.out]; exact Nat.le_refl _)]; exact h0, Below.refl _ _⟩
 case round =>
  obtain ⟨k, rfl, hk, hJs, hnx⟩ := hrel
  cases k with
  | zero =>
   have hd2 : decide ((0 : Int) ≤ ((0 : Nat) : Int) - 1) = false := by decide
   gi_wp2
   go_end0
   exact ⟨⟨_, rfl⟩, .inl ⟨_, rfl, hJs⟩⟩
  | succ k =>
   obtain ⟨y, hy⟩ : ∃ y, ops[k]? = some y := ⟨_, List.getElem?_eq_getElem (by rw [HM.out]; omega)⟩;obtain ⟨b, off, rfl, hb, -, hP⟩ := row_op hg hy;obtain ⟨p0, p1, p2, p3⟩ := hP.belowB hnx hb;have HTT := Hd (zl_drop hy);have HPX := Hd (zl_prefix ops k);obtain ⟨yw, yk, yv, yn⟩ := y;dsimp only at p0 p1 p2 p3;have e1 : ((k + 1 : Nat) : Int) - 1 = (k : Int) := by omega
   rw [e1];have hk0 : (0 : Int) ≤ (k : Int) := Int.natCast_nonneg _;have hkm : (k : Int) < (m : Int) := by omega
   have hwk : IntKind.i64.wrap ((k : Int) - 1) = (k : Int) - 1 := IntWalk.i64_in _ (by omega);have hBr := (hnx.cell (p := ⟨Bn, 0, none⟩) hlt0).trans hBn;have hlen : ((zl ops).drop (k + 1)).reverse.length < 1000001 := by
    rw [List.length_reverse, List.length_drop, HZ.out];omega
   obtain ⟨fn, tmps, assign, body, hyy, hR⟩ := hY _ (k, ⟨yw, yk, yv, yn⟩) _ hJs hlen;dsimp only [bkC] at hyy hR;clear hP hy e1
   gi_wp2
   refine hR.mono ?_;rintro e W3 (⟨rfl, hJ4, hk4⟩ | ⟨rfl, hJx4⟩)
   ·gi_wp2
    go_roundw
    case rel => exact ⟨k, rfl, by omega, by rw [HTT.out]; exact hJ4, hnx.trans hk4⟩
    case measure => simp [intOf]
   ·gi_wp2
    refine bodyPost_ret (results_none rfl _ _ _) rfl ?_;exact ⟨⟨_, rfl⟩, .inr ⟨_, by rw [← HTT.out]; exact HPX.out, hJx4⟩⟩
theorem back_in (F : Fence) (n : Nat) (hf : F.fn 47) (hro : F.round = none) (A : Option Addr) (m c : Nat) (w : World) :
  CallsIn F n Tryz.prog 47 #[.slice A m c] w fun e w' => e = .returned (.func (.func 68) #[] #[.pointer (some ⟨w.heap.size, 0, none⟩)]) ∧ w' = w.alloc (.cells #[.slice A m c] 37) := by
 refine callsIn_of_wp Tryz.func47 rfl hf ?_ hro;simp only [Tryz.ntmps47, List.size_toArray, List.length_cons, List.length_nil, Nat.reduceAdd, Nat.reduceSub, Array.replicate_succ, Array.replicate_zero, List.push_toArray, List.append_toArray, List.nil_append, List.cons_append]
 gi_wp2
 go_ret
 exact ⟨rfl, rfl⟩
theorem back_stops (F : Fence) (n : Nat) (hf : F.fn 68) (hro : F.round = none) (hn : 1 ≤ n) (Bn n₀ : Nat) (A : Option Addr) (m c : Nat) (ops : List Op4) (w : World) (hBn : Bn < w.heap.size) (hn₀ : n₀ ≤ w.heap.size) (hlt0 : Bn < n₀)
  (hc : w.cell? ⟨Bn, 0, none⟩ = some (.slice A m c)) (hg : Row w n₀ A (opC ops)) (hm : ops.length = m) (hM : m ≤ 1000) :
  SeqStopsK F n Tryz.prog 68 #[.pointer (some ⟨Bn, 0, none⟩)] bkC (Below n₀) (fun ys => ys = (zl ops).reverse) (fun pre => pre <+: (zl ops).reverse) 1000001 w := fun l J Jx W hW hJ _ hY h0 =>
 back1_in F n hf hro hn l Bn n₀ A m c ops J Jx W (Nat.le_trans hn₀ hW.size) hm hM hJ hY hlt0 ((hW.cell (p := ⟨Bn, 0, none⟩) hBn).trans hc) (hg.only (Only.of_below hW []) (fun _ h => by cases h)) h0
theorem results_cc {fn : Func} {p u : Tmp} {ty tu : TypeId} (h : fn.results = #[.cell p ty, .cell u tu]) (tmps : Array Value) (w : World) (g gu : Nat) (t : TypeId) (cs : Array Value) (d : TypeDesc) (vu : Value)
  (hp : tmps.getD p undef = .pointer (some ⟨g, 0, none⟩)) (hg : Blk w g t cs) (hu : Tryz.prog.underlying ty = some d) (hd : d.isRow = true) (hi : (Tryz.prog.info? ty).map (·.size) = some cs.size)
  (hpu : tmps.getD u undef = .pointer (some ⟨gu, 0, none⟩)) (hcu : (loadVar tu ⟨gu, 0, none⟩).run Tryz.prog w = .ok vu w) :
  (results fn tmps).run Tryz.prog w = .ok (.tuple #[.agg cs, vu]) w := by
 have hp' : tmps[p]?.getD undef = .pointer (some ⟨g, 0, none⟩) := by simpa using hp
 have hpu' : tmps[u]?.getD undef = .pointer (some ⟨gu, 0, none⟩) := by simpa using hpu
 have hl := run_loadVar_row (P := Tryz.prog) w g t ty cs (0, 0) d hg hu (by cases d <;> simp_all) hi;simp only [results, h];simp [Sem.run_bind, Result.andThen, hp', hpu', asAddr, hl, hcu]
theorem load_bool {w : World} {g : Nat} {b : Bool} (h : Boxed w g 4 (.bool b)) : (loadVar 4 ⟨g, 0, none⟩).run Tryz.prog w = .ok (.bool b) w := by
 have hc := h.cell;simp [go_sem, hc]
set_option maxRecDepth 100000 in
theorem left_in (F : Fence) (n : Nat) (hf0 : F.fn 30) (hf1 : F.fn 47) (hf2 : F.fn 68) (hro : F.round = none) (hn : 4 ≤ n) (A : Option Addr) (m c : Nat) (ops : List Op4) (key : Int) (w : World)
  (hg : Row w w.heap.size A (opC ops)) (hm : ops.length = m) (hM : m ≤ 1000) :
  CallsIn F n Tryz.prog 30 #[.slice A m c, .int .i64 key] w fun e W' => e = .returned (optT (leftW key ops)) ∧ Below w.heap.size w W' := by
 have h1 : 1 ≤ n := by omega
 refine callsIn_of_wp_marks Tryz.func30 rfl hf0 ?_ hro;simp only [Tryz.ntmps30, List.size_toArray, List.length_cons, List.length_nil, Nat.reduceAdd, Nat.reduceSub, Array.replicate_succ, Array.replicate_zero, List.push_toArray, List.append_toArray, List.nil_append, List.cons_append]
 gi_wp2_with (gi_at_call 47; refine (back_in F (n - 1) hf1 hro _ _ _ _).mono ?_; rintro e w' ⟨rfl, rfl⟩)
 have bK := (((Boxed.new w 3 (.int .i64 key)).alloc (.cells #[.int .i64 0, .int .i64 0] 48)).alloc (.cells #[.bool false] 4)).alloc (.cells #[.slice A m c] 37);have bV := ((Blk.made (w.alloc (.cells #[.int .i64 key] 3)) 48 #[.int .i64 0, .int .i64 0]).alloc (.cells #[.bool false] 4)).alloc (.cells #[.slice A m c] 37);have bB := (Boxed.new ((w.alloc (.cells #[.int .i64 key] 3)).alloc (.cells #[.int .i64 0, .int .i64 0] 48)) 4 (.bool false)).alloc (.cells #[.slice A m c] 37);have bS := Boxed.new (((w.alloc (.cells #[.int .i64 key] 3)).alloc (.cells #[.int .i64 0, .int .i64 0] 48)).alloc (.cells #[.bool false] 4)) 37 (.slice A m c);simp only [World.size_alloc] at bV bB bS;have hB0 : Below w.heap.size w ((((w.alloc (.cells #[.int .i64 key] 3)).alloc (.cells #[.int .i64 0, .int .i64 0] 48)).alloc (.cells #[.bool false] 4)).alloc (.cells #[.slice A m c] 37)) := ((((Below.refl _ w).alloc (Nat.le_refl _) _).alloc (by simp) _).alloc (by simp; omega) _).alloc (by simp; omega) _;have hsz : ((((w.alloc (.cells #[.int .i64 key] 3)).alloc (.cells #[.int .i64 0, .int .i64 0] 48)).alloc (.cells #[.bool false] 4)).alloc (.cells #[.slice A m c] 37)).heap.size = w.heap.size + 4 := by simp
 obtain ⟨W0, hW0⟩ : ∃ W0, ((((w.alloc (.cells #[.int .i64 key] 3)).alloc (.cells #[.int .i64 0, .int .i64 0] 48)).alloc (.cells #[.bool false] 4)).alloc (.cells #[.slice A m c] 37)) = W0 := ⟨_, rfl⟩;rw [hW0] at bK bV bB bS hB0 hsz ⊢;clear hW0;have hg0 : Row W0 W0.heap.size A (opC ops) := row_up (hg.only (Only.of_below hB0 []) (fun _ h => by cases h));refine wpIn_rangeFunc_ownH hro h1 (gf := 68) (lb := #[.pointer (some ⟨w.heap.size + 1 + 1 + 1, 0, none⟩)]) rfl hf2 (enters_of Tryz.func68 (by kernel_rfl) rfl)
  (back_stops F (n - 1) hf2 hro (by omega) (w.heap.size + 1 + 1 + 1) W0.heap.size A m c ops W0 (by omega) (Nat.le_refl _) (by omega) bS.cell hg0 hm hM) belowK_t (belowK_b (by omega)) (Below.refl _ _) (fun _ => rfl)
  (fun pre W => (((((∀ y ∈ pre, hitO key y.2 = false) ∧ Boxed W w.heap.size 3 (.int .i64 key)) ∧ Blk W (w.heap.size + 1) 48 #[.int .i64 0, .int .i64 0]) ∧ Boxed W (w.heap.size + 1 + 1) 4 (.bool false)) ∧ Below w.heap.size w W) ∧ W0.heap.size ≤ W.heap.size)
  (fun c pre W => (((c = .ret ∧ HitAt key pre) ∧ Blk W (w.heap.size + 1) 48 #[.int .i64 (lastO pre).vk, .int .i64 (lastO pre).vn]) ∧ Boxed W (w.heap.size + 1 + 1) 4 (.bool true)) ∧ Below w.heap.size w W)
  (OwnFrom.and (OwnFrom.and (OwnFrom.and (OwnFrom.and (OwnFrom.and (ownFrom_pure _ _) (Own.from (boxed_own _ _ _) _)) (Own.from (blk_own _ _ (fun _ => _)) _)) (Own.from (boxed_own _ _ _) _)) (ownFrom_below (Nat.le_refl _) (by omega))) (fun s X Y row hs hg hr => Nat.le_trans hs hg.size))
  (fun c => OwnFrom.and (OwnFrom.and (OwnFrom.and (ownFrom_pure _ _) (Own.from (blk_own _ _ (fun pre => #[.int .i64 (lastO pre).vk, .int .i64 (lastO pre).vn])) _)) (Own.from (boxed_own _ _ _) _)) (ownFrom_below (Nat.le_refl _) (by omega)))
  ⟨⟨⟨⟨⟨by simp, bK⟩, bV⟩, bB⟩, hB0⟩, Nat.le_refl _⟩
  (fun x a' W => ∃ Bx, W0.heap.size ≤ Bx ∧ Blk W Bx 50 #[.bool x.2.wr, .int .i64 x.2.key, .int .i64 x.2.vk, .int .i64 x.2.vn] ∧
   a' = { tmps := #[.slice A m c, .int .i64 key, undef, .pointer (some ⟨w.heap.size, 0, none⟩), .pointer (some ⟨w.heap.size + 1, 0, none⟩), .pointer (some ⟨w.heap.size + 1 + 1, 0, none⟩), undef, .pointer (some ⟨Bx, 0, none⟩), .slice A m c, .func (.func 68) #[] #[.pointer (some ⟨w.heap.size + 1 + 1 + 1, 0, none⟩)], .int .i64 (x.1 : Int), .agg #[.bool x.2.wr, .int .i64 x.2.key, .int .i64 x.2.vk, .int .i64 x.2.vn], undef, undef, undef, undef, undef, undef, undef, undef, undef, undef, undef], defers := [] })
  (fun x a' _ X Y row hs hg hr => by
   obtain ⟨Bx, h0, b1, e⟩ := hs;exact ⟨Bx, h0, blk_own Bx _ (fun (_ : Unit) => _) () X Y row b1 hg (fun r e => (hr r e).2), e⟩)
  ?assign ?body ?done ?stop
 case assign =>
  rintro l pre x W K ⟨⟨⟨⟨⟨hp, bK⟩, bV⟩, bB⟩, hB1⟩, hsW⟩ hK;unfold bkC
  gi_wp2
  refine hK _ _ ((KeepsOthers.alloc _ _).from _) ((Below.refl _ W).alloc hsW _) ⟨⟨⟨⟨⟨hp, bK.alloc _⟩, bV.alloc _⟩, bB.alloc _⟩, hB1.alloc hB1.size _⟩, by simp; omega⟩
   ⟨W.heap.size, hsW, Blk.made W _ _, rfl⟩
 case body =>
  rintro l pre ⟨xi, ⟨yw, yk, yv, yn⟩⟩ a' W hl ⟨r, hr⟩ ⟨⟨⟨⟨⟨hp, bK⟩, bV⟩, bB⟩, hB⟩, hsW⟩ ⟨Bx, hBx, bO, rfl⟩ hlt;have hcK := bK.cell;have hcB := bB.cell;have hfB := bB.frozen;dsimp only at bO;have o0 := bO.at_ 0;have o1 := bO.at_ 1;have o2 := bO.at_ 2;have o3 := bO.at_ 3;have v0 := bV.at_ 0;have v1 := bV.at_ 1;have lO := bO.lt;have lV := bV.lt;have f0 := bV.free 0;have f1 := bV.free 1;simp at o0 o1 o2 o3 v0 v1
  cases yw with
  | false =>
   gi_wp2
   exact ⟨KeepsFrom.refl _ _, Below.refl _ _, ⟨⟨⟨⟨⟨fun y hy => (List.mem_append.1 hy).elim (hp y) (fun e => by simp at e; subst e; rfl), bK⟩, bV⟩, bB⟩, hB⟩, hsW⟩⟩
  | true =>
   by_cases hk : yk = key
   ·subst hk
    gi_wp2
    have q1 : w.heap.size + 1 ≠ w.heap.size + 1 + 1 := by omega
    refine ⟨(((KeepsOthers.setCell _ _ _).trans (KeepsOthers.setCell _ _ _)).trans (KeepsOthers.setCell _ _ _)).from _, ⟨⟨⟨rfl, ⟨pre, _, rfl, hp, by simp [hitO]⟩⟩, ?_⟩, ?_⟩, ((hB.setCell (p := ⟨w.heap.size + 1, 0, none⟩) (by simp) _).setCell (p := ⟨w.heap.size + 1, 1, none⟩) (by simp) _).setCell (p := ⟨w.heap.size + 1 + 1, 0, none⟩) (by simp; omega) _⟩
    ·rw [lastO_snoc];have := ((bV.put 0 (.int .i64 yv)).put 1 (.int .i64 yn)).far (p := ⟨w.heap.size + 1 + 1, 0, none⟩) q1 (.bool true)
     simpa using this
    ·exact Boxed.set (.bool true) (Blk.far (Blk.far bB (p := ⟨w.heap.size + 1, 0, none⟩) (Ne.symm q1) _) (p := ⟨w.heap.size + 1, 1, none⟩) (Ne.symm q1) _)
   ·have hk1 : (yk == key) = false := by simpa using hk
    gi_wp2
    exact ⟨KeepsFrom.refl _ _, Below.refl _ _, ⟨⟨⟨⟨⟨fun y hy => (List.mem_append.1 hy).elim (hp y) (fun e => by simp at e; subst e; unfold hitO; simp [hk]), bK⟩, bV⟩, bB⟩, hB⟩, hsW⟩⟩
 case done =>
  rintro D ys W hD rfl ⟨⟨⟨⟨⟨hp, bK⟩, bV⟩, bB⟩, hB⟩, hsW⟩ hK;have v0 := bV.at_ 0;have v1 := bV.at_ 1;have lV := bV.lt;have hcB := bB.cell;have hfB := bB.frozen;have f0 := bV.free 0;have f1 := bV.free 1;simp at v0 v1;have q1 : w.heap.size + 1 ≠ w.heap.size + 1 + 1 := by omega
  gi_wp2
  have hB3 := ((hB.setCell (p := ⟨w.heap.size + 1, 0, none⟩) (by simp) (.int .i64 0)).setCell (p := ⟨w.heap.size + 1, 1, none⟩) (by simp) (.int .i64 0)).setCell (p := ⟨w.heap.size + 1 + 1, 0, none⟩) (by simp; omega) (.bool false);have bV3 : Blk (((W.setCell ⟨w.heap.size + 1, 0, none⟩ (.int .i64 0)).setCell ⟨w.heap.size + 1, 1, none⟩ (.int .i64 0)).setCell ⟨w.heap.size + 1 + 1, 0, none⟩ (.bool false)) (w.heap.size + 1) 48 #[.int .i64 0, .int .i64 0] := by
   have := ((bV.put 0 (.int .i64 0)).put 1 (.int .i64 0)).far (p := ⟨w.heap.size + 1 + 1, 0, none⟩) q1 (.bool false)
   simpa using this
  have bB3 : Boxed (((W.setCell ⟨w.heap.size + 1, 0, none⟩ (.int .i64 0)).setCell ⟨w.heap.size + 1, 1, none⟩ (.int .i64 0)).setCell ⟨w.heap.size + 1 + 1, 0, none⟩ (.bool false)) (w.heap.size + 1 + 1) 4 (.bool false) :=
   Boxed.set (.bool false) (Blk.far (Blk.far bB (p := ⟨w.heap.size + 1, 0, none⟩) (Ne.symm q1) _) (p := ⟨w.heap.size + 1, 1, none⟩) (Ne.symm q1) _)
  have hK3 := (((KeepsOthers.setCell W ⟨w.heap.size + 1, 0, none⟩ (.int .i64 0)).trans (KeepsOthers.setCell _ ⟨w.heap.size + 1, 1, none⟩ (.int .i64 0))).trans (KeepsOthers.setCell _ ⟨w.heap.size + 1 + 1, 0, none⟩ (.bool false))).same D _ hK rfl;generalize (((W.setCell ⟨w.heap.size + 1, 0, none⟩ (.int .i64 0)).setCell ⟨w.heap.size + 1, 1, none⟩ (.int .i64 0)).setCell ⟨w.heap.size + 1 + 1, 0, none⟩ (.bool false)) = W3 at *;refine ⟨by simp, .inl ⟨_, _, rfl, run_takeDeferred hK3, ?_⟩⟩;refine ⟨_, results_cc rfl _ _ (w.heap.size + 1) (w.heap.size + 1 + 1) 48 #[.int .i64 0, .int .i64 0] _ (.bool false) rfl ((blk_own _ _ (fun (_ : Unit) => _)).putObj (s := ()) (.deferred none) bV3 hK3 rfl) Tryz.underlying48 rfl (by kernel_rfl) rfl (load_bool ((boxed_own _ _ (fun (_ : Unit) => _)).putObj (s := ()) (.deferred none) bB3 hK3 rfl)), ?_, hB3.trans (belowK_b (w := w) (Nat.le_refl _) W3 D _ _ (by omega) hK3 rfl rfl)⟩;rw [noHit_left hp]
  rfl
 case stop =>
  rintro D c pre W hD hpre ⟨⟨⟨⟨rfl, hh⟩, bV⟩, bB⟩, hB⟩ hK;have hle := hitAt_left hpre hh;generalize (lastO pre).vk = vk at *;generalize (lastO pre).vn = vn at *
  gi_wp2
  refine ⟨by simp, .inl ⟨_, _, rfl, run_takeDeferred hK, ?_⟩⟩;refine ⟨_, results_cc rfl _ _ (w.heap.size + 1) (w.heap.size + 1 + 1) 48 #[.int .i64 vk, .int .i64 vn] _ (.bool true) rfl ((blk_own _ _ (fun (_ : Unit) => _)).putObj (s := ()) (.deferred none) bV hK rfl) Tryz.underlying48 rfl (by kernel_rfl) rfl (load_bool ((boxed_own _ _ (fun (_ : Unit) => _)).putObj (s := ()) (.deferred none) bB hK rfl)), ?_, hB.trans (belowK_b (w := w) (Nat.le_refl _) W D _ _ (by omega) hK rfl rfl)⟩;rw [hle]
  rfl
theorem left_any (A : Option Addr) (m c B : Nat) (ops : List Op4) (key : Int) (w : World) (hg : Row w B A (opC ops)) (hm : ops.length = m) (hM : m ≤ 1000) :
  Calls Tryz.prog 30 #[.slice A m c, .int .i64 key] w fun e W' => e = .returned (optT (leftW key ops)) ∧ Only [] w W' :=
 (callsIn_wide.1 (left_in Fence.wide 6 trivial trivial trivial rfl (by omega) A m c ops key w (row_up hg) hm hM)).mono fun e W' ⟨he, hb⟩ => ⟨he, Only.of_below hb []⟩
end Go.Proofs.YtbiclliooidkjaaGreatDoor
