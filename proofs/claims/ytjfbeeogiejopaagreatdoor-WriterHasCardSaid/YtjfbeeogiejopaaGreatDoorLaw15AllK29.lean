/- known.back and known.Left: from the last op on, the first write of a key that is met. inner.txn: the ops of a transaction, if there is one of a history that may be. known.ForRead; writer.readAt. -/
import Derived.Test.YtjfbeeogiejopaaGreatDoorLaw15AllK28
import Derived.Test.YtjfbeeogiejopaaGreatDoorLaw15AllK23
import Derived.Test.YtjfbeeogiejopaaGreatDoorLaw15AllK2
import Derived.Test.YtjfbeeogiejopaaGreatDoorLaw15AllK26
import Derived.Test.YtjfbeeogiejopaaGreatDoorLaw15AllK16
import Derived.Test.YtjfbeeogiejopaaGreatDoorLaw15AllK8
set_option linter.unusedVariables false
set_option linter.unusedSimpArgs false
namespace Go.Proofs.YtjfbeeogiejopaaGreatDoor
open Go.RowKit Go.Shelf
open Go.Lib hiding intOf
attribute [local go_sem] Oper.semAt_some
/-- An op with its number. -/
abbrev Bo := Nat × Op4
def bkC (x : Bo) : Array Value := #[.int .i64 (x.1 : Int), .agg #[.bool x.2.wr, .int .i64 x.2.key, .int .i64 x.2.vk, .int .i64 x.2.vn]]
def zl (l : List Op4) : List Bo := l.zipIdx.map fun x => (x.2, x.1)
theorem zl_len (l : List Op4) : (zl l).length = l.length := by simp [zl]
theorem zl_snd (l : List Op4) : (zl l).map Prod.snd = l := by
 unfold zl
 rw [List.map_map]
 refine List.ext_getElem? fun i => ?_
 simp only [List.getElem?_map, List.getElem?_zipIdx]
 cases l[i]? <;> rfl
theorem zl_drop {l : List Op4} {k : Nat} {o : Op4} (h : l[k]? = some o) : ((zl l).drop k).reverse = ((zl l).drop (k + 1)).reverse ++ [(k, o)] := by
 have hk := (List.getElem?_eq_some_iff.1 h).1
 have hz : (zl l)[k]? = some (k, o) := by
  unfold zl
  rw [List.getElem?_map, List.getElem?_zipIdx, h]
  simp
 obtain ⟨h1, h2⟩ := List.getElem?_eq_some_iff.1 hz
 rw [List.drop_eq_getElem_cons h1, List.reverse_cons, h2]
theorem zl_prefix (l : List Op4) (k : Nat) : ((zl l).drop k).reverse <+: (zl l).reverse := by
 conv => rhs; rw [← List.take_append_drop k (zl l), List.reverse_append]
 exact List.prefix_append _ _
def lastO (pre : List Bo) : Op4 := (pre.getLast?.map Prod.snd).getD ⟨false, 0, 0, 0⟩
theorem lastO_snoc (pre : List Bo) (x : Bo) : lastO (pre ++ [x]) = x.2 := by simp [lastO]
/-- The last of these is the first that hits. -/
def HitAt (key : Int) (pre : List Bo) : Prop := ∃ pre0 x, pre = pre0 ++ [x] ∧ (∀ y ∈ pre0, hitO key y.2 = false) ∧ hitO key x.2 = true
theorem hitAt_left {key : Int} {l : List Op4} {pre : List Bo} (hp : pre <+: (zl l).reverse) (h : HitAt key pre) : leftW key l = some ((lastO pre).vk, (lastO pre).vn) := by
 obtain ⟨pre0, x, rfl, hm, hx⟩ := h
 obtain ⟨post, hpost⟩ := hp
 have e : zl l = post.reverse ++ x :: pre0.reverse := by
  have := congrArg List.reverse hpost
  rw [List.reverse_reverse] at this
  rw [← this]
  simp
 have el : l = (post.reverse.map Prod.snd ++ [x.2]) ++ pre0.reverse.map Prod.snd := by
  conv => lhs; rw [← zl_snd l, e]
  simp
 rw [lastO_snoc, el, leftW_app key _ _ (fun o ho => by
  obtain ⟨y, hy, rfl⟩ := List.mem_map.1 ho
  exact hm y (List.mem_reverse.1 hy)), leftW_snoc, if_pos hx]
theorem noHit_left {key : Int} {l : List Op4} (h : ∀ y ∈ (zl l).reverse, hitO key y.2 = false) : leftW key l = none :=
 leftW_miss fun o ho => by
  rw [← zl_snd l] at ho
  obtain ⟨y, hy, rfl⟩ := List.mem_map.1 ho
  exact h y (List.mem_reverse.2 hy)
set_option maxRecDepth 100000 in
set_option maxHeartbeats 4000000 in
theorem back1_in (F : Fence) (n : Nat) (hf : F.fn 107) (hro : F.round = none) (hn : 1 ≤ n) (l Bn n₀ : Nat) (A : Option Addr) (m c : Nat) (ops : List Op4) (J Jx : List Bo → World → Prop) (W : World) (hW0 : n₀ ≤ W.heap.size)
  (hm : ops.length = m) (hM : m ≤ 1000) (hJ : AbidesFrom W.heap.size J)
  (hY : ∀ pre x W1, J pre W1 → pre.length < 1000001 → YieldAt F (n - 1) Tryz.prog l (bkC x) W1 fun e W' =>
   (e = .returned (.bool true) ∧ J (pre ++ [x]) W' ∧ Below n₀ W1 W') ∨ (e = .returned (.bool false) ∧ Jx (pre ++ [x]) W'))
  (hlt0 : Bn < n₀) (hBn : W.cell? ⟨Bn, 0, none⟩ = some (.slice A m c)) (hg : Row W n₀ A (opC ops)) (h0 : J [] W) :
  CallsIn F n Tryz.prog 107 #[.func (.yield l) #[] #[], .pointer (some ⟨Bn, 0, none⟩)] W fun e W' => (∃ v, e = .returned v) ∧
   ((∃ ys, ys = (zl ops).reverse ∧ J ys W') ∨ (∃ pre, pre <+: (zl ops).reverse ∧ Jx pre W')) := by
 have hzm : (zl ops).length = m := by rw [zl_len, hm]
 have HZ := Lib.hid hzm
 have HM := Lib.hid hm
 have hw1 : IntKind.i64.wrap ((m : Int) - 1) = (m : Int) - 1 := IntWalk.i64_in _ (by omega)
 clear hzm hm
 refine callsIn_of_wp Tryz.func107 rfl hf ?_ hro
 simp only [Tryz.ntmps107, List.size_toArray, List.length_cons, List.length_nil, Nat.reduceAdd, Nat.reduceSub, Array.replicate_succ, Array.replicate_zero, List.push_toArray, List.append_toArray, List.nil_append, List.cons_append]
 gi_wp2
 gi_loopw [3] (fun iv wr => ∃ k : Nat, iv = .int .i64 ((k : Int) - 1) ∧ k ≤ m ∧ J ((zl ops).drop k).reverse wr ∧ Below n₀ W wr) (fun iv _ => (intOf iv + 1).toNat)
 case atStart => exact ⟨m, rfl, Nat.le_refl _, by rw [List.drop_of_length_le (by rw [HZ.out]; exact Nat.le_refl _)]; exact h0, Below.refl _ _⟩
 case round =>
  obtain ⟨k, rfl, hk, hJs, hnx⟩ := hrel
  cases k with
  | zero =>
   have hd2 : decide ((0 : Int) ≤ ((0 : Nat) : Int) - 1) = false := by decide
   gi_wp2
   go_end0
   exact ⟨⟨_, rfl⟩, .inl ⟨_, rfl, hJs⟩⟩
  | succ k =>
   obtain ⟨y, hy⟩ : ∃ y, ops[k]? = some y := ⟨_, List.getElem?_eq_getElem (by rw [HM.out]; omega)⟩
   obtain ⟨b, off, rfl, hb, -, hP⟩ := row_op hg hy
   obtain ⟨p0, p1, p2, p3⟩ := hP.belowB hnx hb
   have HTT := Lib.hid (zl_drop hy)
   have HPX := Lib.hid (zl_prefix ops k)
   obtain ⟨yw, yk, yv, yn⟩ := y
   dsimp only at p0 p1 p2 p3
   have e1 : ((k + 1 : Nat) : Int) - 1 = (k : Int) := by omega
   rw [e1]
   have hk0 : (0 : Int) ≤ (k : Int) := Int.natCast_nonneg _
   have hkm : (k : Int) < (m : Int) := by omega
   have hwk : IntKind.i64.wrap ((k : Int) - 1) = (k : Int) - 1 := IntWalk.i64_in _ (by omega)
   have hBr := (hnx.cell (p := ⟨Bn, 0, none⟩) hlt0).trans hBn
   have hlen : ((zl ops).drop (k + 1)).reverse.length < 1000001 := by
    rw [List.length_reverse, List.length_drop, HZ.out]
    omega
   obtain ⟨fn, tmps, assign, body, hyy, hR⟩ := hY _ (k, ⟨yw, yk, yv, yn⟩) _ hJs hlen
   dsimp only [bkC] at hyy hR
   clear hP hy e1
   gi_wp2
   refine hR.mono ?_
   rintro e W3 (⟨rfl, hJ4, hk4⟩ | ⟨rfl, hJx4⟩)
   ·gi_wp2
    go_roundw
    case rel => exact ⟨k, rfl, by omega, by rw [HTT.out]; exact hJ4, hnx.trans hk4⟩
    case measure => simp [intOf]
   ·gi_wp2
    refine bodyPost_ret (results_none rfl _ _ _) rfl ?_
    exact ⟨⟨_, rfl⟩, .inr ⟨_, by rw [← HTT.out]; exact HPX.out, hJx4⟩⟩
set_option maxHeartbeats 1000000 in
theorem back_in (F : Fence) (n : Nat) (hf : F.fn 81) (hro : F.round = none) (A : Option Addr) (m c : Nat) (w : World) :
  CallsIn F n Tryz.prog 81 #[.slice A m c] w fun e w' => e = .returned (.func (.func 107) #[] #[.pointer (some ⟨w.heap.size, 0, none⟩)]) ∧ w' = w.alloc (.cells #[.slice A m c] 44) := by
 refine callsIn_of_wp Tryz.func81 rfl hf ?_ hro
 simp only [Tryz.ntmps81, List.size_toArray, List.length_cons, List.length_nil, Nat.reduceAdd, Nat.reduceSub, Array.replicate_succ, Array.replicate_zero, List.push_toArray, List.append_toArray, List.nil_append, List.cons_append]
 gi_wp2
 go_ret
 exact ⟨rfl, rfl⟩
theorem back_stops (F : Fence) (n : Nat) (hf : F.fn 107) (hro : F.round = none) (hn : 1 ≤ n) (Bn n₀ : Nat) (A : Option Addr) (m c : Nat) (ops : List Op4) (w : World) (hBn : Bn < w.heap.size) (hn₀ : n₀ ≤ w.heap.size) (hlt0 : Bn < n₀)
  (hc : w.cell? ⟨Bn, 0, none⟩ = some (.slice A m c)) (hg : Row w n₀ A (opC ops)) (hm : ops.length = m) (hM : m ≤ 1000) :
  SeqStopsK F n Tryz.prog 107 #[.pointer (some ⟨Bn, 0, none⟩)] bkC (Below n₀) (fun ys => ys = (zl ops).reverse) (fun pre => pre <+: (zl ops).reverse) 1000001 w := fun l J Jx W hW hJ _ hY h0 =>
 back1_in F n hf hro hn l Bn n₀ A m c ops J Jx W (Nat.le_trans hn₀ hW.size) hm hM hJ hY hlt0 ((hW.cell (p := ⟨Bn, 0, none⟩) hBn).trans hc) (hg.only (Only.of_below hW []) (fun _ h => by cases h)) h0
theorem results_cc {fn : Func} {p u : Tmp} {ty tu : TypeId} (h : fn.results = #[.cell p ty, .cell u tu]) (tmps : Array Value) (w : World) (g gu : Nat) (t : TypeId) (cs : Array Value) (d : TypeDesc) (vu : Value)
  (hp : tmps.getD p undef = .pointer (some ⟨g, 0, none⟩)) (hg : Blk w g t cs) (hu : Tryz.prog.underlying ty = some d) (hd : d.isRow = true) (hi : (Tryz.prog.info? ty).map (·.size) = some cs.size)
  (hpu : tmps.getD u undef = .pointer (some ⟨gu, 0, none⟩)) (hcu : (loadVar tu ⟨gu, 0, none⟩).run Tryz.prog w = .ok vu w) :
  (results fn tmps).run Tryz.prog w = .ok (.tuple #[.agg cs, vu]) w := by
 have hp' : tmps[p]?.getD undef = .pointer (some ⟨g, 0, none⟩) := by simpa using hp
 have hpu' : tmps[u]?.getD undef = .pointer (some ⟨gu, 0, none⟩) := by simpa using hpu
 have hl := run_loadVar_row (P := Tryz.prog) w g t ty cs (0, 0) d hg hu (by cases d <;> simp_all) hi
 simp only [results, h]
 simp [Sem.run_bind, Result.andThen, hp', hpu', asAddr, hl, hcu]
theorem load_bool {w : World} {g : Nat} {b : Bool} (h : Boxed w g 4 (.bool b)) : (loadVar 4 ⟨g, 0, none⟩).run Tryz.prog w = .ok (.bool b) w := by
 have hc := h.cell
 simp [go_sem, hc]
set_option maxRecDepth 100000 in
set_option maxHeartbeats 4000000 in
theorem left_in (F : Fence) (n : Nat) (hf0 : F.fn 49) (hf1 : F.fn 81) (hf2 : F.fn 107) (hro : F.round = none) (hn : 4 ≤ n) (A : Option Addr) (m c : Nat) (ops : List Op4) (key : Int) (w : World)
  (hg : Row w w.heap.size A (opC ops)) (hm : ops.length = m) (hM : m ≤ 1000) :
  CallsIn F n Tryz.prog 49 #[.slice A m c, .int .i64 key] w fun e W' => e = .returned (optT (leftW key ops)) ∧ Below w.heap.size w W' := by
 have h1 : 1 ≤ n := by omega
 refine callsIn_of_wp_marks Tryz.func49 rfl hf0 ?_ hro
 simp only [Tryz.ntmps49, List.size_toArray, List.length_cons, List.length_nil, Nat.reduceAdd, Nat.reduceSub, Array.replicate_succ, Array.replicate_zero, List.push_toArray, List.append_toArray, List.nil_append, List.cons_append]
 gi_wp2_with (gi_at_call 81; refine (back_in F (n - 1) hf1 hro _ _ _ _).mono ?_; rintro e w' ⟨rfl, rfl⟩)
 have bK := (((Boxed.new w 3 (.int .i64 key)).alloc (.cells #[.int .i64 0, .int .i64 0] 38)).alloc (.cells #[.bool false] 4)).alloc (.cells #[.slice A m c] 44)
 have bV := ((Blk.made (w.alloc (.cells #[.int .i64 key] 3)) 38 #[.int .i64 0, .int .i64 0]).alloc (.cells #[.bool false] 4)).alloc (.cells #[.slice A m c] 44)
 have bB := (Boxed.new ((w.alloc (.cells #[.int .i64 key] 3)).alloc (.cells #[.int .i64 0, .int .i64 0] 38)) 4 (.bool false)).alloc (.cells #[.slice A m c] 44)
 have bS := Boxed.new (((w.alloc (.cells #[.int .i64 key] 3)).alloc (.cells #[.int .i64 0, .int .i64 0] 38)).alloc (.cells #[.bool false] 4)) 44 (.slice A m c)
 simp only [World.size_alloc] at bV bB bS
 have hB0 : Below w.heap.size w ((((w.alloc (.cells #[.int .i64 key] 3)).alloc (.cells #[.int .i64 0, .int .i64 0] 38)).alloc (.cells #[.bool false] 4)).alloc (.cells #[.slice A m c] 44)) := ((((Below.refl _ w).alloc (Nat.le_refl _) _).alloc (by simp) _).alloc (by simp; omega) _).alloc (by simp; omega) _
 have hsz : ((((w.alloc (.cells #[.int .i64 key] 3)).alloc (.cells #[.int .i64 0, .int .i64 0] 38)).alloc (.cells #[.bool false] 4)).alloc (.cells #[.slice A m c] 44)).heap.size = w.heap.size + 4 := by simp
 obtain ⟨W0, hW0⟩ : ∃ W0, ((((w.alloc (.cells #[.int .i64 key] 3)).alloc (.cells #[.int .i64 0, .int .i64 0] 38)).alloc (.cells #[.bool false] 4)).alloc (.cells #[.slice A m c] 44)) = W0 := ⟨_, rfl⟩
 rw [hW0] at bK bV bB bS hB0 hsz ⊢
 clear hW0
 have hg0 : Row W0 W0.heap.size A (opC ops) := row_up (hg.only (Only.of_below hB0 []) (fun _ h => by cases h))
 refine wpIn_rangeFunc_ownH hro h1 (gf := 107) (lb := #[.pointer (some ⟨w.heap.size + 1 + 1 + 1, 0, none⟩)]) rfl hf2 (enters_of Tryz.func107 (by kernel_rfl) rfl)
  (back_stops F (n - 1) hf2 hro (by omega) (w.heap.size + 1 + 1 + 1) W0.heap.size A m c ops W0 (by omega) (Nat.le_refl _) (by omega) bS.cell hg0 hm hM) belowK_t (belowK_b (by omega)) (Below.refl _ _) (fun _ => rfl)
  (fun pre W => (((((∀ y ∈ pre, hitO key y.2 = false) ∧ Boxed W w.heap.size 3 (.int .i64 key)) ∧ Blk W (w.heap.size + 1) 38 #[.int .i64 0, .int .i64 0]) ∧ Boxed W (w.heap.size + 1 + 1) 4 (.bool false)) ∧ Below w.heap.size w W) ∧ W0.heap.size ≤ W.heap.size)
  (fun c pre W => (((c = .ret ∧ HitAt key pre) ∧ Blk W (w.heap.size + 1) 38 #[.int .i64 (lastO pre).vk, .int .i64 (lastO pre).vn]) ∧ Boxed W (w.heap.size + 1 + 1) 4 (.bool true)) ∧ Below w.heap.size w W)
  (OwnFrom.and (OwnFrom.and (OwnFrom.and (OwnFrom.and (OwnFrom.and (ownFrom_pure _ _) (Own.from (boxed_own _ _ _) _)) (Own.from (blk_own _ _ (fun _ => _)) _)) (Own.from (boxed_own _ _ _) _)) (ownFrom_below (Nat.le_refl _) (by omega))) (fun s X Y row hs hg hr => Nat.le_trans hs hg.size))
  (fun c => OwnFrom.and (OwnFrom.and (OwnFrom.and (ownFrom_pure _ _) (Own.from (blk_own _ _ (fun pre => #[.int .i64 (lastO pre).vk, .int .i64 (lastO pre).vn])) _)) (Own.from (boxed_own _ _ _) _)) (ownFrom_below (Nat.le_refl _) (by omega)))
  ⟨⟨⟨⟨⟨by simp, bK⟩, bV⟩, bB⟩, hB0⟩, Nat.le_refl _⟩
  (fun x a' W => ∃ Bx, W0.heap.size ≤ Bx ∧ Blk W Bx 48 #[.bool x.2.wr, .int .i64 x.2.key, .int .i64 x.2.vk, .int .i64 x.2.vn] ∧
   a' = { tmps := #[.slice A m c, .int .i64 key, undef, .pointer (some ⟨w.heap.size, 0, none⟩), .pointer (some ⟨w.heap.size + 1, 0, none⟩), .pointer (some ⟨w.heap.size + 1 + 1, 0, none⟩), undef, .pointer (some ⟨Bx, 0, none⟩), .slice A m c, .func (.func 107) #[] #[.pointer (some ⟨w.heap.size + 1 + 1 + 1, 0, none⟩)], .int .i64 (x.1 : Int), .agg #[.bool x.2.wr, .int .i64 x.2.key, .int .i64 x.2.vk, .int .i64 x.2.vn], undef, undef, undef, undef, undef, undef, undef, undef, undef, undef, undef], defers := [] })
  (fun x a' _ X Y row hs hg hr => by
   obtain ⟨Bx, h0, b1, e⟩ := hs
   exact ⟨Bx, h0, blk_own Bx _ (fun (_ : Unit) => _) () X Y row b1 hg (fun r e => (hr r e).2), e⟩)
  ?assign ?body ?done ?stop
 case assign =>
  rintro l pre x W K ⟨⟨⟨⟨⟨hp, bK⟩, bV⟩, bB⟩, hB1⟩, hsW⟩ hK
  unfold bkC
  gi_wp2
  refine hK _ _ ((KeepsOthers.alloc _ _).from _) ((Below.refl _ W).alloc hsW _) ⟨⟨⟨⟨⟨hp, bK.alloc _⟩, bV.alloc _⟩, bB.alloc _⟩, hB1.alloc hB1.size _⟩, by simp; omega⟩
   ⟨W.heap.size, hsW, Blk.made W _ _, rfl⟩
 case body =>
  rintro l pre ⟨xi, ⟨yw, yk, yv, yn⟩⟩ a' W hl ⟨r, hr⟩ ⟨⟨⟨⟨⟨hp, bK⟩, bV⟩, bB⟩, hB⟩, hsW⟩ ⟨Bx, hBx, bO, rfl⟩ hlt
  have hcK := bK.cell
  have hcB := bB.cell
  have hfB := bB.frozen
  dsimp only at bO
  have o0 := bO.at_ 0
  have o1 := bO.at_ 1
  have o2 := bO.at_ 2
  have o3 := bO.at_ 3
  have v0 := bV.at_ 0
  have v1 := bV.at_ 1
  have lO := bO.lt
  have lV := bV.lt
  have f0 := bV.free 0
  have f1 := bV.free 1
  simp at o0 o1 o2 o3 v0 v1
  cases yw with
  | false =>
   gi_wp2
   exact ⟨KeepsFrom.refl _ _, Below.refl _ _, ⟨⟨⟨⟨⟨fun y hy => (List.mem_append.1 hy).elim (hp y) (fun e => by simp at e; subst e; rfl), bK⟩, bV⟩, bB⟩, hB⟩, hsW⟩⟩
  | true =>
   by_cases hk : yk = key
   ·subst hk
    gi_wp2
    have q1 : w.heap.size + 1 ≠ w.heap.size + 1 + 1 := by omega
    refine ⟨(((KeepsOthers.setCell _ _ _).trans (KeepsOthers.setCell _ _ _)).trans (KeepsOthers.setCell _ _ _)).from _, ⟨⟨⟨rfl, ⟨pre, _, rfl, hp, by simp [hitO]⟩⟩, ?_⟩, ?_⟩, ((hB.setCell (p := ⟨w.heap.size + 1, 0, none⟩) (by simp) _).setCell (p := ⟨w.heap.size + 1, 1, none⟩) (by simp) _).setCell (p := ⟨w.heap.size + 1 + 1, 0, none⟩) (by simp; omega) _⟩
    ·rw [lastO_snoc]
     have := ((bV.put 0 (.int .i64 yv)).put 1 (.int .i64 yn)).far (p := ⟨w.heap.size + 1 + 1, 0, none⟩) q1 (.bool true)
     simpa using this
    ·exact Boxed.set (.bool true) (Blk.far (Blk.far bB (p := ⟨w.heap.size + 1, 0, none⟩) (Ne.symm q1) _) (p := ⟨w.heap.size + 1, 1, none⟩) (Ne.symm q1) _)
   ·have hk1 : (yk == key) = false := by simpa using hk
    gi_wp2
    exact ⟨KeepsFrom.refl _ _, Below.refl _ _, ⟨⟨⟨⟨⟨fun y hy => (List.mem_append.1 hy).elim (hp y) (fun e => by simp at e; subst e; unfold hitO; simp [hk]), bK⟩, bV⟩, bB⟩, hB⟩, hsW⟩⟩
 case done =>
  rintro D ys W hD rfl ⟨⟨⟨⟨⟨hp, bK⟩, bV⟩, bB⟩, hB⟩, hsW⟩ hK
  have v0 := bV.at_ 0
  have v1 := bV.at_ 1
  have lV := bV.lt
  have hcB := bB.cell
  have hfB := bB.frozen
  have f0 := bV.free 0
  have f1 := bV.free 1
  simp at v0 v1
  have q1 : w.heap.size + 1 ≠ w.heap.size + 1 + 1 := by omega
  gi_wp2
  have hB3 := ((hB.setCell (p := ⟨w.heap.size + 1, 0, none⟩) (by simp) (.int .i64 0)).setCell (p := ⟨w.heap.size + 1, 1, none⟩) (by simp) (.int .i64 0)).setCell (p := ⟨w.heap.size + 1 + 1, 0, none⟩) (by simp; omega) (.bool false)
  have bV3 : Blk (((W.setCell ⟨w.heap.size + 1, 0, none⟩ (.int .i64 0)).setCell ⟨w.heap.size + 1, 1, none⟩ (.int .i64 0)).setCell ⟨w.heap.size + 1 + 1, 0, none⟩ (.bool false)) (w.heap.size + 1) 38 #[.int .i64 0, .int .i64 0] := by
   have := ((bV.put 0 (.int .i64 0)).put 1 (.int .i64 0)).far (p := ⟨w.heap.size + 1 + 1, 0, none⟩) q1 (.bool false)
   simpa using this
  have bB3 : Boxed (((W.setCell ⟨w.heap.size + 1, 0, none⟩ (.int .i64 0)).setCell ⟨w.heap.size + 1, 1, none⟩ (.int .i64 0)).setCell ⟨w.heap.size + 1 + 1, 0, none⟩ (.bool false)) (w.heap.size + 1 + 1) 4 (.bool false) :=
   Boxed.set (.bool false) (Blk.far (Blk.far bB (p := ⟨w.heap.size + 1, 0, none⟩) (Ne.symm q1) _) (p := ⟨w.heap.size + 1, 1, none⟩) (Ne.symm q1) _)
  have hK3 := (((KeepsOthers.setCell W ⟨w.heap.size + 1, 0, none⟩ (.int .i64 0)).trans (KeepsOthers.setCell _ ⟨w.heap.size + 1, 1, none⟩ (.int .i64 0))).trans (KeepsOthers.setCell _ ⟨w.heap.size + 1 + 1, 0, none⟩ (.bool false))).same D _ hK rfl
  generalize (((W.setCell ⟨w.heap.size + 1, 0, none⟩ (.int .i64 0)).setCell ⟨w.heap.size + 1, 1, none⟩ (.int .i64 0)).setCell ⟨w.heap.size + 1 + 1, 0, none⟩ (.bool false)) = W3 at *
  refine ⟨by simp, .inl ⟨_, _, rfl, run_takeDeferred hK3, ?_⟩⟩
  refine ⟨_, results_cc rfl _ _ (w.heap.size + 1) (w.heap.size + 1 + 1) 38 #[.int .i64 0, .int .i64 0] _ (.bool false) rfl ((blk_own _ _ (fun (_ : Unit) => _)).putObj (s := ()) (.deferred none) bV3 hK3 rfl) Tryz.underlying38 rfl (by kernel_rfl) rfl (load_bool ((boxed_own _ _ (fun (_ : Unit) => _)).putObj (s := ()) (.deferred none) bB3 hK3 rfl)), ?_, hB3.trans (belowK_b (w := w) (Nat.le_refl _) W3 D _ _ (by omega) hK3 rfl rfl)⟩
  rw [noHit_left hp]
  rfl
 case stop =>
  rintro D c pre W hD hpre ⟨⟨⟨⟨rfl, hh⟩, bV⟩, bB⟩, hB⟩ hK
  have hle := hitAt_left hpre hh
  generalize (lastO pre).vk = vk at *
  generalize (lastO pre).vn = vn at *
  gi_wp2
  refine ⟨by simp, .inl ⟨_, _, rfl, run_takeDeferred hK, ?_⟩⟩
  refine ⟨_, results_cc rfl _ _ (w.heap.size + 1) (w.heap.size + 1 + 1) 38 #[.int .i64 vk, .int .i64 vn] _ (.bool true) rfl ((blk_own _ _ (fun (_ : Unit) => _)).putObj (s := ()) (.deferred none) bV hK rfl) Tryz.underlying38 rfl (by kernel_rfl) rfl (load_bool ((boxed_own _ _ (fun (_ : Unit) => _)).putObj (s := ()) (.deferred none) bB hK rfl)), ?_, hB.trans (belowK_b (w := w) (Nat.le_refl _) W D _ _ (by omega) hK rfl rfl)⟩
  rw [hle]
  rfl
theorem left_any (A : Option Addr) (m c B : Nat) (ops : List Op4) (key : Int) (w : World) (hg : Row w B A (opC ops)) (hm : ops.length = m) (hM : m ≤ 1000) :
  Calls Tryz.prog 49 #[.slice A m c, .int .i64 key] w fun e W' => e = .returned (optT (leftW key ops)) ∧ Only [] w W' :=
 (callsIn_wide.1 (left_in Fence.wide 6 trivial trivial trivial rfl (by omega) A m c ops key w (row_up hg) hm hM)).mono fun e W' ⟨he, hb⟩ => ⟨he, Only.of_below hb []⟩
end Go.Proofs.YtjfbeeogiejopaaGreatDoor

set_option linter.unusedVariables false
set_option linter.unusedSimpArgs false
namespace Go.Proofs.YtjfbeeogiejopaaGreatDoor
open Go.RowKit
open Go.Lib hiding intOf
attribute [local go_sem ↓] Go.wp_at_zero Go.wp_at_succ
theorem errH_yes {h : Hst} (hm : mayH h = true) : errH h = 0 := by unfold errH; rw [hm]; rfl
theorem errH_not {h : Hst} (hm : mayH h = false) : errH h = 4 := by unfold errH; rw [hm]; rfl
end Go.Proofs.YtjfbeeogiejopaaGreatDoor

set_option linter.unusedVariables false
set_option linter.unusedSimpArgs false
namespace Go.Proofs.YtjfbeeogiejopaaGreatDoor
open Go.RowKit
open Go.Lib hiding intOf
attribute [local go_sem ↓] Go.wp_at_zero Go.wp_at_succ
theorem forT_own {a key : Int} {i : Nat} {t : Tx} (h : (i : Int) = a) : forT a key i t = none := by unfold forT; rw [if_pos (.inl h)]
theorem forT_fail {a key : Int} {i : Nat} {t : Tx} (h : t.f = 2) : forT a key i t = none := by unfold forT; rw [if_pos (.inr h)]
theorem forT_left {a key : Int} {i : Nat} {t : Tx} (h : (i : Int) ≠ a) (h2 : t.f ≠ 2) : forT a key i t = leftW key t.ops := by unfold forT; rw [if_neg (fun e => e.elim h h2)]
set_option maxRecDepth 10000 in
set_option maxHeartbeats 4000000 in
theorem kforread_any (A0 A1 A2 : Option Addr) (n0 n1 n2 c0 c1 c2 B : Nat) (h : Hst) (a b key : Int) (i : Nat) (t : Tx) (w : World) (hg : HIn w B A0 A1 A2 n0 n1 n2 h) (ht : h.l[i]? = some t) :
  Calls Tryz.prog 40 #[hval A0 A1 A2 n0 n1 n2 c0 c1 c2, .agg #[.int .i64 a, .int .i64 b], .int .i64 (i : Int), .int .i64 key] w fun e w' => e = .returned (optT (forT a key i t)) ∧ Only [] w w' := by
 obtain ⟨bl, off, A', cp, rfl, -, hbw, hT, hX⟩ := hg.at_.r2.at_ ht
 have hno := hg.sm.no t (List.mem_of_getElem? ht)
 have hi2 : i < n2 := by rw [← hg.n2]; exact (List.getElem?_eq_some_iff.1 ht).1
 have HLF := Lib.hid (fun w' (O : Only [] w w') => left_any A' _ cp B t.ops key w' (hX.row.only O (by simp)) rfl hno)
 unfold hval
 clear hg ht hX
 have HO1 := Lib.hid ((((Only.refl [] w).alloc (.cells #[.slice A0 n0 c0, .slice A1 n1 c1, .slice (some ⟨bl, off, none⟩) n2 c2] 25)).alloc (.cells #[.int .i64 a, .int .i64 b] 27)).alloc (.cells #[.int .i64 0, .int .i64 0] 38))
 have HB1 := Lib.hid (((Blk.made w 25 #[.slice A0 n0 c0, .slice A1 n1 c1, .slice (some ⟨bl, off, none⟩) n2 c2]).alloc (.cells #[.int .i64 a, .int .i64 b] 27)).alloc (.cells #[.int .i64 0, .int .i64 0] 38))
 have HP1 := Lib.hid ((Blk.made (w.alloc (.cells #[.slice A0 n0 c0, .slice A1 n1 c1, .slice (some ⟨bl, off, none⟩) n2 c2] 25)) 27 #[.int .i64 a, .int .i64 b]).alloc (.cells #[.int .i64 0, .int .i64 0] 38))
 have HR1 := Lib.hid (Blk.made ((w.alloc (.cells #[.slice A0 n0 c0, .slice A1 n1 c1, .slice (some ⟨bl, off, none⟩) n2 c2] 25)).alloc (.cells #[.int .i64 a, .int .i64 b] 27)) 38 #[.int .i64 0, .int .i64 0])
 simp only [World.size_alloc] at HP1 HR1
 have HTX := Lib.hid (hT.only HO1.out hbw (by simp))
 have hi0 : (0 : Int) ≤ (i : Int) := Int.natCast_nonneg _
 have hi2' : (i : Int) < (n2 : Int) := by omega
 clear hT
 go_enter Tryz.func40, Tryz.ntmps40
 go_upto_region 1 with (fail)
 have hsz := HO1.out.size
 generalize (((w.alloc (.cells #[.slice A0 n0 c0, .slice A1 n1 c1, .slice (some ⟨bl, off, none⟩) n2 c2] 25)).alloc (.cells #[.int .i64 a, .int .i64 b] 27)).alloc (.cells #[.int .i64 0, .int .i64 0] 38)) = w1 at *
 generalize hgr : w.heap.size + 1 + 1 = gr at *
 generalize hgp : w.heap.size + 1 = gp at *
 generalize hgg : w.heap.size = g at *
 have hbr : bl < w1.heap.size := by omega
 have lB := HB1.out.lt
 have y2 := HB1.out.at_ 2
 have lP := HP1.out.lt
 have p0 := HP1.out.at_ 0
 simp at y2 p0
 have x1 := HTX.out.c1
 have x2 := HTX.out.c2
 dsimp only at x1 x2
 by_cases q1 : (i : Int) = a
 ·have HE := Lib.hid (forT_own (key := key) (t := t) q1)
  have d1 : ((i : Int) == a) = true := by simpa using q1
  clear q1
  go_wp2_with (refine wpList_store_blk rfl 38 (.tmp 8) (.tmp 23) rfl gr 38 _ #[.int .i64 0, .int .i64 0] rfl rfl HR1.out rfl (by kernel_rfl) (by kernel_rfl) ?_; intro w9 b9 o9; have HB9 := Lib.hid b9; have HN9 := Lib.hid o9; clear b9 o9)
  refine bodyPost_ret (results_row2 Tryz.results40 _ _ gr 38 #[.int .i64 0, .int .i64 0] _ rfl HB9.out Tryz.underlying38 rfl (by kernel_rfl)) rfl ?_
  exact ⟨by rw [HE.out]; rfl, HO1.out.step HN9.out (fun i hi hl => by simp at hi; omega)⟩
 ·have d1 : ((i : Int) == a) = false := by simpa using q1
  by_cases q2 : t.f = 2
  ·have HE := Lib.hid (forT_fail (a := a) (key := key) (i := i) q2)
   have d2 : (t.f == 2) = true := by simpa using q2
   generalize htf : t.f = tf at *
   clear q1 q2
   go_wp2_with (refine wpList_store_blk rfl 38 (.tmp 8) (.tmp 23) rfl gr 38 _ #[.int .i64 0, .int .i64 0] rfl rfl HR1.out rfl (by kernel_rfl) (by kernel_rfl) ?_; intro w9 b9 o9; have HB9 := Lib.hid b9; have HN9 := Lib.hid o9; clear b9 o9)
   refine bodyPost_ret (results_row2 Tryz.results40 _ _ gr 38 #[.int .i64 0, .int .i64 0] _ rfl HB9.out Tryz.underlying38 rfl (by kernel_rfl)) rfl ?_
   exact ⟨by rw [HE.out]; rfl, HO1.out.step HN9.out (fun i hi hl => by simp at hi; omega)⟩
  ·have HE := Lib.hid (forT_left (key := key) q1 q2)
   have d2 : (t.f == 2) = false := by simpa using q2
   have HF := Lib.hid (HLF.out _ HO1.out)
   generalize leftW key t.ops = v at *
   generalize htf : t.f = tf at *
   generalize t.ops.length = m at *
   clear q1 q2
   go_wp2_with fail
   refine (HF.out).mono ?_
   rintro e w3 ⟨rfl, O3⟩
   have HO3 := Lib.hid (HO1.out.trans O3)
   have HR3 := Lib.hid (O3.blk HR1.out (by simp))
   unfold optT optV
   clear O3
   go_wp2_with (refine wpList_store_blk rfl 38 (.tmp 8) (.tmp 32) rfl gr 38 _ #[.int .i64 (v.getD (0, 0)).1, .int .i64 (v.getD (0, 0)).2] rfl rfl HR3.out rfl (by kernel_rfl) (by kernel_rfl) ?_; intro w9 b9 o9; have HB9 := Lib.hid b9; have HN9 := Lib.hid o9; clear b9 o9)
   refine bodyPost_ret (results_row2 Tryz.results40 _ _ gr 38 #[.int .i64 (v.getD (0, 0)).1, .int .i64 (v.getD (0, 0)).2] _ rfl HB9.out Tryz.underlying38 rfl (by kernel_rfl)) rfl ?_
   exact ⟨by rw [HE.out]; rfl, HO3.out.step HN9.out (fun i hi hl => by simp at hi; omega)⟩
end Go.Proofs.YtjfbeeogiejopaaGreatDoor
