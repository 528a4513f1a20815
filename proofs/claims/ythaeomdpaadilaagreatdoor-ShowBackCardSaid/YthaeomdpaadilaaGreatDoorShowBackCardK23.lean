/- A history that came in by value, with the bounds of its numbers. A history that is not too great: the law's Few, and that it is one of its own. The bounds of a history's events. The package show: the closure that adds an event. Rows of the call's own, apart by their types; below a base. -/
import Derived.Test.YthaeomdpaadilaaGreatDoorShowBackCardK22
import Derived.Test.YthaeomdpaadilaaGreatDoorShowBackCardK2
import Derived.Test.YthaeomdpaadilaaGreatDoorShowBackCardK10
import Derived.Test.YthaeomdpaadilaaGreatDoorShowBackCardK11
set_option linter.unusedVariables false
set_option linter.unusedSimpArgs false
namespace Go.Proofs.YthaeomdpaadilaaGreatDoor
open Go.RowKit Go.ChangeShapes Go.WideShapes Go.ChangeAt Go.Joins Go.Deep

/-- The number of an op is one of 64 bits. -/
def OpI (y : Op4) : Prop := -9223372036854775808 ≤ y.vn ∧ y.vn ≤ 9223372036854775807
section
variable {H : Type} {enc : TypeId × Value → H} {P : Program} {w : World}
theorem op_cells2 {fuel : Nat} {t ti tb tv tj : TypeId} {f0 f1 f2 g0 g1 : Field} {cs : List Value} {x : DataW H × List MemPlace}
    (hs : P.underlying t = some (.struct #[f0, f1, f2])) (hvs : P.underlying tv = some (.struct #[g0, g1])) (hC : P.cellsOf t = 4)
    (hb : P.underlying tb = some .bool) (hi : P.underlying ti = some (.int .i64)) (hj : P.underlying tj = some (.int .i64)) (cb : P.cellsOf tb = 1) (ci : P.cellsOf ti = 1) (cj : P.cellsOf tj = 1) (cv : P.cellsOf tv = 2)
    (e0 : f0.type = tb ∧ f0.offset = 0) (e1 : f1.type = ti ∧ f1.offset = 1) (e2 : f2.type = tv ∧ f2.offset = 2) (q0 : g0.type = ti ∧ g0.offset = 0) (q1 : g1.type = tj ∧ g1.offset = 1)
    (h : DataW.trod enc P w 0 (fun _ => true) true fuel t cs = some x) : ∃ y : Op4, OpI y ∧ cs = y.c := by
  obtain ⟨xs, n, _, rfl, hl, hlen, hf⟩ := DataW.trod_struct hs h
  rw [hC] at hl
  match cs, hl with
  | [c0, c1, c2, c3], _ =>
    have h0 := hf 0 f0 rfl
    have h1 := hf 1 f1 rfl
    have h2 := hf 2 f2 rfl
    rw [e0.1, e0.2, cb] at h0
    rw [e1.1, e1.2, ci] at h1
    rw [e2.1, e2.2, cv] at h2
    match xs, hlen with
    | [y0, y1, y2], _ =>
      obtain ⟨b, a0, -⟩ := DataW.trod_bool hb (by simpa using h0)
      obtain ⟨k, a1, -, wk⟩ := DataW.trod_int hi (by simpa using h1)
      obtain ⟨z0, z1, m, -, -, g3, g4⟩ := trod_struct2 hvs (by simpa using h2)
      rw [q0.1, q0.2, ci] at g3
      rw [q1.1, q1.2, cj] at g4
      obtain ⟨vk, a3, -, wvk⟩ := DataW.trod_int hi (by simpa using g3)
      obtain ⟨vn, a4, -, wvn⟩ := DataW.trod_int hj (by simpa using g4)
      simp at a0 a1 a3 a4
      subst a0 a1 a3 a4
      exact ⟨⟨b, k, vk, vn⟩, bd_i64 wvn, rfl⟩

theorem txn_cells2 {fuel : Nat} {t ti tl : TypeId} {f0 f1 f2 : Field} {cs : List Value} {x : DataW H × List MemPlace}
    (hs : P.underlying t = some (.struct #[f0, f1, f2])) (hC : P.cellsOf t = 3) (hi : P.underlying ti = some (.int .i64)) (ci : P.cellsOf ti = 1) (cl : P.cellsOf tl = 1)
    (e0 : f0.type = ti ∧ f0.offset = 0) (e1 : f1.type = ti ∧ f1.offset = 1) (e2 : f2.type = tl ∧ f2.offset = 2)
    (ops : ∀ fuel' cs' x', DataW.trod enc P w 0 (fun _ => true) true fuel' tl cs' = some x' → ∃ (A : Option Addr) (n c : Nat) (l : List Op4), cs' = [.slice A n c] ∧ n ≤ c ∧ c ≤ maxLen ∧ l.length = n ∧ (∀ y ∈ l, OpI y) ∧ Row w w.heap.size A (l.flatMap Op4.c))
    (h : DataW.trod enc P w 0 (fun _ => true) true fuel t cs = some x) : ∃ y : TxA, (TxOk w w.heap.size y ∧ ∀ x ∈ y.t.ops, OpI x) ∧ cs = y.c := by
  obtain ⟨xs, n, _, rfl, hl, hlen, hf⟩ := DataW.trod_struct hs h
  rw [hC] at hl
  match cs, hl with
  | [c0, c1, c2], _ =>
    have h0 := hf 0 f0 rfl
    have h1 := hf 1 f1 rfl
    have h2 := hf 2 f2 rfl
    rw [e0.1, e0.2, ci] at h0
    rw [e1.1, e1.2, ci] at h1
    rw [e2.1, e2.2, cl] at h2
    match xs, hlen with
    | [y0, y1, y2], _ =>
      obtain ⟨s, a0, -, -⟩ := DataW.trod_int hi (by simpa using h0)
      obtain ⟨f, a1, -, -⟩ := DataW.trod_int hi (by simpa using h1)
      obtain ⟨A, m, c, l, a2, hle, hcm, hll, hQ, hR⟩ := ops _ _ _ (by simpa using h2)
      simp at a0 a1 a2
      subst a0 a1 a2 hll
      exact ⟨⟨⟨s, f, l⟩, A, c⟩, ⟨⟨hR, hle, hcm⟩, hQ⟩, rfl⟩

/-- A history that came in by value. -/
theorem open_hist2 {r : Reach} {b0 : Nat} {t ts te tt tx ti tl tq tb tv tj : TypeId} {f0 f1 f2 x0 x1 x2 o0 o1 o2 g0 g1 : Field} {v : Value} {d : DataW H} {p : List MemPlace}
    (hs : P.underlying t = some (.struct #[f0, f1, f2])) (hC : P.cellsOf t = 3) (hts : P.underlying ts = some (.slice te)) (hte : P.underlying te = some .string) (cte : P.cellsOf te = 1) (cts : P.cellsOf ts = 1)
    (htt : P.underlying tt = some (.slice tx)) (ctt : P.cellsOf tt = 1) (hx : P.underlying tx = some (.struct #[x0, x1, x2])) (hCx : P.cellsOf tx = 3) (hi : P.underlying ti = some (.int .i64)) (ci : P.cellsOf ti = 1)
    (htl : P.underlying tl = some (.slice tq)) (ctl : P.cellsOf tl = 1) (hos : P.underlying tq = some (.struct #[o0, o1, o2])) (hvs : P.underlying tv = some (.struct #[g0, g1])) (hCo : P.cellsOf tq = 4)
    (hb : P.underlying tb = some .bool) (hj : P.underlying tj = some (.int .i64)) (cb : P.cellsOf tb = 1) (cj : P.cellsOf tj = 1) (cv : P.cellsOf tv = 2)
    (e0 : f0.type = ts ∧ f0.offset = 0) (e1 : f1.type = ts ∧ f1.offset = 1) (e2 : f2.type = tt ∧ f2.offset = 2)
    (k0 : x0.type = ti ∧ x0.offset = 0) (k1 : x1.type = ti ∧ x1.offset = 1) (k2 : x2.type = tl ∧ x2.offset = 2)
    (m0 : o0.type = tb ∧ o0.offset = 0) (m1 : o1.type = ti ∧ o1.offset = 1) (m2 : o2.type = tv ∧ o2.offset = 2) (q0 : g0.type = ti ∧ g0.offset = 0) (q1 : g1.type = tj ∧ g1.offset = 1)
    (hv : Value.okWide P w r b0 t v) (h : DataW.Trod enc P w 0 (fun _ => true) true t v d p) :
    ∃ (A0 A1 A2 : Option Addr) (c0 c1 c2 : Nat) (g : Hst), v = hval A0 A1 A2 g.ss.length g.ks.length g.l.length c0 c1 c2 ∧ HAt w w.heap.size A0 A1 A2 g ∧ g.ss.length ≤ maxLen ∧ g.ks.length ≤ maxLen ∧ g.l.length ≤ maxLen ∧ (∀ z ∈ g.ss, z.size ≤ maxLen) ∧ (∀ z ∈ g.ks, z.size ≤ maxLen) ∧ ∀ t ∈ g.l, ∀ x ∈ t.ops, OpI x := by
  obtain ⟨cs, rfl, hsz⟩ := okWide_struct hs hv
  obtain ⟨fuel, hf0⟩ := h
  have strs1 : ∀ fuel' cs' x', DataW.trod enc P w 0 (fun _ => true) true fuel' te cs' = some x' → ∃ y : ByteArray, y.size ≤ maxLen ∧ cs' = [.string y] := fun fuel' cs' x' h => by
    obtain ⟨s, a, -, ws⟩ := DataW.trod_string hte h
    exact ⟨s, ws, a⟩
  have ops1 := fun fuel' cs' x' (h : DataW.trod enc P w 0 (fun _ => true) true fuel' tl cs' = some x') => row_of Op4.c 4 (fun _ => rfl) (by omega) OpI htl hCo (fun _ _ _ h => op_cells2 hos hvs hCo hb hi hj cb ci cj cv m0 m1 m2 q0 q1 h) h
  obtain ⟨xs, n, _, hxx, hl, hlen, hf⟩ := DataW.trod_struct hs hf0
  rw [hC] at hl
  have hcells : (Value.agg cs).cells.toList = cs.toList := by simp [Value.cells]
  rw [hcells] at hl hf
  match hcs : cs.toList, hl with
  | [c0, c1, c2], _ =>
    rw [hcs] at hf
    have h0 := hf 0 f0 rfl
    have h1 := hf 1 f1 rfl
    have h2 := hf 2 f2 rfl
    rw [e0.1, e0.2, cts] at h0
    rw [e1.1, e1.2, cts] at h1
    rw [e2.1, e2.2, ctt] at h2
    match xs, hlen with
    | [y0, y1, y2], _ =>
      obtain ⟨A0, n0, d0, z0, a0, l0, m0', hn0, hz0, r0⟩ := row_of (fun s : ByteArray => [Value.string s]) 1 (fun _ => rfl) (by omega) (fun s => s.size ≤ maxLen) hts cte strs1 (by simpa using h0)
      obtain ⟨A1, n1, d1, z1, a1, l1, m1', hn1, hz1, r1⟩ := row_of (fun s : ByteArray => [Value.string s]) 1 (fun _ => rfl) (by omega) (fun s => s.size ≤ maxLen) hts cte strs1 (by simpa using h1)
      obtain ⟨A2, n2, d2, z2, a2, l2, m2', hn2, hz2, r2⟩ := row_of TxA.c 3 (fun _ => rfl) (by omega) (fun y => TxOk w w.heap.size y ∧ ∀ x ∈ y.t.ops, OpI x) htt hCx (fun _ _ _ h => txn_cells2 hx hCx hi ci ctl k0 k1 k2 ops1 h) (by simpa using h2)
      simp at a0 a1 a2
      subst a0 a1 a2
      have fs : ∀ l : List ByteArray, l.flatMap (fun s => [Value.string s]) = strs l := fun l => by
        induction l with
        | nil => rfl
        | cons x l ih => rw [List.flatMap_cons, ih]; rfl
      rw [fs] at r0 r1
      refine ⟨A0, A1, A2, d0, d1, d2, ⟨z0, z1, z2.map TxA.t⟩, ?_, ⟨r0, r1, z2, rfl, r2, fun x hx => (hz2 x hx).1⟩, by rw [hn0]; exact Nat.le_trans l0 m0', by rw [hn1]; exact Nat.le_trans l1 m1', by rw [List.length_map, hn2]; exact Nat.le_trans l2 m2', hz0, hz1, fun t ht => by
        obtain ⟨x, hx, rfl⟩ := List.mem_map.1 ht
        exact (hz2 x hx).2⟩
      have e : cs = #[.slice A0 n0 d0, .slice A1 n1 d1, .slice A2 n2 d2] := by
        apply Array.toList_inj.1
        rw [hcs]
      unfold hval
      dsimp only
      rw [e, hn0, hn1, List.length_map, hn2]
end

end Go.Proofs.YthaeomdpaadilaaGreatDoor

set_option linter.unusedVariables false
set_option linter.unusedSimpArgs false
namespace Go.Proofs.YthaeomdpaadilaaGreatDoor
open Go.RowKit
open Go.Lib hiding intOf

def short11 (s : ByteArray) : ByteArray := s.extract 0 (min s.size 100)
theorem short11_size (s : ByteArray) : (short11 s).size ≤ 100 := by
  unfold short11
  rw [ByteArray.size_extract]
  omega
theorem short11_same {s : ByteArray} (h : s.size ≤ 100) : short11 s = s := by
  unfold short11
  rw [Nat.min_eq_left h]
  exact by_inj (by rw [by_extract, List.drop_zero, List.take_of_length_le (by rw [by_length]; exact Nat.le_refl _)])
def fewTx (t : Tx) : Tx := { t with ops := t.ops.take 25 }
def fewH (h : Hst) : Hst := ⟨(h.ss.take 25).map short11, (h.ks.take 45).map short11, (h.l.take 45).map fewTx⟩
theorem few_names (l : List ByteArray) (n : Nat) : (((l.take n).map short11).take n).map short11 = (l.take n).map short11 := by
  rw [List.take_of_length_le (by rw [List.length_map, List.length_take]; omega)]
  conv => rhs; rw [← List.map_id ((l.take n).map short11)]
  refine List.map_congr_left fun z hz => ?_
  obtain ⟨y, -, rfl⟩ := List.mem_map.1 hz
  exact short11_same (short11_size y)
theorem few_few (h : Hst) : fewH (fewH h) = fewH h := by
  unfold fewH
  rw [few_names, few_names]
  congr 1
  dsimp only
  rw [List.take_of_length_le (by rw [List.length_map, List.length_take]; omega)]
  conv => rhs; rw [← List.map_id ((h.l.take 45).map fewTx)]
  refine List.map_congr_left fun z hz => ?_
  obtain ⟨y, -, rfl⟩ := List.mem_map.1 hz
  unfold fewTx
  dsimp only
  rw [List.take_of_length_le (by rw [List.length_take]; omega)]
  rfl
theorem few_small (h : Hst) : HSmall (fewH h) where
  s := fun x hx => by
    obtain ⟨y, -, rfl⟩ := List.mem_map.1 hx
    have := short11_size y
    omega
  k := fun x hx => by
    obtain ⟨y, -, rfl⟩ := List.mem_map.1 hx
    have := short11_size y
    omega
  ns := by unfold fewH; dsimp only; rw [List.length_map, List.length_take]; omega
  nk := by unfold fewH; dsimp only; rw [List.length_map, List.length_take]; omega
  nl := by unfold fewH; dsimp only; rw [List.length_map, List.length_take]; omega
  no := fun t ht => by
    obtain ⟨y, -, rfl⟩ := List.mem_map.1 ht
    unfold fewTx
    dsimp only
    rw [List.length_take]
    omega

end Go.Proofs.YthaeomdpaadilaaGreatDoor

set_option linter.unusedVariables false
set_option linter.unusedSimpArgs false
namespace Go.Proofs.YthaeomdpaadilaaGreatDoor

theorem nth_size {l : List ByteArray} {m : Nat} (h : ∀ z ∈ l, z.size ≤ m) (i : Int) : (nth l i).size ≤ m := by
  unfold nth
  cases hx : l[i.toNat]? with
  | none => exact Nat.zero_le _
  | some z => exact h z (List.mem_of_getElem? hx)
theorem adE_bounds {acc : List Ev6} {k vk vn : Int} {s y : ByteArray} (h : ∀ x ∈ acc, EvB x) (hs : s.size ≤ 2000) (hy : y.size ≤ 2000) (h1 : -9223372036854775808 ≤ vn ∧ vn ≤ 9223372036854775807) : ∀ x ∈ adE acc k s y vk vn, EvB x := by
  intro x hx
  unfold adE at hx
  rcases List.mem_append.1 hx with hx | hx
  · exact h x hx
  · simp only [List.mem_cons, List.not_mem_nil, or_false] at hx
    subst hx
    exact ⟨hs, hy, h1.1, h1.2⟩
theorem adO_bounds {ks : List ByteArray} {s : ByteArray} (hk : ∀ z ∈ ks, z.size ≤ 2000) (hs : s.size ≤ 2000) : ∀ (ops : List Op4) (acc : List Ev6), (∀ x ∈ ops, OpI x) → (∀ x ∈ acc, EvB x) → ∀ x ∈ ops.foldl (addO ks s) acc, EvB x
  | [], acc, _, h => h
  | o :: ops, acc, ho, h => adO_bounds hk hs ops (addO ks s acc o) (fun x hx => ho x (List.mem_cons_of_mem _ hx)) (adE_bounds h hs (nth_size hk _) (ho o (List.mem_cons_self ..)))
theorem adT_bounds {ss ks : List ByteArray} (h1 : ∀ z ∈ ss, z.size ≤ 2000) (hk : ∀ z ∈ ks, z.size ≤ 2000) : ∀ (l : List Tx) (acc : List Ev6), (∀ t ∈ l, ∀ x ∈ t.ops, OpI x) → (∀ x ∈ acc, EvB x) → ∀ x ∈ l.foldl (addT ss ks) acc, EvB x
  | [], acc, _, h => h
  | t :: l, acc, ho, h => adT_bounds h1 hk l (addT ss ks acc t) (fun u hu => ho u (List.mem_cons_of_mem _ hu))
      (adE_bounds (adO_bounds hk (nth_size h1 _) t.ops _ (ho t (List.mem_cons_self ..)) (adE_bounds h (nth_size h1 _) (by decide) (by omega))) (nth_size h1 _) (by decide) (by omega))
theorem ev_bounds {h : Hst} (h1 : ∀ z ∈ h.ss, z.size ≤ 2000) (hk : ∀ z ∈ h.ks, z.size ≤ 2000) (ho : ∀ t ∈ h.l, ∀ x ∈ t.ops, OpI x) : ∀ x ∈ evsH h, EvB x :=
  adT_bounds h1 hk h.l [] ho (fun x hx => by cases hx)
theorem few_bounds {h : Hst} (ho : ∀ t ∈ h.l, ∀ x ∈ t.ops, OpI x) : ∀ x ∈ evsH (fewH h), EvB x := by
  refine ev_bounds (fun z hz => ?_) (fun z hz => ?_) (fun t ht x hx => ?_)
  · obtain ⟨y, -, rfl⟩ := List.mem_map.1 hz
    exact Nat.le_trans (short11_size y) (by omega)
  · obtain ⟨y, -, rfl⟩ := List.mem_map.1 hz
    exact Nat.le_trans (short11_size y) (by omega)
  · obtain ⟨u, hu, rfl⟩ := List.mem_map.1 ht
    exact ho u (List.mem_of_mem_take hu) x (List.mem_of_mem_take hx)
end Go.Proofs.YthaeomdpaadilaaGreatDoor

set_option linter.unusedVariables false
set_option linter.unusedSimpArgs false
namespace Go.Proofs.YthaeomdpaadilaaGreatDoor
open Go.RowKit
open Go.Lib hiding intOf
attribute [local go_sem ↓] Go.wp_at_zero Go.wp_at_succ

set_option maxRecDepth 10000 in
set_option maxHeartbeats 4000000 in
theorem sadd_any (k vk vn ln : Int) (s y : ByteArray) (Bl base : Nat) (V : Value) (l : List Ev6) (w : World)
    (hB : Blk w Bl 27 #[V]) (hown : w.ownsRow base 47 6 V l.length (logC l)) (hbase : base ≤ w.heap.size) (hl : l.length ≤ 1000000) :
    Calls Tryz.prog 18 #[.agg #[.int .i64 k, .string s, .string y, .int .i64 vk, .int .i64 vn, .int .i64 ln], .pointer (some ⟨Bl, 0, none⟩)] w fun e w' => e = .returned (.tuple #[]) ∧
      ∃ V', Blk w' Bl 27 #[V'] ∧ w'.ownsRow base 47 6 V' (l.length + 1) (logC (l ++ [⟨k, s, y, vk, vn, (l.length : Int) + 1⟩])) ∧ Only (Bl :: V.ownBlock.toList) w w' := by
  obtain ⟨i0, hi, hz0, hz1, hz2⟩ := info_parts info_event
  obtain ⟨A, c, hVs, hc1, hc2, hcl, -⟩ := own_row hown
  have hapart := own_apart hown hB (by decide)
  subst hVs
  have HOWN := Lib.hid hown
  have HBL := Lib.hid hB
  generalize hm : l.length = m at *
  have hwm : IntKind.i64.wrap ((m : Int) + 1) = (m : Int) + 1 := IntWalk.i64_in _ (by omega)
  clear hown hB hcl
  go_enter Tryz.func18, Tryz.ntmps18
  have lB := HBL.out.lt
  have cB := HBL.out.at_ 0
  simp at cB lB
  have HROW : Hid (Row ((w.alloc (.cells #[.int .i64 k, .string s, .string y, .int .i64 vk, .int .i64 vn, .int .i64 ((m : Int) + 1)] 47)).alloc (.cells #[.int .i64 k, .string s, .string y, .int .i64 vk, .int .i64 vn, .int .i64 ((m : Int) + 1)] 47)) (w.heap.size + 1 + 1) (some ⟨w.heap.size + 1, 0, none⟩) [.int .i64 k, .string s, .string y, .int .i64 vk, .int .i64 vn, .int .i64 ((m : Int) + 1)]) := Lib.hid (by
    have h := row_lit (w.alloc (.cells #[.int .i64 k, .string s, .string y, .int .i64 vk, .int .i64 vn, .int .i64 ((m : Int) + 1)] 47)) 47 #[.int .i64 k, .string s, .string y, .int .i64 vk, .int .i64 vn, .int .i64 ((m : Int) + 1)]
    simpa using h)
  have HO3 : Hid (Only [] w ((w.alloc (.cells #[.int .i64 k, .string s, .string y, .int .i64 vk, .int .i64 vn, .int .i64 ((m : Int) + 1)] 47)).alloc (.cells #[.int .i64 k, .string s, .string y, .int .i64 vk, .int .i64 vn, .int .i64 ((m : Int) + 1)] 47))) := Lib.hid (((Only.refl [] w).alloc _).alloc _)
  go_wp2_with (
    at_builtin
    refine wpList_append_row _ rfl (.tmp 7) (.tmp 9) _ rfl base 47 i0 _ 6 64 Tryz.underlying27 hi hz0 hz1 hz2 rfl (by omega) _ m (logC l) rfl (own_only HOWN.out HO3.out (by simp)) (w.heap.size + 1 + 1) (some ⟨w.heap.size + 1, 0, none⟩) 1 1 [.int .i64 k, .string s, .string y, .int .i64 vk, .int .i64 vn, .int .i64 ((m : Int) + 1)] (by rfl) (by rfl) HROW.out (by intro u hu; simp at hu; rcases hu with rfl | rfl | rfl | rfl | rfl | rfl <;> rfl) (by unfold maxLen; omega) (by omega) (by simp; omega) ?_
    intro v4 w4 hown4 hgrow hat
    obtain ⟨A4, c4, rfl, -, -, -, -⟩ := own_row hown4
    have b4 := (only_grown hgrow).blk ((HBL.out.alloc (.cells #[.int .i64 k, .string s, .string y, .int .i64 vk, .int .i64 vn, .int .i64 ((m : Int) + 1)] 47)).alloc (.cells #[.int .i64 k, .string s, .string y, .int .i64 vk, .int .i64 vn, .int .i64 ((m : Int) + 1)] 47)) hapart
    have O4 := (HO3.out.wide (T := (Value.slice A m c).ownBlock.toList) (fun i hi => by cases hi)).step (only_grown hgrow) (fun i hi _ => hi)
    have HB4 := Lib.hid b4
    have HO4 := Lib.hid O4
    have HOWN4 := Lib.hid hown4
    have l4 := b4.lt
    have d4 := b4.at_ 0
    have g4 := b4.free 0
    simp at d4
    clear b4 O4 hown4 hat hgrow)
  go_end0
  have hap4 := own_apart HOWN4.out HB4.out (by decide)
  refine ⟨rfl, _, HB4.out.put 0 _, ?_, (HO4.out.wide (fun i hi _ => by simp [hi])).put (p := ⟨Bl, 0, none⟩) (fun _ => by simp) _⟩
  have h5 := own_only HOWN4.out ((Only.refl [Bl] w4).put (p := ⟨Bl, 0, none⟩) (fun _ => by simp) (.slice A4 (m + 1) c4)) (fun g hg hm => by
    simp at hm
    subst hm
    exact hap4 (by rw [hg]; simp))
  rw [logC_snoc]
  exact h5
end Go.Proofs.YthaeomdpaadilaaGreatDoor

set_option linter.unusedVariables false
set_option linter.unusedSimpArgs false
namespace Go.Proofs.YthaeomdpaadilaaGreatDoor
open Go.RowKit

theorem own_two {w : World} {base base' : Nat} {e e' : TypeId} {size size' : Nat} {v v' : Value} {n n' : Nat} {xs xs' : List Value} (h : w.ownsRow base e size v n xs) (h' : w.ownsRow base' e' size' v' n' xs') (hne : e ≠ e') :
    ∀ g, v.ownBlock = some g → g ∉ v'.ownBlock.toList := fun g hg hm => by
  obtain ⟨cur, hb⟩ := own_blk h hg
  exact own_apart h' hb (Ne.symm hne) hm
theorem own_off {w : World} {base : Nat} {e : TypeId} {size : Nat} {v : Value} {n : Nat} {xs : List Value} (h : w.ownsRow base e size v n xs) {b : Nat} (hb : b < base) : b ∉ v.ownBlock.toList := fun hm => by
  cases hv : v.ownBlock with
  | none => rw [hv] at hm; cases hm
  | some g =>
    rw [hv] at hm
    simp at hm
    subst hm
    have := (h.lt b hv).1
    omega

theorem own_lower {w : World} {base base' : Nat} {e : TypeId} {size : Nat} {v : Value} {n : Nat} {xs : List Value} (h : w.ownsRow base e size v n xs) (hb : base' ≤ base) : w.ownsRow base' e size v n xs := by
  obtain ⟨hl, hv⟩ := h
  refine ⟨hl, ?_⟩
  rcases hv with hv | ⟨g, cap, cur, rfl, h1, rest⟩
  · exact .inl hv
  · exact .inr ⟨g, cap, cur, rfl, Nat.le_trans hb h1, rest⟩

end Go.Proofs.YthaeomdpaadilaaGreatDoor
