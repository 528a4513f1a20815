/- Parts. -/
import Derived.Test.YtojlaphklkomfaaDoorPairMakesCardK27
import Derived.Lib.Strings
set_option maxRecDepth 10000
set_option maxHeartbeats 16000000
set_option linter.unusedVariables false
set_option linter.unusedSimpArgs false
namespace Go.Proofs.YtojlaphklkomfaaDoor
open Go.RowKit
open Go.Lib hiding intOf
def txa (x : PtA) : TxA := ⟨⟨0, x.p.f, x.p.ops⟩, x.Z, x.d⟩
def rowL (V : Value) (xs : List PtA) : OR := ⟨38, 3, V, xs.length, txC (xs.map txa)⟩
def rowN (V : Value) (xs : List PtA) : OR := ⟨9, 1, V, xs.length, strs (xs.map fun x => x.p.s)⟩
def rowK (V : Value) (xs : List PtA) : OR := ⟨24, 1, V, xs.length, xs.map fun x => .slice x.A x.p.ks.length x.c⟩
def rowI (V : Value) (xs : List PtA) : OR := ⟨3, 1, V, xs.length, xs.map fun x => .int .i64 x.p.ln⟩
def rowO (V : Value) (xs : List PtA) : OR := ⟨4, 1, V, xs.length, xs.map fun x => .bool (decide (x.p.f = 0))⟩
def kRow (x : PtA) : OR := ⟨9, 1, .slice x.A x.p.ks.length x.c, x.p.ks.length, strs x.p.ks⟩
def oRow (x : PtA) : OR := ⟨62, 4, .slice x.Z x.p.ops.length x.d, x.p.ops.length, opC x.p.ops⟩
def two (x : PtA) : List OR := [kRow x, oRow x]
def wL (VL VN VK VI VO : Value) (xs : List PtA) : List OR := rowL VL xs :: rowN VN xs :: rowK VK xs :: rowI VI xs :: rowO VO xs :: xs.flatMap two
theorem two_k : ∀ (xs : List PtA) (i : Nat) (x : PtA), xs[i]? = some x → (xs.flatMap two)[i * 2]? = some (kRow x) ∧ (xs.flatMap two)[i * 2 + 1]? = some (oRow x)
 | [], i, x, h => by simp at h
 | y :: xs, 0, x, h => by
  simp at h;subst h;exact ⟨rfl, rfl⟩
 | y :: xs, i + 1, x, h => by
  have := two_k xs i x (by simpa using h);rw [show (i + 1) * 2 = i * 2 + 1 + 1 by omega];exact this
theorem two_setk : ∀ (xs : List PtA) (i : Nat) (x y : PtA), xs[i]? = some x → oRow y = oRow x → (xs.flatMap two).set (i * 2) (kRow y) = (xs.set i y).flatMap two
 | [], i, x, y, h, _ => by simp at h
 | z :: xs, 0, x, y, h, e => by
  simp at h;subst h;simp [two, e]
 | z :: xs, i + 1, x, y, h, e => by
  have := two_setk xs i x y (by simpa using h) e;rw [show (i + 1) * 2 = i * 2 + 1 + 1 by omega];simp only [List.flatMap_cons, two, List.cons_append, List.nil_append, List.set_cons_succ];rw [this]
theorem two_seto : ∀ (xs : List PtA) (i : Nat) (x y : PtA), xs[i]? = some x → kRow y = kRow x → (xs.flatMap two).set (i * 2 + 1) (oRow y) = (xs.set i y).flatMap two
 | [], i, x, y, h, _ => by simp at h
 | z :: xs, 0, x, y, h, e => by
  simp at h;subst h;simp [two, e]
 | z :: xs, i + 1, x, y, h, e => by
  have := two_seto xs i x y (by simpa using h) e;rw [show (i + 1) * 2 + 1 = i * 2 + 1 + 1 + 1 by omega];simp only [List.flatMap_cons, two, List.cons_append, List.nil_append, List.set_cons_succ];rw [this]
structure WAt (w : World) (base gw : Nat) (ps : List Pt) (VL VN VK VI VO : Value) (xs : List PtA) : Prop where
 blk : Blk w gw 56 #[.slice none 0 0, .slice none 0 0, VL, VN, VK, VI, VO]
 gwb : base ≤ gw
 parts : xs.map PtA.p = ps
 rows : ORs w base (wL VL VN VK VI VO xs)
theorem WAt.same {w w' : World} {base gw : Nat} {ps : List Pt} {VL VN VK VI VO : Value} {xs : List PtA} (h : WAt w base gw ps VL VN VK VI VO xs) (O : Only [] w w') : WAt w' base gw ps VL VN VK VI VO xs :=
 ⟨O.blk h.blk (by simp), h.gwb, h.parts, h.rows.same O⟩
theorem WAt.len {w : World} {base gw : Nat} {ps : List Pt} {VL VN VK VI VO : Value} {xs : List PtA} (h : WAt w base gw ps VL VN VK VI VO xs) : xs.length = ps.length := by rw [← h.parts, List.length_map]
theorem WAt.get {w : World} {base gw : Nat} {ps : List Pt} {VL VN VK VI VO : Value} {xs : List PtA} (h : WAt w base gw ps VL VN VK VI VO xs) {i : Nat} {p : Pt} (hp : ps[i]? = some p) : ∃ x, xs[i]? = some x ∧ x.p = p := by
 rw [← h.parts, List.getElem?_map] at hp
 cases hx : xs[i]? with
 | none => rw [hx] at hp; cases hp
 | some x => rw [hx] at hp; exact ⟨x, rfl, Option.some.inj hp⟩
theorem WAt.vals {w : World} {base gw : Nat} {ps : List Pt} {VL VN VK VI VO : Value} {xs : List PtA} (h : WAt w base gw ps VL VN VK VI VO xs) :
  (∃ A c, VL = .slice A ps.length c ∧ Row w w.heap.size A (txC (xs.map txa))) ∧ (∃ A c, VN = .slice A ps.length c ∧ Row w w.heap.size A (strs (ps.map Pt.s))) ∧
  (∃ A c, VK = .slice A ps.length c ∧ Row w w.heap.size A (xs.map fun x => .slice x.A x.p.ks.length x.c)) ∧ (∃ A c, VI = .slice A ps.length c ∧ Row w w.heap.size A (ps.map fun p => .int .i64 p.ln)) ∧
  (∃ A c, VO = .slice A ps.length c ∧ Row w w.heap.size A (ps.map fun p => .bool (decide (p.f = 0)))) := by
 have hl := h.len;obtain ⟨A0, c0, e0, -, -, -, r0⟩ := own_row (h.rows.all 0 _ rfl);obtain ⟨A1, c1, e1, -, -, -, r1⟩ := own_row (h.rows.all 1 _ rfl);obtain ⟨A2, c2, e2, -, -, -, r2⟩ := own_row (h.rows.all 2 _ rfl);obtain ⟨A3, c3, e3, -, -, -, r3⟩ := own_row (h.rows.all 3 _ rfl);obtain ⟨A4, c4, e4, -, -, -, r4⟩ := own_row (h.rows.all 4 _ rfl);refine ⟨⟨A0, c0, by rw [← hl]; exact e0, r0⟩, ⟨A1, c1, by rw [← hl]; exact e1, ?_⟩, ⟨A2, c2, by rw [← hl]; exact e2, r2⟩, ⟨A3, c3, by rw [← hl]; exact e3, ?_⟩, ⟨A4, c4, by rw [← hl]; exact e4, ?_⟩⟩
 ·rw [← h.parts, List.map_map];exact r1
 ·rw [← h.parts, List.map_map];exact r3
 ·rw [← h.parts, List.map_map];exact r4
structure MInv (m : Mk) : Prop where
 ss : m.ss = sortB (m.ps.map Pt.s)
 ks : m.ks = sortB (m.ps.flatMap Pt.ks)
theorem map_set_same {α β : Type} {f : α → β} {l : List α} {i : Nat} {x y : α} (hx : l[i]? = some x) (h : f y = f x) : (l.set i y).map f = l.map f := by
 apply List.ext_getElem?
 intro j;rw [List.getElem?_map, List.getElem?_map, List.getElem?_set]
 by_cases hij : i = j
 ·subst hij;rw [if_pos rfl, if_pos (List.getElem?_eq_some_iff.1 hx).1, hx];simp [h]
 ·rw [if_neg hij]
theorem mem_flat_set {ps : List Pt} {i : Nat} {p q : Pt} {y : ByteArray} (hp : ps[i]? = some p) (hq : q.ks = p.ks ++ [y]) (z : ByteArray) : z ∈ (ps.set i q).flatMap Pt.ks ↔ z ∈ ps.flatMap Pt.ks ++ [y] := by
 rw [List.mem_append, List.mem_flatMap, List.mem_flatMap];have hil := (List.getElem?_eq_some_iff.1 hp).1
 constructor
 ·rintro ⟨r, hr, hz⟩;rcases mem_set_at hr with rfl | ⟨j, -, hj⟩
  ·rw [hq] at hz;rcases List.mem_append.1 hz with hz | hz
   ·exact .inl ⟨p, List.mem_of_getElem? hp, hz⟩
   ·exact .inr hz
  ·exact .inl ⟨r, List.mem_of_getElem? hj, hz⟩
 ·rintro (⟨r, hr, hz⟩ | hz)
  ·obtain ⟨j, hj⟩ := List.mem_iff_getElem?.1 hr
   by_cases hij : i = j
   ·subst hij;rw [hp] at hj;obtain rfl := Option.some.inj hj;exact ⟨q, List.mem_of_getElem? (List.getElem?_set_self hil), by rw [hq]; exact List.mem_append_left _ hz⟩
   ·exact ⟨r, List.mem_of_getElem? (by rw [List.getElem?_set_ne hij]; exact hj), hz⟩
  ·exact ⟨q, List.mem_of_getElem? (List.getElem?_set_self hil), by rw [hq]; exact List.mem_append_right _ hz⟩
theorem sort_congr {l m : List ByteArray} (h : ∀ z, z ∈ l ↔ z ∈ m) : sortB l = sortB m :=
 sortB_unique (sortB_names l).1.rise (fun y => by rw [(sortB_names l).2, h])
theorem minv_0 : MInv mk0 := ⟨rfl, rfl⟩
theorem minv_take {m : Mk} (h : MInv m) (a : Ev6) : MInv (takeM m a) := by
 unfold takeM
 split
 ·exact h
 ·cases ho : openI m.ps a.s with
  | none =>
   dsimp only
   split
   ·unfold beginM
    split
    ·exact h
    ·refine ⟨?_, ?_⟩
     ·show withB m.ss a.s = _
      rw [h.ss, with_sort, List.map_append]
      rfl
     ·show m.ks = _
      rw [h.ks, List.flatMap_append];simp
   ·exact h
  | some i =>
   dsimp only
   split
   ·exact h
   ·cases hp : m.ps[i]? with
    | none => exact h
    | some p =>
     dsimp only
     split
     ·unfold addM
      split
      ·exact h
      ·refine ⟨?_, ?_⟩
       ·show m.ss = _
        rw [h.ss]
        congr 1
        exact (map_set_same (f := Pt.s) (y := addP p a) hp rfl).symm
       ·show withB m.ks a.y = _
        rw [h.ks, with_sort];exact sort_congr fun z => (mem_flat_set hp rfl z).symm
     ·refine ⟨?_, ?_⟩
      ·show m.ss = _
       rw [h.ss]
       congr 1
       exact (map_set_same (f := Pt.s) (y := { p with f := fateE a.k }) hp rfl).symm
      ·show m.ks = _
       rw [h.ks];have : (m.ps.set i { p with f := fateE a.k }).map Pt.ks = m.ps.map Pt.ks := map_set_same hp rfl;rw [List.flatMap_def, List.flatMap_def, this]
end Go.Proofs.YtojlaphklkomfaaDoor
namespace Go.Proofs.YtojlaphklkomfaaDoor
theorem textb_ne {x y : ByteArray} (h : ¬ x = y) : ¬ x.toList = y.toList := fun e => h (by
 rw [Lib.toList_data, Lib.toList_data] at e;obtain ⟨⟨x⟩⟩ := x;obtain ⟨⟨y⟩⟩ := y
 simpa using e)
theorem takeG_eq {α : Type} {xs ys : List α} {k : Nat} {x y : α} (h : xs.take k = ys.take k) (hx : xs[k]? = some x) (hy : ys[k]? = some y) : (xs.take (k + 1) = ys.take (k + 1)) ↔ x = y := by
 rw [List.take_add_one, List.take_add_one, hx, hy, h];simp
end Go.Proofs.YtojlaphklkomfaaDoor
