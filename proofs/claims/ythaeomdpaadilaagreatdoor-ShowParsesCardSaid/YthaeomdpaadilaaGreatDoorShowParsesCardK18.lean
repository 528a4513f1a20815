/- The document's W in memory: what was made of events. Unlike texts; firsts of like lists. The document's W: at, keys. -/
import Derived.Test.YthaeomdpaadilaaGreatDoorShowParsesCardK15
import Derived.Test.YthaeomdpaadilaaGreatDoorShowParsesCardK17
import Derived.Test.YthaeomdpaadilaaGreatDoorShowParsesCardK1
import Derived.Lib.Strings
set_option linter.unusedVariables false
set_option linter.unusedSimpArgs false
namespace Go.Proofs.YthaeomdpaadilaaGreatDoor
open Go.RowKit
open Go.Lib hiding intOf
def txa (x : PtA) : TxA := ⟨⟨0, x.p.f, x.p.ops⟩, x.Z, x.d⟩
def rowL (V : Value) (xs : List PtA) : OR := ⟨43, 3, V, xs.length, txC (xs.map txa)⟩
def rowN (V : Value) (xs : List PtA) : OR := ⟨9, 1, V, xs.length, strs (xs.map fun x => x.p.s)⟩
def rowK (V : Value) (xs : List PtA) : OR := ⟨22, 1, V, xs.length, xs.map fun x => .slice x.A x.p.ks.length x.c⟩
def rowI (V : Value) (xs : List PtA) : OR := ⟨3, 1, V, xs.length, xs.map fun x => .int .i64 x.p.ln⟩
def rowO (V : Value) (xs : List PtA) : OR := ⟨4, 1, V, xs.length, xs.map fun x => .bool (decide (x.p.f = 0))⟩
def kRow (x : PtA) : OR := ⟨9, 1, .slice x.A x.p.ks.length x.c, x.p.ks.length, strs x.p.ks⟩
def oRow (x : PtA) : OR := ⟨50, 4, .slice x.Z x.p.ops.length x.d, x.p.ops.length, opC x.p.ops⟩
def two (x : PtA) : List OR := [kRow x, oRow x]
def wL (VL VN VK VI VO : Value) (xs : List PtA) : List OR := rowL VL xs :: rowN VN xs :: rowK VK xs :: rowI VI xs :: rowO VO xs :: xs.flatMap two
theorem two_k : ∀ (xs : List PtA) (i : Nat) (x : PtA), xs[i]? = some x → (xs.flatMap two)[i * 2]? = some (kRow x) ∧ (xs.flatMap two)[i * 2 + 1]? = some (oRow x)
 | [], i, x, h => by simp at h
 | y :: xs, 0, x, h => by
  simp at h
  subst h
  exact ⟨rfl, rfl⟩
 | y :: xs, i + 1, x, h => by
  have := two_k xs i x (by simpa using h)
  rw [show (i + 1) * 2 = i * 2 + 1 + 1 by omega]
  exact this
theorem two_setk : ∀ (xs : List PtA) (i : Nat) (x y : PtA), xs[i]? = some x → oRow y = oRow x → (xs.flatMap two).set (i * 2) (kRow y) = (xs.set i y).flatMap two
 | [], i, x, y, h, _ => by simp at h
 | z :: xs, 0, x, y, h, e => by
  simp at h
  subst h
  simp [two, e]
 | z :: xs, i + 1, x, y, h, e => by
  have := two_setk xs i x y (by simpa using h) e
  rw [show (i + 1) * 2 = i * 2 + 1 + 1 by omega]
  simp only [List.flatMap_cons, two, List.cons_append, List.nil_append, List.set_cons_succ]
  rw [this]
theorem two_seto : ∀ (xs : List PtA) (i : Nat) (x y : PtA), xs[i]? = some x → kRow y = kRow x → (xs.flatMap two).set (i * 2 + 1) (oRow y) = (xs.set i y).flatMap two
 | [], i, x, y, h, _ => by simp at h
 | z :: xs, 0, x, y, h, e => by
  simp at h
  subst h
  simp [two, e]
 | z :: xs, i + 1, x, y, h, e => by
  have := two_seto xs i x y (by simpa using h) e
  rw [show (i + 1) * 2 + 1 = i * 2 + 1 + 1 + 1 by omega]
  simp only [List.flatMap_cons, two, List.cons_append, List.nil_append, List.set_cons_succ]
  rw [this]
/-- The document's W lies in block gw. -/
structure WAt (w : World) (base gw : Nat) (ps : List Pt) (VL VN VK VI VO : Value) (xs : List PtA) : Prop where
 blk : Blk w gw 91 #[.slice none 0 0, .slice none 0 0, VL, VN, VK, VI, VO]
 gwb : base ≤ gw
 parts : xs.map PtA.p = ps
 rows : ORs w base (wL VL VN VK VI VO xs)
theorem WAt.same {w w' : World} {base gw : Nat} {ps : List Pt} {VL VN VK VI VO : Value} {xs : List PtA} (h : WAt w base gw ps VL VN VK VI VO xs) (O : Only [] w w') : WAt w' base gw ps VL VN VK VI VO xs :=
 ⟨O.blk h.blk (by simp), h.gwb, h.parts, h.rows.same O⟩
theorem WAt.len {w : World} {base gw : Nat} {ps : List Pt} {VL VN VK VI VO : Value} {xs : List PtA} (h : WAt w base gw ps VL VN VK VI VO xs) : xs.length = ps.length := by rw [← h.parts, List.length_map]
theorem WAt.get {w : World} {base gw : Nat} {ps : List Pt} {VL VN VK VI VO : Value} {xs : List PtA} (h : WAt w base gw ps VL VN VK VI VO xs) {i : Nat} {p : Pt} (hp : ps[i]? = some p) : ∃ x, xs[i]? = some x ∧ x.p = p := by
 rw [← h.parts, List.getElem?_map] at hp
 cases hx : xs[i]? with
 | none => rw [hx] at hp; cases hp
 | some x => rw [hx] at hp; exact ⟨x, rfl, Option.some.inj hp⟩
/-- The values of W's five slices. -/
theorem WAt.vals {w : World} {base gw : Nat} {ps : List Pt} {VL VN VK VI VO : Value} {xs : List PtA} (h : WAt w base gw ps VL VN VK VI VO xs) :
  (∃ A c, VL = .slice A ps.length c ∧ Row w w.heap.size A (txC (xs.map txa))) ∧ (∃ A c, VN = .slice A ps.length c ∧ Row w w.heap.size A (strs (ps.map Pt.s))) ∧
  (∃ A c, VK = .slice A ps.length c ∧ Row w w.heap.size A (xs.map fun x => .slice x.A x.p.ks.length x.c)) ∧ (∃ A c, VI = .slice A ps.length c ∧ Row w w.heap.size A (ps.map fun p => .int .i64 p.ln)) ∧
  (∃ A c, VO = .slice A ps.length c ∧ Row w w.heap.size A (ps.map fun p => .bool (decide (p.f = 0)))) := by
 have hl := h.len
 obtain ⟨A0, c0, e0, -, -, -, r0⟩ := own_row (h.rows.all 0 _ rfl)
 obtain ⟨A1, c1, e1, -, -, -, r1⟩ := own_row (h.rows.all 1 _ rfl)
 obtain ⟨A2, c2, e2, -, -, -, r2⟩ := own_row (h.rows.all 2 _ rfl)
 obtain ⟨A3, c3, e3, -, -, -, r3⟩ := own_row (h.rows.all 3 _ rfl)
 obtain ⟨A4, c4, e4, -, -, -, r4⟩ := own_row (h.rows.all 4 _ rfl)
 refine ⟨⟨A0, c0, by rw [← hl]; exact e0, r0⟩, ⟨A1, c1, by rw [← hl]; exact e1, ?_⟩, ⟨A2, c2, by rw [← hl]; exact e2, r2⟩, ⟨A3, c3, by rw [← hl]; exact e3, ?_⟩, ⟨A4, c4, by rw [← hl]; exact e4, ?_⟩⟩
 ·rw [← h.parts, List.map_map]
  exact r1
 ·rw [← h.parts, List.map_map]
  exact r3
 ·rw [← h.parts, List.map_map]
  exact r4
/-- What the maker's lists of names are. -/
structure MInv (m : Mk) : Prop where
 ss : m.ss = sortB (m.ps.map Pt.s)
 ks : m.ks = sortB (m.ps.flatMap Pt.ks)
theorem map_set_same {α β : Type} {f : α → β} {l : List α} {i : Nat} {x y : α} (hx : l[i]? = some x) (h : f y = f x) : (l.set i y).map f = l.map f := by
 apply List.ext_getElem?
 intro j
 rw [List.getElem?_map, List.getElem?_map, List.getElem?_set]
 by_cases hij : i = j
 ·subst hij
  rw [if_pos rfl, if_pos (List.getElem?_eq_some_iff.1 hx).1, hx]
  simp [h]
 ·rw [if_neg hij]
theorem mem_flat_set {ps : List Pt} {i : Nat} {p q : Pt} {y : ByteArray} (hp : ps[i]? = some p) (hq : q.ks = p.ks ++ [y]) (z : ByteArray) : z ∈ (ps.set i q).flatMap Pt.ks ↔ z ∈ ps.flatMap Pt.ks ++ [y] := by
 rw [List.mem_append, List.mem_flatMap, List.mem_flatMap]
 have hil := (List.getElem?_eq_some_iff.1 hp).1
 constructor
 ·rintro ⟨r, hr, hz⟩
  rcases mem_set_at hr with rfl | ⟨j, -, hj⟩
  ·rw [hq] at hz
   rcases List.mem_append.1 hz with hz | hz
   ·exact .inl ⟨p, List.mem_of_getElem? hp, hz⟩
   ·exact .inr hz
  ·exact .inl ⟨r, List.mem_of_getElem? hj, hz⟩
 ·rintro (⟨r, hr, hz⟩ | hz)
  ·obtain ⟨j, hj⟩ := List.mem_iff_getElem?.1 hr
   by_cases hij : i = j
   ·subst hij
    rw [hp] at hj
    obtain rfl := Option.some.inj hj
    exact ⟨q, List.mem_of_getElem? (List.getElem?_set_self hil), by rw [hq]; exact List.mem_append_left _ hz⟩
   ·exact ⟨r, List.mem_of_getElem? (by rw [List.getElem?_set_ne hij]; exact hj), hz⟩
  ·exact ⟨q, List.mem_of_getElem? (List.getElem?_set_self hil), by rw [hq]; exact List.mem_append_right _ hz⟩
theorem sort_congr {l m : List ByteArray} (h : ∀ z, z ∈ l ↔ z ∈ m) : sortB l = sortB m :=
 sortB_unique (sortB_names l).1.rise (fun y => by rw [(sortB_names l).2, h])
theorem minv_0 : MInv mk0 := ⟨rfl, rfl⟩
theorem minv_take {m : Mk} (h : MInv m) (a : Ev6) : MInv (takeM m a) := by
 unfold takeM
 split
 ·exact h
 ·cases ho : openI m.ps a.s with
  | none =>
   dsimp only
   split
   ·unfold beginM
    split
    ·exact h
    ·refine ⟨?_, ?_⟩
     ·show withB m.ss a.s = _
      rw [h.ss, with_sort, List.map_append]
      rfl
     ·show m.ks = _
      rw [h.ks, List.flatMap_append]
      simp
   ·exact h
  | some i =>
   dsimp only
   split
   ·exact h
   ·cases hp : m.ps[i]? with
    | none => exact h
    | some p =>
     dsimp only
     split
     ·unfold addM
      split
      ·exact h
      ·refine ⟨?_, ?_⟩
       ·show m.ss = _
        rw [h.ss]
        congr 1
        exact (map_set_same (f := Pt.s) (y := addP p a) hp rfl).symm
       ·show withB m.ks a.y = _
        rw [h.ks, with_sort]
        exact sort_congr fun z => (mem_flat_set hp rfl z).symm
     ·refine ⟨?_, ?_⟩
      ·show m.ss = _
       rw [h.ss]
       congr 1
       exact (map_set_same (f := Pt.s) (y := { p with f := fateE a.k }) hp rfl).symm
      ·show m.ks = _
       rw [h.ks]
       have : (m.ps.set i { p with f := fateE a.k }).map Pt.ks = m.ps.map Pt.ks := map_set_same hp rfl
       rw [List.flatMap_def, List.flatMap_def, this]
end Go.Proofs.YthaeomdpaadilaaGreatDoor

set_option linter.unusedVariables false
set_option linter.unusedSimpArgs false
namespace Go.Proofs.YthaeomdpaadilaaGreatDoor
theorem textb_ne {x y : ByteArray} (h : ¬ x = y) : ¬ x.toList = y.toList := fun e => h (by
 rw [Lib.toList_data, Lib.toList_data] at e
 obtain ⟨⟨x⟩⟩ := x
 obtain ⟨⟨y⟩⟩ := y
 simpa using e)
theorem takeG_eq {α : Type} {xs ys : List α} {k : Nat} {x y : α} (h : xs.take k = ys.take k) (hx : xs[k]? = some x) (hy : ys[k]? = some y) : (xs.take (k + 1) = ys.take (k + 1)) ↔ x = y := by
 rw [List.take_add_one, List.take_add_one, hx, hy, h]
 simp
end Go.Proofs.YthaeomdpaadilaaGreatDoor

set_option linter.unusedVariables false
set_option linter.unusedSimpArgs false
namespace Go.Proofs.YthaeomdpaadilaaGreatDoor
open Go.RowKit
open Go.Lib hiding intOf
attribute [local go_sem ↓] Go.wp_at_zero Go.wp_at_succ
/-- The number that at tells. -/
def atN (ps : List Pt) (s : ByteArray) : Int := match openI ps s with | some i => (i : Int) | none => -1
theorem at_hit {ps : List Pt} {s : ByteArray} {k : Nat} {p : Pt} (hp : ps[k]? = some p) (h1 : p.s = s) (h2 : p.f = 0) (hall : ∀ (j : Nat) q, j < k → ps[j]? = some q → ¬ (q.s = s ∧ q.f = 0)) : openI ps s = some k := by
 unfold openI
 rw [List.findIdx?_eq_some_iff_getElem]
 obtain ⟨hlt, he⟩ := List.getElem?_eq_some_iff.1 hp
 refine ⟨hlt, by rw [he, h1, h2]; simp, fun j hj => ?_⟩
 have := hall j _ hj (List.getElem?_eq_getElem (Nat.lt_trans hj hlt))
 simp only [Bool.not_eq_true, Bool.and_eq_false_iff, decide_eq_false_iff_not]
 by_cases h : ps[j].s = s
 ·exact .inr fun h' => this ⟨h, h'⟩
 ·exact .inl h
theorem at_miss {ps : List Pt} {s : ByteArray} (hall : ∀ (j : Nat) q, j < ps.length → ps[j]? = some q → ¬ (q.s = s ∧ q.f = 0)) : openI ps s = none := by
 unfold openI
 rw [List.findIdx?_eq_none_iff]
 intro p hp
 obtain ⟨j, hj⟩ := List.mem_iff_getElem?.1 hp
 have := hall j p (List.getElem?_eq_some_iff.1 hj).1 hj
 simp only [Bool.not_eq_true, Bool.and_eq_false_iff, decide_eq_false_iff_not]
 by_cases h : p.s = s
 ·exact .inr fun h' => this ⟨h, h'⟩
 ·exact .inl h
set_option maxRecDepth 10000 in
set_option maxHeartbeats 4000000 in
theorem rat_any (base gw : Nat) (ps : List Pt) (VL VN VK VI VO : Value) (xs : List PtA) (s : ByteArray) (w : World) (h : WAt w base gw ps VL VN VK VI VO xs) (hn : ps.length ≤ 40) :
  Calls Tryz.prog 106 #[.pointer (some ⟨gw, 0, none⟩), .string s] w fun e w' => e = .returned (.int .i64 (atN ps s)) ∧ w' = w := by
 obtain ⟨-, ⟨A1, c1, rfl, r1⟩, -, -, ⟨A4, c4, rfl, r4⟩⟩ := h.vals
 have HR1 := Lib.hid r1
 have HR4 := Lib.hid r4
 have hb := h.blk
 have b3 := hb.at_ 3
 have b6 := hb.at_ 6
 have lb := hb.lt
 simp at b3 b6
 generalize hnn : ps.length = n at *
 have HN := Lib.hid hnn
 clear h r1 r4 hb hnn
 go_enter Tryz.func106, Tryz.ntmps106
 go_wp2_with fail
 go_loopw [5] (fun iv wr => ∃ k : Nat, iv = .int .i64 k ∧ k ≤ n ∧ wr = w ∧ Hid (∀ (j : Nat) q, j < k → ps[j]? = some q → ¬ (q.s = s ∧ q.f = 0))) (fun iv _ => n - (intOf iv).toNat)
 case atStart => exact ⟨0, rfl, by omega, rfl, Lib.hid (fun j q hj => by omega)⟩
 case round =>
  obtain ⟨k, rfl, hk, rfl, hall⟩ := hrel
  by_cases hlt : k < n
  ·have h01 : (k : Int) < (n : Int) := by omega
   have hk0 : (0 : Int) ≤ (k : Int) := Int.natCast_nonneg _
   have hwk : IntKind.i64.wrap ((k : Int) + 1) = (k : Int) + 1 := IntWalk.i64_in _ (by omega)
   obtain ⟨p, hp⟩ : ∃ p, ps[k]? = some p := ⟨_, List.getElem?_eq_getElem (by rw [HN.out]; exact hlt)⟩
   have HP := Lib.hid hp
   obtain ⟨b1, o1, rfl, -, l1, hc1⟩ := HR1.out.open_ (k := k) (by rw [strs, List.length_map, List.length_map, HN.out]; exact hlt)
   obtain ⟨b4, o4, rfl, -, l4, hc4⟩ := HR4.out.open_ (k := k) (by rw [List.length_map, HN.out]; exact hlt)
   have z1 := hc1 k (.string p.s) (by rw [strs, List.getElem?_map, List.getElem?_map, hp]; rfl)
   have z4 := hc4 k (.bool (decide (p.f = 0))) (by rw [List.getElem?_map, hp]; rfl)
   clear hp hc1 hc4
   by_cases hf : p.f = 0
   ·rw [decide_eq_true hf] at z4
    have HF := Lib.hid hf
    clear hf
    by_cases hs : p.s = s
    ·subst hs
     have hss : (p.s.toList == p.s.toList) = true := by simp
     have HX : Hid (atN ps p.s = (k : Int)) := Lib.hid (by unfold atN; rw [at_hit HP.out rfl HF.out hall.out])
     go_wp2
     go_ret
     exact ⟨by rw [HX.out]; rfl, rfl⟩
    ·have hss : (p.s.toList == s.toList) = false := by
      have := textb_ne hs
      simpa using this
     have HS := Lib.hid hs
     clear hs
     go_wp2
     go_roundw
     case rel =>
      refine ⟨k + 1, by go_num, by omega, by first | rfl | trivial, Lib.hid (fun j q hj hq => ?_)⟩
      rcases Nat.lt_or_ge j k with h2 | h2
      ·exact hall.out j q h2 hq
      ·have : j = k := by omega
       subst this
       rw [HP.out] at hq
       obtain rfl := Option.some.inj hq
       exact fun h => HS.out h.1
     case measure => simp [intOf]; omega
   ·rw [decide_eq_false hf] at z4
    have HF := Lib.hid hf
    clear hf
    go_wp2
    go_roundw
    case rel =>
     refine ⟨k + 1, by go_num, by omega, by first | rfl | trivial, Lib.hid (fun j q hj hq => ?_)⟩
     rcases Nat.lt_or_ge j k with h2 | h2
     ·exact hall.out j q h2 hq
     ·have : j = k := by omega
      subst this
      rw [HP.out] at hq
      obtain rfl := Option.some.inj hq
      exact fun h => HF.out h.2
    case measure => simp [intOf]; omega
  ·have hkn : k = n := by omega
   subst hkn
   have hd : decide ((k : Int) < (k : Int)) = false := by simp
   have HX : Hid (atN ps s = -1) := Lib.hid (by unfold atN; rw [at_miss (fun j q hj hq => hall.out j q (by rw [← HN.out]; exact hj) hq)])
   go_wp2
   go_ret
   exact ⟨by rw [HX.out]; rfl, rfl⟩
theorem flat_take {α : Type} {f : Pt → List α} {l : List Pt} {k : Nat} {p : Pt} (h : l[k]? = some p) : (l.take (k + 1)).flatMap f = (l.take k).flatMap f ++ f p := by
 rw [List.take_add_one, h, List.flatMap_append]
 simp
theorem flat_le {f : Pt → List ByteArray} {c : Nat} : ∀ (l : List Pt), (∀ p ∈ l, (f p).length ≤ c) → (l.flatMap f).length ≤ l.length * c
 | [], _ => by simp
 | p :: l, h => by
  have h1 := h p (List.mem_cons_self ..)
  have h2 := flat_le l (fun q hq => h q (List.mem_cons_of_mem _ hq))
  rw [List.flatMap_cons, List.length_append, List.length_cons, Nat.add_mul]
  omega
set_option maxRecDepth 10000 in
set_option maxHeartbeats 4000000 in
theorem rkeys_any (base gw : Nat) (ps : List Pt) (VL VN VK VI VO : Value) (xs : List PtA) (w : World) (h : WAt w base gw ps VL VN VK VI VO xs) (hn : ps.length ≤ 40) (hk : ∀ p ∈ ps, p.ks.length ≤ 20) :
  Calls Tryz.prog 51 #[.pointer (some ⟨gw, 0, none⟩)] w fun e w' => Only [] w w' ∧ ∃ V, e = .returned V ∧ w'.ownsRow w.heap.size 9 1 V (ps.flatMap Pt.ks).length (strs (ps.flatMap Pt.ks)) := by
 obtain ⟨is_, his, his0, his1, his2⟩ := info_parts info_strg
 have HXS := Lib.hid (fun (k : Nat) (p : Pt) (hp : ps[k]? = some p) => h.get hp)
 obtain ⟨-, -, ⟨A2, c2, rfl, r2⟩, -, -⟩ := h.vals
 have HK := Lib.hid (fun (k : Nat) (x : PtA) (hx : xs[k]? = some x) => (own_row (h.rows.all (5 + k * 2) (kRow x) (by
  show ((_ :: _ :: _ :: _ :: _ :: xs.flatMap two) : List OR)[5 + k * 2]? = _
  rw [Nat.add_comm]
  exact (two_k xs k x hx).1))))
 have HL := Lib.hid h.len
 have HR2 := Lib.hid r2
 have HKS := Lib.hid hk
 have HB := Lib.hid h.blk
 generalize hnn : ps.length = n at *
 have HN := Lib.hid hnn
 clear h r2 hnn hk
 go_enter Tryz.func51, Tryz.ntmps51
 have hO : (w.alloc (.cells #[] 9)).ownsRow w.heap.size 9 1 (.slice (some ⟨w.heap.size, 0, none⟩) 0 0) 0 [] := World.ownsRow_lit w (e := 9) (size := 1) #[] 0 (Nat.le_refl _) (by unfold maxLen; omega) rfl
 have HO := Lib.hid hO
 have HW := Lib.hid ((Only.refl [] w).alloc (.cells #[] 9))
 clear hO
 go_upto_region 2 with (fail)
 generalize (w.alloc (.cells #[] 9)) = w1 at *
 go_wp2_with fail
 go_loopw [3, 4] (fun V iv wr => ∃ k : Nat, iv = .int .i64 k ∧ k ≤ n ∧ Hid (wr.ownsRow w.heap.size 9 1 V ((ps.take k).flatMap Pt.ks).length (strs ((ps.take k).flatMap Pt.ks))) ∧ Hid (Only [] w wr)) (fun _ iv _ => n - (intOf iv).toNat)
 case atStart => exact ⟨0, rfl, by omega, HO, HW⟩
 case round =>
  obtain ⟨k, rfl, hk, hOw, hOn⟩ := hrel
  obtain ⟨A5, c5, rfl, -⟩ := own_row hOw.out
  have hb := hOn.out.blk HB.out (by simp)
  have b4 := hb.at_ 4
  have lb := hb.lt
  simp at b4
  clear hb
  by_cases hlt : k < n
  ·have h01 : (k : Int) < (n : Int) := by omega
   have hk0 : (0 : Int) ≤ (k : Int) := Int.natCast_nonneg _
   have hwk : IntKind.i64.wrap ((k : Int) + 1) = (k : Int) + 1 := IntWalk.i64_in _ (by omega)
   obtain ⟨p, hp⟩ : ∃ p, ps[k]? = some p := ⟨_, List.getElem?_eq_getElem (by rw [HN.out]; exact hlt)⟩
   obtain ⟨x, hx, hxp⟩ := HXS.out k p hp
   obtain ⟨Ax, cx, ex, -, -, hlx, rx⟩ := HK.out k x hx
   obtain ⟨b2, o2, rfl, -, l2, hc2⟩ := HR2.out.open_ (k := k) (by rw [List.length_map, HL.out]; exact hlt)
   have z2 := hc2 k (.slice x.A x.p.ks.length x.c) (by rw [List.getElem?_map, hx]; rfl)
   have z2 := (hOn.out.cell (p := ⟨b2, o2 + k, none⟩) l2 (by simp)).trans z2
   have l2' : b2 < wr.heap.size := Nat.lt_of_lt_of_le l2 hOn.out.size
   injection ex with e1 e2 e3
   have HRX : Hid (Row wr w.heap.size x.A (strs p.ks)) := Lib.hid (by
    rw [e1, ← hxp]
    exact rx.only hOn.out (by simp))
   rw [hxp] at z2
   have HFT := Lib.hid (flat_take (f := Pt.ks) hp)
   have hpk := HKS.out p (List.mem_of_getElem? hp)
   have hle := flat_le (f := Pt.ks) (c := 20) (ps.take k) (fun q hq => HKS.out q (List.mem_of_mem_take hq))
   have hle2 : ((ps.take k).flatMap Pt.ks).length ≤ 800 := by
    rw [List.length_take] at hle
    have := Nat.min_le_left k ps.length
    omega
   have hskl : (strs p.ks).length = p.ks.length * 1 := by simp [strs]
   have HSK := Lib.hid hskl
   have HHG := Lib.hid hOn.out.size
   clear hp hc2 hx hxp rx hlx e1 e2 e3 hle hskl
   generalize hfl : (ps.take k).flatMap Pt.ks = fl at *
   clear hfl
   go_wp2_with (at_builtin; refine wpList_append_row _ rfl (.tmp 15) (.tmp 22) _ rfl w.heap.size 9 is_ _ 1 16 Tryz.underlying22 his his0 his1 his2 rfl (by omega) _ _ _ rfl hOw.out w.heap.size x.A p.ks.length x.c (strs p.ks) rfl HSK.out HRX.out (by intro u hu; obtain ⟨y, -, rfl⟩ := List.mem_map.1 hu; rfl) (by unfold maxLen; omega) (by omega) HHG.out ?_; intro v9 w9 hown9 hgrow9 hat9; obtain ⟨A9, c9, e9, -, -, -, -⟩ := own_row hown9; subst e9; have HOW9 := Lib.hid hown9; have HON9 := Lib.hid (hOn.out.step (only_grown hgrow9) (own_new hOw.out)); clear hown9 hgrow9 hat9)
   go_roundw
   case rel => exact ⟨k + 1, by go_num, by omega, Lib.hid (by
    rw [HFT.out, List.length_append]
    have e : strs (fl ++ p.ks) = strs fl ++ strs p.ks := by simp [strs]
    rw [e]
    exact HOW9.out), HON9⟩
   case measure => simp [intOf]; omega
  ·have hkn : k = n := by omega
   subst hkn
   have hd : decide ((k : Int) < (k : Int)) = false := by simp
   have hfo : ps.take k = ps := by rw [← HN.out, List.take_length]
   rw [hfo] at hOw
   go_wp2
   go_ret
   exact ⟨hOn.out, _, rfl, by have := hOw.out; rw [hfo]; exact this⟩
end Go.Proofs.YthaeomdpaadilaaGreatDoor
