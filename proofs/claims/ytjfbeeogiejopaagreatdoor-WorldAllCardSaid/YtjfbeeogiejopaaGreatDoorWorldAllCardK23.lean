/- Parts. -/
import Derived.Test.YtjfbeeogiejopaaGreatDoorWorldAllCardK21
import Derived.Test.YtjfbeeogiejopaaGreatDoorWorldAllCardK22
import Derived.Lib.SliceRun
import Derived.Deep.LoopGhost
set_option maxRecDepth 10000
set_option maxHeartbeats 16000000
set_option linter.unusedVariables false
set_option linter.unusedSimpArgs false
namespace Go.Proofs.YtjfbeeogiejopaaGreatDoor
open Go.RowKit
open Go.Lib hiding intOf
attribute [local go_sem ↓] Go.wp_at_zero Go.wp_at_succ
@[reducible] def ValT : Type := {a : Int × Int // mayP a = true}
theorem val_0 : mayP (0, 0) = true := by decide
def encT (x : ValT) : List Value := [.int .i64 x.1.1, .int .i64 x.1.2]
def cmpT (x y : ValT) : Int := cmpV x.1 y.1
theorem ltT_eq (x y : ValT) : ltOf cmpT x y = lessV x.1 y.1 := by
 unfold ltOf cmpT cmpV
 cases lessV x.1 y.1 with
 | true => simp
 | false => cases lessV y.1 x.1 <;> simp
theorem ltT_swo : Go.Sort.SWO (ltOf cmpT) where
 irrefl x := by rw [ltT_eq]; exact lessV_irr _
 trans x y z h1 h2 := by
  rw [ltT_eq] at *;exact lessV_trans h1 h2
 ntrans x y z h1 h2 := by
  rw [ltT_eq] at *
  cases h : lessV x.1 z.1 with
  | false => rfl
  | true =>
   cases h3 : lessV z.1 y.1 with
   | true =>
    have := lessV_trans h h3;rw [h1] at this
    cases this
   | false =>
    have e := lessV_total y.2 z.2 h2 h3;rw [e, h] at h1
    cases h1
theorem below_sortWorldK {α : Type} [Inhabited α] (enc : α → List Value) (k : Nat) {B : Nat} {a : World} (w : World) (blk off m : Nat) (dk : Array α) (os : Array Obj) (h : Below B a w) (hB : B ≤ blk) (hs : B ≤ w.heap.size) : Below B a (sortWorldK enc k w blk off m dk os) := by
 have hsz : (w.heap.modify blk (Go.Sort.onCells (Go.Sort.putCells id off (Go.Sort.flatK enc k dk)))).size = w.heap.size := by simp
 refine ⟨h.os, h.tape, h.output, Nat.le_trans h.size ?_, fun j hj => ?_⟩
 ·show _ ≤ (w.heap.modify blk (Go.Sort.onCells (Go.Sort.putCells id off (Go.Sort.flatK enc k dk))) ++ os).size
  rw [Array.size_append, hsz];omega
 ·show (w.heap.modify blk (Go.Sort.onCells (Go.Sort.putCells id off (Go.Sort.flatK enc k dk))) ++ os)[j]? = _
  rw [Array.getElem?_append_left (by rw [hsz]; omega), Array.getElem?_modify, if_neg (by omega)];exact h.block j hj
def HasBlk (w : World) (g : Nat) (t : TypeId) (k : Nat) : Prop := ∃ cs, Blk w g t cs ∧ cs.size = k
theorem HasBlk.modify {w : World} {g : Nat} {t : TypeId} {k : Nat} (h : HasBlk w g t k) {w' : World} (f : Array Value → Array Value) (hf : ∀ cs, (f cs).size = cs.size) (he : w'.heap[g]? = (w.heap.modify g (Go.Sort.onCells f))[g]?) : HasBlk w' g t k := by
 obtain ⟨cs, hb, hs⟩ := h;unfold Blk at hb;rw [Array.getElem?_modify, if_pos rfl, hb] at he;exact ⟨_, he, by rw [hf]; exact hs⟩
theorem HasBlk.sortWorldK {α : Type} [Inhabited α] (enc : α → List Value) (k : Nat) {w : World} {g : Nat} {t : TypeId} {n : Nat} (h : HasBlk w g t n) (off m : Nat) (dk : Array α) (os : Array Obj) : HasBlk (sortWorldK enc k w g off m dk os) g t n := by
 have hlt := h.elim fun cs hc => hc.1.lt;refine h.modify (Go.Sort.putCells id off (Go.Sort.flatK enc k dk)) (fun cs => by simp [Go.Sort.putCells]) ?_
 show (w.heap.modify g (Go.Sort.onCells (Go.Sort.putCells id off (Go.Sort.flatK enc k dk))) ++ os)[g]? = _
 rw [Array.getElem?_append_left (by simpa using hlt)]
theorem HasBlk.setCells {w : World} {g : Nat} {t : TypeId} {n : Nat} (h : HasBlk w g t n) : ∀ (vs : List Value) (o : Nat), HasBlk (w.setCells g o vs) g t n
 | [], _ => h
 | v :: vs, o => by
  obtain ⟨cs, hb, hs⟩ := h;exact HasBlk.setCells (w := w.setCell ⟨g, o, none⟩ v) ⟨_, hb.put o v, by simpa using hs⟩ vs (o + 1)
theorem vsortf_own (w0 w : World) (g cap n : Nat) (cur : Array Value) (fair : List (Int × Int)) (hl : fair.length = n) (hnm : ∀ b ∈ fair, mayP b = true) (hN : n ≤ 1000) (hb : Blk w g 38 cur) (ht : cur.toList.take (n * 2) = edgeC fair) (hg : w0.heap.size ≤ g) (h0 : Below w0.heap.size w0 w) :
  Calls Tryz.prog 95 #[.slice (some ⟨g, 0, none⟩) n cap, .func (.func 96) #[] #[]] w fun e w' => e = .returned (.tuple #[]) ∧ Below w0.heap.size w0 w' ∧ g < w'.heap.size ∧ (∀ t k, HasBlk w g t k → HasBlk w' g t k) ∧
   ∃ bs : List (Int × Int), bs.length = n ∧ bs.Perm fair ∧ bs.Pairwise (fun a b => lessV b a = false) ∧ ∀ j, j < n → w'.cell? ⟨g, j * 2, none⟩ = some (.int .i64 (bs.getD j (0, 0)).1) ∧ w'.cell? ⟨g, j * 2 + 1, none⟩ = some (.int .i64 (bs.getD j (0, 0)).2) ∧ w'.frozen? ⟨g, j * 2, none⟩ = false ∧ w'.frozen? ⟨g, j * 2 + 1, none⟩ = false := by
 letI : Inhabited ValT := ⟨⟨(0, 0), val_0⟩⟩
 obtain ⟨dl, hdl⟩ : ∃ dl : List ValT, dl.map (fun x : ValT => x.1) = fair := by
  refine ⟨fair.attach.map fun x => (⟨x.1, hnm x.1 x.2⟩ : ValT), ?_⟩;rw [List.map_map];exact List.attach_map_subtype_val fair
 have hdn : dl.length = n := by rw [← hl, ← hdl, List.length_map]
 have hk2 : ∀ x : ValT, (encT x).length = 2 := fun _ => rfl;have hget : ∀ j, j < n → ∀ e : List ValT, e.length = n → encT (e.toArray[j]!) = [.int .i64 ((e.map fun x : ValT => x.1).getD j (0, 0)).1, .int .i64 ((e.map fun x : ValT => x.1).getD j (0, 0)).2] := by
  intro j hj e he;rw [getElem!_pos e.toArray j (by simpa [he] using hj), List.getD_eq_getElem?_getD, List.getElem?_map, List.getElem?_eq_getElem (by omega)]
  rfl
 have hH : Go.Sort.HoldsK encT 2 w g 0 dl.toArray := by
  intro t ht2;have ht3 : t < n * 2 := by simpa [hdn] using ht2
  refine ⟨?_, hb.free _⟩;have hj : t / 2 < n := by omega
  have hfj : fair[t / 2]? = some (fair.getD (t / 2) (0, 0)) := by
   rw [List.getD_eq_getElem?_getD, List.getElem?_eq_getElem (by omega)]
   rfl
  have hE := edgeC_get fair (t / 2) _ hfj;rw [← ht, List.getElem?_take, List.getElem?_take, if_pos (by omega), if_pos (by omega), Array.getElem?_toList, Array.getElem?_toList] at hE
  show w.cell? ⟨g, 0 + t, none⟩ = some ((Go.Sort.flatK encT 2 dl.toArray)[t]!)
  rw [Go.Sort.get_flatK _ _ _ _ (by simpa [hdn] using ht3), hget (t / 2) hj dl hdn, hdl, hb.at_, Nat.zero_add];rcases Nat.mod_two_eq_zero_or_one t with h2 | h2
  ·rw [h2];have e : t / 2 * 2 = t := by omega
   rw [e] at hE;exact hE.1
  ·rw [h2];have e : t / 2 * 2 + 1 = t := by omega
   rw [e] at hE;exact hE.2
 have hlt := hb.lt;have hws : w0.heap.size ≤ w.heap.size := by omega
 have hcmp : CmpLays Tryz.prog 96 #[] encT 2 cmpT g 0 dl.toArray.size w := by
  intro m os dk hdk x y;have h := vcompare_ex x.1 y.1 (sortWorldK encT 2 w g 0 m dk os);have e : (#[.agg (encT x).toArray, .agg (encT y).toArray] ++ #[] : Array Value) = #[.agg #[.int .i64 x.1.1, .int .i64 x.1.2], .agg #[.int .i64 y.1.1, .int .i64 y.1.2]] := by simp [encT]
  rw [e];exact h.mono fun e w' ⟨he, hx⟩ => ⟨he, hx.grown⟩
 have h := AnyQ.slices_SortFunc Tryz.laysSortZ 2 (fun _ => by kernel_rfl) (fun _ => by kernel_rfl) encT hk2 (fun x v hv => by simp [encT] at hv; rcases hv with rfl | rfl <;> rfl) cmpT ltT_swo 96 #[] g 0 cap dl.toArray w (enters_of Tryz.func96 (by kernel_rfl) rfl) hcmp hH hlt (by simp [hdn]; omega);have hsz : dl.toArray.size = n := by simp [hdn]
 rw [hsz] at h;refine Calls.mono h ?_;rintro e w' ⟨rfl, d', q, os, ⟨hp1, -, hp2⟩, hso, rfl⟩;obtain ⟨ms⟩ := d';have hmn : ms.length = n := by simpa [hdn] using hp1
 have hx1 : (dl.toArray.extract 0 n).toList = dl := by simp [← hdn]
 have hx2 : ((Array.mk ms).extract 0 n).toList = ms := by simp [← hmn]
 rw [hx1, hx2] at hp2;refine ⟨rfl, ?_, ?_, fun t k hb => hb.sortWorldK encT 2 0 q _ os, ms.map (fun x : ValT => x.1), by rw [List.length_map, hmn], ?_, ?_, ?_⟩
 ·exact below_sortWorldK encT 2 w g 0 q _ os h0 hg hws
 ·exact Nat.lt_of_lt_of_le hlt (size_sortWorldK_c encT 2 w g 0 q _ os)
 ·rw [← hdl];exact hp2.map _
 ·rw [List.pairwise_map, List.pairwise_iff_getElem];intro i j hi hj hij;have h2 := hso i j (Nat.zero_le _) hij (by omega);rw [ltT_eq, getElem!_pos (Array.mk ms) i (by simpa using hi), getElem!_pos (Array.mk ms) j (by simpa using hj)] at h2;exact h2
 ·intro j hj;have hdk : (ms.toArray).size = dl.toArray.size := by simp [hmn, hdn]
  have hh : Go.Sort.HoldsK encT 2 (sortWorldK encT 2 w g 0 q ms.toArray os) g 0 ms.toArray := holdsK_sortWorldK_c encT 2 w g 0 dl.toArray ms.toArray q os hH hlt hdk;have h2 := hh.cell (i := j) (c := 0) (by simpa [hmn] using hj) (by omega);have h3 := hh.cell (i := j) (c := 1) (by simpa [hmn] using hj) (by omega);rw [hget j hj ms hmn, Nat.zero_add] at h2 h3;exact ⟨h2.1, h3.1, h2.2, h3.2⟩
end Go.Proofs.YtjfbeeogiejopaaGreatDoor
namespace Go.Proofs.YtjfbeeogiejopaaGreatDoor
open Go.RowKit Go.Sort
open Go.Lib hiding intOf
attribute [local go_sem ↓] Go.wp_at_zero Go.wp_at_succ
def encP (x : Int × Int) : List Value := [.int .i64 x.1, .int .i64 x.2]
theorem cellsP {w : World} {g : Nat} {d : Array (Int × Int)} (h : HoldsK encP 2 w g 0 d) {i : Nat} (hi : i < d.size) :
  w.cell? ⟨g, i * 2, none⟩ = some (.int .i64 (d[i]!).1) ∧ w.cell? ⟨g, i * 2 + 1, none⟩ = some (.int .i64 (d[i]!).2) ∧ w.frozen? ⟨g, i * 2, none⟩ = false ∧ w.frozen? ⟨g, i * 2 + 1, none⟩ = false := by
 have h0 := h.cell (i := i) (c := 0) hi (by omega);have h1 := h.cell (i := i) (c := 1) hi (by omega);rw [Nat.zero_add] at h0 h1;exact ⟨h0.1, h1.1, h0.2, h1.2⟩
theorem setMany_one (d : Array (Int × Int)) (i : Nat) (u : Int × Int) (hi : i < d.size) : setMany (flatK encP 2 d) (i * 2) (encP u) = flatK encP 2 (d.setIfInBounds i u) := by
 refine ext_get! (by simp) fun t ht => ?_;have ht' : t < d.size * 2 := by simpa using ht
 rw [get_setMany _ _ _ t (by simpa using ht'), get_flatK _ _ _ t ht', get_flatK _ _ _ t (by simpa using ht')]
 by_cases a : i * 2 ≤ t ∧ t < i * 2 + (encP u).length
 ·have hl : (encP u).length = 2 := rfl;rw [hl] at a;rw [if_pos (by rw [hl]; exact a), show t / 2 = i by omega, getElem!_set_same d i _ hi, show t - i * 2 = t % 2 by omega]
 ·have hl : (encP u).length = 2 := rfl;rw [hl] at a;rw [if_neg (by rw [hl]; exact a), getElem!_set_other d i (t / 2) _ (by omega)]
theorem store_worldP {w wr : World} {q g : Nat} {dk : Array (Int × Int)} {i : Nat} (hi : i < dk.size) (hwr : wr = putRowK encP 2 (Sort.ahead w q) g 0 dk) (u : Int × Int) :
  wr.setCells g (i * 2) (encP u) = putRowK encP 2 (Sort.ahead w q) g 0 (dk.setIfInBounds i u) := by
 subst hwr;unfold putRowK;have h := setCells_putRow (Sort.ahead w q) g 0 (encP u) (i * 2) (flatK encP 2 dk) (by rw [size_flatK]; show i * 2 + 2 ≤ _; omega);rw [Nat.zero_add] at h;rw [h, setMany_one dk i u hi]
theorem run_clear2 {P : Program} (w : World) (t e ty : TypeId) (z z0 z1 : Value) (ht : P.underlying t = some (.slice e)) (hv : ∀ w, (zeroValue e).run P w = .ok z w) (hz : z.cells = #[z0, z1]) (h0 : z0.oneCell' = true) (h1 : z1.oneCell' = true) (b o n c : Nat) (hn : 0 < n)
  (hc : ∀ j, j < n * 2 → (w.cell? ⟨b, o + j, none⟩).isSome = true) (hf : ∀ j, j < n * 2 → w.frozen? ⟨b, o + j, none⟩ = false) :
  (Builtin.clear_ #[t] ty #[.slice (some ⟨b, o, none⟩) n c]).run P w = .ok (.tuple #[]) (w.setCells b o (Builtin.zeroCells z.cells n).toList) ∧ (Builtin.zeroCells z.cells n).toList.length = n * 2 := by
 have hlen : (Builtin.zeroCells z.cells n).toList.length = n * 2 := by
  rw [hz];simp [Builtin.zeroCells];try omega
 have hone : ∀ v ∈ (Builtin.zeroCells z.cells n).toList, v.oneCell' = true := by
  intro v hv;rw [hz] at hv;simp [Builtin.zeroCells] at hv;obtain ⟨i, hi, rfl⟩ := hv;rcases Nat.mod_two_eq_zero_or_one i with h2 | h2
  ·simp [h2, h0]
  ·simp [h2, h1]
 refine ⟨?_, hlen⟩;have hst := Go.run_storeCells_cells (P := P) b o (Builtin.zeroCells z.cells n).toList 0 w (by rw [hlen]; simpa using hc) (by rw [hlen]; simpa using hf) hone;simp only [Nat.add_zero] at hst;obtain ⟨m, rfl⟩ : ∃ m, n = m + 1 := ⟨n - 1, by omega⟩;simp [Builtin.clear_, run_underlying ht, hv, hst]
theorem putRowK_below {B : Nat} {a w : World} {g : Nat} (q : Nat) (d : Array (Int × Int)) (hg : B ≤ g) (h : Below B a w) : Below B a (putRowK encP 2 (Sort.ahead w q) g 0 d) := by
 refine ⟨h.os, h.tape, h.output, ?_, fun j hj => ?_⟩
 ·have := h.size;rw [size_putRowK];exact this
 ·show (w.heap.modify g _)[j]? = _
  rw [Array.getElem?_modify, if_neg (by omega)];exact h.block j hj
theorem HasBlk.putRowK {w : World} {g : Nat} {t : TypeId} {n : Nat} (h : HasBlk w g t n) (q : Nat) (d : Array (Int × Int)) : HasBlk (putRowK encP 2 (Sort.ahead w q) g 0 d) g t n :=
 h.modify (Go.Sort.putCells id 0 (Go.Sort.flatK encP 2 d)) (fun cs => by simp [Go.Sort.putCells]) rfl
theorem setCells_below {B b : Nat} {a : World} (hb : B ≤ b) : ∀ (vs : List Value) (o : Nat) (w : World), Below B a w → Below B a (w.setCells b o vs)
 | [], _, _, h => h
 | v :: vs, o, w, h => by
  refine setCells_below hb vs (o + 1) _ ⟨h.os, h.tape, h.output, by simpa [World.setCell] using h.size, fun k hk => ?_⟩;rw [Below.heap_setCell w _ v k (by show k ≠ b; omega)];exact h.block k hk
theorem row_of_low {w : World} {g : Nat} (l : List (Int × Int)) (hg : g < w.heap.size) (h : ∀ j, j < l.length → w.cell? ⟨g, j * 2, none⟩ = some (.int .i64 (l[j]!).1) ∧ w.cell? ⟨g, j * 2 + 1, none⟩ = some (.int .i64 (l[j]!).2)) : Row w w.heap.size (some ⟨g, 0, none⟩) (edgeC l) := by
 refine .inr ⟨g, 0, rfl, hg, Nat.le_refl _, fun t u hu => ?_⟩;have ht : t < l.length * 2 := by rw [← edgeC_len]; exact (List.getElem?_eq_some_iff.1 hu).1
 have hj : t / 2 < l.length := by omega
 obtain ⟨h0, h1⟩ := h (t / 2) hj;have hE := edgeC_get l (t / 2) (l[t / 2]!) (by rw [List.getElem?_eq_getElem hj, getElem!_pos l (t / 2) hj]);rw [Nat.zero_add];rcases Nat.mod_two_eq_zero_or_one t with h2 | h2
 ·have e : t / 2 * 2 = t := by omega
  rw [e] at h0 hE;rw [h0];rw [hE.1] at hu;exact hu
 ·have e : t / 2 * 2 + 1 = t := by omega
  rw [e] at h1 hE;rw [h1];rw [hE.2] at hu;exact hu
theorem vcompact_own (w0 w : World) (g cap n : Nat) (d : Array (Int × Int)) (hl : d.size = n) (hN : n ≤ 1000) (hcap : n ≤ cap) (hH : HoldsK encP 2 w g 0 d) (hg : w0.heap.size ≤ g) (hlt : g < w.heap.size) (h0 : Below w0.heap.size w0 w) :
  Calls Tryz.prog 97 #[.slice (some ⟨g, 0, none⟩) n cap] w fun e w' => e = .returned (.slice (some ⟨g, 0, none⟩) (compactUpTo d n).length cap) ∧ Below w0.heap.size w0 w' ∧ Row w' w'.heap.size (some ⟨g, 0, none⟩) (edgeC (compactUpTo d n)) ∧ ∀ t k, HasBlk w g t k → HasBlk w' g t k := by
 have HH := Hd hH;have HB := Hd (fun q dk => putRowK_below (B := w0.heap.size) (a := w0) (w := w) (g := g) q dk hg h0);have hsame : ∀ q, (∀ j, j < n → keeps d j = true) → compactUpTo d n = d.toList ∧ Below w0.heap.size w0 (w.drewN q) ∧ Row (w.drewN q) (w.drewN q).heap.size (some ⟨g, 0, none⟩) (edgeC d.toList) := by
  intro q hall;refine ⟨by rw [compactUpTo_all d _ hall, ← hl, range_map_get], ⟨h0.os, h0.tape, h0.output, h0.size, h0.block⟩, row_of_low d.toList hlt fun j hj => ?_⟩;have hj' : j < d.size := by simpa using hj
  have h := cellsP hH hj';rw [getElem!_pos d j hj'] at h;rw [getElem!_pos d.toList j hj];exact ⟨h.1, h.2.1⟩
 have HS := Hd hsame;have HL := Hd hl;clear hH hsame h0 hl
 by_cases h2 : n < 2
 ·have hd1 : decide ((n : Int) < 2) = true := by simp; omega
  have hd2 : (n : Int) < 2 := by omega
  go_enter Tryz.func97, Tryz.ntmps97;go_wp2
  go_ret
  obtain ⟨e1, e2, e3⟩ := HS.out 0 (fun j hj => keeps_lt_one d j (by omega));rw [e1];exact ⟨by rw [Array.length_toList, HL.out]; rfl, e2, e3, fun t k hb => hb⟩
 ·have hd1 : decide ((n : Int) < 2) = false := by simp; omega
  have hd2 : ¬ (n : Int) < 2 := by omega
  go_enter Tryz.func97, Tryz.ntmps97;go_wp2_with fail
  go_loopw [3] (fun s3 wr => ∃ k q : Nat, 1 ≤ k ∧ k ≤ n ∧ s3 = .int .i64 k ∧ Hid (wr = w.drewN q) ∧ Hid (∀ j, j < k → keeps d j = true)) (fun s3 _ => n - (intOf s3).toNat)
  case atStart => exact ⟨1, 0, Nat.le_refl _, by omega, rfl, rfl, keeps_lt_one d⟩
  case round =>
   obtain ⟨k, q, hk1, hk, rfl, hw, hall⟩ := hrel
   by_cases hlt1 : k < n
   ·obtain ⟨c0, c1, -, -⟩ := cellsP HH.out (i := k) (by rw [HL.out]; exact hlt1);obtain ⟨p0, p1, -, -⟩ := cellsP HH.out (i := k - 1) (by rw [HL.out]; omega);obtain ⟨x, hx⟩ : ∃ x, x = d[k]! := ⟨_, rfl⟩;obtain ⟨y, hy⟩ : ∃ y, y = d[k - 1]! := ⟨_, rfl⟩;rw [← hx] at c0 c1;rw [← hy] at p0 p1;have HX := Hd hx;have HY := Hd hy;clear hx hy;obtain ⟨x0, x1⟩ := x;obtain ⟨y0, y1⟩ := y;dsimp only at c0 c1 p0 p1;have c0' : wr.cell? ⟨g, k * 2, none⟩ = some (.int .i64 x0) := by rw [hw.out]; exact c0
    have c1' : wr.cell? ⟨g, k * 2 + 1, none⟩ = some (.int .i64 x1) := by rw [hw.out]; exact c1
    have p0' : wr.cell? ⟨g, (k - 1) * 2, none⟩ = some (.int .i64 y0) := by rw [hw.out]; exact p0
    have p1' : wr.cell? ⟨g, (k - 1) * 2 + 1, none⟩ = some (.int .i64 y1) := by rw [hw.out]; exact p1
    clear c0 c1 p0 p1;have hk0 : (0 : Int) ≤ (k : Int) := Int.natCast_nonneg _;have hkn : (k : Int) < (n : Int) := by omega
    by_cases hdup : x0 = y0 ∧ x1 = y1
    ·obtain ⟨rfl, rfl⟩ := hdup;go_wp2_with fail
     go_quiet (fail)
     go_wp2
     clear c0' c1' p0' p1';obtain ⟨wo, hwo⟩ : ∃ wo : World, wo = wr := ⟨_, rfl⟩;subst hwo
     go_loopw [3, 5] (fun s3 s5 wi => ∃ (kk k2 q2 : Nat) (dk : Array (Int × Int)), s3 = .int .i64 kk ∧ s5 = .int .i64 k2 ∧ 1 ≤ k2 ∧ k + k2 ≤ n ∧ Hid (wi = putRowK encP 2 (Sort.ahead w q2) g 0 dk) ∧ Hid (CompInv d (k + k2) kk dk)) (fun _ s5 _ => n - (intOf s5).toNat)
     case atStart =>
      refine ⟨k, 1, q + nq, d, rfl, rfl, Nat.le_refl _, by omega, ?_, CompInv.start hall.out (keeps_neg (by omega) (by rw [← HX.out, ← HY.out]))⟩
      show wo.drewN nq = _
      rw [putRowK_self encP 2 (Sort.ahead w (q + nq)) g 0 d (holdsK_ahead encP 2 w (q + nq) g 0 d HH.out), hw.out];exact World.drewN_drewN w q nq
     case round =>
      obtain ⟨kk, k2, q2, dk, rfl, rfl, h21, hle, hwi, hI⟩ := hrel;have hkk := hI.out.lt;have hds := hI.out.size;rw [HL.out] at hds;have hHk : HoldsK encP 2 wr g 0 dk := by rw [hwi.out]; exact holdsK_putRowK encP 2 _ g 0 d dk (holdsK_ahead encP 2 w q2 g 0 d HH.out) hI.out.size
      by_cases hlt2 : k + k2 < n
      ·obtain ⟨m0, m1, -, -⟩ := cellsP hHk (i := k + k2) (by omega);obtain ⟨r0, r1, -, -⟩ := cellsP hHk (i := k + k2 - 1) (by omega);obtain ⟨s0, s1, f0, f1⟩ := cellsP hHk (i := kk) (by omega);rw [hI.out.high (k + k2) (by omega), show (k + k2) * 2 = k * 2 + k2 * 2 by omega] at m0 m1;rw [hI.out.high (k + k2 - 1) (by omega), show (k + k2 - 1) * 2 = k * 2 + (k2 - 1) * 2 by omega] at r0 r1;clear hHk;obtain ⟨u, hu⟩ : ∃ u, u = d[k + k2]! := ⟨_, rfl⟩;obtain ⟨v, hv⟩ : ∃ v, v = d[k + k2 - 1]! := ⟨_, rfl⟩;rw [← hu] at m0 m1;rw [← hv] at r0 r1;generalize dk[kk]! = old at s0 s1;have HU := Hd hu;have HV := Hd hv;clear hu hv;obtain ⟨u0, u1⟩ := u;obtain ⟨v0, v1⟩ := v;dsimp only at m0 m1 r0 r1;have hkk0 : (0 : Int) ≤ (kk : Int) := Int.natCast_nonneg _;have hkkn : (kk : Int) < (n : Int) := by omega
       have hk20 : (0 : Int) ≤ (k2 : Int) := Int.natCast_nonneg _;have hk2n : (k2 : Int) < ((n - k : Nat) : Int) := by omega
       have hk2b : k2 ≤ 1000 := by omega
       have hwk : IntKind.i64.wrap ((k2 : Int) - 1) = (k2 : Int) - 1 := IntWalk.i64_in _ (by omega);have hm1 : (0 : Int) ≤ (k2 : Int) - 1 := by omega
       have hm2 : (k2 : Int) - 1 < ((n - k : Nat) : Int) := by omega
       have hm3 : ((k2 : Int) - 1).toNat = k2 - 1 := by omega
       have hm4 : k2 ≤ n - k := by omega
       have hm5 : (k2 : Int) ≤ ((n - k : Nat) : Int) := by omega
       have hm6 : (1 : Int) ≤ (k2 : Int) := by omega
       have hm7 : k2 - 1 < n - k := by omega
       have hm8 : k2 < n - k := by omega
       by_cases huv : u0 = v0 ∧ u1 = v1
       ·obtain ⟨rfl, rfl⟩ := huv;go_wp2_with fail
        go_quiet (fail)
        go_wp2
        go_roundw
        case rel =>
         refine ⟨kk, k2 + 1, q2 + nq, dk, rfl, by go_num, by omega, by omega, ?_, hI.out.skip (keeps_neg (by omega) (by rw [← HU.out, ← HV.out]))⟩
         show wr.drewN nq = _
         rw [hwi.out, putRowK_drewN]
        case measure => simp [intOf]; omega
       ·have hcase : (u0 == v0) = false ∨ ((u0 == v0) = true ∧ (u1 == v1) = false) := by
         by_cases e0 : u0 = v0
         ·exact .inr ⟨by simp [e0], by simp; exact fun e1 => huv ⟨e0, e1⟩⟩
         ·exact .inl (by simp [e0])
        have HNE := Hd huv;clear huv;rcases hcase with hb0 | ⟨hb0, hb1⟩
        all_goals
         go_wp2_with fail
         go_quiet (fail)
         go_wp2
         go_roundw
         case rel =>
          refine ⟨kk + 1, k2 + 1, q2 + nq, dk.setIfInBounds kk (u0, u1), by go_num, by go_num, by omega, by omega, ?_, ?_⟩
          ·exact store_worldP (wr := wr.drewN nq) (by omega) (by rw [hwi.out, putRowK_drewN]) (u0, u1)
          ·have h := hI.out.keep (by rw [HL.out]; omega) (keeps_pos (by rw [← HU.out, ← HV.out]; intro h; exact HNE.out ⟨congrArg Prod.fst h, congrArg Prod.snd h⟩));rw [← HU.out] at h;exact h
         case measure => simp [intOf]; omega
      ·have hend : k + k2 = n := by omega
       have hcl := fun ty => run_clear2 (P := Tryz.prog) wr 33 38 ty (.agg #[.int .i64 0, .int .i64 0]) (.int .i64 0) (.int .i64 0) Tryz.underlying33 (fun _ => by kernel_rfl) rfl rfl rfl g (kk * 2) (n - kk) (cap - kk) (by omega)
        (fun j hj => by
         have h := (hHk (kk * 2 + j) (by rw [size_flatK]; omega)).1;rw [Nat.zero_add] at h;rw [h]; rfl)
        (fun j hj => by
         have h := (hHk (kk * 2 + j) (by rw [size_flatK]; omega)).2;rw [Nat.zero_add] at h;exact h)
       have HHK := Hd hHk;clear hHk;generalize (Builtin.zeroCells (Value.agg #[.int .i64 0, .int .i64 0]).cells (n - kk)).toList = vs at hcl;have hcl1 := fun ty => (hcl ty).1;clear hcl;have hkk0 : (0 : Int) ≤ (kk : Int) := Int.natCast_nonneg _;have hkkn : (kk : Int) ≤ (n : Int) := by omega
       have hkkc : kk ≤ cap := by omega
       go_wp2
       go_ret
       have hI2 := hI.out;rw [hend] at hI2;have hlen := hI2.len;refine ⟨by rw [hlen]; rfl, setCells_below hg vs _ _ (by rw [hwi.out]; exact HB.out q2 dk), ?_, fun t k hb => HasBlk.setCells (by rw [hwi.out]; exact hb.putRowK q2 dk) _ _⟩;have hgw : g < (wr.setCells g (kk * 2) vs).heap.size := by
        rw [size_setCells, hwi.out, size_putRowK];exact hlt
       refine row_of_low _ hgw fun j hj => ?_;rw [hlen] at hj;have hc := cellsP HHK.out (i := j) (by omega);have hlow := hI2.low j hj;have e : (compactUpTo d n)[j]! = dk[j]! := by rw [List.getElem!_eq_getElem?_getD, hlow]; rfl
       rw [e];rw [World.cell?_setCells_out g vs (kk * 2) wr ⟨g, j * 2, none⟩ (fun _ _ => .inl (by show j * 2 < kk * 2; omega)), World.cell?_setCells_out g vs (kk * 2) wr ⟨g, j * 2 + 1, none⟩ (fun _ _ => .inl (by show j * 2 + 1 < kk * 2; omega))];exact ⟨hc.1, hc.2.1⟩
    ·have hcase : (x0 == y0) = false ∨ ((x0 == y0) = true ∧ (x1 == y1) = false) := by
      by_cases e0 : x0 = y0
      ·exact .inr ⟨by simp [e0], by simp; exact fun e1 => hdup ⟨e0, e1⟩⟩
      ·exact .inl (by simp [e0])
     have HNE := Hd hdup;clear hdup;rcases hcase with hb0 | ⟨hb0, hb1⟩
     all_goals
      go_wp2_with fail
      go_quiet (fail)
      go_wp2
      go_roundw
      case rel =>
       refine ⟨k + 1, q + nq, by omega, by omega, by go_num, by show _ = _; rw [hw.out, World.drewN_drewN], fun j hj => ?_⟩
       by_cases e : j = k
       ·subst e;exact keeps_pos (by rw [← HX.out, ← HY.out]; intro h; exact HNE.out ⟨congrArg Prod.fst h, congrArg Prod.snd h⟩)
       ·exact hall.out j (by omega)
      case measure => simp [intOf]; omega
   ·have hkn : k = n := by omega
    subst hkn;go_wp2
    go_ret
    obtain ⟨e1, e2, e3⟩ := HS.out q hall.out;rw [e1, hw.out];exact ⟨by rw [Array.length_toList, HL.out]; rfl, e2, e3, fun t k hb => hb⟩
end Go.Proofs.YtjfbeeogiejopaaGreatDoor
