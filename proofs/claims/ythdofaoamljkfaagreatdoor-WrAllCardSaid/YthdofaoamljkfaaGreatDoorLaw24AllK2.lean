/- Parts. -/
import Derived.Test.YthdofaoamljkfaaGreatDoorLaw24AllK1
import Derived.Maps.OwnRows
import Derived.Maps.Views
import Derived.WideKeyEntry
import Derived.Maps.OwnSet
import Derived.Maps.RangeWalk
import Derived.Sort.Grow
set_option maxRecDepth 10000
set_option maxHeartbeats 16000000
set_option linter.unusedVariables false
set_option linter.unusedSimpArgs false
namespace Go.Proofs.YthdofaoamljkfaaGreatDoor
open Go.RowKit Go.ChangeMaps Go.MapKept
open Go.WideElems (Fit rd rg pl rd_val elemAt findIdx_born findIdx_arr modify_last set_self)
open Go.Maps (Keyed)
section
variable {H : Type} {P : Program} {w : World} {t k E : TypeId} {R : Value → Option (DataW H × List MemPlace)} {b : Nat} {es : Array MapEntry} {clock : Nat}
theorem keys_one {l : List MapEntry} (hn : (l.map (·.key)).Nodup) {i j : Nat} {x y : MapEntry} (hi : l[i]? = some x) (hj : l[j]? = some y) (e : x.key = y.key) : i = j ∧ x = y := by
 have hp := List.pairwise_iff_getElem.1 hn;obtain ⟨hil, hie⟩ := List.getElem?_eq_some_iff.1 hi;obtain ⟨hjl, hje⟩ := List.getElem?_eq_some_iff.1 hj;have hij : i = j := by
  rcases Nat.lt_trichotomy i j with h | h | h
  ·refine absurd ?_ (hp i j (by simpa using hil) (by simpa using hjl) h); rw [List.getElem_map, List.getElem_map, hie, hje, e]
  ·exact h
  ·refine absurd ?_ (hp j i (by simpa using hjl) (by simpa using hil) h); rw [List.getElem_map, List.getElem_map, hie, hje, e]
 subst hij;rw [hi] at hj;exact ⟨rfl, Option.some.inj hj⟩
theorem entry_two (K : Keyed P k) (ht : P.underlying t = some (.map k E)) {z : Value} (hz : ∀ u : World, (zeroValue E).run P u = .ok z u) (hb : w.heap[b]? = some (.map es clock)) (F : Fit P k R es clock)
  {key : Value} {kl : Lit} (hkey : keyOf P k key = some kl) :
  ∃ (v0 : Value) (st : Nat) (es1 : Array MapEntry) (clock1 : Nat), (Instr.mapEntry t (.map (some b)) key).run P w = .ok (.tuple #[v0, goInt st]) (setBlock w b (.map es1 clock1)) ∧
   ((∃ e0 ∈ es.toList, e0.key = key ∧ v0 = e0.val) ∨ ((∀ x ∈ es.toList, x.key ≠ key) ∧ v0 = z)) ∧
   ∀ (w2 : World) (val : Value), w2.heap[b]? = some (.map es1 clock1) → ∃ es' clock', (Instr.entryStore t (.map (some b)) (goInt st) val).run P w2 = .ok () (setBlock w2 b (.map es' clock')) ∧
    ∀ w0 : World, w0.heap[b]? = some (.map es clock) → (Instr.mapUpdate t (.map (some b)) key val).run P w0 = .ok () (setBlock w0 b (.map es' clock')) := by
 obtain ⟨s1, s2, s3⟩ := F.stamped;rcases K.find w hkey es.toList F.keys with ⟨h1, h2⟩ | ⟨j, e0, h1, h2, h3⟩
 ·refine ⟨z, clock, es.push ⟨key, z, clock⟩, clock + 1, ?_, Or.inr ⟨h2, rfl⟩, fun w2 val hw2 => ⟨es.push ⟨key, val, clock⟩, clock + 1, ?_, fun w0 hw0 => ?_⟩⟩
  ·simp [Instr.mapEntry, run_underlying ht, MapKept.run_getObj_map hb, K.check w false hkey, h1, hz, MapKept.run_setObj_map _ hb, Result.andThen, setBlock]
  ·have hidx : (es.push ⟨key, z, clock⟩).findIdx? (fun e => ((e.born : Nat) : Int) == ((clock : Nat) : Int)) = some es.size := by
    rw [findIdx_arr];have := findIdx_born (l := (es.push ⟨key, z, clock⟩).toList) (j := es.size) (e0 := ⟨key, z, clock⟩) (by
     simp only [Array.toList_push, List.map_append, List.map_cons, List.map_nil];refine List.nodup_append.2 ⟨s2, by simp, fun a ha c hc e1 => ?_⟩;simp only [List.mem_singleton] at hc;obtain ⟨x, hx, rfl⟩ := List.mem_map.1 ha;have := s1 x hx;omega) (by simp)
    exact this
   have hmod : (es.push ⟨key, z, clock⟩).modify es.size (fun e => { e with val := val }) = es.push ⟨key, val, clock⟩ := by
    apply Array.ext'
    rw [Array.toList_modify, Array.toList_push, Array.toList_push, ← Array.length_toList, modify_last]
   simp [Instr.entryStore, MapKept.run_getObj_map hw2, asInt, asIntOf, goInt, hidx, hmod, MapKept.run_setObj_map _ hw2, Result.andThen, setBlock]
  ·rcases K.find w0 hkey es.toList F.keys with ⟨g1, -⟩ | ⟨j, e0, -, g2, g3⟩
   ·simp [Instr.mapUpdate, run_underlying ht, MapKept.run_getObj_map hw0, K.check w0 false hkey, g1, MapKept.run_setObj_map _ hw0, Result.andThen, setBlock]
   ·exact absurd g3 (h2 e0 (List.mem_of_getElem? g2))
 ·have hj : es[j]? = some e0 := by simpa using h2
  have hsame : es.modify j (fun e => { e with key := key }) = es := by
   apply Array.ext'
   rw [Array.toList_modify, modify_eq_set _ _ _ _ h2];have : ({ e0 with key := key } : MapEntry) = e0 := by rw [← h3]
   rw [this];exact set_self _ _ _ h2
  refine ⟨e0.val, e0.born, es, clock, ?_, Or.inl ⟨e0, List.mem_of_getElem? h2, h3, rfl⟩, fun w2 val hw2 => ⟨es.modify j (fun e' => { e' with key := key, val := val }), clock, ?_, fun w0 hw0 => ?_⟩⟩
  ·simp [Instr.mapEntry, run_underlying ht, MapKept.run_getObj_map hb, K.check w false hkey, h1, hj, h3, K.stays w hkey, hsame, MapKept.run_setObj_map _ hb, Result.andThen, setBlock]
  ·have hidx : es.findIdx? (fun e => ((e.born : Nat) : Int) == ((e0.born : Nat) : Int)) = some j := by
    rw [findIdx_arr];exact findIdx_born s2 h2
   have hmod : es.modify j (fun e => { e with val := val }) = es.modify j (fun e' => { e' with key := key, val := val }) := by
    apply Array.ext'
    rw [Array.toList_modify, Array.toList_modify, modify_eq_set _ _ _ _ h2, modify_eq_set _ _ _ _ h2, ← h3]
   simp [Instr.entryStore, MapKept.run_getObj_map hw2, asInt, asIntOf, goInt, hidx, hmod, MapKept.run_setObj_map _ hw2, Result.andThen, setBlock]
  ·rcases K.find w0 hkey es.toList F.keys with ⟨-, g1⟩ | ⟨j', e0', g1, g2, g3⟩
   ·exact absurd h3 (g1 e0 (List.mem_of_getElem? h2))
   ·obtain ⟨rfl, rfl⟩ := keys_one s3 h2 g2 (h3.trans g3.symm);simp [Instr.mapUpdate, run_underlying ht, MapKept.run_getObj_map hw0, K.check w0 false hkey, g1, hj, h3, K.stays w0 hkey, MapKept.run_setObj_map _ hw0, Result.andThen, setBlock]
variable {base : Nat} {e : TypeId} {q : IntKind} {n : Nat} {D : DataW H}
theorem set_set (w : World) (b : Nat) (x y : Obj) : setBlock (setBlock w b x) b y = setBlock w b y := by
 unfold setBlock;simp
theorem set_only (w : World) (b : Nat) {es0 : Array MapEntry} {cl0 : Nat} (y : Obj) (hb : w.heap[b]? = some (.map es0 cl0)) : w.grownBy (setBlock w b y) (some b) := ⟨rfl, rfl, rfl, by simp [setBlock], fun i _ hi => heap_setBlock_other hb _ (fun e1 => hi (by rw [e1]))⟩
theorem groups_entry (h : w.ownsGroups P k base e q b n D) (K : Keyed P k) (ht : P.underlying t = some (.map k E)) (hz : ∀ u : World, (zeroValue E).run P u = .ok (.slice none 0 0) u) (hn : n < maxLen) {key : Value} {kl : Lit} (hkey : keyOf P k key = some kl) :
  ∃ (v : Value) (zs : List Int) (st : Nat) (w1 : World), (Instr.mapEntry t (.map (some b)) key).run P w = .ok (.tuple #[v, goInt st]) w1 ∧ D.atKey kl .nil = rowDatum q v zs ∧ w1.ownsInts base e q v zs ∧ zs.length ≤ n ∧ w.grownBy w1 (some b) ∧
   ∀ (w2 : World) (v' : Value) (zs' : List Int), w1.grownBy w2 v.ownBlock → w2.ownsInts base e q v' zs' → zs'.length ≤ n + 1 → (v'.ownBlock = v.ownBlock ∨ ∃ g, v'.ownBlock = some g ∧ w1.heap.size ≤ g) →
    ∃ w3, (Instr.entryStore t (.map (some b)) (goInt st) v').run P w2 = .ok () w3 ∧ w3.ownsGroups P k base e q b (n + 1) (D.put kl (rowDatum q v' zs')) ∧ w2.grownBy w3 (some b) := by
 obtain ⟨v, zs, hrun, hat, hoi, hzl, hback⟩ := h.at K ht (hz w) hn hkey;obtain ⟨es, clock, hb, F, hs, rfl, hbb, hlen, hap⟩ := h;obtain ⟨v0, st, es1, clock1, hme, hv0, hst⟩ := entry_two K ht hz hb F hkey;have hblt : b < w.heap.size := (Array.getElem?_eq_some_iff.1 hb).1;have hev : v = v0 := by
  rcases Maps.fit_look false K ht (hz w) hb F hkey with ⟨hr, hno, -⟩ | ⟨x, y, hx, hxk, hr, -⟩
  ·rw [hrun] at hr;obtain rfl : v = .slice none 0 0 := by simpa using hr
   rcases hv0 with ⟨e0, he0, hk0, rfl⟩ | ⟨-, rfl⟩
   ·exact absurd hk0 (hno e0 he0)
   ·rfl
  ·rw [hrun] at hr;obtain rfl : v = x.val := by simpa using hr
   rcases hv0 with ⟨e0, he0, hk0, rfl⟩ | ⟨hno, -⟩
   ·obtain ⟨i, hi⟩ := List.mem_iff_getElem?.1 hx;obtain ⟨j, hj⟩ := List.mem_iff_getElem?.1 he0;obtain ⟨-, rfl⟩ := keys_one F.stamped.2.2 hi hj (hxk.trans hk0.symm)
    rfl
   ·exact absurd hxk (hno x hx)
 subst hev;have hvb : v.ownBlock = none ∨ v.ownBlock ≠ some b := by
  cases hv : v.ownBlock with
  | none => exact .inl rfl
  | some g =>
   have := (hoi.1.lt g hv).1;exact .inr (fun e1 => by cases e1; omega)
 have hg1 := set_only w b (.map es1 clock1) hb;refine ⟨v, zs, st, _, hme, hat, hoi.kept hg1 hvb, hzl, hg1, fun w2 v' zs' hg hown hl hloc => ?_⟩;have hb2 : w2.heap[b]? = some (.map es1 clock1) := (hg.block b (by simpa [setBlock] using hblt) (fun e1 => by
  rcases hvb with h1 | h1
  ·rw [h1] at e1; cases e1
  ·exact h1 e1.symm)).trans (heap_setBlock_same hb _)
 obtain ⟨es', clock', hes, hup⟩ := hst w2 v' hb2;have hg0 := set_only w2 b (.map es clock) hb2;have hvb' : v'.ownBlock = none ∨ v'.ownBlock ≠ some b := by
  cases hv : v'.ownBlock with
  | none => exact .inl rfl
  | some g =>
   have := (hown.1.lt g hv).1;exact .inr (fun e1 => by cases e1; omega)
 have hsz : (setBlock w b (.map es1 clock1)).heap.size = w.heap.size := by simp [setBlock]
 obtain ⟨w3, hr3, hg3, hh3⟩ := hback (setBlock w2 b (.map es clock)) v' zs' ⟨hg0.os.trans hg.os, hg0.tape.trans hg.tape, hg0.output.trans hg.output, by have := hg.size; rw [hsz] at this; simpa [setBlock] using this, fun i hi hne => by
  by_cases e1 : i = b
  ·subst e1;rw [heap_setBlock_same hb2, hb]
  ·rw [heap_setBlock_other hb2 _ e1, hg.block i (by rw [hsz]; exact hi) hne, heap_setBlock_other hb _ e1]⟩ (hown.kept hg0 hvb') hl (by
   rcases hloc with h1 | ⟨g, h1, h2⟩
   ·exact .inl h1
   ·exact .inr ⟨g, h1, by rwa [hsz] at h2⟩)
 rw [hup _ (heap_setBlock_same hb2 _)] at hr3;obtain rfl : setBlock (setBlock w2 b (.map es clock)) b (.map es' clock') = w3 := by simpa using hr3
 rw [set_set] at hg3;exact ⟨_, hes, hg3, set_only w2 b _ hb2⟩
end
theorem wpList_mapEntry_groups {H : Type} {P : Program} (w : World) {ops : Array Oper} {rest : List Oper} {o : Oper} {a : Act} {Q : Exit → Act → World → Prop}
  (hg : o.guard = none) (m x : Operand) (t : TypeId) (hop : o.op = Op.mapEntry t m x)
  (k E e : TypeId) (q : IntKind) (K : Keyed P k) (ht : P.underlying t = some (.map k E)) (hz : ∀ u : World, (zeroValue E).run P u = .ok (.slice none 0 0) u) (base b n : Nat) (D : DataW H)
  (hm : a.eval m = .map (some b)) (hown : w.ownsGroups P k base e q b n D) (hn : n < maxLen) (key : Value) (kl : Lit) (hx : a.eval x = key) (hkey : keyOf P k key = some kl)
  (hK : ∀ v zs st w1, D.atKey kl .nil = rowDatum q v zs → w1.ownsInts base e q v zs → zs.length ≤ n → w.grownBy w1 (some b) →
   (∀ (w2 : World) (v' : Value) (zs' : List Int), w1.grownBy w2 v.ownBlock → w2.ownsInts base e q v' zs' → zs'.length ≤ n + 1 → (v'.ownBlock = v.ownBlock ∨ ∃ g, v'.ownBlock = some g ∧ w1.heap.size ≤ g) →
    ∃ w3, (Instr.entryStore t (.map (some b)) (.int .i64 ((st : Nat) : Int)) v').run P w2 = .ok () w3 ∧ w3.ownsGroups P k base e q b (n + 1) (D.put kl (rowDatum q v' zs')) ∧ w2.grownBy w3 (some b)) →
   wpList P ops Q rest (a.put o.dst (.tuple #[v, .int .i64 ((st : Nat) : Int)])) w1) :
  wpList P ops Q (o :: rest) a w := by
 refine wpList_plain hg fun K' hK' => ?_;obtain ⟨v, zs, st, w1, hrun, hat, hoi, hzl, hgr, hback⟩ := groups_entry hown K ht hz hn hkey;unfold Oper.wp;simp [execOp, hop, hm, hx, hrun, Result.andThen];exact hK' _ _ (hK v zs st w1 hat hoi hzl hgr hback)
theorem wpList_entryStore_run {P : Program} (w w3 : World) {ops : Array Oper} {rest : List Oper} {o : Oper} {a : Act} {Q : Exit → Act → World → Prop}
  (hg : o.guard = none) (m s x : Operand) (t : TypeId) (hop : o.op = Op.entryStore t m s x) (b : Nat) (st v : Value)
  (hm : a.eval m = .map (some b)) (hs : a.eval s = st) (hx : a.eval x = v) (hrun : (Instr.entryStore t (.map (some b)) st v).run P w = .ok () w3)
  (hK : wpList P ops Q rest (a.put o.dst undef) w3) :
  wpList P ops Q (o :: rest) a w := by
 refine wpList_plain hg fun K' hK' => ?_;unfold Oper.wp;simp [execOp, hop, hm, hs, hx, hrun, Result.andThen];exact hK' _ _ hK
end Go.Proofs.YthdofaoamljkfaaGreatDoor
namespace Go.Proofs.YthdofaoamljkfaaGreatDoor
open Go.RowKit
section
variable {H : Type} {P : Program} {w w' : World} {k : TypeId} {R : Value → Option (DataW H × List MemPlace)} {b n r : Nat} {D : DataW H} {S : List Nat}
variable {left : Lit → Bool} {cnt : Nat}
end
structure ExV (w w' : World) : Prop where
 only : Only [] w w'
 drawn : w.drawn ≤ w'.drawn
section
variable {w w' w'' : World}
theorem ExV.refl (w : World) : ExV w w := ⟨Only.refl [] w, Nat.le_refl _⟩
theorem ExV.trans (h : ExV w w') (k : ExV w' w'') : ExV w w'' := ⟨h.only.trans k.only, Nat.le_trans h.drawn k.drawn⟩
theorem ExV.alloc (h : ExV w w') (o : Obj) : ExV w (w'.alloc o) := ⟨h.only.alloc o, h.drawn⟩
theorem ExV.drewN (h : ExV w w') (n : Nat) : ExV w (w'.drewN n) := ⟨h.only.drewN n, Nat.le_trans h.drawn (by show w'.drawn ≤ w'.drawn + n; omega)⟩
theorem ExV.drew (h : ExV w w') : ExV w w'.drew := ⟨h.only.drew, Nat.le_trans h.drawn (by show w'.drawn ≤ w'.drawn + 1; omega)⟩
theorem ExV.put (h : ExV w w') {p : Addr} (hp : p.block < w.heap.size → p.block ∈ ([] : List Nat)) (u : Value) : ExV w (w'.setCell p u) := ⟨h.only.put hp u, h.drawn⟩
theorem ExV.blk {g : Nat} {t : TypeId} {cs : Array Value} (h : ExV w w') (hb : Blk w g t cs) (hg : g ∉ ([] : List Nat)) : Blk w' g t cs := h.only.blk hb hg
theorem ExV.size (h : ExV w w') : w.heap.size ≤ w'.heap.size := h.only.size
end
theorem ExV.grown {w w' : World} (h : ExV w w') : ∃ q os, w' = Go.Sort.grow (w.drewN q) os := by
 have hb : Below w.heap.size w w' := h.only.below (Nat.le_refl _) (by simp);refine ⟨w'.drawn - w.drawn, w'.heap.extract w.heap.size w'.heap.size, ?_⟩;have hd := h.drawn;obtain ⟨heap', tape', drawn', os', output'⟩ := w';have e1 : os' = w.os := hb.os;have e2 : tape' = w.tape := hb.tape;have e3 : output' = w.output := hb.output;have hs : w.heap.size ≤ heap'.size := hb.size;have hk' : ∀ k, k < w.heap.size → heap'[k]? = w.heap[k]? := hb.block;have hd' : w.drawn ≤ drawn' := hd;subst e1 e2 e3;have eh : heap' = w.heap ++ heap'.extract w.heap.size heap'.size := by
  apply Array.ext_getElem?
  intro k
  by_cases hk : k < w.heap.size
  ·rw [Array.getElem?_append_left hk]; exact hk' k hk
  ·rw [Array.getElem?_append_right (by omega), Array.getElem?_extract]
   by_cases hk2 : k < heap'.size
   ·rw [if_pos (by omega)]; congr 1; omega
   ·rw [if_neg (by omega), Array.getElem?_eq_none (by omega)]
 have ed : w.drawn + (drawn' - w.drawn) = drawn' := by omega
 simp only [Go.Sort.grow, World.drewN, ed]
 congr 1
def mayB (k n : Int) : Bool := decide (k = 1) || (decide (k = 0 ∨ k = 2) && decide (n = 0))
theorem ret_boolv {a b : Bool} (h : a = b) : Ending.returned (.bool a) = .returned (.bool b) := by rw [h]
theorem vmay_any (k n : Int) (w : World) : Calls Tryz.prog 80 #[.agg #[.int .i64 k, .int .i64 n]] w fun e w' => e = .returned (.bool (mayB k n)) ∧ Only [] w w' := by
 unfold mayB
 by_cases h1 : k = 1
 ·subst h1;go_enter Tryz.func80, Tryz.ntmps80;go_wp2
  go_ret
  exact ⟨by simp, (Only.refl _ _).alloc _⟩
 ·have h1' : (k == 1) = false := by simp [h1]
  have H1 := Hd h1;clear h1
  by_cases h0 : k = 0
  ·subst h0;go_enter Tryz.func80, Tryz.ntmps80;go_wp2
   go_ret
   exact ⟨ret_boolv (by simp; try (rw [Bool.eq_iff_iff]; simp)), (Only.refl _ _).alloc _⟩
  ·have h0' : (k == 0) = false := by simp [h0]
   have H0 := Hd h0;clear h0
   by_cases h2 : k = 2
   ·subst h2;go_enter Tryz.func80, Tryz.ntmps80;go_wp2
    go_ret
    exact ⟨ret_boolv (by simp; try (rw [Bool.eq_iff_iff]; simp)), (Only.refl _ _).alloc _⟩
   ·have h2' : (k == 2) = false := by simp [h2]
    have H2 := Hd h2;clear h2;go_enter Tryz.func80, Tryz.ntmps80;go_wp2
    go_ret
    exact ⟨ret_boolv (by simp [H0.out, H1.out, H2.out]), (Only.refl _ _).alloc _⟩
def bK (t : Int) : Int := if t = 1 then 1 else if t = 2 then 2 else 0
def bE (t : Int) : Int := if t = 0 ∨ t = 1 ∨ t = 2 then 0 else 15
def lessBV (k m k' m' : Int) : Bool := if k = k' then decide (k = 1 ∧ m < m') else decide (k < k')
def cK (k : Int) : Int := if k = 1 then 1 else if k = 2 then 2 else 0
def cN (k n : Int) : Int := if k = 1 then n else 0
end Go.Proofs.YthdofaoamljkfaaGreatDoor
