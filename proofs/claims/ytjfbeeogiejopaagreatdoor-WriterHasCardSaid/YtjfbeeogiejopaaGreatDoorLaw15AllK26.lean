/- The package hist: May. Which transactions of a history are asked for. Mathematics. What is told of a history's ops and transactions. Mathematics. What a call leaves of the world when it changes nothing that was there and winds the tape not back: some draws, some new blocks. cell.Back, Of, Less, and value.May, Less, compare: the world to the draw. -/
import Derived.Test.YtjfbeeogiejopaaGreatDoorLaw15AllK25
import Derived.Test.YtjfbeeogiejopaaGreatDoorLaw15AllK11
import Derived.Test.YtjfbeeogiejopaaGreatDoorLaw15AllK23
import Derived.Test.YtjfbeeogiejopaaGreatDoorLaw15AllK1
import Derived.Test.YtjfbeeogiejopaaGreatDoorLaw15AllK3
import Derived.Sort.Grow
import Derived.Test.YtjfbeeogiejopaaGreatDoorLaw15AllK5
set_option linter.unusedVariables false
set_option linter.unusedSimpArgs false
namespace Go.Proofs.YtjfbeeogiejopaaGreatDoor
open Go.RowKit
open Go.Lib hiding intOf
attribute [local go_sem ↓] Go.wp_at_zero Go.wp_at_succ
def mayH (h : Hst) : Bool := namesB h.ss 20 && (namesB h.ks 40 && (txsB h && opsB h))
def errH (h : Hst) : Int := if mayH h = true then 0 else 4
/-- A history lies there, and is not too great; the tables lie there. -/
structure HIn (w : World) (B : Nat) (A0 A1 A2 : Option Addr) (n0 n1 n2 : Nat) (h : Hst) : Prop where
 at_ : HAt w B A0 A1 A2 h
 n0 : h.ss.length = n0
 n1 : h.ks.length = n1
 n2 : h.l.length = n2
 sm : HSmall h
 u : UTabs w
theorem HIn.only {S : List Nat} {w w' : World} {B : Nat} {A0 A1 A2 : Option Addr} {n0 n1 n2 : Nat} {h : Hst} (g : HIn w B A0 A1 A2 n0 n1 n2 h) (ho : Only S w w') (hS : ∀ i ∈ S, B ≤ i) (hU : UTabs w') : HIn w' B A0 A1 A2 n0 n1 n2 h :=
 ⟨g.at_.only ho hS, g.n0, g.n1, g.n2, g.sm, hU⟩
theorem HIn.up {w : World} {B : Nat} {A0 A1 A2 : Option Addr} {n0 n1 n2 : Nat} {h : Hst} (g : HIn w B A0 A1 A2 n0 n1 n2 h) : HIn w w.heap.size A0 A1 A2 n0 n1 n2 h := ⟨g.at_.up, g.n0, g.n1, g.n2, g.sm, g.u⟩
theorem HIn.same {w w' : World} {B : Nat} {A0 A1 A2 : Option Addr} {n0 n1 n2 : Nat} {h : Hst} (g : HIn w B A0 A1 A2 n0 n1 n2 h) (ho : Only [] w w') : HIn w' B A0 A1 A2 n0 n1 n2 h :=
 g.only ho (fun _ h => by cases h) (g.u.only ho)
theorem mayH_no0 {h : Hst} (h0 : namesB h.ss 20 = false) : errH h = 4 := by unfold errH mayH; rw [h0]; rfl
theorem mayH_no1 {h : Hst} (h0 : namesB h.ss 20 = true) (h1 : namesB h.ks 40 = false) : errH h = 4 := by unfold errH mayH; rw [h0, h1]; rfl
theorem mayH_no2 {h : Hst} (h0 : namesB h.ss 20 = true) (h1 : namesB h.ks 40 = true) (h2 : txsB h = false) : errH h = 4 := by unfold errH mayH; rw [h0, h1, h2]; rfl
theorem mayH_no3 {h : Hst} (h0 : namesB h.ss 20 = true) (h1 : namesB h.ks 40 = true) (h2 : txsB h = true) (h3 : opsB h = false) : errH h = 4 := by unfold errH mayH; rw [h0, h1, h2, h3]; rfl
theorem mayH_yes {h : Hst} (h0 : namesB h.ss 20 = true) (h1 : namesB h.ks 40 = true) (h2 : txsB h = true) (h3 : opsB h = true) : errH h = 0 := by unfold errH mayH; rw [h0, h1, h2, h3]; rfl
theorem namesB_le {l : List ByteArray} {m : Nat} (h : namesB l m = true) : l.length ≤ m := by
 unfold namesB at h
 simp at h
 exact h.1
set_option maxRecDepth 10000 in
set_option maxHeartbeats 2000000 in
theorem hmay_any (A0 A1 A2 : Option Addr) (n0 n1 n2 c0 c1 c2 B : Nat) (h : Hst) (w : World) (hg : HIn w B A0 A1 A2 n0 n1 n2 h) :
  Calls Tryz.prog 46 #[hval A0 A1 A2 n0 n1 n2 c0 c1 c2] w fun e w' => e = .returned (.int .i64 (errH h)) ∧ Only [] w w' := by
 have HI := Lib.hid hg
 have HN0 := Lib.hid (fun w' (O : Only [] w w') => names_any A0 n0 c0 B 20 h.ss w' hg.n0 (by have := hg.sm.ns; rw [hg.n0] at this; omega) hg.sm.s (hg.same O).at_.r0 (hg.same O).u)
 have HN1 := Lib.hid (fun w' (O : Only [] w w') => names_any A1 n1 c1 B 40 h.ks w' hg.n1 (by have := hg.sm.nk; rw [hg.n1] at this; omega) hg.sm.k (hg.same O).at_.r1 (hg.same O).u)
 have HTX := Lib.hid (fun (h0 : namesB h.ss 20 = true) w' (O : Only [] w w') => txs_any A0 A1 A2 n0 n1 n2 c0 c1 c2 B h w' (hg.same O).at_ hg.n0 hg.n2 (by have := namesB_le h0; rw [hg.n0] at this; exact this) (by have := hg.sm.nl; rw [hg.n2] at this; exact this))
 have HOP := Lib.hid (fun (h0 : namesB h.ks 40 = true) w' (O : Only [] w w') => ops_any A0 A1 A2 n0 n1 n2 c0 c1 c2 B h w' (hg.same O).at_ hg.n1 hg.n2 (by have := namesB_le h0; rw [hg.n1] at this; exact this) (by have := hg.sm.nl; rw [hg.n2] at this; exact this) hg.sm.no)
 unfold hval at HTX HOP ⊢
 have HO := Lib.hid ((Only.refl [] w).alloc (.cells #[.slice A0 n0 c0, .slice A1 n1 c1, .slice A2 n2 c2] 25))
 have HB := Lib.hid (Blk.made w 25 #[.slice A0 n0 c0, .slice A1 n1 c1, .slice A2 n2 c2])
 clear hg
 have F0 := Lib.hid (HN0.out _ HO.out)
 cases h0 : namesB h.ss 20 with
 | false =>
  rw [h0] at F0
  have HE := Lib.hid (mayH_no0 h0)
  clear h0
  go_enter Tryz.func46, Tryz.ntmps46
  go_wp2_with fail
  refine (F0.out).mono ?_
  rintro e w1 ⟨rfl, O1⟩
  have HO1 := Lib.hid (HO.out.trans O1)
  clear O1
  go_wp2
  go_ret
  exact ⟨by rw [HE.out]; rfl, HO1.out⟩
 | true =>
  rw [h0] at F0
  have HTX1 := Lib.hid (HTX.out h0)
  have H0 := Lib.hid h0
  clear HTX h0
  go_enter Tryz.func46, Tryz.ntmps46
  go_wp2_with fail
  refine (F0.out).mono ?_
  rintro e w1 ⟨rfl, O1⟩
  have HO1 := Lib.hid (HO.out.trans O1)
  have b1 := O1.blk HB.out (by simp)
  clear O1
  have HB1 := Lib.hid b1
  have l1 := b1.lt
  have x1 := b1.at_ 1
  simp at x1
  clear b1
  have F1 := Lib.hid (HN1.out _ HO1.out)
  cases h1 : namesB h.ks 40 with
  | false =>
   rw [h1] at F1
   have HE := Lib.hid (mayH_no1 H0.out h1)
   clear h1
   go_wp2_with fail
   refine (F1.out).mono ?_
   rintro e w2 ⟨rfl, O2⟩
   have HO2 := Lib.hid (HO1.out.trans O2)
   clear O2
   go_wp2
   go_ret
   exact ⟨by rw [HE.out]; rfl, HO2.out⟩
  | true =>
   rw [h1] at F1
   have HOP1 := Lib.hid (HOP.out h1)
   have H1 := Lib.hid h1
   clear HOP h1
   go_wp2_with fail
   refine (F1.out).mono ?_
   rintro e w2 ⟨rfl, O2⟩
   have HO2 := Lib.hid (HO1.out.trans O2)
   have b2 := O2.blk HB1.out (by simp)
   clear O2 l1 x1
   have HB2 := Lib.hid b2
   have l2 := b2.lt
   have y0 := b2.at_ 0
   have y1 := b2.at_ 1
   have y2 := b2.at_ 2
   simp at y0 y1 y2
   clear b2
   have F2 := Lib.hid (HTX1.out _ HO2.out)
   cases h2 : txsB h with
   | false =>
    rw [h2] at F2
    have HE := Lib.hid (mayH_no2 H0.out H1.out h2)
    clear h2
    go_wp2_with fail
    refine (F2.out).mono ?_
    rintro e w3 ⟨rfl, O3⟩
    have HO3 := Lib.hid (HO2.out.trans O3)
    clear O3
    go_wp2
    go_ret
    exact ⟨by rw [HE.out]; rfl, HO3.out⟩
   | true =>
    rw [h2] at F2
    have H2 := Lib.hid h2
    clear h2
    go_wp2_with fail
    refine (F2.out).mono ?_
    rintro e w3 ⟨rfl, O3⟩
    have HO3 := Lib.hid (HO2.out.trans O3)
    have b3 := O3.blk HB2.out (by simp)
    clear O3 l2 y0 y1 y2
    have l3 := b3.lt
    have y0 := b3.at_ 0
    have y1 := b3.at_ 1
    have y2 := b3.at_ 2
    simp at y0 y1 y2
    clear b3
    have F3 := Lib.hid (HOP1.out _ HO3.out)
    cases h3 : opsB h with
    | false =>
     rw [h3] at F3
     have HE := Lib.hid (mayH_no3 H0.out H1.out H2.out h3)
     clear h3
     go_wp2_with fail
     refine (F3.out).mono ?_
     rintro e w4 ⟨rfl, O4⟩
     have HO4 := Lib.hid (HO3.out.trans O4)
     clear O4
     go_wp2
     go_ret
     exact ⟨by rw [HE.out]; rfl, HO4.out⟩
    | true =>
     rw [h3] at F3
     have HE := Lib.hid (mayH_yes H0.out H1.out H2.out h3)
     clear h3
     go_wp2_with fail
     refine (F3.out).mono ?_
     rintro e w4 ⟨rfl, O4⟩
     have HO4 := Lib.hid (HO3.out.trans O4)
     clear O4
     go_wp2
     go_ret
     exact ⟨by rw [HE.out]; rfl, HO4.out⟩
end Go.Proofs.YtjfbeeogiejopaaGreatDoor

set_option linter.unusedVariables false
set_option linter.unusedSimpArgs false
namespace Go.Proofs.YtjfbeeogiejopaaGreatDoor
def whichL (p : Tx → Bool) (l : List Tx) : List Int := (l.zipIdx.filter fun x => p x.1).map fun x => (x.2 : Int)
theorem which_take {p : Tx → Bool} {l : List Tx} {k : Nat} {t : Tx} (h : l[k]? = some t) : whichL p (l.take (k + 1)) = whichL p (l.take k) ++ if p t = true then [(k : Int)] else [] := by
 have hk := (List.getElem?_eq_some_iff.1 h).1
 unfold whichL
 rw [List.take_add_one, h, List.zipIdx_append, List.filter_append, List.map_append, List.length_take, Nat.min_eq_left (Nat.le_of_lt hk)]
 by_cases hp : p t = true <;> simp [hp, List.zipIdx]
theorem which_le (p : Tx → Bool) (l : List Tx) : (whichL p l).length ≤ l.length := by
 unfold whichL
 rw [List.length_map]
 exact Nat.le_trans (List.length_filter_le _ _) (by simp)
end Go.Proofs.YtjfbeeogiejopaaGreatDoor

set_option linter.unusedVariables false
set_option linter.unusedSimpArgs false
namespace Go.Proofs.YtjfbeeogiejopaaGreatDoor
/-- The transaction at a place of a history that may be. -/
def txAtH (h : Hst) (a : Int) : Option Tx := if mayH h = true ∧ 0 ≤ a then h.l[a.toNat]? else none
def opAtH (h : Hst) (a b : Int) : Option (Tx × Op4) := (txAtH h a).bind fun t => if 0 ≤ b then (t.ops[b.toNat]?).map (fun o => (t, o)) else none
def writesB (key : Int) (t : Tx) : Bool := (leftW key t.ops).isSome && !decide (t.f = 2)
def wrtH (h : Hst) (key : Int) : List Int := if mayH h = true then whichL (writesB key) h.l else []
theorem txAt_no {h : Hst} {a : Int} (hm : mayH h = false) : txAtH h a = none := by unfold txAtH; rw [hm]; simp
theorem txAt_neg {h : Hst} {a : Int} (ha : a < 0) : txAtH h a = none := by unfold txAtH; rw [if_neg (by omega)]
theorem txAt_big {h : Hst} {a : Int} (ha : (h.l.length : Int) ≤ a) : txAtH h a = none := by
 unfold txAtH
 split
 ·exact List.getElem?_eq_none (by omega)
 ·rfl
theorem txAt_yes {h : Hst} {i : Nat} {t : Tx} (hm : mayH h = true) (ht : h.l[i]? = some t) : txAtH h (i : Int) = some t := by
 unfold txAtH
 rw [if_pos ⟨hm, by omega⟩]
 simpa using ht
theorem opAt_none {h : Hst} {a b : Int} (ht : txAtH h a = none) : opAtH h a b = none := by unfold opAtH; rw [ht]; rfl
theorem opAt_neg {h : Hst} {a b : Int} (hb : b < 0) : opAtH h a b = none := by
 unfold opAtH
 cases txAtH h a with
 | none => rfl
 | some t => simp only [Option.bind_some]; rw [if_neg (by omega)]
theorem opAt_big {h : Hst} {a b : Int} {t : Tx} (ht : txAtH h a = some t) (hb : (t.ops.length : Int) ≤ b) : opAtH h a b = none := by
 unfold opAtH
 rw [ht]
 simp only [Option.bind_some]
 split
 ·rw [List.getElem?_eq_none (by omega)]; rfl
 ·rfl
theorem opAt_yes {h : Hst} {a : Int} {j : Nat} {t : Tx} {o : Op4} (ht : txAtH h a = some t) (ho : t.ops[j]? = some o) : opAtH h a (j : Int) = some (t, o) := by
 unfold opAtH
 rw [ht]
 simp only [Option.bind_some]
 rw [if_pos (by omega)]
 simp [ho]
end Go.Proofs.YtjfbeeogiejopaaGreatDoor

set_option linter.unusedVariables false
set_option linter.unusedSimpArgs false
namespace Go.Proofs.YtjfbeeogiejopaaGreatDoor
open Go.RowKit
/-- Nothing that was there is changed, and the tape is not wound back. -/
structure ExV (w w' : World) : Prop where
 only : Only [] w w'
 drawn : w.drawn ≤ w'.drawn
section
variable {w w' w'' : World}
theorem ExV.refl (w : World) : ExV w w := ⟨Only.refl [] w, Nat.le_refl _⟩
theorem ExV.trans (h : ExV w w') (k : ExV w' w'') : ExV w w'' := ⟨h.only.trans k.only, Nat.le_trans h.drawn k.drawn⟩
theorem ExV.alloc (h : ExV w w') (o : Obj) : ExV w (w'.alloc o) := ⟨h.only.alloc o, h.drawn⟩
theorem ExV.drewN (h : ExV w w') (n : Nat) : ExV w (w'.drewN n) := ⟨h.only.drewN n, Nat.le_trans h.drawn (by show w'.drawn ≤ w'.drawn + n; omega)⟩
theorem ExV.drew (h : ExV w w') : ExV w w'.drew := ⟨h.only.drew, Nat.le_trans h.drawn (by show w'.drawn ≤ w'.drawn + 1; omega)⟩
theorem ExV.put (h : ExV w w') {p : Addr} (hp : p.block < w.heap.size → p.block ∈ ([] : List Nat)) (u : Value) : ExV w (w'.setCell p u) := ⟨h.only.put hp u, h.drawn⟩
theorem ExV.blk {g : Nat} {t : TypeId} {cs : Array Value} (h : ExV w w') (hb : Blk w g t cs) (hg : g ∉ ([] : List Nat)) : Blk w' g t cs := h.only.blk hb hg
theorem ExV.size (h : ExV w w') : w.heap.size ≤ w'.heap.size := h.only.size
end
/-- Just so: some draws, some new blocks. -/
theorem ExV.grown {w w' : World} (h : ExV w w') : ∃ q os, w' = Go.Sort.grow (w.drewN q) os := by
 have hb : Below w.heap.size w w' := h.only.below (Nat.le_refl _) (by simp)
 refine ⟨w'.drawn - w.drawn, w'.heap.extract w.heap.size w'.heap.size, ?_⟩
 have hd := h.drawn
 obtain ⟨heap', tape', drawn', os', output'⟩ := w'
 have e1 : os' = w.os := hb.os
 have e2 : tape' = w.tape := hb.tape
 have e3 : output' = w.output := hb.output
 have hs : w.heap.size ≤ heap'.size := hb.size
 have hk' : ∀ k, k < w.heap.size → heap'[k]? = w.heap[k]? := hb.block
 have hd' : w.drawn ≤ drawn' := hd
 subst e1 e2 e3
 have eh : heap' = w.heap ++ heap'.extract w.heap.size heap'.size := by
  apply Array.ext_getElem?
  intro k
  by_cases hk : k < w.heap.size
  ·rw [Array.getElem?_append_left hk]; exact hk' k hk
  ·rw [Array.getElem?_append_right (by omega), Array.getElem?_extract]
   by_cases hk2 : k < heap'.size
   ·rw [if_pos (by omega)]; congr 1; omega
   ·rw [if_neg (by omega), Array.getElem?_eq_none (by omega)]
 have ed : w.drawn + (drawn' - w.drawn) = drawn' := by omega
 simp only [Go.Sort.grow, World.drewN, ed]
 congr 1
end Go.Proofs.YtjfbeeogiejopaaGreatDoor

set_option linter.unusedVariables false
set_option linter.unusedSimpArgs false
namespace Go.Proofs.YtjfbeeogiejopaaGreatDoor
open Go.RowKit
def ifc (t n : Int) : Value :=
 if t = 0 then .nilIface else if t = 1 then .iface 2 (.int .i64 n) else if t = 2 then .iface 211 (.agg #[]) else if t = 3 then .iface 3 (.int .i64 n) else .iface 9 (.string ⟨#[120]⟩)
def bK (t : Int) : Int := if t = 1 then 1 else if t = 2 then 2 else 0
def bN (t n : Int) : Int := if t = 1 then n else 0
def bE (t : Int) : Int := if t = 0 ∨ t = 1 ∨ t = 2 then 0 else 15
theorem ta_i (n : Int) (w : World) : (Instr.typeAssert (.iface 2 (.int .i64 n)) 20 2 true).run Tryz.prog w = .ok (.tuple #[.int .i64 n, .bool true]) w := by kernel_rfl
theorem ta_il (v : Value) (w : World) : (Instr.typeAssert (.iface 211 v) 20 2 true).run Tryz.prog w = .ok (.tuple #[.int .i64 0, .bool false]) w := by kernel_rfl
theorem ta_ii (v : Value) (w : World) : (Instr.typeAssert (.iface 3 v) 20 2 true).run Tryz.prog w = .ok (.tuple #[.int .i64 0, .bool false]) w := by kernel_rfl
theorem ta_is (v : Value) (w : World) : (Instr.typeAssert (.iface 9 v) 20 2 true).run Tryz.prog w = .ok (.tuple #[.int .i64 0, .bool false]) w := by kernel_rfl
theorem ta_ll (w : World) : (Instr.typeAssert (.iface 211 (.agg #[])) 20 211 true).run Tryz.prog w = .ok (.tuple #[.agg #[], .bool true]) w := by kernel_rfl
theorem ta_li (v : Value) (w : World) : (Instr.typeAssert (.iface 3 v) 20 211 true).run Tryz.prog w = .ok (.tuple #[.agg #[], .bool false]) w := by kernel_rfl
theorem ta_ls (v : Value) (w : World) : (Instr.typeAssert (.iface 9 v) 20 211 true).run Tryz.prog w = .ok (.tuple #[.agg #[], .bool false]) w := by kernel_rfl
set_option maxHeartbeats 400000 in
theorem back_0 (w : World) : Calls Tryz.prog 169 #[.nilIface] w fun e w' => e = .returned (.tuple #[.agg #[.int .i64 0, .int .i64 0], .int .i64 0]) ∧ ExV w w' := by
 go_enter Tryz.func169, Tryz.ntmps169
 go_wp2
 exact bodyPost_ret (v := .tuple #[.agg #[.int .i64 0, .int .i64 0], .int .i64 0]) (by simp [results, Tryz.results169, go_sem]) rfl ⟨rfl, (ExV.refl _).alloc _⟩
set_option maxHeartbeats 400000 in
theorem back_1 (n : Int) (w : World) : Calls Tryz.prog 169 #[.iface 2 (.int .i64 n)] w fun e w' => e = .returned (.tuple #[.agg #[.int .i64 1, .int .i64 n], .int .i64 0]) ∧ ExV w w' := by
 have h1 := ta_i n
 go_enter Tryz.func169, Tryz.ntmps169
 go_wp2
 exact bodyPost_ret (v := .tuple #[.agg #[.int .i64 1, .int .i64 n], .int .i64 0]) (by simp [results, Tryz.results169, go_sem]) rfl ⟨rfl, (ExV.refl _).alloc _⟩
set_option maxHeartbeats 400000 in
theorem back_2 (w : World) : Calls Tryz.prog 169 #[.iface 211 (.agg #[])] w fun e w' => e = .returned (.tuple #[.agg #[.int .i64 2, .int .i64 0], .int .i64 0]) ∧ ExV w w' := by
 have h1 := ta_il (.agg #[])
 have h2 := ta_ll
 go_enter Tryz.func169, Tryz.ntmps169
 go_wp2
 exact bodyPost_ret (v := .tuple #[.agg #[.int .i64 2, .int .i64 0], .int .i64 0]) (by simp [results, Tryz.results169, go_sem]) rfl ⟨rfl, ((ExV.refl _).alloc _).alloc _⟩
set_option maxHeartbeats 400000 in
theorem back_3 (n : Int) (w : World) : Calls Tryz.prog 169 #[.iface 3 (.int .i64 n)] w fun e w' => e = .returned (.tuple #[.agg #[.int .i64 0, .int .i64 0], .int .i64 15]) ∧ ExV w w' := by
 have h1 := ta_ii (.int .i64 n)
 have h2 := ta_li (.int .i64 n)
 go_enter Tryz.func169, Tryz.ntmps169
 go_wp2
 exact bodyPost_ret (v := .tuple #[.agg #[.int .i64 0, .int .i64 0], .int .i64 15]) (by simp [results, Tryz.results169, go_sem]) rfl ⟨rfl, (ExV.refl _).alloc _⟩
set_option maxHeartbeats 400000 in
theorem back_4 (s : ByteArray) (w : World) : Calls Tryz.prog 169 #[.iface 9 (.string s)] w fun e w' => e = .returned (.tuple #[.agg #[.int .i64 0, .int .i64 0], .int .i64 15]) ∧ ExV w w' := by
 have h1 := ta_is (.string s)
 have h2 := ta_ls (.string s)
 go_enter Tryz.func169, Tryz.ntmps169
 go_wp2
 exact bodyPost_ret (v := .tuple #[.agg #[.int .i64 0, .int .i64 0], .int .i64 15]) (by simp [results, Tryz.results169, go_sem]) rfl ⟨rfl, (ExV.refl _).alloc _⟩
theorem back_any (t n : Int) (w : World) : Calls Tryz.prog 169 #[ifc t n] w fun e w' => e = .returned (.tuple #[.agg #[.int .i64 (bK t), .int .i64 (bN t n)], .int .i64 (bE t)]) ∧ ExV w w' := by
 unfold ifc bK bN bE
 by_cases h0 : t = 0
 ·subst h0; exact back_0 w
 ·by_cases h1 : t = 1
  ·subst h1; exact back_1 n w
  ·by_cases h2 : t = 2
   ·subst h2; exact back_2 w
   ·by_cases h3 : t = 3
    ·subst h3; exact back_3 n w
    ·simp only [h0, h1, h2, h3, if_false, or_false]; exact back_4 _ w
set_option maxHeartbeats 400000 in
theorem Back_any (t n : Int) (w : World) : Calls Tryz.prog 159 #[.agg #[ifc t n]] w fun e w' => e = .returned (.tuple #[.agg #[.int .i64 (bK t), .int .i64 (bN t n)], .int .i64 (bE t)]) ∧ ExV w w' := by
 have hc := fun w => back_any t n w
 generalize ifc t n = v at *
 generalize bK t = k at *
 generalize bN t n = m at *
 generalize bE t = x at *
 have HC := Lib.hid hc
 clear hc
 go_enter Tryz.func159, Tryz.ntmps159
 go_wp2_with fail
 refine (HC.out _).mono ?_
 rintro e w1 ⟨rfl, O1⟩
 have hb : Blk w1 (w.heap.size + 1) 38 #[.int .i64 0, .int .i64 0] := by
  refine O1.blk ?_ (by simp)
  have := Blk.made (w.alloc (.cells #[v] 185)) 38 #[.int .i64 0, .int .i64 0]
  simpa using this
 have hlt := hb.lt
 have c0 := hb.at_ 0
 have c1 := hb.at_ 1
 have f0 := hb.free 0
 have f1 := hb.free 1
 have HO := Lib.hid O1
 simp at c0 c1
 clear hb O1
 go_wp2
 exact bodyPost_ret (v := .tuple #[.agg #[.int .i64 k, .int .i64 m], .int .i64 x]) (by simp [results, Tryz.results159, go_sem, c0, c1]) rfl ⟨rfl, ((((ExV.refl _).alloc _).alloc _).trans HO.out).put (by simp) _ |>.put (by simp) _⟩
def oT (k : Int) : Int := if k = 1 then 1 else if k = 2 then 2 else 0
set_option maxHeartbeats 400000 in
theorem Of_any (k n : Int) (w : World) : Calls Tryz.prog 138 #[.agg #[.int .i64 k, .int .i64 n]] w fun e w' => e = .returned (.agg #[ifc (oT k) n]) ∧ ExV w w' := by
 unfold oT ifc
 by_cases h1 : k = 1
 ·subst h1
  go_enter Tryz.func138, Tryz.ntmps138
  go_wp2
  exact bodyPost_ret (v := .agg #[.iface 2 (.int .i64 n)]) (by simp [results, Tryz.results138, go_sem]) rfl ⟨rfl, ((ExV.refl _).alloc _).alloc _⟩
 ·by_cases h2 : k = 2
  ·subst h2
   go_enter Tryz.func138, Tryz.ntmps138
   go_wp2
   exact bodyPost_ret (v := .agg #[.iface 211 (.agg #[])]) (by simp [results, Tryz.results138, go_sem]) rfl ⟨rfl, ((ExV.refl _).alloc _).alloc _⟩
  ·simp only [h1, h2, if_false, if_true]
   have h1' : (k == 1) = false := by simp [h1]
   have h2' : (k == 2) = false := by simp [h2]
   clear h1 h2
   go_enter Tryz.func138, Tryz.ntmps138
   go_wp2
   exact bodyPost_ret (v := .agg #[.nilIface]) (by simp [results, Tryz.results138, go_sem]) rfl ⟨rfl, ((ExV.refl _).alloc _).alloc _⟩
set_option maxHeartbeats 400000 in
theorem rank_any (k : Int) (w : World) (h0 : 0 ≤ k) (h2 : k ≤ 2) : Calls Tryz.prog 160 #[.int .i64 k] w fun e w' => e = .returned (.int .i64 k) ∧ w = w' := by
 by_cases h : k = 0
 ·subst h
  go_enter Tryz.func160, Tryz.ntmps160
  go_wp2
  go_ret
  exact ⟨rfl, rfl⟩
 ·by_cases h1 : k = 1
  ·subst h1
   go_enter Tryz.func160, Tryz.ntmps160
   go_wp2
   go_ret
   exact ⟨rfl, rfl⟩
  ·obtain rfl : k = 2 := by omega
   go_enter Tryz.func160, Tryz.ntmps160
   go_wp2
   go_ret
   exact ⟨rfl, rfl⟩
def lessBV (k m k' m' : Int) : Bool := if k = k' then decide (k = 1 ∧ m < m') else decide (k < k')
def cK (k : Int) : Int := if k = 1 then 1 else if k = 2 then 2 else 0
def cN (k n : Int) : Int := if k = 1 then n else 0
theorem made2 (w : World) (t : TypeId) (a b : Int) : Blk (w.alloc (.cells #[.int .i64 a, .int .i64 b] t)) w.heap.size t #[.int .i64 a, .int .i64 b] := Blk.made _ _ _
theorem ret_bool' {a b : Bool} (h : a = b) : Ending.returned (.bool a) = .returned (.bool b) := by rw [h]
theorem bKN_bd (t n : Int) : 0 ≤ bK t ∧ bK t ≤ 2 ∧ (bK t ≠ 1 → bN t n = 0) := by
 unfold bK bN
 by_cases h1 : t = 1
 ·simp [h1]
 ·by_cases h2 : t = 2 <;> simp [h1, h2]
theorem quiet_left {P : Program} {f : FuncId} {args : Array Value} {w : World} {n : Nat} {v : Value}
  (h : Calls P f args (w.drewN n) fun e w' => e = .returned v ∧ w.drewN n = w') : Calls P f args (w.drewN n) fun e w'' => e = .returned v ∧ ∃ m, w'' = w.drewN m :=
 h.mono fun _ _ ⟨he, hm⟩ => ⟨he, n, hm.symm⟩
set_option maxHeartbeats 800000 in
theorem Less_any (t n t' n' : Int) (w : World) : Calls Tryz.prog 137 #[.agg #[ifc t n], .agg #[ifc t' n']] w fun e w' => e = .returned (.bool (decide (bE t = 0) && decide (bE t' = 0) && lessBV (bK t) (bN t n) (bK t') (bN t' n'))) ∧ ExV w w' := by
 have hc := fun w => Back_any t n w
 have hd := fun w => Back_any t' n' w
 obtain ⟨hk1, hk2, hm⟩ : 0 ≤ bK t ∧ bK t ≤ 2 ∧ (bK t ≠ 1 → bN t n = 0) := bKN_bd _ _
 obtain ⟨hk1', hk2', hm'⟩ : 0 ≤ bK t' ∧ bK t' ≤ 2 ∧ (bK t' ≠ 1 → bN t' n' = 0) := bKN_bd _ _
 have HM := Lib.hid hm
 have HM' := Lib.hid hm'
 clear hm hm'
 generalize ifc t n = v at *
 generalize bK t = k at *
 generalize bN t n = m at *
 generalize bE t = x at *
 generalize ifc t' n' = v' at *
 generalize bK t' = k' at *
 generalize bN t' n' = m' at *
 generalize bE t' = x' at *
 have HC := Lib.hid hc
 have HD := Lib.hid hd
 clear hc hd
 go_enter Tryz.func137, Tryz.ntmps137
 go_wp2_with fail
 refine (HC.out _).mono ?_
 rintro e w1 ⟨rfl, O1⟩
 have b1 : Blk w1 (w.heap.size + 1) 185 #[v'] := by
  refine O1.blk ?_ (by simp)
  have := Blk.made (w.alloc (.cells #[v] 185)) 185 #[v']
  simpa using this
 have c1 := b1.at_ 0
 have l1 := b1.lt
 have HO := Lib.hid (((ExV.refl w).alloc (.cells #[v] 185)).alloc (.cells #[v'] 185) |>.trans O1)
 simp at c1
 clear b1 O1
 go_wp2_with fail
 refine (HD.out _).mono ?_
 rintro e w2 ⟨rfl, O2⟩
 have b2 : Blk w2 w1.heap.size 38 #[.int .i64 k, .int .i64 m] := O2.blk (made2 _ _ _ _) (by simp)
 have HP := Lib.hid (((HO.out.alloc (.cells #[.int .i64 k, .int .i64 m] 38))).trans O2)
 have l2 := b2.lt
 have c20 := b2.at_ 0
 have c21 := b2.at_ 1
 simp at c20 c21
 clear b2 O2 c1
 have hr1 := fun w => rank_any k w hk1 hk2
 have hr2 := fun w => rank_any k' w hk1' hk2'
 have HR1 := Lib.hid hr1
 have HR2 := Lib.hid hr2
 clear hr1 hr2
 by_cases hx : x = 0
 ·have hx' : (x != 0) = false := by simp [hx]
  have HX := Lib.hid hx
  by_cases hy : x' = 0
  ·have hy' : (x' != 0) = false := by simp [hy]
   have HY := Lib.hid hy
   clear hx hy
   by_cases hk : k = k'
   ·subst hk
    go_wp2
    go_ret
    refine ⟨ret_bool' ?_, HP.out.alloc _⟩
    rw [HX.out, HY.out]
    unfold lessBV
    by_cases h1 : k = 1
    ·simp [h1]
    ·simp [h1, HM.out h1, HM'.out h1]
   ·have hk' : (k != k') = true := by simp [hk]
    have HK := Lib.hid hk
    clear hk
    go_wp2_with fail
    go_quiet (first | (go_at_call_of 160 (Value.int .i64 k); exact quiet_left (HR1.out _)) | (go_at_call 160; exact quiet_left (HR2.out _)))
    go_wp2
    go_ret
    refine ⟨ret_bool' ?_, (HP.out.alloc _).drewN _⟩
    rw [HX.out, HY.out]
    unfold lessBV
    rw [if_neg HK.out]
    simp
  ·have hy' : (x' != 0) = true := by simp [hy]
   have HY := Lib.hid hy
   clear hx hy
   go_wp2
   go_ret
   refine ⟨ret_bool' ?_, HP.out.alloc _⟩
   simp [HX.out, HY.out]
 ·have hx' : (x != 0) = true := by simp [hx]
  have HX := Lib.hid hx
  clear hx
  go_wp2
  go_ret
  refine ⟨ret_bool' ?_, HP.out.alloc _⟩
  simp [HX.out]
theorem of_words (k n : Int) : bK (oT k) = cK k ∧ bN (oT k) n = cN k n ∧ bE (oT k) = 0 := by
 unfold oT bK cK bN cN bE
 by_cases h1 : k = 1
 ·simp [h1]
 ·by_cases h2 : k = 2 <;> simp [h1, h2]
set_option maxHeartbeats 400000 in
theorem may_anyV (k n : Int) (w : World) : Calls Tryz.prog 94 #[.agg #[.int .i64 k, .int .i64 n]] w fun e w' => e = .returned (.bool (mayB k n)) ∧ ExV w w' := by
 unfold mayB
 by_cases h1 : k = 1
 ·subst h1
  go_enter Tryz.func94, Tryz.ntmps94
  go_wp2
  go_ret
  exact ⟨by simp, (ExV.refl _).alloc _⟩
 ·have h1' : (k == 1) = false := by simp [h1]
  have H1 := Lib.hid h1
  clear h1
  by_cases h0 : k = 0
  ·subst h0
   go_enter Tryz.func94, Tryz.ntmps94
   go_wp2
   go_ret
   exact ⟨ret_boolv (by simp; try (rw [Bool.eq_iff_iff]; simp)), (ExV.refl _).alloc _⟩
  ·have h0' : (k == 0) = false := by simp [h0]
   have H0 := Lib.hid h0
   clear h0
   by_cases h2 : k = 2
   ·subst h2
    go_enter Tryz.func94, Tryz.ntmps94
    go_wp2
    go_ret
    exact ⟨ret_boolv (by simp; try (rw [Bool.eq_iff_iff]; simp)), (ExV.refl _).alloc _⟩
   ·have h2' : (k == 2) = false := by simp [h2]
    have H2 := Lib.hid h2
    clear h2
    go_enter Tryz.func94, Tryz.ntmps94
    go_wp2
    go_ret
    exact ⟨ret_boolv (by simp [H0.out, H1.out, H2.out]), (ExV.refl _).alloc _⟩
end Go.Proofs.YtjfbeeogiejopaaGreatDoor
