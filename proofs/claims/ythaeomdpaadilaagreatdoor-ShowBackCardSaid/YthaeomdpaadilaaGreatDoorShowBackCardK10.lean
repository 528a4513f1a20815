/- The package hist: May. Events with their lines, as they lie in memory. Histories as events: mathematics. Events: kinds and their words, the mathematics. -/
import Derived.Test.YthaeomdpaadilaaGreatDoorShowBackCardK9
import Derived.Test.YthaeomdpaadilaaGreatDoorShowBackCardK1
import Derived.Test.YthaeomdpaadilaaGreatDoorShowBackCardK2
import Derived.Test.YthaeomdpaadilaaGreatDoorShowBackCardK3
import Derived.Deep.MidRow
set_option linter.unusedVariables false
set_option linter.unusedSimpArgs false
namespace Go.Proofs.YthaeomdpaadilaaGreatDoor
open Go.RowKit
open Go.Lib hiding intOf
attribute [local go_sem ↓] Go.wp_at_zero Go.wp_at_succ

def mayH (h : Hst) : Bool := namesB h.ss 20 && (namesB h.ks 40 && (txsB h && opsB h))
def errH (h : Hst) : Int := if mayH h = true then 0 else 4
/-- A history lies there, and is not too great; the tables lie there. -/
structure HIn (w : World) (B : Nat) (A0 A1 A2 : Option Addr) (n0 n1 n2 : Nat) (h : Hst) : Prop where
  at_ : HAt w B A0 A1 A2 h
  n0 : h.ss.length = n0
  n1 : h.ks.length = n1
  n2 : h.l.length = n2
  sm : HSmall h
  u : UTabs w
theorem HIn.only {S : List Nat} {w w' : World} {B : Nat} {A0 A1 A2 : Option Addr} {n0 n1 n2 : Nat} {h : Hst} (g : HIn w B A0 A1 A2 n0 n1 n2 h) (ho : Only S w w') (hS : ∀ i ∈ S, B ≤ i) (hU : UTabs w') : HIn w' B A0 A1 A2 n0 n1 n2 h :=
  ⟨g.at_.only ho hS, g.n0, g.n1, g.n2, g.sm, hU⟩
theorem HIn.up {w : World} {B : Nat} {A0 A1 A2 : Option Addr} {n0 n1 n2 : Nat} {h : Hst} (g : HIn w B A0 A1 A2 n0 n1 n2 h) : HIn w w.heap.size A0 A1 A2 n0 n1 n2 h := ⟨g.at_.up, g.n0, g.n1, g.n2, g.sm, g.u⟩
theorem HIn.same {w w' : World} {B : Nat} {A0 A1 A2 : Option Addr} {n0 n1 n2 : Nat} {h : Hst} (g : HIn w B A0 A1 A2 n0 n1 n2 h) (ho : Only [] w w') : HIn w' B A0 A1 A2 n0 n1 n2 h :=
  g.only ho (fun _ h => by cases h) (g.u.only ho)
theorem mayH_no0 {h : Hst} (h0 : namesB h.ss 20 = false) : errH h = 4 := by unfold errH mayH; rw [h0]; rfl
theorem mayH_no1 {h : Hst} (h0 : namesB h.ss 20 = true) (h1 : namesB h.ks 40 = false) : errH h = 4 := by unfold errH mayH; rw [h0, h1]; rfl
theorem mayH_no2 {h : Hst} (h0 : namesB h.ss 20 = true) (h1 : namesB h.ks 40 = true) (h2 : txsB h = false) : errH h = 4 := by unfold errH mayH; rw [h0, h1, h2]; rfl
theorem mayH_no3 {h : Hst} (h0 : namesB h.ss 20 = true) (h1 : namesB h.ks 40 = true) (h2 : txsB h = true) (h3 : opsB h = false) : errH h = 4 := by unfold errH mayH; rw [h0, h1, h2, h3]; rfl
theorem mayH_yes {h : Hst} (h0 : namesB h.ss 20 = true) (h1 : namesB h.ks 40 = true) (h2 : txsB h = true) (h3 : opsB h = true) : errH h = 0 := by unfold errH mayH; rw [h0, h1, h2, h3]; rfl
theorem namesB_le {l : List ByteArray} {m : Nat} (h : namesB l m = true) : l.length ≤ m := by
  unfold namesB at h
  simp at h
  exact h.1

set_option maxRecDepth 10000 in
set_option maxHeartbeats 2000000 in
theorem hmay_any (A0 A1 A2 : Option Addr) (n0 n1 n2 c0 c1 c2 B : Nat) (h : Hst) (w : World) (hg : HIn w B A0 A1 A2 n0 n1 n2 h) :
    Calls Tryz.prog 17 #[hval A0 A1 A2 n0 n1 n2 c0 c1 c2] w fun e w' => e = .returned (.int .i64 (errH h)) ∧ Only [] w w' := by
  have HI := Lib.hid hg
  have HN0 := Lib.hid (fun w' (O : Only [] w w') => names_any A0 n0 c0 B 20 h.ss w' hg.n0 (by have := hg.sm.ns; rw [hg.n0] at this; omega) hg.sm.s (hg.same O).at_.r0 (hg.same O).u)
  have HN1 := Lib.hid (fun w' (O : Only [] w w') => names_any A1 n1 c1 B 40 h.ks w' hg.n1 (by have := hg.sm.nk; rw [hg.n1] at this; omega) hg.sm.k (hg.same O).at_.r1 (hg.same O).u)
  have HTX := Lib.hid (fun (h0 : namesB h.ss 20 = true) w' (O : Only [] w w') => txs_any A0 A1 A2 n0 n1 n2 c0 c1 c2 B h w' (hg.same O).at_ hg.n0 hg.n2 (by have := namesB_le h0; rw [hg.n0] at this; exact this) (by have := hg.sm.nl; rw [hg.n2] at this; exact this))
  have HOP := Lib.hid (fun (h0 : namesB h.ks 40 = true) w' (O : Only [] w w') => ops_any A0 A1 A2 n0 n1 n2 c0 c1 c2 B h w' (hg.same O).at_ hg.n1 hg.n2 (by have := namesB_le h0; rw [hg.n1] at this; exact this) (by have := hg.sm.nl; rw [hg.n2] at this; exact this) hg.sm.no)
  unfold hval at HTX HOP ⊢
  have HO := Lib.hid ((Only.refl [] w).alloc (.cells #[.slice A0 n0 c0, .slice A1 n1 c1, .slice A2 n2 c2] 25))
  have HB := Lib.hid (Blk.made w 25 #[.slice A0 n0 c0, .slice A1 n1 c1, .slice A2 n2 c2])
  clear hg
  have F0 := Lib.hid (HN0.out _ HO.out)
  cases h0 : namesB h.ss 20 with
  | false =>
    rw [h0] at F0
    have HE := Lib.hid (mayH_no0 h0)
    clear h0
    go_enter Tryz.func17, Tryz.ntmps17
    go_wp2_with fail
    refine (F0.out).mono ?_
    rintro e w1 ⟨rfl, O1⟩
    have HO1 := Lib.hid (HO.out.trans O1)
    clear O1
    go_wp2
    go_ret
    exact ⟨by rw [HE.out]; rfl, HO1.out⟩
  | true =>
    rw [h0] at F0
    have HTX1 := Lib.hid (HTX.out h0)
    have H0 := Lib.hid h0
    clear HTX h0
    go_enter Tryz.func17, Tryz.ntmps17
    go_wp2_with fail
    refine (F0.out).mono ?_
    rintro e w1 ⟨rfl, O1⟩
    have HO1 := Lib.hid (HO.out.trans O1)
    have b1 := O1.blk HB.out (by simp)
    clear O1
    have HB1 := Lib.hid b1
    have l1 := b1.lt
    have x1 := b1.at_ 1
    simp at x1
    clear b1
    have F1 := Lib.hid (HN1.out _ HO1.out)
    cases h1 : namesB h.ks 40 with
    | false =>
      rw [h1] at F1
      have HE := Lib.hid (mayH_no1 H0.out h1)
      clear h1
      go_wp2_with fail
      refine (F1.out).mono ?_
      rintro e w2 ⟨rfl, O2⟩
      have HO2 := Lib.hid (HO1.out.trans O2)
      clear O2
      go_wp2
      go_ret
      exact ⟨by rw [HE.out]; rfl, HO2.out⟩
    | true =>
      rw [h1] at F1
      have HOP1 := Lib.hid (HOP.out h1)
      have H1 := Lib.hid h1
      clear HOP h1
      go_wp2_with fail
      refine (F1.out).mono ?_
      rintro e w2 ⟨rfl, O2⟩
      have HO2 := Lib.hid (HO1.out.trans O2)
      have b2 := O2.blk HB1.out (by simp)
      clear O2 l1 x1
      have HB2 := Lib.hid b2
      have l2 := b2.lt
      have y0 := b2.at_ 0
      have y1 := b2.at_ 1
      have y2 := b2.at_ 2
      simp at y0 y1 y2
      clear b2
      have F2 := Lib.hid (HTX1.out _ HO2.out)
      cases h2 : txsB h with
      | false =>
        rw [h2] at F2
        have HE := Lib.hid (mayH_no2 H0.out H1.out h2)
        clear h2
        go_wp2_with fail
        refine (F2.out).mono ?_
        rintro e w3 ⟨rfl, O3⟩
        have HO3 := Lib.hid (HO2.out.trans O3)
        clear O3
        go_wp2
        go_ret
        exact ⟨by rw [HE.out]; rfl, HO3.out⟩
      | true =>
        rw [h2] at F2
        have H2 := Lib.hid h2
        clear h2
        go_wp2_with fail
        refine (F2.out).mono ?_
        rintro e w3 ⟨rfl, O3⟩
        have HO3 := Lib.hid (HO2.out.trans O3)
        have b3 := O3.blk HB2.out (by simp)
        clear O3 l2 y0 y1 y2
        have l3 := b3.lt
        have y0 := b3.at_ 0
        have y1 := b3.at_ 1
        have y2 := b3.at_ 2
        simp at y0 y1 y2
        clear b3
        have F3 := Lib.hid (HOP1.out _ HO3.out)
        cases h3 : opsB h with
        | false =>
          rw [h3] at F3
          have HE := Lib.hid (mayH_no3 H0.out H1.out H2.out h3)
          clear h3
          go_wp2_with fail
          refine (F3.out).mono ?_
          rintro e w4 ⟨rfl, O4⟩
          have HO4 := Lib.hid (HO3.out.trans O4)
          clear O4
          go_wp2
          go_ret
          exact ⟨by rw [HE.out]; rfl, HO4.out⟩
        | true =>
          rw [h3] at F3
          have HE := Lib.hid (mayH_yes H0.out H1.out H2.out h3)
          clear h3
          go_wp2_with fail
          refine (F3.out).mono ?_
          rintro e w4 ⟨rfl, O4⟩
          have HO4 := Lib.hid (HO3.out.trans O4)
          clear O4
          go_wp2
          go_ret
          exact ⟨by rw [HE.out]; rfl, HO4.out⟩
end Go.Proofs.YthaeomdpaadilaaGreatDoor

set_option linter.unusedVariables false
set_option linter.unusedSimpArgs false
namespace Go.Proofs.YthaeomdpaadilaaGreatDoor
open Go.RowKit

/-- An event with its line. -/
structure Ev6 where
  k : Int
  s : ByteArray
  y : ByteArray
  vk : Int
  vn : Int
  ln : Int
def Ev6.c (x : Ev6) : List Value := [.int .i64 x.k, .string x.s, .string x.y, .int .i64 x.vk, .int .i64 x.vn, .int .i64 x.ln]
def logC (l : List Ev6) : List Value := l.flatMap Ev6.c
theorem logC_len (l : List Ev6) : (logC l).length = l.length * 6 := by
  induction l with
  | nil => rfl
  | cons x l ih => simp only [logC, List.flatMap_cons, List.length_append, List.length_cons] at ih ⊢; rw [ih]; simp [Ev6.c]; omega
theorem logC_snoc (l : List Ev6) (x : Ev6) : logC (l ++ [x]) = logC l ++ x.c := by simp [logC]
theorem one_logC (l : List Ev6) : ∀ u ∈ logC l, u.oneCell' = true := by
  intro u hu
  simp only [logC, List.mem_flatMap, Ev6.c, List.mem_cons, List.not_mem_nil, or_false] at hu
  obtain ⟨e, _, rfl | rfl | rfl | rfl | rfl | rfl⟩ := hu <;> rfl
theorem logC_get : ∀ (l : List Ev6) (i : Nat) (x : Ev6), l[i]? = some x → ∀ j, j < 6 → (logC l)[i * 6 + j]? = x.c[j]?
  | [], i, x, h, _, _ => by simp at h
  | x0 :: l, 0, x, h, j, hj => by
    simp at h
    subst h
    simp only [logC, List.flatMap_cons]
    rw [List.getElem?_append_left (by simp [Ev6.c]; omega)]
    simp
  | x0 :: l, i + 1, x, h, j, hj => by
    have := logC_get l i x (by simpa using h) j hj
    simp only [logC, List.flatMap_cons] at this ⊢
    rw [List.getElem?_append_right (by simp [Ev6.c]; omega)]
    rw [← this]
    congr 1
    simp [Ev6.c]
    omega

theorem info_event : (Tryz.prog.info? 47).map (fun i => (i.zero, i.size, i.bytes)) = some (some (.agg #[.int .i64 0, .string ⟨#[]⟩, .string ⟨#[]⟩, .int .i64 0, .int .i64 0, .int .i64 0]), 6, 64) := by kernel_rfl

/-- The cells from a place on are an event's. -/
structure EvAt (w : World) (b o : Nat) (x : Ev6) : Prop where
  c0 : w.cell? ⟨b, o, none⟩ = some (.int .i64 x.k)
  c1 : w.cell? ⟨b, o + 1, none⟩ = some (.string x.s)
  c2 : w.cell? ⟨b, o + 2, none⟩ = some (.string x.y)
  c3 : w.cell? ⟨b, o + 3, none⟩ = some (.int .i64 x.vk)
  c4 : w.cell? ⟨b, o + 4, none⟩ = some (.int .i64 x.vn)
  c5 : w.cell? ⟨b, o + 5, none⟩ = some (.int .i64 x.ln)
theorem EvAt.only {S : List Nat} {w w' : World} {b o : Nat} {x : Ev6} (h : EvAt w b o x) (ho : Only S w w') (hb : b < w.heap.size) (hs : b ∉ S) : EvAt w' b o x :=
  ⟨(ho.cell (p := ⟨b, o, none⟩) hb hs).trans h.c0, (ho.cell (p := ⟨b, o + 1, none⟩) hb hs).trans h.c1, (ho.cell (p := ⟨b, o + 2, none⟩) hb hs).trans h.c2, (ho.cell (p := ⟨b, o + 3, none⟩) hb hs).trans h.c3,
    (ho.cell (p := ⟨b, o + 4, none⟩) hb hs).trans h.c4, (ho.cell (p := ⟨b, o + 5, none⟩) hb hs).trans h.c5⟩
theorem row_ev {w : World} {B : Nat} {A : Option Addr} {l : List Ev6} (h : Row w B A (logC l)) {k : Nat} {x : Ev6} (hk : l[k]? = some x) : ∃ b off, A = some ⟨b, off, none⟩ ∧ b < B ∧ b < w.heap.size ∧ EvAt w b (off + k * 6) x := by
  have hlt := (List.getElem?_eq_some_iff.1 hk).1
  obtain ⟨b, off, rfl, h1, h2, hc⟩ := h.open_ (k := k * 6) (by rw [logC_len]; omega)
  have g := logC_get l k x hk
  refine ⟨b, off, rfl, h1, h2, ⟨?_, ?_, ?_, ?_, ?_, ?_⟩⟩
  · exact hc (k * 6) _ (g 0 (by omega))
  · rw [Nat.add_assoc]; exact hc _ _ (g 1 (by omega))
  · rw [Nat.add_assoc]; exact hc _ _ (g 2 (by omega))
  · rw [Nat.add_assoc]; exact hc _ _ (g 3 (by omega))
  · rw [Nat.add_assoc]; exact hc _ _ (g 4 (by omega))
  · rw [Nat.add_assoc]; exact hc _ _ (g 5 (by omega))

end Go.Proofs.YthaeomdpaadilaaGreatDoor

set_option linter.unusedVariables false
set_option linter.unusedSimpArgs false
namespace Go.Proofs.YthaeomdpaadilaaGreatDoor

def adE (acc : List Ev6) (k : Int) (s y : ByteArray) (vk vn : Int) : List Ev6 := acc ++ [⟨k, s, y, vk, vn, (acc.length : Int) + 1⟩]
def kindO (x : Op4) : Int := if x.wr = true then 3 else 2
def endK (f : Int) : Int := if f = 1 then 4 else if f = 2 then 5 else 6
def nth (l : List ByteArray) (i : Int) : ByteArray := (l[i.toNat]?).getD ⟨#[]⟩
def addO (ks : List ByteArray) (s : ByteArray) (acc : List Ev6) (x : Op4) : List Ev6 := adE acc (kindO x) s (nth ks x.key) x.vk x.vn
def addT (ss ks : List ByteArray) (acc : List Ev6) (t : Tx) : List Ev6 :=
  adE (t.ops.foldl (addO ks (nth ss t.s)) (adE acc 1 (nth ss t.s) ⟨#[]⟩ 0 0)) (endK t.f) (nth ss t.s) ⟨#[]⟩ 0 0
/-- The events of a history. -/
def evsH (h : Hst) : List Ev6 := h.l.foldl (addT h.ss h.ks) []

theorem adE_len (acc : List Ev6) (k : Int) (s y : ByteArray) (vk vn : Int) : (adE acc k s y vk vn).length = acc.length + 1 := by simp [adE]
theorem addO_len (ks : List ByteArray) (s : ByteArray) (l : List Op4) : ∀ acc, (l.foldl (addO ks s) acc).length = acc.length + l.length := by
  induction l with
  | nil => intro acc; rfl
  | cons x l ih =>
    intro acc
    rw [List.foldl_cons, ih, addO, adE_len, List.length_cons]
    omega
theorem addT_len (ss ks : List ByteArray) (acc : List Ev6) (t : Tx) : (addT ss ks acc t).length = acc.length + t.ops.length + 2 := by
  rw [addT, adE_len, addO_len, adE_len]
  omega
theorem fold_take {α β : Type} {f : β → α → β} {a : β} {l : List α} {k : Nat} {t : α} (h : l[k]? = some t) : (l.take (k + 1)).foldl f a = f ((l.take k).foldl f a) t := by
  rw [List.take_add_one, h, List.foldl_append]
  rfl
theorem fold_len (ss ks : List ByteArray) (l : List Tx) (h : ∀ t ∈ l, t.ops.length ≤ 20) : ∀ acc, (l.foldl (addT ss ks) acc).length ≤ acc.length + l.length * 22 := by
  induction l with
  | nil => intro acc; simp
  | cons t l ih =>
    intro acc
    have h1 := ih (fun x hx => h x (List.mem_cons_of_mem _ hx)) (addT ss ks acc t)
    have h2 := h t (List.mem_cons_self ..)
    rw [addT_len] at h1
    rw [List.foldl_cons, List.length_cons]
    omega
theorem and2 {a b : Bool} (h : (a && b) = true) : a = true ∧ b = true := by
  cases a <;> cases b <;> simp_all
theorem may_parts {h : Hst} (he : errH h = 0) : namesB h.ss 20 = true ∧ namesB h.ks 40 = true ∧ txsB h = true ∧ opsB h = true := by
  unfold errH at he
  split at he
  · rename_i hm
    unfold mayH at hm
    have h1 := and2 hm
    have h2 := and2 h1.2
    have h3 := and2 h2.2
    exact ⟨h1.1, h2.1, h3.1, h3.2⟩
  · omega
theorem may_len {h : Hst} (he : errH h = 0) : h.l.length ≤ 40 ∧ ∀ t ∈ h.l, t.ops.length ≤ 20 := by
  have h1 := and2 (may_parts he).2.2.1
  have h2 := and2 h1.2
  refine ⟨of_decide_eq_true h1.1, fun t ht => ?_⟩
  have h3 := List.all_eq_true.1 h2.1 t ht
  unfold txB at h3
  exact of_decide_eq_true (and2 (and2 h3).2).2
theorem may_ses {h : Hst} (he : errH h = 0) {t : Tx} (ht : t ∈ h.l) : ∃ j : Nat, t.s = (j : Int) ∧ j < h.ss.length := by
  have h1 := and2 (may_parts he).2.2.1
  have h2 := and2 h1.2
  have h3 := List.all_eq_true.1 h2.1 t ht
  unfold txB at h3
  have h4 := of_decide_eq_true (and2 h3).1
  exact ⟨t.s.toNat, by omega, by omega⟩
theorem may_key {h : Hst} (he : errH h = 0) {t : Tx} (ht : t ∈ h.l) {x : Op4} (hx : x ∈ t.ops) : ∃ j : Nat, x.key = (j : Int) ∧ j < h.ks.length := by
  have h1 := and2 (may_parts he).2.2.2
  have h2 := List.all_eq_true.1 h1.1 t ht
  have h3 := List.all_eq_true.1 h2 x hx
  unfold opB at h3
  have h4 := of_decide_eq_true (and2 h3).1
  exact ⟨x.key.toNat, by omega, by omega⟩
theorem nth_at {l : List ByteArray} {j : Nat} {s : ByteArray} (h : l[j]? = some s) : nth l (j : Int) = s := by
  unfold nth
  rw [show ((j : Int)).toNat = j from Int.toNat_natCast j, h]
  rfl
end Go.Proofs.YthaeomdpaadilaaGreatDoor

set_option linter.unusedVariables false
set_option linter.unusedSimpArgs false
namespace Go.Proofs.YthaeomdpaadilaaGreatDoor
open Go.Lib

/-- A kind that there is, or 0; its word; whether it has a key and a value. -/
def kOk (k : Int) : Bool := decide (1 ≤ k ∧ k ≤ 6)
def kN (k : Int) : Int := if 1 ≤ k ∧ k ≤ 6 then k else 0
def kW (k : Int) : ByteArray := if k = 1 then ⟨#[98, 101, 103, 105, 110]⟩ else if k = 2 then ⟨#[114, 101, 97, 100]⟩ else if k = 3 then ⟨#[119, 114, 105, 116, 101]⟩ else if k = 4 then ⟨#[111, 107]⟩ else if k = 5 then ⟨#[102, 97, 105, 108]⟩ else if k = 6 then ⟨#[105, 110, 102, 111]⟩ else ⟨#[]⟩
def kO (k : Int) : Bool := decide (k = 2 ∨ k = 3)
/-- The kind of a word, or 0. -/
def wK (s : ByteArray) : Int := if s = ⟨#[98, 101, 103, 105, 110]⟩ then 1 else if s = ⟨#[114, 101, 97, 100]⟩ then 2 else if s = ⟨#[119, 114, 105, 116, 101]⟩ then 3 else if s = ⟨#[111, 107]⟩ then 4 else if s = ⟨#[102, 97, 105, 108]⟩ then 5 else if s = ⟨#[105, 110, 102, 111]⟩ then 6 else 0
theorem kN_cases (k : Int) : (k = 1) ∨ (k = 2) ∨ (k = 3) ∨ (k = 4) ∨ (k = 5) ∨ (k = 6) ∨ (kN k = 0 ∧ kOk k = false ∧ kO k = false ∧ kW k = ⟨#[]⟩ ∧ k ≠ 1 ∧ k ≠ 2 ∧ k ≠ 3 ∧ k ≠ 4 ∧ k ≠ 5 ∧ k ≠ 6) := by
  by_cases h : 1 ≤ k ∧ k ≤ 6
  · omega
  · have h1 : k ≠ 1 := by omega
    have h2 : k ≠ 2 := by omega
    have h3 : k ≠ 3 := by omega
    have h4 : k ≠ 4 := by omega
    have h5 : k ≠ 5 := by omega
    have h6 : k ≠ 6 := by omega
    iterate 6 right
    refine ⟨if_neg h, decide_eq_false h, decide_eq_false (by omega), ?_, h1, h2, h3, h4, h5, h6⟩
    unfold kW
    rw [if_neg h1, if_neg h2, if_neg h3, if_neg h4, if_neg h5, if_neg h6]
theorem wK_cases (s : ByteArray) : (s = ⟨#[98, 101, 103, 105, 110]⟩ ∧ wK s = 1) ∨ (s = ⟨#[114, 101, 97, 100]⟩ ∧ wK s = 2) ∨ (s = ⟨#[119, 114, 105, 116, 101]⟩ ∧ wK s = 3) ∨ (s = ⟨#[111, 107]⟩ ∧ wK s = 4) ∨ (s = ⟨#[102, 97, 105, 108]⟩ ∧ wK s = 5) ∨ (s = ⟨#[105, 110, 102, 111]⟩ ∧ wK s = 6) ∨ (wK s = 0 ∧ s ≠ ⟨#[98, 101, 103, 105, 110]⟩ ∧ s ≠ ⟨#[114, 101, 97, 100]⟩ ∧ s ≠ ⟨#[119, 114, 105, 116, 101]⟩ ∧ s ≠ ⟨#[111, 107]⟩ ∧ s ≠ ⟨#[102, 97, 105, 108]⟩ ∧ s ≠ ⟨#[105, 110, 102, 111]⟩) := by
  unfold wK
  by_cases h1 : s = ⟨#[98, 101, 103, 105, 110]⟩
  · subst h1; left; exact ⟨rfl, by decide⟩
  by_cases h2 : s = ⟨#[114, 101, 97, 100]⟩
  · subst h2; right; left; exact ⟨rfl, by decide⟩
  by_cases h3 : s = ⟨#[119, 114, 105, 116, 101]⟩
  · subst h3; right; right; left; exact ⟨rfl, by decide⟩
  by_cases h4 : s = ⟨#[111, 107]⟩
  · subst h4; right; right; right; left; exact ⟨rfl, by decide⟩
  by_cases h5 : s = ⟨#[102, 97, 105, 108]⟩
  · subst h5; right; right; right; right; left; exact ⟨rfl, by decide⟩
  by_cases h6 : s = ⟨#[105, 110, 102, 111]⟩
  · subst h6; right; right; right; right; right; left; exact ⟨rfl, by decide⟩
  iterate 6 right
  exact ⟨by rw [if_neg h1, if_neg h2, if_neg h3, if_neg h4, if_neg h5, if_neg h6], h1, h2, h3, h4, h5, h6⟩

theorem ev_ne {s : ByteArray} {l : List UInt8} (h : s ≠ ⟨l.toArray⟩) : (s.toList == l) = false ∧ (l == s.toList) = false := by
  constructor
  all_goals
    rw [beq_eq_false_iff_ne, Lib.toList_data]
    intro e
  · exact h (by_inj (e.trans List.toList_toArray.symm))
  · exact h (by_inj (e.symm.trans List.toList_toArray.symm))

/-- The cells of the table of words. -/
def verbC : List Value := [.int .i64 1, .string ⟨#[98, 101, 103, 105, 110]⟩, .bool false, .int .i64 2, .string ⟨#[114, 101, 97, 100]⟩, .bool true, .int .i64 3, .string ⟨#[119, 114, 105, 116, 101]⟩, .bool true, .int .i64 4, .string ⟨#[111, 107]⟩, .bool false, .int .i64 5, .string ⟨#[102, 97, 105, 108]⟩, .bool false, .int .i64 6, .string ⟨#[105, 110, 102, 111]⟩, .bool false]
def verbV : Value := .agg #[.int .i64 1, .string ⟨#[98, 101, 103, 105, 110]⟩, .bool false, .int .i64 2, .string ⟨#[114, 101, 97, 100]⟩, .bool true, .int .i64 3, .string ⟨#[119, 114, 105, 116, 101]⟩, .bool true, .int .i64 4, .string ⟨#[111, 107]⟩, .bool false, .int .i64 5, .string ⟨#[102, 97, 105, 108]⟩, .bool false, .int .i64 6, .string ⟨#[105, 110, 102, 111]⟩, .bool false]
def Verbs (w : World) : Prop := 0 < w.heap.size ∧ ∀ (i : Nat) (u : Value), verbC[i]? = some u → w.cell? ⟨0, i, none⟩ = some u
theorem Verbs.only {w w' : World} (h : Verbs w) (ho : Only [] w w') : Verbs w' :=
  ⟨Nat.lt_of_lt_of_le h.1 ho.size, fun i u hu => (ho.cell (p := ⟨0, i, none⟩) h.1 (by simp)).trans (h.2 i u hu)⟩

theorem verbs_load {w : World} (hV : Verbs w) : (Instr.loadAt 134 (.pointer (some ⟨0, 0, none⟩))).run Tryz.prog w = .ok verbV w :=
  run_loadAt_mid w 0 0 134 verbC (.array 6 103) (fun j v hj => by rw [Nat.zero_add]; exact hV.2 j v hj) (by kernel_rfl) rfl (by kernel_rfl)
theorem verb_i0 (w : World) : (Instr.index 134 verbV (.int .i64 0)).run Tryz.prog w = .ok (.agg #[.int .i64 1, .string (kW 1), .bool (kO 1)]) w := by kernel_rfl
theorem verb_i1 (w : World) : (Instr.index 134 verbV (.int .i64 1)).run Tryz.prog w = .ok (.agg #[.int .i64 2, .string (kW 2), .bool (kO 2)]) w := by kernel_rfl
theorem verb_i2 (w : World) : (Instr.index 134 verbV (.int .i64 2)).run Tryz.prog w = .ok (.agg #[.int .i64 3, .string (kW 3), .bool (kO 3)]) w := by kernel_rfl
theorem verb_i3 (w : World) : (Instr.index 134 verbV (.int .i64 3)).run Tryz.prog w = .ok (.agg #[.int .i64 4, .string (kW 4), .bool (kO 4)]) w := by kernel_rfl
theorem verb_i4 (w : World) : (Instr.index 134 verbV (.int .i64 4)).run Tryz.prog w = .ok (.agg #[.int .i64 5, .string (kW 5), .bool (kO 5)]) w := by kernel_rfl
theorem verb_i5 (w : World) : (Instr.index 134 verbV (.int .i64 5)).run Tryz.prog w = .ok (.agg #[.int .i64 6, .string (kW 6), .bool (kO 6)]) w := by kernel_rfl
theorem verb_idx (j : Nat) (hj : j < 6) (w : World) : (Instr.index 134 verbV (.int .i64 (j : Int))).run Tryz.prog w = .ok (.agg #[.int .i64 ((j : Int) + 1), .string (kW ((j : Int) + 1)), .bool (kO ((j : Int) + 1))]) w := by
  have h : j = 0 ∨ j = 1 ∨ j = 2 ∨ j = 3 ∨ j = 4 ∨ j = 5 := by omega
  rcases h with rfl | rfl | rfl | rfl | rfl | rfl
  · exact verb_i0 w
  · exact verb_i1 w
  · exact verb_i2 w
  · exact verb_i3 w
  · exact verb_i4 w
  · exact verb_i5 w

end Go.Proofs.YthaeomdpaadilaaGreatDoor
