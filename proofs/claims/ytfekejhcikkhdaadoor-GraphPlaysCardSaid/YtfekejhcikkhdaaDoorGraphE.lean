/- The package graph: Undo. -/
import Derived.Test.YtfekejhcikkhdaaDoorGraphD
import Derived.Test.YtfekejhcikkhdaaDoorTimed
set_option linter.unusedVariables false
set_option linter.unusedSimpArgs false
namespace Go.Proofs.YtfekejhcikkhdaaDoor
open Go.RowKit
attribute [local go_sem ↓] Go.wp_at_zero Go.wp_at_succ

theorem gput_any (p n : Nat) (O I : List (List Nat)) (h : List (Int × Int)) (fp : List Nat) (a b : Int) (w : World) (hg : Gr w p n O I h fp) (hm : h.length ≤ 1000000) (hn : n ≤ 500) :
    Calls Tryd.prog 15 #[.pointer (some ⟨p, 0, none⟩), .int .i64 a, .int .i64 b] w fun e w' => e = .returned (.tuple #[.bool (pB n O a b), .int .i64 (pE n a b)]) ∧
      ∃ fp', Gr w' p n (pO n O a b) (pI n O I a b) (pH n O h a b) fp' ∧ Only fp w w' ∧ ∀ b ∈ fp', b ∈ fp ∨ w.heap.size ≤ b := by
  cases hab : (ndN n a && ndN n b) with
  | false =>
    refine (gput_arg p n O I h fp a b w hg hab).mono ?_
    rintro e w' ⟨rfl, rfl⟩
    have hb : pB n O a b = false := by unfold pB; rw [hab]; rfl
    refine ⟨by rw [hb]; unfold pE; rw [hab]; rfl, fp, by unfold pO pI pH; simp only [hb]; exact hg, Only.refl _ _, fun b hb => .inl hb⟩
  | true =>
    have hA : ndN n a = true := by simp only [Bool.and_eq_true] at hab; exact hab.1
    have hB : ndN n b = true := by simp only [Bool.and_eq_true] at hab; exact hab.2
    cases hh : hasW (O.getD a.toNat []) b with
    | true =>
      refine (gput_old p n O I h fp a b w hg hA hB hh).mono ?_
      rintro e w' ⟨rfl, rfl⟩
      have hb : pB n O a b = false := by unfold pB; rw [hab, hh]; rfl
      refine ⟨by rw [hb]; unfold pE; rw [hab]; rfl, fp, by unfold pO pI pH; simp only [hb]; exact hg, Only.refl _ _, fun b hb => .inl hb⟩
    | false =>
      have ha' : 0 ≤ a ∧ a < n := by simpa [ndN] using hA
      have hb' : 0 ≤ b ∧ b < n := by simpa [ndN] using hB
      obtain ⟨k, rfl⟩ := Int.eq_ofNat_of_zero_le ha'.1
      obtain ⟨l, rfl⟩ := Int.eq_ofNat_of_zero_le hb'.1
      rw [Int.toNat_natCast] at hh
      refine (gput_new p n O I h fp k l w hg (by omega) (by omega) hh hm hn).mono ?_
      rintro e w' ⟨rfl, fp', G, O1, F⟩
      have hb : pB n O (k : Int) (l : Int) = true := by unfold pB; rw [hab, Int.toNat_natCast, hh]; rfl
      refine ⟨by rw [hb]; unfold pE; rw [hab]; rfl, fp', ?_, O1, F⟩
      unfold pO pI pH
      simp only [hb, if_true, Int.toNat_natCast]
      exact G

theorem GrC.only {w w' : World} {p n : Nat} {A1 A2 A3 : Option Addr} {c1 c2 c3 : Nat} {po qi : List Nat} {O I : List (List Nat)} {h : List (Int × Int)} {fp S : List Nat} (g : GrC w p n A1 A2 A3 c1 c2 c3 po qi O I h fp) (ho : Only S w w') (hS : ∀ b ∈ fp, b ∉ S) : GrC w' p n A1 A2 A3 c1 c2 c3 po qi O I h fp := by
  refine ⟨ho.blk g.blk (hS _ g.mp), own_only g.row1 ho (fun b hb => hS b (g.m1 b (by rw [hb]; simp))), own_only g.row2 ho (fun b hb => hS b (g.m2 b (by rw [hb]; simp))),
    own_only g.row3 ho (fun b hb => hS b (g.m3 b (by rw [hb]; simp))), g.len1, g.len2, g.len3, g.len4, fun i hi => (g.set1 i hi).only ho (hS _ (g.m0 _ ?_)), fun i hi => (g.set2 i hi).only ho (hS _ (g.m0 _ ?_)), g.nodup, g.mp, g.m0, g.m1, g.m2, g.m3, g.wf⟩
  · exact List.mem_append_left _ (getD_mem (by rw [g.len1]; exact hi))
  · exact List.mem_append_right _ (getD_mem (by rw [g.len2]; exact hi))

/-- One set of each side is another now. -/
theorem GrC.sets {w w1 w2 : World} {p n : Nat} {A1 A2 A3 : Option Addr} {c1 c2 c3 : Nat} {po qi : List Nat} {O I : List (List Nat)} {h : List (Int × Int)} {fp : List Nat} (g : GrC w p n A1 A2 A3 c1 c2 c3 po qi O I h fp) {k l : Nat} (hk : k < n) (hl : l < n) {X Y : List Nat}
    (B1 : BSet w1 (po.getD k 0) X) (O1 : Only [po.getD k 0] w w1) (B2 : BSet w2 (qi.getD l 0) Y) (O2 : Only [qi.getD l 0] w1 w2) : GrC w2 p n A1 A2 A3 c1 c2 c3 po qi (O.set k X) (I.set l Y) h fp := by
  have hbx := g.set1 k hk
  have hby := g.set2 l hl
  have hxpo : po.getD k 0 ∈ po := getD_mem (by rw [g.len1]; exact hk)
  have hyqi : qi.getD l 0 ∈ qi := getD_mem (by rw [g.len2]; exact hl)
  have hnd := List.nodup_append.1 g.nodup
  have hxy : po.getD k 0 ≠ qi.getD l 0 := hnd.2.2 _ hxpo _ hyqi
  have hxp : po.getD k 0 ≠ p := hbx.1.apart g.blk (by decide)
  have hyp : qi.getD l 0 ≠ p := hby.1.apart g.blk (by decide)
  have hrow : ∀ {e : TypeId} {size m : Nat} {v : Value} {xs : List Value}, w.ownsRow 0 e size v m xs → e ≠ 64 → w2.ownsRow 0 e size v m xs := fun {e size m v xs} hr hne => by
    have h1 := own_only hr O1 (fun b hb => by simp; exact fun e => own_apart hr hbx.1 hne (by rw [hb, e]; simp))
    exact own_only h1 O2 (fun b hb => by simp; exact fun e => own_apart hr hby.1 hne (by rw [hb, e]; simp))
  refine ⟨O2.blk (O1.blk g.blk (by simp; exact fun e => hxp e.symm)) (by simp; exact fun e => hyp e.symm), hrow g.row1 (by decide), hrow g.row2 (by decide), hrow g.row3 (by decide), g.len1, g.len2, by rw [List.length_set]; exact g.len3, by rw [List.length_set]; exact g.len4, ?_, ?_, g.nodup, g.mp, g.m0, g.m1, g.m2, g.m3, g.wf⟩
  · intro i hi
    rw [getD_setL _ _ _ _ (by rw [g.len3]; exact hk)]
    by_cases hik : k = i
    · subst hik
      rw [if_pos rfl]
      exact B1.only O2 (by simp; simpa using hxy)
    · rw [if_neg hik]
      have hne : po.getD i 0 ≠ po.getD k 0 := nodup_getD hnd.1 (by rw [g.len1]; exact hi) (by rw [g.len1]; exact hk) (Ne.symm hik)
      have hne2 : po.getD i 0 ≠ qi.getD l 0 := hnd.2.2 _ (getD_mem (by rw [g.len1]; exact hi)) _ hyqi
      exact ((g.set1 i hi).only O1 (by simp; simpa using hne)).only O2 (by simp; simpa using hne2)
  · intro i hi
    rw [getD_setL _ _ _ _ (by rw [g.len4]; exact hl)]
    by_cases hik : l = i
    · subst hik
      rw [if_pos rfl]
      exact B2
    · rw [if_neg hik]
      have hne : qi.getD i 0 ≠ qi.getD l 0 := nodup_getD hnd.2.1 (by rw [g.len2]; exact hi) (by rw [g.len2]; exact hl) (Ne.symm hik)
      have hne2 : qi.getD i 0 ≠ po.getD k 0 := fun e => hnd.2.2 _ hxpo _ (getD_mem (by rw [g.len2]; exact hi)) e.symm
      exact ((g.set2 i hi).only O1 (by simp; simpa using hne2)).only O2 (by simp; simpa using hne)

/-- The end of a row, as a slice that is read. -/
theorem row_drop {w : World} {base size : Nat} {e : TypeId} {A : Option Addr} {n c : Nat} {xs : List Value} (h : w.ownsRow base e size (.slice A n c) n xs) (m : Nat) (hm : m ≤ n) :
    Row w w.heap.size (if c = m then A else A.map (·.add (m * size))) (xs.drop (m * size)) := by
  obtain ⟨hl, hv⟩ := h
  rcases hv with ⟨h0, rfl⟩ | ⟨g, cap, cur, h0, hb, hg, hn, hmx, hs, ht⟩
  · left
    have : xs = [] := List.eq_nil_of_length_eq_zero (by simpa using hl)
    simp [this]
  · simp only [Value.slice.injEq, true_and] at h0
    obtain ⟨rfl, rfl⟩ := h0
    by_cases hcm : c = m
    · left
      have : n = m := by omega
      subst this
      exact List.drop_of_length_le (by omega)
    · right
      refine ⟨g, m * size, ?_, (Array.getElem?_eq_some_iff.1 hg).1, Nat.le_refl _, fun j u hu => ?_⟩
      · rw [if_neg hcm]
        simp [Addr.add]
        try omega
      · rw [List.getElem?_drop] at hu
        have hlt : m * size + j < xs.length := (List.getElem?_eq_some_iff.1 hu).1
        rw [cell_of_row w g (m * size + j) cur e (0, 0) hg]
        rw [← ht, List.getElem?_take, if_pos (by omega)] at hu
        simpa using hu

/-- The first of a row. -/
theorem own_take {w : World} {base size : Nat} {e : TypeId} {A : Option Addr} {n c : Nat} {xs : List Value} (h : w.ownsRow base e size (.slice A n c) n xs) (m : Nat) (hm : m ≤ n) :
    w.ownsRow base e size (.slice A m c) m (xs.take (m * size)) := by
  obtain ⟨hl, hv⟩ := h
  have hle : m * size ≤ n * size := Nat.mul_le_mul_right size hm
  refine ⟨by rw [List.length_take, hl]; omega, ?_⟩
  rcases hv with ⟨h0, rfl⟩ | ⟨g, cap, cur, h0, hb, hg, hn, hmx, hs, ht⟩
  · left
    simp only [Value.slice.injEq] at h0
    obtain ⟨rfl, _, rfl⟩ := h0
    have : m = 0 := by omega
    subst this
    exact ⟨rfl, rfl⟩
  · right
    simp only [Value.slice.injEq, true_and] at h0
    obtain ⟨rfl, rfl⟩ := h0
    refine ⟨g, c, cur, rfl, hb, hg, by omega, hmx, hs, ?_⟩
    rw [← ht, List.take_take]
    congr 1
    omega

theorem own_add0 {w : World} {base size : Nat} {e : TypeId} {A : Option Addr} {n c : Nat} {xs : List Value} : (if c = 0 then A else A.map (·.add (0 * size))) = A := by
  split
  · rfl
  · cases A with
    | none => rfl
    | some a => simp [Addr.add]

theorem slice_from (A : Option Addr) (len c m : Nat) (hm : m ≤ len) (W : World) : (Instr.slice 22 (.slice A len c) (some (.int .i64 (m : Int))) none none).run Tryd.prog W = .ok (.slice (if c = m then A else A.map (·.add (m * 2))) (len - m) (c - m)) W := by
  rw [run_slice_l (P := Tryd.prog) W 22 A len c (by kernel_rfl) .i64 (m : Int) (by omega) (by omega)]
  have hs : (sizeOf (Tryd.prog.elem 22)).run Tryd.prog W = .ok 2 W := by kernel_rfl
  rw [hs]
  simp [Result.andThen, sliced]

theorem slice_to (A : Option Addr) (len c m : Nat) (hm : m ≤ c) (W : World) : (Instr.slice 22 (.slice A len c) none (some (.int .i64 (m : Int))) none).run Tryd.prog W = .ok (.slice A m c) W := by
  rw [run_slice_h (P := Tryd.prog) W 22 A len c (by kernel_rfl) .i64 (m : Int) (by omega) (by omega)]
  have hs : (sizeOf (Tryd.prog.elem 22)).run Tryd.prog W = .ok 2 W := by kernel_rfl
  rw [hs]
  simp only [Result.andThen, sliced, Int.toNat_natCast, Nat.sub_zero]
  rw [own_add0 (w := W) (base := 0) (e := 0) (xs := []) (n := 0)]

def undo1 (s : List (List Nat) × List (List Nat)) (e : Int × Int) : List (List Nat) × List (List Nat) :=
  (s.1.set e.1.toNat (dropW (s.1.getD e.1.toNat []) e.2), s.2.set e.2.toNat (dropW (s.2.getD e.2.toNat []) e.1))
def undoS (O I : List (List Nat)) (h : List (Int × Int)) (m : Nat) : List (List Nat) × List (List Nat) := (h.drop m).foldl undo1 (O, I)

theorem undoS_succ (O I : List (List Nat)) (h : List (Int × Int)) (m j : Nat) (e : Int × Int) (he : h[m + j]? = some e) : undoS O I (h.take (m + (j + 1))) m = undo1 (undoS O I (h.take (m + j)) m) e := by
  unfold undoS
  have hlt : m + j < h.length := (List.getElem?_eq_some_iff.1 he).1
  rw [← Nat.add_assoc, List.take_add_one, he, List.drop_append_of_le_length (by rw [List.length_take]; omega), List.foldl_append]
  rfl

theorem edgeC_take (h : List (Int × Int)) (m : Nat) : edgeC (h.take m) = (edgeC h).take (m * 2) := by
  induction h generalizing m with
  | nil => simp [edgeC]
  | cons x h ih =>
    cases m with
    | zero => simp [edgeC]
    | succ m =>
      have := ih m
      simp only [edgeC, List.take_succ_cons, List.flatMap_cons, List.cons_append, List.nil_append] at this ⊢
      rw [show (m + 1) * 2 = m * 2 + 2 by omega, List.take_succ_cons, List.take_succ_cons, this]

set_option maxHeartbeats 400000 in
theorem gundo_arg (p n : Nat) (O I : List (List Nat)) (h : List (Int × Int)) (fp : List Nat) (m : Int) (w : World) (hg : Gr w p n O I h fp) (hm : m < 0 ∨ (h.length : Int) < m) :
    Calls Tryd.prog 17 #[.pointer (some ⟨p, 0, none⟩), .int .i64 m] w fun e w' => e = .returned (.int .i64 2) ∧ w = w' := by
  obtain ⟨A1, A2, A3, c1, c2, c3, po, qi, g⟩ := hg
  have h0 := g.blk.at_ 0
  have h3 := g.blk.at_ 3
  simp at h0 h3
  have HIS := Lib.hid (gis_some p true w h0)
  clear g
  by_cases hneg : m < 0
  · clear hm
    go_enter Tryd.func17, Tryd.ntmps17
    go_wp2_with fail
    refine (HIS.out).mono ?_
    rintro e w1 ⟨rfl, rfl⟩
    go_wp2
    go_ret
    exact ⟨rfl, rfl⟩
  · have h1 : 0 ≤ m := by omega
    have h2 : (h.length : Int) < m := by omega
    have hd1 : decide (m < 0) = false := by simp; omega
    have hd2 : decide ((h.length : Int) < m) = true := by simp; omega
    clear hm hneg
    go_enter Tryd.func17, Tryd.ntmps17
    go_wp2_with fail
    refine (HIS.out).mono ?_
    rintro e w1 ⟨rfl, rfl⟩
    go_wp2
    go_ret
    exact ⟨rfl, rfl⟩

attribute [-go_sem] Go.run_slice_l Go.run_slice_h Go.run_slice_any Go.run_slice_lh in
set_option maxHeartbeats 4000000 in
theorem gundo_ok (p n : Nat) (O I : List (List Nat)) (h : List (Int × Int)) (fp : List Nat) (m : Nat) (w : World) (hg : Gr w p n O I h fp) (hm : m ≤ h.length) (hlen : h.length ≤ 1000000) (hn : n ≤ 500) :
    Calls Tryd.prog 17 #[.pointer (some ⟨p, 0, none⟩), .int .i64 (m : Int)] w fun e w' => e = .returned (.int .i64 0) ∧ Gr w' p n (undoS O I h m).1 (undoS O I h m).2 (h.take m) fp ∧ Only fp w w' := by
  obtain ⟨A1, A2, A3, c1, c2, c3, po, qi, g⟩ := hg
  have h0 := g.blk.at_ 0
  have h3 := g.blk.at_ 3
  simp at h0 h3
  have HIS := Lib.hid (gis_some p true w h0)
  have hd1 : decide ((m : Int) < 0) = false := by simp
  have hd2 : decide ((h.length : Int) < (m : Int)) = false := by simp; omega
  have hd3 : decide (h.length < m) = false := by simp; omega
  have hcap : h.length ≤ c3 := by
    obtain ⟨_, c, e, hc, _⟩ := own_row g.row3
    simp at e; omega
  obtain ⟨B3, hB3⟩ : ∃ B3, B3 = (if c3 = m then A3 else A3.map (·.add (m * 2))) := ⟨_, rfl⟩
  have hs1 := fun W => slice_from A3 h.length c3 m hm W
  rw [← hB3] at hs1
  have hs2 := fun W => slice_to A3 h.length c3 m (by omega) W
  have HB3 := Lib.hid hB3
  have HG := Lib.hid g
  have hcast : ((h.length - m : Nat) : Int) = (h.length : Int) - (m : Int) := by omega
  clear g hB3
  go_enter Tryd.func17, Tryd.ntmps17
  go_wp2_with fail
  refine (HIS.out).mono ?_
  rintro e w1 ⟨rfl, rfl⟩
  go_wp2_with fail
  go_loopw [30] (fun i wr => ∃ j : Nat, i = .int .i64 j ∧ j ≤ h.length - m ∧ Only fp w wr ∧ Hid (GrC wr p n A1 A2 A3 c1 c2 c3 po qi (undoS O I (h.take (m + j)) m).1 (undoS O I (h.take (m + j)) m).2 h fp)) (fun i _ => (h.length - m) - (intOf i).toNat)
  case atStart => exact ⟨0, rfl, by omega, Only.refl _ _, by rw [show undoS O I (h.take (m + 0)) m = (O, I) by simp [undoS]]; exact HG⟩
  case round =>
    obtain ⟨j, rfl, hj, hO, HJ⟩ := hrel
    by_cases hlt : j < h.length - m
    · have hj1 : (j : Int) < (h.length : Int) - (m : Int) := by omega
      have hj0 : (0 : Int) ≤ (j : Int) := by omega
      obtain ⟨e, he⟩ : ∃ e, h[m + j]? = some e := ⟨_, List.getElem?_eq_getElem (by omega)⟩
      have hwf := HG.out.wf e (List.mem_of_getElem? he)
      obtain ⟨ea, eb⟩ := e
      simp only at hwf
      obtain ⟨k, rfl⟩ := Int.eq_ofNat_of_zero_le hwf.1
      obtain ⟨l, rfl⟩ := Int.eq_ofNat_of_zero_le hwf.2.2.1
      have hk : k < n := by omega
      have hl : l < n := by omega
      have hrow : Row wr wr.heap.size B3 ((edgeC h).drop (m * 2)) := by rw [HB3.out]; exact row_drop HJ.out.row3 m hm
      obtain ⟨b, off, rfl, hbB, hbw, hcell⟩ := hrow.open_ (k := j * 2) (by rw [List.length_drop, edgeC_len]; omega)
      have hee := edgeC_get h (m + j) _ he
      have e0 : wr.cell? ⟨b, off + j * 2, none⟩ = some (.int .i64 (k : Int)) := hcell (j * 2) _ (by rw [List.getElem?_drop, show m * 2 + j * 2 = (m + j) * 2 by omega]; exact hee.1)
      have e1 : wr.cell? ⟨b, off + j * 2 + 1, none⟩ = some (.int .i64 (l : Int)) := by
        have := hcell (j * 2 + 1) _ (by rw [List.getElem?_drop, show m * 2 + (j * 2 + 1) = (m + j) * 2 + 1 by omega]; exact hee.2)
        rw [Nat.add_assoc]; exact this
      clear hcell hrow hee hwf
      obtain ⟨W1, hW1⟩ : ∃ W1, W1 = wr.alloc (.cells #[.int .i64 (k : Int), .int .i64 (l : Int)] 53) := ⟨_, rfl⟩
      have OA : Only [] wr W1 := by rw [hW1]; exact (Only.refl [] wr).alloc _
      have gA := HJ.out.only OA (fun _ _ => by simp)
      obtain ⟨g1, hA1, hg1, f4⟩ := ptr_at gA.row1 gA.len1 hk
      obtain ⟨g2, hA2, hg2, q4⟩ := ptr_at gA.row2 gA.len2 hl
      have hplt := gA.blk.lt
      have f1 : W1.cell? ⟨p, 1, none⟩ = some (.slice A1 n c1) := gA.blk.at_ 1
      have q1 : W1.cell? ⟨p, 2, none⟩ = some (.slice A2 n c2) := gA.blk.at_ 2
      rw [hA1] at f1
      rw [hA2] at q1
      have hbv : Blk W1 wr.heap.size 53 #[.int .i64 (k : Int), .int .i64 (l : Int)] := by rw [hW1]; exact Blk.made _ _ _
      have f2 : W1.cell? ⟨wr.heap.size, 0, none⟩ = some (.int .i64 (k : Int)) := hbv.at_ 0
      have f3 : W1.cell? ⟨wr.heap.size, 1, none⟩ = some (.int .i64 (l : Int)) := hbv.at_ 1
      have hvlt := hbv.lt
      have hbx := gA.set1 k hk
      have hby := gA.set2 l hl
      have hxv : wr.heap.size ≠ po.getD k 0 := hbv.apart hbx.1 (by decide)
      have hxp : p ≠ po.getD k 0 := gA.blk.apart hbx.1 (by decide)
      have hxg : g2 ≠ po.getD k 0 := fun e => own_apart gA.row2 hbx.1 (by decide) (by rw [hA2]; simp [Value.ownBlock, e])
      have hxy : qi.getD l 0 ≠ po.getD k 0 := fun e => (List.nodup_append.1 gA.nodup).2.2 _ (getD_mem (by rw [gA.len1]; exact hk)) _ (getD_mem (by rw [gA.len2]; exact hl)) e.symm
      have hxg1 : g1 ≠ po.getD k 0 := fun e => own_apart gA.row1 hbx.1 (by decide) (by rw [hA1]; simp [Value.ownBlock, e])
      have hyp : p ≠ qi.getD l 0 := gA.blk.apart hby.1 (by decide)
      have hyv : wr.heap.size ≠ qi.getD l 0 := hbv.apart hby.1 (by decide)
      have hyg : g2 ≠ qi.getD l 0 := fun e => own_apart gA.row2 hby.1 (by decide) (by rw [hA2]; simp [Value.ownBlock, e])
      have hml : mayN (l : Int) = true := mayN_iff.2 (by omega)
      have hmk : mayN (k : Int) = true := mayN_iff.2 (by omega)
      have hx0 := drop_any (po.getD k 0) (l : Int) _ W1.drew hbx.drew
      rw [if_pos hml] at hx0
      have HX := Lib.hid hx0
      have HGA := Lib.hid gA
      have HBY := Lib.hid hby
      have HW1 := Lib.hid hW1
      have HE := Lib.hid he
      clear hx0 hml gA hby hbx hbv he
      go_wp2_with fail
      rw [← HW1.out]
      clear hA1 hA2 hW1
      refine wp_region_noPanic ?_
      refine wp_region_timed (F := [⟨[], [], fun w' => Only [po.getD k 0] W1 w'⟩]) (by kernel_rfl) (timed_holds ((Only.refl [po.getD k 0] W1).drew) (timed_nil)) ?_
      refine timed_pure (i := 0) (v := ?_) rfl (by kernel_rfl) (by kernel_rfl) (by kernel_rfl) (fun _ _ _ h => h) (by kernel_rfl) (by kernel_rfl) ?_ ?_
      rotate_left
      · (intro w; go_simp; try with_reducible rfl)
      try simp only [Act.put, List.getElem_toArray, List.getElem_cons_zero, List.getElem_cons_succ, List.setIfInBounds_toArray, List.set_cons_zero, List.set_cons_succ]
      refine timed_pure (i := 1) (v := ?_) rfl (by kernel_rfl) (by kernel_rfl) (by kernel_rfl) (fun _ _ _ h => h) (by kernel_rfl) (by kernel_rfl) ?_ ?_
      rotate_left
      · (intro w; go_simp; try with_reducible rfl)
      try simp only [Act.put, List.getElem_toArray, List.getElem_cons_zero, List.getElem_cons_succ, List.setIfInBounds_toArray, List.set_cons_zero, List.set_cons_succ]
      refine timed_pure (i := 2) (v := ?_) rfl (by kernel_rfl) (by kernel_rfl) (by kernel_rfl) (fun _ _ _ h => h) (by kernel_rfl) (by kernel_rfl) ?_ ?_
      rotate_left
      · (intro w; go_simp; try with_reducible rfl)
      try simp only [Act.put, List.getElem_toArray, List.getElem_cons_zero, List.getElem_cons_succ, List.setIfInBounds_toArray, List.set_cons_zero, List.set_cons_succ]
      refine timed_read (i := 3) (v := ?_) 0 rfl (by kernel_rfl) (by kernel_rfl) (by kernel_rfl) (fun _ _ _ h => h) (by kernel_rfl) (by kernel_rfl) rfl (by kernel_rfl) ?_ ?_
      rotate_left
      · (intro wq hSw; (try dsimp only at hSw); have a1 := (hSw.cell (p := ⟨p, 1, none⟩) hplt (by simp; simpa using hxp)).trans f1; have a2 := (hSw.cell (p := ⟨wr.heap.size, 0, none⟩) hvlt (by simp; simpa using hxv)).trans f2; have a3 := (hSw.cell (p := ⟨wr.heap.size, 1, none⟩) hvlt (by simp; simpa using hxv)).trans f3; have a4 := (hSw.cell (p := ⟨g1, k, none⟩) hg1 (by simp; simpa using hxg1)).trans f4; clear hSw; go_simp; try with_reducible rfl)
      try simp only [Act.put, List.getElem_toArray, List.getElem_cons_zero, List.getElem_cons_succ, List.setIfInBounds_toArray, List.set_cons_zero, List.set_cons_succ]
      refine timed_pure (i := 4) (v := ?_) rfl (by kernel_rfl) (by kernel_rfl) (by kernel_rfl) (fun _ _ _ h => h) (by kernel_rfl) (by kernel_rfl) ?_ ?_
      rotate_left
      · (intro w; go_simp; try with_reducible rfl)
      try simp only [Act.put, List.getElem_toArray, List.getElem_cons_zero, List.getElem_cons_succ, List.setIfInBounds_toArray, List.set_cons_zero, List.set_cons_succ]
      refine timed_read (i := 5) (v := ?_) 0 rfl (by kernel_rfl) (by kernel_rfl) (by kernel_rfl) (fun _ _ _ h => h) (by kernel_rfl) (by kernel_rfl) rfl (by kernel_rfl) ?_ ?_
      rotate_left
      · (intro wq hSw; (try dsimp only at hSw); have a1 := (hSw.cell (p := ⟨p, 1, none⟩) hplt (by simp; simpa using hxp)).trans f1; have a2 := (hSw.cell (p := ⟨wr.heap.size, 0, none⟩) hvlt (by simp; simpa using hxv)).trans f2; have a3 := (hSw.cell (p := ⟨wr.heap.size, 1, none⟩) hvlt (by simp; simpa using hxv)).trans f3; have a4 := (hSw.cell (p := ⟨g1, k, none⟩) hg1 (by simp; simpa using hxg1)).trans f4; clear hSw; go_simp; try with_reducible rfl)
      try simp only [Act.put, List.getElem_toArray, List.getElem_cons_zero, List.getElem_cons_succ, List.setIfInBounds_toArray, List.set_cons_zero, List.set_cons_succ]
      refine timed_pure (i := 6) (v := ?_) rfl (by kernel_rfl) (by kernel_rfl) (by kernel_rfl) (fun _ _ _ h => h) (by kernel_rfl) (by kernel_rfl) ?_ ?_
      rotate_left
      · (intro w; go_simp; try with_reducible rfl)
      try simp only [Act.put, List.getElem_toArray, List.getElem_cons_zero, List.getElem_cons_succ, List.setIfInBounds_toArray, List.set_cons_zero, List.set_cons_succ]
      refine timed_read (i := 7) (v := ?_) 0 rfl (by kernel_rfl) (by kernel_rfl) (by kernel_rfl) (fun _ _ _ h => h) (by kernel_rfl) (by kernel_rfl) rfl (by kernel_rfl) ?_ ?_
      rotate_left
      · (intro wq hSw; (try dsimp only at hSw); have a1 := (hSw.cell (p := ⟨p, 1, none⟩) hplt (by simp; simpa using hxp)).trans f1; have a2 := (hSw.cell (p := ⟨wr.heap.size, 0, none⟩) hvlt (by simp; simpa using hxv)).trans f2; have a3 := (hSw.cell (p := ⟨wr.heap.size, 1, none⟩) hvlt (by simp; simpa using hxv)).trans f3; have a4 := (hSw.cell (p := ⟨g1, k, none⟩) hg1 (by simp; simpa using hxg1)).trans f4; clear hSw; go_simp; try with_reducible rfl)
      try simp only [Act.put, List.getElem_toArray, List.getElem_cons_zero, List.getElem_cons_succ, List.setIfInBounds_toArray, List.set_cons_zero, List.set_cons_succ]
      refine timed_pure (i := 8) (v := ?_) rfl (by kernel_rfl) (by kernel_rfl) (by kernel_rfl) (fun _ _ _ h => h) (by kernel_rfl) (by kernel_rfl) ?_ ?_
      rotate_left
      · (intro w; go_simp; try with_reducible rfl)
      try simp only [Act.put, List.getElem_toArray, List.getElem_cons_zero, List.getElem_cons_succ, List.setIfInBounds_toArray, List.set_cons_zero, List.set_cons_succ]
      refine timed_read (i := 9) (v := ?_) 0 rfl (by kernel_rfl) (by kernel_rfl) (by kernel_rfl) (fun _ _ _ h => h) (by kernel_rfl) (by kernel_rfl) rfl (by kernel_rfl) ?_ ?_
      rotate_left
      · (intro wq hSw; (try dsimp only at hSw); have a1 := (hSw.cell (p := ⟨p, 1, none⟩) hplt (by simp; simpa using hxp)).trans f1; have a2 := (hSw.cell (p := ⟨wr.heap.size, 0, none⟩) hvlt (by simp; simpa using hxv)).trans f2; have a3 := (hSw.cell (p := ⟨wr.heap.size, 1, none⟩) hvlt (by simp; simpa using hxv)).trans f3; have a4 := (hSw.cell (p := ⟨g1, k, none⟩) hg1 (by simp; simpa using hxg1)).trans f4; clear hSw; go_simp; try with_reducible rfl)
      try simp only [Act.put, List.getElem_toArray, List.getElem_cons_zero, List.getElem_cons_succ, List.setIfInBounds_toArray, List.set_cons_zero, List.set_cons_succ]
      refine timed_step (i := 10) (by kernel_rfl) rfl (fun K hK => ?_)
      go_simp
      refine (HX.out).mono ?_
      rintro e w1 ⟨rfl, B1, O1⟩
      refine hK.out _ _ (timed_holds (((Only.refl [po.getD k 0] W1).drew).trans O1) (timed_nil)) ?_
      clear hK K
      try simp only [Act.put, List.getElem_toArray, List.getElem_cons_zero, List.getElem_cons_succ, List.setIfInBounds_toArray, List.set_cons_zero, List.set_cons_succ]
      refine timed_done (by kernel_rfl) ?_ _
      refine NoPanic.normal ?_
      have d1 := (O1.cell (p := ⟨p, 2, none⟩) hplt (by simp; simpa using hxp)).trans q1
      have d2 := (O1.cell (p := ⟨wr.heap.size, 0, none⟩) hvlt (by simp; simpa using hxv)).trans f2
      have d3 := (O1.cell (p := ⟨wr.heap.size, 1, none⟩) hvlt (by simp; simpa using hxv)).trans f3
      have d4 := (O1.cell (p := ⟨g2, l, none⟩) hg2 (by simp; simpa using hxg)).trans q4
      have hplt1 : p < w1.heap.size := Nat.lt_of_lt_of_le hplt O1.size
      have hvlt1 : wr.heap.size < w1.heap.size := Nat.lt_of_lt_of_le hvlt O1.size
      have hg21 : g2 < w1.heap.size := Nat.lt_of_lt_of_le hg2 O1.size
      have hy0 := drop_any (qi.getD l 0) (k : Int) _ w1.drew (HBY.out.only (((Only.refl [po.getD k 0] W1).drew).trans O1) (by simp; simpa using hxy)).drew
      rw [if_pos hmk] at hy0
      have HY := Lib.hid hy0
      clear hy0 hmk
      go_wp2_with fail
      refine wp_region_noPanic ?_
      refine wp_region_timed (F := [⟨[], [], fun w' => Only [qi.getD l 0] w1 w'⟩]) (by kernel_rfl) (timed_holds ((Only.refl [qi.getD l 0] w1).drew) (timed_nil)) ?_
      refine timed_pure (i := 0) (v := ?_) rfl (by kernel_rfl) (by kernel_rfl) (by kernel_rfl) (fun _ _ _ h => h) (by kernel_rfl) (by kernel_rfl) ?_ ?_
      rotate_left
      · (intro w; go_simp; try with_reducible rfl)
      try simp only [Act.put, List.getElem_toArray, List.getElem_cons_zero, List.getElem_cons_succ, List.setIfInBounds_toArray, List.set_cons_zero, List.set_cons_succ]
      refine timed_pure (i := 1) (v := ?_) rfl (by kernel_rfl) (by kernel_rfl) (by kernel_rfl) (fun _ _ _ h => h) (by kernel_rfl) (by kernel_rfl) ?_ ?_
      rotate_left
      · (intro w; go_simp; try with_reducible rfl)
      try simp only [Act.put, List.getElem_toArray, List.getElem_cons_zero, List.getElem_cons_succ, List.setIfInBounds_toArray, List.set_cons_zero, List.set_cons_succ]
      refine timed_pure (i := 2) (v := ?_) rfl (by kernel_rfl) (by kernel_rfl) (by kernel_rfl) (fun _ _ _ h => h) (by kernel_rfl) (by kernel_rfl) ?_ ?_
      rotate_left
      · (intro w; go_simp; try with_reducible rfl)
      try simp only [Act.put, List.getElem_toArray, List.getElem_cons_zero, List.getElem_cons_succ, List.setIfInBounds_toArray, List.set_cons_zero, List.set_cons_succ]
      refine timed_read (i := 3) (v := ?_) 0 rfl (by kernel_rfl) (by kernel_rfl) (by kernel_rfl) (fun _ _ _ h => h) (by kernel_rfl) (by kernel_rfl) rfl (by kernel_rfl) ?_ ?_
      rotate_left
      · (intro wq hSw; (try dsimp only at hSw); have a1 := (hSw.cell (p := ⟨p, 2, none⟩) hplt1 (by simp; simpa using hyp)).trans d1; have a2 := (hSw.cell (p := ⟨wr.heap.size, 0, none⟩) hvlt1 (by simp; simpa using hyv)).trans d2; have a3 := (hSw.cell (p := ⟨wr.heap.size, 1, none⟩) hvlt1 (by simp; simpa using hyv)).trans d3; have a4 := (hSw.cell (p := ⟨g2, l, none⟩) hg21 (by simp; simpa using hyg)).trans d4; clear hSw; go_simp; try with_reducible rfl)
      try simp only [Act.put, List.getElem_toArray, List.getElem_cons_zero, List.getElem_cons_succ, List.setIfInBounds_toArray, List.set_cons_zero, List.set_cons_succ]
      refine timed_pure (i := 4) (v := ?_) rfl (by kernel_rfl) (by kernel_rfl) (by kernel_rfl) (fun _ _ _ h => h) (by kernel_rfl) (by kernel_rfl) ?_ ?_
      rotate_left
      · (intro w; go_simp; try with_reducible rfl)
      try simp only [Act.put, List.getElem_toArray, List.getElem_cons_zero, List.getElem_cons_succ, List.setIfInBounds_toArray, List.set_cons_zero, List.set_cons_succ]
      refine timed_read (i := 5) (v := ?_) 0 rfl (by kernel_rfl) (by kernel_rfl) (by kernel_rfl) (fun _ _ _ h => h) (by kernel_rfl) (by kernel_rfl) rfl (by kernel_rfl) ?_ ?_
      rotate_left
      · (intro wq hSw; (try dsimp only at hSw); have a1 := (hSw.cell (p := ⟨p, 2, none⟩) hplt1 (by simp; simpa using hyp)).trans d1; have a2 := (hSw.cell (p := ⟨wr.heap.size, 0, none⟩) hvlt1 (by simp; simpa using hyv)).trans d2; have a3 := (hSw.cell (p := ⟨wr.heap.size, 1, none⟩) hvlt1 (by simp; simpa using hyv)).trans d3; have a4 := (hSw.cell (p := ⟨g2, l, none⟩) hg21 (by simp; simpa using hyg)).trans d4; clear hSw; go_simp; try with_reducible rfl)
      try simp only [Act.put, List.getElem_toArray, List.getElem_cons_zero, List.getElem_cons_succ, List.setIfInBounds_toArray, List.set_cons_zero, List.set_cons_succ]
      refine timed_pure (i := 6) (v := ?_) rfl (by kernel_rfl) (by kernel_rfl) (by kernel_rfl) (fun _ _ _ h => h) (by kernel_rfl) (by kernel_rfl) ?_ ?_
      rotate_left
      · (intro w; go_simp; try with_reducible rfl)
      try simp only [Act.put, List.getElem_toArray, List.getElem_cons_zero, List.getElem_cons_succ, List.setIfInBounds_toArray, List.set_cons_zero, List.set_cons_succ]
      refine timed_read (i := 7) (v := ?_) 0 rfl (by kernel_rfl) (by kernel_rfl) (by kernel_rfl) (fun _ _ _ h => h) (by kernel_rfl) (by kernel_rfl) rfl (by kernel_rfl) ?_ ?_
      rotate_left
      · (intro wq hSw; (try dsimp only at hSw); have a1 := (hSw.cell (p := ⟨p, 2, none⟩) hplt1 (by simp; simpa using hyp)).trans d1; have a2 := (hSw.cell (p := ⟨wr.heap.size, 0, none⟩) hvlt1 (by simp; simpa using hyv)).trans d2; have a3 := (hSw.cell (p := ⟨wr.heap.size, 1, none⟩) hvlt1 (by simp; simpa using hyv)).trans d3; have a4 := (hSw.cell (p := ⟨g2, l, none⟩) hg21 (by simp; simpa using hyg)).trans d4; clear hSw; go_simp; try with_reducible rfl)
      try simp only [Act.put, List.getElem_toArray, List.getElem_cons_zero, List.getElem_cons_succ, List.setIfInBounds_toArray, List.set_cons_zero, List.set_cons_succ]
      refine timed_pure (i := 8) (v := ?_) rfl (by kernel_rfl) (by kernel_rfl) (by kernel_rfl) (fun _ _ _ h => h) (by kernel_rfl) (by kernel_rfl) ?_ ?_
      rotate_left
      · (intro w; go_simp; try with_reducible rfl)
      try simp only [Act.put, List.getElem_toArray, List.getElem_cons_zero, List.getElem_cons_succ, List.setIfInBounds_toArray, List.set_cons_zero, List.set_cons_succ]
      refine timed_read (i := 9) (v := ?_) 0 rfl (by kernel_rfl) (by kernel_rfl) (by kernel_rfl) (fun _ _ _ h => h) (by kernel_rfl) (by kernel_rfl) rfl (by kernel_rfl) ?_ ?_
      rotate_left
      · (intro wq hSw; (try dsimp only at hSw); have a1 := (hSw.cell (p := ⟨p, 2, none⟩) hplt1 (by simp; simpa using hyp)).trans d1; have a2 := (hSw.cell (p := ⟨wr.heap.size, 0, none⟩) hvlt1 (by simp; simpa using hyv)).trans d2; have a3 := (hSw.cell (p := ⟨wr.heap.size, 1, none⟩) hvlt1 (by simp; simpa using hyv)).trans d3; have a4 := (hSw.cell (p := ⟨g2, l, none⟩) hg21 (by simp; simpa using hyg)).trans d4; clear hSw; go_simp; try with_reducible rfl)
      try simp only [Act.put, List.getElem_toArray, List.getElem_cons_zero, List.getElem_cons_succ, List.setIfInBounds_toArray, List.set_cons_zero, List.set_cons_succ]
      refine timed_step (i := 10) (by kernel_rfl) rfl (fun K hK => ?_)
      go_simp
      refine (HY.out).mono ?_
      rintro e w2 ⟨rfl, B2, O2⟩
      refine hK.out _ _ (timed_holds (((Only.refl [qi.getD l 0] w1).drew).trans O2) (timed_nil)) ?_
      clear hK K
      try simp only [Act.put, List.getElem_toArray, List.getElem_cons_zero, List.getElem_cons_succ, List.setIfInBounds_toArray, List.set_cons_zero, List.set_cons_succ]
      refine timed_done (by kernel_rfl) ?_ _
      refine NoPanic.normal ?_
      go_wp2
      go_roundw
      case rel =>
        have O1' : Only [po.getD k 0] W1 w1 := ((Only.refl _ W1).drew).trans O1
        have O2' : Only [qi.getD l 0] w1 w2 := ((Only.refl _ w1).drew).trans O2
        refine ⟨j + 1, by go_num, by omega, ((hO.step OA (by simp)).step O1' (fun i hi _ => ?_)).step O2' (fun i hi _ => ?_), ?_⟩
        · simp only [List.mem_singleton] at hi
          rw [hi]
          exact HGA.out.m0 _ (List.mem_append_left _ (getD_mem (by rw [HGA.out.len1]; exact hk)))
        · simp only [List.mem_singleton] at hi
          rw [hi]
          exact HGA.out.m0 _ (List.mem_append_right _ (getD_mem (by rw [HGA.out.len2]; exact hl)))
        · rw [undoS_succ O I h m j _ HE.out]
          exact Lib.hid (by simpa only [undo1, Int.toNat_natCast] using HGA.out.sets hk hl B1 O1' B2 O2')
      case measure => simp [intOf]; omega
    · have hjn : m + j = h.length := by omega
      have r3 : wr.cell? ⟨p, 3, none⟩ = some (.slice A3 h.length c3) := HJ.out.blk.at_ 3
      have r3f : wr.frozen? ⟨p, 3, none⟩ = false := HJ.out.blk.free 3
      have hnj : ¬ (j : Int) < (h.length : Int) - (m : Int) := by omega
      go_wp2
      go_ret
      have OS : Only [p] wr (wr.setCell ⟨p, 3, none⟩ (.slice A3 m c3)) := (Only.refl _ wr).put (by simp) _
      have G := HJ.out
      rw [hjn, List.take_length] at G
      have hrow : ∀ {e : TypeId} {size k : Nat} {v : Value} {xs : List Value}, wr.ownsRow 0 e size v k xs → e ≠ 57 → (wr.setCell ⟨p, 3, none⟩ (.slice A3 m c3)).ownsRow 0 e size v k xs := fun {e size k v xs} hr hne =>
        own_only hr OS (fun b hb => by simp; exact fun e => own_apart hr G.blk hne (by rw [hb, e]; simp))
      have htl : (h.take m).length = m := by rw [List.length_take]; omega
      refine ⟨rfl, ⟨A1, A2, A3, c1, c2, c3, po, qi, ?_⟩, hO.step OS (fun i hi _ => by simp at hi; rw [hi]; exact G.mp)⟩
      refine ⟨by rw [htl]; simpa using G.blk.put 3 (.slice A3 m c3), hrow G.row1 (by decide), hrow G.row2 (by decide), ?_, G.len1, G.len2, G.len3, G.len4, fun i hi => (G.set1 i hi).only OS ?_, fun i hi => (G.set2 i hi).only OS ?_, G.nodup, G.mp, G.m0, G.m1, G.m2, ?_, fun e he => G.wf e (List.mem_of_mem_take he)⟩
      · rw [htl, edgeC_take]
        exact hrow (own_take G.row3 m hm) (by decide)
      · simp
        exact fun e => (G.set1 i hi).1.apart G.blk (by decide) (by simpa using e)
      · simp
        exact fun e => (G.set2 i hi).1.apart G.blk (by decide) (by simpa using e)
      · intro b hb
        refine G.m3 b ?_
        cases A3 with
        | none => simp [Value.ownBlock] at hb
        | some a => simpa [Value.ownBlock] using hb

end Go.Proofs.YtfekejhcikkhdaaDoor
