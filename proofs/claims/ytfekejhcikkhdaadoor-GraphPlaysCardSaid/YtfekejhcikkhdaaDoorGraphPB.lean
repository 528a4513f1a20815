/- Both graphs side by side: what a call of either answers and leaves. -/
import Derived.Test.YtfekejhcikkhdaaDoorGraphP
set_option linter.unusedVariables false
set_option linter.unusedSimpArgs false
namespace Go.Proofs.YtfekejhcikkhdaaDoor
open Go.RowKit

/-- The blocks in X are as they were. -/
def Keeps (X : List Nat) (w w' : World) : Prop := ∀ b ∈ X, w'.heap[b]? = w.heap[b]?

/-- At q the program's graph with the edges h, at r the document's with hr; the blocks X are of neither. -/
structure GP (w0 w : World) (q r n : Nat) (h hr : List (Int × Int)) (X : List Nat) : Prop where
  ex : ∃ O I fp fq, Gr w q n O I h fp ∧ RelG n O I h ∧ RG w r n hr fq ∧ (∀ b ∈ fp, b ∉ fq) ∧ (∀ b ∈ fp, w0.heap.size ≤ b ∧ b < w.heap.size) ∧ (∀ b ∈ fq, w0.heap.size ≤ b ∧ b < w.heap.size) ∧ (∀ b ∈ X, b ∉ fp ∧ b ∉ fq ∧ b < w.heap.size)
  o : Only [] w0 w

section
variable {w0 w w1 : World} {q r n : Nat} {h hr : List (Int × Int)} {X : List Nat}

theorem GP.only (g : GP w0 w q r n h hr X) (ho : Only [] w w1) : GP w0 w1 q r n h hr X ∧ Keeps X w w1 := by
  obtain ⟨⟨O, I, fp, fq, G, R, D, sep, bp, bq, bx⟩, o⟩ := g
  exact ⟨⟨⟨O, I, fp, fq, G.only ho (by simp), R, D.only ho (by simp), sep, fun b hb => ⟨(bp b hb).1, Nat.lt_of_lt_of_le (bp b hb).2 ho.size⟩, fun b hb => ⟨(bq b hb).1, Nat.lt_of_lt_of_le (bq b hb).2 ho.size⟩,
    fun b hb => ⟨(bx b hb).1, (bx b hb).2.1, Nat.lt_of_lt_of_le (bx b hb).2.2 ho.size⟩⟩, o.trans ho⟩, fun b hb => ho.keeps b (bx b hb).2.2 (by simp)⟩

/-- A block that is made just now is of neither. -/
theorem GP.fresh (g : GP w0 w q r n h hr []) (x : Obj) : GP w0 (w.alloc x) q r n h hr [w.heap.size] := by
  have ho := (Only.refl [] w).alloc x
  obtain ⟨⟨O, I, fp, fq, G, R, D, sep, bp, bq, bx⟩, o⟩ := g
  refine ⟨⟨O, I, fp, fq, G.only ho (by simp), R, D.only ho (by simp), sep, fun b hb => ⟨(bp b hb).1, Nat.lt_of_lt_of_le (bp b hb).2 ho.size⟩, fun b hb => ⟨(bq b hb).1, Nat.lt_of_lt_of_le (bq b hb).2 ho.size⟩, fun b hb => ?_⟩, o.trans ho⟩
  simp at hb
  subst hb
  exact ⟨fun hm => by have := (bp _ hm).2; omega, fun hm => by have := (bq _ hm).2; omega, by rw [World.size_alloc]; omega⟩

theorem GP.drop (g : GP w0 w q r n h hr X) : GP w0 w q r n h hr [] := by
  obtain ⟨⟨O, I, fp, fq, G, R, D, sep, bp, bq, bx⟩, o⟩ := g
  exact ⟨⟨O, I, fp, fq, G, R, D, sep, bp, bq, fun b hb => by cases hb⟩, o⟩

theorem gp_left {O I : List (List Nat)} {fp fq : List Nat} {O' I' : List (List Nat)} {h' : List (Int × Int)} {fp1 : List Nat} (D : RG w r n hr fq) (sep : ∀ b ∈ fp, b ∉ fq) (bp : ∀ b ∈ fp, w0.heap.size ≤ b ∧ b < w.heap.size) (bq : ∀ b ∈ fq, w0.heap.size ≤ b ∧ b < w.heap.size)
    (bx : ∀ b ∈ X, b ∉ fp ∧ b ∉ fq ∧ b < w.heap.size) (o : Only [] w0 w) (G1 : Gr w1 q n O' I' h' fp1) (R1 : RelG n O' I' h') (hO : Only fp w w1) (hf : ∀ b ∈ fp1, b ∈ fp ∨ w.heap.size ≤ b) :
    GP w0 w1 q r n h' hr X ∧ Keeps X w w1 := by
  obtain ⟨fp2, G2, ht⟩ := G1.tight
  have hs := hO.size
  have hs0 := o.size
  refine ⟨⟨⟨O', I', fp2, fq, G2, R1, D.only hO (fun b hb hm => sep b hm hb), fun b hb hm => ?_, fun b hb => ⟨?_, (ht b hb).2⟩, fun b hb => ⟨(bq b hb).1, Nat.lt_of_lt_of_le (bq b hb).2 hs⟩, fun b hb => ⟨fun hm => ?_, (bx b hb).2.1, Nat.lt_of_lt_of_le (bx b hb).2.2 hs⟩⟩, o.step hO (fun i hi hl => by have := (bp i hi).1; omega)⟩, fun b hb => hO.keeps b (bx b hb).2.2 (bx b hb).1⟩
  · rcases hf b (ht b hb).1 with h1 | h1
    · exact sep b h1 hm
    · have := (bq b hm).2; omega
  · rcases hf b (ht b hb).1 with h1 | h1
    · exact (bp b h1).1
    · omega
  · rcases hf b (ht b hm).1 with h1 | h1
    · exact (bx b hb).1 h1
    · have := (bx b hb).2.2; omega

theorem gp_right {O I : List (List Nat)} {fp fq : List Nat} {hr' : List (Int × Int)} {fq1 : List Nat} (G : Gr w q n O I h fp) (R : RelG n O I h) (sep : ∀ b ∈ fp, b ∉ fq) (bp : ∀ b ∈ fp, w0.heap.size ≤ b ∧ b < w.heap.size) (bq : ∀ b ∈ fq, w0.heap.size ≤ b ∧ b < w.heap.size)
    (bx : ∀ b ∈ X, b ∉ fp ∧ b ∉ fq ∧ b < w.heap.size) (o : Only [] w0 w) (D1 : RG w1 r n hr' fq1) (hO : Only fq w w1) (hf : ∀ b ∈ fq1, b ∈ fq ∨ w.heap.size ≤ b) :
    GP w0 w1 q r n h hr' X ∧ Keeps X w w1 := by
  obtain ⟨fq2, D2, ht⟩ := D1.tight
  have hs := hO.size
  have hs0 := o.size
  refine ⟨⟨⟨O, I, fp, fq2, G.only hO (fun b hb hm => sep b hb hm), R, D2, fun b hb hm => ?_, fun b hb => ⟨(bp b hb).1, Nat.lt_of_lt_of_le (bp b hb).2 hs⟩, fun b hb => ⟨?_, (ht b hb).2⟩, fun b hb => ⟨(bx b hb).1, fun hm => ?_, Nat.lt_of_lt_of_le (bx b hb).2.2 hs⟩⟩, o.step hO (fun i hi hl => by have := (bq i hi).1; omega)⟩, fun b hb => hO.keeps b (bx b hb).2.2 (bx b hb).2.1⟩
  · rcases hf b (ht b hm).1 with h1 | h1
    · exact sep b hb h1
    · have := (bp b hb).2; omega
  · rcases hf b (ht b hb).1 with h1 | h1
    · exact (bq b h1).1
    · omega
  · rcases hf b (ht b hm).1 with h1 | h1
    · exact (bx b hb).2.1 h1
    · have := (bx b hb).2.2; omega

def uE (h : List (Int × Int)) (m : Int) : Int := if m < 0 ∨ (h.length : Int) < m then 2 else 0
def uH (h : List (Int × Int)) (m : Int) : List (Int × Int) := if m < 0 ∨ (h.length : Int) < m then h else h.take m.toNat

theorem gp_put_l (g : GP w0 w q r n h hr X) (hn : n ≤ 500) (hm : h.length ≤ 1000) (a b : Int) :
    Calls Tryd.prog 15 #[.pointer (some ⟨q, 0, none⟩), .int .i64 a, .int .i64 b] w fun e w1 => e = .returned (.tuple #[.bool (rB n h a b), .int .i64 (pE n a b)]) ∧ GP w0 w1 q r n (rH n h (a, b)) hr X ∧ Keeps X w w1 := by
  obtain ⟨⟨O, I, fp, fq, G, R, D, sep, bp, bq, bx⟩, o⟩ := g
  have hp := rel_put R hn a b
  refine (gput_any q n O I h fp a b w G (by omega) hn).mono ?_
  rintro e w1 ⟨rfl, fp1, G1, O1, F1⟩
  rw [hp.2] at G1
  refine ⟨by rw [rel_pB R hn], ?_⟩
  exact gp_left (O := O) (I := I) D sep bp bq bx o G1 hp.1 O1 F1

theorem gp_put_r (g : GP w0 w q r n h hr X) (hm : hr.length ≤ 1000) (a b : Int) :
    Calls Tryd.prog 16 #[.pointer (some ⟨r, 0, none⟩), .int .i64 a, .int .i64 b] w fun e w1 => e = .returned (.tuple #[.bool (rB n hr a b), .int .i64 (pE n a b)]) ∧ GP w0 w1 q r n h (rH n hr (a, b)) X ∧ Keeps X w w1 := by
  obtain ⟨⟨O, I, fp, fq, G, R, D, sep, bp, bq, bx⟩, o⟩ := g
  refine (rput_any r n hr fq a b w D (by omega)).mono ?_
  rintro e w1 ⟨rfl, fq1, D1, O1, F1⟩
  exact ⟨rfl, gp_right G R sep bp bq bx o D1 O1 F1⟩

theorem gp_undo_l (g : GP w0 w q r n h hr X) (hn : n ≤ 500) (hm : h.length ≤ 1000) (m : Int) :
    Calls Tryd.prog 17 #[.pointer (some ⟨q, 0, none⟩), .int .i64 m] w fun e w1 => e = .returned (.int .i64 (uE h m)) ∧ GP w0 w1 q r n (uH h m) hr X ∧ Keeps X w w1 := by
  have g' := g
  obtain ⟨⟨O, I, fp, fq, G, R, D, sep, bp, bq, bx⟩, o⟩ := g
  by_cases hb : m < 0 ∨ (h.length : Int) < m
  · refine (gundo_arg q n O I h fp m w G hb).mono ?_
    rintro e w1 ⟨rfl, rfl⟩
    unfold uE uH
    rw [if_pos hb, if_pos hb]
    exact ⟨rfl, g', fun _ _ => rfl⟩
  · obtain ⟨k, rfl⟩ := Int.eq_ofNat_of_zero_le (show 0 ≤ m by omega)
    refine (gundo_ok q n O I h fp k w G (by omega) (by omega) hn).mono ?_
    rintro e w1 ⟨rfl, G1, O1⟩
    unfold uE uH
    rw [if_neg hb, if_neg hb, Int.toNat_natCast]
    exact ⟨rfl, gp_left (O := O) (I := I) D sep bp bq bx o G1 (rel_undo R hn k) O1 (fun b hb => .inl hb)⟩

theorem gp_undo_r (g : GP w0 w q r n h hr X) (m : Int) :
    Calls Tryd.prog 18 #[.pointer (some ⟨r, 0, none⟩), .int .i64 m] w fun e w1 => e = .returned (.int .i64 (uE hr m)) ∧ GP w0 w1 q r n h (uH hr m) X ∧ Keeps X w w1 := by
  have g' := g
  obtain ⟨⟨O, I, fp, fq, G, R, D, sep, bp, bq, bx⟩, o⟩ := g
  by_cases hb : m < 0 ∨ (hr.length : Int) < m
  · refine (rundo_arg r n hr fq m w D hb).mono ?_
    rintro e w1 ⟨rfl, rfl⟩
    unfold uE uH
    rw [if_pos hb, if_pos hb]
    exact ⟨rfl, g', fun _ _ => rfl⟩
  · obtain ⟨k, rfl⟩ := Int.eq_ofNat_of_zero_le (show 0 ≤ m by omega)
    refine (rundo_ok r n hr fq k w D (by omega)).mono ?_
    rintro e w1 ⟨rfl, D1, O1⟩
    unfold uE uH
    rw [if_neg hb, if_neg hb, Int.toNat_natCast]
    exact ⟨rfl, gp_right G R sep bp bq bx o D1 O1 (fun b hb => .inl hb)⟩

theorem gp_has_l (g : GP w0 w q r n h hr X) (hn : n ≤ 500) (a b : Int) :
    Calls Tryd.prog 19 #[.pointer (some ⟨q, 0, none⟩), .int .i64 a, .int .i64 b] w fun e w1 => e = .returned (.bool (decide ((a, b) ∈ h))) ∧ w = w1 := by
  obtain ⟨⟨O, I, fp, fq, G, R, D, sep, bp, bq, bx⟩, o⟩ := g
  have h1 := ghas_any q n O I h fp a b w G
  rw [rel_has R hn] at h1
  exact h1

theorem gp_has_r (g : GP w0 w q r n h hr X) (hm : hr.length ≤ 1000) (a b : Int) :
    Calls Tryd.prog 20 #[.pointer (some ⟨r, 0, none⟩), .int .i64 a, .int .i64 b] w fun e w1 => e = .returned (.bool (decide ((a, b) ∈ hr))) ∧ w = w1 := by
  obtain ⟨⟨O, I, fp, fq, G, R, ⟨A, c, D, m1, m2⟩, sep, bp, bq, bx⟩, o⟩ := g
  have h1 := D.blk.at_ 1
  simp at h1
  exact rhas_any r A hr.length c hr a b w h1 rfl D.read (by omega)

theorem gp_mark (g : GP w0 w q r n h hr X) : Calls Tryd.prog 21 #[.pointer (some ⟨q, 0, none⟩)] w fun e w1 => e = .returned (.int .i64 h.length) ∧ w = w1 := by
  obtain ⟨⟨O, I, fp, fq, ⟨A1, A2, A3, c1, c2, c3, po, qi, g⟩, R, D, sep, bp, bq, bx⟩, o⟩ := g
  exact gmark_yes q A3 h.length c3 w (g.blk.at_ 0) (g.blk.at_ 3)

theorem gp_len (g : GP w0 w q r n h hr X) : Calls Tryd.prog 13 #[.pointer (some ⟨q, 0, none⟩)] w fun e w1 => e = .returned (.int .i64 n) ∧ w = w1 := by
  obtain ⟨⟨O, I, fp, fq, ⟨A1, A2, A3, c1, c2, c3, po, qi, g⟩, R, D, sep, bp, bq, bx⟩, o⟩ := g
  exact glen_yes q A1 n c1 w (g.blk.at_ 0) (g.blk.at_ 1)

theorem gp_ref (g : GP w0 w q r n h hr X) : ∃ A c, w.cell? ⟨r, 1, none⟩ = some (.slice A hr.length c) := by
  obtain ⟨⟨O, I, fp, fq, G, R, ⟨A, c, D, m1, m2⟩, sep, bp, bq, bx⟩, o⟩ := g
  exact ⟨A, c, D.blk.at_ 1⟩

/-- A list of numbers that a call made. -/
def NewInts (w : World) (e : Ending) (w1 : World) (zs : List Int) : Prop := (∃ A c, e = .returned (.slice A zs.length c) ∧ Row w1 w1.heap.size A (zs.map (Value.int .i64))) ∧ Only [] w w1

theorem gp_next_r (g : GP w0 w q r n h hr X) (hn : n ≤ 500) (hm : hr.length ≤ 1000) (a : Int) :
    Calls Tryd.prog 24 #[.pointer (some ⟨r, 0, none⟩), .int .i64 a] w fun e w1 => NewInts w e w1 (nextL n hr a) := by
  obtain ⟨⟨O, I, fp, fq, G, R, ⟨A, c, D, m1, m2⟩, sep, bp, bq, bx⟩, o⟩ := g
  have h0 := D.blk.at_ 0
  have h1 := D.blk.at_ 1
  simp at h0 h1
  refine (rnext_any r n A hr.length c hr a w h0 h1 rfl D.read (by omega) hn).mono ?_
  rintro e w1 ⟨v, ⟨rfl, hv⟩, hO⟩
  obtain ⟨B, cb, rfl, -, -, -, hrow⟩ := own_row hv
  exact ⟨⟨B, cb, rfl, hrow⟩, hO⟩

theorem gp_back_r (g : GP w0 w q r n h hr X) (hn : n ≤ 500) (hm : hr.length ≤ 1000) (a : Int) :
    Calls Tryd.prog 26 #[.pointer (some ⟨r, 0, none⟩), .int .i64 a] w fun e w1 => NewInts w e w1 (backL n hr a) := by
  obtain ⟨⟨O, I, fp, fq, G, R, ⟨A, c, D, m1, m2⟩, sep, bp, bq, bx⟩, o⟩ := g
  have h0 := D.blk.at_ 0
  have h1 := D.blk.at_ 1
  simp at h0 h1
  refine (rback_any r n A hr.length c hr a w h0 h1 rfl D.read (by omega) hn).mono ?_
  rintro e w1 ⟨v, ⟨rfl, hv⟩, hO⟩
  obtain ⟨B, cb, rfl, -, -, -, hrow⟩ := own_row hv
  exact ⟨⟨B, cb, rfl, hrow⟩, hO⟩

set_option maxHeartbeats 400000 in
theorem gnext_out (p n : Nat) (O I : List (List Nat)) (h : List (Int × Int)) (fp : List Nat) (a : Int) (w : World) (hg : Gr w p n O I h fp) (ha : ndN n a = false) :
    Calls Tryd.prog 23 #[.pointer (some ⟨p, 0, none⟩), .int .i64 a] w fun e w' => e = .returned (.slice none 0 0) ∧ w = w' := by
  obtain ⟨A1, A2, A3, c1, c2, c3, po, qi, g⟩ := hg
  have h1 := gnode_yes p A1 n c1 a w (g.blk.at_ 0) (g.blk.at_ 1)
  rw [ha] at h1
  have HNA := Lib.hid h1
  clear g h1
  go_enter Tryd.func23, Tryd.ntmps23
  go_wp2_with fail
  refine (HNA.out).mono ?_
  rintro e w1 ⟨rfl, rfl⟩
  go_wp2
  go_ret
  exact ⟨rfl, rfl⟩

set_option maxHeartbeats 400000 in
theorem gback_out (p n : Nat) (O I : List (List Nat)) (h : List (Int × Int)) (fp : List Nat) (a : Int) (w : World) (hg : Gr w p n O I h fp) (ha : ndN n a = false) :
    Calls Tryd.prog 25 #[.pointer (some ⟨p, 0, none⟩), .int .i64 a] w fun e w' => e = .returned (.slice none 0 0) ∧ w = w' := by
  obtain ⟨A1, A2, A3, c1, c2, c3, po, qi, g⟩ := hg
  have h1 := gnode_yes p A1 n c1 a w (g.blk.at_ 0) (g.blk.at_ 1)
  rw [ha] at h1
  have HNA := Lib.hid h1
  clear g h1
  go_enter Tryd.func25, Tryd.ntmps25
  go_wp2_with fail
  refine (HNA.out).mono ?_
  rintro e w1 ⟨rfl, rfl⟩
  go_wp2
  go_ret
  exact ⟨rfl, rfl⟩

theorem gp_next_l (g : GP w0 w q r n h hr X) (hn : n ≤ 500) (hT : Tab w0) (h00 : 0 < w0.heap.size) (a : Int) :
    Calls Tryd.prog 23 #[.pointer (some ⟨q, 0, none⟩), .int .i64 a] w fun e w1 => NewInts w e w1 (nextL n h a) := by
  obtain ⟨⟨O, I, fp, fq, G, R, D, sep, bp, bq, bx⟩, o⟩ := g
  cases ha : ndN n a with
  | false =>
    refine (gnext_out q n O I h fp a w G ha).mono ?_
    rintro e w1 ⟨rfl, rfl⟩
    rw [rel_next_out R a ha]
    exact ⟨⟨none, 0, rfl, .inl rfl⟩, Only.refl _ _⟩
  | true =>
    have ha' : 0 ≤ a ∧ a < n := by simpa [ndN] using ha
    obtain ⟨k, rfl⟩ := Int.eq_ofNat_of_zero_le ha'.1
    refine (gnext_some q n O I h fp k w G (by omega) (hT.only h00 o (by simp)) (by have := o.size; omega)).mono ?_
    rintro e w1 ⟨v, ⟨rfl, hv⟩, hO⟩
    rw [rel_next R hn k (by omega)] at hv
    obtain ⟨B, cb, rfl, -, -, -, hrow⟩ := own_row hv
    exact ⟨⟨B, cb, rfl, hrow⟩, hO⟩

theorem gp_back_l (g : GP w0 w q r n h hr X) (hn : n ≤ 500) (hT : Tab w0) (h00 : 0 < w0.heap.size) (a : Int) :
    Calls Tryd.prog 25 #[.pointer (some ⟨q, 0, none⟩), .int .i64 a] w fun e w1 => NewInts w e w1 (backL n h a) := by
  obtain ⟨⟨O, I, fp, fq, G, R, D, sep, bp, bq, bx⟩, o⟩ := g
  cases ha : ndN n a with
  | false =>
    refine (gback_out q n O I h fp a w G ha).mono ?_
    rintro e w1 ⟨rfl, rfl⟩
    rw [rel_back_out R a ha]
    exact ⟨⟨none, 0, rfl, .inl rfl⟩, Only.refl _ _⟩
  | true =>
    have ha' : 0 ≤ a ∧ a < n := by simpa [ndN] using ha
    obtain ⟨k, rfl⟩ := Int.eq_ofNat_of_zero_le ha'.1
    refine (gback_some q n O I h fp k w G (by omega) (hT.only h00 o (by simp)) (by have := o.size; omega)).mono ?_
    rintro e w1 ⟨v, ⟨rfl, hv⟩, hO⟩
    rw [rel_back R hn k (by omega)] at hv
    obtain ⟨B, cb, rfl, -, -, -, hrow⟩ := own_row hv
    exact ⟨⟨B, cb, rfl, hrow⟩, hO⟩

def NewEdges (w : World) (e : Ending) (w1 : World) (l : List (Int × Int)) : Prop := (∃ A c, e = .returned (.slice A l.length c) ∧ Row w1 w1.heap.size A (edgeC l)) ∧ Only [] w w1

theorem gp_edges_l (g : GP w0 w q r n h hr X) (hn : n ≤ 500) (hm : h.length ≤ 1000) (hT : Tab w0) (h00 : 0 < w0.heap.size) :
    Calls Tryd.prog 28 #[.pointer (some ⟨q, 0, none⟩)] w fun e w1 => NewEdges w e w1 (redgesTo n h n) := by
  obtain ⟨⟨O, I, fp, fq, G, R, D, sep, bp, bq, bx⟩, o⟩ := g
  refine (gedges_any q n O I h fp w G (by omega) hn (hT.only h00 o (by simp)) (by have := o.size; omega)).mono ?_
  rintro e w1 ⟨v, ⟨rfl, hv⟩, hO⟩
  rw [rel_edges R hn] at hv
  obtain ⟨B, cb, rfl, -, -, -, hrow⟩ := own_row hv
  exact ⟨⟨B, cb, rfl, hrow⟩, hO⟩

theorem gp_edges_r (g : GP w0 w q r n h hr X) (hn : n ≤ 500) (hm : hr.length ≤ 1000) :
    Calls Tryd.prog 29 #[.pointer (some ⟨r, 0, none⟩)] w fun e w1 => NewEdges w e w1 (redgesTo n hr n) := by
  obtain ⟨⟨O, I, fp, fq, G, R, ⟨A, c, D, m1, m2⟩, sep, bp, bq, bx⟩, o⟩ := g
  have h0 := D.blk.at_ 0
  have h1 := D.blk.at_ 1
  simp at h0 h1
  refine (redges_any r n A hr.length c hr w h0 h1 rfl D.read (by omega) hn).mono ?_
  rintro e w1 ⟨v, ⟨rfl, hv⟩, hO⟩
  obtain ⟨B, cb, rfl, -, -, -, hrow⟩ := own_row hv
  exact ⟨⟨B, cb, rfl, hrow⟩, hO⟩
end

end Go.Proofs.YtfekejhcikkhdaaDoor
