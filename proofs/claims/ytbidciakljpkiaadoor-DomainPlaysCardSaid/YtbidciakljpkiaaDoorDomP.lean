/- Both domains side by side. -/
import Derived.Test.YtbidciakljpkiaaDoorRDomF
set_option linter.unusedVariables false
set_option linter.unusedSimpArgs false
namespace Go.Proofs.YtbidciakljpkiaaDoor
open Go.RowKit
attribute [local go_sem ↓] Go.wp_at_zero Go.wp_at_succ

/-- Among four: one of 0 to 3. -/
def amg (x : Int) : Int := wrap64 ((IntKind.u64.wrap x).tmod 4)
theorem amg_bd (x : Int) : 0 ≤ amg x ∧ amg x ≤ 3 := by
  have h : 0 ≤ IntKind.u64.wrap x := by
    have := wf_wrap .u64 x
    simp [Lit.wf, IntKind.min, IntKind.max, IntKind.signed, IntKind.bits] at this
    exact this.1
  unfold amg
  generalize IntKind.u64.wrap x = y at *
  have h1 := Int.tmod_nonneg 4 h
  have h2 := Int.tmod_lt_of_pos y (show (0 : Int) < 4 by omega)
  have e : wrap64 (y.tmod 4) = y.tmod 4 := by unfold wrap64; omega
  rw [e]
  omega

set_option maxHeartbeats 400000 in
theorem among4 (x : Int) (w : World) :
    Calls Tryd.prog 11 #[.int .i64 x, .int .i64 4] w fun e w' => e = .returned (.int .i64 (amg x)) ∧ w = w' := by
  go_enter Tryd.func11, Tryd.ntmps11
  go_wp2
  go_ret
  exact ⟨rfl, rfl⟩


/-- The program's domain with I, T; the document's with J, U; blocks that are neither's. -/
def DP (w0 w : World) (p q B : Nat) (sz : List Nat) (I : List (List Bool)) (T : List (List (List Bool))) (r : Nat) (J : List (List Bool)) (U : List (List (List Bool))) (X : List Nat) : Prop :=
  ∃ fp fq, Dom w p q B sz I T fp ∧ RD w r J U fq ∧ (∀ b ∈ fp, b ∉ fq) ∧ (∀ b ∈ fp, w0.heap.size ≤ b ∧ b < w.heap.size) ∧ (∀ b ∈ fq, w0.heap.size ≤ b ∧ b < w.heap.size ∧ B ≤ b) ∧
    (∀ a ∈ X, a ∉ fp ∧ a ∉ fq ∧ a < w.heap.size) ∧ B ≤ w.heap.size ∧ Only [] w0 w
def Kept (X : List Nat) (w w' : World) : Prop := ∀ a ∈ X, w'.heap[a]? = w.heap[a]?

section
variable {w0 w w' : World} {p q B r : Nat} {sz : List Nat} {I J I' J' : List (List Bool)} {T U T' U' : List (List (List Bool))} {X : List Nat}
theorem DP.o (h : DP w0 w p q B sz I T r J U X) : Only [] w0 w := by
  obtain ⟨fp, fq, D, R, sep, bp, bq, bx, hB, o⟩ := h
  exact o
theorem DP.only (h : DP w0 w p q B sz I T r J U X) (ho : Only [] w w') : DP w0 w' p q B sz I T r J U X := by
  obtain ⟨fp, fq, D, R, sep, bp, bq, bx, hB, o⟩ := h
  have hs := ho.size
  exact ⟨fp, fq, D.keep ho, R.keep ho, sep, fun b hb => ⟨(bp b hb).1, by have := (bp b hb).2; omega⟩, fun b hb => ⟨(bq b hb).1, by have := (bq b hb).2.1; omega, (bq b hb).2.2⟩, fun a ha => ⟨(bx a ha).1, (bx a ha).2.1, by have := (bx a ha).2.2; omega⟩, by omega, o.trans ho⟩
theorem DP.fresh (h : DP w0 w p q B sz I T r J U []) (o : Obj) : DP w0 (w.alloc o) p q B sz I T r J U [w.heap.size] := by
  have h1 := h.only ((Only.refl [] w).alloc o)
  obtain ⟨fp0, fq0, D0, R0, sep0, bp0, bq0, bx0, hB0, o0⟩ := h
  refine ⟨fp0, fq0, D0.keep ((Only.refl [] w).alloc o), R0.keep ((Only.refl [] w).alloc o), sep0, fun b hb => ⟨(bp0 b hb).1, ?_⟩, fun b hb => ⟨(bq0 b hb).1, ?_, (bq0 b hb).2.2⟩, fun a ha => ?_, ?_, o0.alloc o⟩
  · rw [World.size_alloc]; have := (bp0 b hb).2; omega
  · rw [World.size_alloc]; have := (bq0 b hb).2.1; omega
  · simp at ha
    subst ha
    rw [World.size_alloc]
    exact ⟨fun hm => by have := (bp0 _ hm).2; omega, fun hm => by have := (bq0 _ hm).2.1; omega, by omega⟩
  · rw [World.size_alloc]; omega
theorem DP.drop (h : DP w0 w p q B sz I T r J U X) : DP w0 w p q B sz I T r J U [] := by
  obtain ⟨fp, fq, D, R, sep, bp, bq, bx, hB, o⟩ := h
  exact ⟨fp, fq, D, R, sep, bp, bq, by simp, hB, o⟩
/-- The program's domain takes a step. -/
theorem dp_left {f : FuncId} {args : Array Value} {E : Ending → Prop} (h : DP w0 w p q B sz I T r J U X)
    (hc : ∀ fp, Dom w p q B sz I T fp → Calls Tryd.prog f args w fun e w' => E e ∧ ∃ fp', Dom w' p q B sz I' T' fp' ∧ Only fp w w' ∧ ∀ b ∈ fp', b ∈ fp ∨ w.heap.size ≤ b ∧ b < w'.heap.size) :
    Calls Tryd.prog f args w fun e w' => E e ∧ DP w0 w' p q B sz I' T' r J U X ∧ Kept X w w' := by
  obtain ⟨fp, fq, D, R, sep, bp, bq, bx, hB, o⟩ := h
  refine (hc fp D).mono ?_
  rintro e w' ⟨hE, fp', D', O', hf⟩
  have hs := O'.size
  have hs0 := o.size
  refine ⟨hE, ⟨fp', fq, D', R.only O' (fun b hb hm => sep b hm hb), fun b hb hm => ?_, fun b hb => ?_, fun b hb => ⟨(bq b hb).1, by have := (bq b hb).2.1; omega, (bq b hb).2.2⟩, fun a ha => ⟨fun hm => ?_, (bx a ha).2.1, by have := (bx a ha).2.2; omega⟩, by omega,
    o.step O' (fun i hi hl => by have := (bp i hi).1; omega)⟩, fun a ha => O'.keeps a (bx a ha).2.2 (bx a ha).1⟩
  · rcases hf b hb with h1 | h1
    · exact sep b h1 hm
    · have := (bq b hm).2.1; omega
  · rcases hf b hb with h1 | h1
    · have := bp b h1; omega
    · omega
  · rcases hf a hm with h1 | h1
    · exact (bx a ha).1 h1
    · have := (bx a ha).2.2; omega
/-- The document's domain takes a step. -/
theorem dp_right {f : FuncId} {args : Array Value} {E : Ending → Prop} (h : DP w0 w p q B sz I T r J U X)
    (hc : ∀ fq, RD w r J U fq → Calls Tryd.prog f args w fun e w' => E e ∧ ∃ fq', RD w' r J' U' fq' ∧ Only fq w w' ∧ ∀ b ∈ fq', b ∈ fq ∨ w.heap.size ≤ b ∧ b < w'.heap.size) :
    Calls Tryd.prog f args w fun e w' => E e ∧ DP w0 w' p q B sz I T r J' U' X ∧ Kept X w w' := by
  obtain ⟨fp, fq, D, R, sep, bp, bq, bx, hB, o⟩ := h
  refine (hc fq R).mono ?_
  rintro e w' ⟨hE, fq', R', O', hf⟩
  have hs := O'.size
  have hs0 := o.size
  refine ⟨hE, ⟨fp, fq', D.only O' (fun b hb hm => sep b hb hm) (fun b hb => (bq b hb).2.2), R', fun b hb hm => ?_, fun b hb => ⟨(bp b hb).1, by have := (bp b hb).2; omega⟩, fun b hb => ?_, fun a ha => ⟨(bx a ha).1, fun hm => ?_, by have := (bx a ha).2.2; omega⟩, by omega,
    o.step O' (fun i hi hl => by have := (bq i hi).1; omega)⟩, fun a ha => O'.keeps a (bx a ha).2.2 (bx a ha).2.1⟩
  · rcases hf b hm with h1 | h1
    · exact sep b hb h1
    · have := (bp b hb).2; omega
  · rcases hf b hb with h1 | h1
    · have := bq b h1; omega
    · omega
  · rcases hf a hm with h1 | h1
    · exact (bx a ha).2.1 h1
    · have := (bx a ha).2.2; omega

theorem DP.fit (h : DP w0 w p q B sz I T r J U X) : FitI I ∧ (∀ l ∈ I, places l ≠ []) := by
  obtain ⟨fp, fq, D, R, -⟩ := h
  refine ⟨⟨by rw [D.il]; exact D.n, fun l hl => ⟨fun e => ?_, (D.ok l hl).1⟩⟩, fun l hl => (D.ok l hl).2⟩
  have := (D.ok l hl).2
  rw [e] at this
  exact this rfl

theorem dp_drop_l (h : DP w0 w p q B sz I T r J U X) (v k : Int) :
    Calls Tryd.prog 12 #[.pointer (some ⟨p, 0, none⟩), .int .i64 v, .int .i64 k] w fun e w' => e = .returned (.int .i64 (drE I v k)) ∧ DP w0 w' p q B sz (drI I v k) T r J U X ∧ Kept X w w' :=
  dp_left (E := fun e => e = .returned (.int .i64 (drE I v k))) h (fun fp D => (ddrop_any D v k).mono fun e w' ⟨h1, h2, h3⟩ => ⟨h1, fp, h2, h3, fun b hb => .inl hb⟩)
theorem dp_drop_r (h : DP w0 w p q B sz I T r J U X) (hF : FitI J) (v k : Int) :
    Calls Tryd.prog 13 #[.pointer (some ⟨r, 0, none⟩), .int .i64 v, .int .i64 k] w fun e w' => e = .returned (.int .i64 (drE J v k)) ∧ DP w0 w' p q B sz I T r (drI J v k) U X ∧ Kept X w w' :=
  dp_right (E := fun e => e = .returned (.int .i64 (drE J v k))) h (fun fp D => (rdrop_any D hF v k).mono fun e w' ⟨h1, h2, h3⟩ => ⟨h1, fp, h2, h3, fun b hb => .inl hb⟩)
theorem dp_only_l (h : DP w0 w p q B sz I T r J U X) (v k : Int) :
    Calls Tryd.prog 14 #[.pointer (some ⟨p, 0, none⟩), .int .i64 v, .int .i64 k] w fun e w' => e = .returned (.int .i64 (onE I v k)) ∧ DP w0 w' p q B sz (onI I v k) T r J U X ∧ Kept X w w' :=
  dp_left (E := fun e => e = .returned (.int .i64 (onE I v k))) h (fun fp D => (donly_any D v k).mono fun e w' ⟨h1, h2, h3⟩ => ⟨h1, fp, h2, h3, fun b hb => .inl hb⟩)
theorem dp_only_r (h : DP w0 w p q B sz I T r J U X) (hF : FitI J) (v k : Int) :
    Calls Tryd.prog 15 #[.pointer (some ⟨r, 0, none⟩), .int .i64 v, .int .i64 k] w fun e w' => e = .returned (.int .i64 (onE J v k)) ∧ DP w0 w' p q B sz I T r (onI J v k) U X ∧ Kept X w w' :=
  dp_right (E := fun e => e = .returned (.int .i64 (onE J v k))) h (fun fp D => (ronly_any D hF v k).mono fun e w' ⟨h1, h2, h3⟩ => ⟨h1, fp, h2, h3, fun b hb => .inl hb⟩)
theorem dp_begin_l (h : DP w0 w p q B sz I T r J U X) (hT : T.length < 1000) :
    Calls Tryd.prog 16 #[.pointer (some ⟨p, 0, none⟩)] w fun e w' => e = .returned (.int .i64 0) ∧ DP w0 w' p q B sz I (T ++ [I]) r J U X ∧ Kept X w w' := by
  have hB : B ≤ w.heap.size := by obtain ⟨fp, fq, D, R, sep, bp, bq, bx, hB, o⟩ := h; exact hB
  exact dp_left (E := fun e => e = .returned (.int .i64 0)) h (fun fp D => (dbegin_any D hT hB).mono fun e w' ⟨h1, fp', h2, h3, h4⟩ => ⟨h1, fp', h2, h3, h4⟩)
theorem dp_begin_r (h : DP w0 w p q B sz I T r J U X) (hF : FitI J) (hT : U.length < 1000) :
    Calls Tryd.prog 17 #[.pointer (some ⟨r, 0, none⟩)] w fun e w' => e = .returned (.int .i64 0) ∧ DP w0 w' p q B sz I T r J (U ++ [J]) X ∧ Kept X w w' :=
  dp_right (E := fun e => e = .returned (.int .i64 0)) h (fun fp D => (rdbegin_any r J U fp w D hF hT).mono fun e w' ⟨h1, fp', h2, h3, h4⟩ => ⟨h1, fp', h2, h3, h4⟩)
/-- What Undo answers and leaves. -/
def undE (T : List (List (List Bool))) : Int := if T = [] then 3 else 0
def undI (I : List (List Bool)) (T : List (List (List Bool))) : List (List Bool) := T.getLastD I
theorem dp_undo_l (h : DP w0 w p q B sz I T r J U X) :
    Calls Tryd.prog 18 #[.pointer (some ⟨p, 0, none⟩)] w fun e w' => e = .returned (.int .i64 (undE T)) ∧ DP w0 w' p q B sz (undI I T) T.dropLast r J U X ∧ Kept X w w' := by
  rcases List.eq_nil_or_concat T with rfl | ⟨L, x, rfl⟩
  · exact dp_left (E := fun e => e = .returned (.int .i64 (undE []))) h (fun fp D => (dundo_none D).mono fun e w' ⟨h1, h2⟩ => ⟨h1, fp, by subst h2; exact D, by subst h2; exact Only.refl _ _, fun b hb => .inl hb⟩)
  · rw [List.concat_eq_append] at h ⊢
    have e1 : undE (L ++ [x]) = 0 := by simp [undE]
    have e2 : undI I (L ++ [x]) = x := by simp [undI]
    rw [e1, e2, List.dropLast_concat]
    exact dp_left (E := fun e => e = .returned (.int .i64 0)) h (fun fp D => (dundo_any D).mono fun e w' ⟨h1, h2, h3⟩ => ⟨h1, fp, h2, h3, fun b hb => .inl hb⟩)
theorem dp_undo_r (h : DP w0 w p q B sz I T r J U X) :
    Calls Tryd.prog 19 #[.pointer (some ⟨r, 0, none⟩)] w fun e w' => e = .returned (.int .i64 (undE U)) ∧ DP w0 w' p q B sz I T r (undI J U) U.dropLast X ∧ Kept X w w' := by
  rcases List.eq_nil_or_concat U with rfl | ⟨L, x, rfl⟩
  · refine dp_right (E := fun e => e = .returned (.int .i64 (undE []))) h (fun fp D => ?_)
    obtain ⟨A, c, h1, -, -⟩ := D.then_
    exact (rdundo_none r c A w h1).mono fun e w' ⟨h1, h2⟩ => ⟨h1, fp, by subst h2; exact D, by subst h2; exact Only.refl _ _, fun b hb => .inl hb⟩
  · rw [List.concat_eq_append] at h ⊢
    have e1 : undE (L ++ [x]) = 0 := by simp [undE]
    have e2 : undI J (L ++ [x]) = x := by simp [undI]
    rw [e1, e2, List.dropLast_concat]
    exact dp_right (E := fun e => e = .returned (.int .i64 0)) h (fun fp D => (rdundo_any r J x L fp w D).mono fun e w' ⟨h1, h2, h3⟩ => ⟨h1, fp, h2, h3, fun b hb => .inl hb⟩)
theorem dp_left_r (h : DP w0 w p q B sz I T r J U X) (hF : FitI J) (v : Int) :
    Calls Tryd.prog 20 #[.pointer (some ⟨r, 0, none⟩), .int .i64 v] w fun e w' => ∃ V, (e = .returned V ∧ w'.ownsRow w.heap.size 3 1 V (pints (lv J v)).length ((pints (lv J v)).map (Value.int .i64))) ∧ Only [] w w' := by
  obtain ⟨fp, fq, D, R, -⟩ := h
  exact rleft_any R hF v
theorem dp_left_l (h : DP w0 w p q B sz I T r J U X) (hT : Tab w0) (h00 : 0 < w0.heap.size) (v : Int) :
    Calls Tryd.prog 23 #[.pointer (some ⟨p, 0, none⟩), .int .i64 v] w fun e w' => ∃ V, (e = .returned V ∧ w'.ownsRow w.heap.size 3 1 V (pints (lv I v)).length ((pints (lv I v)).map (Value.int .i64))) ∧ Only [] w w' := by
  obtain ⟨fp, fq, D, R, sep, bp, bq, bx, hB, o⟩ := h
  exact dleft_any D v (hT.only h00 o (by simp)) (by have := o.size; omega)
theorem dp_fixed (h : DP w0 w p q B sz I T r J U X) (hT : Tab w0) (h00 : 0 < w0.heap.size) (v : Int) :
    Calls Tryd.prog 21 #[.pointer (some ⟨p, 0, none⟩), .int .i64 v] w fun e w' => e = .returned (.tuple #[.int .i64 (fxV (lv I v)), .bool (fxB (lv I v))]) ∧ Only [] w w' := by
  obtain ⟨fp, fq, D, R, sep, bp, bq, bx, hB, o⟩ := h
  exact dfixed_any D v (hT.only h00 o (by simp)) (by have := o.size; omega)
theorem dp_open_l (h : DP w0 w p q B sz I T r J U X) (hT : Tab w0) (h00 : 0 < w0.heap.size) :
    Calls Tryd.prog 24 #[.pointer (some ⟨p, 0, none⟩)] w fun e w' => ∃ V, (e = .returned V ∧ w'.ownsRow w.heap.size 3 1 V (openTo I I.length).length ((openTo I I.length).map (Value.int .i64))) ∧ Only [] w w' := by
  obtain ⟨fp, fq, D, R, sep, bp, bq, bx, hB, o⟩ := h
  exact dopen_any D (hT.only h00 o (by simp)) (by have := o.size; omega)
theorem dp_open_r (h : DP w0 w p q B sz I T r J U X) (hF : FitI J) (hP : ∀ l ∈ J, places l ≠ []) :
    Calls Tryd.prog 25 #[.pointer (some ⟨r, 0, none⟩)] w fun e w' => ∃ V, (e = .returned V ∧ w'.ownsRow w.heap.size 3 1 V (openTo J J.length).length ((openTo J J.length).map (Value.int .i64))) ∧ Only [] w w' := by
  obtain ⟨fp, fq, D, R, -⟩ := h
  exact ropen_any R hF hP
theorem DP.pl_len (h : DP w0 w p q B sz I T r J U X) (v : Int) : (pints (lv I v)).length ≤ 60 := by
  obtain ⟨fp, fq, D, R, -⟩ := h
  exact D.pl_len v
end

end Go.Proofs.YtbidciakljpkiaaDoor
