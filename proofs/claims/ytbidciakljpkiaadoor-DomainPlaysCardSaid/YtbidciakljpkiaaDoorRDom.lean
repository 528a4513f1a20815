/- The document's domain: rows of truths, each in a block of its own. -/
import Derived.Test.YtbidciakljpkiaaDoorDomF
import Derived.Laws.OwnMore
set_option linter.unusedVariables false
set_option linter.unusedSimpArgs false
namespace Go.Proofs.YtbidciakljpkiaaDoor
open Go.RowKit
attribute [local go_sem ↓] Go.wp_at_zero Go.wp_at_succ

def bl (l : List Bool) : List Value := l.map Value.bool
theorem bl_length (l : List Bool) : (bl l).length = l.length := by simp [bl]
theorem one_bl (l : List Bool) : ∀ u ∈ bl l, u.oneCell' = true := fun u hu => by
  obtain ⟨z, _, rfl⟩ := List.mem_map.1 hu
  rfl
def apartV (a b : Value) : Prop := ∀ g, a.ownBlock = some g → b.ownBlock ≠ some g
theorem apartV_symm {a b : Value} (h : apartV a b) : apartV b a := fun g hb ha => h g ha hb
theorem pw_get {α : Type} {R : α → α → Prop} (hs : ∀ a b, R a b → R b a) {l : List α} (h : l.Pairwise R) {i j : Nat} {a b : α} (ha : l[i]? = some a) (hb : l[j]? = some b) (hij : i ≠ j) : R a b := by
  obtain ⟨hi, rfl⟩ := List.getElem?_eq_some_iff.1 ha
  obtain ⟨hj, rfl⟩ := List.getElem?_eq_some_iff.1 hb
  rcases Nat.lt_or_ge i j with h1 | h1
  · exact List.pairwise_iff_getElem.1 h i j hi hj h1
  · exact hs _ _ (List.pairwise_iff_getElem.1 h j i hj hi (by omega))

/-- V is rows of truths I, all at block b or above; f: the blocks of the truths. -/
structure Bx (w : World) (b : Nat) (V : Value) (I : List (List Bool)) (f : List Nat) : Prop where
  lies : ∃ vs : List Value, w.ownsRow b 55 1 V I.length vs ∧ (∀ (j : Nat) (u : Value) (l : List Bool), vs[j]? = some u → I[j]? = some l → w.ownsRow b 4 1 u l.length (bl l) ∧ ∀ g, u.ownBlock = some g → g ∈ f) ∧ vs.Pairwise apartV ∧
    (∀ g ∈ f, b ≤ g ∧ ∃ cur, Blk w g 4 cur)

/-- A row holds one list. -/
theorem own_same {w : World} {b b' : Nat} {e : TypeId} {v : Value} {n : Nat} {xs ys : List Value} (h : w.ownsRow b e 1 v n xs) (h' : w.ownsRow b' e 1 v n ys) : ys = xs := by
  have l1 := h.1
  have l2 := h'.1
  rcases Nat.eq_zero_or_pos n with h0 | h0
  · subst h0
    exact (List.eq_nil_of_length_eq_zero (by simpa using l2)).trans (List.eq_nil_of_length_eq_zero (by simpa using l1)).symm
  · obtain ⟨g, c, rfl, -, -⟩ := h.form h0
    apply List.ext_getElem?
    intro i
    rcases Nat.lt_or_ge i n with hi | hi
    · rw [← h.cellAt i (by omega), ← h'.cellAt i (by omega)]
    · rw [List.getElem?_eq_none (by omega), List.getElem?_eq_none (by omega)]

section
variable {w w' : World} {b : Nat} {V : Value} {I : List (List Bool)} {f : List Nat}
theorem Bx.only {S : List Nat} (h : Bx w b V I f) (ho : Only S w w') (hV : ∀ g, V.ownBlock = some g → g ∉ S) (hf : ∀ g ∈ f, g ∉ S) : Bx w' b V I f := by
  obtain ⟨vs, h1, h2, h3, h4⟩ := h.lies
  refine ⟨vs, own_only h1 ho hV, fun j u l hu hl => ?_, h3, fun g hg => ⟨(h4 g hg).1, by obtain ⟨cur, hc⟩ := (h4 g hg).2; exact ⟨cur, ho.blk hc (hf g hg)⟩⟩⟩
  obtain ⟨a1, a2⟩ := h2 j u l hu hl
  exact ⟨own_only a1 ho (fun g hg => hf g (a2 g hg)), a2⟩
theorem Bx.keep (h : Bx w b V I f) (ho : Only [] w w') : Bx w' b V I f := h.only ho (by simp) (by simp)
theorem Bx.low {b' : Nat} (h : Bx w b V I f) (hb : b' ≤ b) : Bx w b' V I f := by
  obtain ⟨vs, h1, h2, h3, h4⟩ := h.lies
  exact ⟨vs, own_base h1 hb, fun j u l hu hl => ⟨own_base (h2 j u l hu hl).1 hb, (h2 j u l hu hl).2⟩, h3, fun g hg => ⟨Nat.le_trans hb (h4 g hg).1, (h4 g hg).2⟩⟩
theorem Bx.nil (h : w.ownsRow b 55 1 V 0 []) : Bx w b V [] [] := ⟨[], h, (fun j u l hu => by cases hu), List.Pairwise.nil, (fun g hg => by cases hg)⟩
theorem Bx.slice (h : Bx w b V I f) : ∃ A c, V = .slice A I.length c ∧ I.length ≤ c ∧ c ≤ maxLen := by
  obtain ⟨vs, h1, -⟩ := h.lies
  obtain ⟨A, c, e, h1, h2, -, -⟩ := own_row h1
  exact ⟨A, c, e, h1, h2⟩
theorem Bx.own_lt (h : Bx w b V I f) {g : Nat} (hg : V.ownBlock = some g) : b ≤ g ∧ g < w.heap.size := by
  obtain ⟨vs, h1, -⟩ := h.lies
  exact h1.lt g hg
/-- What a walk reads of a row. -/
theorem Bx.look (h : Bx w b V I f) {j : Nat} {l : List Bool} (hj : I[j]? = some l) (hl : l ≠ []) :
    ∃ gV cV g c, V = .slice (some ⟨gV, 0, none⟩) I.length cV ∧ I.length ≤ cV ∧ cV ≤ maxLen ∧ w.cell? ⟨gV, j, none⟩ = some (.slice (some ⟨g, 0, none⟩) l.length c) ∧ l.length ≤ c ∧ c ≤ maxLen ∧ g ∈ f ∧
      w.ownsRow b 4 1 (.slice (some ⟨g, 0, none⟩) l.length c) l.length (bl l) ∧ gV < w.heap.size ∧ V.ownBlock = some gV := by
  obtain ⟨vs, h1, h2, h3, h4⟩ := h.lies
  have hjl : j < I.length := (List.getElem?_eq_some_iff.1 hj).1
  obtain ⟨gV, cV, rfl, hgb, hgl⟩ := h1.form (by omega)
  have hvl : vs.length = I.length := by simpa using h1.1
  obtain ⟨u, hu⟩ : ∃ u, vs[j]? = some u := ⟨_, List.getElem?_eq_getElem (by omega)⟩
  obtain ⟨hown, hf⟩ := h2 j u l hu hj
  obtain ⟨g, c, rfl, -, -⟩ := hown.form (List.length_pos_iff.2 hl)
  have hc := h1.cellAt j (by omega)
  rw [hu] at hc
  obtain ⟨A1, c1, e1, hA1, hA2, -, -⟩ := own_row h1
  simp only [Value.slice.injEq, true_and] at e1
  obtain ⟨-, rfl⟩ := e1
  obtain ⟨A2, c2, e2, hB1, hB2, -, -⟩ := own_row hown
  simp only [Value.slice.injEq, true_and] at e2
  obtain ⟨-, rfl⟩ := e2
  exact ⟨gV, cV, g, c, rfl, hA1, hA2, hc, hB1, hB2, hf g rfl, hown, hgl, rfl⟩
/-- One truth anew. -/
theorem Bx.put (h : Bx w b V I f) {j k : Nat} {l : List Bool} (hj : I[j]? = some l) (hk : k < l.length) (x : Bool) {gV cV g c : Nat} (hV : V = .slice (some ⟨gV, 0, none⟩) I.length cV) (hc : w.cell? ⟨gV, j, none⟩ = some (.slice (some ⟨g, 0, none⟩) l.length c)) :
    w.cell? ⟨g, k, none⟩ = some (.bool (l.getD k false)) ∧ w.frozen? ⟨g, k, none⟩ = false ∧ g ∈ f ∧ Bx (w.setCell ⟨g, k, none⟩ (.bool x)) b V (I.set j (l.set k x)) f := by
  obtain ⟨vs, h1, h2, h3, h4⟩ := h.lies
  subst hV
  have hjl : j < I.length := (List.getElem?_eq_some_iff.1 hj).1
  have hvl : vs.length = I.length := by simpa using h1.1
  obtain ⟨u, hu⟩ : ∃ u, vs[j]? = some u := ⟨_, List.getElem?_eq_getElem (by omega)⟩
  have hc' := h1.cellAt j (by omega)
  rw [hu, hc] at hc'
  obtain rfl := Option.some.inj hc'
  obtain ⟨hown, hf⟩ := h2 j _ l hu hj
  have hgf := hf g rfl
  have hO : Only [g] w (w.setCell ⟨g, k, none⟩ (.bool x)) := (Only.refl _ _).put (by simp) _
  obtain ⟨cur, hcur⟩ := own_blk hown (g := g) rfl
  refine ⟨?_, hown.frozenAt k, hgf, vs, ?_, fun i v m hv hm => ?_, h3, fun g' hg' => ⟨(h4 g' hg').1, ?_⟩⟩
  · rw [hown.cellAt k (by omega)]
    simp [bl, List.getD_eq_getElem?_getD, List.getElem?_eq_getElem hk]
  · rw [List.length_set]
    refine own_only h1 hO (fun g' hg' hm => ?_)
    simp at hm
    subst hm
    obtain ⟨cur', hcur'⟩ := own_blk h1 hg'
    exact hcur.apart hcur' (by decide) rfl
  · rw [List.getElem?_set] at hm
    split at hm
    · rename_i e
      subst e
      obtain rfl := Option.some.inj hm
      rw [hu] at hv
      obtain rfl := Option.some.inj hv
      refine ⟨?_, hf⟩
      have := (hown.stored k (.bool x)).1
      rw [List.length_set]
      simpa [bl, List.map_set] using this
    · rename_i hne
      obtain ⟨a1, a2⟩ := h2 i v m hv hm
      refine ⟨own_only a1 hO (fun g' hg' hm' => ?_), a2⟩
      simp at hm'
      subst hm'
      exact pw_get (fun _ _ h => apartV_symm h) h3 hu hv hne g' rfl hg'
  · obtain ⟨cur2, hc2⟩ := (h4 g' hg').2
    by_cases e : g' = g
    · subst e
      exact ⟨_, hc2.put k _⟩
    · exact ⟨cur2, hO.blk hc2 (by simpa using e)⟩
/-- A row more: V2 is what append made of V. -/
theorem Bx.snoc {w2 : World} {u V2 : Value} {l : List Bool} (h : Bx w b V I f) (hu : w.ownsRow b 4 1 u l.length (bl l)) (hn : ∀ g, u.ownBlock = some g → g ∉ f)
    {vs : List Value} (h1 : w.ownsRow b 55 1 V I.length vs) (g1 : w2.ownsRow b 55 1 V2 (I.length + 1) (vs ++ [u])) (g2 : w.grownBy w2 V.ownBlock) :
    Bx w2 b V2 (I ++ [l]) (f ++ u.ownBlock.toList) := by
  obtain ⟨vs', h1', h2, h3, h4⟩ := h.lies
  have hvv := (own_same h1 h1').symm
  subst hvv
  have hO := only_grown g2
  have hvl : vs.length = I.length := by simpa using h1.1
  have keep : ∀ {v : Value} {m : List Bool}, w.ownsRow b 4 1 v m.length (bl m) → w2.ownsRow b 4 1 v m.length (bl m) := fun {v m} hv => own_only hv hO (fun g hg hm => by
    obtain ⟨cur, hb⟩ := own_blk hv hg
    exact own_apart h1 hb (by decide) hm)
  refine ⟨vs ++ [u], by simpa using g1, fun j v m hv hm => ?_, ?_, fun g hg => ?_⟩
  · rcases Nat.lt_or_ge j I.length with hj | hj
    · rw [List.getElem?_append_left (by omega)] at hv
      rw [List.getElem?_append_left hj] at hm
      obtain ⟨a1, a2⟩ := h2 j v m hv hm
      exact ⟨keep a1, fun g hg => List.mem_append_left _ (a2 g hg)⟩
    · rw [List.getElem?_append_right (by omega)] at hv
      rw [List.getElem?_append_right hj] at hm
      have hj0 : j - vs.length = 0 := by
        cases hk : j - vs.length with
        | zero => rfl
        | succ k => rw [hk] at hv; simp at hv
      rw [hj0] at hv
      rw [← hvl, hj0] at hm
      simp at hv hm
      subst hv
      subst hm
      exact ⟨keep hu, fun g hg => List.mem_append_right _ (by simp [hg])⟩
  · rw [List.pairwise_append]
    refine ⟨h3, List.pairwise_singleton _ _, fun a ha c hc g hg hg' => ?_⟩
    simp at hc
    subst hc
    obtain ⟨i, hi⟩ := List.mem_iff_getElem?.1 ha
    have hil : i < I.length := by have := (List.getElem?_eq_some_iff.1 hi).1; omega
    obtain ⟨a1, a2⟩ := h2 i a I[i] hi (List.getElem?_eq_getElem hil)
    exact hn g hg' (a2 g hg)
  · rcases List.mem_append.1 hg with h5 | h5
    · obtain ⟨cur, hc⟩ := (h4 g h5).2
      exact ⟨(h4 g h5).1, cur, hO.blk hc (own_apart h1 hc (by decide))⟩
    · cases hv : u.ownBlock with
      | none => rw [hv] at h5; cases h5
      | some g' =>
        rw [hv] at h5
        simp at h5
        subst h5
        have := hu.lt g hv
        obtain ⟨cur, hc⟩ := own_blk hu hv
        exact ⟨this.1, cur, hO.blk hc (own_apart h1 hc (by decide))⟩
end

/-- The document's domain in block p: what is left, what was, and its blocks. -/
structure RD (w : World) (p : Nat) (I : List (List Bool)) (T : List (List (List Bool))) (fp : List Nat) : Prop where
  lies : ∃ (VN VT : Value) (f0 : List Nat) (rows : List Value) (fs : List (List Nat)), Blk w p 54 #[VN, VT] ∧ w.ownsRow 0 51 1 VT T.length rows ∧ fs.length = T.length ∧
    Bx w 0 VN I f0 ∧ (∀ (i : Nat) (v : Value) (J : List (List Bool)) (f : List Nat), rows[i]? = some v → T[i]? = some J → fs[i]? = some f → Bx w 0 v J f ∧ ∀ g, v.ownBlock = some g → g ∈ fp) ∧
    (f0 :: fs).Pairwise (fun a b => ∀ g ∈ a, g ∉ b) ∧ (∀ f ∈ f0 :: fs, ∀ g ∈ f, g ∈ fp) ∧ p ∈ fp ∧ (∀ g, VN.ownBlock = some g → g ∈ fp) ∧ (∀ g, VT.ownBlock = some g → g ∈ fp)

section
variable {w w' : World} {p : Nat} {I : List (List Bool)} {T : List (List (List Bool))} {fp : List Nat}
theorem RD.only {S : List Nat} (h : RD w p I T fp) (ho : Only S w w') (hS : ∀ b ∈ fp, b ∉ S) : RD w' p I T fp := by
  obtain ⟨VN, VT, f0, rows, fs, hp, hT, hl, hN, hr, hpw, m1, m2, m3, m4⟩ := h.lies
  refine ⟨VN, VT, f0, rows, fs, ho.blk hp (hS _ m2), own_only hT ho (fun g hg => hS _ (m4 g hg)), hl, hN.only ho (fun g hg => hS _ (m3 g hg)) (fun g hg => hS _ (m1 f0 (by simp) g hg)), fun i v J f hv hJ hf => ?_, hpw, m1, m2, m3, m4⟩
  obtain ⟨a1, a2⟩ := hr i v J f hv hJ hf
  exact ⟨a1.only ho (fun g hg => hS _ (a2 g hg)) (fun g hg => hS _ (m1 f (List.mem_cons_of_mem _ (List.mem_of_getElem? hf)) g hg)), a2⟩
theorem RD.keep (h : RD w p I T fp) (ho : Only [] w w') : RD w' p I T fp := h.only ho (by simp)
theorem RD.head (h : RD w p I T fp) : ∃ A c, w.cell? ⟨p, 0, none⟩ = some (.slice A I.length c) ∧ I.length ≤ c ∧ c ≤ maxLen := by
  obtain ⟨VN, VT, f0, rows, fs, hp, hT, hl, hN, -⟩ := h.lies
  obtain ⟨A, c, rfl, h1, h2⟩ := hN.slice
  exact ⟨A, c, hp.at_ 0, h1, h2⟩
theorem RD.then_ (h : RD w p I T fp) : ∃ A c, w.cell? ⟨p, 1, none⟩ = some (.slice A T.length c) ∧ T.length ≤ c ∧ c ≤ maxLen := by
  obtain ⟨VN, VT, f0, rows, fs, hp, hT, -⟩ := h.lies
  obtain ⟨A, c, rfl, h1, h2, -⟩ := own_row hT
  exact ⟨A, c, hp.at_ 1, h1, h2⟩
theorem RD.look (h : RD w p I T fp) {j : Nat} {l : List Bool} (hj : I[j]? = some l) (hl : l ≠ []) :
    ∃ gV cV g c, w.cell? ⟨p, 0, none⟩ = some (.slice (some ⟨gV, 0, none⟩) I.length cV) ∧ I.length ≤ cV ∧ cV ≤ maxLen ∧ w.cell? ⟨gV, j, none⟩ = some (.slice (some ⟨g, 0, none⟩) l.length c) ∧ l.length ≤ c ∧ c ≤ maxLen ∧
      (∀ k, k < l.length → w.cell? ⟨g, k, none⟩ = some (.bool (l.getD k false))) ∧ p < w.heap.size ∧ gV < w.heap.size ∧ g < w.heap.size := by
  obtain ⟨VN, VT, f0, rows, fs, hp, hT, hl', hN, -⟩ := h.lies
  obtain ⟨gV, cV, g, c, rfl, h1, h2, h3, h4, h5, h6, h7, h8, -⟩ := hN.look hj hl
  refine ⟨gV, cV, g, c, hp.at_ 0, h1, h2, h3, h4, h5, fun k hk => ?_, hp.lt, h8, (h7.lt g rfl).2⟩
  rw [h7.cellAt k (by omega)]
  simp [bl, List.getD_eq_getElem?_getD, List.getElem?_eq_getElem hk]
/-- One truth anew. -/
theorem RD.put (h : RD w p I T fp) {j k : Nat} {l : List Bool} (hj : I[j]? = some l) (hk : k < l.length) (x : Bool) {gV cV g c : Nat} (h0 : w.cell? ⟨p, 0, none⟩ = some (.slice (some ⟨gV, 0, none⟩) I.length cV))
    (hc : w.cell? ⟨gV, j, none⟩ = some (.slice (some ⟨g, 0, none⟩) l.length c)) :
    w.frozen? ⟨g, k, none⟩ = false ∧ RD (w.setCell ⟨g, k, none⟩ (.bool x)) p (I.set j (l.set k x)) T fp ∧ Only fp w (w.setCell ⟨g, k, none⟩ (.bool x)) := by
  obtain ⟨VN, VT, f0, rows, fs, hp, hT, hl, hN, hr, hpw, m1, m2, m3, m4⟩ := h.lies
  have hVN : VN = .slice (some ⟨gV, 0, none⟩) I.length cV := by
    have := hp.at_ 0
    rw [h0] at this
    simpa using this.symm
  obtain ⟨a1, a2, a3, a4⟩ := hN.put hj hk x hVN hc
  have hgfp := m1 f0 (by simp) g a3
  have hO : Only [g] w (w.setCell ⟨g, k, none⟩ (.bool x)) := (Only.refl _ _).put (by simp) _
  obtain ⟨gV', cV', g', c', e', -, -, hc', -, -, -, hrow, -, -⟩ := hN.look hj (List.length_pos_iff.1 (by omega))
  have hge : g' = g := by
    rw [hVN] at e'
    simp only [Value.slice.injEq, Option.some.injEq, Addr.mk.injEq, and_true, true_and] at e'
    obtain ⟨rfl, rfl⟩ := e'
    rw [hc] at hc'
    simp at hc'
    exact hc'.1.symm
  subst hge
  obtain ⟨cur, hcur⟩ := own_blk hrow (g := g') rfl
  refine ⟨a2, ⟨VN, VT, f0, rows, fs, hO.blk hp (by simpa using hp.apart hcur (by decide)), own_only hT hO (fun g1 hg1 hm => ?_), hl, a4, fun i v J f hv hJ hf => ?_, hpw, m1, m2, m3, m4⟩, hO.wide (fun i hi _ => by simp at hi; subst hi; exact hgfp)⟩
  · simp at hm
    subst hm
    obtain ⟨cur', hcur'⟩ := own_blk hT hg1
    exact hcur.apart hcur' (by decide) rfl
  · obtain ⟨b1, b2⟩ := hr i v J f hv hJ hf
    refine ⟨b1.only hO (fun g1 hg1 hm => ?_) (fun g1 hg1 hm => ?_), b2⟩
    · simp at hm
      subst hm
      obtain ⟨vs, o1, -⟩ := b1.lies
      obtain ⟨cur', hcur'⟩ := own_blk o1 hg1
      exact hcur.apart hcur' (by decide) rfl
    · simp at hm
      subst hm
      exact (List.pairwise_cons.1 hpw).1 f (List.mem_of_getElem? hf) g1 a3 hg1
end

end Go.Proofs.YtbidciakljpkiaaDoor
