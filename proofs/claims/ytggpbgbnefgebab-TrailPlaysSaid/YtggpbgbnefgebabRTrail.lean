/- Contracts of the reference's trail: what it has now, and what it had when each level began, each in a row of its own. -/
import Derived.Test.YtggpbgbnefgebabTrailMany
import Derived.Test.YtggpbgbnefgebabSame
set_option linter.unusedVariables false
set_option linter.unusedSimpArgs false
namespace Go.Proofs.Ytggpbgbnefgebab
open Go.RowKit
attribute [local go_sem ↓] Go.wp_at_zero Go.wp_at_succ

/-- cells of a list of numbers -/
def cl (l : List Int) : List Value := l.map (Value.int .i64)

/-- The reference's trail in block p: 'rows' are the slices of what it has now and of what it had, 'data' what they hold; no two lie in one block. -/
structure RT (w : World) (p : Nat) (n : Nat) (data : List (List Int)) (fp : List Nat) : Prop where
  lies : ∃ (VN VT : Value) (rows : List Value), Blk w p 31 #[VN, VT] ∧ w.ownsRow 0 28 1 VT rows.length rows ∧ rows.length + 1 = data.length ∧
    (∀ (i : Nat) (v : Value) (l : List Int), (VN :: rows)[i]? = some v → data[i]? = some l → w.ownsRow 0 3 1 v n (cl l) ∧ (∀ g, v.ownBlock = some g → g ∈ fp)) ∧
    (VN :: rows).Pairwise (fun a b => ∀ g, a.ownBlock = some g → b.ownBlock ≠ some g) ∧ p ∈ fp ∧ (∀ g, VT.ownBlock = some g → g ∈ fp)

theorem RT.only {w w' : World} {p n : Nat} {data : List (List Int)} {fp S : List Nat} (h : RT w p n data fp) (ho : Only S w w') (hS : ∀ b ∈ fp, b ∉ S) : RT w' p n data fp := by
  obtain ⟨VN, VT, rows, hp, hT, hl, hr, hpw, m1, m2⟩ := h.lies
  refine ⟨VN, VT, rows, ho.blk hp (hS _ m1), own_only hT ho (fun g hg => hS _ (m2 g hg)), hl, fun i v l hv hd => ?_, hpw, m1, m2⟩
  obtain ⟨h1, h2⟩ := hr i v l hv hd
  exact ⟨own_only h1 ho (fun g hg => hS _ (h2 g hg)), h2⟩

theorem RT.now {w : World} {p n : Nat} {now : List Int} {saved : List (List Int)} {fp : List Nat} (h : RT w p n (now :: saved) fp) :
    ∃ A c, w.cell? ⟨p, 0, none⟩ = some (.slice A n c) ∧ w.ownsRow 0 3 1 (.slice A n c) n (cl now) ∧ now.length = n ∧ n ≤ c ∧ c ≤ maxLen ∧ Row w w.heap.size A (cl now) := by
  obtain ⟨VN, VT, rows, hp, hT, hl, hr, hpw, m1, m2⟩ := h.lies
  obtain ⟨h1, h2⟩ := hr 0 VN now rfl rfl
  obtain ⟨A, c, rfl, hn, hc, hcl, hrow⟩ := own_row h1
  exact ⟨A, c, hp.at_ 0, h1, by simpa [cl] using hcl, hn, hc, hrow⟩

theorem RT.then_ {w : World} {p n : Nat} {now : List Int} {saved : List (List Int)} {fp : List Nat} (h : RT w p n (now :: saved) fp) :
    ∃ A c, w.cell? ⟨p, 1, none⟩ = some (.slice A saved.length c) ∧ saved.length ≤ c ∧ c ≤ maxLen := by
  obtain ⟨VN, VT, rows, hp, hT, hl, hr, hpw, m1, m2⟩ := h.lies
  obtain ⟨A, c, rfl, hn, hc, -, -⟩ := own_row hT
  have : rows.length = saved.length := by simpa using hl
  rw [this] at hp hn
  exact ⟨A, c, hp.at_ 1, hn, hc⟩

set_option maxHeartbeats 400000 in
theorem rset_in (p g c n d : Nat) (v u : Int) (w : World) (h0 : w.cell? ⟨p, 0, none⟩ = some (.slice (some ⟨g, 0, none⟩) n d))
    (hc : w.cell? ⟨g, c, none⟩ = some (.int .i64 u)) (hf : w.frozen? ⟨g, c, none⟩ = false) (hlt : c < n) (hn : n ≤ 1000) :
    Calls Try.prog 12 #[.pointer (some ⟨p, 0, none⟩), .int .i64 (c : Int), .int .i64 v] w fun e w' => e = .returned (.int .i64 0) ∧ w.setCell ⟨g, c, none⟩ (.int .i64 v) = w' := by
  have hc0 : (0 : Int) ≤ (c : Int) := Int.natCast_nonneg _
  have hc1 : (c : Int) < (n : Int) := by omega
  go_enter Try.func12, Try.ntmps12
  go_wp2
  go_ret
  exact ⟨rfl, rfl⟩

set_option maxHeartbeats 400000 in
theorem rset_out (p n d : Nat) (A : Option Addr) (c v : Int) (w : World) (h0 : w.cell? ⟨p, 0, none⟩ = some (.slice A n d)) (hc : c < 0 ∨ (n : Int) ≤ c) (hn : n ≤ 1000) :
    Calls Try.prog 12 #[.pointer (some ⟨p, 0, none⟩), .int .i64 c, .int .i64 v] w fun e w' => e = .returned (.int .i64 2) ∧ w = w' := by
  by_cases hc0 : c < 0
  · clear hc
    go_enter Try.func12, Try.ntmps12
    go_wp2
    go_ret
    exact ⟨rfl, rfl⟩
  · have hc1 : 0 ≤ c := by omega
    have hc2 : (n : Int) ≤ c := by omega
    have hd : decide (c < (n : Int)) = false := by simp; omega
    clear hc hc0
    go_enter Try.func12, Try.ntmps12
    go_wp2
    go_ret
    exact ⟨rfl, rfl⟩

theorem rset_any (p n : Nat) (c v : Int) (now : List Int) (saved : List (List Int)) (fp : List Nat) (w : World) (h : RT w p n (now :: saved) fp) (hn : n ≤ 1000) :
    Calls Try.prog 12 #[.pointer (some ⟨p, 0, none⟩), .int .i64 c, .int .i64 v] w fun e w' => e = .returned (.int .i64 (stE now c)) ∧ RT w' p n (stL now c v :: saved) fp ∧ Only fp w w' := by
  have h' := h
  obtain ⟨VN, VT, rows, hp, hT, hl, hr, hpw, m1, m2⟩ := h.lies
  obtain ⟨hN, hNf⟩ := hr 0 VN now rfl rfl
  have hnl : now.length = n := by have := hN.1; simpa [cl] using this
  by_cases ho : c < 0 ∨ (now.length : Int) ≤ c
  · obtain ⟨A, d, h0, -⟩ := h.now
    refine (rset_out p n d A c v w h0 (by rw [hnl] at ho; exact ho) hn).mono ?_
    rintro e w1 ⟨rfl, rfl⟩
    simp only [stE, stL, if_pos ho]
    exact ⟨trivial, h', Only.refl _ _⟩
  · obtain ⟨k, rfl⟩ := Int.eq_ofNat_of_zero_le (show 0 ≤ c by omega)
    have hk : k < n := by omega
    obtain ⟨g, d, rfl, -, -⟩ := hN.form (by omega)
    have hck : w.cell? ⟨g, k, none⟩ = some (.int .i64 (now[k]'(by omega))) := by
      rw [hN.cellAt k (by omega)]
      simp [cl]
    refine (rset_in p g k n d v _ w (hp.at_ 0) hck (hN.frozenAt k) hk hn).mono ?_
    rintro e w1 ⟨rfl, rfl⟩
    simp only [stE, stL, if_neg ho]
    have hO : Only [g] w (w.setCell ⟨g, k, none⟩ (.int .i64 v)) := (Only.refl _ _).put (by simp) _
    have hgf := hNf g rfl
    refine ⟨trivial, ⟨_, VT, rows, ?_, ?_, by simpa using hl, fun i x l hv hd => ?_, hpw, m1, m2⟩, hO.wide (fun i hi _ => by simp at hi; subst hi; exact hgf)⟩
    · exact hO.blk hp (by
        obtain ⟨cur, hcur⟩ := own_blk hN (g := g) rfl
        simpa using (hp.apart hcur (by decide)))
    · exact own_only hT hO (fun g' hg' hm => by
        simp at hm
        subst hm
        obtain ⟨cur, hcur⟩ := own_blk hN (g := g') rfl
        obtain ⟨cur', hcur'⟩ := own_blk hT hg'
        exact hcur.apart hcur' (by decide) rfl)
    · cases i with
      | zero =>
        simp at hv hd
        subst hv
        subst hd
        refine ⟨?_, hNf⟩
        have := (hN.stored k (.int .i64 v)).1
        simpa [cl, List.map_set] using this
      | succ i =>
        simp at hv hd
        obtain ⟨h1, h2⟩ := hr (i + 1) x l (by simpa using hv) (by simpa using hd)
        refine ⟨own_only h1 hO (fun g' hg' hm => ?_), h2⟩
        simp at hm
        subst hm
        have := (List.pairwise_cons.1 hpw).1 x (List.mem_of_getElem? hv) g' rfl
        exact this hg'

set_option maxHeartbeats 400000 in
theorem rget_in (p g c n d : Nat) (u : Int) (w : World) (h0 : w.cell? ⟨p, 0, none⟩ = some (.slice (some ⟨g, 0, none⟩) n d)) (hc : w.cell? ⟨g, c, none⟩ = some (.int .i64 u)) (hlt : c < n) (hn : n ≤ 1000) :
    Calls Try.prog 20 #[.pointer (some ⟨p, 0, none⟩), .int .i64 (c : Int)] w fun e w' => e = .returned (.int .i64 u) ∧ w = w' := by
  have hc0 : (0 : Int) ≤ (c : Int) := Int.natCast_nonneg _
  have hc1 : (c : Int) < (n : Int) := by omega
  go_enter Try.func20, Try.ntmps20
  go_wp2
  go_ret
  exact ⟨rfl, rfl⟩

set_option maxHeartbeats 400000 in
theorem rget_out (p n d : Nat) (A : Option Addr) (c : Int) (w : World) (h0 : w.cell? ⟨p, 0, none⟩ = some (.slice A n d)) (hc : c < 0 ∨ (n : Int) ≤ c) (hn : n ≤ 1000) :
    Calls Try.prog 20 #[.pointer (some ⟨p, 0, none⟩), .int .i64 c] w fun e w' => e = .returned (.int .i64 0) ∧ w = w' := by
  by_cases hc0 : c < 0
  · clear hc
    go_enter Try.func20, Try.ntmps20
    go_wp2
    go_ret
    exact ⟨rfl, rfl⟩
  · have hc1 : 0 ≤ c := by omega
    have hc2 : (n : Int) ≤ c := by omega
    have hd : decide (c < (n : Int)) = false := by simp; omega
    clear hc hc0
    go_enter Try.func20, Try.ntmps20
    go_wp2
    go_ret
    exact ⟨rfl, rfl⟩

theorem rget_any (p n : Nat) (c : Int) (now : List Int) (saved : List (List Int)) (fp : List Nat) (w : World) (h : RT w p n (now :: saved) fp) (hn : n ≤ 1000) :
    Calls Try.prog 20 #[.pointer (some ⟨p, 0, none⟩), .int .i64 c] w fun e w' => e = .returned (.int .i64 (gtV now c)) ∧ w = w' := by
  obtain ⟨A, d, h0, hN, hnl, -⟩ := h.now
  by_cases ho : c < 0 ∨ (now.length : Int) ≤ c
  · simp only [gtV, if_pos ho]
    exact rget_out p n d A c w h0 (by rw [hnl] at ho; exact ho) hn
  · obtain ⟨k, rfl⟩ := Int.eq_ofNat_of_zero_le (show 0 ≤ c by omega)
    have hk : k < n := by omega
    obtain ⟨g, d', e, -, -⟩ := hN.form (by omega)
    injection e with e1 e2 e3
    subst e1
    have hck : w.cell? ⟨g, k, none⟩ = some (.int .i64 (now[k]'(by omega))) := by
      rw [hN.cellAt k (by omega)]
      simp [cl]
    simp only [gtV, if_neg ho]
    have := rget_in p g k n d _ w h0 hck hk hn
    have hk2 : k < now.length := by omega
    simpa [List.getD, hk2] using this

end Go.Proofs.Ytggpbgbnefgebab
