/- Contracts of the document's domain: Only, Open. -/
import Derived.Test.YtbidciakljpkiaaDoorRDomB
set_option linter.unusedVariables false
set_option linter.unusedSimpArgs false
namespace Go.Proofs.YtbidciakljpkiaaDoor
open Go.RowKit
attribute [local go_sem ↓] Go.wp_at_zero Go.wp_at_succ

/-- The first i truths are of one alone, the others as they were. -/
def half (l : List Bool) (k i : Nat) : List Bool := (oneOf l.length k).take i ++ l.drop i
theorem half_length (l : List Bool) (k i : Nat) (hi : i ≤ l.length) : (half l k i).length = l.length := by
  simp [half, oneOf_length]
  omega
theorem half_zero (l : List Bool) (k : Nat) : half l k 0 = l := by simp [half]
theorem half_all (l : List Bool) (k : Nat) : half l k l.length = oneOf l.length k := by
  unfold half
  rw [List.drop_length, List.append_nil, List.take_of_length_le (by rw [oneOf_length]; exact Nat.le_refl _)]
theorem half_succ (l : List Bool) (k i : Nat) (hi : i < l.length) : (half l k i).set i (decide (i = k)) = half l k (i + 1) := by
  have hol := oneOf_length l.length k
  apply List.ext_getElem?
  intro j
  unfold half
  rw [List.getElem?_set]
  by_cases hij : i = j
  · subst hij
    rw [if_pos rfl, if_pos (by simp [hol]; omega), List.getElem?_append_left (by simp [hol]; omega), List.getElem?_take, if_pos (by omega)]
    simp [oneOf, hi]
  · rw [if_neg hij]
    by_cases hj : j < i
    · rw [List.getElem?_append_left (by simp [hol]; omega), List.getElem?_append_left (by simp [hol]; omega), List.getElem?_take, List.getElem?_take, if_pos hj, if_pos (by omega)]
    · rw [List.getElem?_append_right (by simp [hol]; omega), List.getElem?_append_right (by simp [hol]; omega), List.getElem?_drop, List.getElem?_drop]
      congr 1
      simp [hol]
      omega

section
variable {w : World} {p : Nat} {I : List (List Bool)} {T : List (List (List Bool))} {fp : List Nat}
set_option maxHeartbeats 1000000 in
theorem ronly_gone (h : RD w p I T fp) (hF : FitI I) {v k : Nat} {l : List Bool} (hv : I[v]? = some l) (hk : k < l.length) (hp : l.getD k false = false) :
    Calls Tryd.prog 15 #[.pointer (some ⟨p, 0, none⟩), .int .i64 (v : Int), .int .i64 (k : Int)] w fun e w' => e = .returned (.int .i64 3) ∧ w = w' := by
  have hl := hF.l l (List.mem_of_getElem? hv)
  have hn := hF.n
  have hvl : v < I.length := (List.getElem?_eq_some_iff.1 hv).1
  have hv0 : (0 : Int) ≤ (v : Int) := Int.natCast_nonneg _
  have hv1 : (v : Int) < (I.length : Int) := by omega
  have hk0 : (0 : Int) ≤ (k : Int) := Int.natCast_nonneg _
  have hk1 : (k : Int) < (l.length : Int) := by omega
  have ht := rthere_any h hF (v : Int) (k : Int)
  have hin : inR I (v : Int) (k : Int) = true := by
    unfold inR
    rw [lv_some hv]
    simp
    omega
  rw [hin] at ht
  have HT := Lib.hid ht
  obtain ⟨gV, cV, g, c', h0, h1, h2, h3, h4, h5, hcell, b1, b2, b3⟩ := h.look hv hl.1
  have cx := hcell k hk
  rw [hp] at cx
  clear ht hin h hF hcell hv hp
  go_enter Tryd.func15, Tryd.ntmps15
  go_wp2_with fail
  refine (HT.out).mono ?_
  rintro e w' ⟨rfl, rfl⟩
  go_wp2
  go_ret
  exact ⟨rfl, rfl⟩

set_option maxHeartbeats 2000000 in
theorem ronly_there (h : RD w p I T fp) (hF : FitI I) {v k : Nat} {l : List Bool} (hv : I[v]? = some l) (hk : k < l.length) (hp : l.getD k false = true) :
    Calls Tryd.prog 15 #[.pointer (some ⟨p, 0, none⟩), .int .i64 (v : Int), .int .i64 (k : Int)] w fun e w' =>
      e = .returned (.int .i64 0) ∧ RD w' p (I.set v (oneOf l.length k)) T fp ∧ Only fp w w' := by
  have hl := hF.l l (List.mem_of_getElem? hv)
  have hn := hF.n
  have hvl : v < I.length := (List.getElem?_eq_some_iff.1 hv).1
  have hv0 : (0 : Int) ≤ (v : Int) := Int.natCast_nonneg _
  have hv1 : (v : Int) < (I.length : Int) := by omega
  have hk0 : (0 : Int) ≤ (k : Int) := Int.natCast_nonneg _
  have hk1 : (k : Int) < (l.length : Int) := by omega
  have ht := rthere_any h hF (v : Int) (k : Int)
  have hin : inR I (v : Int) (k : Int) = true := by
    unfold inR
    rw [lv_some hv]
    simp
    omega
  rw [hin] at ht
  have HT := Lib.hid ht
  obtain ⟨gV, cV, g, c', h0, h1, h2, h3, h4, h5, hcell, b1, b2, b3⟩ := h.look hv hl.1
  have cx := hcell k hk
  rw [hp] at cx
  have HH := Lib.hid h
  have HV := Lib.hid hv
  obtain ⟨n, hnl⟩ : ∃ n, n = l.length := ⟨_, rfl⟩
  have HNL := Lib.hid hnl
  have hn60 := hl.2
  have HHS := Lib.hid (fun i => half_succ l k i)
  have HHL := Lib.hid (fun i => half_length l k i)
  have HHA := Lib.hid (half_all l k)
  have HHZ := Lib.hid (half_zero l k)
  rw [← hnl] at h3 h4 hn60 hk1 ⊢
  simp only [← hnl] at HHS HHL HHA
  clear ht hin h hF hcell hv hp hl hk hnl
  go_enter Tryd.func15, Tryd.ntmps15
  go_wp2_with fail
  refine (HT.out).mono ?_
  rintro e w' ⟨rfl, rfl⟩
  go_wp2
  go_loopw [7] (fun i wr => ∃ j : Nat, i = .int .i64 j ∧ j ≤ n ∧ Hid (RD wr p (I.set v (half l k j)) T fp) ∧ Hid (Only fp w wr) ∧ wr.cell? ⟨p, 0, none⟩ = some (.slice (some ⟨gV, 0, none⟩) I.length cV) ∧ wr.cell? ⟨gV, v, none⟩ = some (.slice (some ⟨g, 0, none⟩) n c')) (fun i _ => n - (intOf i).toNat)
  case atStart =>
    refine ⟨0, rfl, by omega, Lib.hid ?_, Lib.hid (Only.refl _ _), h0, h3⟩
    rw [HHZ.out]
    have e : I.set v l = I := by
      apply List.ext_getElem?
      intro i
      rw [List.getElem?_set]
      split
      · rename_i e
        subst e
        rw [HV.out]
      · rfl
    rw [e]
    exact HH.out
  case round =>
    obtain ⟨j, rfl, hj, HRD, HO, d0, d3⟩ := hrel
    by_cases hlt : j < n
    · have hj0 : (0 : Int) ≤ (j : Int) := Int.natCast_nonneg _
      have hj1 : (j : Int) < (n : Int) := by omega
      have hgv : (I.set v (half l k j))[v]? = some (half l k j) := by rw [List.getElem?_set, if_pos rfl, if_pos hvl]
      have hlen := HHL.out j (by omega)
      have hpt := HRD.out.put (k := j) hgv (by rw [hlen]; exact hlt) (decide (j = k)) (by rw [List.length_set]; exact d0) (by rw [hlen]; exact d3)
      obtain ⟨f1, hRD, hOp⟩ := hpt
      rw [HHS.out j hlt, List.set_set] at hRD
      obtain ⟨gV2, cV2, g2, c2, e0, -, -, e3, -, -, hcell2, q1, q2, q3⟩ := HRD.out.look hgv (List.length_pos_iff.1 (by omega))
      rw [List.length_set, d0] at e0
      obtain ⟨rfl, rfl⟩ : gV = gV2 ∧ cV = cV2 := by simpa using e0
      rw [hlen, d3] at e3
      obtain ⟨rfl, rfl⟩ : g = g2 ∧ c' = c2 := by simpa using e3
      have cj := hcell2 j (by rw [hlen]; exact hlt)
      have hgg : gV ≠ g ∧ p ≠ g := by
        obtain ⟨VN, VT, f0, rows, fs, hp, hT, hl', hN, -⟩ := HRD.out.lies
        obtain ⟨gV', cV', g', c2', rfl, -, -, e3', -, -, -, hrow, -, -⟩ := hN.look hgv (List.length_pos_iff.1 (by omega))
        have e1 := hp.at_ 0
        rw [d0] at e1
        obtain ⟨rfl, rfl⟩ : gV = gV' ∧ cV = cV' := by simpa using e1
        rw [hlen, d3] at e3'
        obtain ⟨rfl, rfl⟩ : g = g' ∧ c' = c2' := by simpa using e3'
        obtain ⟨cur, hcur⟩ := own_blk hrow (g := g) rfl
        obtain ⟨vs, o1, -⟩ := hN.lies
        obtain ⟨cur', hcur'⟩ := own_blk o1 (g := gV) rfl
        exact ⟨hcur'.apart hcur (by decide), hp.apart hcur (by decide)⟩
      have y0 : (wr.setCell ⟨g, j, none⟩ (.bool (decide (j = k)))).cell? ⟨p, 0, none⟩ = some (.slice (some ⟨gV, 0, none⟩) I.length cV) := (World.cell?_setCell_other _ _ _ _ (by simp [hgg.2])).trans d0
      have y3 : (wr.setCell ⟨g, j, none⟩ (.bool (decide (j = k)))).cell? ⟨gV, v, none⟩ = some (.slice (some ⟨g, 0, none⟩) n c') := (World.cell?_setCell_other _ _ _ _ (by simp [hgg.1])).trans d3
      have HR2 := Lib.hid hRD
      have HO2 := Lib.hid (HO.out.trans hOp)
      have hb : ((j : Int) == (k : Int)) = decide (j = k) := by
        rw [Bool.eq_iff_iff]
        simp
        omega
      have HB := Lib.hid hb
      have Y0 := Lib.hid y0
      have Y3 := Lib.hid y3
      clear hRD hOp e0 e3 hcell2 hgg hgv hb y0 y3 hlen HRD
      go_wp2
      rw [HB.out]
      go_roundw
      case rel => exact ⟨j + 1, by go_num, by omega, HR2, HO2, Y0.out, Y3.out⟩
      case measure => simp [intOf]; omega
    · have hjn : j = n := by omega
      subst hjn
      have hd : decide ((j : Int) < (j : Int)) = false := by simp
      rw [HHA.out] at HRD
      go_wp2
      go_ret
      exact ⟨rfl, HRD.out, HO.out⟩
end

end Go.Proofs.YtbidciakljpkiaaDoor
