/- Contracts of the document's domain: there, Left, Drop, Only, Open. -/
import Derived.Test.YtbidciakljpkiaaDoorRDom
set_option linter.unusedVariables false
set_option linter.unusedSimpArgs false
namespace Go.Proofs.YtbidciakljpkiaaDoor
open Go.RowKit
attribute [local go_sem ↓] Go.wp_at_zero Go.wp_at_succ

/-- No variable without values, none with too many; not too many variables. -/
structure FitI (I : List (List Bool)) : Prop where
  n : I.length ≤ 200
  l : ∀ l ∈ I, l ≠ [] ∧ l.length ≤ 60

section
variable {w : World} {p : Nat} {I : List (List Bool)} {T : List (List (List Bool))} {fp : List Nat}
theorem rthere_v (h : RD w p I T fp) (hF : FitI I) (v k : Int) (hv : v < 0 ∨ (I.length : Int) ≤ v) :
    Calls Tryd.prog 31 #[.pointer (some ⟨p, 0, none⟩), .int .i64 v, .int .i64 k] w fun e w' => e = .returned (.bool false) ∧ w = w' := by
  obtain ⟨A, c, h0, h1, h2⟩ := h.head
  have hn := hF.n
  clear h hF
  by_cases hv0 : v < 0
  · have hd : decide (v ≥ 0) = false := by simp; omega
    have hd2 : decide (0 ≤ v) = false := by simp; omega
    clear hv
    go_enter Tryd.func31, Tryd.ntmps31
    go_wp2
    go_ret
    exact ⟨rfl, rfl⟩
  · have hv1 : 0 ≤ v := by omega
    have hd : decide (v < (I.length : Int)) = false := by simp; omega
    clear hv hv0
    go_enter Tryd.func31, Tryd.ntmps31
    go_wp2
    go_ret
    exact ⟨rfl, rfl⟩
theorem rthere_k (h : RD w p I T fp) (hF : FitI I) {v : Nat} {l : List Bool} (hv : I[v]? = some l) (k : Int) :
    Calls Tryd.prog 31 #[.pointer (some ⟨p, 0, none⟩), .int .i64 (v : Int), .int .i64 k] w fun e w' => e = .returned (.bool (decide (0 ≤ k ∧ k < l.length))) ∧ w = w' := by
  have hl := hF.l l (List.mem_of_getElem? hv)
  have hn := hF.n
  obtain ⟨gV, cV, g, c, h0, h1, h2, h3, h4, h5, -⟩ := h.look hv hl.1
  have hvl : v < I.length := (List.getElem?_eq_some_iff.1 hv).1
  have hv0 : (0 : Int) ≤ (v : Int) := Int.natCast_nonneg _
  have hv1 : (v : Int) < (I.length : Int) := by omega
  have hl60 := hl.2
  clear hv hl h hF
  by_cases hk0 : k < 0
  · have e : decide (0 ≤ k ∧ k < (l.length : Int)) = false := by simp; omega
    rw [e]
    have hd : decide (0 ≤ k) = false := by simp; omega
    clear e
    go_enter Tryd.func31, Tryd.ntmps31
    go_wp2
    go_ret
    exact ⟨rfl, rfl⟩
  · have hk1 : 0 ≤ k := by omega
    clear hk0
    by_cases hk2 : k < (l.length : Int)
    · have e : decide (0 ≤ k ∧ k < (l.length : Int)) = true := by simp; omega
      rw [e]
      clear e
      go_enter Tryd.func31, Tryd.ntmps31
      go_wp2
      go_ret
      exact ⟨rfl, rfl⟩
    · have e : decide (0 ≤ k ∧ k < (l.length : Int)) = false := by simp; omega
      rw [e]
      have hd : decide (k < (l.length : Int)) = false := by simp; omega
      clear e hk2
      go_enter Tryd.func31, Tryd.ntmps31
      go_wp2
      go_ret
      exact ⟨rfl, rfl⟩
theorem rthere_any (h : RD w p I T fp) (hF : FitI I) (v k : Int) :
    Calls Tryd.prog 31 #[.pointer (some ⟨p, 0, none⟩), .int .i64 v, .int .i64 k] w fun e w' => e = .returned (.bool (inR I v k)) ∧ w = w' := by
  rcases range_or I v with hv | ⟨n, l, rfl, hv⟩
  · have e : inR I v k = false := by
      unfold inR
      rw [lv_none hv]
      simp
    rw [e]
    exact rthere_v h hF v k hv
  · unfold inR
    rw [lv_some hv]
    exact rthere_k h hF hv k

/-- The first places, up to k. -/
def placesTo (l : List Bool) (k : Nat) : List Int := ((List.range' 0 k).filter fun i => l.getD i false).map fun (b : Nat) => (b : Int)
theorem placesTo_succ (l : List Bool) (k : Nat) : placesTo l (k + 1) = if l.getD k false = true then placesTo l k ++ [(k : Int)] else placesTo l k := by
  unfold placesTo
  rw [List.range'_1_concat, List.filter_append]
  by_cases h : l.getD k false = true
  · rw [if_pos h, List.filter_cons]
    simp only [Nat.zero_add]
    rw [if_pos h]
    simp
  · rw [if_neg h, List.filter_cons]
    simp only [Nat.zero_add]
    rw [if_neg h]
    simp
theorem placesTo_len (l : List Bool) (k : Nat) : (placesTo l k).length ≤ k := by
  unfold placesTo
  rw [List.length_map]
  have := List.length_filter_le (fun i => l.getD i false) (List.range' 0 k)
  simpa using this
theorem placesTo_all (l : List Bool) : placesTo l l.length = pints l := rfl

set_option maxHeartbeats 2000000 in
theorem rleft_in (h : RD w p I T fp) (hF : FitI I) {v : Nat} {l : List Bool} (hv : I[v]? = some l) :
    Calls Tryd.prog 20 #[.pointer (some ⟨p, 0, none⟩), .int .i64 (v : Int)] w fun e w' => ∃ V, (e = .returned V ∧ w'.ownsRow w.heap.size 3 1 V (pints l).length ((pints l).map (Value.int .i64))) ∧ Only [] w w' := by
  obtain ⟨i0, hi, hz0, hz1, hz2⟩ := info_parts info_int
  have hl := hF.l l (List.mem_of_getElem? hv)
  have hn := hF.n
  obtain ⟨gV, cV, g, c, h0, h1, h2, h3, h4, h5, hcell, b1, b2, b3⟩ := h.look hv hl.1
  have hvl : v < I.length := (List.getElem?_eq_some_iff.1 hv).1
  have hv0 : (0 : Int) ≤ (v : Int) := Int.natCast_nonneg _
  have hv1 : (v : Int) < (I.length : Int) := by omega
  have hl60 := hl.2
  have HC := Lib.hid hcell
  have HS := Lib.hid (placesTo_succ l)
  have HLN := Lib.hid (placesTo_len l)
  have HALL := Lib.hid (placesTo_all l)
  obtain ⟨n, hnl⟩ : ∃ n, n = l.length := ⟨_, rfl⟩
  rw [← hnl] at h3 h4 hl60 HC HALL
  have HNL := Lib.hid hnl
  clear hv hl h hF hcell hnl
  go_enter Tryd.func20, Tryd.ntmps20
  go_wp2
  go_loopw [5, 6] (fun V i wr => ∃ k : Nat, i = .int .i64 k ∧ k ≤ n ∧ Hid (wr.ownsRow w.heap.size 3 1 V (placesTo l k).length ((placesTo l k).map (Value.int .i64))) ∧ Hid (Only [] w wr)) (fun _ i _ => n - (intOf i).toNat)
  case atStart =>
    refine ⟨0, rfl, by omega, Lib.hid ?_, Lib.hid ((Only.refl [] _).alloc _)⟩
    exact World.ownsRow_lit w #[] 0 (Nat.le_refl _) (by unfold maxLen; omega) rfl
  case round =>
    obtain ⟨k, rfl, hk, HOWN, HO⟩ := hrel
    have c0 := (HO.out.cell (p := ⟨p, 0, none⟩) b1 (by simp)).trans h0
    have c3 := (HO.out.cell (p := ⟨gV, v, none⟩) b2 (by simp)).trans h3
    by_cases hlt : k < n
    · have hk1 : (k : Int) < (n : Int) := by omega
      have hk0 : (0 : Int) ≤ (k : Int) := Int.natCast_nonneg _
      have cx := (HO.out.cell (p := ⟨g, k, none⟩) b3 (by simp)).trans (HC.out k hlt)
      have hst := HS.out k
      have hol := HLN.out k
      have hsz := HO.out.size
      obtain ⟨x, hx⟩ : ∃ x, x = l.getD k false := ⟨_, rfl⟩
      rw [← hx] at cx hst
      cases x with
      | true =>
        have e1 : placesTo l (k + 1) = placesTo l k ++ [(k : Int)] := by rw [hst]; simp
        have HE := Lib.hid e1
        clear hst hx e1
        go_wp2_with (at_builtin; refine wpList_append_row _ rfl (.tmp 43) (.tmp 45) _ rfl w.heap.size 3 i0 _ 1 8 Tryd.underlying22 hi hz0 hz1 hz2 rfl (by omega) _ _ _ rfl (own_only HOWN.out ((Only.refl [] _).alloc _) (by simp)) (wr.heap.size + 1) (some ⟨wr.heap.size, 0, none⟩) 1 1 [.int .i64 (k : Int)] rfl rfl (row_lit wr 3 #[.int .i64 (k : Int)]) (by simp [Value.oneCell']) (by unfold maxLen; omega) (by omega) (by simp; omega) ?_; intro v2 w2 hown2 hgrow hat)
        have REL : w2.ownsRow w.heap.size 3 1 v2 (placesTo l (k + 1)).length ((placesTo l (k + 1)).map (Value.int .i64)) ∧ Only [] w w2 := by
          refine ⟨?_, (HO.out.alloc _).step (only_grown hgrow) (own_new HOWN.out)⟩
          rw [HE.out]
          simpa using hown2
        have HREL := Lib.hid REL
        clear REL hown2
        go_wp2
        go_roundw
        case rel => first | exact ⟨k + 1, by go_num, by omega, Lib.hid HREL.out.1, Lib.hid HREL.out.2⟩ | exact ⟨_, ⟨k + 1, by go_num, by omega, Lib.hid HREL.out.1, Lib.hid HREL.out.2⟩, rfl⟩
        case measure => simp [intOf]; omega
      | false =>
        have e1 : placesTo l (k + 1) = placesTo l k := by rw [hst]; simp
        have HE := Lib.hid e1
        clear hst hx e1
        go_wp2
        go_roundw
        case rel => exact ⟨k + 1, by go_num, by omega, Lib.hid (by rw [HE.out]; exact HOWN.out), HO⟩
        case measure => simp [intOf]; omega
    · have hkn : k = n := by omega
      subst hkn
      have hd : decide ((k : Int) < (k : Int)) = false := by simp
      go_wp2
      go_ret
      refine ⟨_, ⟨rfl, ?_⟩, HO.out⟩
      rw [← HALL.out]
      exact HOWN.out
theorem rleft_out (h : RD w p I T fp) (hF : FitI I) (v : Int) (hv : v < 0 ∨ (I.length : Int) ≤ v) :
    Calls Tryd.prog 20 #[.pointer (some ⟨p, 0, none⟩), .int .i64 v] w fun e w' => ∃ V, (e = .returned V ∧ w'.ownsRow w.heap.size 3 1 V 0 []) ∧ Only [] w w' := by
  obtain ⟨A, c, h0, h1, h2⟩ := h.head
  have hn := hF.n
  have HOWN := Lib.hid (World.ownsRow_lit (base := w.heap.size) (e := 3) (size := 1) w #[] 0 (Nat.le_refl _) (by unfold maxLen; omega) rfl)
  have HO := Lib.hid ((Only.refl [] w).alloc (.cells #[] 3))
  have HP : p < w.heap.size := World.block_lt_of_cell? w _ h0
  clear h hF
  by_cases hv0 : v < 0
  · have hd2 : decide (0 ≤ v) = false := by simp; omega
    clear hv
    go_enter Tryd.func20, Tryd.ntmps20
    go_wp2
    go_loopw [5] (fun V wr => V = .slice (some ⟨w.heap.size, 0, none⟩) 0 0 ∧ wr = w.alloc (.cells #[] 3)) (fun _ _ => 0)
    case atStart => exact ⟨rfl, rfl⟩
    case round =>
      obtain ⟨rfl, rfl⟩ := hrel
      go_wp2
      go_ret
      exact ⟨_, ⟨rfl, by simpa using HOWN.out⟩, HO.out⟩
  · have hv1 : 0 ≤ v := by omega
    have hd : decide (v < (I.length : Int)) = false := by simp; omega
    clear hv hv0
    go_enter Tryd.func20, Tryd.ntmps20
    go_wp2
    go_loopw [5] (fun V wr => V = .slice (some ⟨w.heap.size, 0, none⟩) 0 0 ∧ wr = w.alloc (.cells #[] 3)) (fun _ _ => 0)
    case atStart => exact ⟨rfl, rfl⟩
    case round =>
      obtain ⟨rfl, rfl⟩ := hrel
      have c0 : (w.alloc (.cells #[] 3)).cell? ⟨p, 0, none⟩ = some (.slice A I.length c) := (HO.out.cell (p := ⟨p, 0, none⟩) HP (by simp)).trans h0
      go_wp2
      go_ret
      exact ⟨_, ⟨rfl, by simpa using HOWN.out⟩, HO.out⟩

theorem rleft_any (h : RD w p I T fp) (hF : FitI I) (v : Int) :
    Calls Tryd.prog 20 #[.pointer (some ⟨p, 0, none⟩), .int .i64 v] w fun e w' => ∃ V, (e = .returned V ∧ w'.ownsRow w.heap.size 3 1 V (pints (lv I v)).length ((pints (lv I v)).map (Value.int .i64))) ∧ Only [] w w' := by
  rcases range_or I v with hv | ⟨n, l, rfl, hv⟩
  · rw [lv_none hv]
    exact rleft_out h hF v hv
  · rw [lv_some hv]
    exact rleft_in h hF hv

theorem pints_one {l : List Bool} {k : Nat} : (pints l = [(k : Int)]) ↔ places l = [k] := by
  unfold pints
  constructor
  · intro h
    cases hp : places l with
    | nil => rw [hp] at h; cases h
    | cons x xs =>
      rw [hp] at h
      simp at h
      obtain ⟨h1, rfl⟩ := h
      have h2 : x = k := by omega
      rw [h2]
  · intro h
    rw [h]
    rfl

set_option maxHeartbeats 1000000 in
theorem rdrop_arg (h : RD w p I T fp) (hF : FitI I) (v k : Int) (hR : inR I v k = false) :
    Calls Tryd.prog 13 #[.pointer (some ⟨p, 0, none⟩), .int .i64 v, .int .i64 k] w fun e w' => e = .returned (.int .i64 2) ∧ w = w' := by
  have ht := rthere_any h hF v k
  rw [hR] at ht
  have HT := Lib.hid ht
  clear ht h hF hR
  go_enter Tryd.func13, Tryd.ntmps13
  go_wp2_with fail
  refine (HT.out).mono ?_
  rintro e w' ⟨rfl, rfl⟩
  go_wp2
  go_ret
  exact ⟨rfl, rfl⟩
theorem ronly_arg (h : RD w p I T fp) (hF : FitI I) (v k : Int) (hR : inR I v k = false) :
    Calls Tryd.prog 15 #[.pointer (some ⟨p, 0, none⟩), .int .i64 v, .int .i64 k] w fun e w' => e = .returned (.int .i64 2) ∧ w = w' := by
  have ht := rthere_any h hF v k
  rw [hR] at ht
  have HT := Lib.hid ht
  clear ht h hF hR
  go_enter Tryd.func15, Tryd.ntmps15
  go_wp2_with fail
  refine (HT.out).mono ?_
  rintro e w' ⟨rfl, rfl⟩
  go_wp2
  go_ret
  exact ⟨rfl, rfl⟩

set_option maxHeartbeats 1000000 in
/-- Drop, where the value is there: whether it is the only one left. -/
theorem rdrop_in (h : RD w p I T fp) (hF : FitI I) {v k : Nat} {l : List Bool} (hv : I[v]? = some l) (hk : k < l.length) :
    Calls Tryd.prog 13 #[.pointer (some ⟨p, 0, none⟩), .int .i64 (v : Int), .int .i64 (k : Int)] w fun e w' =>
      e = .returned (.int .i64 (if places l = [k] then 3 else 0)) ∧ RD w' p (if places l = [k] then I else I.set v (l.set k false)) T fp ∧ Only fp w w' := by
  have hl := hF.l l (List.mem_of_getElem? hv)
  have hn := hF.n
  have hvl : v < I.length := (List.getElem?_eq_some_iff.1 hv).1
  have hv0 : (0 : Int) ≤ (v : Int) := Int.natCast_nonneg _
  have hv1 : (v : Int) < (I.length : Int) := by omega
  have hk0 : (0 : Int) ≤ (k : Int) := Int.natCast_nonneg _
  have hk1 : (k : Int) < (l.length : Int) := by omega
  have ht := rthere_any h hF (v : Int) (k : Int)
  have hin : inR I (v : Int) (k : Int) = true := by
    unfold inR
    rw [lv_some hv]
    simp
    omega
  rw [hin] at ht
  have HT := Lib.hid ht
  have HL := Lib.hid (rleft_in h hF hv)
  have HAFT := Lib.hid (fun (w' : World) (hO : Only [] w w') => (h.keep hO).look hv hl.1)
  have HPUT := Lib.hid (fun (w' : World) (hO : Only [] w w') (gV cV g c : Nat) h0 hc => (h.keep hO).put hv hk false (gV := gV) (cV := cV) (g := g) (c := c) h0 hc)
  have HH := Lib.hid h
  have hpl : (pints l).length ≤ 60 := by
    have := places_length l
    rw [pints, List.length_map]
    omega
  have hcase : places l = [k] ∨ ((pints l).length ≠ 1 ∧ places l ≠ [k]) ∨ ∃ z : Int, pints l = [z] ∧ z ≠ (k : Int) ∧ places l ≠ [k] := by
    by_cases h1 : places l = [k]
    · exact .inl h1
    · by_cases h2 : (pints l).length = 1
      · obtain ⟨z, hz⟩ := List.length_eq_one_iff.1 h2
        exact .inr (.inr ⟨z, hz, fun e => h1 (pints_one.1 (by rw [hz, e])), h1⟩)
      · exact .inr (.inl ⟨h2, h1⟩)
  clear ht hin h hF
  rcases hcase with hp | ⟨hp2, hp⟩ | ⟨z, hz, hzk, hp⟩
  · have hpk : pints l = [(k : Int)] := pints_one.2 hp
    rw [if_pos hp, if_pos hp]
    rw [hpk] at HL
    clear hp hpk hv hpl
    go_enter Tryd.func13, Tryd.ntmps13
    go_wp2_with fail
    refine (HT.out).mono ?_
    rintro e w' ⟨rfl, rfl⟩
    go_wp2_with fail
    refine (HL.out).mono ?_
    rintro e w1 ⟨V, ⟨rfl, hown⟩, hO⟩
    obtain ⟨A, c, rfl, hc1, hc2, -, hrow⟩ := own_row hown
    obtain ⟨b, off, rfl, -, -, hcell⟩ := hrow.open_ (k := 0) (by simp)
    have hc : w1.cell? ⟨b, off, none⟩ = some (.int .i64 (k : Int)) := hcell 0 _ rfl
    have HO := Lib.hid hO
    clear hcell hrow hown hO
    go_wp2
    go_ret
    exact ⟨rfl, HH.out.keep HO.out, HO.out.wide (by simp)⟩
  · rw [if_neg hp, if_neg hp]
    obtain ⟨n1, hn1⟩ : ∃ n1, n1 = (pints l).length := ⟨_, rfl⟩
    rw [← hn1] at HL hpl hp2
    have hd : ((n1 : Int) == 1) = false := by simp; omega
    generalize pints l = zs at *
    clear hp hn1 hv hp2
    go_enter Tryd.func13, Tryd.ntmps13
    go_wp2_with fail
    refine (HT.out).mono ?_
    rintro e w' ⟨rfl, rfl⟩
    go_wp2_with fail
    refine (HL.out).mono ?_
    rintro e w1 ⟨V, ⟨rfl, hown⟩, hO⟩
    obtain ⟨A, c, rfl, hc1, hc2, -, hrow⟩ := own_row hown
    obtain ⟨gV, cV, g, c', h0, h1, h2, h3, h4, h5, hcell, b1, b2, b3⟩ := HAFT.out w1 hO
    obtain ⟨f1, hRD, hOp⟩ := HPUT.out w1 hO gV cV g c' h0 h3
    have cx := hcell k hk
    have HRD := Lib.hid hRD
    have HOP := Lib.hid ((hO.wide (T := fp) (by simp)).trans hOp)
    clear hcell hrow hown hO hRD hOp
    go_wp2
    go_ret
    exact ⟨rfl, HRD.out, HOP.out⟩
  · rw [if_neg hp, if_neg hp]
    rw [hz] at HL
    have hd : (z == (k : Int)) = false := by simpa using hzk
    clear hp hz hv hzk
    go_enter Tryd.func13, Tryd.ntmps13
    go_wp2_with fail
    refine (HT.out).mono ?_
    rintro e w' ⟨rfl, rfl⟩
    go_wp2_with fail
    refine (HL.out).mono ?_
    rintro e w1 ⟨V, ⟨rfl, hown⟩, hO⟩
    obtain ⟨A, c, rfl, hc1, hc2, -, hrow⟩ := own_row hown
    obtain ⟨b, off, rfl, -, -, hcz⟩ := hrow.open_ (k := 0) (by simp)
    have hc : w1.cell? ⟨b, off, none⟩ = some (.int .i64 z) := hcz 0 _ rfl
    obtain ⟨gV, cV, g, c', h0, h1, h2, h3, h4, h5, hcell, b1, b2, b3⟩ := HAFT.out w1 hO
    obtain ⟨f1, hRD, hOp⟩ := HPUT.out w1 hO gV cV g c' h0 h3
    have cx := hcell k hk
    have HRD := Lib.hid hRD
    have HOP := Lib.hid ((hO.wide (T := fp) (by simp)).trans hOp)
    clear hcell hrow hown hO hRD hOp hcz
    go_wp2
    go_ret
    exact ⟨rfl, HRD.out, HOP.out⟩

theorem rdrop_any (h : RD w p I T fp) (hF : FitI I) (v k : Int) :
    Calls Tryd.prog 13 #[.pointer (some ⟨p, 0, none⟩), .int .i64 v, .int .i64 k] w fun e w' => e = .returned (.int .i64 (drE I v k)) ∧ RD w' p (drI I v k) T fp ∧ Only fp w w' := by
  cases hR : inR I v k with
  | false =>
    refine (rdrop_arg h hF v k hR).mono ?_
    rintro e w' ⟨rfl, rfl⟩
    unfold drE drI
    rw [if_pos hR, if_neg (by simp [hR])]
    exact ⟨rfl, h, Only.refl _ _⟩
  | true =>
    obtain ⟨n, j, l, rfl, rfl, hv, hj, hl⟩ := inR_some hR
    refine (rdrop_in h hF hv hj).mono ?_
    unfold drE drI
    rw [hl, hR, Int.toNat_natCast, Int.toNat_natCast]
    rintro e w' ⟨rfl, h1, h2⟩
    by_cases hp : places l = [j]
    · rw [if_pos hp] at h1
      rw [if_pos hp, if_neg (by simp), if_neg (by simp [hp])]
      exact ⟨rfl, h1, h2⟩
    · rw [if_neg hp] at h1
      rw [if_neg hp, if_neg (by simp), if_pos ⟨rfl, hp⟩]
      exact ⟨rfl, h1, h2⟩
end

end Go.Proofs.YtbidciakljpkiaaDoor
