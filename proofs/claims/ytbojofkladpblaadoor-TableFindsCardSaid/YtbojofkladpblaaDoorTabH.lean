/- The law's works; TableHas: the walk. -/
import Derived.Test.YtbojofkladpblaaDoorTab
import Derived.Test.YtbojofkladpblaaDoorSameT
import Derived.Test.YtbojofkladpblaaDoorRNameB
set_option linter.unusedVariables false
set_option linter.unusedSimpArgs false
namespace Go.Proofs.YtbojofkladpblaaDoor
open Go.RowKit
open Go.Lib hiding intOf
attribute [local go_sem ↓] Go.wp_at_zero Go.wp_at_succ

theorem row_none {w : World} {B : Nat} {A : Option Addr} {xs : List ByteArray} {n : Nat} (h : Row w B A (strs xs)) (hn : xs.length = n) : A = none → n = 0 := by
  rintro rfl
  rcases h with h | ⟨_, _, h, _⟩
  · rw [← hn, show xs = [] by simpa [strs] using h]
    rfl
  · cases h

def exA : ByteArray := ⟨#[97]⟩
def exB : ByteArray := ⟨#[98]⟩
theorem ex9_pos : posB [exA, exB] exB = 1 := by kernel_rfl
theorem ex9_sort : sortB [exB, exA, exB] = [exA, exB] := by kernel_rfl
theorem ex9_find (A : Option Addr) (c B : Nat) (w : World) (hA : Row w B A (strs [exA, exB])) (hT : UTabs w) :
    Calls Tryd.prog 15 #[.slice A 2 c, .string ⟨#[98]⟩] w fun e w' => e = .returned (.tuple #[.int .i64 1, .bool true]) ∧ Only [] w w' := by
  have h := find_any A 2 c B [exA, exB] exB w rfl (by omega) (by intro z hz; simp at hz; rcases hz with rfl | rfl <;> decide) hA hT
  rw [ex9_pos] at h
  exact h

set_option maxHeartbeats 2000000 in
theorem works09_any (w : World) (hT : UTabs w) :
    Calls Tryd.prog 14 #[] w fun e w' => e = .returned (.bool true) ∧ Only [] w w' := by
  have HF := Lib.hid (fun A c B w' hA (h : Only [] w w') => ex9_find A c B w' hA (hT.only h))
  have HM := Lib.hid (fun A c B w' hA (h : Only [] w w') => make_any A 3 c B [exB, exA, exB] w' rfl (by omega) (by intro z hz; simp at hz; rcases hz with rfl | rfl | rfl <;> decide) hA (hT.only h))
  rw [ex9_sort] at HM
  have HS := Lib.hid (fun A A' c d w' B B' hA hA' => sameTexts_same A A' 2 c d [exA, exB] w' B B' hA hA' rfl (by omega))
  clear hT
  go_enter Tryd.func14, Tryd.ntmps14
  go_wp2_with fail
  refine (HF.out _ 2 _ _ (row_lit w 9 #[.string exA, .string exB]) ((Only.refl [] w).alloc _)).mono ?_
  rintro e w1 ⟨rfl, hO1⟩
  have HO1 := Lib.hid (((Only.refl [] w).alloc (.cells #[.string exA, .string exB] 9)).trans hO1)
  clear hO1
  go_wp2_with fail
  refine (HM.out _ 3 _ _ (row_lit w1 9 #[.string exB, .string exA, .string exB]) (HO1.out.alloc _)).mono ?_
  rintro e w2 ⟨hO2, A2, m2, c2, rfl, hm2, hr2⟩
  obtain rfl : m2 = 2 := hm2.symm
  have HO2 := Lib.hid ((HO1.out.alloc (.cells #[.string exB, .string exA, .string exB] 9)).trans hO2)
  have HR2 := Lib.hid (hr2.only ((Only.refl [] w2).alloc (.cells #[.string exA, .string exB] 9)) (by simp))
  clear hO2 hr2 hm2
  go_wp2_with fail
  refine (HS.out A2 _ c2 2 _ _ _ HR2.out (row_lit w2 9 #[.string exA, .string exB])).mono ?_
  rintro e w3 ⟨rfl, q, rfl⟩
  have HO3 := Lib.hid ((HO2.out.alloc (.cells #[.string exA, .string exB] 9)).drewN q)
  go_wp2
  go_ret
  exact ⟨rfl, HO3.out⟩

theorem pos_sort (l : List ByteArray) (s : ByteArray) : (isName s = true → 0 ≤ posB (sortB (l ++ [s])) s ∧ (sortB (l ++ [s]))[(posB (sortB (l ++ [s])) s).toNat]? = some s) ∧ (isName s = false → posB (sortB (l ++ [s])) s < 0) := by
  have hp : posB (sortB (l ++ [s])) s = idxOfS (sortB (l ++ [s])) s := by
    unfold posB
    rw [if_pos (tab_sort _)]
  rw [hp]
  have hm := (sortB_names (l ++ [s])).2 s
  constructor
  · intro h
    have h0 := (idxOfS_nonneg_iff _ s).2 (hm.2 ⟨by simp, h⟩)
    exact ⟨h0, idx_at h0⟩
  · intro h
    have : ¬ 0 ≤ idxOfS (sortB (l ++ [s])) s := fun h0 => by
      have := (hm.1 ((idxOfS_nonneg_iff _ s).1 h0)).2
      rw [h] at this
      cases this
    omega
theorem sortB_size {l : List ByteArray} {n : Nat} (h : ∀ z ∈ l, z.size ≤ n) : ∀ z ∈ sortB l, z.size ≤ n := fun z hz => h z (((sortB_names l).2 z).1 hz).1
theorem sortB_length (l : List ByteArray) : (sortB l).length ≤ l.length := by
  have : ∀ (l out : List ByteArray), (l.foldl insB out).length ≤ out.length + l.length := by
    intro l
    induction l with
    | nil => intro out; exact Nat.le_refl _
    | cons x l ih =>
      intro out
      rw [List.foldl_cons]
      have h1 := ih (insB out x)
      have h2 : (insB out x).length ≤ out.length + 1 := by
        unfold insB
        split
        · split
          · omega
          · rw [List.length_append, List.length_cons, List.length_take, List.length_drop]
            omega
        · omega
      simp only [List.length_cons]
      omega
  have := this l []
  simpa [sortB] using this

set_option maxRecDepth 10000 in
set_option maxHeartbeats 4000000 in
theorem tableHas_walk (A : Option Addr) (n c : Nat) (zs : List ByteArray) (s0 : ByteArray) (w : World) (hn : zs.length = n) (hc : n ≤ c) (hcm : c ≤ maxLen) (hz : ∀ z ∈ zs, z.size ≤ maxLen) (hA : Row w w.heap.size A (strs zs)) (hs : s0.size ≤ 9223372036854775807) (hT : UTabs w) :
    Calls Tryd.prog 5 #[.slice A n c, .string s0] w fun e w' => e = .returned (.bool true) ∧ Only [] w w' := by
  unfold maxLen at hcm hz
  have HW := Lib.hid (works09_any w hT)
  have HF := Lib.hid (fun w' (h : Only [] w w') => few9_any A n c _ zs w' hn (by omega) (fun z h => by have := hz z h; omega) (hA.only h (by simp)))
  have hfl := few9_len zs
  have hfs := few9_size zs
  generalize few9 zs = fs at *
  obtain ⟨q, hq⟩ : ∃ q, q = min s0.size 100 := ⟨_, rfl⟩
  have hmin : min (s0.size : Int) 100 = (q : Int) := by omega
  have hq1 : (0 : Int) ≤ (q : Int) := Int.natCast_nonneg _
  have hq2 : (q : Int) ≤ (s0.size : Int) := by omega
  have hss : (s0.extract 0 q).size ≤ 100 := by rw [ByteArray.size_extract]; omega
  obtain ⟨s, hs'⟩ : ∃ s, s = s0.extract 0 q := ⟨_, rfl⟩
  have HSE := Lib.hid hs'
  rw [← hs'] at hss
  have HP := Lib.hid (fun A c B w' hA (h : Only [] w w') => put_any A fs.length c B fs s w' rfl (by omega) (fun z h => by have := hfs z h; omega) (by omega) hA (fun h => ⟨row_none hA rfl h, rfl⟩) (hT.only h))
  have hTs : ∀ z ∈ sortB (fs ++ [s]), z.size ≤ 100 := sortB_size (fun z hz => by
    rcases List.mem_append.1 hz with h | h
    · exact hfs z h
    · rw [List.mem_singleton] at h; subst h; exact hss)
  have hTl := sortB_length (fs ++ [s])
  rw [List.length_append, List.length_singleton] at hTl
  obtain ⟨hp1, hp2⟩ := pos_sort fs s
  have htab := tab_sort (fs ++ [s])
  have HRI := Lib.hid (fun w' => ris_any s w' (by omega))
  generalize sortB (fs ++ [s]) = T at *
  have HFD := Lib.hid (fun A c B w' hA (h : Only [] w w') => find_any A T.length c B T s w' rfl (by omega) (fun z h => by have := hTs z h; omega) hA (hT.only h))
  have HIT := Lib.hid (fun A c B w' hA (h : Only [] w w') => istab_any A T.length c B T w' rfl (by omega) (fun z h => by have := hTs z h; omega) hA (hT.only h))
  rw [htab] at HIT
  have hm1 : T.length ≤ 31 := by omega
  obtain ⟨m, hm⟩ : ∃ m, m = T.length := ⟨_, rfl⟩
  rw [← hm] at HFD HIT HP hm1
  have HM := Lib.hid hm
  obtain ⟨is, his⟩ : ∃ is, is = isName s := ⟨_, rfl⟩
  rw [← his] at HRI hp1 hp2
  generalize posB T s = p at *
  have HP1 := Lib.hid hp1
  have HP2 := Lib.hid hp2
  clear hz hA hs hT hfl hfs hq hs' hTs hTl hp1 hp2 htab his hm hn hc hcm hss
  go_enter Tryd.func5, Tryd.ntmps5
  go_wp2_with fail
  refine (HW.out).mono ?_
  rintro e w1 ⟨rfl, hO1⟩
  have HO1 := Lib.hid hO1
  clear hO1
  have HF1 := Lib.hid (HF.out w1.drew HO1.out.drew)
  go_wp2_with fail
  refine wp_region_noPanic ?_
  refine wp_region_timed (F := []) (by kernel_rfl) (timed_nil) ?_
  refine timed_pure (i := 0) (v := ?_) rfl (by kernel_rfl) (by kernel_rfl) (by kernel_rfl) (fun _ _ _ h => h) (by kernel_rfl) (by kernel_rfl) ?_ ?_
  rotate_left
  · (intro w; go_simp; try with_reducible rfl)
  try simp only [Act.put, List.getElem_toArray, List.getElem_cons_zero, List.getElem_cons_succ, List.setIfInBounds_toArray, List.set_cons_zero, List.set_cons_succ]
  refine timed_pure (i := 2) (v := ?_) rfl (by kernel_rfl) (by kernel_rfl) (by kernel_rfl) (fun _ _ _ h => h) (by kernel_rfl) (by kernel_rfl) ?_ ?_
  rotate_left
  · (intro w; go_simp; try with_reducible rfl)
  try simp only [Act.put, List.getElem_toArray, List.getElem_cons_zero, List.getElem_cons_succ, List.setIfInBounds_toArray, List.set_cons_zero, List.set_cons_succ]
  refine timed_pure (i := 3) (v := ?_) rfl (by kernel_rfl) (by kernel_rfl) (by kernel_rfl) (fun _ _ _ h => h) (by kernel_rfl) (by kernel_rfl) ?_ ?_
  rotate_left
  · (intro w; go_simp; try with_reducible rfl)
  try simp only [Act.put, List.getElem_toArray, List.getElem_cons_zero, List.getElem_cons_succ, List.setIfInBounds_toArray, List.set_cons_zero, List.set_cons_succ]
  refine timed_pure (i := 4) (v := ?_) rfl (by kernel_rfl) (by kernel_rfl) (by kernel_rfl) (fun _ _ _ h => h) (by kernel_rfl) (by kernel_rfl) ?_ ?_
  rotate_left
  · (intro w; go_simp; try with_reducible rfl)
  try simp only [Act.put, List.getElem_toArray, List.getElem_cons_zero, List.getElem_cons_succ, List.setIfInBounds_toArray, List.set_cons_zero, List.set_cons_succ]
  refine timed_pure (i := 5) (v := ?_) rfl (by kernel_rfl) (by kernel_rfl) (by kernel_rfl) (fun _ _ _ h => h) (by kernel_rfl) (by kernel_rfl) ?_ ?_
  rotate_left
  · (intro w; go_simp; try with_reducible rfl)
  try simp only [Act.put, List.getElem_toArray, List.getElem_cons_zero, List.getElem_cons_succ, List.setIfInBounds_toArray, List.set_cons_zero, List.set_cons_succ]
  refine timed_pure (i := 6) (v := ?_) rfl (by kernel_rfl) (by kernel_rfl) (by kernel_rfl) (fun _ _ _ h => h) (by kernel_rfl) (by kernel_rfl) ?_ ?_
  rotate_left
  · (intro w; go_simp; try with_reducible rfl)
  try simp only [Act.put, List.getElem_toArray, List.getElem_cons_zero, List.getElem_cons_succ, List.setIfInBounds_toArray, List.set_cons_zero, List.set_cons_succ]
  refine timed_step (i := 1) (by kernel_rfl) rfl (fun K hK => ?_)
  go_simp
  refine (HF1.out).mono ?_
  rintro e w2 ⟨hO2, V2, rfl, hown2⟩
  refine hK.out _ _ (timed_nil) ?_
  clear hK K
  try simp only [Act.put, List.getElem_toArray, List.getElem_cons_zero, List.getElem_cons_succ, List.setIfInBounds_toArray, List.set_cons_zero, List.set_cons_succ]
  refine timed_pure (i := 7) (v := ?_) rfl (by kernel_rfl) (by kernel_rfl) (by kernel_rfl) (fun _ _ _ h => h) (by kernel_rfl) (by kernel_rfl) ?_ ?_
  rotate_left
  · (intro w; go_simp; try with_reducible rfl)
  try simp only [Act.put, List.getElem_toArray, List.getElem_cons_zero, List.getElem_cons_succ, List.setIfInBounds_toArray, List.set_cons_zero, List.set_cons_succ]
  refine timed_pure (i := 8) (v := ?_) rfl (by kernel_rfl) (by kernel_rfl) (by kernel_rfl) (fun _ _ _ h => h) (by kernel_rfl) (by kernel_rfl) ?_ ?_
  rotate_left
  · (intro w; go_simp; try with_reducible rfl)
  try simp only [Act.put, List.getElem_toArray, List.getElem_cons_zero, List.getElem_cons_succ, List.setIfInBounds_toArray, List.set_cons_zero, List.set_cons_succ]
  refine timed_done (by kernel_rfl) ?_ _
  refine NoPanic.normal ?_
  have HO2 := Lib.hid (HO1.out.drew.trans hO2)
  obtain ⟨A2, c2, rfl, -, -, -, hrow2⟩ := own_row hown2
  have HR2 := Lib.hid hrow2
  rw [← HSE.out]
  clear hO2 hown2 hrow2
  go_wp2_with fail
  refine (HP.out A2 c2 _ _ HR2.out HO2.out).mono ?_
  rintro e w3 ⟨hO3, A3, m3, c3, rfl, hm3, hr3⟩
  subst hm3
  have HO3 := Lib.hid (HO2.out.trans hO3)
  have HR3 := Lib.hid hr3
  clear hO3 hr3
  go_wp2_with fail
  refine (HFD.out A3 c3 _ _ HR3.out HO3.out).mono ?_
  rintro e w4 ⟨rfl, hO4⟩
  have HO4 := Lib.hid (HO3.out.trans hO4)
  have HR4 := Lib.hid (HR3.out.only hO4 (by simp))
  clear hO4
  go_wp2_with fail
  refine (HIT.out A3 c3 _ _ HR4.out HO4.out).mono ?_
  rintro e w5 ⟨rfl, hO5⟩
  have HO5 := Lib.hid (HO4.out.trans hO5)
  have HR5 := Lib.hid (HR4.out.only hO5 (by simp))
  clear hO5
  go_wp2_with fail
  refine (HRI.out _).mono ?_
  rintro e w6 ⟨rfl, hO6⟩
  have HO6 := Lib.hid (HO5.out.trans hO6)
  have HR6 := Lib.hid (HR5.out.only hO6 (by simp))
  clear hO6
  cases is with
  | false =>
    have hp := HP2.out (by first | rfl | trivial)
    have hd : decide (0 ≤ p) = false := decide_eq_false (by omega)
    go_wp2
    go_ret
    exact ⟨by first | rfl | simp [hd], HO6.out⟩
  | true =>
    obtain ⟨hp0, hpt⟩ := HP1.out (by first | rfl | trivial)
    obtain ⟨k, rfl⟩ : ∃ k : Nat, p = k := ⟨p.toNat, by omega⟩
    rw [Int.toNat_natCast] at hpt
    have hkl : k < m := by rw [HM.out]; exact (List.getElem?_eq_some_iff.1 hpt).1
    have hd : decide ((0 : Int) ≤ (k : Int)) = true := decide_eq_true (by omega)
    have hmx : max (k : Int) 0 = (k : Int) := by omega
    have hk1 : (k : Int) < (m : Int) := by omega
    have hk0 : (0 : Int) ≤ (k : Int) := Int.natCast_nonneg _
    obtain ⟨b, off, hbo, hbB, hbw, hcell⟩ := HR6.out.open_ (k := k) (by rw [strs, List.length_map, ← HM.out]; exact hkl)
    cases hbo
    have hck : w6.cell? ⟨b, off + k, none⟩ = some (.string s) := hcell k _ (by rw [strs, List.getElem?_map, hpt]; rfl)
    have hxx : (s.toList == s.toList) = true := by simp
    clear hcell hpt
    go_wp2
    go_ret
    exact ⟨by first | rfl | simp [hd, hxx], HO6.out⟩

end Go.Proofs.YtbojofkladpblaaDoor
