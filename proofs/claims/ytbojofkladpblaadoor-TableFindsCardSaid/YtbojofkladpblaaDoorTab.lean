/- The law's few; the package table: Is, find, Find, Make, Put. -/
import Derived.Test.YtbojofkladpblaaDoorSortedW
import Derived.Test.YtbojofkladpblaaDoorTabM
import Derived.Test.YtbojofkladpblaaDoorTimed
import Derived.Test.YtbojofkladpblaaDoorShelfI
import Derived.Test.YtbojofkladpblaaDoorShelfE
set_option linter.unusedVariables false
set_option linter.unusedSimpArgs false
namespace Go.Proofs.YtbojofkladpblaaDoor
open Go.RowKit
open Go.Lib hiding intOf
attribute [local go_sem ↓] Go.wp_at_zero Go.wp_at_succ

def short9 (s : ByteArray) : ByteArray := s.extract 0 (min s.size 100)
theorem short9_size (s : ByteArray) : (short9 s).size ≤ 100 := by
  unfold short9
  rw [ByteArray.size_extract]
  omega
theorem short9_same {s : ByteArray} (h : s.size ≤ 100) : short9 s = s := by
  unfold short9
  rw [Nat.min_eq_left h]
  exact by_inj (by rw [by_extract, List.drop_zero, List.take_of_length_le (by rw [by_length]; exact Nat.le_refl _)])
def few9 (zs : List ByteArray) : List ByteArray := (zs.take 30).map short9
theorem few9_len (zs : List ByteArray) : (few9 zs).length ≤ 30 := by
  unfold few9
  rw [List.length_map, List.length_take]
  omega
theorem few9_size (zs : List ByteArray) : ∀ z ∈ few9 zs, z.size ≤ 100 := by
  intro z hz
  obtain ⟨y, -, rfl⟩ := List.mem_map.1 hz
  exact short9_size y
theorem few9_few9 (zs : List ByteArray) : few9 (few9 zs) = few9 zs := by
  have h1 := few9_len zs
  have h2 := few9_size zs
  generalize few9 zs = xs at *
  unfold few9
  rw [List.take_of_length_le h1]
  conv => rhs; rw [← List.map_id xs]
  exact List.map_congr_left fun z hz => short9_same (h2 z hz)

set_option maxRecDepth 10000 in
set_option maxHeartbeats 4000000 in
theorem few9_any (A : Option Addr) (n c B : Nat) (zs : List ByteArray) (w : World) (hn : zs.length = n) (hnm : n ≤ 9223372036854775807) (hz : ∀ z ∈ zs, z.size ≤ 9223372036854775807) (hA : Row w B A (strs zs)) :
    Calls Tryd.prog 6 #[.slice A n c] w fun e w' => Only [] w w' ∧ ∃ V, e = .returned V ∧ w'.ownsRow w.heap.size 9 1 V (few9 zs).length (strs (few9 zs)) := by
  obtain ⟨i0, hi, hz0, hz1, hz2⟩ := info_parts tinfo_string
  have HN := Lib.hid hn
  have HZ := Lib.hid hz
  have HROW := Lib.hid hA
  clear hn hz hA
  go_enter Tryd.func6, Tryd.ntmps6
  go_wp2_with fail
  go_loopw [3, 4] (fun V iv wr => ∃ (k : Nat), iv = .int .i64 k ∧ k ≤ n ∧ k ≤ 30 ∧ Hid (wr.ownsRow w.heap.size 9 1 V k (strs ((zs.take k).map short9))) ∧ Hid (Only [] w wr)) (fun _ iv _ => n - (intOf iv).toNat)
  case atStart => exact ⟨0, rfl, by omega, by omega, Lib.hid (World.ownsRow_lit w #[] 0 (Nat.le_refl _) (by unfold maxLen; omega) rfl), Lib.hid ((Only.refl [] w).alloc _)⟩
  case round =>
    obtain ⟨k, rfl, hk, hk50, HOWN, HO⟩ := hrel
    have hsz2 := HO.out.size
    by_cases hlt : k < n ∧ k < 30
    · obtain ⟨hlt1, hlt2⟩ := hlt
      have h01 : (k : Int) < (n : Int) := by omega
      have h02 : (k : Int) < 30 := by omega
      have hk0 : (0 : Int) ≤ (k : Int) := Int.natCast_nonneg _
      have hwk : IntKind.i64.wrap ((k : Int) + 1) = (k : Int) + 1 := IntWalk.i64_in _ (by omega)
      obtain ⟨b, off, rfl, hbB, hbw, hcell⟩ := HROW.out.open_ (k := k) (by rw [strs, List.length_map, HN.out]; exact hlt1)
      obtain ⟨l, hl⟩ : ∃ l, zs[k]? = some l := ⟨_, List.getElem?_eq_getElem (by rw [HN.out]; exact hlt1)⟩
      have hck : wr.cell? ⟨b, off + k, none⟩ = some (.string l) := (HO.out.cell (p := ⟨b, off + k, none⟩) hbw (by simp)).trans (hcell k _ (by rw [strs, List.getElem?_map, hl]; rfl))
      have HCK := Lib.hid hck
      have hbr : b < wr.heap.size := by omega
      have HNB : Hid (b ∉ u3.ownBlock.toList) := Lib.hid (fun hm => by
        cases hv : u3.ownBlock with
        | none => rw [hv] at hm; cases hm
        | some g =>
          rw [hv] at hm
          have h1 : b = g := by simpa using hm
          have h2 := (HOWN.out.lt g hv).1
          omega)
      have HTK : Hid (strs ((zs.take (k + 1)).map short9) = strs ((zs.take k).map short9) ++ [.string (l.extract 0 (min l.size 100))]) := Lib.hid (by rw [List.take_add_one, hl]; simp [strs, short9])
      have hlen : (strs ((zs.take k).map short9)).length = k := by rw [strs, List.length_map, List.length_map, List.length_take, HN.out]; omega
      have hls := HZ.out l (List.mem_of_getElem? hl)
      obtain ⟨q, hq⟩ : ∃ q, q = min l.size 100 := ⟨_, rfl⟩
      rw [← hq] at HTK
      have hmin : min (l.size : Int) 100 = (q : Int) := by omega
      have hq1 : (0 : Int) ≤ (q : Int) := Int.natCast_nonneg _
      have hq2 : (q : Int) ≤ (l.size : Int) := by omega
      clear hcell hl hck hq
      go_wp2_with fail
      refine wp_region_noPanic ?_
      refine wp_region_timed (F := [⟨[], [], fun w' => Only u3.ownBlock.toList wr w'⟩]) (by kernel_rfl) (timed_holds ((Only.refl _ wr).drew) (timed_nil)) ?_
      refine timed_pure (i := 0) (v := ?_) rfl (by kernel_rfl) (by kernel_rfl) (by kernel_rfl) (fun _ _ _ h => h) (by kernel_rfl) (by kernel_rfl) ?_ ?_
      rotate_left
      · (intro w; go_simp; try with_reducible rfl)
      try simp only [Act.put, List.getElem_toArray, List.getElem_cons_zero, List.getElem_cons_succ, List.setIfInBounds_toArray, List.set_cons_zero, List.set_cons_succ]
      refine timed_pure (i := 1) (v := ?_) rfl (by kernel_rfl) (by kernel_rfl) (by kernel_rfl) (fun _ _ _ h => h) (by kernel_rfl) (by kernel_rfl) ?_ ?_
      rotate_left
      · (intro w; go_simp; try with_reducible rfl)
      try simp only [Act.put, List.getElem_toArray, List.getElem_cons_zero, List.getElem_cons_succ, List.setIfInBounds_toArray, List.set_cons_zero, List.set_cons_succ]
      refine timed_pure (i := 2) (v := ?_) rfl (by kernel_rfl) (by kernel_rfl) (by kernel_rfl) (fun _ _ _ h => h) (by kernel_rfl) (by kernel_rfl) ?_ ?_
      rotate_left
      · (intro w; go_simp; try with_reducible rfl)
      try simp only [Act.put, List.getElem_toArray, List.getElem_cons_zero, List.getElem_cons_succ, List.setIfInBounds_toArray, List.set_cons_zero, List.set_cons_succ]
      refine timed_pure (i := 3) (v := ?_) rfl (by kernel_rfl) (by kernel_rfl) (by kernel_rfl) (fun _ _ _ h => h) (by kernel_rfl) (by kernel_rfl) ?_ ?_
      rotate_left
      · (intro w; go_simp; try with_reducible rfl)
      try simp only [Act.put, List.getElem_toArray, List.getElem_cons_zero, List.getElem_cons_succ, List.setIfInBounds_toArray, List.set_cons_zero, List.set_cons_succ]
      refine timed_read (i := 4) (v := ?_) 0 rfl (by kernel_rfl) (by kernel_rfl) (by kernel_rfl) (fun _ _ _ h => h) (by kernel_rfl) (by kernel_rfl) rfl (by kernel_rfl) ?_ ?_
      rotate_left
      · (intro wq hSw; (try dsimp only at hSw); have hcl := (hSw.cell (p := ⟨b, off + k, none⟩) hbr HNB.out).trans HCK.out; clear hSw; go_simp; try with_reducible rfl)
      try simp only [Act.put, List.getElem_toArray, List.getElem_cons_zero, List.getElem_cons_succ, List.setIfInBounds_toArray, List.set_cons_zero, List.set_cons_succ]
      refine timed_pure (i := 5) (v := ?_) rfl (by kernel_rfl) (by kernel_rfl) (by kernel_rfl) (fun _ _ _ h => h) (by kernel_rfl) (by kernel_rfl) ?_ ?_
      rotate_left
      · (intro w; go_simp; try with_reducible rfl)
      try simp only [Act.put, List.getElem_toArray, List.getElem_cons_zero, List.getElem_cons_succ, List.setIfInBounds_toArray, List.set_cons_zero, List.set_cons_succ]
      refine timed_pure (i := 6) (v := ?_) rfl (by kernel_rfl) (by kernel_rfl) (by kernel_rfl) (fun _ _ _ h => h) (by kernel_rfl) (by kernel_rfl) ?_ ?_
      rotate_left
      · (intro w; go_simp; try with_reducible rfl)
      try simp only [Act.put, List.getElem_toArray, List.getElem_cons_zero, List.getElem_cons_succ, List.setIfInBounds_toArray, List.set_cons_zero, List.set_cons_succ]
      refine timed_pure (i := 7) (v := ?_) rfl (by kernel_rfl) (by kernel_rfl) (by kernel_rfl) (fun _ _ _ h => h) (by kernel_rfl) (by kernel_rfl) ?_ ?_
      rotate_left
      · (intro w; go_simp; try with_reducible rfl)
      try simp only [Act.put, List.getElem_toArray, List.getElem_cons_zero, List.getElem_cons_succ, List.setIfInBounds_toArray, List.set_cons_zero, List.set_cons_succ]
      refine timed_read (i := 8) (v := ?_) 0 rfl (by kernel_rfl) (by kernel_rfl) (by kernel_rfl) (fun _ _ _ h => h) (by kernel_rfl) (by kernel_rfl) rfl (by kernel_rfl) ?_ ?_
      rotate_left
      · (intro wq hSw; (try dsimp only at hSw); have hcl := (hSw.cell (p := ⟨b, off + k, none⟩) hbr HNB.out).trans HCK.out; clear hSw; go_simp; try with_reducible rfl)
      try simp only [Act.put, List.getElem_toArray, List.getElem_cons_zero, List.getElem_cons_succ, List.setIfInBounds_toArray, List.set_cons_zero, List.set_cons_succ]
      refine timed_pure (i := 9) (v := ?_) rfl (by kernel_rfl) (by kernel_rfl) (by kernel_rfl) (fun _ _ _ h => h) (by kernel_rfl) (by kernel_rfl) ?_ ?_
      rotate_left
      · (intro w; go_simp; try with_reducible rfl)
      try simp only [Act.put, List.getElem_toArray, List.getElem_cons_zero, List.getElem_cons_succ, List.setIfInBounds_toArray, List.set_cons_zero, List.set_cons_succ]
      refine timed_pure (i := 10) (v := ?_) rfl (by kernel_rfl) (by kernel_rfl) (by kernel_rfl) (fun _ _ _ h => h) (by kernel_rfl) (by kernel_rfl) ?_ ?_
      rotate_left
      · (intro w; go_simp; try with_reducible rfl)
      try simp only [Act.put, List.getElem_toArray, List.getElem_cons_zero, List.getElem_cons_succ, List.setIfInBounds_toArray, List.set_cons_zero, List.set_cons_succ]
      refine timed_pure (i := 11) (v := ?_) rfl (by kernel_rfl) (by kernel_rfl) (by kernel_rfl) (fun _ _ _ h => h) (by kernel_rfl) (by kernel_rfl) ?_ ?_
      rotate_left
      · (intro w; go_simp; try with_reducible rfl)
      try simp only [Act.put, List.getElem_toArray, List.getElem_cons_zero, List.getElem_cons_succ, List.setIfInBounds_toArray, List.set_cons_zero, List.set_cons_succ]
      refine timed_step (i := 12) (by kernel_rfl) rfl (fun K hK => ?_)
      go_simp
      have OA : Only [] wr ((wr.alloc (.cells #[.string (l.extract 0 q)] 9)).drew) := ((Only.refl [] wr).alloc _).drew
      refine hK.out _ _ (timed_holds (((Only.refl _ wr).alloc _).drew) (timed_nil)) ?_
      clear hK K
      try simp only [Act.put, List.getElem_toArray, List.getElem_cons_zero, List.getElem_cons_succ, List.setIfInBounds_toArray, List.set_cons_zero, List.set_cons_succ]
      refine timed_step (i := 13) (by kernel_rfl) rfl (fun K hK => ?_)
      refine step_append_row _ rfl (.tmp 16) (.tmp 28) 22 rfl w.heap.size 9 i0 _ 1 16 Tryd.underlying22 hi hz0 hz1 hz2 rfl (by omega) _ k (strs ((zs.take k).map short9)) (by rfl) (own_only HOWN.out OA (by simp)) (wr.heap.size + 1) (some ⟨wr.heap.size, 0, none⟩) 1 1 [.string (l.extract 0 q)] (by rfl) (by rfl) (by exact row_lit wr 9 #[.string (l.extract 0 q)]) (by intro u hu; simp at hu; subst hu; rfl) (by unfold maxLen; omega) (by omega) (by have := OA.size; omega) ?_
      intro v3 w4 hown3 hgrow hat
      have REL : w4.ownsRow w.heap.size 9 1 v3 (k + 1) (strs ((zs.take (k + 1)).map short9)) ∧ Only [] w w4 := by
        refine ⟨?_, (HO.out.trans OA).step (only_grown hgrow) (own_new (own_only HOWN.out OA (by simp)))⟩
        rw [HTK.out]
        exact hown3
      refine hK.out _ _ (timed_holds ((((Only.refl u3.ownBlock.toList wr).alloc (.cells #[.string (l.extract 0 q)] 9)).drew).step (only_grown hgrow) (fun j hj hl => hj)) (timed_nil)) ?_
      clear hK K
      try simp only [Act.put, List.getElem_toArray, List.getElem_cons_zero, List.getElem_cons_succ, List.setIfInBounds_toArray, List.set_cons_zero, List.set_cons_succ]
      refine timed_pure (i := 14) (v := ?_) rfl (by kernel_rfl) (by kernel_rfl) (by kernel_rfl) (fun _ _ _ h => h) (by kernel_rfl) (by kernel_rfl) ?_ ?_
      rotate_left
      · (intro w; go_simp; try with_reducible rfl)
      try simp only [Act.put, List.getElem_toArray, List.getElem_cons_zero, List.getElem_cons_succ, List.setIfInBounds_toArray, List.set_cons_zero, List.set_cons_succ]
      refine timed_done (by kernel_rfl) ?_ _
      refine NoPanic.normal ?_
      have HREL := Lib.hid REL
      clear REL
      go_wp2
      go_roundw
      case rel => exact ⟨k + 1, by go_num, by omega, by omega, Lib.hid HREL.out.1, Lib.hid HREL.out.2⟩
      case measure => simp [intOf]; omega
    · have hall : (zs.take k).map short9 = few9 zs := by
        unfold few9
        by_cases h : k < n
        · rw [show k = 30 by omega]
        · rw [List.take_of_length_le (by rw [HN.out]; omega), List.take_of_length_le (by rw [HN.out]; omega)]
      have hkl : (few9 zs).length = k := by rw [← hall, List.length_map, List.length_take, HN.out]; omega
      rw [hall] at HOWN
      have HKL := Lib.hid hkl
      have hguard : (decide ((k : Int) < (n : Int)) = false ∧ decide (k < n) = false) ∨ ((k : Int) < (n : Int) ∧ decide ((k : Int) < 30) = false ∧ decide (k < 30) = false) := by
        by_cases h : k < n
        · right
          exact ⟨by omega, decide_eq_false (by omega), decide_eq_false (by omega)⟩
        · left
          exact ⟨decide_eq_false (by omega), decide_eq_false (by omega)⟩
      clear hlt hall hkl
      rcases hguard with ⟨h1, h2⟩ | ⟨h1, h2, h3⟩
      · go_wp2
        go_ret
        exact ⟨HO.out, _, rfl, by rw [HKL.out]; exact HOWN.out⟩
      · go_wp2
        go_ret
        exact ⟨HO.out, _, rfl, by rw [HKL.out]; exact HOWN.out⟩

set_option maxHeartbeats 4000000 in
theorem istab_any (A : Option Addr) (n c B : Nat) (t : List ByteArray) (w : World) (hn : t.length = n) (hnm : n ≤ 9223372036854775806) (hz : ∀ z ∈ t, z.size ≤ 9223372036854775807) (hA : Row w B A (strs t)) (hT : UTabs w) :
    Calls Tryd.prog 10 #[.slice A n c] w fun e w' => e = .returned (.bool (tabB t)) ∧ Only [] w w' := by
  have HIS := Lib.hid (fun (k : Nat) z w' (h : Only [] w w') (hz' : t[k]? = some z) => is_any z w' (hz z (List.mem_of_getElem? hz')) (hT.only h))
  have HLS := Lib.hid (fun (k j : Nat) y z w' (h : Only [] w w') (hy : t[j]? = some y) (hz' : t[k]? = some z) => less_any y z w' (hz y (List.mem_of_getElem? hy)) (hz z (List.mem_of_getElem? hz')) (hT.only h))
  have HN := Lib.hid hn
  have HROW := Lib.hid hA
  clear hn hz hA hT
  go_enter Tryd.func10, Tryd.ntmps10
  go_wp2_with fail
  go_loopw [7] (fun iv wr => ∃ (k : Nat), iv = .int .i64 k ∧ k ≤ n ∧ Hid (∀ (j : Nat) x, j < k → t[j]? = some x → isName x = true) ∧ Hid (∀ (j : Nat) x y, j + 1 < k → t[j]? = some x → t[j + 1]? = some y → lessB x y = true) ∧ Hid (Only [] w wr)) (fun iv _ => n - (intOf iv).toNat)
  case atStart => exact ⟨0, rfl, by omega, Lib.hid (fun j x h => by omega), Lib.hid (fun j x y h => by omega), Lib.hid (Only.refl [] w)⟩
  case round =>
    obtain ⟨k, rfl, hk, HNM, HLE, HO⟩ := hrel
    by_cases hlt : k < n
    · have h01 : (k : Int) < (n : Int) := by omega
      have hk0 : (0 : Int) ≤ (k : Int) := Int.natCast_nonneg _
      have hwk : IntKind.i64.wrap ((k : Int) + 1) = (k : Int) + 1 := IntWalk.i64_in _ (by omega)
      obtain ⟨b, off, rfl, hbB, hbw, hcell⟩ := HROW.out.open_ (k := k) (by rw [strs, List.length_map, HN.out]; exact hlt)
      obtain ⟨l, hl⟩ : ∃ l, t[k]? = some l := ⟨_, List.getElem?_eq_getElem (by rw [HN.out]; exact hlt)⟩
      have HUP := Lib.hid (fun (w' : World) (h : Only [] w w') (j : Nat) (x : ByteArray) (hx : t[j]? = some x) => ((h.cell (p := ⟨b, off + j, none⟩) hbw (by simp)).trans (hcell j _ (by rw [strs, List.getElem?_map, hx]; rfl)) : w'.cell? ⟨b, off + j, none⟩ = some (.string x)))
      have hck := HUP.out wr HO.out k l hl
      have hck' : k = 0 → wr.cell? ⟨b, off, none⟩ = some (.string l) := fun h => by subst h; exact hck
      have HI := Lib.hid (HIS.out k l wr HO.out hl)
      have HLK := Lib.hid hl
      obtain ⟨v, hv⟩ : ∃ v, v = isName l := ⟨_, rfl⟩
      rw [← hv] at HI
      have HV := Lib.hid hv
      have HCK := Lib.hid hck'
      clear hcell hl hv hck'
      cases v with
      | false =>
        have HF : Hid (tabB t = false) := Lib.hid (tab_bad1 HLK.out HV.out.symm)
        go_wp2_with fail
        refine (HI.out).mono ?_
        rintro e w2 ⟨rfl, hO2⟩
        have HO2 := Lib.hid (HO.out.trans hO2)
        clear hO2
        go_wp2
        go_ret
        exact ⟨by rw [HF.out]; rfl, HO2.out⟩
      | true =>
        have HNM2 : Hid (∀ (j : Nat) x, j < k + 1 → t[j]? = some x → isName x = true) := Lib.hid (fun j x hj hx => by
          by_cases h : j < k
          · exact HNM.out j x h hx
          · obtain rfl : j = k := by omega
            rw [HLK.out] at hx
            obtain rfl := Option.some.inj hx
            exact HV.out.symm)
        by_cases hk00 : k = 0
        · have hck0 := HCK.out hk00
          subst hk00
          have HLE2 : Hid (∀ (j : Nat) x y, j + 1 < 0 + 1 → t[j]? = some x → t[j + 1]? = some y → lessB x y = true) := Lib.hid (fun j x y h => by omega)
          go_wp2_with fail
          refine (HI.out).mono ?_
          rintro e w2 ⟨rfl, hO2⟩
          have HO2 := Lib.hid (HO.out.trans hO2)
          clear hO2
          go_wp2
          go_roundw
          case rel => exact ⟨0 + 1, by first | rfl | go_num, by omega, HNM2, HLE2, HO2⟩
          case measure => simp [intOf]; omega
        · obtain ⟨j, hj⟩ : ∃ j, k = j + 1 := ⟨k - 1, by omega⟩
          have hkp : (0 : Int) < (k : Int) := by omega
          have hwj : IntKind.i64.wrap ((k : Int) - 1) = (j : Int) := by rw [IntWalk.i64_in _ (by omega)]; omega
          have hj0 : (0 : Int) ≤ (j : Int) := Int.natCast_nonneg _
          have hj1 : (j : Int) < (n : Int) := by omega
          obtain ⟨y, hy⟩ : ∃ y, t[j]? = some y := ⟨_, List.getElem?_eq_getElem (by rw [HN.out]; omega)⟩
          have HJ := Lib.hid hj
          have HY := Lib.hid hy
          have HLS1 := Lib.hid (fun w' h => HLS.out k j y l w' h hy HLK.out)
          obtain ⟨u, hu⟩ : ∃ u, u = lessB y l := ⟨_, rfl⟩
          have hu2 : u = lessL (runesL (by_ y)) (runesL (by_ l)) := hu
          rw [← hu2] at HLS1
          have HU := Lib.hid hu
          clear hj hy hu hu2
          go_wp2_with fail
          refine (HI.out).mono ?_
          rintro e w2 ⟨rfl, hO2⟩
          have HO2 := Lib.hid (HO.out.trans hO2)
          have hcj := HUP.out w2 HO2.out j y HY.out
          clear hO2
          go_wp2_with fail
          refine (HLS1.out _ HO2.out).mono ?_
          rintro e w3 ⟨rfl, hO3⟩
          have HO3 := Lib.hid (HO2.out.trans hO3)
          clear hO3 hcj
          cases u with
          | false =>
            have HF : Hid (tabB t = false) := Lib.hid (tab_bad2 HY.out (by rw [← HJ.out]; exact HLK.out) HU.out.symm)
            go_wp2
            go_ret
            exact ⟨by rw [HF.out]; rfl, HO3.out⟩
          | true =>
            have HLE2 : Hid (∀ (i : Nat) x z, i + 1 < k + 1 → t[i]? = some x → t[i + 1]? = some z → lessB x z = true) := Lib.hid (fun i x z hi hx hz => by
              by_cases h : i + 1 < k
              · exact HLE.out i x z h hx hz
              · obtain rfl : i = j := by have := HJ.out; omega
                rw [HY.out] at hx
                obtain rfl := Option.some.inj hx
                rw [← HJ.out, HLK.out] at hz
                obtain rfl := Option.some.inj hz
                exact HU.out.symm)
            go_wp2
            go_roundw
            case rel => exact ⟨k + 1, by go_num, by omega, HNM2, HLE2, HO3⟩
            case measure => simp [intOf]; omega
    · have hkn : k = n := by omega
      subst hkn
      have hd : decide ((k : Int) < (k : Int)) = false := by simp
      have HF : Hid (tabB t = true) := Lib.hid ((tab_iff t).2 ⟨fun j x hx => HNM.out j x (by rw [← HN.out]; exact (List.getElem?_eq_some_iff.1 hx).1) hx, fun j x y hx hy => HLE.out j x y (by rw [← HN.out]; exact (List.getElem?_eq_some_iff.1 hy).1) hx hy⟩)
      go_wp2
      go_ret
      exact ⟨by rw [HF.out]; rfl, HO.out⟩

theorem index_any (A : Option Addr) (n c B : Nat) (t : List ByteArray) (s : ByteArray) (w : World) (hn : t.length = n) (hnm : n ≤ 9223372036854775807) (hA : Row w B A (strs t)) :
    Calls Tryd.prog 38 #[.slice A n c, .string s] w fun e w' => e = .returned (.int .i64 (idxOfS t s)) ∧ w = w' := by
  subst hn
  rcases hA with h | ⟨b, off, rfl, hb, hw, hcell⟩
  · have ht : t = [] := by simpa [strs] using h
    subst ht
    have h : Calls Tryd.prog 38 #[.slice A 0 c, .string s] w _ := Any.slices_Index_string_empty Tryd.laysIndex A c s w
    exact h.mono fun e w' ⟨h1, h2⟩ => ⟨h1, h2.symm⟩
  · have h : Calls Tryd.prog 38 #[.slice (some ⟨b, off, none⟩) t.length c, .string s] w _ := Any.slices_Index_string Tryd.laysIndex b off t.length c t s w (Nat.le_refl _) hnm (fun j hj => hcell j _ (by
      rw [strs, List.getElem?_map, List.getD_eq_getElem?_getD, List.getElem?_eq_getElem hj]
      rfl))
    rw [List.take_length] at h
    exact h.mono fun e w' ⟨h1, h2⟩ => ⟨h1, h2.symm⟩

set_option maxHeartbeats 2000000 in
theorem find_low (A : Option Addr) (n c B : Nat) (t : List ByteArray) (s : ByteArray) (w : World) (hn : t.length = n) (hnm : n ≤ 9223372036854775807) (hA : Row w B A (strs t)) :
    Calls Tryd.prog 26 #[.slice A n c, .string s] w fun e w' => e = .returned (.tuple #[.int .i64 (max (idxOfS t s) 0), .bool (decide (0 ≤ idxOfS t s))]) ∧ w = w' := by
  have HI := Lib.hid (index_any A n c B t s w hn hnm hA)
  generalize idxOfS t s = z at *
  clear hA hn
  go_enter Tryd.func26, Tryd.ntmps26
  go_wp2_with fail
  refine (HI.out).mono ?_
  rintro e w' ⟨rfl, rfl⟩
  go_wp2
  go_ret2
  exact ⟨rfl, rfl⟩

set_option maxHeartbeats 2000000 in
theorem find_any (A : Option Addr) (n c B : Nat) (t : List ByteArray) (s : ByteArray) (w : World) (hn : t.length = n) (hnm : n ≤ 9223372036854775806) (hz : ∀ z ∈ t, z.size ≤ 9223372036854775807) (hA : Row w B A (strs t)) (hT : UTabs w) :
    Calls Tryd.prog 15 #[.slice A n c, .string s] w fun e w' => e = .returned (.tuple #[.int .i64 (max (posB t s) 0), .bool (decide (0 ≤ posB t s))]) ∧ Only [] w w' := by
  have HI := Lib.hid (istab_any A n c B t w hn hnm hz hA hT)
  have HF := Lib.hid (fun w' (h : Only [] w w') => find_low A n c B t s w' hn (by omega) (hA.only h (by simp)))
  unfold posB
  generalize tabB t = v at *
  clear hz hA hT hn
  cases v with
  | false =>
    rw [if_neg (by simp)]
    go_enter Tryd.func15, Tryd.ntmps15
    go_wp2_with fail
    refine (HI.out).mono ?_
    rintro e w1 ⟨rfl, hO⟩
    have HO := Lib.hid hO
    clear hO
    go_wp2
    go_ret2
    exact ⟨rfl, HO.out⟩
  | true =>
    rw [if_pos rfl]
    generalize idxOfS t s = z at *
    go_enter Tryd.func15, Tryd.ntmps15
    go_wp2_with fail
    refine (HI.out).mono ?_
    rintro e w1 ⟨rfl, hO⟩
    have HO := Lib.hid hO
    clear hO
    go_wp2_with fail
    refine (HF.out _ HO.out).mono ?_
    rintro e w2 ⟨rfl, rfl⟩
    go_wp2
    go_ret2
    exact ⟨rfl, HO.out⟩

set_option maxHeartbeats 2000000 in
theorem make_any (A : Option Addr) (n c B : Nat) (zs : List ByteArray) (w : World) (hn : zs.length = n) (hN : n ≤ 1000) (hz : ∀ z ∈ zs, z.size ≤ 9223372036854775807) (hA : Row w B A (strs zs)) (hT : UTabs w) :
    Calls Tryd.prog 8 #[.slice A n c] w fun e w' => Only [] w w' ∧ ∃ A' m c', e = .returned (.slice A' m c') ∧ (sortB zs).length = m ∧ Row w' w'.heap.size A' (strs (sortB zs)) := by
  have HS := Lib.hid (sorted_any A n c B zs w hn hN hz hA hT)
  clear hn hN hz hA hT
  go_enter Tryd.func8, Tryd.ntmps8
  go_wp2_with fail
  refine (HS.out).mono ?_
  rintro e w1 ⟨hO, A', m, c', rfl, hm, hr⟩
  have HO := Lib.hid hO
  have HM := Lib.hid hm
  have HR := Lib.hid hr
  clear hO hm hr
  go_wp2
  go_ret
  exact ⟨HO.out, _, _, _, rfl, HM.out, HR.out⟩

theorem clone_any (A : Option Addr) (n c B : Nat) (zs : List ByteArray) (w : World) (hn : zs.length = n) (hN : n ≤ 1000) (hA : Row w B A (strs zs)) (hc : A = none → n = 0 ∧ c = c) :
    Calls Tryd.prog 25 #[.slice A n c] w fun e w' => Only [] w w' ∧ ∃ V, e = .returned V ∧ w'.ownsRow w.heap.size 9 1 V n (strs zs) := by
  cases A with
  | none =>
    obtain ⟨h0, -⟩ := hc rfl
    subst h0
    have hz : zs = [] := List.eq_nil_of_length_eq_zero hn
    subst hz
    have h : Calls Tryd.prog 25 #[.slice none 0 c] w _ := Any.slices_Clone_string_nil Tryd.laysClone 0 c w
    exact h.mono fun e w' ⟨h1, h2⟩ => by
      subst h2
      exact ⟨Only.refl _ _, _, h1, rfl, .inl ⟨rfl, rfl⟩⟩
  | some a =>
    rcases hA with h | ⟨b, off, ha, hb, hw, hcell⟩
    · have hz : zs = [] := by simpa [strs] using h
      subst hz
      have h0 : n = 0 := hn.symm
      subst h0
      have h : Calls Tryd.prog 25 #[.slice (some a) 0 c] w _ := Any.slices_Clone_string_zero Tryd.laysClone a c w
      exact h.mono fun e w' ⟨v', h1, h2, _, h4⟩ => ⟨Only.of_below h4 [], v', h1, h2⟩
    · obtain rfl := Option.some.inj ha
      have h : Calls Tryd.prog 25 #[.slice (some ⟨b, off, none⟩) n c] w _ := Any.slices_Clone_string Tryd.laysClone b off n c zs w (by omega) (by omega) (fun j hj => hcell j _ (by
        rw [strs, List.getElem?_map, List.getD_eq_getElem?_getD, List.getElem?_eq_getElem hj]
        rfl))
      rw [List.take_of_length_le (by omega)] at h
      exact h.mono fun e w' ⟨v', h1, h2, _, h4⟩ => ⟨Only.of_below h4 [], v', h1, h2⟩

set_option maxHeartbeats 2000000 in
theorem put_any (A : Option Addr) (n c B : Nat) (zs : List ByteArray) (s : ByteArray) (w : World) (hn : zs.length = n) (hN : n ≤ 500) (hz : ∀ z ∈ zs, z.size ≤ 9223372036854775807) (hs : s.size ≤ 9223372036854775807) (hA : Row w B A (strs zs)) (hc : A = none → n = 0 ∧ c = c) (hT : UTabs w) :
    Calls Tryd.prog 12 #[.slice A n c, .string s] w fun e w' => Only [] w w' ∧ ∃ A' m c', e = .returned (.slice A' m c') ∧ (sortB (zs ++ [s])).length = m ∧ Row w' w'.heap.size A' (strs (sortB (zs ++ [s]))) := by
  obtain ⟨i0, hi, hz0, hz1, hz2⟩ := info_parts tinfo_string
  have HC := Lib.hid (clone_any A n c B zs w hn (by omega) hA hc)
  have HMK := Lib.hid (fun A' c' B' w' hA' (h : Only [] w w') => make_any A' (n + 1) c' B' (zs ++ [s]) w' (by rw [List.length_append, hn]; rfl) (by omega) (fun z hz' => by
    rcases List.mem_append.1 hz' with h | h
    · exact hz z h
    · rw [List.mem_singleton] at h; subst h; exact hs) hA' (hT.only h))
  have hlen : (strs zs).length = n := by rw [strs, List.length_map, hn]
  clear hn hz hs hA hT
  go_enter Tryd.func12, Tryd.ntmps12
  go_wp2_with fail
  refine (HC.out).mono ?_
  rintro e w1 ⟨hO1, V, rfl, hown⟩
  have hw1 := hO1.size
  have HO1 := Lib.hid hO1
  have HOWN := Lib.hid hown
  clear hO1 hown
  go_wp2_with (at_builtin; refine wpList_append_row _ rfl (.tmp 6) (.tmp 8) _ rfl w.heap.size 9 i0 _ 1 16 Tryd.underlying22 hi hz0 hz1 hz2 rfl (by omega) _ n (strs zs) rfl (own_only HOWN.out ((Only.refl [] _).alloc _) (by simp)) (w1.heap.size + 1) (some ⟨w1.heap.size, 0, none⟩) 1 1 [.string s] rfl rfl (row_lit w1 9 #[.string s]) (by simp [Value.oneCell']) (by unfold maxLen; omega) (by omega) (by simp; omega) ?_; intro v3 w3 hown3 hgrow hat)
  have HO3 := Lib.hid ((HO1.out.alloc (.cells #[.string s] 9)).step (only_grown hgrow) (own_new HOWN.out))
  rw [show strs zs ++ [.string s] = strs (zs ++ [s]) by simp [strs]] at hown3
  obtain ⟨A3, c3, rfl, -, -, -, hrow3⟩ := own_row hown3
  have HM3 := Lib.hid (HMK.out A3 c3 _ w3 hrow3 HO3.out)
  clear hown3 hgrow hat hrow3
  go_wp2_with fail
  refine (HM3.out).mono ?_
  rintro e w4 ⟨hO4, A', m, c', rfl, hm, hr⟩
  have HO4 := Lib.hid (HO3.out.trans hO4)
  have HM := Lib.hid hm
  have HR := Lib.hid hr
  clear hO4 hm hr
  go_wp2
  go_ret
  exact ⟨HO4.out, _, _, _, rfl, HM.out, HR.out⟩

end Go.Proofs.YtbojofkladpblaaDoor
