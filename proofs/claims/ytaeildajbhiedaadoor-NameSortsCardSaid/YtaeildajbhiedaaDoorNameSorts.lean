/- NameSorts: the walk. -/
import Derived.Test.YtaeildajbhiedaaDoorSortedW
import Derived.Test.YtaeildajbhiedaaDoorRSorted
import Derived.Test.YtaeildajbhiedaaDoorRText
import Derived.Test.YtaeildajbhiedaaDoorSameT
set_option linter.unusedVariables false
set_option linter.unusedSimpArgs false
namespace Go.Proofs.YtaeildajbhiedaaDoor
open Go.RowKit
open Go.Lib hiding intOf
attribute [local go_sem ↓] Go.wp_at_zero Go.wp_at_succ

theorem sortB_len (l : List ByteArray) : (sortB l).length ≤ l.length := by
  have : ∀ (l out : List ByteArray), (l.foldl insB out).length ≤ out.length + l.length := by
    intro l
    induction l with
    | nil => intro out; exact Nat.le_refl _
    | cons x l ih =>
      intro out
      rw [List.foldl_cons]
      have h1 := ih (insB out x)
      have h2 : (insB out x).length ≤ out.length + 1 := by
        unfold insB
        split
        · split
          · omega
          · rw [List.length_append, List.length_cons, List.length_take, List.length_drop]
            omega
        · omega
      simp only [List.length_cons]
      omega
  have := this l []
  simpa [sortB] using this

set_option maxRecDepth 10000 in
set_option maxHeartbeats 8000000 in
theorem nameSorts_walk (A : Option Addr) (n c : Nat) (zs : List ByteArray) (s : ByteArray) (w : World) (hn : zs.length = n) (hc : n ≤ c) (hcm : c ≤ maxLen) (hz : ∀ z ∈ zs, z.size ≤ maxLen) (hA : Row w w.heap.size A (strs zs)) (hs : s.size ≤ 9223372036854775807) (hT : UTabs w) :
    Calls Tryd.prog 4 #[.slice A n c, .string s] w fun e w' => e = .returned (.bool true) ∧ Only [] w w' := by
  obtain ⟨i0, hi, hz0, hz1, hz2⟩ := info_parts tinfo_string
  have HW := Lib.hid (fun (w' : World) (hO : Only [] w w') => works02_any w' (hT.only hO))
  have HS := Lib.hid (fun (s : ByteArray) (w' : World) (h : s.size ≤ maxLen) => short2_any s w' (by unfold maxLen at h; omega))
  have HS1 := Lib.hid (fun w' => short2_any s w' hs)
  have hsz := short2_size s
  generalize short2 s = t at *
  have HT1 := Lib.hid (fun w' => turned_any t w' (by omega))
  have HT2 := Lib.hid (fun w' => rturned_any t w' (by omega))
  generalize (⟨(turnedL (by_ t)).toArray⟩ : ByteArray) = r at *
  have htt : (r.toList == r.toList) = true := by simp
  have HTB := Lib.hid hT
  have HN := Lib.hid hn
  have HZ := Lib.hid hz
  have HROW := Lib.hid hA
  have hnm : n ≤ maxLen := by omega
  unfold maxLen at hnm
  clear hn hz hA hT hc hcm hsz hs
  go_enter Tryd.func4, Tryd.ntmps4
  go_wp2_with fail
  go_loopw [5, 6] (fun V iv wr => ∃ (k : Nat), iv = .int .i64 k ∧ k ≤ n ∧ k ≤ 30 ∧ Hid (wr.ownsRow w.heap.size 9 1 V k (strs ((zs.take k).map short2))) ∧ Hid (Only [] w wr)) (fun _ iv _ => n - (intOf iv).toNat)
  case atStart => exact ⟨0, rfl, by omega, by omega, Lib.hid (World.ownsRow_lit w #[] 0 (Nat.le_refl _) (by unfold maxLen; omega) rfl), Lib.hid ((Only.refl [] w).alloc _)⟩
  case round =>
    obtain ⟨k, rfl, hk, hk50, HOWN, HO⟩ := hrel
    have hsz2 := HO.out.size
    by_cases hlt : k < n ∧ k < 30
    · obtain ⟨hlt1, hlt2⟩ := hlt
      have h01 : (k : Int) < (n : Int) := by omega
      have h02 : (k : Int) < 30 := by omega
      have hk0 : (0 : Int) ≤ (k : Int) := Int.natCast_nonneg _
      have hwk : IntKind.i64.wrap ((k : Int) + 1) = (k : Int) + 1 := IntWalk.i64_in _ (by omega)
      obtain ⟨b, off, rfl, hbB, hbw, hcell⟩ := HROW.out.open_ (k := k) (by rw [strs, List.length_map, HN.out]; exact hlt1)
      obtain ⟨l, hl⟩ : ∃ l, zs[k]? = some l := ⟨_, List.getElem?_eq_getElem (by rw [HN.out]; exact hlt1)⟩
      have hck : wr.cell? ⟨b, off + k, none⟩ = some (.string l) := (HO.out.cell (p := ⟨b, off + k, none⟩) hbw (by simp)).trans (hcell k _ (by rw [strs, List.getElem?_map, hl]; rfl))
      have HTK : Hid (strs ((zs.take (k + 1)).map short2) = strs ((zs.take k).map short2) ++ [.string (short2 l)]) := Lib.hid (by rw [List.take_add_one, hl]; simp [strs])
      have HSL := Lib.hid (HS.out l wr (HZ.out l (List.mem_of_getElem? hl)))
      generalize short2 l = x at *
      have hlen : (strs ((zs.take k).map short2)).length = k := by rw [strs, List.length_map, List.length_map, List.length_take, HN.out]; omega
      clear hcell hl
      go_wp2_with fail
      refine (HSL.out).mono ?_
      rintro e w' ⟨rfl, rfl⟩
      go_wp2_with (at_builtin; refine wpList_append_row _ rfl (.tmp 18) (.tmp 24) _ rfl w.heap.size 9 i0 _ 1 16 Tryd.underlying26 hi hz0 hz1 hz2 rfl (by omega) _ k (strs ((zs.take k).map short2)) rfl (own_only HOWN.out ((Only.refl [] _).alloc _) (by simp)) (wr.heap.size + 1) (some ⟨wr.heap.size, 0, none⟩) 1 1 [.string x] rfl rfl (row_lit wr 9 #[.string x]) (by simp [Value.oneCell']) (by unfold maxLen; omega) (by omega) (by simp; omega) ?_; intro v3 w3 hown3 hgrow hat)
      have REL : w3.ownsRow w.heap.size 9 1 v3 (k + 1) (strs ((zs.take (k + 1)).map short2)) ∧ Only [] w w3 :=
        ⟨by rw [HTK.out]; exact hown3, (HO.out.alloc _).step (only_grown hgrow) (own_new HOWN.out)⟩
      have HREL := Lib.hid REL
      clear REL hown3 hgrow hat hlen
      go_wp2
      go_roundw
      case rel => exact ⟨k + 1, by go_num, by omega, by omega, Lib.hid HREL.out.1, Lib.hid HREL.out.2⟩
      case measure => simp [intOf]; omega
    · have hxs2 : ∀ x ∈ (zs.take k).map short2, x.size ≤ 300 := by
        intro x hx
        obtain ⟨y, -, rfl⟩ := List.mem_map.1 hx
        exact short2_size y
      have hxl : ((zs.take k).map short2).length = k := by rw [List.length_map, List.length_take, HN.out]; omega
      generalize (zs.take k).map short2 = xs at *
      obtain ⟨A1, c1, hV, hc1, hc2, -, hrow⟩ := own_row HOWN.out
      have hsl := sortB_len xs
      have HJ := Lib.hid (fun A' c' B' w' hA' (hO : Only [] w w') => sorted_any A' k c' B' xs w' hxl (by omega) (fun z h => by have := hxs2 z h; omega) hA' (HTB.out.only hO))
      have HRJ := Lib.hid (fun A' c' B' w' hA' => rsorted_any A' k c' B' xs w' hxl (by omega) (fun z h => by have := hxs2 z h; omega) hA')
      have HST := Lib.hid (fun A A' n c d w' B B' hA hA' hn hnm => sameTexts_same A A' n c d (sortB xs) w' B B' hA hA' hn hnm)
      have hsm : (sortB xs).length ≤ 1000000 := by omega
      have HSM := Lib.hid hsm
      have HXL := Lib.hid hxl
      have hsx : (strs xs).length = k := by rw [strs, List.length_map]; exact hxl
      subst hV
      have HROW1 := Lib.hid hrow
      have hmade : (wr.alloc (.cells #[] 9)).ownsRow wr.heap.size 9 1 (.slice (some ⟨wr.heap.size, 0, none⟩) 0 0) 0 [] := World.ownsRow_lit wr #[] 0 (Nat.le_refl _) (by unfold maxLen; omega) rfl
      have HMADE := Lib.hid hmade
      clear hxs2 hxl hrow hmade hsm hsl
      have hguard : (decide ((k : Int) < (n : Int)) = false ∧ decide (k < n) = false) ∨ ((k : Int) < (n : Int) ∧ decide ((k : Int) < 30) = false ∧ decide (k < 30) = false) := by
        by_cases h : k < n
        · right
          exact ⟨by omega, decide_eq_false (by omega), decide_eq_false (by omega)⟩
        · left
          exact ⟨decide_eq_false (by omega), decide_eq_false (by omega)⟩
      clear hlt
      rcases hguard with ⟨h1, h2⟩ | ⟨h1, h2, h3⟩
      all_goals (
        go_wp2_with fail
        refine (HS1.out _).mono ?_
        rintro e w' ⟨rfl, rfl⟩
        go_wp2_with (at_builtin; refine wpList_append_row _ rfl (.tmp 28) (.tmp 29) _ rfl wr.heap.size 9 i0 _ 1 16 Tryd.underlying26 hi hz0 hz1 hz2 rfl (by omega) _ 0 [] rfl HMADE.out _ A1 k c1 (strs xs) rfl (by omega) (HROW1.out.only ((Only.refl [] wr).alloc _) (by simp)) (by intro u hu; obtain ⟨y, -, rfl⟩ := List.mem_map.1 hu; rfl) (by unfold maxLen; omega) (by omega) (by simp) ?_; intro v3 w3 hown3 hgrow hat)
        have HO3 := Lib.hid (((HO.out.alloc (.cells #[] 9)).step (T := [wr.heap.size]) (only_grown hgrow) (fun j hj hl => by simp at hj; omega)))
        have HR3 := Lib.hid (HROW1.out.only (((Only.refl [] wr).alloc (.cells #[] 9)).step (T := [wr.heap.size]) (only_grown hgrow) (fun j hj hl => by simp at hj; omega)) (by simp))
        obtain ⟨A3, c3, rfl, hc31, hc32, -, hrow3⟩ := own_row hown3
        rw [Nat.zero_add, List.nil_append] at *
        have HJ3 := Lib.hid (HJ.out A3 c3 _ w3 hrow3 HO3.out)
        clear hown3 hgrow hat hrow3
        go_wp2_with fail
        refine (HJ3.out).mono ?_
        rintro e w4 ⟨hO4, A4, m4, c4, rfl, rfl, hrow4⟩
        have HO4 := Lib.hid (HO3.out.trans hO4)
        have HRJ4 := Lib.hid (HRJ.out A1 c1 _ w4 (HR3.out.only hO4 (by simp)))
        have HR4 := Lib.hid hrow4
        clear hO4 hrow4
        go_wp2_with fail
        refine (HRJ4.out).mono ?_
        rintro e w5 ⟨hO5, V5, rfl, hown5⟩
        have HO5 := Lib.hid (HO4.out.trans hO5)
        have HR45 := Lib.hid (HR4.out.only hO5 (by simp))
        obtain ⟨A5, c5, rfl, -, -, -, hrow5⟩ := own_row hown5
        have HST5 := Lib.hid (HST.out A4 A5 _ c4 c5 w5 _ _ HR45.out hrow5 rfl HSM.out)
        clear hO5 hown5 hrow5
        go_wp2_with fail
        refine (HST5.out).mono ?_
        rintro e w6 ⟨rfl, q6, rfl⟩
        have HO6 := Lib.hid (HO5.out.drewN q6)
        go_wp2_with fail
        refine (HT1.out _).mono ?_
        rintro e w7 ⟨rfl, hO7⟩
        have HO7 := Lib.hid (HO6.out.trans hO7)
        clear hO7
        go_wp2_with fail
        refine (HT2.out _).mono ?_
        rintro e w8 ⟨rfl, hO8⟩
        have HO8 := Lib.hid (HO7.out.trans hO8)
        clear hO8
        go_wp2_with fail
        refine (HW.out _ HO8.out).mono ?_
        rintro e w9 ⟨rfl, hO9⟩
        have HO9 := Lib.hid (HO8.out.trans hO9)
        clear hO9
        go_wp2
        go_ret
        exact ⟨rfl, HO9.out⟩)

end Go.Proofs.YtaeildajbhiedaaDoor
