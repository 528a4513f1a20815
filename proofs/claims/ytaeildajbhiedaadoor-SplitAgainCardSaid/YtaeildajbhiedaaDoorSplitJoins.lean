/- The document's Join; SplitJoins: the walk. -/
import Derived.Test.YtaeildajbhiedaaDoorSplitC
import Derived.Test.YtaeildajbhiedaaDoorRLineB
set_option linter.unusedVariables false
set_option linter.unusedSimpArgs false
namespace Go.Proofs.YtaeildajbhiedaaDoor
open Go.RowKit
open Go.Lib hiding intOf
attribute [local go_sem ↓] Go.wp_at_zero Go.wp_at_succ

theorem join_snoc (x : List UInt8) (r : List (List UInt8)) (y sep : List UInt8) : Lib.join (x :: r ++ [y]) sep = Lib.join (x :: r) sep ++ sep ++ y := by
  rw [List.cons_append, join_cons, join_cons]
  unfold joinTail
  rw [List.map_append, List.flatten_append]
  simp [List.append_assoc]
theorem joinW_first (x : ByteArray) : joinW [x] = by_ x := by
  unfold joinW
  exact Lib.join_one _ _
theorem joinW_next (xs : List ByteArray) (x : ByteArray) (h : xs ≠ []) : joinW (xs ++ [x]) = joinW xs ++ 32 :: by_ x := by
  unfold joinW
  cases xs with
  | nil => exact absurd rfl h
  | cons y r =>
    rw [List.map_append, List.map_cons, List.map_cons, List.map_nil, join_snoc]
    simp [List.append_assoc]
theorem joinW_len (n : Nat) : ∀ (r : List ByteArray) (x : ByteArray), (∀ y ∈ x :: r, y.size ≤ n) → (joinW (x :: r)).length ≤ (r.length + 1) * (n + 1) := by
  intro r x h
  unfold joinW
  rw [List.map_cons, Lib.join_length]
  have hl : ∀ l : List ByteArray, (∀ y ∈ l, y.size ≤ n) → Lib.lens (l.map by_) ≤ l.length * n := by
    intro l
    induction l with
    | nil => intro _; simp [Lib.lens]
    | cons y l ih =>
      intro h
      have h1 := ih (fun z hz => h z (List.mem_cons_of_mem _ hz))
      have h2 := h y (List.mem_cons_self ..)
      unfold Lib.lens at h1 ⊢
      simp only [List.map_cons, List.sum_cons, List.length_cons, by_length]
      rw [Nat.succ_mul]
      omega
  have := hl (x :: r) h
  rw [List.map_cons] at this
  rw [List.length_map, List.length_singleton]
  simp only [List.length_cons] at this
  rw [Nat.mul_add (r.length + 1), Nat.mul_one, Nat.one_mul]
  omega
theorem joinW_le (n m : Nat) (xs : List ByteArray) (h : ∀ y ∈ xs, y.size ≤ n) (hm : xs.length ≤ m) : (joinW xs).length ≤ m * (n + 1) := by
  cases xs with
  | nil => exact Nat.zero_le _
  | cons x r =>
    have := joinW_len n r x h
    simp only [List.length_cons] at hm
    exact Nat.le_trans this (Nat.mul_le_mul_right _ hm)

set_option maxHeartbeats 2000000 in
theorem rjoin_any (A : Option Addr) (n c B : Nat) (xs : List ByteArray) (w : World) (hA : Row w B A (strs xs)) (hn : xs.length = n) (hN : n ≤ 50) (hx : ∀ x ∈ xs, x.size ≤ 2000) :
    Calls Tryd.prog 29 #[.slice A n c] w fun e w' => e = .returned (.string ⟨(joinW xs).toArray⟩) ∧ w = w' := by
  obtain ⟨r, hr⟩ : ∃ r : ByteArray, r = ⟨(joinW xs).toArray⟩ := ⟨_, rfl⟩
  have HR : Hid (∀ T : ByteArray, by_ T = joinW xs → T = r) := Lib.hid (fun T h => by
    apply by_inj
    rw [h, hr]
    exact List.toList_toArray.symm)
  rw [← hr]
  have HN := Lib.hid hn
  have HX := Lib.hid hx
  have HROW := Lib.hid hA
  clear hr hn hx hA
  go_enter Tryd.func29, Tryd.ntmps29
  go_wp2
  go_loopw [3, 4] (fun tt i wr => ∃ (k : Nat) (T : ByteArray), tt = .string T ∧ i = .int .i64 k ∧ k ≤ n ∧ T.size ≤ k * 2001 ∧ Hid (by_ T = joinW (xs.take k)) ∧ wr = w) (fun _ i _ => n - (intOf i).toNat)
  case atStart => exact ⟨0, ⟨#[]⟩, rfl, rfl, by omega, (by show (0 : Nat) ≤ _; omega), Lib.hid rfl, by first | rfl | trivial⟩
  case round =>
    obtain ⟨k, T, rfl, rfl, hk, hTs, HTT, rfl⟩ := hrel
    by_cases hlt : k < n
    · have hk1 : (k : Int) < (n : Int) := by omega
      have hk0 : (0 : Int) ≤ (k : Int) := Int.natCast_nonneg _
      obtain ⟨b, off, rfl, hbB, hbw, hcell⟩ := HROW.out.open_ (k := k) (by rw [strs, List.length_map, HN.out]; exact hlt)
      obtain ⟨l, hl⟩ : ∃ l, xs[k]? = some l := ⟨_, List.getElem?_eq_getElem (by rw [HN.out]; exact hlt)⟩
      have hck : wr.cell? ⟨b, off + k, none⟩ = some (.string l) := hcell k _ (by rw [strs, List.getElem?_map, hl]; rfl)
      have htk : xs.take (k + 1) = xs.take k ++ [l] := by rw [List.take_add_one, hl]; rfl
      have hls : l.size ≤ 2000 := HX.out l (List.mem_of_getElem? hl)
      have hwk : IntKind.i64.wrap ((k : Int) + 1) = (k : Int) + 1 := IntWalk.i64_in _ (by omega)
      by_cases h0 : 0 < k
      · have h0i : (0 : Int) < (k : Int) := by omega
        have hne : xs.take k ≠ [] := by
          intro h
          have := congrArg List.length h
          rw [List.length_take, HN.out, List.length_nil] at this
          omega
        have HT2 : Hid (by_ (T ++ (⟨#[32]⟩ ++ l)) = joinW (xs.take (k + 1))) := Lib.hid (by
          rw [htk, joinW_next _ _ hne, by_append, by_append, HTT.out]
          rfl)
        have HT3 : Hid ((T ++ ⟨#[32]⟩) ++ l = T ++ (⟨#[32]⟩ ++ l)) := Lib.hid (by apply by_inj; simp [by_append, List.append_assoc])
        have hla : T.size + 1 ≤ 9223372036854775807 := by omega
        have hlb : (T ++ ⟨#[32]⟩).size + l.size ≤ 9223372036854775807 := by
          rw [ByteArray.size_append]
          have : (⟨#[32]⟩ : ByteArray).size = 1 := rfl
          omega
        have hTs2 : (T ++ (⟨#[32]⟩ ++ l)).size ≤ (k + 1) * 2001 := by
          rw [ByteArray.size_append, ByteArray.size_append]
          have : (⟨#[32]⟩ : ByteArray).size = 1 := rfl
          omega
        have HTS2 := Lib.hid hTs2
        clear hcell hl htk hTs2 hTs hne
        go_wp2
        go_roundw
        case rel => exact ⟨k + 1, T ++ (⟨#[32]⟩ ++ l), by first | rfl | rw [HT3.out], by go_num, by omega, HTS2.out, HT2, by first | rfl | trivial⟩
        case measure => simp [intOf]; omega
      · have hk00 : k = 0 := by omega
        subst hk00
        have hck0 : wr.cell? ⟨b, off, none⟩ = some (.string l) := hck
        have HT2 : Hid (by_ (T ++ l) = joinW (xs.take (0 + 1))) := Lib.hid (by
          rw [htk, List.take_zero, List.nil_append, joinW_first, by_append, HTT.out]
          rfl)
        have hlb : T.size + l.size ≤ 9223372036854775807 := by omega
        have hTs2 : (T ++ l).size ≤ (0 + 1) * 2001 := by
          rw [ByteArray.size_append]
          omega
        have HTS2 := Lib.hid hTs2
        clear hcell hl htk hTs2 hTs
        go_wp2
        go_roundw
        case rel => exact ⟨0 + 1, T ++ l, rfl, by go_num, by omega, HTS2.out, HT2, by first | rfl | trivial⟩
        case measure => simp [intOf]; omega
    · have hkn : k = n := by omega
      subst hkn
      have hd : decide ((k : Int) < (k : Int)) = false := by simp
      have hT := HR.out T (by rw [HTT.out, List.take_of_length_le (by rw [HN.out]; exact Nat.le_refl _)])
      subst hT
      clear HTT
      go_wp2
      go_ret
      exact ⟨rfl, rfl⟩

set_option maxRecDepth 10000 in
set_option maxHeartbeats 4000000 in
theorem splitJoins_walk (A : Option Addr) (n c : Nat) (zs : List ByteArray) (w : World) (hn : zs.length = n) (hc : n ≤ c) (hcm : c ≤ maxLen) (hz : ∀ z ∈ zs, z.size ≤ maxLen) (hA : Row w w.heap.size A (strs zs)) (hT : UTabs w) (hM : MLen w) :
    Calls Tryd.prog 7 #[.slice A n c] w fun e w' => e = .returned (.bool true) ∧ Only [] w w' := by
  obtain ⟨i0, hi, hz0, hz1, hz2⟩ := info_parts tinfo_string
  have HW := Lib.hid (fun (w' : World) (hO : Only [] w w') => works06_any w' (hT.only hO) (hM.only hO))
  have HS := Lib.hid (fun (s : ByteArray) (w' : World) (h : s.size ≤ maxLen) => short6_any s w' (by unfold maxLen at h; omega))
  have HN := Lib.hid hn
  have HZ := Lib.hid hz
  have HROW := Lib.hid hA
  have hnm : n ≤ maxLen := by omega
  unfold maxLen at hnm
  clear hn hz hA hT hM hc hcm
  go_enter Tryd.func7, Tryd.ntmps7
  go_wp2_with fail
  go_loopw [3, 4] (fun V iv wr => ∃ (k : Nat), iv = .int .i64 k ∧ k ≤ n ∧ k ≤ 50 ∧ Hid (wr.ownsRow w.heap.size 9 1 V k (strs ((zs.take k).map short6))) ∧ Hid (Only [] w wr)) (fun _ iv _ => n - (intOf iv).toNat)
  case atStart => exact ⟨0, rfl, by omega, by omega, Lib.hid (World.ownsRow_lit w #[] 0 (Nat.le_refl _) (by unfold maxLen; omega) rfl), Lib.hid ((Only.refl [] w).alloc _)⟩
  case round =>
    obtain ⟨k, rfl, hk, hk50, HOWN, HO⟩ := hrel
    have hsz2 := HO.out.size
    by_cases hlt : k < n ∧ k < 50
    · obtain ⟨hlt1, hlt2⟩ := hlt
      have h01 : (k : Int) < (n : Int) := by omega
      have h02 : (k : Int) < 50 := by omega
      have hk0 : (0 : Int) ≤ (k : Int) := Int.natCast_nonneg _
      have hwk : IntKind.i64.wrap ((k : Int) + 1) = (k : Int) + 1 := IntWalk.i64_in _ (by omega)
      obtain ⟨b, off, rfl, hbB, hbw, hcell⟩ := HROW.out.open_ (k := k) (by rw [strs, List.length_map, HN.out]; exact hlt1)
      obtain ⟨l, hl⟩ : ∃ l, zs[k]? = some l := ⟨_, List.getElem?_eq_getElem (by rw [HN.out]; exact hlt1)⟩
      have hck : wr.cell? ⟨b, off + k, none⟩ = some (.string l) := (HO.out.cell (p := ⟨b, off + k, none⟩) hbw (by simp)).trans (hcell k _ (by rw [strs, List.getElem?_map, hl]; rfl))
      have HTK : Hid (strs ((zs.take (k + 1)).map short6) = strs ((zs.take k).map short6) ++ [.string (short6 l)]) := Lib.hid (by rw [List.take_add_one, hl]; simp [strs])
      have HSL := Lib.hid (HS.out l wr (HZ.out l (List.mem_of_getElem? hl)))
      generalize short6 l = x at *
      have hlen : (strs ((zs.take k).map short6)).length = k := by rw [strs, List.length_map, List.length_map, List.length_take, HN.out]; omega
      clear hcell hl
      go_wp2_with fail
      refine (HSL.out).mono ?_
      rintro e w' ⟨rfl, rfl⟩
      go_wp2_with (at_builtin; refine wpList_append_row _ rfl (.tmp 16) (.tmp 22) _ rfl w.heap.size 9 i0 _ 1 16 Tryd.underlying26 hi hz0 hz1 hz2 rfl (by omega) _ k (strs ((zs.take k).map short6)) rfl (own_only HOWN.out ((Only.refl [] _).alloc _) (by simp)) (wr.heap.size + 1) (some ⟨wr.heap.size, 0, none⟩) 1 1 [.string x] rfl rfl (row_lit wr 9 #[.string x]) (by simp [Value.oneCell']) (by unfold maxLen; omega) (by omega) (by simp; omega) ?_; intro v3 w3 hown3 hgrow hat)
      have REL : w3.ownsRow w.heap.size 9 1 v3 (k + 1) (strs ((zs.take (k + 1)).map short6)) ∧ Only [] w w3 :=
        ⟨by rw [HTK.out]; exact hown3, (HO.out.alloc _).step (only_grown hgrow) (own_new HOWN.out)⟩
      have HREL := Lib.hid REL
      clear REL hown3 hgrow hat hlen
      go_wp2
      go_roundw
      case rel => exact ⟨k + 1, by go_num, by omega, by omega, Lib.hid HREL.out.1, Lib.hid HREL.out.2⟩
      case measure => simp [intOf]; omega
    · have hxs2 : ∀ x ∈ (zs.take k).map short6, x.size ≤ 2000 := by
        intro x hx
        obtain ⟨y, -, rfl⟩ := List.mem_map.1 hx
        exact short6_size y
      have hxl : ((zs.take k).map short6).length = k := by rw [List.length_map, List.length_take, HN.out]; omega
      generalize (zs.take k).map short6 = xs at *
      have hjl := joinW_le 2000 50 xs hxs2 (by omega)
      obtain ⟨A1, c1, hV, hc1, hc2, -, hrow⟩ := own_row HOWN.out
      have HJ := Lib.hid (fun A' c' B' w' hA' hc' => join_any A' k c' B' xs w' hA' hxl hc' (by omega) (by omega))
      have HRJ := Lib.hid (fun A' c' B' w' hA' => rjoin_any A' k c' B' xs w' hA' hxl (by omega) hxs2)
      generalize (⟨(joinW xs).toArray⟩ : ByteArray) = r at *
      have htt : (r.toList == r.toList) = true := by simp
      have HXL := Lib.hid hxl
      have hsx : (strs xs).length = k := by rw [strs, List.length_map]; exact hxl
      subst hV
      have HROW1 := Lib.hid hrow
      have hmade : (wr.alloc (.cells #[] 9)).ownsRow wr.heap.size 9 1 (.slice (some ⟨wr.heap.size, 0, none⟩) 0 0) 0 [] := World.ownsRow_lit wr #[] 0 (Nat.le_refl _) (by unfold maxLen; omega) rfl
      have HMADE := Lib.hid hmade
      clear hjl hxs2 hxl hrow hmade
      have hguard : (decide ((k : Int) < (n : Int)) = false ∧ decide (k < n) = false) ∨ ((k : Int) < (n : Int) ∧ decide ((k : Int) < 50) = false ∧ decide (k < 50) = false) := by
        by_cases h : k < n
        · right
          exact ⟨by omega, decide_eq_false (by omega), decide_eq_false (by omega)⟩
        · left
          exact ⟨decide_eq_false (by omega), decide_eq_false (by omega)⟩
      clear hlt
      rcases hguard with ⟨h1, h2⟩ | ⟨h1, h2, h3⟩
      · go_wp2_with (at_builtin; refine wpList_append_row _ rfl (.tmp 24) (.tmp 25) _ rfl wr.heap.size 9 i0 _ 1 16 Tryd.underlying26 hi hz0 hz1 hz2 rfl (by omega) _ 0 [] rfl HMADE.out _ A1 k c1 (strs xs) (by first | rfl | simp) (by omega) (HROW1.out.only ((Only.refl [] wr).alloc _) (by simp)) (by intro u hu; obtain ⟨y, -, rfl⟩ := List.mem_map.1 hu; rfl) (by unfold maxLen; omega) (by omega) (by simp) ?_; intro v3 w3 hown3 hgrow hat)
        have HO3 := Lib.hid (((HO.out.alloc (.cells #[] 9)).step (T := [wr.heap.size]) (only_grown hgrow) (fun j hj hl => by simp at hj; omega)))
        have HR3 := Lib.hid (HROW1.out.only (((Only.refl [] wr).alloc (.cells #[] 9)).step (T := [wr.heap.size]) (only_grown hgrow) (fun j hj hl => by simp at hj; omega)) (by simp))
        obtain ⟨A3, c3, rfl, hc31, hc32, -, hrow3⟩ := own_row hown3
        rw [Nat.zero_add, List.nil_append] at *
        have HJ3 := Lib.hid (HJ.out A3 c3 _ w3 hrow3 (by omega))
        clear hown3 hgrow hat hrow3
        go_wp2_with fail
        refine (HJ3.out).mono ?_
        rintro e w4 ⟨rfl, hO4⟩
        have HRJ4 := Lib.hid (HRJ.out A1 c1 _ w4 (HR3.out.only hO4 (by simp)))
        have HO4 := Lib.hid (HO3.out.trans hO4)
        clear hO4
        go_wp2_with fail
        refine (HRJ4.out).mono ?_
        rintro e w4' ⟨rfl, rfl⟩
        go_wp2_with fail
        refine (HW.out _ HO4.out).mono ?_
        rintro e w5 ⟨rfl, hO5⟩
        have HO5 := Lib.hid (HO4.out.trans hO5)
        clear hO5
        go_wp2
        go_ret
        exact ⟨rfl, HO5.out⟩
      · go_wp2_with (at_builtin; refine wpList_append_row _ rfl (.tmp 24) (.tmp 25) _ rfl wr.heap.size 9 i0 _ 1 16 Tryd.underlying26 hi hz0 hz1 hz2 rfl (by omega) _ 0 [] rfl HMADE.out _ A1 k c1 (strs xs) (by first | rfl | simp) (by omega) (HROW1.out.only ((Only.refl [] wr).alloc _) (by simp)) (by intro u hu; obtain ⟨y, -, rfl⟩ := List.mem_map.1 hu; rfl) (by unfold maxLen; omega) (by omega) (by simp) ?_; intro v3 w3 hown3 hgrow hat)
        have HO3 := Lib.hid (((HO.out.alloc (.cells #[] 9)).step (T := [wr.heap.size]) (only_grown hgrow) (fun j hj hl => by simp at hj; omega)))
        have HR3 := Lib.hid (HROW1.out.only (((Only.refl [] wr).alloc (.cells #[] 9)).step (T := [wr.heap.size]) (only_grown hgrow) (fun j hj hl => by simp at hj; omega)) (by simp))
        obtain ⟨A3, c3, rfl, hc31, hc32, -, hrow3⟩ := own_row hown3
        rw [Nat.zero_add, List.nil_append] at *
        have HJ3 := Lib.hid (HJ.out A3 c3 _ w3 hrow3 (by omega))
        clear hown3 hgrow hat hrow3
        go_wp2_with fail
        refine (HJ3.out).mono ?_
        rintro e w4 ⟨rfl, hO4⟩
        have HRJ4 := Lib.hid (HRJ.out A1 c1 _ w4 (HR3.out.only hO4 (by simp)))
        have HO4 := Lib.hid (HO3.out.trans hO4)
        clear hO4
        go_wp2_with fail
        refine (HRJ4.out).mono ?_
        rintro e w4' ⟨rfl, rfl⟩
        go_wp2_with fail
        refine (HW.out _ HO4.out).mono ?_
        rintro e w5 ⟨rfl, hO5⟩
        have HO5 := Lib.hid (HO4.out.trans hO5)
        clear hO5
        go_wp2
        go_ret
        exact ⟨rfl, HO5.out⟩

end Go.Proofs.YtaeildajbhiedaaDoor
