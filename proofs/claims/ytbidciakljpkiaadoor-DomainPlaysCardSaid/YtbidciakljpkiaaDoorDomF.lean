/- Contracts of the package domain for whatever variable and value; the law's few; rows of one's own, with room below. -/
import Derived.Test.YtbidciakljpkiaaDoorDomNone
import Derived.Test.YtbidciakljpkiaaDoorSame
import Derived.Test.YtbidciakljpkiaaDoorInts
set_option linter.unusedVariables false
set_option linter.unusedSimpArgs false
namespace Go.Proofs.YtbidciakljpkiaaDoor
open Go.RowKit
attribute [local go_sem ↓] Go.wp_at_zero Go.wp_at_succ

/-- What is left of whatever variable. -/
def lv (I : List (List Bool)) (v : Int) : List Bool := if v < 0 then [] else I.getD v.toNat []
def inR (I : List (List Bool)) (v k : Int) : Bool := decide (0 ≤ k ∧ k < (lv I v).length)
def drE (I : List (List Bool)) (v k : Int) : Int := if inR I v k = false then 2 else if places (lv I v) = [k.toNat] then 3 else 0
def drI (I : List (List Bool)) (v k : Int) : List (List Bool) := if inR I v k = true ∧ places (lv I v) ≠ [k.toNat] then I.set v.toNat ((lv I v).set k.toNat false) else I
def onE (I : List (List Bool)) (v k : Int) : Int := if inR I v k = false then 2 else if (lv I v).getD k.toNat false = false then 3 else 0
def onI (I : List (List Bool)) (v k : Int) : List (List Bool) := if inR I v k = true ∧ (lv I v).getD k.toNat false = true then I.set v.toNat (oneOf (lv I v).length k.toNat) else I

theorem lv_none {I : List (List Bool)} {v : Int} (h : v < 0 ∨ (I.length : Int) ≤ v) : lv I v = [] := by
  unfold lv
  split
  · rfl
  · rw [List.getD_eq_getElem?_getD, List.getElem?_eq_none (by omega)]; rfl
theorem lv_some {I : List (List Bool)} {v : Nat} {l : List Bool} (h : I[v]? = some l) : lv I (v : Int) = l := by
  unfold lv
  rw [if_neg (by omega), Int.toNat_natCast, List.getD_eq_getElem?_getD, h]
  rfl
theorem range_or (I : List (List Bool)) (v : Int) : (v < 0 ∨ (I.length : Int) ≤ v) ∨ ∃ (n : Nat) (l : List Bool), v = n ∧ I[n]? = some l := by
  by_cases h : v < 0 ∨ (I.length : Int) ≤ v
  · exact .inl h
  · obtain ⟨n, rfl⟩ := Int.eq_ofNat_of_zero_le (show 0 ≤ v by omega)
    exact .inr ⟨n, _, rfl, List.getElem?_eq_getElem (by omega)⟩

section
variable {w : World} {p q B : Nat} {sz : List Nat} {I : List (List Bool)} {T : List (List (List Bool))} {fp : List Nat}
theorem ddrop_arg (v k : Int) (P : Option Addr) (hw : Calls Tryd.prog 28 #[.pointer P, .int .i64 v, .int .i64 k] w fun e w' => e = .returned (.int .i64 2) ∧ w = w') :
    Calls Tryd.prog 12 #[.pointer P, .int .i64 v, .int .i64 k] w fun e w' => e = .returned (.int .i64 2) ∧ w = w' := by
  have HC := Lib.hid hw
  clear hw
  go_enter Tryd.func12, Tryd.ntmps12
  go_wp2_with fail
  refine (HC.out).mono ?_
  rintro e w' ⟨rfl, rfl⟩
  go_wp2
  go_ret
  exact ⟨rfl, rfl⟩
theorem donly_arg (v k : Int) (P : Option Addr) (hw : Calls Tryd.prog 28 #[.pointer P, .int .i64 v, .int .i64 k] w fun e w' => e = .returned (.int .i64 2) ∧ w = w') :
    Calls Tryd.prog 14 #[.pointer P, .int .i64 v, .int .i64 k] w fun e w' => e = .returned (.int .i64 2) ∧ w = w' := by
  have HC := Lib.hid hw
  clear hw
  go_enter Tryd.func14, Tryd.ntmps14
  go_wp2_with fail
  refine (HC.out).mono ?_
  rintro e w' ⟨rfl, rfl⟩
  go_wp2
  go_ret
  exact ⟨rfl, rfl⟩
theorem dwrong_any (h : Dom w p q B sz I T fp) (v k : Int) (hR : inR I v k = false) :
    Calls Tryd.prog 28 #[.pointer (some ⟨p, 0, none⟩), .int .i64 v, .int .i64 k] w fun e w' => e = .returned (.int .i64 2) ∧ w = w' := by
  rcases range_or I v with hv | ⟨n, l, rfl, hv⟩
  · exact dwrong_out h k hv
  · unfold inR at hR
    rw [lv_some hv] at hR
    exact dwrong_value h hv k (by simp at hR; omega)
theorem inR_some {v k : Int} (hR : inR I v k = true) : ∃ (n j : Nat) (l : List Bool), v = n ∧ k = j ∧ I[n]? = some l ∧ j < l.length ∧ lv I v = l := by
  rcases range_or I v with hv | ⟨n, l, rfl, hv⟩
  · unfold inR at hR
    rw [lv_none hv] at hR
    simp at hR
    omega
  · unfold inR at hR
    rw [lv_some hv] at hR
    simp at hR
    obtain ⟨j, rfl⟩ := Int.eq_ofNat_of_zero_le hR.1
    exact ⟨n, j, l, rfl, rfl, hv, by omega, lv_some hv⟩

theorem ddrop_any (h : Dom w p q B sz I T fp) (v k : Int) :
    Calls Tryd.prog 12 #[.pointer (some ⟨p, 0, none⟩), .int .i64 v, .int .i64 k] w fun e w' => e = .returned (.int .i64 (drE I v k)) ∧ Dom w' p q B sz (drI I v k) T fp ∧ Only fp w w' := by
  cases hR : inR I v k with
  | false =>
    refine (ddrop_arg v k _ (dwrong_any h v k hR)).mono ?_
    rintro e w' ⟨rfl, rfl⟩
    unfold drE drI
    rw [if_pos hR, if_neg (by simp [hR])]
    exact ⟨rfl, h, Only.refl _ _⟩
  | true =>
    obtain ⟨n, j, l, rfl, rfl, hv, hj, hl⟩ := inR_some hR
    unfold drE drI
    rw [hl, hR, Int.toNat_natCast, Int.toNat_natCast]
    by_cases hp : places l = [j]
    · refine (ddrop_last h hv hj hp).mono ?_
      rintro e w' ⟨rfl, d, rfl⟩
      rw [if_neg (by simp), if_pos hp, if_neg (by simp [hp])]
      exact ⟨rfl, h.keep ((Only.refl [] w).drewN d), (Only.refl _ _).drewN d⟩
    · refine (ddrop_some h hv hj hp).mono ?_
      rintro e w' ⟨rfl, hD, hO⟩
      rw [if_neg (by simp), if_neg hp, if_pos ⟨rfl, hp⟩]
      exact ⟨rfl, hD, hO⟩
theorem donly_any (h : Dom w p q B sz I T fp) (v k : Int) :
    Calls Tryd.prog 14 #[.pointer (some ⟨p, 0, none⟩), .int .i64 v, .int .i64 k] w fun e w' => e = .returned (.int .i64 (onE I v k)) ∧ Dom w' p q B sz (onI I v k) T fp ∧ Only fp w w' := by
  cases hR : inR I v k with
  | false =>
    refine (donly_arg v k _ (dwrong_any h v k hR)).mono ?_
    rintro e w' ⟨rfl, rfl⟩
    unfold onE onI
    rw [if_pos hR, if_neg (by simp [hR])]
    exact ⟨rfl, h, Only.refl _ _⟩
  | true =>
    obtain ⟨n, j, l, rfl, rfl, hv, hj, hl⟩ := inR_some hR
    unfold onE onI
    rw [hl, hR, Int.toNat_natCast, Int.toNat_natCast]
    cases hp : l.getD j false with
    | false =>
      refine (donly_gone h hv hj hp).mono ?_
      rintro e w' ⟨rfl, d, rfl⟩
      rw [if_neg (by simp), if_pos rfl, if_neg (by simp)]
      exact ⟨rfl, h.keep ((Only.refl [] w).drewN d), (Only.refl _ _).drewN d⟩
    | true =>
      refine (donly_there h hv hj hp).mono ?_
      rintro e w' ⟨rfl, hD, hO⟩
      rw [if_neg (by simp), if_neg (by simp), if_pos ⟨rfl, rfl⟩]
      exact ⟨rfl, hD, hO⟩
theorem dleft_any (h : Dom w p q B sz I T fp) (v : Int) (hT : Tab w) (h00 : 0 < w.heap.size) :
    Calls Tryd.prog 23 #[.pointer (some ⟨p, 0, none⟩), .int .i64 v] w fun e w' => ∃ V, (e = .returned V ∧ w'.ownsRow w.heap.size 3 1 V (pints (lv I v)).length ((pints (lv I v)).map (Value.int .i64))) ∧ Only [] w w' := by
  rcases range_or I v with hv | ⟨n, l, rfl, hv⟩
  · refine (dleft_out h hv).mono ?_
    rintro e w' ⟨rfl, rfl⟩
    rw [lv_none hv]
    exact ⟨_, ⟨rfl, World.ownsRow_nil _ _ _ _⟩, Only.refl _ _⟩
  · rw [lv_some hv]
    have e : (pints l).length = (places l).length := by rw [pints, List.length_map]
    rw [e]
    exact dleft_in h hv hT h00
theorem dfixed_any (h : Dom w p q B sz I T fp) (v : Int) (hT : Tab w) (h00 : 0 < w.heap.size) :
    Calls Tryd.prog 21 #[.pointer (some ⟨p, 0, none⟩), .int .i64 v] w fun e w' => e = .returned (.tuple #[.int .i64 (fxV (lv I v)), .bool (fxB (lv I v))]) ∧ Only [] w w' := by
  rcases range_or I v with hv | ⟨n, l, rfl, hv⟩
  · refine (dfixed_out h hv).mono ?_
    rintro e w' ⟨rfl, rfl⟩
    rw [lv_none hv]
    exact ⟨rfl, Only.refl _ _⟩
  · rw [lv_some hv]
    exact dfixed_in h hv hT h00
theorem Dom.pl_len (h : Dom w p q B sz I T fp) (v : Int) : (pints (lv I v)).length ≤ 60 := by
  rcases range_or I v with hv | ⟨n, l, rfl, hv⟩
  · rw [lv_none hv]; simp [pints, places]
  · rw [lv_some hv, pints, List.length_map]
    have := places_length l
    have := (h.ok l (List.mem_of_getElem? hv)).1
    omega
theorem Dom.pl_ne (h : Dom w p q B sz I T fp) {v : Nat} (hv : v < I.length) : pints (lv I (v : Int)) ≠ [] := by
  rw [lv_some (List.getElem?_eq_getElem hv), pints]
  intro e
  exact (h.ok I[v] (List.getElem_mem hv)).2 (List.map_eq_nil_iff.1 e)
end

theorem own_base {w : World} {b b' : Nat} {e : TypeId} {size : Nat} {v : Value} {n : Nat} {xs : List Value} (h : w.ownsRow b e size v n xs) (hb : b' ≤ b) : w.ownsRow b' e size v n xs := by
  obtain ⟨hl, hv⟩ := h
  refine ⟨hl, ?_⟩
  rcases hv with hv | ⟨g, cap, cur, rfl, h1, rest⟩
  · exact .inl hv
  · exact .inr ⟨g, cap, cur, rfl, Nat.le_trans hb h1, rest⟩

/-- How many sizes few lets through. -/
def fewN (n : Nat) : Nat := if 200 < n then 201 else min n 8
theorem one_ints' (zs : List Int) : ∀ u ∈ zs.map (Value.int .i64), u.oneCell' = true := fun u hu => by
  obtain ⟨z, _, rfl⟩ := List.mem_map.1 hu
  rfl

set_option maxHeartbeats 1000000 in
theorem few32_any (A : Option Addr) (n c : Nat) (zs : List Int) (w : World) (hr : Row w w.heap.size A (zs.map (Value.int .i64))) (hl : zs.length = n) (hnc : n ≤ c) (hc : c ≤ maxLen) :
    Calls Tryd.prog 6 #[.slice A n c] w fun e w' => ∃ v, e = .returned v ∧ w'.ownsRow w.heap.size 3 1 v (fewN n) ((zs.take (fewN n)).map (Value.int .i64)) ∧ Only [] w w' := by
  have IC : Hid (∀ j, j = fewN n → Calls Tryd.prog 26 #[.slice A j c] w fun e w' => ∃ v, e = .returned v ∧ w'.ownsRow w.heap.size 3 1 v (fewN n) ((zs.take (fewN n)).map (Value.int .i64)) ∧ Only [] w w') := by
    rintro j rfl
    refine ints_any A _ c _ w ?_ ?_ (one_ints' _) (by unfold fewN; split <;> omega)
    · rw [List.map_take]; exact hr.take _
    · rw [List.length_map, List.length_take, hl]; unfold fewN; split <;> omega
  unfold maxLen at hc
  clear hr hl
  by_cases h2 : 200 < n
  · have hd : decide (200 < (n : Int)) = true := by simp; omega
    have hj : (201 : Nat) = fewN n := by unfold fewN; rw [if_pos h2]
    have HJ := Lib.hid hj
    clear hj
    go_enter Tryd.func6, Tryd.ntmps6
    go_wp2_with fail
    refine (IC.out _ HJ.out).mono ?_
    rintro e w1 ⟨v, rfl, hown, hO⟩
    go_wp2
    go_ret
    exact ⟨v, rfl, hown, hO⟩
  · have hd : decide (200 < (n : Int)) = false := by simp; omega
    by_cases h8 : n ≤ 8
    · have hj : n = fewN n := by unfold fewN; rw [if_neg h2]; omega
      have HJ := Lib.hid hj
      have hmin : min (n : Int) 8 = (n : Int) := by omega
      clear hj
      go_enter Tryd.func6, Tryd.ntmps6
      go_wp2_with fail
      refine (IC.out _ HJ.out).mono ?_
      rintro e w1 ⟨v, rfl, hown, hO⟩
      go_wp2
      go_ret
      exact ⟨v, rfl, hown, hO⟩
    · have hj : (8 : Nat) = fewN n := by unfold fewN; rw [if_neg h2]; omega
      have HJ := Lib.hid hj
      have hmin : min (n : Int) 8 = 8 := by omega
      clear hj
      go_enter Tryd.func6, Tryd.ntmps6
      go_wp2_with fail
      refine (IC.out _ HJ.out).mono ?_
      rintro e w1 ⟨v, rfl, hown, hO⟩
      go_wp2
      go_ret
      exact ⟨v, rfl, hown, hO⟩

end Go.Proofs.YtbidciakljpkiaaDoor
