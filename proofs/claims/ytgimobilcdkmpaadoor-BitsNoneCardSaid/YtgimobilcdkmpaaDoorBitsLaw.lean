/- The walks of BitsChange and BitsNone. -/
import Derived.Test.YtgimobilcdkmpaaDoorBitsW
set_option linter.unusedVariables false
set_option linter.unusedSimpArgs false
namespace Go.Proofs.YtgimobilcdkmpaaDoor
open Go.RowKit

set_option maxHeartbeats 2000000 in
theorem bitsChange_walk (A : Option Addr) (k c : Nat) (zs : List Int) (n m : Int) (w : World) (hr : Row w w.heap.size A (zs.map (Value.int .i64))) (hl : zs.length = k) (hkc : k ≤ c) (hc : c ≤ maxLen) (hT : Tab w) (h00 : 0 < w.heap.size) :
    Calls Tryd.prog 5 #[.slice A k c, .int .i64 n, .int .i64 m] w fun e w' => e = .returned (.bool true) ∧ Only [] w w' := by
  have HR := Lib.hid hr
  have HT := Lib.hid hT
  have HL := Lib.hid hl
  clear hr hT hl
  go_enter Tryd.func5, Tryd.ntmps5
  go_wp2_with fail
  refine (bworks_any _ HT.out h00).mono ?_
  rintro e w1 ⟨rfl, O1⟩
  go_wp2_with fail
  refine (few18_any A k c zs _ ?_ HL.out hkc hc).mono ?_
  · have := HR.out.only O1 (by simp)
    rcases this with h | ⟨b, off, e, hb, hs, hcell⟩
    · exact .inl h
    · exact .inr ⟨b, off, e, by omega, Nat.le_refl _, hcell⟩
  rintro e w2 ⟨v, rfl, hown, O2⟩
  obtain ⟨A2, c2, rfl, hc21, hc22, -, r2⟩ := own_row hown
  have HR2 := Lib.hid r2
  have hlen : (zs.take (min k 100)).length = min k 100 := by rw [List.length_take, HL.out]; omega
  have HLEN := Lib.hid hlen
  have hmin : min k 100 ≤ 100 := by omega
  generalize zs.take (min k 100) = ys at *
  generalize min k 100 = j at *
  clear r2 hown hlen
  go_wp2_with fail
  refine (new_any A2 j c2 ys _ HR2.out HLEN.out (by omega)).mono ?_
  rintro e w3 ⟨rfl, B3, O3⟩
  have P3 := O1.trans (O2.trans O3)
  have hl3 : w.heap.size ≤ w2.heap.size := (O1.trans O2).size
  have HLW := makeW_len ys
  generalize makeW ys = ws at *
  clear O1 O2 O3 HR2 HLEN
  go_wp2_with fail
  refine (has_any _ m _ _ B3).mono ?_
  rintro e w4 ⟨rfl, rfl⟩
  go_wp2_with fail
  refine (put_any _ n _ _ B3).mono ?_
  rintro e w4 ⟨rfl, B4, O4⟩
  have P4 : Only [] w w4 := P3.step O4 (fun i hi hlt => by simp at hi; omega)
  have hb3 := B3.2.2
  have hput := has_put ws n
  clear B3 P3 O4
  cases hm : mayN n with
  | false =>
    have e1 : putW ws n = ws := by unfold putW; rw [hm]; rfl
    have e2 : hasW ws n = false := by unfold hasW; rw [hm]; rfl
    rw [e1] at B4
    have HE := Lib.hid e2
    have hr0 : (if (false : Bool) = true then (0 : Int) else 2) = 2 := rfl
    rw [hr0]
    clear e1 e2 hm hput hr0
    go_wp2_with fail
    refine (has_any _ n _ _ B4).mono ?_
    rintro e w5 ⟨rfl, rfl⟩
    rw [HE.out]
    go_wp2_with fail
    refine (has_any _ m _ _ B4).mono ?_
    rintro e w5 ⟨rfl, rfl⟩
    go_wp2
    go_ret
    exact ⟨rfl, P4⟩
  | true =>
    have e1 : hasW (putW ws n) n = true := by rw [hput n HLW, if_pos ⟨hm, rfl⟩]
    have e2 : m ≠ n → hasW (putW ws n) m = hasW ws m := fun h => by rw [hput m HLW, if_neg (fun hh => h hh.2)]
    have hdrop := has_drop (putW ws n) n
    have hl4 : (putW ws n).length = 8 := by rw [putW_len]; exact HLW
    have hb4 := B4.2.2
    have f1 : hasW (dropW (putW ws n) n) n = false := by rw [hdrop n hl4 hb4, if_pos rfl]
    have f2 : m ≠ n → hasW (dropW (putW ws n) n) m = hasW ws m := fun h => by rw [hdrop m hl4 hb4, if_neg h, e2 h]
    have hr0 : (if (true : Bool) = true then (0 : Int) else 2) = 0 := rfl
    rw [hr0]
    have E1 := Lib.hid e1
    have E2 := Lib.hid e2
    have F1 := Lib.hid f1
    have F2 := Lib.hid f2
    have HM := Lib.hid hm
    clear e1 e2 f1 f2 hdrop hl4 hb4 hr0 hm hput
    by_cases hmn : m = n
    · have hmn' : (m == n) = true := by simp [hmn]
      clear hmn
      go_wp2_with fail
      refine (has_any _ n _ _ B4).mono ?_
      rintro e w5 ⟨rfl, rfl⟩
      rw [E1.out]
      go_wp2_with fail
      refine (drop_any _ n _ _ B4).mono ?_
      rintro e w5 ⟨rfl, B5, O5⟩
      have P5 : Only [] w w5 := P4.step O5 (fun i hi hlt => by simp at hi; omega)
      rw [HM.out, if_pos rfl]
      go_wp2_with fail
      refine (has_any _ n _ _ B5).mono ?_
      rintro e w6 ⟨rfl, rfl⟩
      rw [F1.out]
      go_wp2
      go_ret
      exact ⟨rfl, P5⟩
    · have hmn' : (m == n) = false := by simp [hmn]
      have E2' := Lib.hid (E2.out hmn)
      have F2' := Lib.hid (F2.out hmn)
      clear hmn E2 F2
      go_wp2_with fail
      refine (has_any _ n _ _ B4).mono ?_
      rintro e w5 ⟨rfl, rfl⟩
      rw [E1.out]
      go_wp2_with fail
      refine (has_any _ m _ _ B4).mono ?_
      rintro e w5 ⟨rfl, rfl⟩
      rw [E2'.out]
      go_wp2_with fail
      refine (drop_any _ n _ _ B4).mono ?_
      rintro e w5 ⟨rfl, B5, O5⟩
      have P5 : Only [] w w5 := P4.step O5 (fun i hi hlt => by simp at hi; omega)
      rw [HM.out, if_pos rfl]
      go_wp2_with fail
      refine (has_any _ n _ _ B5).mono ?_
      rintro e w6 ⟨rfl, rfl⟩
      rw [F1.out]
      go_wp2_with fail
      refine (has_any _ m _ _ B5).mono ?_
      rintro e w6 ⟨rfl, rfl⟩
      rw [F2'.out]
      go_wp2
      go_ret
      exact ⟨rfl, P5⟩

set_option maxHeartbeats 2000000 in
theorem bitsNone_walk (A : Option Addr) (k c : Nat) (zs : List Int) (n : Int) (w : World) (hr : Row w w.heap.size A (zs.map (Value.int .i64))) (hl : zs.length = k) (hkc : k ≤ c) (hc : c ≤ maxLen) (hT : Tab w) (h00 : 0 < w.heap.size) :
    Calls Tryd.prog 6 #[.int .i64 n, .slice A k c] w fun e w' => e = .returned (.bool true) ∧ Only [] w w' := by
  have HR := Lib.hid hr
  have HT := Lib.hid hT
  have HL := Lib.hid hl
  clear hr hT hl
  go_enter Tryd.func6, Tryd.ntmps6
  go_wp2_with fail
  refine (few18_any A k c zs _ HR.out HL.out hkc hc).mono ?_
  rintro e w2 ⟨v, rfl, hown, O2⟩
  obtain ⟨A2, c2, rfl, hc21, hc22, -, r2⟩ := own_row hown
  have HR2 := Lib.hid r2
  have hlen : (zs.take (min k 100)).length = min k 100 := by rw [List.length_take, HL.out]; omega
  have HLEN := Lib.hid hlen
  have hmin : min k 100 ≤ 100 := by omega
  generalize zs.take (min k 100) = ys at *
  generalize min k 100 = j at *
  clear r2 hown hlen
  go_wp2_with fail
  refine (new_any A2 j c2 ys _ HR2.out HLEN.out (by omega)).mono ?_
  rintro e w3 ⟨rfl, B3, O3⟩
  have P3 := O2.trans O3
  have T3 := HT.out.only h00 P3 (by simp)
  have hl3 : 0 < w3.heap.size := Nat.lt_of_lt_of_le h00 P3.size
  generalize makeW ys = ws at *
  have HB3 := Lib.hid B3
  have HT3 := Lib.hid T3
  have HP3 := Lib.hid P3
  clear O2 O3 HR2 HLEN B3 T3 P3
  go_wp2_with fail
  have hln := len_some _ ws _ HB3.out
  generalize lenTo ws 8 = ln at *
  have HLN := Lib.hid hln
  clear hln
  refine (HLN.out).mono ?_
  rintro e w4 ⟨rfl, rfl⟩
  go_wp2_with fail
  refine (put_none n _).mono ?_
  rintro e w4 ⟨rfl, rfl⟩
  go_wp2_with fail
  refine (drop_none n _).mono ?_
  rintro e w4 ⟨rfl, rfl⟩
  go_wp2_with fail
  refine (has_none n _).mono ?_
  rintro e w4 ⟨rfl, rfl⟩
  go_wp2_with fail
  refine (join_none _ _).mono ?_
  rintro e w4 ⟨rfl, rfl⟩
  go_wp2_with fail
  refine (meets_none _ _).mono ?_
  rintro e w4 ⟨rfl, rfl⟩
  go_wp2_with fail
  refine (meets_none2 _ _).mono ?_
  rintro e w4 ⟨rfl, rfl⟩
  go_wp2_with fail
  refine (join_none2 _ _).mono ?_
  rintro e w4 ⟨rfl, rfl⟩
  go_wp2_with fail
  refine (len_none _).mono ?_
  rintro e w4 ⟨rfl, rfl⟩
  go_wp2_with fail
  refine (all_none _).mono ?_
  rintro e w4 ⟨rfl, rfl⟩
  go_wp2_with fail
  refine (copy_none _).mono ?_
  rintro e w4 ⟨rfl, rfl⟩
  go_wp2_with fail
  refine (HLN.out).mono ?_
  rintro e w4 ⟨rfl, rfl⟩
  go_wp2_with fail
  refine (bworks_any _ HT3.out hl3).mono ?_
  rintro e w5 ⟨rfl, O5⟩
  go_wp2
  go_ret
  exact ⟨rfl, HP3.out.trans O5⟩

end Go.Proofs.YtgimobilcdkmpaaDoor
