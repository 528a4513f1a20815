/- Parts. -/
import Derived.Test.YtojpohmijlkagaaDoorLaw43AllK10
import Derived.Test.YtojpohmijlkagaaDoorLaw43AllK29
set_option maxRecDepth 10000
set_option maxHeartbeats 16000000
set_option linter.unusedVariables false
set_option linter.unusedSimpArgs false
namespace Go.Proofs.YtojpohmijlkagaaDoor
open Go.RowKit
theorem rparse_text (s : ByteArray) (w : World) (h : s.size ≤ 9223372036854775807) (hd : digB s.data.toList = false) :
  Calls Tryd.prog 57 #[.string s] w fun e w' => e = .returned (.tuple #[.int .i64 (prN s.data.toList), .int .i64 (prE s.data.toList)]) ∧ w = w' := by
 have hc := rdigits_any s w h;rw [hd] at hc;have HC := Hd hc;have e1 : prE s.data.toList = 5 := by unfold prE; rw [if_pos hd]
 have e2 : prN s.data.toList = 0 := by unfold prN; rw [e1]; rfl
 rw [e1, e2];clear hc e1 e2 hd;go_enter Tryd.func57, Tryd.ntmps57;go_wp2_with fail
 refine HC.out.mono ?_;rintro e w' ⟨rfl, rfl⟩;go_wp2
 go_ret2
 exact ⟨rfl, rfl⟩
theorem val_drop_succ {s : ByteArray} {off k : Nat} (ho : off ≤ k) (hk : k < s.size) :
  val ((s.data.toList.drop off).take (k + 1 - off)) = val ((s.data.toList.drop off).take (k - off)) * 10 + (s[k].toNat - 48) := by
 have hl : k - off < (s.data.toList.drop off).length := by rw [List.length_drop, ← Lib.size_eq]; omega
 rw [show k + 1 - off = (k - off) + 1 by omega, List.take_succ_eq_append_getElem hl, val_snoc]
 congr 3
 rw [List.getElem_drop];simp only [show off + (k - off) = k by omega]
 rfl
theorem take_ge (l : List UInt8) (k : Nat) : val (l.take k) ≤ val l := by
 have := val_append_ge (l.take k) (l.drop k)
 rwa [List.take_append_drop] at this
theorem digit_off {s : ByteArray} {off k : Nat} (hall : (s.data.toList.drop off).all isDig = true) (ho : off ≤ k) (hk : k < s.size) : 48 ≤ s[k].toNat ∧ s[k].toNat ≤ 57 := by
 have hl : k - off < (s.data.toList.drop off).length := by rw [List.length_drop, ← Lib.size_eq]; omega
 have := List.all_eq_true.1 hall _ (List.getElem_mem hl);rw [List.getElem_drop] at this;simp only [show off + (k - off) = k by omega] at this;exact isDig_iff.1 this
theorem rparse_neg (s : ByteArray) (w : World) (h : s.size ≤ 9223372036854775807) (hd : digB s.data.toList = true) (hn : neg s.data.toList = true) :
  Calls Tryd.prog 57 #[.string s] w fun e w' => e = .returned (.tuple #[.int .i64 (prN s.data.toList), .int .i64 (prE s.data.toList)]) ∧ w = w' := by
 have hc := rdigits_any s w h;rw [hd] at hc;have HC := Hd hc;obtain ⟨hne, hall, _⟩ := digB_parts hd;have hr : rest s.data.toList = s.data.toList.drop 1 := by unfold rest; rw [hn]; rfl
 have hl := neg_rest hn;have hp : 0 < s.size := by
  rw [Lib.size_eq, hl]; simp
 have h45 : ((s[0].toNat : Int) == 45) = true := by
  obtain ⟨_, _, _, hh⟩ := nonempty_words hp;unfold neg at hn;rw [hh] at hn;have : s[0] = 45 := by simpa using hn
  rw [this]
  rfl
 clear hl;have HD := Hd hd;have HN := Hd hn;have HR := Hd hr;rw [hr] at hall;have HALL := Hd hall;clear hc hd hall hn hr hne;go_enter Tryd.func57, Tryd.ntmps57;go_wp2_with fail
 refine HC.out.mono ?_;rintro e w' ⟨rfl, rfl⟩;go_wp2
 go_loop [5, 6] (fun j x => ∃ (k : Nat) (m : Int), 1 ≤ k ∧ k ≤ s.size ∧ j = .int .i64 k ∧ x = .int .i64 m ∧ m = -(val ((s.data.toList.drop 1).take (k - 1)) : Int) ∧ -9223372036854775808 ≤ m) (fun j _ => s.size - (intOf j).toNat)
 case atStart => exact ⟨1, 0, Nat.le_refl _, by omega, rfl, rfl, by simp [val], by omega⟩
 case round =>
  obtain ⟨k, m, hko, hk, rfl, rfl, hm, hlo⟩ := hrel;have HM := Hd hm;have hm0 : m ≤ 0 := by omega
  clear hm
  by_cases hlt : k < s.size
  ·obtain ⟨hd1, hd2⟩ := digit_off HALL.out hko hlt;have HS := Hd (val_drop_succ hko hlt);have HT := Hd (take_ge (s.data.toList.drop 1) (k + 1 - 1));have big : m * 10 - (s[k].toNat - 48) < -9223372036854775808 → prE s.data.toList = 8 ∧ prN s.data.toList = 0 := fun hb => by
    have h1 := HM.out;have h2 := HS.out;have h3 := HT.out;have hv : 9223372036854775808 < val (rest s.data.toList) := by rw [HR.out]; omega
    exact pr_neg_big HD.out HN.out hv
   have BIG := Hd big;clear big
   by_cases hA : m < -922337203685477580
   ·go_wp2
    go_ret2
    obtain ⟨b1, b2⟩ := BIG.out (by omega);exact ⟨ret_pair b2.symm b1.symm, rfl⟩
   ·by_cases hB : m = -922337203685477580
    ·have HB := Hd hB;have hB' : (m == -922337203685477580) = true := by simp [hB]
     clear hB
     by_cases hD : (8 : Int) < s[k].toNat - 48
     ·go_wp2
      go_ret2
      obtain ⟨b1, b2⟩ := BIG.out (by have := HB.out; omega);exact ⟨ret_pair b2.symm b1.symm, rfl⟩
     ·have hn1 : -9223372036854775808 ≤ 10 * m - (s[k].toNat - 48) := by have := HB.out; omega
      go_wp2
      go_round
      case rel => exact ⟨k + 1, 10 * m - (s[k].toNat - 48), by omega, by omega, by go_num, rfl, by have h1 := HM.out; have h2 := HS.out; omega, by omega⟩
      case measure => simp [intOf]; omega
    ·have hB' : (m == -922337203685477580) = false := by simp [hB]
     have hn1 : -9223372036854775808 ≤ 10 * m - (s[k].toNat - 48) := by omega
     clear hB;go_wp2
     go_round
     case rel => exact ⟨k + 1, 10 * m - (s[k].toNat - 48), by omega, by omega, by go_num, rfl, by have h1 := HM.out; have h2 := HS.out; omega, by omega⟩
     case measure => simp [intOf]; omega
  ·have hv : Hid (m = -(val (rest s.data.toList) : Int)) := by
    show m = _
    rw [HM.out, HR.out, List.take_of_length_le (by rw [List.length_drop, ← Lib.size_eq]; omega)]
   have HF := Hd (pr_neg HD.out HN.out (by have := hv.out; omega));go_wp2
   go_ret2
   exact ⟨ret_pair (by rw [HF.out.2]; exact hv.out) HF.out.1.symm, rfl⟩
theorem rparse_pos (s : ByteArray) (w : World) (h : s.size ≤ 9223372036854775807) (hd : digB s.data.toList = true) (hn : neg s.data.toList = false) :
  Calls Tryd.prog 57 #[.string s] w fun e w' => e = .returned (.tuple #[.int .i64 (prN s.data.toList), .int .i64 (prE s.data.toList)]) ∧ w = w' := by
 have hc := rdigits_any s w h;rw [hd] at hc;have HC := Hd hc;obtain ⟨hne, hall, _⟩ := digB_parts hd;have hr : rest s.data.toList = s.data.toList.drop 0 := by unfold rest; rw [hn]; rfl
 have hp : 0 < s.size := by
  rw [hr, List.drop_zero] at hne;rw [Lib.size_eq];exact List.length_pos_iff.2 hne
 have h45 : ((s[0].toNat : Int) == 45) = false := by
  obtain ⟨_, _, _, hh⟩ := nonempty_words hp;unfold neg at hn;rw [hh] at hn;have : s[0] ≠ 45 := by simpa using hn
  have h2 : s[0].toNat ≠ 45 := fun e => this (UInt8.toNat.inj e);simp;omega
 have HD := Hd hd;have HN := Hd hn;have HR := Hd hr;rw [hr] at hall;have HALL := Hd hall;clear hc hd hall hn hr hne;go_enter Tryd.func57, Tryd.ntmps57;go_wp2_with fail
 refine HC.out.mono ?_;rintro e w' ⟨rfl, rfl⟩;go_wp2
 go_loop [5, 6] (fun j x => ∃ (k : Nat) (m : Int), 0 ≤ k ∧ k ≤ s.size ∧ j = .int .i64 k ∧ x = .int .i64 m ∧ m = -(val ((s.data.toList.drop 0).take (k - 0)) : Int) ∧ -9223372036854775808 ≤ m) (fun j _ => s.size - (intOf j).toNat)
 case atStart => exact ⟨0, 0, Nat.le_refl _, by omega, rfl, rfl, by simp [val], by omega⟩
 case round =>
  obtain ⟨k, m, hko, hk, rfl, rfl, hm, hlo⟩ := hrel;have HM := Hd hm;have hm0 : m ≤ 0 := by omega
  clear hm
  by_cases hlt : k < s.size
  ·obtain ⟨hd1, hd2⟩ := digit_off HALL.out hko hlt;have HS := Hd (val_drop_succ hko hlt);have HT := Hd (take_ge (s.data.toList.drop 0) (k + 1 - 0));have big : m * 10 - (s[k].toNat - 48) < -9223372036854775808 → prE s.data.toList = 8 ∧ prN s.data.toList = 0 := fun hb => by
    have h1 := HM.out;have h2 := HS.out;have h3 := HT.out;have hv : 9223372036854775808 < val (rest s.data.toList) := by rw [HR.out]; omega
    exact pr_pos_big HD.out HN.out (by omega)
   have BIG := Hd big;clear big
   by_cases hA : m < -922337203685477580
   ·go_wp2
    go_ret2
    obtain ⟨b1, b2⟩ := BIG.out (by omega);exact ⟨ret_pair b2.symm b1.symm, rfl⟩
   ·by_cases hB : m = -922337203685477580
    ·have HB := Hd hB;have hB' : (m == -922337203685477580) = true := by simp [hB]
     clear hB
     by_cases hD : (8 : Int) < s[k].toNat - 48
     ·go_wp2
      go_ret2
      obtain ⟨b1, b2⟩ := BIG.out (by have := HB.out; omega);exact ⟨ret_pair b2.symm b1.symm, rfl⟩
     ·have hn1 : -9223372036854775808 ≤ 10 * m - (s[k].toNat - 48) := by have := HB.out; omega
      go_wp2
      go_round
      case rel => exact ⟨k + 1, 10 * m - (s[k].toNat - 48), by omega, by omega, by go_num, rfl, by have h1 := HM.out; have h2 := HS.out; omega, by omega⟩
      case measure => simp [intOf]; omega
    ·have hB' : (m == -922337203685477580) = false := by simp [hB]
     have hn1 : -9223372036854775808 ≤ 10 * m - (s[k].toNat - 48) := by omega
     clear hB;go_wp2
     go_round
     case rel => exact ⟨k + 1, 10 * m - (s[k].toNat - 48), by omega, by omega, by go_num, rfl, by have h1 := HM.out; have h2 := HS.out; omega, by omega⟩
     case measure => simp [intOf]; omega
  ·have hv : Hid (m = -(val (rest s.data.toList) : Int)) := by
    show m = _
    rw [HM.out, HR.out, List.take_of_length_le (by rw [List.length_drop, ← Lib.size_eq]; omega)]
   by_cases hB : m = -9223372036854775808
   ·have hB' : (m == -9223372036854775808) = true := by simp [hB]
    have HF := Hd (pr_pos_big HD.out HN.out (by have := hv.out; omega));clear hB;go_wp2
    go_ret2
    exact ⟨ret_pair HF.out.2.symm HF.out.1.symm, rfl⟩
   ·have hB' : (m == -9223372036854775808) = false := by simp [hB]
    have hlo' : -9223372036854775807 ≤ m := by omega
    have HF := Hd (pr_pos HD.out HN.out (by have := hv.out; omega));clear hB;go_wp2
    go_ret2
    exact ⟨ret_pair (by rw [HF.out.2]; have := hv.out; omega) HF.out.1.symm, rfl⟩
theorem rparse_any (s : ByteArray) (w : World) (h : s.size ≤ 9223372036854775807) :
  Calls Tryd.prog 57 #[.string s] w fun e w' => e = .returned (.tuple #[.int .i64 (prN s.data.toList), .int .i64 (prE s.data.toList)]) ∧ w = w' := by
 cases hd : digB s.data.toList with
 | false => exact rparse_text s w h hd
 | true =>
  cases hn : neg s.data.toList with
  | false => exact rparse_pos s w h hd hn
  | true => exact rparse_neg s w h hd hn
end Go.Proofs.YtojpohmijlkagaaDoor
