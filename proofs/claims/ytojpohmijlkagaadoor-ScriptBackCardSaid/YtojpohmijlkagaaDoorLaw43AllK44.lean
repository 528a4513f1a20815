/- Parts. -/
import Derived.Test.YtojpohmijlkagaaDoorLaw43AllK20
import Derived.Test.YtojpohmijlkagaaDoorLaw43AllK38
import Derived.Shelf.Strings.Builder1
set_option maxRecDepth 10000
set_option maxHeartbeats 16000000
set_option linter.unusedVariables false
set_option linter.unusedSimpArgs false
namespace Go.Proofs.YtojpohmijlkagaaDoor
open Go.RowKit
theorem bitoa_pos (n : Nat) (w : World) (h : (n : Int) ≤ 9223372036854775807) (h0 : 0 < n) :
  Calls Tryd.prog 32 #[.int .i64 n] w fun e w' => e = .returned (.string ⟨(Lib.itoa n).toArray⟩) ∧ Only [] w w' := by
 have hz : ((n : Int) == 0) = false := by simp; omega
 have hz2 : ¬ (n : Int) < 0 := by omega
 go_enter Tryd.func32, Tryd.ntmps32;go_wp2
 go_loopw [3, 4] (fun t x wr => ∃ (u : Nat) (l : ByteArray), u ≤ n ∧ x = .int .i64 u ∧ t = .string l ∧ Lib.decDigits n = ahead false u ++ l.data.toList ∧ Only [] w wr) (fun _ x _ => (intOf x).toNat)
 case atStart => exact ⟨n, ⟨#[]⟩, Nat.le_refl _, rfl, rfl, by rw [ahead_pos h0]; simp, Only.refl _ _⟩
 case round =>
  obtain ⟨u, l, hu, rfl, rfl, hl, ho⟩ := hrel;have HL := Hd hl;have HO := Hd ho;clear hl ho
  by_cases hp : 0 < u
  ·have hu0 : ((u : Int) != 0) = true := by simp; omega
   have hc := conv_one wr;have hm0 : 0 ≤ (u : Int) % 10 := by omega
   have hm1 : (u : Int) % 10 ≤ 9 := by omega
   have hroom : ¬ 9223372036854775807 < (strOfNums [48 + (u : Int) % 10]).size + l.size := dig_room _ (by omega) hp HL.out;go_wp2
   go_roundw
   case rel => exact ⟨u / 10, _, by omega, by go_num, rfl, dig_step hp HL.out, HO.out.alloc _⟩
   case measure => simp [intOf]; omega
  ·have hu0 : ((u : Int) != 0) = false := by simp; omega
   have hl20 := dig_room1 (n := n) (by omega) HL.out;go_wp2
   go_ret
   refine ⟨ret_str ?_, HO.out⟩;rw [itoa_nat];have := HL.out;rw [ahead_end (by simpa using hp)] at this
   simpa using this.symm
theorem bitoa_neg (n : Nat) (w : World) (h : (n : Int) ≤ 9223372036854775808) (h0 : 0 < n) :
  Calls Tryd.prog 32 #[.int .i64 (-(n : Int))] w fun e w' => e = .returned (.string ⟨(Lib.itoa (-(n : Int))).toArray⟩) ∧ Only [] w w' := by
 obtain ⟨m, hm⟩ : ∃ m : Int, m = -(n : Int) := ⟨_, rfl⟩;rw [← hm];have HM := Hd hm;have hz : (m == 0) = false := by simp; omega
 have hz2 : m < 0 := by omega
 have hlo : -9223372036854775808 ≤ m := by omega
 clear hm;go_enter Tryd.func32, Tryd.ntmps32;go_wp2
 go_loopw [3, 4] (fun t x wr => ∃ (u : Nat) (y : Int) (l : ByteArray), u ≤ n ∧ x = .int .i64 y ∧ y = -(u : Int) ∧ t = .string l ∧ Lib.decDigits n = ahead false u ++ l.data.toList ∧ Only [] w wr) (fun _ x _ => (-(intOf x)).toNat)
 case atStart => exact ⟨n, m, ⟨#[]⟩, Nat.le_refl _, rfl, HM.out, rfl, by rw [ahead_pos h0]; simp, Only.refl _ _⟩
 case round =>
  obtain ⟨u, y, l, hu, rfl, hy, rfl, hl, ho⟩ := hrel;have HY := Hd hy;have HL := Hd hl;have HO := Hd ho;have hy1 : -9223372036854775808 ≤ y := by omega
  have hy2 : y ≤ 0 := by omega
  clear hl ho
  by_cases hp : 0 < u
  ·have hu0 : (y != 0) = true := by simp; omega
   clear hy;have hc := conv_one wr;have hq : y.tmod 10 = -((u % 10 : Nat) : Int) := by rw [HY.out, Int.neg_tmod]; rfl
   have hd : y.tdiv 10 = -((u / 10 : Nat) : Int) := by rw [HY.out, Int.neg_tdiv]; rfl
   have hq1 : -9 ≤ y.tmod 10 := by omega
   have hq2 : y.tmod 10 ≤ 0 := by omega
   have HQ := Hd hq;have HD := Hd hd;have hroom : ∀ x : Int, ¬ 9223372036854775807 < (strOfNums [x]).size + l.size := fun x => dig_room x (by omega) hp HL.out;clear hq hd
   by_cases hs : y.tmod 10 < 0
   all_goals
    go_wp2
    go_roundw
    case rel =>
     refine ⟨u / 10, y.tdiv 10, _, by omega, rfl, HD.out, rfl, ?_, HO.out.alloc _⟩
     first
      | (rw [show (48 + -y.tmod 10 : Int) = 48 + ((u % 10 : Nat) : Int) by rw [HQ.out]; omega]; exact dig_step hp HL.out)
      | (rw [show (48 + y.tmod 10 : Int) = 48 + ((u % 10 : Nat) : Int) by have := HQ.out; omega]; exact dig_step hp HL.out)
    case measure => have e1 := HY.out; have e2 := HD.out; clear hq1 hq2 hs HQ; simp only [intOf]; omega
  ·have hu0 : (y != 0) = false := by simp; omega
   clear hy;have hl20 := dig_room1 (n := n) (by omega) HL.out;go_wp2
   go_ret
   refine ⟨ret_str ?_, HO.out⟩;rw [HM.out, itoa_neg n h0];have := HL.out;rw [ahead_end (by simpa using hp)] at this;rw [this, ByteArray.data_append];simp
theorem bitoa_zero (w : World) :
  Calls Tryd.prog 32 #[.int .i64 0] w fun e w' => e = .returned (.string ⟨(Lib.itoa 0).toArray⟩) ∧ Only [] w w' := by
 have hz : Lib.itoa 0 = [48] := by unfold Lib.itoa; rw [if_neg (by decide)]; exact dec_zero
 rw [hz];go_enter Tryd.func32, Tryd.ntmps32;go_wp2
 go_ret
 exact ⟨rfl, Only.refl _ _⟩
theorem bitoa_any (n : Int) (w : World) (h1 : -9223372036854775808 ≤ n) (h2 : n ≤ 9223372036854775807) :
  Calls Tryd.prog 32 #[.int .i64 n] w fun e w' => e = .returned (.string ⟨(Lib.itoa n).toArray⟩) ∧ Only [] w w' := by
 by_cases h0 : n = 0
 ·subst h0;exact bitoa_zero w
 ·by_cases hn : n < 0
  ·have := bitoa_neg n.natAbs w (by omega) (by omega)
   rwa [show (-(n.natAbs : Int)) = n by omega] at this
  ·have := bitoa_pos n.natAbs w (by omega) (by omega)
   rwa [show (n.natAbs : Int) = n by omega] at this
end Go.Proofs.YtojpohmijlkagaaDoor
namespace Go.Proofs.YtojpohmijlkagaaDoor
open Go.Shelf Go.RowKit
theorem laysWrite : Lays.n166 Tryd.prog Tryd.laysJoin_ren := { Tryd.laysJoin with }
theorem laysText : Lays.n169 Tryd.prog Tryd.laysJoin_ren := { Tryd.laysJoin with }
theorem bwrite_any (B b : Nat) (bs : List Value) (s : ByteArray) (w : World) (h : Lib.IsBuilder 66 5 B b bs w) (hlen : bs.length + s.size ≤ 140737488355328) (hBw : B ≤ w.heap.size) :
  Calls Tryd.prog 25 #[.pointer (some ⟨b, 0, none⟩), .string s] w fun e w' => e = .returned (.tuple #[.int .i64 s.size, .nilIface]) ∧ (Lib.BuilderAt 66 5 B b (.pointer (some ⟨b, 0, none⟩)) (bs ++ Lib.strCells s) w' ∧ Below B w w') :=
 Any.Builder_WriteString laysWrite extraJ B b bs s w h hlen hBw
theorem btext_any (B b : Nat) (l : List UInt8) (w : World) (h : Lib.IsBuilder 66 5 B b (Lib.byteCells l) w) (h0 : l ≠ []) :
  Calls Tryd.prog 28 #[.pointer (some ⟨b, 0, none⟩)] w fun e w' => e = .returned (.string ⟨l.toArray⟩) ∧ Below B w w' :=
 Any.Builder_String laysText extraJ B b l w h h0
theorem btext_nil (B b : Nat) (p : Value) (w : World) (hbk : w.heap[b]? = some (.cells #[p, .slice none 0 0] 66 (0, 0))) :
  Calls Tryd.prog 28 #[.pointer (some ⟨b, 0, none⟩)] w fun e w' => e = .returned (.string ⟨#[]⟩) ∧ Below B w w' :=
 Any.Builder_String_nil laysText extraJ B b p w hbk
theorem builder_only {T e : TypeId} {B b : Nat} {bs : List Value} {w w' : World} (h : Lib.IsBuilder T e B b bs w) (ho : Only [] w w') : Lib.IsBuilder T e B b bs w' := by
 have key : ∀ p, Lib.BuilderAt T e B b p bs w → Lib.BuilderAt T e B b p bs w' := by
  rintro p ⟨hB, v, hb, hown, hne⟩;exact ⟨hB, v, (ho.keeps b (Array.getElem?_eq_some_iff.1 hb).1 (by simp)).trans hb, own_only hown ho (by simp), hne⟩
 rcases h with h | h
 ·exact .inl (key _ h)
 ·exact .inr (key _ h)
theorem only_below {S : List Nat} {B : Nat} {w w' w'' : World} (h : Only S w w') (k : Below B w' w'') (hB : w.heap.size ≤ B) : Only S w w'' :=
 ⟨k.os.trans h.os, k.tape.trans h.tape, k.output.trans h.output, Nat.le_trans h.size k.size, fun i hi hs => (k.block i (by omega)).trans (h.keeps i hi hs)⟩
end Go.Proofs.YtojpohmijlkagaaDoor
