/- The Builder of package strings: Len, WriteString, WriteByte, String, out of the contract of strings.Join. Contracts of the package log: Print. -/
import Derived.Test.YthaeomdpaadilaaGreatDoorShowParsesCardK22
import Derived.Shelf.Strings.Builder1
import Derived.Test.YthaeomdpaadilaaGreatDoorShowParsesCardK36
import Derived.Deep.QuietTactic
import Derived.BigQuiet
set_option linter.unusedVariables false
set_option linter.unusedSimpArgs false
namespace Go.Proofs.YthaeomdpaadilaaGreatDoor
open Go.Shelf Go.RowKit
def laysB_ren : Go.Shelf.Ren := ⟨fun | 167 => 38 | 170 => 36 | n => Tryz.laysJoin_ren.f n, fun | 5 => 5 | n => Tryz.laysJoin_ren.t n, Tryz.laysJoin_ren.g⟩
theorem laysWrite : Lays.n166 Tryz.prog Tryz.laysJoin_ren := { Tryz.laysJoin with }
theorem laysText : Lays.n169 Tryz.prog Tryz.laysJoin_ren := { Tryz.laysJoin with }
theorem laysByte : Lays.n167 Tryz.prog laysB_ren :=
  { Tryz.laysJoin with
    f167 := Tryz.func38.trans (congrArg some (by kernel_rfl))
    t5 := Tryz.underlying5
    a5 := Tryz.isAgg5
    z5 := Tryz.sizeOf5
    v5 := Tryz.zeroValue5 }
theorem laysLen : Lays.n170 Tryz.prog laysB_ren :=
  { Tryz.laysJoin with
    f170 := Tryz.func36.trans (congrArg some (by kernel_rfl)) }
theorem extraB : Builder.Extra Tryz.prog laysB_ren where
 sizeBuilder := by kernel_rfl
 liesBuilder := by kernel_rfl
 t5 := Tryz.underlying5
 a5 := Tryz.isAgg5
 z5 := Tryz.sizeOf5
 v5 := Tryz.zeroValue5
 infoByte := by kernel_rfl
 cellsByte := by kernel_rfl
 sizeByte := by kernel_rfl
 neB5 := by decide
theorem blen_any (B b : Nat) (bs : List Value) (w : World) (h : Lib.IsBuilder 67 5 B b bs w) :
  Calls Tryz.prog 36 #[.pointer (some ⟨b, 0, none⟩)] w fun e w' => e = .returned (.int .i64 bs.length) ∧ w' = w :=
 Any.Builder_Len laysLen B b bs w h
theorem bwrite_any (B b : Nat) (bs : List Value) (s : ByteArray) (w : World) (h : Lib.IsBuilder 67 5 B b bs w) (hlen : bs.length + s.size ≤ 140737488355328) (hBw : B ≤ w.heap.size) :
  Calls Tryz.prog 37 #[.pointer (some ⟨b, 0, none⟩), .string s] w fun e w' => e = .returned (.tuple #[.int .i64 s.size, .nilIface]) ∧ (Lib.BuilderAt 67 5 B b (.pointer (some ⟨b, 0, none⟩)) (bs ++ Lib.strCells s) w' ∧ Below B w w') :=
 Any.Builder_WriteString laysWrite extraJ B b bs s w h hlen hBw
theorem bbyte_any (B b : Nat) (bs : List Value) (c : Int) (w : World) (h : Lib.IsBuilder 67 5 B b bs w) (hlen : bs.length + 1 ≤ 140737488355328) (hBw : B ≤ w.heap.size) :
  Calls Tryz.prog 38 #[.pointer (some ⟨b, 0, none⟩), .int .u8 c] w fun e w' => e = .returned .nilIface ∧ (Lib.BuilderAt 67 5 B b (.pointer (some ⟨b, 0, none⟩)) (bs ++ [.int .u8 c]) w' ∧ Below B w w') :=
 Any.Builder_WriteByte laysByte extraB B b bs c w h hlen hBw
theorem btext_any (B b : Nat) (l : List UInt8) (w : World) (h : Lib.IsBuilder 67 5 B b (Lib.byteCells l) w) (h0 : l ≠ []) :
  Calls Tryz.prog 39 #[.pointer (some ⟨b, 0, none⟩)] w fun e w' => e = .returned (.string ⟨l.toArray⟩) ∧ Below B w w' :=
 Any.Builder_String laysText extraJ B b l w h h0
theorem btext_nil (B b : Nat) (p : Value) (w : World) (hbk : w.heap[b]? = some (.cells #[p, .slice none 0 0] 67 (0, 0))) :
  Calls Tryz.prog 39 #[.pointer (some ⟨b, 0, none⟩)] w fun e w' => e = .returned (.string ⟨#[]⟩) ∧ Below B w w' :=
 Any.Builder_String_nil laysText extraJ B b p w hbk
/-- What leaves all blocks leaves a builder. -/
theorem builder_only {T e : TypeId} {B b : Nat} {bs : List Value} {w w' : World} (h : Lib.IsBuilder T e B b bs w) (ho : Only [] w w') : Lib.IsBuilder T e B b bs w' := by
 have key : ∀ p, Lib.BuilderAt T e B b p bs w → Lib.BuilderAt T e B b p bs w' := by
  rintro p ⟨hB, v, hb, hown, hne⟩
  exact ⟨hB, v, (ho.keeps b (Array.getElem?_eq_some_iff.1 hb).1 (by simp)).trans hb, own_only hown ho (by simp), hne⟩
 rcases h with h | h
 ·exact .inl (key _ h)
 ·exact .inr (key _ h)
theorem only_below {S : List Nat} {B : Nat} {w w' w'' : World} (h : Only S w w') (k : Below B w' w'') (hB : w.heap.size ≤ B) : Only S w w'' :=
 ⟨k.os.trans h.os, k.tape.trans h.tape, k.output.trans h.output, Nat.le_trans h.size k.size, fun i hi hs => (k.block i (by omega)).trans (h.keeps i hi hs)⟩
end Go.Proofs.YthaeomdpaadilaaGreatDoor

set_option linter.unusedVariables false
set_option linter.unusedSimpArgs false
namespace Go.Proofs.YthaeomdpaadilaaGreatDoor
open Go.RowKit
open Go.Lib hiding intOf
attribute [local go_sem ↓] Go.wp_at_zero Go.wp_at_succ
def okE (x : Ev6) : Bool := evOk x.k x.s x.y x.vk x.vn
def evT (x : Ev6) : ByteArray := evText x.k x.s x.y x.vk x.vn
/-- The text of events, behind some bytes; none, if it is too long. -/
def printOf : List Ev6 → List UInt8 → Option (List UInt8)
 | [], acc => some acc
 | x :: r, acc => if 65536 < acc.length + (evT x).size + 1 then none else printOf r (acc ++ by_ (evT x) ++ [10])
def logPrint (l : List Ev6) : ByteArray × Int :=
 if l.all okE = true then (match printOf l [] with | some t => (⟨t.toArray⟩, 0) | none => (⟨#[]⟩, 6)) else (⟨#[]⟩, 4)
structure EvB (x : Ev6) : Prop where
 s : x.s.size ≤ 2000
 y : x.y.size ≤ 2000
 n1 : -9223372036854775808 ≤ x.vn
 n2 : x.vn ≤ 9223372036854775807
theorem evT_size {x : Ev6} (h : EvB x) : (evT x).size ≤ 5000 := by
 have := evWords_len x.k x.s x.y x.vk x.vn h.n1 h.n2 h.s h.y
 unfold evT evText
 split
 ·simpa [ByteArray.size] using this
 ·simp [ByteArray.size]
set_option maxRecDepth 100000 in
set_option maxHeartbeats 4000000 in
theorem logprint_any (A : Option Addr) (n c B : Nat) (l : List Ev6) (w : World) (hn : l.length = n) (hnm : n ≤ 1000000) (hz : ∀ x ∈ l, EvB x) (hA : Row w B A (logC l)) (hT : UTabs w) (hV : Verbs w) :
  Calls Tryz.prog 21 #[.slice A n c] w fun e w' => e = .returned (.tuple #[.string (logPrint l).1, .int .i64 (logPrint l).2]) ∧ Only [] w w' := by
 have HMY := Lib.hid (fun (x : Ev6) w' (hx : EvB x) (hO : Only [] w w') => evmay_any x.k x.s x.y x.vk x.vn x.ln w' (by have := hx.s; omega) (by have := hx.y; omega) (hT.only hO) (hV.only hO))
 have HPR := Lib.hid (fun (x : Ev6) w' (hx : EvB x) (hO : Only [] w w') => evprint_any x.k x.s x.y x.vk x.vn x.ln w' hx.s hx.y hx.n1 hx.n2 (hT.only hO) (hV.only hO))
 obtain ⟨r, hr⟩ : ∃ r, r = logPrint l := ⟨_, rfl⟩
 rw [← hr]
 have HR := Lib.hid hr
 have HN := Lib.hid hn
 have HZ := Lib.hid hz
 have HROW := Lib.hid hA
 clear hn hz hA hT hV hr
 go_enter Tryz.func21, Tryz.ntmps21
 go_wp2_with fail
 go_loopw [13] (fun iv wr => ∃ (k : Nat), iv = .int .i64 k ∧ k ≤ n ∧ Hid (∀ j x, j < k → l[j]? = some x → okE x = true) ∧ Hid (Only [] w wr)) (fun iv _ => n - (intOf iv).toNat)
 case atStart => exact ⟨0, rfl, by omega, Lib.hid (fun j x h _ => by omega), Lib.hid (Only.refl [] w)⟩
 case round =>
  obtain ⟨k, rfl, hk, hall, hO⟩ := hrel
  by_cases hlt : k < n
  ·have h01 : (k : Int) < (n : Int) := by omega
   have hk0 : (0 : Int) ≤ (k : Int) := Int.natCast_nonneg _
   have hwk : IntKind.i64.wrap ((k : Int) + 1) = (k : Int) + 1 := IntWalk.i64_in _ (by omega)
   obtain ⟨x, hx⟩ : ∃ x, l[k]? = some x := ⟨_, List.getElem?_eq_getElem (by rw [HN.out]; exact hlt)⟩
   obtain ⟨b, off, rfl, -, hbw, h1⟩ := row_ev HROW.out hx
   obtain ⟨a0, a1, a2, a3, a4, a5⟩ := h1.only hO.out hbw (by simp)
   have HM1 := Lib.hid (fun w' hO' => HMY.out x w' (HZ.out x (List.mem_of_getElem? hx)) hO')
   have HX := Lib.hid hx
   obtain ⟨ok, hok⟩ : ∃ v, v = okE x := ⟨_, rfl⟩
   have hok2 : evOk x.k x.s x.y x.vk x.vn = ok := hok.symm
   rw [hok2] at HM1
   have HOK := Lib.hid hok
   obtain ⟨xk, xs, xy, xvk, xvn, xln⟩ := x
   dsimp only at a0 a1 a2 a3 a4 a5 HM1
   have HO1 := Lib.hid (hO.out.alloc (.cells #[.int .i64 xk, .string xs, .string xy, .int .i64 xvk, .int .i64 xvn, .int .i64 xln] 47))
   clear hx h1 hok hok2
   go_wp2_with fail
   refine (HM1.out _ HO1.out).mono ?_
   rintro e w2 ⟨rfl, O2⟩
   have HO2 := Lib.hid (HO1.out.trans O2)
   clear a0 a1 a2 a3 a4 a5 O2
   cases ok with
   | false =>
    obtain rfl : r = (⟨#[]⟩, 4) := by
     rw [HR.out]
     unfold logPrint
     rw [if_neg]
     intro h
     have := List.all_eq_true.1 h _ (List.mem_of_getElem? HX.out)
     rw [← HOK.out] at this
     cases this
    go_wp2
    go_ret2
    exact ⟨rfl, HO2.out⟩
   | true =>
    go_wp2
    go_roundw
    case rel =>
     refine ⟨k + 1, by go_num, by omega, Lib.hid (fun j y h hy => ?_), HO2⟩
     rcases Nat.lt_or_ge j k with h2 | h2
     ·exact hall.out j y h2 hy
     ·have : j = k := by omega
      subst this
      rw [HX.out] at hy
      obtain rfl := Option.some.inj hy
      exact HOK.out.symm
    case measure => simp [intOf]; omega
  ·have hkn : k = n := by omega
   subst hkn
   have hd : decide ((k : Int) < (k : Int)) = false := by simp
   have HALL : Hid (l.all okE = true) := Lib.hid (List.all_eq_true.2 fun x hx => by
    obtain ⟨j, hj⟩ := List.getElem?_of_mem hx
    exact hall.out j x (by rw [← HN.out]; exact (List.getElem?_eq_some_iff.1 hj).1) hj)
   have HRR : Hid (r = match printOf l [] with | some t => (⟨t.toArray⟩, 0) | none => (⟨#[]⟩, 6)) := Lib.hid (by rw [HR.out]; unfold logPrint; rw [if_pos HALL.out])
   obtain ⟨wo, hwo⟩ : ∃ wo : World, wo = wr := ⟨_, rfl⟩
   subst hwo
   have hszo := hO.out.size
   have HOB := Lib.hid (hO.out.alloc (.cells #[.pointer none, .slice none 0 0] 67))
   have HBU := Lib.hid (Lib.fresh_isBuilder 67 5 wo)
   have HB0 := Lib.hid (Blk.made wo 67 #[.pointer none, .slice none 0 0])
   obtain ⟨Bb, hBb⟩ : ∃ g, g = wo.heap.size := ⟨_, rfl⟩
   rw [← hBb] at HBU HB0
   have HBB := Lib.hid hBb
   clear hall HR HALL hlt hO
   go_wp2_with fail
   rw [← hBb]
   clear hBb
   go_loopw [23] (fun iv wr => ∃ (j : Nat) (acc : List UInt8), iv = .int .i64 j ∧ j ≤ k ∧ acc.length ≤ 65536 ∧ Hid (printOf l [] = printOf (l.drop j) acc) ∧ Hid (Lib.IsBuilder 67 5 Bb Bb (Lib.byteCells acc) wr) ∧ Hid (Only [] w wr) ∧ Hid (acc = [] → Blk wr Bb 67 #[.pointer none, .slice none 0 0])) (fun iv _ => k - (intOf iv).toNat)
   case atStart => exact ⟨0, [], rfl, by omega, by simp, Lib.hid rfl, HBU, HOB, Lib.hid (fun _ => HB0.out)⟩
   case round =>
    obtain ⟨j, acc, rfl, hj, hacc, hP, hBU, hO, hNB⟩ := hrel
    have hsz2 := hO.out.size
    by_cases hlt : j < k
    ·have h01 : (j : Int) < (k : Int) := by omega
     have hj0 : (0 : Int) ≤ (j : Int) := Int.natCast_nonneg _
     have hwj : IntKind.i64.wrap ((j : Int) + 1) = (j : Int) + 1 := IntWalk.i64_in _ (by omega)
     obtain ⟨x, hx⟩ : ∃ x, l[j]? = some x := ⟨_, List.getElem?_eq_getElem (by rw [HN.out]; exact hlt)⟩
     obtain ⟨b, off, rfl, -, hbw, h1⟩ := row_ev HROW.out hx
     obtain ⟨a0, a1, a2, a3, a4, a5⟩ := h1.only hO.out hbw (by simp)
     have hbx := HZ.out x (List.mem_of_getElem? hx)
     have hts : (evT x).size ≤ 5000 := evT_size hbx
     have HP1 := Lib.hid (fun w' hO' => HPR.out x w' hbx hO')
     have hpo : printOf (l.drop j) acc = if 65536 < acc.length + (evT x).size + 1 then none else printOf (l.drop (j + 1)) (acc ++ by_ (evT x) ++ [10]) := by
      obtain ⟨h1, h2⟩ := List.getElem?_eq_some_iff.1 hx
      rw [List.drop_eq_getElem_cons h1, h2]
      rfl
     have HPO := Lib.hid (hP.out.trans hpo)
     have hte : evText x.k x.s x.y x.vk x.vn = evT x := rfl
     rw [hte] at HP1
     generalize evT x = T at *
     generalize evErr x.k x.s x.y x.vk x.vn = ve at *
     obtain ⟨xk, xs, xy, xvk, xvn, xln⟩ := x
     dsimp only at a0 a1 a2 a3 a4 a5 HP1
     have hO1 := hO.out.alloc (.cells #[.int .i64 xk, .string xs, .string xy, .int .i64 xvk, .int .i64 xvn, .int .i64 xln] 47)
     have HBU1 := Lib.hid (builder_only hBU.out ((Only.refl [] wr).alloc (.cells #[.int .i64 xk, .string xs, .string xy, .int .i64 xvk, .int .i64 xvn, .int .i64 xln] 47)))
     have HO1 := Lib.hid hO1
     clear hx h1 hbx hpo hte hO1
     go_wp2_with fail
     refine (HP1.out _ HO1.out).mono ?_
     rintro e w3 ⟨rfl, O3⟩
     have HBU3 := Lib.hid (builder_only HBU1.out O3)
     have HO3 := Lib.hid (HO1.out.trans O3)
     have hsz3 := HO3.out.size
     have HL := Lib.hid (blen_any Bb Bb _ w3 HBU3.out)
     rw [Lib.byteCells_length] at HL
     have hsB : Bb ≤ w3.heap.size := by
      rcases HBU3.out with h | h
      ·exact Nat.le_of_lt h.lt
      ·exact Nat.le_of_lt h.lt
     have HWS := Lib.hid (bwrite_any Bb Bb _ T w3 HBU3.out (by rw [Lib.byteCells_length]; omega) hsB)
     have hw1 : IntKind.i64.wrap ((acc.length : Int) + (T.size : Int)) = (acc.length : Int) + (T.size : Int) := IntWalk.i64_in _ (by omega)
     have hw2 : IntKind.i64.wrap ((acc.length : Int) + (T.size : Int) + 1) = (acc.length : Int) + (T.size : Int) + 1 := IntWalk.i64_in _ (by omega)
     clear a0 a1 a2 a3 a4 a5 O3 HBU1 HO1 HP1 hBU
     go_wp2_with fail
     refine (HL.out).mono ?_
     rintro e w4 ⟨rfl, rfl⟩
     by_cases hlong : 65536 < acc.length + T.size + 1
     ·have hl1 : (65536 : Int) < (acc.length : Int) + (T.size : Int) + 1 := by omega
      obtain rfl : r = (⟨#[]⟩, 6) := by rw [HRR.out, HPO.out, if_pos hlong]
      clear HRR HPO hlong
      go_wp2
      go_ret2
      exact ⟨rfl, HO3.out⟩
     ·have hl1 : decide ((65536 : Int) < (acc.length : Int) + (T.size : Int) + 1) = false := decide_eq_false (by omega)
      have hl2 : decide (65536 < acc.length + T.size + 1) = false := decide_eq_false (by omega)
      have HP2 : Hid (printOf l [] = printOf (l.drop (j + 1)) (acc ++ by_ T ++ [10])) := Lib.hid (by rw [HPO.out, if_neg hlong])
      have hacc2 : (acc ++ by_ T ++ [10]).length ≤ 65536 := by
       rw [List.length_append, List.length_append, by_length]
       simp
       omega
      clear hlong HPO
      go_wp2_with fail
      refine (HWS.out).mono ?_
      rintro e w5 ⟨rfl, hb5, hbl5⟩
      have HO5 := Lib.hid (only_below HO3.out hbl5 (by have := HBB.out; omega))
      have hsz5 := hbl5.size
      have HWB := Lib.hid (bbyte_any Bb Bb _ 10 w5 (.inr hb5) (by rw [List.length_append, Lib.byteCells_length, Lib.strCells_length]; omega) (by omega))
      clear hb5 hbl5 HWS HL
      go_wp2_with fail
      refine (HWB.out).mono ?_
      rintro e w6 ⟨rfl, hb6, hbl6⟩
      have HO6 := Lib.hid (only_below HO5.out hbl6 (by have := HBB.out; omega))
      have HBU6 : Hid (Lib.IsBuilder 67 5 Bb Bb (Lib.byteCells (acc ++ by_ T ++ [10])) w6) := Lib.hid (by
       rw [Lib.byteCells_append, Lib.byteCells_append]
       exact .inr hb6)
      clear hb6 hbl6 HWB
      go_wp2
      go_roundw
      case rel => exact ⟨j + 1, acc ++ by_ T ++ [10], by go_num, by omega, hacc2, HP2, HBU6, HO6, Lib.hid (fun h => by simp at h)⟩
      case measure => simp [intOf]; omega
    ·have hjk : j = k := by omega
     subst hjk
     have hd2 : decide ((j : Int) < (j : Int)) = false := by simp
     have hpr : printOf l [] = some acc := by rw [hP.out, List.drop_of_length_le (by rw [HN.out]; exact Nat.le_refl _)]; rfl
     obtain rfl : r = (⟨acc.toArray⟩, 0) := by rw [HRR.out, hpr]
     have HT : Hid (Calls Tryz.prog 39 #[.pointer (some ⟨Bb, 0, none⟩)] wr fun e w' => e = .returned (.string ⟨acc.toArray⟩) ∧ Below Bb wr w') := by
      by_cases h0 : acc = []
      ·subst h0
       exact Lib.hid (btext_nil Bb Bb _ wr (hNB.out rfl))
      ·exact Lib.hid (btext_any Bb Bb acc wr hBU.out h0)
     clear hpr HRR hP
     go_wp2_with fail
     refine (HT.out).mono ?_
     rintro e w7 ⟨rfl, hbl7⟩
     have HO7 := Lib.hid (only_below hO.out hbl7 (by have := HBB.out; omega))
     clear hbl7
     go_wp2
     go_ret2
     exact ⟨rfl, HO7.out⟩
end Go.Proofs.YthaeomdpaadilaaGreatDoor
