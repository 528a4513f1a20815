/- Parts. -/
import Derived.Test.YtojpohmijlkagaaDoorLaw43AllK9
import Derived.Laws.BytesArg
set_option maxRecDepth 10000
set_option maxHeartbeats 16000000
set_option linter.unusedVariables false
set_option linter.unusedSimpArgs false
namespace Go.Proofs.YtojpohmijlkagaaDoor
open Go.RowKit
theorem conv_one (W : World) (x : Int) : (convert 64 9 (.slice (some ⟨W.heap.size, 0, none⟩) 1 1)).run Tryd.prog (W.alloc (.cells #[.int .u8 x] 5)) = .ok (.string (strOfNums [x])) (W.alloc (.cells #[.int .u8 x] 5)) :=
 run_convert_bytes_arg (W.alloc (.cells #[.int .u8 x] 5)) 64 5 Tryd.underlying64 Tryd.underlying5 W.heap.size 0 1 1 [x] rfl (fun i hi => by
  obtain rfl : i = 0 := by omega
  have := (Blk.made W 5 #[.int .u8 x]).at_ 0;simp) 9 Tryd.underlying9
theorem data_dig (k : Nat) (t : ByteArray) (h : k < 10) : (strOfNums [48 + (k : Int)] ++ t).data.toList = UInt8.ofNat (48 + k) :: t.data.toList := by
 rw [ByteArray.data_append, Array.toList_append, strOfNums_data];simp only [List.map_cons, List.map_nil, List.singleton_append];rw [show (48 + (k : Int)).toNat = 48 + k by omega]
theorem dig_step {n u : Nat} {t : ByteArray} (h0 : 0 < u) (hl : Lib.decDigits n = ahead false u ++ t.data.toList) : Lib.decDigits n = ahead false (u / 10) ++ (strOfNums [48 + ((u % 10 : Nat) : Int)] ++ t).data.toList := by
 rw [data_dig _ _ (Nat.mod_lt _ (by decide)), hl, ahead_step (by simp [h0])];simp
theorem dig_room {n u : Nat} {t : ByteArray} (x : Int) (hn : n < 100000000000000000000) (h0 : 0 < u) (hl : Lib.decDigits n = ahead false u ++ t.data.toList) : ¬ 9223372036854775807 < (strOfNums [x]).size + t.size := by
 have h1 := dec_len n hn;rw [hl, List.length_append, ← Lib.size_eq] at h1;rw [strOfNums_size];simp;omega
theorem dig_room1 {n u : Nat} {t : ByteArray} (hn : n < 100000000000000000000) (hl : Lib.decDigits n = ahead false u ++ t.data.toList) : t.size ≤ 20 := by
 have h1 := dec_len n hn;rw [hl, List.length_append, ← Lib.size_eq] at h1;omega
theorem ret_str {a b : ByteArray} (h : a.data.toList = b.data.toList) : Ending.returned (.string a) = .returned (.string b) := by
 have : a = b := by cases a; cases b; simp at h; rw [h]
 rw [this]
def Tail (cs : Array Value) (k : Nat) (l : List UInt8) : Prop := cs.size = 20 ∧ k + l.length = 20 ∧ ∀ j c, l[j]? = some c → cs[k + j]? = some (.int .u8 c.toNat)
theorem Tail.push {cs : Array Value} {k : Nat} {l : List UInt8} (h : Tail cs (k + 1) l) (c : UInt8) : Tail (cs.setIfInBounds k (.int .u8 c.toNat)) k (c :: l) := by
 obtain ⟨h1, h2, h3⟩ := h;refine ⟨by simp [h1], by simp; omega, fun j d hj => ?_⟩
 cases j with
 | zero =>
  simp at hj;subst hj;rw [Nat.add_zero, Array.getElem?_setIfInBounds];simp;omega
 | succ j =>
  rw [List.getElem?_cons_succ] at hj;rw [Array.getElem?_setIfInBounds, if_neg (by omega)];rw [show k + (j + 1) = k + 1 + j by omega];exact h3 j d hj
theorem Tail.old {cs : Array Value} {k : Nat} {l : List UInt8} (h : Tail cs (k + 1) l) : ∃ x, cs[k]? = some x := by
 obtain ⟨h1, h2, _⟩ := h;exact ⟨_, Array.getElem?_eq_getElem (by omega)⟩
theorem strOf_digits (l : List UInt8) : strOfNums (l.map fun c => (c.toNat : Int)) = ⟨l.toArray⟩ := by
 unfold strOfNums;simp [Function.comp_def]
theorem Tail.conv {w : World} {b k : Nat} {cs : Array Value} {l : List UInt8} (hb : Blk w b 108 cs) (h : Tail cs k l) (cap : Nat) :
  (convert 64 9 (.slice (some ⟨b, k, none⟩) (20 - k) cap)).run Tryd.prog w = .ok (.string ⟨l.toArray⟩) w := by
 have := run_convert_bytes_arg (P := Tryd.prog) w 64 5 Tryd.underlying64 Tryd.underlying5 b k (20 - k) cap (l.map fun c => (c.toNat : Int)) (by have := h.2.1; simp; omega) (fun i hi => by
  have hl : i < l.length := by have := h.2.1; omega
  rw [hb.at_ (k + i), h.2.2 i l[i] (List.getElem?_eq_getElem hl)];simp [List.getD, List.getElem?_eq_getElem hl]) 9 Tryd.underlying9
 rwa [strOf_digits] at this
theorem slice_arr (b k : Nat) (hk : k < 20) (W : World) :
  (Instr.sliceAt 108 (.pointer (some ⟨b, 0, none⟩)) (some (.int .i64 (k : Int))) none none).run Tryd.prog W = .ok (.slice (some ⟨b, k, none⟩) (20 - k) (20 - k)) W := by
 have hA : Tryd.prog.arrayLen 108 = 20 := by kernel_rfl
 have hE : Tryd.prog.elem 108 = 5 := by kernel_rfl
 have hs : (sizeOf 5).run Tryd.prog W = .ok 1 W := by kernel_rfl
 have := run_sliceAt_array_l (P := Tryd.prog) W 108 ⟨b, 0, none⟩ (by rw [hA, hE]; exact Tryd.underlying108) .i64 (k : Int) (by omega) (by rw [hA]; omega);rw [this, hE, hs, hA];simp only [Result.andThen, slicedAt, Int.toNat_natCast];rw [if_neg (by omega), Nat.mul_one];unfold Addr.add
 by_cases h0 : k = 0
 ·subst h0; rfl
 ·rw [if_neg (by omega)]; simp
theorem blk_only {w w' : World} (h : Only [w.heap.size] w w') : Only [] w w' := h.wide (fun i hi hl => by simp at hi; omega)
theorem print_pos (n : Nat) (w : World) (h : (n : Int) ≤ 9223372036854775807) :
  Calls Tryd.prog 49 #[.int .i64 n] w fun e w' => e = .returned (.string ⟨(Lib.itoa n).toArray⟩) ∧ Only [] w w' := by
 have hz2 : ¬ (n : Int) < 0 := by omega
 have HN := Hd (dec_len' n (by omega));go_enter Tryd.func49, Tryd.ntmps49;go_wp2
 go_loopw [4, 5, 6] (fun i u f wr => ∃ (b : Bool) (v k : Nat) (l : List UInt8) (cs : Array Value), f = .bool b ∧ u = .int .u64 v ∧ i = .int .i64 k ∧ v ≤ n ∧ Lib.decDigits n = ahead b v ++ l ∧ Tail cs k l ∧ Blk wr w.heap.size 108 cs ∧ Only [w.heap.size] w wr)
  (fun i _ _ _ => (intOf i).toNat)
 case atStart => exact ⟨true, n, 20, [], _, rfl, rfl, rfl, Nat.le_refl _, by rw [ahead_first]; simp, ⟨by simp, by simp, fun j c hj => by simp at hj⟩, Blk.made _ _ _, (Only.refl _ _).alloc _⟩
 case round =>
  obtain ⟨b, v, k, l, cs, rfl, rfl, rfl, hv, hl, ht, hb, ho⟩ := hrel;have HT := Hd ht;have HB := Hd hb;have HO := Hd ho;have HL := Hd hl;have hl19 : (ahead b v).length + l.length ≤ 19 := by rw [← List.length_append, ← hl]; exact HN.out
  have hk20 : k + l.length = 20 := ht.2.1;clear hb ho hl ht
  by_cases hgo : (b || decide (0 < v)) = true
  ·have hap := ahead_len_pos hgo;have hk1 : 1 ≤ k := by omega
   have hkk : k ≤ 20 := by omega
   have HS := Hd (ahead_step hgo);have HK := Hd hk20;clear hl19 hap hk20;obtain ⟨k, rfl⟩ : ∃ m, k = m + 1 := ⟨k - 1, by omega⟩;obtain ⟨x, hx⟩ := HT.out.old;have hx' : wr.cell? ⟨w.heap.size, k, none⟩ = some x := (HB.out.at_ k).trans hx;have hf := HB.out.free k;have hgo' : b = true ∨ (0 : Int) < v := by simpa using hgo
   clear hx
   cases b
   all_goals
    try have hv0 : (0 : Int) < v := by simpa using hgo'
    clear hgo hgo';go_wp2
    go_roundw
    case rel =>
     have hd := digit_toNat (Nat.mod_lt v (by decide : 10 > 0));refine ⟨false, v / 10, k, UInt8.ofNat (48 + v % 10) :: l, _, rfl, by go_num, by go_num, by omega, ?_, HT.out.push _, ?_, ?_⟩
     ·rw [HL.out, HS.out]; simp
     ·have := HB.out.put k (.int .u8 ((UInt8.ofNat (48 + v % 10)).toNat : Int));rw [hd] at this ⊢
      simpa using this
     ·exact HO.out.put (by simp) _
    case measure => simp [intOf]
  ·have he : (b || decide (0 < v)) = false := by simpa using hgo
   have hld : Lib.decDigits n = l := by rw [HL.out, ahead_end he]; rfl
   have HD := Hd hld;have hk2 : k < 20 := by
    have : 1 ≤ l.length := by rw [← hld]; exact dec_len_pos
    omega
   have hb0 : b = false := by cases b; rfl; simp at he
   have hv0 : ¬ (0 : Int) < v := by simp at he; omega
   clear hl19 hgo he hld;have HK := Hd hk20;clear hk20;subst hb0;have hconv := fun cap => HT.out.conv HB.out cap;have hsl := slice_arr w.heap.size k hk2;go_wp2
   go_ret
   refine ⟨ret_str ?_, blk_only HO.out⟩;rw [itoa_nat, HD.out]
theorem print_neg (n : Nat) (w : World) (h : (n : Int) ≤ 9223372036854775808) (h0 : 0 < n) :
  Calls Tryd.prog 49 #[.int .i64 (-(n : Int))] w fun e w' => e = .returned (.string ⟨(Lib.itoa (-(n : Int))).toArray⟩) ∧ Only [] w w' := by
 obtain ⟨m, hm⟩ : ∃ m : Int, m = -(n : Int) := ⟨_, rfl⟩;rw [← hm];have HM := Hd hm;have hz2 : m < 0 := by omega
 have hlo : -9223372036854775808 ≤ m := by omega
 have hw : IntKind.u64.wrap (-IntKind.u64.wrap m) = (n : Int) := by
  rw [hm]; simp only [IntKind.wrap, IntKind.bits, IntKind.signed]; simp; omega
 clear hm;have HN := Hd (dec_len' n (by omega));go_enter Tryd.func49, Tryd.ntmps49;go_wp2
 go_loopw [4, 5, 6] (fun i u f wr => ∃ (b : Bool) (v k : Nat) (l : List UInt8) (cs : Array Value), f = .bool b ∧ u = .int .u64 v ∧ i = .int .i64 k ∧ v ≤ n ∧ Lib.decDigits n = ahead b v ++ l ∧ Tail cs k l ∧ Blk wr w.heap.size 108 cs ∧ Only [w.heap.size] w wr)
  (fun i _ _ _ => (intOf i).toNat)
 case atStart => exact ⟨true, n, 20, [], _, rfl, rfl, rfl, Nat.le_refl _, by rw [ahead_first]; simp, ⟨by simp, by simp, fun j c hj => by simp at hj⟩, Blk.made _ _ _, (Only.refl _ _).alloc _⟩
 case round =>
  obtain ⟨b, v, k, l, cs, rfl, rfl, rfl, hv, hl, ht, hb, ho⟩ := hrel;have HT := Hd ht;have HB := Hd hb;have HO := Hd ho;have HL := Hd hl;have hl19 : (ahead b v).length + l.length ≤ 19 := by rw [← List.length_append, ← hl]; exact HN.out
  have hk20 : k + l.length = 20 := ht.2.1;clear hb ho hl ht
  by_cases hgo : (b || decide (0 < v)) = true
  ·have hap := ahead_len_pos hgo;have hk1 : 1 ≤ k := by omega
   have hkk : k ≤ 20 := by omega
   have HS := Hd (ahead_step hgo);have HK := Hd hk20;clear hl19 hap hk20;obtain ⟨k, rfl⟩ : ∃ m, k = m + 1 := ⟨k - 1, by omega⟩;obtain ⟨x, hx⟩ := HT.out.old;have hx' : wr.cell? ⟨w.heap.size, k, none⟩ = some x := (HB.out.at_ k).trans hx;have hf := HB.out.free k;have hgo' : b = true ∨ (0 : Int) < v := by simpa using hgo
   clear hx
   cases b
   all_goals
    try have hv0 : (0 : Int) < v := by simpa using hgo'
    clear hgo hgo';go_wp2
    go_roundw
    case rel =>
     have hd := digit_toNat (Nat.mod_lt v (by decide : 10 > 0));refine ⟨false, v / 10, k, UInt8.ofNat (48 + v % 10) :: l, _, rfl, by go_num, by go_num, by omega, ?_, HT.out.push _, ?_, ?_⟩
     ·rw [HL.out, HS.out]; simp
     ·have := HB.out.put k (.int .u8 ((UInt8.ofNat (48 + v % 10)).toNat : Int));rw [hd] at this ⊢
      simpa using this
     ·exact HO.out.put (by simp) _
    case measure => simp [intOf]
  ·have he : (b || decide (0 < v)) = false := by simpa using hgo
   have hld : Lib.decDigits n = l := by rw [HL.out, ahead_end he]; rfl
   have HD := Hd hld;have hk2 : k < 20 := by
    have : 1 ≤ l.length := by rw [← hld]; exact dec_len_pos
    omega
   have hb0 : b = false := by cases b; rfl; simp at he
   have hv0 : ¬ (0 : Int) < v := by simp at he; omega
   clear hl19 hgo he hld;have hk1 : 1 ≤ k := by
    have := HN.out;rw [HD.out] at this;omega
   have HK := Hd hk20;clear hk20;subst hb0;obtain ⟨k, rfl⟩ : ∃ m, k = m + 1 := ⟨k - 1, by omega⟩;obtain ⟨x, hx⟩ := HT.out.old;have hx' : wr.cell? ⟨w.heap.size, k, none⟩ = some x := (HB.out.at_ k).trans hx;have hf := HB.out.free k;clear hx;have hput : Blk (wr.setCell ⟨w.heap.size, k, none⟩ (.int .u8 45)) w.heap.size 108 _ := HB.out.put k (.int .u8 45);have htail : Tail _ k (45 :: l) := HT.out.push 45;have hconv := fun cap => htail.conv hput cap;have HP := Hd hput;clear hput htail;have hk19 : k < 20 := by omega
   have hsl := slice_arr w.heap.size k hk19;go_wp2
   go_ret
   refine ⟨ret_str ?_, blk_only (HO.out.put (by simp) _)⟩;rw [HM.out, itoa_neg n h0, HD.out]
theorem print_any (n : Int) (w : World) (h1 : -9223372036854775808 ≤ n) (h2 : n ≤ 9223372036854775807) :
  Calls Tryd.prog 49 #[.int .i64 n] w fun e w' => e = .returned (.string ⟨(Lib.itoa n).toArray⟩) ∧ Only [] w w' := by
 by_cases hn : n < 0
 ·have := print_neg n.natAbs w (by omega) (by omega)
  rwa [show (-(n.natAbs : Int)) = n by omega] at this
 ·have := print_pos n.natAbs w (by omega)
  rwa [show (n.natAbs : Int) = n by omega] at this
end Go.Proofs.YtojpohmijlkagaaDoor
