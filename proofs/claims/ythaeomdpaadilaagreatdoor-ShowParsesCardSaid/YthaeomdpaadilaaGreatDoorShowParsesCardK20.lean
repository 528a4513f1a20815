/- Contracts of the package digit: a sign that is cut off, whether a text is as a number's, the number of a text, a number's text. Helpers of a number's text: one byte as a text, digits ahead of a text. A number's text: the package's Print. -/
import Derived.Test.YthaeomdpaadilaaGreatDoorShowParsesCardK1
import Derived.Test.YthaeomdpaadilaaGreatDoorShowParsesCardK19
import Derived.Lib.Strings
import Derived.Deep.DeepCutAuto
import Derived.Laws.BytesArg
set_option linter.unusedVariables false
set_option linter.unusedSimpArgs false
namespace Go.Proofs.YthaeomdpaadilaaGreatDoor
open Go.RowKit
set_option maxHeartbeats 400000 in
theorem hasPrefix_any (s p : ByteArray) (w : World) (h : s.size ≤ 9223372036854775807) (hp : p.size ≤ 9223372036854775807) :
  Calls Tryz.prog 132 #[.string s, .string p] w fun e w' => e = .returned (.bool (Lib.hasPrefix s.data.toList p.data.toList)) ∧ w = w' := by
 go_enter Tryz.func132, Tryz.ntmps132
 by_cases hle : (p.size : Int) ≤ s.size
 all_goals
  go_wp2
  go_ret
  refine ⟨?_, rfl⟩
  rw [← Lib.hasPrefix_raw]
  simp [hle]
  try omega
set_option maxHeartbeats 400000 in
theorem cutPrefix_lite (s p : ByteArray) (w : World) (h : s.size ≤ 9223372036854775807) (hp : p.size ≤ 9223372036854775807) :
  Calls Tryz.prog 127 #[.string s, .string p] w fun e w' => e = .returned (.tuple #[.string ⟨(Lib.trimPrefix s.data.toList p.data.toList).toArray⟩, .bool (Lib.hasPrefix s.data.toList p.data.toList)]) ∧ w = w' := by
 have hc := hasPrefix_any s p w h hp
 cases hb : Lib.hasPrefix s.data.toList p.data.toList with
 | true =>
  rw [← Lib.hasPrefix_raw] at hb
  simp only [Bool.and_eq_true, decide_eq_true_eq] at hb
  have HT := Lib.hid (Lib.trimPrefix_hit s p hb.1 hb.2)
  rw [← Lib.hasPrefix_raw] at hc
  rw [show (decide (p.size ≤ s.size) && ((s.extract 0 p.size).toList == p.toList)) = true by simp [hb]] at hc
  have HC := Lib.hid hc
  have hle : (p.size : Int) ≤ s.size := by have := hb.1; omega
  clear hb hc
  go_enter Tryz.func127, Tryz.ntmps127
  go_wp2_with fail
  refine HC.out.mono ?_
  rintro e w' ⟨rfl, rfl⟩
  go_wp2
  go_ret2
  rw [HT.out]
  exact ⟨rfl, rfl⟩
 | false =>
  have hb' := hb
  rw [← Lib.hasPrefix_raw] at hb
  have HT := Lib.hid (Lib.trimPrefix_miss s p hb)
  rw [hb'] at hc
  have HC := Lib.hid hc
  clear hb hc hb'
  go_enter Tryz.func127, Tryz.ntmps127
  go_wp2_with fail
  refine HC.out.mono ?_
  rintro e w' ⟨rfl, rfl⟩
  go_wp2
  go_ret2
  rw [HT.out]
  exact ⟨rfl, rfl⟩
set_option maxHeartbeats 400000 in
theorem cutPrefix_any (s p : ByteArray) (w : World) (h : s.size ≤ 9223372036854775807) (hp : p.size ≤ 9223372036854775807) :
  Calls Tryz.prog 120 #[.string s, .string p] w fun e w' => e = .returned (.tuple #[.string ⟨(Lib.trimPrefix s.data.toList p.data.toList).toArray⟩, .bool (Lib.hasPrefix s.data.toList p.data.toList)]) ∧ w = w' := by
 go_enter Tryz.func120, Tryz.ntmps120
 go_wp2_with fail
 refine (cutPrefix_lite s p _ h hp).mono ?_
 rintro e w' ⟨rfl, rfl⟩
 go_wp2
 go_ret2
 exact ⟨rfl, rfl⟩
theorem hasPrefix_dash (l : List UInt8) : Lib.hasPrefix l [45] = neg l := by
 cases l with
 | nil => rfl
 | cons a t =>
  simp only [Lib.hasPrefix, neg, List.isPrefixOf, List.head?_cons]
  rw [Bool.eq_iff_iff]
  simp
  exact eq_comm
theorem trimPrefix_dash (l : List UInt8) : Lib.trimPrefix l [45] = rest l := by
 unfold Lib.trimPrefix rest
 rw [hasPrefix_dash]
 rfl
set_option maxHeartbeats 400000 in
theorem cut_dash (s : ByteArray) (w : World) (h : s.size ≤ 9223372036854775807) :
  Calls Tryz.prog 120 #[.string s, .string ⟨#[45]⟩] w fun e w' => ∃ r : ByteArray, (e = .returned (.tuple #[.string r, .bool (neg s.data.toList)]) ∧ r.data.toList = rest s.data.toList) ∧ w = w' := by
 refine (cutPrefix_any s ⟨#[45]⟩ w h (by decide)).mono ?_
 rintro e w' ⟨rfl, rfl⟩
 rw [show (⟨#[45]⟩ : ByteArray).data.toList = [45] from rfl, hasPrefix_dash, trimPrefix_dash]
 exact ⟨_, ⟨rfl, rfl⟩, rfl⟩
/-- What the loop over the digits finds. -/
theorem digB_of {l t : List UInt8} {n : Bool} (hr : t = rest l) (hn : n = neg l) (h0 : t ≠ []) (h1 : ¬ (t.head? = some 48 ∧ (n = true ∨ 1 < t.length))) : digB l = t.all isDig := by
 unfold digB
 rw [← hr, ← hn]
 have e1 : t.isEmpty = false := by simpa using h0
 rw [e1]
 have e2 : (t.head? == some 48 && (n || decide (1 < t.length))) = false := by
  rw [Bool.eq_false_iff]
  intro h
  simp only [Bool.and_eq_true, Bool.or_eq_true, decide_eq_true_eq, beq_iff_eq] at h
  exact h1 h
 rw [e2]
 simp
theorem digB_empty {l : List UInt8} (h : rest l = []) : digB l = false := by unfold digB; simp [h]
theorem digB_zero {l : List UInt8} (h : (rest l).head? = some 48) (h2 : neg l = true ∨ 1 < (rest l).length) : digB l = false := by
 unfold digB
 have : ((rest l).head? == some 48 && (neg l || decide (1 < (rest l).length))) = true := by
  rw [h]; rcases h2 with h2 | h2 <;> simp [h2]
 rw [this]
 simp
theorem all_take_succ {r : ByteArray} {k : Nat} (hk : k < r.size) (h : (r.data.toList.take k).all isDig = true) (h1 : 48 ≤ r[k].toNat) (h2 : r[k].toNat ≤ 57) : (r.data.toList.take (k + 1)).all isDig = true := by
 rw [List.take_succ_eq_append_getElem (by simpa using hk), List.all_append, h]
 simp only [List.all_cons, List.all_nil, Bool.and_true, Bool.true_and]
 exact isDig_iff.2 ⟨h1, h2⟩
theorem all_not {r : ByteArray} {k : Nat} (hk : k < r.size) (h : ¬ (48 ≤ r[k].toNat ∧ r[k].toNat ≤ 57)) : r.data.toList.all isDig = false := by
 rw [Bool.eq_false_iff]
 intro ha
 have := List.all_eq_true.1 ha r[k] (by rw [Array.mem_toList_iff]; exact Array.getElem_mem _)
 exact h (isDig_iff.1 this)
/-- What is known of a text that is not empty, in the walk's words. -/
theorem nonempty_words {r : ByteArray} (h : 0 < r.size) : r.toList.isEmpty = false ∧ ¬ r.toList = [] ∧ r.data.toList ≠ [] ∧ r.data.toList.head? = some r[0] := by
 have h1 : r.data.toList ≠ [] := fun e => by
  have : r.data.toList.length = 0 := by rw [e]; rfl
  rw [← Lib.size_eq] at this
  omega
 refine ⟨?_, ?_, h1, ?_⟩
 ·rw [Lib.toList_data]; simpa using h1
 ·rw [Lib.toList_data]; exact h1
 ·rw [List.head?_eq_getElem?, List.getElem?_eq_getElem (by simpa using h)]
  rfl
theorem ret_bool {a b : Bool} (h : a = b) : Ending.returned (.bool a) = .returned (.bool b) := by rw [h]
set_option maxHeartbeats 400000 in
theorem digits_any (s : ByteArray) (w : World) (h : s.size ≤ 9223372036854775807) :
    Calls Tryz.prog 119 #[.string s] w fun e w' => e = .returned (.bool (digB s.data.toList)) ∧ w = w' := by
  go_enter Tryz.func119, Tryz.ntmps119
  go_wp2_with fail
  refine (cut_dash s _ h).mono ?_
  rintro e w' ⟨r, ⟨rfl, hr⟩, rfl⟩
  have hsz : r.size ≤ 9223372036854775807 := by
    have h1 : r.data.toList.length ≤ s.data.toList.length := by rw [hr]; unfold rest; split <;> simp
    simp at h1
    have e1 : s.size = s.data.size := rfl
    have e2 : r.size = r.data.size := rfl
    omega
  have HR := Lib.hid hr
  clear hr
  generalize hn : neg s.data.toList = n
  have HN := Lib.hid hn
  clear hn
  rcases Nat.eq_zero_or_pos r.size with hz | hp
  · obtain rfl : r = ⟨#[]⟩ := by
      have : r.data = #[] := Array.eq_empty_of_size_eq_zero hz
      cases r; simp_all
    clear hz
    have he : (⟨#[]⟩ : ByteArray).toList = [] := by rw [Lib.toList_data]
    go_wp2
    go_ret
    exact ⟨ret_bool (digB_empty HR.out.symm).symm, rfl⟩
  · obtain ⟨he, hne, hd, hh⟩ := nonempty_words hp
    have HD := Lib.hid hd
    have HH := Lib.hid hh
    clear hd hh
    go_wp2
    · have h48 : (r[0].toNat : Int) = 48 := by assumption
      have hn : n = true := by assumption
      go_ret
      refine ⟨ret_bool ?_, rfl⟩
      have h0 : r[0] = 48 := UInt8.toNat.inj (by have : (48 : UInt8).toNat = 48 := rfl; omega)
      exact (digB_zero (by rw [← HR.out, HH.out, h0]) (.inl (by rw [HN.out, hn]))).symm
    · have h48 : (r[0].toNat : Int) = 48 := by assumption
      have hl : (1 : Int) < r.size := by assumption
      go_ret
      refine ⟨ret_bool ?_, rfl⟩
      have h0 : r[0] = 48 := UInt8.toNat.inj (by have : (48 : UInt8).toNat = 48 := rfl; omega)
      exact (digB_zero (by rw [← HR.out, HH.out, h0]) (.inr (by rw [← HR.out, ← Lib.size_eq]; omega))).symm
    all_goals
      have HB : Hid (digB s.data.toList = r.data.toList.all isDig) := by
        refine digB_of HR.out HN.out.symm HD.out ?_
        rintro ⟨h1, h2⟩
        rw [HH.out] at h1
        first
          | (have h48 : ¬ (r[0].toNat : Int) = 48 := by assumption
             simp only [Option.some.injEq] at h1
             rw [h1] at h48
             exact h48 rfl)
          | (have hl : (r.size : Int) ≤ 1 := by assumption
             have hn : ¬ n = true := by assumption
             rw [← Lib.size_eq] at h2
             rcases h2 with h2 | h2
             · exact hn h2
             · omega)
      go_loop [28] (fun j => ∃ k : Nat, k ≤ r.size ∧ j = .int .i64 k ∧ (r.data.toList.take k).all isDig = true) (fun j => r.size - (intOf j).toNat)
      case atStart => exact ⟨0, Nat.zero_le _, rfl, rfl⟩
      case round =>
        obtain ⟨k, hk, rfl, hall⟩ := hrel
        have HA := Lib.hid hall
        clear hall
        by_cases hlt : k < r.size
        · by_cases hd1 : (r[k].toNat : Int) < 48
          · go_wp2
            go_ret
            exact ⟨ret_bool (by rw [HB.out]; exact (all_not hlt (by omega)).symm), rfl⟩
          · by_cases hd2 : (57 : Int) < r[k].toNat
            · go_wp2
              go_ret
              exact ⟨ret_bool (by rw [HB.out]; exact (all_not hlt (by omega)).symm), rfl⟩
            · have HS := Lib.hid (all_take_succ hlt HA.out (by omega) (by omega))
              go_wp2
              go_round
              case rel => exact ⟨k + 1, by omega, by go_num, HS.out⟩
              case measure => simp [intOf]; omega
        · go_wp2
          go_ret
          refine ⟨ret_bool ?_, rfl⟩
          rw [HB.out, ← HA.out, List.take_of_length_le (by rw [← Lib.size_eq]; omega)]
theorem rest_extract {s : ByteArray} (hp : 0 < s.size) (h : s[0] = 45) : neg s.data.toList = true ∧ (s.extract 1 s.size).data.toList = rest s.data.toList ∧ (s.extract 1 s.size).size = s.size - 1 := by
 obtain ⟨_, _, _, hh⟩ := nonempty_words hp
 have hn : neg s.data.toList = true := by unfold neg; rw [hh, h]; rfl
 refine ⟨hn, ?_, ?_⟩
 ·rw [Lib.extract_data]
  unfold rest
  rw [if_pos hn, List.take_of_length_le]
  rw [List.length_drop, ← Lib.size_eq]
  omega
 ·rw [Lib.size_eq, Lib.extract_data, List.take_of_length_le] <;> simp [← Lib.size_eq]
theorem rest_same {s : ByteArray} (h : ∀ hp : 0 < s.size, s[0] ≠ 45) : neg s.data.toList = false ∧ rest s.data.toList = s.data.toList := by
 have hn : neg s.data.toList = false := by
  unfold neg
  rcases Nat.eq_zero_or_pos s.size with hz | hp
  ·have : s.data.toList = [] := List.eq_nil_of_length_eq_zero (by rw [← Lib.size_eq]; exact hz)
   rw [this]; rfl
  ·obtain ⟨_, _, _, hh⟩ := nonempty_words hp
   rw [hh]
   simpa using h hp
 exact ⟨hn, by unfold rest; rw [hn]; rfl⟩
end Go.Proofs.YthaeomdpaadilaaGreatDoor

set_option linter.unusedVariables false
set_option linter.unusedSimpArgs false
namespace Go.Proofs.YthaeomdpaadilaaGreatDoor
open Go.RowKit
theorem ret_str {a b : ByteArray} (h : a.data.toList = b.data.toList) : Ending.returned (.string a) = .returned (.string b) := by
 have : a = b := by cases a; cases b; simp at h; rw [h]
 rw [this]
end Go.Proofs.YthaeomdpaadilaaGreatDoor

set_option linter.unusedVariables false
set_option linter.unusedSimpArgs false
namespace Go.Proofs.YthaeomdpaadilaaGreatDoor
open Go.RowKit
/-- The last cells of a row of bytes hold these. -/
def Tail (cs : Array Value) (k : Nat) (l : List UInt8) : Prop := cs.size = 20 ∧ k + l.length = 20 ∧ ∀ j c, l[j]? = some c → cs[k + j]? = some (.int .u8 c.toNat)
theorem Tail.push {cs : Array Value} {k : Nat} {l : List UInt8} (h : Tail cs (k + 1) l) (c : UInt8) : Tail (cs.setIfInBounds k (.int .u8 c.toNat)) k (c :: l) := by
 obtain ⟨h1, h2, h3⟩ := h
 refine ⟨by simp [h1], by simp; omega, fun j d hj => ?_⟩
 cases j with
 | zero =>
  simp at hj
  subst hj
  rw [Nat.add_zero, Array.getElem?_setIfInBounds]
  simp
  omega
 | succ j =>
  rw [List.getElem?_cons_succ] at hj
  rw [Array.getElem?_setIfInBounds, if_neg (by omega)]
  rw [show k + (j + 1) = k + 1 + j by omega]
  exact h3 j d hj
theorem Tail.old {cs : Array Value} {k : Nat} {l : List UInt8} (h : Tail cs (k + 1) l) : ∃ x, cs[k]? = some x := by
 obtain ⟨h1, h2, _⟩ := h
 exact ⟨_, Array.getElem?_eq_getElem (by omega)⟩
theorem strOf_digits (l : List UInt8) : strOfNums (l.map fun c => (c.toNat : Int)) = ⟨l.toArray⟩ := by
 unfold strOfNums
 simp [Function.comp_def]
theorem Tail.conv {w : World} {b k : Nat} {cs : Array Value} {l : List UInt8} (hb : Blk w b 160 cs) (h : Tail cs k l) (cap : Nat) :
  (convert 65 9 (.slice (some ⟨b, k, none⟩) (20 - k) cap)).run Tryz.prog w = .ok (.string ⟨l.toArray⟩) w := by
 have := run_convert_bytes_arg (P := Tryz.prog) w 65 5 Tryz.underlying65 Tryz.underlying5 b k (20 - k) cap (l.map fun c => (c.toNat : Int)) (by have := h.2.1; simp; omega) (fun i hi => by
  have hl : i < l.length := by have := h.2.1; omega
  rw [hb.at_ (k + i), h.2.2 i l[i] (List.getElem?_eq_getElem hl)]
  simp [List.getD, List.getElem?_eq_getElem hl]) 9 Tryz.underlying9
 rwa [strOf_digits] at this
theorem slice_arr (b k : Nat) (hk : k < 20) (W : World) :
  (Instr.sliceAt 160 (.pointer (some ⟨b, 0, none⟩)) (some (.int .i64 (k : Int))) none none).run Tryz.prog W = .ok (.slice (some ⟨b, k, none⟩) (20 - k) (20 - k)) W := by
 have hA : Tryz.prog.arrayLen 160 = 20 := by kernel_rfl
 have hE : Tryz.prog.elem 160 = 5 := by kernel_rfl
 have hs : (sizeOf 5).run Tryz.prog W = .ok 1 W := by kernel_rfl
 have := run_sliceAt_array_l (P := Tryz.prog) W 160 ⟨b, 0, none⟩ (by rw [hA, hE]; exact Tryz.underlying160) .i64 (k : Int) (by omega) (by rw [hA]; omega)
 rw [this, hE, hs, hA]
 simp only [Result.andThen, slicedAt, Int.toNat_natCast]
 rw [if_neg (by omega), Nat.mul_one]
 unfold Addr.add
 by_cases h0 : k = 0
 ·subst h0; rfl
 ·rw [if_neg (by omega)]; simp
theorem blk_only {w w' : World} (h : Only [w.heap.size] w w') : Only [] w w' := h.wide (fun i hi hl => by simp at hi; omega)
set_option maxHeartbeats 800000 in
theorem print_pos (n : Nat) (w : World) (h : (n : Int) ≤ 9223372036854775807) :
  Calls Tryz.prog 89 #[.int .i64 n] w fun e w' => e = .returned (.string ⟨(Lib.itoa n).toArray⟩) ∧ Only [] w w' := by
 have hz2 : ¬ (n : Int) < 0 := by omega
 have HN := Lib.hid (dec_len' n (by omega))
 go_enter Tryz.func89, Tryz.ntmps89
 go_wp2
 go_loopw [4, 5, 6] (fun i u f wr => ∃ (b : Bool) (v k : Nat) (l : List UInt8) (cs : Array Value), f = .bool b ∧ u = .int .u64 v ∧ i = .int .i64 k ∧ v ≤ n ∧ Lib.decDigits n = ahead b v ++ l ∧ Tail cs k l ∧ Blk wr w.heap.size 160 cs ∧ Only [w.heap.size] w wr)
  (fun i _ _ _ => (intOf i).toNat)
 case atStart => exact ⟨true, n, 20, [], _, rfl, rfl, rfl, Nat.le_refl _, by rw [ahead_first]; simp, ⟨by simp, by simp, fun j c hj => by simp at hj⟩, Blk.made _ _ _, (Only.refl _ _).alloc _⟩
 case round =>
  obtain ⟨b, v, k, l, cs, rfl, rfl, rfl, hv, hl, ht, hb, ho⟩ := hrel
  have HT := Lib.hid ht
  have HB := Lib.hid hb
  have HO := Lib.hid ho
  have HL := Lib.hid hl
  have hl19 : (ahead b v).length + l.length ≤ 19 := by rw [← List.length_append, ← hl]; exact HN.out
  have hk20 : k + l.length = 20 := ht.2.1
  clear hb ho hl ht
  by_cases hgo : (b || decide (0 < v)) = true
  ·have hap := ahead_len_pos hgo
   have hk1 : 1 ≤ k := by omega
   have hkk : k ≤ 20 := by omega
   have HS := Lib.hid (ahead_step hgo)
   have HK := Lib.hid hk20
   clear hl19 hap hk20
   obtain ⟨k, rfl⟩ : ∃ m, k = m + 1 := ⟨k - 1, by omega⟩
   obtain ⟨x, hx⟩ := HT.out.old
   have hx' : wr.cell? ⟨w.heap.size, k, none⟩ = some x := (HB.out.at_ k).trans hx
   have hf := HB.out.free k
   have hgo' : b = true ∨ (0 : Int) < v := by simpa using hgo
   clear hx
   cases b
   all_goals
    try have hv0 : (0 : Int) < v := by simpa using hgo'
    clear hgo hgo'
    go_wp2
    go_roundw
    case rel =>
     have hd := digit_toNat (Nat.mod_lt v (by decide : 10 > 0))
     refine ⟨false, v / 10, k, UInt8.ofNat (48 + v % 10) :: l, _, rfl, by go_num, by go_num, by omega, ?_, HT.out.push _, ?_, ?_⟩
     ·rw [HL.out, HS.out]; simp
     ·have := HB.out.put k (.int .u8 ((UInt8.ofNat (48 + v % 10)).toNat : Int))
      rw [hd] at this ⊢
      simpa using this
     ·exact HO.out.put (by simp) _
    case measure => simp [intOf]
  ·have he : (b || decide (0 < v)) = false := by simpa using hgo
   have hld : Lib.decDigits n = l := by rw [HL.out, ahead_end he]; rfl
   have HD := Lib.hid hld
   have hk2 : k < 20 := by
    have : 1 ≤ l.length := by rw [← hld]; exact dec_len_pos
    omega
   have hb0 : b = false := by cases b; rfl; simp at he
   have hv0 : ¬ (0 : Int) < v := by simp at he; omega
   clear hl19 hgo he hld
   have HK := Lib.hid hk20
   clear hk20
   subst hb0
   have hconv := fun cap => HT.out.conv HB.out cap
   have hsl := slice_arr w.heap.size k hk2
   go_wp2
   go_ret
   refine ⟨ret_str ?_, blk_only HO.out⟩
   rw [itoa_nat, HD.out]
set_option maxHeartbeats 800000 in
theorem print_neg (n : Nat) (w : World) (h : (n : Int) ≤ 9223372036854775808) (h0 : 0 < n) :
  Calls Tryz.prog 89 #[.int .i64 (-(n : Int))] w fun e w' => e = .returned (.string ⟨(Lib.itoa (-(n : Int))).toArray⟩) ∧ Only [] w w' := by
 obtain ⟨m, hm⟩ : ∃ m : Int, m = -(n : Int) := ⟨_, rfl⟩
 rw [← hm]
 have HM := Lib.hid hm
 have hz2 : m < 0 := by omega
 have hlo : -9223372036854775808 ≤ m := by omega
 have hw : IntKind.u64.wrap (-IntKind.u64.wrap m) = (n : Int) := by
  rw [hm]; simp only [IntKind.wrap, IntKind.bits, IntKind.signed]; simp; omega
 clear hm
 have HN := Lib.hid (dec_len' n (by omega))
 go_enter Tryz.func89, Tryz.ntmps89
 go_wp2
 go_loopw [4, 5, 6] (fun i u f wr => ∃ (b : Bool) (v k : Nat) (l : List UInt8) (cs : Array Value), f = .bool b ∧ u = .int .u64 v ∧ i = .int .i64 k ∧ v ≤ n ∧ Lib.decDigits n = ahead b v ++ l ∧ Tail cs k l ∧ Blk wr w.heap.size 160 cs ∧ Only [w.heap.size] w wr)
  (fun i _ _ _ => (intOf i).toNat)
 case atStart => exact ⟨true, n, 20, [], _, rfl, rfl, rfl, Nat.le_refl _, by rw [ahead_first]; simp, ⟨by simp, by simp, fun j c hj => by simp at hj⟩, Blk.made _ _ _, (Only.refl _ _).alloc _⟩
 case round =>
  obtain ⟨b, v, k, l, cs, rfl, rfl, rfl, hv, hl, ht, hb, ho⟩ := hrel
  have HT := Lib.hid ht
  have HB := Lib.hid hb
  have HO := Lib.hid ho
  have HL := Lib.hid hl
  have hl19 : (ahead b v).length + l.length ≤ 19 := by rw [← List.length_append, ← hl]; exact HN.out
  have hk20 : k + l.length = 20 := ht.2.1
  clear hb ho hl ht
  by_cases hgo : (b || decide (0 < v)) = true
  ·have hap := ahead_len_pos hgo
   have hk1 : 1 ≤ k := by omega
   have hkk : k ≤ 20 := by omega
   have HS := Lib.hid (ahead_step hgo)
   have HK := Lib.hid hk20
   clear hl19 hap hk20
   obtain ⟨k, rfl⟩ : ∃ m, k = m + 1 := ⟨k - 1, by omega⟩
   obtain ⟨x, hx⟩ := HT.out.old
   have hx' : wr.cell? ⟨w.heap.size, k, none⟩ = some x := (HB.out.at_ k).trans hx
   have hf := HB.out.free k
   have hgo' : b = true ∨ (0 : Int) < v := by simpa using hgo
   clear hx
   cases b
   all_goals
    try have hv0 : (0 : Int) < v := by simpa using hgo'
    clear hgo hgo'
    go_wp2
    go_roundw
    case rel =>
     have hd := digit_toNat (Nat.mod_lt v (by decide : 10 > 0))
     refine ⟨false, v / 10, k, UInt8.ofNat (48 + v % 10) :: l, _, rfl, by go_num, by go_num, by omega, ?_, HT.out.push _, ?_, ?_⟩
     ·rw [HL.out, HS.out]; simp
     ·have := HB.out.put k (.int .u8 ((UInt8.ofNat (48 + v % 10)).toNat : Int))
      rw [hd] at this ⊢
      simpa using this
     ·exact HO.out.put (by simp) _
    case measure => simp [intOf]
  ·have he : (b || decide (0 < v)) = false := by simpa using hgo
   have hld : Lib.decDigits n = l := by rw [HL.out, ahead_end he]; rfl
   have HD := Lib.hid hld
   have hk2 : k < 20 := by
    have : 1 ≤ l.length := by rw [← hld]; exact dec_len_pos
    omega
   have hb0 : b = false := by cases b; rfl; simp at he
   have hv0 : ¬ (0 : Int) < v := by simp at he; omega
   clear hl19 hgo he hld
   have hk1 : 1 ≤ k := by
    have := HN.out
    rw [HD.out] at this
    omega
   have HK := Lib.hid hk20
   clear hk20
   subst hb0
   obtain ⟨k, rfl⟩ : ∃ m, k = m + 1 := ⟨k - 1, by omega⟩
   obtain ⟨x, hx⟩ := HT.out.old
   have hx' : wr.cell? ⟨w.heap.size, k, none⟩ = some x := (HB.out.at_ k).trans hx
   have hf := HB.out.free k
   clear hx
   have hput : Blk (wr.setCell ⟨w.heap.size, k, none⟩ (.int .u8 45)) w.heap.size 160 _ := HB.out.put k (.int .u8 45)
   have htail : Tail _ k (45 :: l) := HT.out.push 45
   have hconv := fun cap => htail.conv hput cap
   have HP := Lib.hid hput
   clear hput htail
   have hk19 : k < 20 := by omega
   have hsl := slice_arr w.heap.size k hk19
   go_wp2
   go_ret
   refine ⟨ret_str ?_, blk_only (HO.out.put (by simp) _)⟩
   rw [HM.out, itoa_neg n h0, HD.out]
theorem print_any (n : Int) (w : World) (h1 : -9223372036854775808 ≤ n) (h2 : n ≤ 9223372036854775807) :
  Calls Tryz.prog 89 #[.int .i64 n] w fun e w' => e = .returned (.string ⟨(Lib.itoa n).toArray⟩) ∧ Only [] w w' := by
 by_cases hn : n < 0
 ·have := print_neg n.natAbs w (by omega) (by omega)
  rwa [show (-(n.natAbs : Int)) = n by omega] at this
 ·have := print_pos n.natAbs w (by omega)
  rwa [show (n.natAbs : Int) = n by omega] at this
end Go.Proofs.YthaeomdpaadilaaGreatDoor
