/- Parts. -/
import Derived.Test.YthdofaoamljkfaaGreatDoorLaw24AllK6
set_option maxRecDepth 10000
set_option maxHeartbeats 16000000
set_option linter.unusedVariables false
set_option linter.unusedSimpArgs false
namespace Go.Proofs.YthdofaoamljkfaaGreatDoor
open Go.RowKit
open Go.Lib hiding intOf
attribute [local go_sem ↓] Go.wp_at_zero Go.wp_at_succ
structure Ex (w w' : World) : Prop where
 only : Only [] w w'
 drawn : w.drawn ≤ w'.drawn
theorem Ex.refl (w : World) : Ex w w := ⟨Only.refl [] w, Nat.le_refl _⟩
theorem Ex.trans {w w' w'' : World} (h : Ex w w') (k : Ex w' w'') : Ex w w'' := ⟨h.only.trans k.only, Nat.le_trans h.drawn k.drawn⟩
theorem Ex.alloc {w w' : World} (h : Ex w w') (o : Obj) : Ex w (w'.alloc o) := ⟨h.only.alloc o, h.drawn⟩
theorem Ex.iter {w w' : World} (h : Ex w w') {k : Nat} (s : ByteArray) (pos : Nat) (hk : k < w.heap.size → k ∈ ([] : List Nat)) : Ex w (w'.iterAt k s pos) := by
 refine ⟨only_iter h.only s pos hk, Nat.le_trans h.drawn (Nat.le_of_eq ?_)⟩;unfold World.iterAt
 rfl
theorem Ex.grown {w w' : World} (h : Ex w w') : ∃ q os, w' = Go.Sort.grow (w.drewN q) os := by
 have hb : Below w.heap.size w w' := h.only.below (Nat.le_refl _) (by simp);refine ⟨w'.drawn - w.drawn, w'.heap.extract w.heap.size w'.heap.size, ?_⟩;have hd := h.drawn;obtain ⟨heap', tape', drawn', os', output'⟩ := w';have e1 : os' = w.os := hb.os;have e2 : tape' = w.tape := hb.tape;have e3 : output' = w.output := hb.output;have hs : w.heap.size ≤ heap'.size := hb.size;have hk' : ∀ k, k < w.heap.size → heap'[k]? = w.heap[k]? := hb.block;have hd' : w.drawn ≤ drawn' := hd;subst e1 e2 e3;have eh : heap' = w.heap ++ heap'.extract w.heap.size heap'.size := by
  apply Array.ext_getElem?
  intro k
  by_cases hk : k < w.heap.size
  ·rw [Array.getElem?_append_left hk]; exact hk' k hk
  ·rw [Array.getElem?_append_right (by omega), Array.getElem?_extract]
   by_cases hk2 : k < heap'.size
   ·rw [if_pos (by omega)]; congr 1; omega
   ·rw [if_neg (by omega), Array.getElem?_eq_none (by omega)]
 have ed : w.drawn + (drawn' - w.drawn) = drawn' := by omega
 simp only [Go.Sort.grow, World.drewN, ed]
 congr 1
theorem byte_get (s : ByteArray) (k : Nat) (h : k < s.size) : s[k] = s.get! k := by
 cases s with
 | mk d => exact (getElem!_pos d k h).symm
set_option maxRecDepth 100000 in
theorem slow_241 (s : ByteArray) (w : World) (h0 : 0 < s.size) (hT : UTabs w) (hX : firstT (s.get! 0).toNat = 241) :
  Calls Tryz.prog 119 #[.string s] w fun e w' => e = .returned (.tuple #[.int .i32 ((Lib.decodeGo s).1 : Nat), .int .i64 ((Lib.decodeGo s).2 : Nat)]) ∧ Ex w w' := by
 have hz0 : (0 : Int) < (s.size : Int) := by omega
 have hz0' : ¬ ((s.size : Int) < 1) := by omega
 have hs0 := byte_get s 0 h0;have l0 := (s.get! 0).toNat_lt;have l1 := (s.get! 1).toNat_lt;have l2 := (s.get! 2).toNat_lt;have l3 := (s.get! 3).toNat_lt;have hdec : Lib.decodeGo s = decodeN s.size (s.get! 0).toNat (s.get! 1).toNat (s.get! 2).toNat (s.get! 3).toNat := by
  unfold Lib.decodeGo;rw [if_neg (by omega), Lib.decode_at, Nat.sub_zero, Nat.zero_add, Nat.zero_add, Nat.zero_add]
 rw [hdec];have hc0 : w.cell? ⟨0, (s.get! 0).toNat, none⟩ = some (.int .u8 241) := by
  have := hT.1 (s.get! 0).toNat (by omega)
  rwa [hX] at this
 rw [Lib.bad_eq _ _ _ _ _ (by omega) hX];generalize s.get! 0 = x0 at *;clear hT hX hdec;go_enter Tryz.func119, Tryz.ntmps119;go_wp2
 rw [Utf8W.mask241, Utf8W.drop_byte ⟨x0.toNat, l0⟩];go_ret2
 exact ⟨rfl, Ex.refl _⟩
set_option maxRecDepth 100000 in
theorem slow_2 (s : ByteArray) (w : World) (h0 : 0 < s.size) (hT : UTabs w) (hX : firstT (s.get! 0).toNat = 2) :
  Calls Tryz.prog 119 #[.string s] w fun e w' => e = .returned (.tuple #[.int .i32 ((Lib.decodeGo s).1 : Nat), .int .i64 ((Lib.decodeGo s).2 : Nat)]) ∧ Ex w w' := by
 have hz0 : (0 : Int) < (s.size : Int) := by omega
 have hz0' : ¬ ((s.size : Int) < 1) := by omega
 have hs0 := byte_get s 0 h0;have l0 := (s.get! 0).toNat_lt;have l1 := (s.get! 1).toNat_lt;have l2 := (s.get! 2).toNat_lt;have l3 := (s.get! 3).toNat_lt;have hdec : Lib.decodeGo s = decodeN s.size (s.get! 0).toNat (s.get! 1).toNat (s.get! 2).toNat (s.get! 3).toNat := by
  unfold Lib.decodeGo;rw [if_neg (by omega), Lib.decode_at, Nat.sub_zero, Nat.zero_add, Nat.zero_add, Nat.zero_add]
 rw [hdec];have hc0 : w.cell? ⟨0, (s.get! 0).toNat, none⟩ = some (.int .u8 2) := by
  have := hT.1 (s.get! 0).toNat (by omega)
  rwa [hX] at this
 have ha0 : w.cell? ⟨1, 0, none⟩ = some (.int .u8 128) := (hT.2 0 (by omega)).1;have ha1 : w.cell? ⟨1, 1, none⟩ = some (.int .u8 191) := (hT.2 0 (by omega)).2;have hres : decodeN s.size (s.get! 0).toNat (s.get! 1).toNat (s.get! 2).toNat (s.get! 3).toNat = slowN s.size (s.get! 0).toNat (s.get! 1).toNat (s.get! 2).toNat (s.get! 3).toNat 2 128 191 := by
  have := (Lib.slow_eq s.size (s.get! 0).toNat (s.get! 1).toNat (s.get! 2).toNat (s.get! 3).toNat (by omega) (by omega) (by omega) (by omega) (by rw [hX]; omega)).symm;rw [hX] at this;exact this
 rw [hres];have hs1 := fun h => byte_get s 1 h;generalize s.get! 0 = x0 at *;generalize s.get! 1 = x1 at *;generalize s.get! 2 = x2 at *;generalize s.get! 3 = x3 at *;clear hT hX hdec hres
 by_cases hn : s.size < 2
 ·have hnz : (s.size : Int) < 2 := by omega
  clear hs1;go_enter Tryz.func119, Tryz.ntmps119;go_wp2
  all_goals (go_ret2; refine ⟨?_, (Ex.refl _).alloc _⟩; utf8_leaf)
 ·have hz1 : (1 : Int) < (s.size : Int) := by omega
  replace hs1 := hs1 (by omega)
  go_enter Tryz.func119, Tryz.ntmps119;go_wp2
  all_goals (go_ret2; refine ⟨?_, (Ex.refl _).alloc _⟩; utf8_leaf)
set_option maxRecDepth 100000 in
theorem slow_19 (s : ByteArray) (w : World) (h0 : 0 < s.size) (hT : UTabs w) (hX : firstT (s.get! 0).toNat = 19) :
  Calls Tryz.prog 119 #[.string s] w fun e w' => e = .returned (.tuple #[.int .i32 ((Lib.decodeGo s).1 : Nat), .int .i64 ((Lib.decodeGo s).2 : Nat)]) ∧ Ex w w' := by
 have hz0 : (0 : Int) < (s.size : Int) := by omega
 have hz0' : ¬ ((s.size : Int) < 1) := by omega
 have hs0 := byte_get s 0 h0;have l0 := (s.get! 0).toNat_lt;have l1 := (s.get! 1).toNat_lt;have l2 := (s.get! 2).toNat_lt;have l3 := (s.get! 3).toNat_lt;have hdec : Lib.decodeGo s = decodeN s.size (s.get! 0).toNat (s.get! 1).toNat (s.get! 2).toNat (s.get! 3).toNat := by
  unfold Lib.decodeGo;rw [if_neg (by omega), Lib.decode_at, Nat.sub_zero, Nat.zero_add, Nat.zero_add, Nat.zero_add]
 rw [hdec];have hc0 : w.cell? ⟨0, (s.get! 0).toNat, none⟩ = some (.int .u8 19) := by
  have := hT.1 (s.get! 0).toNat (by omega)
  rwa [hX] at this
 have ha0 : w.cell? ⟨1, 2, none⟩ = some (.int .u8 160) := (hT.2 1 (by omega)).1;have ha1 : w.cell? ⟨1, 3, none⟩ = some (.int .u8 191) := (hT.2 1 (by omega)).2;have hres : decodeN s.size (s.get! 0).toNat (s.get! 1).toNat (s.get! 2).toNat (s.get! 3).toNat = slowN s.size (s.get! 0).toNat (s.get! 1).toNat (s.get! 2).toNat (s.get! 3).toNat 3 160 191 := by
  have := (Lib.slow_eq s.size (s.get! 0).toNat (s.get! 1).toNat (s.get! 2).toNat (s.get! 3).toNat (by omega) (by omega) (by omega) (by omega) (by rw [hX]; omega)).symm;rw [hX] at this;exact this
 rw [hres];have hs1 := fun h => byte_get s 1 h;have hs2 := fun h => byte_get s 2 h;generalize s.get! 0 = x0 at *;generalize s.get! 1 = x1 at *;generalize s.get! 2 = x2 at *;generalize s.get! 3 = x3 at *;clear hT hX hdec hres
 by_cases hn : s.size < 3
 ·have hnz : (s.size : Int) < 3 := by omega
  clear hs1 hs2;go_enter Tryz.func119, Tryz.ntmps119;go_wp2
  all_goals (go_ret2; refine ⟨?_, (Ex.refl _).alloc _⟩; utf8_leaf)
 ·have hz1 : (1 : Int) < (s.size : Int) := by omega
  replace hs1 := hs1 (by omega)
  have hz2 : (2 : Int) < (s.size : Int) := by omega
  replace hs2 := hs2 (by omega)
  go_enter Tryz.func119, Tryz.ntmps119;go_wp2
  all_goals (go_ret2; refine ⟨?_, (Ex.refl _).alloc _⟩; utf8_leaf)
set_option maxRecDepth 100000 in
theorem slow_3 (s : ByteArray) (w : World) (h0 : 0 < s.size) (hT : UTabs w) (hX : firstT (s.get! 0).toNat = 3) :
  Calls Tryz.prog 119 #[.string s] w fun e w' => e = .returned (.tuple #[.int .i32 ((Lib.decodeGo s).1 : Nat), .int .i64 ((Lib.decodeGo s).2 : Nat)]) ∧ Ex w w' := by
 have hz0 : (0 : Int) < (s.size : Int) := by omega
 have hz0' : ¬ ((s.size : Int) < 1) := by omega
 have hs0 := byte_get s 0 h0;have l0 := (s.get! 0).toNat_lt;have l1 := (s.get! 1).toNat_lt;have l2 := (s.get! 2).toNat_lt;have l3 := (s.get! 3).toNat_lt;have hdec : Lib.decodeGo s = decodeN s.size (s.get! 0).toNat (s.get! 1).toNat (s.get! 2).toNat (s.get! 3).toNat := by
  unfold Lib.decodeGo;rw [if_neg (by omega), Lib.decode_at, Nat.sub_zero, Nat.zero_add, Nat.zero_add, Nat.zero_add]
 rw [hdec];have hc0 : w.cell? ⟨0, (s.get! 0).toNat, none⟩ = some (.int .u8 3) := by
  have := hT.1 (s.get! 0).toNat (by omega)
  rwa [hX] at this
 have ha0 : w.cell? ⟨1, 0, none⟩ = some (.int .u8 128) := (hT.2 0 (by omega)).1;have ha1 : w.cell? ⟨1, 1, none⟩ = some (.int .u8 191) := (hT.2 0 (by omega)).2;have hres : decodeN s.size (s.get! 0).toNat (s.get! 1).toNat (s.get! 2).toNat (s.get! 3).toNat = slowN s.size (s.get! 0).toNat (s.get! 1).toNat (s.get! 2).toNat (s.get! 3).toNat 3 128 191 := by
  have := (Lib.slow_eq s.size (s.get! 0).toNat (s.get! 1).toNat (s.get! 2).toNat (s.get! 3).toNat (by omega) (by omega) (by omega) (by omega) (by rw [hX]; omega)).symm;rw [hX] at this;exact this
 rw [hres];have hs1 := fun h => byte_get s 1 h;have hs2 := fun h => byte_get s 2 h;generalize s.get! 0 = x0 at *;generalize s.get! 1 = x1 at *;generalize s.get! 2 = x2 at *;generalize s.get! 3 = x3 at *;clear hT hX hdec hres
 by_cases hn : s.size < 3
 ·have hnz : (s.size : Int) < 3 := by omega
  clear hs1 hs2;go_enter Tryz.func119, Tryz.ntmps119;go_wp2
  all_goals (go_ret2; refine ⟨?_, (Ex.refl _).alloc _⟩; utf8_leaf)
 ·have hz1 : (1 : Int) < (s.size : Int) := by omega
  replace hs1 := hs1 (by omega)
  have hz2 : (2 : Int) < (s.size : Int) := by omega
  replace hs2 := hs2 (by omega)
  go_enter Tryz.func119, Tryz.ntmps119;go_wp2
  all_goals (go_ret2; refine ⟨?_, (Ex.refl _).alloc _⟩; utf8_leaf)
set_option maxRecDepth 100000 in
theorem slow_35 (s : ByteArray) (w : World) (h0 : 0 < s.size) (hT : UTabs w) (hX : firstT (s.get! 0).toNat = 35) :
  Calls Tryz.prog 119 #[.string s] w fun e w' => e = .returned (.tuple #[.int .i32 ((Lib.decodeGo s).1 : Nat), .int .i64 ((Lib.decodeGo s).2 : Nat)]) ∧ Ex w w' := by
 have hz0 : (0 : Int) < (s.size : Int) := by omega
 have hz0' : ¬ ((s.size : Int) < 1) := by omega
 have hs0 := byte_get s 0 h0;have l0 := (s.get! 0).toNat_lt;have l1 := (s.get! 1).toNat_lt;have l2 := (s.get! 2).toNat_lt;have l3 := (s.get! 3).toNat_lt;have hdec : Lib.decodeGo s = decodeN s.size (s.get! 0).toNat (s.get! 1).toNat (s.get! 2).toNat (s.get! 3).toNat := by
  unfold Lib.decodeGo;rw [if_neg (by omega), Lib.decode_at, Nat.sub_zero, Nat.zero_add, Nat.zero_add, Nat.zero_add]
 rw [hdec];have hc0 : w.cell? ⟨0, (s.get! 0).toNat, none⟩ = some (.int .u8 35) := by
  have := hT.1 (s.get! 0).toNat (by omega)
  rwa [hX] at this
 have ha0 : w.cell? ⟨1, 4, none⟩ = some (.int .u8 128) := (hT.2 2 (by omega)).1;have ha1 : w.cell? ⟨1, 5, none⟩ = some (.int .u8 159) := (hT.2 2 (by omega)).2;have hres : decodeN s.size (s.get! 0).toNat (s.get! 1).toNat (s.get! 2).toNat (s.get! 3).toNat = slowN s.size (s.get! 0).toNat (s.get! 1).toNat (s.get! 2).toNat (s.get! 3).toNat 3 128 159 := by
  have := (Lib.slow_eq s.size (s.get! 0).toNat (s.get! 1).toNat (s.get! 2).toNat (s.get! 3).toNat (by omega) (by omega) (by omega) (by omega) (by rw [hX]; omega)).symm;rw [hX] at this;exact this
 rw [hres];have hs1 := fun h => byte_get s 1 h;have hs2 := fun h => byte_get s 2 h;generalize s.get! 0 = x0 at *;generalize s.get! 1 = x1 at *;generalize s.get! 2 = x2 at *;generalize s.get! 3 = x3 at *;clear hT hX hdec hres
 by_cases hn : s.size < 3
 ·have hnz : (s.size : Int) < 3 := by omega
  clear hs1 hs2;go_enter Tryz.func119, Tryz.ntmps119;go_wp2
  all_goals (go_ret2; refine ⟨?_, (Ex.refl _).alloc _⟩; utf8_leaf)
 ·have hz1 : (1 : Int) < (s.size : Int) := by omega
  replace hs1 := hs1 (by omega)
  have hz2 : (2 : Int) < (s.size : Int) := by omega
  replace hs2 := hs2 (by omega)
  go_enter Tryz.func119, Tryz.ntmps119;go_wp2
  all_goals (go_ret2; refine ⟨?_, (Ex.refl _).alloc _⟩; utf8_leaf)
set_option maxRecDepth 100000 in
theorem slow_52 (s : ByteArray) (w : World) (h0 : 0 < s.size) (hT : UTabs w) (hX : firstT (s.get! 0).toNat = 52) :
  Calls Tryz.prog 119 #[.string s] w fun e w' => e = .returned (.tuple #[.int .i32 ((Lib.decodeGo s).1 : Nat), .int .i64 ((Lib.decodeGo s).2 : Nat)]) ∧ Ex w w' := by
 have hz0 : (0 : Int) < (s.size : Int) := by omega
 have hz0' : ¬ ((s.size : Int) < 1) := by omega
 have hs0 := byte_get s 0 h0;have l0 := (s.get! 0).toNat_lt;have l1 := (s.get! 1).toNat_lt;have l2 := (s.get! 2).toNat_lt;have l3 := (s.get! 3).toNat_lt;have hdec : Lib.decodeGo s = decodeN s.size (s.get! 0).toNat (s.get! 1).toNat (s.get! 2).toNat (s.get! 3).toNat := by
  unfold Lib.decodeGo;rw [if_neg (by omega), Lib.decode_at, Nat.sub_zero, Nat.zero_add, Nat.zero_add, Nat.zero_add]
 rw [hdec];have hc0 : w.cell? ⟨0, (s.get! 0).toNat, none⟩ = some (.int .u8 52) := by
  have := hT.1 (s.get! 0).toNat (by omega)
  rwa [hX] at this
 have ha0 : w.cell? ⟨1, 6, none⟩ = some (.int .u8 144) := (hT.2 3 (by omega)).1;have ha1 : w.cell? ⟨1, 7, none⟩ = some (.int .u8 191) := (hT.2 3 (by omega)).2;have hres : decodeN s.size (s.get! 0).toNat (s.get! 1).toNat (s.get! 2).toNat (s.get! 3).toNat = slowN s.size (s.get! 0).toNat (s.get! 1).toNat (s.get! 2).toNat (s.get! 3).toNat 4 144 191 := by
  have := (Lib.slow_eq s.size (s.get! 0).toNat (s.get! 1).toNat (s.get! 2).toNat (s.get! 3).toNat (by omega) (by omega) (by omega) (by omega) (by rw [hX]; omega)).symm;rw [hX] at this;exact this
 rw [hres];have hs1 := fun h => byte_get s 1 h;have hs2 := fun h => byte_get s 2 h;have hs3 := fun h => byte_get s 3 h;generalize s.get! 0 = x0 at *;generalize s.get! 1 = x1 at *;generalize s.get! 2 = x2 at *;generalize s.get! 3 = x3 at *;clear hT hX hdec hres
 by_cases hn : s.size < 4
 ·have hnz : (s.size : Int) < 4 := by omega
  clear hs1 hs2 hs3;go_enter Tryz.func119, Tryz.ntmps119;go_wp2
  all_goals (go_ret2; refine ⟨?_, (Ex.refl _).alloc _⟩; utf8_leaf)
 ·have hz1 : (1 : Int) < (s.size : Int) := by omega
  replace hs1 := hs1 (by omega)
  have hz2 : (2 : Int) < (s.size : Int) := by omega
  replace hs2 := hs2 (by omega)
  have hz3 : (3 : Int) < (s.size : Int) := by omega
  replace hs3 := hs3 (by omega)
  go_enter Tryz.func119, Tryz.ntmps119;go_wp2
  all_goals (go_ret2; refine ⟨?_, (Ex.refl _).alloc _⟩; utf8_leaf)
set_option maxRecDepth 100000 in
theorem slow_4 (s : ByteArray) (w : World) (h0 : 0 < s.size) (hT : UTabs w) (hX : firstT (s.get! 0).toNat = 4) :
  Calls Tryz.prog 119 #[.string s] w fun e w' => e = .returned (.tuple #[.int .i32 ((Lib.decodeGo s).1 : Nat), .int .i64 ((Lib.decodeGo s).2 : Nat)]) ∧ Ex w w' := by
 have hz0 : (0 : Int) < (s.size : Int) := by omega
 have hz0' : ¬ ((s.size : Int) < 1) := by omega
 have hs0 := byte_get s 0 h0;have l0 := (s.get! 0).toNat_lt;have l1 := (s.get! 1).toNat_lt;have l2 := (s.get! 2).toNat_lt;have l3 := (s.get! 3).toNat_lt;have hdec : Lib.decodeGo s = decodeN s.size (s.get! 0).toNat (s.get! 1).toNat (s.get! 2).toNat (s.get! 3).toNat := by
  unfold Lib.decodeGo;rw [if_neg (by omega), Lib.decode_at, Nat.sub_zero, Nat.zero_add, Nat.zero_add, Nat.zero_add]
 rw [hdec];have hc0 : w.cell? ⟨0, (s.get! 0).toNat, none⟩ = some (.int .u8 4) := by
  have := hT.1 (s.get! 0).toNat (by omega)
  rwa [hX] at this
 have ha0 : w.cell? ⟨1, 0, none⟩ = some (.int .u8 128) := (hT.2 0 (by omega)).1;have ha1 : w.cell? ⟨1, 1, none⟩ = some (.int .u8 191) := (hT.2 0 (by omega)).2;have hres : decodeN s.size (s.get! 0).toNat (s.get! 1).toNat (s.get! 2).toNat (s.get! 3).toNat = slowN s.size (s.get! 0).toNat (s.get! 1).toNat (s.get! 2).toNat (s.get! 3).toNat 4 128 191 := by
  have := (Lib.slow_eq s.size (s.get! 0).toNat (s.get! 1).toNat (s.get! 2).toNat (s.get! 3).toNat (by omega) (by omega) (by omega) (by omega) (by rw [hX]; omega)).symm;rw [hX] at this;exact this
 rw [hres];have hs1 := fun h => byte_get s 1 h;have hs2 := fun h => byte_get s 2 h;have hs3 := fun h => byte_get s 3 h;generalize s.get! 0 = x0 at *;generalize s.get! 1 = x1 at *;generalize s.get! 2 = x2 at *;generalize s.get! 3 = x3 at *;clear hT hX hdec hres
 by_cases hn : s.size < 4
 ·have hnz : (s.size : Int) < 4 := by omega
  clear hs1 hs2 hs3;go_enter Tryz.func119, Tryz.ntmps119;go_wp2
  all_goals (go_ret2; refine ⟨?_, (Ex.refl _).alloc _⟩; utf8_leaf)
 ·have hz1 : (1 : Int) < (s.size : Int) := by omega
  replace hs1 := hs1 (by omega)
  have hz2 : (2 : Int) < (s.size : Int) := by omega
  replace hs2 := hs2 (by omega)
  have hz3 : (3 : Int) < (s.size : Int) := by omega
  replace hs3 := hs3 (by omega)
  go_enter Tryz.func119, Tryz.ntmps119;go_wp2
  all_goals (go_ret2; refine ⟨?_, (Ex.refl _).alloc _⟩; utf8_leaf)
set_option maxRecDepth 100000 in
theorem slow_68 (s : ByteArray) (w : World) (h0 : 0 < s.size) (hT : UTabs w) (hX : firstT (s.get! 0).toNat = 68) :
  Calls Tryz.prog 119 #[.string s] w fun e w' => e = .returned (.tuple #[.int .i32 ((Lib.decodeGo s).1 : Nat), .int .i64 ((Lib.decodeGo s).2 : Nat)]) ∧ Ex w w' := by
 have hz0 : (0 : Int) < (s.size : Int) := by omega
 have hz0' : ¬ ((s.size : Int) < 1) := by omega
 have hs0 := byte_get s 0 h0;have l0 := (s.get! 0).toNat_lt;have l1 := (s.get! 1).toNat_lt;have l2 := (s.get! 2).toNat_lt;have l3 := (s.get! 3).toNat_lt;have hdec : Lib.decodeGo s = decodeN s.size (s.get! 0).toNat (s.get! 1).toNat (s.get! 2).toNat (s.get! 3).toNat := by
  unfold Lib.decodeGo;rw [if_neg (by omega), Lib.decode_at, Nat.sub_zero, Nat.zero_add, Nat.zero_add, Nat.zero_add]
 rw [hdec];have hc0 : w.cell? ⟨0, (s.get! 0).toNat, none⟩ = some (.int .u8 68) := by
  have := hT.1 (s.get! 0).toNat (by omega)
  rwa [hX] at this
 have ha0 : w.cell? ⟨1, 8, none⟩ = some (.int .u8 128) := (hT.2 4 (by omega)).1;have ha1 : w.cell? ⟨1, 9, none⟩ = some (.int .u8 143) := (hT.2 4 (by omega)).2;have hres : decodeN s.size (s.get! 0).toNat (s.get! 1).toNat (s.get! 2).toNat (s.get! 3).toNat = slowN s.size (s.get! 0).toNat (s.get! 1).toNat (s.get! 2).toNat (s.get! 3).toNat 4 128 143 := by
  have := (Lib.slow_eq s.size (s.get! 0).toNat (s.get! 1).toNat (s.get! 2).toNat (s.get! 3).toNat (by omega) (by omega) (by omega) (by omega) (by rw [hX]; omega)).symm;rw [hX] at this;exact this
 rw [hres];have hs1 := fun h => byte_get s 1 h;have hs2 := fun h => byte_get s 2 h;have hs3 := fun h => byte_get s 3 h;generalize s.get! 0 = x0 at *;generalize s.get! 1 = x1 at *;generalize s.get! 2 = x2 at *;generalize s.get! 3 = x3 at *;clear hT hX hdec hres
 by_cases hn : s.size < 4
 ·have hnz : (s.size : Int) < 4 := by omega
  clear hs1 hs2 hs3;go_enter Tryz.func119, Tryz.ntmps119;go_wp2
  all_goals (go_ret2; refine ⟨?_, (Ex.refl _).alloc _⟩; utf8_leaf)
 ·have hz1 : (1 : Int) < (s.size : Int) := by omega
  replace hs1 := hs1 (by omega)
  have hz2 : (2 : Int) < (s.size : Int) := by omega
  replace hs2 := hs2 (by omega)
  have hz3 : (3 : Int) < (s.size : Int) := by omega
  replace hs3 := hs3 (by omega)
  go_enter Tryz.func119, Tryz.ntmps119;go_wp2
  all_goals (go_ret2; refine ⟨?_, (Ex.refl _).alloc _⟩; utf8_leaf)
set_option maxRecDepth 100000 in
theorem slow_ex (s : ByteArray) (w : World) (h0 : 0 < s.size) (hb : 128 ≤ (s.get! 0).toNat) (hT : UTabs w) :
  Calls Tryz.prog 119 #[.string s] w fun e w' => e = .returned (.tuple #[.int .i32 ((Lib.decodeGo s).1 : Nat), .int .i64 ((Lib.decodeGo s).2 : Nat)]) ∧ Ex w w' := by
 rcases Lib.firstT_cases (s.get! 0).toNat with hX | hX | hX | hX | hX | hX | hX | hX | hX
 ·exfalso
  have e := Lib.ascii_eq s.size (s.get! 0).toNat (s.get! 1).toNat (s.get! 2).toNat (s.get! 3).toNat hX;have l0 := (s.get! 0).toNat_lt;generalize (s.get! 0).toNat = b0 at *;rcases decodeN_shape s.size b0 (s.get! 1).toNat (s.get! 2).toNat (s.get! 3).toNat with ⟨c, e'⟩ | ⟨c1, c2, c3, cv, e'⟩ | ⟨c1, c2, c3, c4, cv, cs, e'⟩ | ⟨c1, c2, c3, c4, c5, cv, cw, e'⟩ | e'
  all_goals (rw [e] at e'; have h1 := congrArg Prod.fst e'; have h2 := congrArg Prod.snd e'; simp only at h1 h2; omega)
 ·exact slow_241 s w h0 hT hX
 ·exact slow_2 s w h0 hT hX
 ·exact slow_19 s w h0 hT hX
 ·exact slow_3 s w h0 hT hX
 ·exact slow_35 s w h0 hT hX
 ·exact slow_52 s w h0 hT hX
 ·exact slow_4 s w h0 hT hX
 ·exact slow_68 s w h0 hT hX
end Go.Proofs.YthdofaoamljkfaaGreatDoor
