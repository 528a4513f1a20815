/- Bits of a word: what the model's operations on uint64 are in numbers. known.Keys: a set of keys, a bit each; known.Own. What known.Bad holds: which keys were written, and the last values. Mathematics. -/
import Derived.Test.YtjhomlnlmpdklaaGreatDoorInnerAgreesCardK1
import Derived.Test.YtjhomlnlmpdklaaGreatDoorInnerAgreesCardK3
import Derived.Lib.TrailingZeros
import Derived.Laws.BitsAllLaws
import Derived.RegionTactic
import Derived.Test.YtjhomlnlmpdklaaGreatDoorInnerAgreesCardK32
import Derived.Test.YtjhomlnlmpdklaaGreatDoorInnerAgreesCardK10
import Derived.Test.YtjhomlnlmpdklaaGreatDoorInnerAgreesCardK31
set_option linter.unusedVariables false
set_option linter.unusedSimpArgs false
namespace Go.Proofs.YtjhomlnlmpdklaaGreatDoor
open Go.RowKit
theorem wrap_pow (r : Nat) (hr : r < 64) : IntKind.u64.wrap ((2 : Int) ^ r) = ((2 ^ r : Nat) : Int) := by
 have h : (2 : Nat) ^ r < 2 ^ 64 := Nat.pow_lt_pow_right (by decide) hr
 rw [show ((2 : Int) ^ r) = ((2 ^ r : Nat) : Int) by simp]
 generalize (2 : Nat) ^ r = q at h ⊢
 exact IntWalk.u64_in _ (by omega)
theorem test_val (x r : Nat) (hx : x < 18446744073709551616) : (bits .and .u64 ((x : Int) / 2 ^ r) 1 == 1) = x.testBit r := by
 have e : ((x : Int) / 2 ^ r) = ((x / 2 ^ r : Nat) : Int) := by simp
 have hlt : x / 2 ^ r < 18446744073709551616 := Nat.lt_of_le_of_lt (Nat.div_le_self _ _) hx
 rw [e, show (1 : Int) = ((1 : Nat) : Int) from rfl, u64_and_nat _ 1 hlt (by decide), Nat.and_one_is_mod, Nat.testBit_eq_decide_div_mod_eq]
 rw [Bool.eq_iff_iff]
 simp
 omega
theorem pow_lt64 (r : Nat) (hr : r < 64) : (2 : Nat) ^ r < 18446744073709551616 := by
 have h : (2 : Nat) ^ r < 2 ^ 64 := Nat.pow_lt_pow_right (by decide) hr
 exact h
theorem or_val (x r : Nat) (hx : x < 18446744073709551616) (hr : r < 64) : bits .or .u64 (x : Int) (IntKind.u64.wrap ((2 : Int) ^ r)) = ((x ||| 2 ^ r : Nat) : Int) := by
 rw [wrap_pow r hr]
 exact u64_or_nat x (2 ^ r) hx (pow_lt64 r hr)
end Go.Proofs.YtjhomlnlmpdklaaGreatDoor

set_option linter.unusedVariables false
set_option linter.unusedSimpArgs false
namespace Go.Proofs.YtjhomlnlmpdklaaGreatDoor
open Go.RowKit
open Go.Lib hiding intOf
attribute [local go_sem ↓] Go.wp_at_zero Go.wp_at_succ
set_option maxHeartbeats 800000 in
theorem kwith_any (K k : Nat) (w : World) (hK : K < 18446744073709551616) (hk : k < 64) :
  Calls Tryz.prog 51 #[.int .u64 K, .int .i64 k] w fun e w' => e = .returned (.int .u64 ((K ||| 2 ^ k : Nat) : Int)) ∧ w = w' := by
 have h0 : (0 : Int) ≤ (k : Int) := Int.natCast_nonneg _
 have h64 : (k : Int) < 64 := by omega
 go_enter Tryz.func51, Tryz.ntmps51
 go_wp2
 go_ret
 exact ⟨by rw [or_val K k hK hk]; rfl, rfl⟩
set_option maxHeartbeats 800000 in
theorem khas_any (K k : Nat) (w : World) (hK : K < 18446744073709551616) (hk : k < 64) :
  Calls Tryz.prog 52 #[.int .u64 K, .int .i64 k] w fun e w' => e = .returned (.bool (K.testBit k)) ∧ w = w' := by
 have h0 : (0 : Int) ≤ (k : Int) := Int.natCast_nonneg _
 have h64 : (k : Int) < 64 := by omega
 go_enter Tryz.func52, Tryz.ntmps52
 go_wp2
 go_ret
 exact ⟨by rw [test_val K k hK]; rfl, rfl⟩
set_option maxRecDepth 10000 in
set_option maxHeartbeats 800000 in
theorem kown_any (A : Option Addr) (m c B j : Nat) (ops : List Op4) (o : Op4) (w : World) (hg : Row w B A (opC ops)) (hm : ops.length = m) (hM : m ≤ 1000) (hmc : m ≤ c) (hc : c ≤ maxLen) (hj : ops[j]? = some o) :
  Calls Tryz.prog 33 #[.slice A m c, .int .i64 (j : Int)] w fun e w' => e = .returned (optT (leftW o.key (ops.take j))) ∧ Only [] w w' := by
 have hjl := (List.getElem?_eq_some_iff.1 hj).1
 have HL := Lib.hid (fun (A' : Option Addr) w' (O : Only [] w w') (hA : A' = A) => left_any A' j c B (ops.take j) o.key w' (by rw [hA, opC_take]; exact (hg.only O (fun _ h => by cases h)).take _) (by rw [List.length_take]; omega) (by omega))
 obtain ⟨b, off, rfl, hb, hbw, hP⟩ := row_op hg hj
 have p1 := hP.c1
 have hj0 : (0 : Int) ≤ (j : Int) := Int.natCast_nonneg _
 have hjm : (j : Int) < (m : Int) := by omega
 have hjc : (j : Int) ≤ (c : Int) := by omega
 clear hg hP hj
 generalize leftW o.key (ops.take j) = v at *
 generalize o.key = ok at *
 have HB := Lib.hid (Blk.made w 30 #[.int .i64 0, .int .i64 0])
 have HO := Lib.hid ((Only.refl [] w).alloc (.cells #[.int .i64 0, .int .i64 0] 30))
 go_enter Tryz.func33, Tryz.ntmps33
 go_wp2_with fail
 generalize (w.alloc (.cells #[.int .i64 0, .int .i64 0] 30)) = w1 at *
 generalize hgr : w.heap.size = gr at *
 have hsz := HO.out.size
 have p1' := (HO.out.cell (p := ⟨b, off + j * 4 + 1, none⟩) (hgr ▸ hbw) (by simp)).trans p1
 have hbw1 : b < w1.heap.size := by omega
 have HP1 := Lib.hid p1'
 clear p1 p1'
 refine wp_region_noPanic ?_
 refine wp_region_timed (F := [⟨[], [], fun w' => Only [gr] w1 w'⟩]) (by kernel_rfl) (timed_holds ((Only.refl [gr] w1).drew) (timed_nil)) ?_
 refine timed_pure (i := 0) (v := ?_) rfl (by kernel_rfl) (by kernel_rfl) (by kernel_rfl) (fun _ _ _ h => h) (by kernel_rfl) (by kernel_rfl) ?_ ?_
 rotate_left
 ·(intro w; go_simp; try with_reducible rfl)
 try simp only [Act.put, tdy]
 refine timed_pure (i := 1) (v := ?_) rfl (by kernel_rfl) (by kernel_rfl) (by kernel_rfl) (fun _ _ _ h => h) (by kernel_rfl) (by kernel_rfl) ?_ ?_
 rotate_left
 ·(intro w; go_simp; try with_reducible rfl)
 try simp only [Act.put, tdy]
 refine timed_pure (i := 2) (v := ?_) rfl (by kernel_rfl) (by kernel_rfl) (by kernel_rfl) (fun _ _ _ h => h) (by kernel_rfl) (by kernel_rfl) ?_ ?_
 rotate_left
 ·(intro w; go_simp; try with_reducible rfl)
 try simp only [Act.put, tdy]
 refine timed_pure (i := 3) (v := ?_) rfl (by kernel_rfl) (by kernel_rfl) (by kernel_rfl) (fun _ _ _ h => h) (by kernel_rfl) (by kernel_rfl) ?_ ?_
 rotate_left
 ·(intro w; go_simp; try with_reducible rfl)
 try simp only [Act.put, tdy]
 refine timed_pure (i := 4) (v := ?_) rfl (by kernel_rfl) (by kernel_rfl) (by kernel_rfl) (fun _ _ _ h => h) (by kernel_rfl) (by kernel_rfl) ?_ ?_
 rotate_left
 ·(intro w; go_simp; try with_reducible rfl)
 try simp only [Act.put, tdy]
 refine timed_pure (i := 5) (v := ?_) rfl (by kernel_rfl) (by kernel_rfl) (by kernel_rfl) (fun _ _ _ h => h) (by kernel_rfl) (by kernel_rfl) ?_ ?_
 rotate_left
 ·(intro w; go_simp; try with_reducible rfl)
 try simp only [Act.put, tdy]
 refine timed_pure (i := 6) (v := ?_) rfl (by kernel_rfl) (by kernel_rfl) (by kernel_rfl) (fun _ _ _ h => h) (by kernel_rfl) (by kernel_rfl) ?_ ?_
 rotate_left
 ·(intro w; go_simp; try with_reducible rfl)
 try simp only [Act.put, tdy]
 refine timed_read (i := 7) (v := ?_) 0 rfl (by kernel_rfl) (by kernel_rfl) (by kernel_rfl) (fun _ _ _ h => h) (by kernel_rfl) (by kernel_rfl) rfl (by kernel_rfl) ?_ ?_
 rotate_left
 ·(intro wq hSw; (try dsimp only at hSw); have p1 := (hSw.cell (p := ⟨b, off + j * 4 + 1, none⟩) hbw1 (by simp; omega)).trans HP1.out; clear hSw; go_simp; try with_reducible rfl)
 try simp only [Act.put, tdy]
 refine timed_step (i := 8) (by kernel_rfl) rfl (fun K hK => ?_)
 go_simp
 refine (HL.out _ _ (HO.out.trans (Only.refl [] w1).drew) rfl).mono ?_
 rintro e w2 ⟨rfl, O2⟩
 unfold optT optV
 have HB2 := Lib.hid (O2.blk (HB.out.drew) (by simp))
 have O2 := O2.wide (T := [gr]) (fun i hi => by cases hi)
 refine hK.out _ _ (timed_holds (((Only.refl [gr] w1).drew).trans O2) (timed_nil)) ?_
 clear hK K
 try simp only [Act.put, tdy]
 refine timed_pure (i := 9) (v := ?_) rfl (by kernel_rfl) (by kernel_rfl) (by kernel_rfl) (fun _ _ _ h => h) (by kernel_rfl) (by kernel_rfl) ?_ ?_
 rotate_left
 ·(intro w; go_simp; try with_reducible rfl)
 try simp only [Act.put, tdy]
 refine timed_pure (i := 10) (v := ?_) rfl (by kernel_rfl) (by kernel_rfl) (by kernel_rfl) (fun _ _ _ h => h) (by kernel_rfl) (by kernel_rfl) ?_ ?_
 rotate_left
 ·(intro w; go_simp; try with_reducible rfl)
 try simp only [Act.put, tdy]
 refine timed_step (i := 11) (by kernel_rfl) rfl (fun K hK => ?_)
 refine wp_store_blk 30 (.tmp 4) (.tmp 15) rfl gr 30 _ #[.int .i64 (v.getD (0, 0)).1, .int .i64 (v.getD (0, 0)).2] rfl rfl HB2.out rfl (by kernel_rfl) (by kernel_rfl) ?_
 intro w3 hb3 o3
 have HB3 := Lib.hid hb3
 refine hK.out _ _ (timed_holds ((((Only.refl [gr] w1).drew).trans O2).trans o3) (timed_nil)) ?_
 clear hK K
 try simp only [Act.put, tdy]
 refine timed_pure (i := 12) (v := ?_) rfl (by kernel_rfl) (by kernel_rfl) (by kernel_rfl) (fun _ _ _ h => h) (by kernel_rfl) (by kernel_rfl) ?_ ?_
 rotate_left
 ·(intro w; go_simp; try with_reducible rfl)
 try simp only [Act.put, tdy]
 refine timed_done (by kernel_rfl) ?_ _
 refine NoPanic.normal ?_
 have HNW := Lib.hid ( ((((Only.refl [gr] w1).drew).trans O2).trans o3))
 go_wp2
 refine bodyPost_ret (results_row2 Tryz.results33 _ _ gr 30 #[.int .i64 (v.getD (0, 0)).1, .int .i64 (v.getD (0, 0)).2] _ rfl HB3.out Tryz.underlying30 rfl (by kernel_rfl)) rfl ?_
 exact ⟨rfl, HO.out.step HNW.out (fun i hi hl => by simp at hi; omega)⟩
end Go.Proofs.YtjhomlnlmpdklaaGreatDoor

set_option linter.unusedVariables false
set_option linter.unusedSimpArgs false
namespace Go.Proofs.YtjhomlnlmpdklaaGreatDoor
def keyStep (K : Nat) (o : Op4) : Nat := if o.wr = true then K ||| 2 ^ o.key.toNat else K
/-- The keys that are written, a bit each. -/
def keyM (l : List Op4) : Nat := l.foldl keyStep 0
theorem keyM_take {l : List Op4} {i : Nat} {o : Op4} (h : l[i]? = some o) : keyM (l.take (i + 1)) = keyStep (keyM (l.take i)) o := by
 unfold keyM
 rw [List.take_add_one, h, List.foldl_append]
 rfl
def KeyOk (l : List Op4) : Prop := ∀ o ∈ l, 0 ≤ o.key ∧ o.key < 40
theorem keyOk_take {l : List Op4} (h : KeyOk l) (i : Nat) : KeyOk (l.take i) := fun o ho => h o (List.mem_of_mem_take ho)
theorem keyM_lt (l : List Op4) (h : KeyOk l) : keyM l < 18446744073709551616 := by
 suffices H : ∀ (l : List Op4) (K : Nat), KeyOk l → K < 2 ^ 64 → l.foldl keyStep K < 2 ^ 64 from H l 0 h (by decide)
 intro l
 induction l with
 | nil => intro K _ hK; exact hK
 | cons o l ih =>
  intro K h hK
  refine ih _ (fun x hx => h x (List.mem_cons_of_mem _ hx)) ?_
  unfold keyStep
  split
  ·refine Nat.or_lt_two_pow hK (Nat.pow_lt_pow_right (by decide) ?_)
   have := h o List.mem_cons_self
   omega
  ·exact hK
theorem keyM_bit (l : List Op4) (h : KeyOk l) (k : Nat) : (keyM l).testBit k = (leftW (k : Int) l).isSome := by
 suffices H : ∀ (l : List Op4) (K : Nat) (acc : Option (Int × Int)), KeyOk l → K.testBit k = acc.isSome → (l.foldl keyStep K).testBit k = (l.foldl (fun acc o => if hitO (k : Int) o = true then some (o.vk, o.vn) else acc) acc).isSome from H l 0 none h (by simp)
 intro l
 induction l with
 | nil => intro K acc _ hK; exact hK
 | cons o l ih =>
  intro K acc h hK
  refine ih _ _ (fun x hx => h x (List.mem_cons_of_mem _ hx)) ?_
  have ho := h o List.mem_cons_self
  unfold keyStep hitO
  cases hw : o.wr with
  | false => simpa [hw] using hK
  | true =>
   rw [if_pos rfl, Nat.testBit_or, hK, Nat.testBit_two_pow]
   by_cases hk : o.key = (k : Int)
   ·have : o.key.toNat = k := by omega
    simp [hk, hw]
   ·have : ¬ o.key.toNat = k := by omega
    simp [hk, this]
/-- The last value of each key. -/
def ownC (l : List Op4) : Array Value := ((List.range 40).flatMap fun k : Nat => [Value.int .i64 (leftV (k : Int) l).1, Value.int .i64 (leftV (k : Int) l).2]).toArray
theorem ownC_size (l : List Op4) : (ownC l).size = 80 := by
 unfold ownC
 rw [List.size_toArray, flat_len (fun k : Nat => [Value.int .i64 (leftV (k : Int) l).1, Value.int .i64 (leftV (k : Int) l).2]) 2 (fun _ => rfl), List.length_range]
theorem ownC_at (l : List Op4) (k : Nat) (hk : k < 40) : (ownC l)[k * 2]? = some (.int .i64 (leftV (k : Int) l).1) ∧ (ownC l)[k * 2 + 1]? = some (.int .i64 (leftV (k : Int) l).2) := by
 unfold ownC
 rw [List.getElem?_toArray, List.getElem?_toArray]
 have g := flat_get (fun k : Nat => [Value.int .i64 (leftV (k : Int) l).1, Value.int .i64 (leftV (k : Int) l).2]) 2 (fun _ => rfl) (List.range 40) k k (by rw [List.getElem?_range hk])
 exact ⟨g 0 (by omega), g 1 (by omega)⟩
theorem ownC_set (l : List Op4) (o : Op4) (k : Nat) (hk : k < 40) (ho : o.key = (k : Int)) (hw : o.wr = true) :
  ((ownC l).setIfInBounds (k * 2) (.int .i64 o.vk)).setIfInBounds (k * 2 + 1) (.int .i64 o.vn) = ownC (l ++ [o]) := by
 refine Array.ext_getElem? fun i => ?_
 rw [Array.getElem?_setIfInBounds, Array.getElem?_setIfInBounds, Array.size_setIfInBounds, ownC_size]
 by_cases hi : i < 80
 ·obtain ⟨q, r, hr, rfl⟩ : ∃ q r, r < 2 ∧ i = q * 2 + r := ⟨i / 2, i % 2, Nat.mod_lt _ (by decide), by omega⟩
  have hq : q < 40 := by omega
  have g := ownC_at (l ++ [o]) q hq
  have g' := ownC_at l q hq
  have e : leftV (q : Int) (l ++ [o]) = if q = k then (o.vk, o.vn) else leftV (q : Int) l := by
   unfold leftV
   rw [leftW_snoc]
   unfold hitO
   rw [hw, ho]
   by_cases hqk : q = k
   ·subst hqk; simp
   ·have : ¬ ((k : Int) = (q : Int)) := by omega
    simp [this, hqk]
  rw [e] at g
  rcases (by omega : r = 0 ∨ r = 1) with rfl | rfl
  ·rw [if_neg (by omega)]
   by_cases hqk : k = q
   ·subst hqk
    rw [if_pos (by omega), if_pos (by omega), Nat.add_zero, g.1]
    simp
   ·rw [if_neg (by omega), Nat.add_zero, g.1, g'.1, if_neg (by omega)]
  ·by_cases hqk : k = q
   ·subst hqk
    rw [if_pos rfl, if_pos (by omega), g.2]
    simp
   ·rw [if_neg (by omega), if_neg (by omega), g.2, g'.2, if_neg (by omega)]
 ·rw [if_neg (by omega), if_neg (by omega), Array.getElem?_eq_none (by rw [ownC_size]; omega), Array.getElem?_eq_none (by rw [ownC_size]; omega)]
theorem ownC_same {l : List Op4} {o : Op4} (hw : o.wr = false) : ownC (l ++ [o]) = ownC l := by
 unfold ownC leftV
 simp only [leftW_snoc, hitO, hw, Bool.false_and, if_neg (by decide : ¬ (false = true))]
end Go.Proofs.YtjhomlnlmpdklaaGreatDoor
