/- The document's erase: By. Ops compared in one step. Unlike texts; firsts of like lists. Whether two lists of texts, or of ops, are the same: the document's Texts and SameOps. Whether two histories are the same. -/
import Derived.Test.YtjhomlnlmpdklaaGreatDoorEraseOfCardK37
import Derived.Test.YtjhomlnlmpdklaaGreatDoorEraseOfCardK36
import Derived.Test.YtjhomlnlmpdklaaGreatDoorEraseOfCardK45
import Derived.Test.YtjhomlnlmpdklaaGreatDoorEraseOfCardK15
import Derived.Laws.StructEq
import Derived.Test.YtjhomlnlmpdklaaGreatDoorEraseOfCardK4
import Derived.Lib.Strings
import Derived.Deep.QuietTactic
import Derived.BigQuiet
import Derived.Test.YtjhomlnlmpdklaaGreatDoorEraseOfCardK32
set_option linter.unusedVariables false
set_option linter.unusedSimpArgs false
namespace Go.Proofs.YtjhomlnlmpdklaaGreatDoor
open Go.RowKit
open Go.Lib hiding intOf
attribute [local go_sem ↓] Go.wp_at_zero Go.wp_at_succ
theorem era_by (h : Hst) : eraR notLost h = byR h 2 := by
 unfold eraR byR
 cases mayH h <;> rfl
theorem by_small {h : Hst} (hs : HSmall h) (y : Int) : HSmall (byR h y).1 := by
 unfold byR
 split
 ·split
  ·exact kept_small hs
  ·split
   ·exact kept_small hs
   ·exact empty_small
 ·exact empty_small
set_option maxRecDepth 10000 in
set_option maxHeartbeats 4000000 in
theorem rby_any (A0 A1 A2 : Option Addr) (n0 n1 n2 c0 c1 c2 B : Nat) (h : Hst) (y : Int) (w : World) (hg : HIn w B A0 A1 A2 n0 n1 n2 h) :
  Calls Tryz.prog 25 #[hval A0 A1 A2 n0 n1 n2 c0 c1 c2, .int .i64 y] w fun e w' => ∃ B0 B1 B2 d0 d1 d2, (e = .returned (.tuple #[.agg #[.slice B0 (byR h y).1.ss.length d0, .slice B1 (byR h y).1.ks.length d1, .slice B2 (byR h y).1.l.length d2], .int .i64 (byR h y).2]) ∧ HAt w' w'.heap.size B0 B1 B2 (byR h y).1) ∧ Only [] w w' := by
 have O1 : Only [] w ((w.alloc (.cells #[.slice A0 n0 c0, .slice A1 n1 c1, .slice A2 n2 c2] 25)).alloc (.cells zeroH 25)) := ((Only.refl [] w).alloc _).alloc _
 have HF := Lib.hid (refmay_any A0 A1 A2 n0 n1 n2 c0 c1 c2 B h _ (hg.same O1))
 have HO1 := Lib.hid O1
 have HB1 := Lib.hid ((Blk.made w 25 #[.slice A0 n0 c0, .slice A1 n1 c1, .slice A2 n2 c2]).alloc (.cells zeroH 25))
 have HR1 := Lib.hid (Blk.made (w.alloc (.cells #[.slice A0 n0 c0, .slice A1 n1 c1, .slice A2 n2 c2] 25)) 25 zeroH)
 have HI := Lib.hid hg
 unfold hval at HF ⊢
 unfold zeroH at HF HO1 HR1 HB1
 simp only [World.size_alloc] at HF HR1
 unfold byR
 clear O1
 cases hm : mayH h with
 | false =>
  rw [mayH_errn2 hm] at HF
  rw [if_neg (by decide)]
  clear hm hg
  go_enter Tryz.func25, Tryz.ntmps25
  go_wp2_with fail
  generalize hgr : w.heap.size + 1 = gr at *
  refine (HF.out).mono ?_
  rintro e w2 ⟨rfl, O2⟩
  have HO2 := Lib.hid (HO1.out.trans O2)
  have HR2 := Lib.hid (O2.blk HR1.out (by simp))
  clear O2 HF
  go_wp2_with (refine wpList_store_blk rfl 25 (.tmp 4) (.tmp 11) rfl gr 25 _ #[.slice none 0 0, .slice none 0 0, .slice none 0 0] rfl rfl HR2.out rfl (by kernel_rfl) (by kernel_rfl) ?_; intro w9 b9 o9; have HB9 := Lib.hid b9; have HN9 := Lib.hid o9; clear b9 o9)
  refine bodyPost_ret (results_row2 Tryz.results25 _ _ gr 25 #[.slice none 0 0, .slice none 0 0, .slice none 0 0] _ rfl HB9.out Tryz.underlying25 rfl (by kernel_rfl)) rfl ?_
  exact ⟨none, none, none, 0, 0, 0, ⟨rfl, ⟨.inl rfl, .inl rfl, LRow.nil⟩⟩, HO2.out.step HN9.out (fun i hi hl => by simp at hi; omega)⟩
 | true =>
  have HRW := Lib.hid (fun w' (O : Only [] w w') => rraw_any A0 A1 A2 n0 n1 n2 c0 c1 c2 B h w' (hg.same O) hm)
  have HKA := Lib.hid (keptH_anyOp hm)
  rw [mayH_err2 hm] at HF
  rw [if_pos rfl]
  unfold hval at HRW
  clear hg hm
  by_cases h1 : y = 1
  ·subst h1
   rw [if_pos rfl]
   clear HRW
   dsimp only
   rw [HKA.out, HI.out.n0, HI.out.n1, HI.out.n2]
   go_enter Tryz.func25, Tryz.ntmps25
   go_wp2_with fail
   generalize hgr : w.heap.size + 1 = gr at *
   refine (HF.out).mono ?_
   rintro e w2 ⟨rfl, O2⟩
   have HO2 := Lib.hid (HO1.out.trans O2)
   have HR2 := Lib.hid (O2.blk HR1.out (by simp))
   have HB2 := Lib.hid (O2.blk HB1.out (by simp))
   clear O2 HF HB1 HR1
   have lB := HB2.out.lt
   have x0 := HB2.out.at_ 0
   have x1 := HB2.out.at_ 1
   have x2 := HB2.out.at_ 2
   simp at x0 x1 x2
   go_wp2_with (refine wpList_store_blk rfl 25 (.tmp 4) (.tmp 15) rfl gr 25 _ #[.slice A0 n0 c0, .slice A1 n1 c1, .slice A2 n2 c2] rfl rfl HR2.out rfl (by kernel_rfl) (by kernel_rfl) ?_; intro w9 b9 o9; have HB9 := Lib.hid b9; have HN9 := Lib.hid o9; clear b9 o9)
   refine bodyPost_ret (results_row2 Tryz.results25 _ _ gr 25 #[.slice A0 n0 c0, .slice A1 n1 c1, .slice A2 n2 c2] _ rfl HB9.out Tryz.underlying25 rfl (by kernel_rfl)) rfl ?_
   have O9 : Only [] w w9 := HO2.out.step HN9.out (fun i hi hl => by simp at hi; omega)
   exact ⟨A0, A1, A2, c0, c1, c2, ⟨rfl, (HI.out.same O9).at_.up⟩, O9⟩
  ·rw [if_neg h1]
   have h1' : (y == 1) = false := by simpa using h1
   by_cases h2 : y = 2
   ·subst h2
    rw [if_pos rfl]
    generalize keptH notLost h = G at *
    go_enter Tryz.func25, Tryz.ntmps25
    go_wp2_with fail
    generalize hgr : w.heap.size + 1 = gr at *
    refine (HF.out).mono ?_
    rintro e w2 ⟨rfl, O2⟩
    have HO2 := Lib.hid (HO1.out.trans O2)
    have HR2 := Lib.hid (O2.blk HR1.out (by simp))
    have HB2 := Lib.hid (O2.blk HB1.out (by simp))
    have hsz2 := HO2.out.size
    clear O2 HF HB1 HR1
    have lB := HB2.out.lt
    have x0 := HB2.out.at_ 0
    have x1 := HB2.out.at_ 1
    have x2 := HB2.out.at_ 2
    simp at x0 x1 x2
    go_wp2_with fail
    refine (HRW.out w2 HO2.out).mono ?_
    rintro e w3 ⟨B0, B1, B2, d0, d1, d2, ⟨rfl, HA⟩, O3⟩
    have HO3 := Lib.hid (HO2.out.trans O3)
    have HR3 := Lib.hid (O3.blk HR2.out (by simp))
    clear O3
    go_wp2_with (refine wpList_store_blk rfl 25 (.tmp 4) (.tmp 19) rfl gr 25 _ #[.slice B0 G.ss.length d0, .slice B1 G.ks.length d1, .slice B2 G.l.length d2] rfl rfl HR3.out rfl (by kernel_rfl) (by kernel_rfl) ?_; intro w9 b9 o9; have HB9 := Lib.hid b9; have HN9 := Lib.hid o9; clear b9 o9)
    refine bodyPost_ret (results_row2 Tryz.results25 _ _ gr 25 #[.slice B0 G.ss.length d0, .slice B1 G.ks.length d1, .slice B2 G.l.length d2] _ rfl HB9.out Tryz.underlying25 rfl (by kernel_rfl)) rfl ?_
    exact ⟨B0, B1, B2, d0, d1, d2, ⟨rfl, (HA.step HN9.out (fun i hi => by simp at hi; have h9 := HR2.out.lt; omega) (Nat.le_refl _) : HNew w2.heap.size w9 B0 B1 B2 G).at_⟩, HO3.out.step HN9.out (fun i hi hl => by simp at hi; omega)⟩
   ·rw [if_neg h2]
    have h2' : (y == 2) = false := by simpa using h2
    clear HRW
    go_enter Tryz.func25, Tryz.ntmps25
    go_wp2_with fail
    generalize hgr : w.heap.size + 1 = gr at *
    refine (HF.out).mono ?_
    rintro e w2 ⟨rfl, O2⟩
    have HO2 := Lib.hid (HO1.out.trans O2)
    have HR2 := Lib.hid (O2.blk HR1.out (by simp))
    have HB2 := Lib.hid (O2.blk HB1.out (by simp))
    clear O2 HF HB1 HR1
    have lB := HB2.out.lt
    have x0 := HB2.out.at_ 0
    have x1 := HB2.out.at_ 1
    have x2 := HB2.out.at_ 2
    simp at x0 x1 x2
    go_wp2_with (refine wpList_store_blk rfl 25 (.tmp 4) (.tmp 20) rfl gr 25 _ #[.slice none 0 0, .slice none 0 0, .slice none 0 0] rfl rfl HR2.out rfl (by kernel_rfl) (by kernel_rfl) ?_; intro w9 b9 o9; have HB9 := Lib.hid b9; have HN9 := Lib.hid o9; clear b9 o9)
    refine bodyPost_ret (results_row2 Tryz.results25 _ _ gr 25 #[.slice none 0 0, .slice none 0 0, .slice none 0 0] _ rfl HB9.out Tryz.underlying25 rfl (by kernel_rfl)) rfl ?_
    exact ⟨none, none, none, 0, 0, 0, ⟨rfl, ⟨.inl rfl, .inl rfl, LRow.nil⟩⟩, HO2.out.step HN9.out (fun i hi hl => by simp at hi; omega)⟩
end Go.Proofs.YtjhomlnlmpdklaaGreatDoor

set_option linter.unusedVariables false
set_option linter.unusedSimpArgs false
namespace Go.Proofs.YtjhomlnlmpdklaaGreatDoor
open Go.RowKit

deriving instance DecidableEq for Op4, Tx, Hst
def neqOp (xw : Bool) (xk xv xn : Int) (yw : Bool) (yk yv yn : Int) : Bool := !(decide (Op4.mk xw xk xv xn = Op4.mk yw yk yv yn))
theorem run_neq_op4 (xw yw : Bool) (xk xv xn yk yv yn : Int) (w : World) :
  (binOp .neq 46 (.agg #[.bool xw, .int .i64 xk, .int .i64 xv, .int .i64 xn]) (.agg #[.bool yw, .int .i64 yk, .int .i64 yv, .int .i64 yn])).run Tryz.prog w = .ok (.bool (neqOp xw xk xv xn yw yk yv yn)) w := by
 unfold neqOp
 by_cases h0 : xw = yw
 ·subst h0
  by_cases h1 : xk = yk
  ·subst h1
   by_cases h2 : xv = yv
   ·subst h2
    by_cases h3 : xn = yn
    ·subst h3
     go_simp
    ·have e : (xn == yn) = false := by simpa using h3
     rw [decide_eq_false (by simpa using h3)]
     go_simp
   ·have e : (xv == yv) = false := by simpa using h2
    rw [decide_eq_false (by intro e; injection e; contradiction)]
    go_simp
  ·have e : (xk == yk) = false := by simpa using h1
   rw [decide_eq_false (by intro e; injection e; contradiction)]
   go_simp
 ·have e : (xw == yw) = false := by simpa using h0
  rw [decide_eq_false (by intro e; injection e; contradiction)]
  go_simp
end Go.Proofs.YtjhomlnlmpdklaaGreatDoor

set_option linter.unusedVariables false
set_option linter.unusedSimpArgs false
namespace Go.Proofs.YtjhomlnlmpdklaaGreatDoor
theorem textb_ne {x y : ByteArray} (h : ¬ x = y) : ¬ x.toList = y.toList := fun e => h (by
 rw [Lib.toList_data, Lib.toList_data] at e
 obtain ⟨⟨x⟩⟩ := x
 obtain ⟨⟨y⟩⟩ := y
 simpa using e)
theorem takeG_eq {α : Type} {xs ys : List α} {k : Nat} {x y : α} (h : xs.take k = ys.take k) (hx : xs[k]? = some x) (hy : ys[k]? = some y) : (xs.take (k + 1) = ys.take (k + 1)) ↔ x = y := by
 rw [List.take_add_one, List.take_add_one, hx, hy, h]
 simp
end Go.Proofs.YtjhomlnlmpdklaaGreatDoor

set_option linter.unusedVariables false
set_option linter.unusedSimpArgs false
namespace Go.Proofs.YtjhomlnlmpdklaaGreatDoor
open Go.RowKit
open Go.Lib hiding intOf
attribute [local go_sem ↓] Go.wp_at_zero Go.wp_at_succ
attribute [local go_sem ↓] run_neq_op4
set_option maxHeartbeats 2000000 in
theorem rtexts_any (A A' : Option Addr) (n m c d : Nat) (xs ys : List ByteArray) (w : World) (B B' : Nat) (hA : Row w B A (strs xs)) (hA' : Row w B' A' (strs ys)) (hn : xs.length = n) (hm : ys.length = m) (hnm : n ≤ 1000000) (hmm : m ≤ 1000000) :
  Calls Tryz.prog 46 #[.slice A n c, .slice A' m d] w fun e w' => e = .returned (.bool (decide (xs = ys))) ∧ ∃ k, w.drewN k = w' := by
 have HA := Lib.hid hA
 have HA' := Lib.hid hA'
 have HN := Lib.hid hn
 have HM := Lib.hid hm
 clear hA hA' hn hm
 by_cases hlen : n = m
 ·subst hlen
  go_enter Tryz.func46, Tryz.ntmps46
  go_wp2_with fail
  go_loopw [5] (fun i wr => ∃ k q : Nat, i = .int .i64 k ∧ k ≤ n ∧ Hid (xs.take k = ys.take k) ∧ Hid (wr = w.drewN q)) (fun i _ => n - (intOf i).toNat)
  case atStart => exact ⟨0, 0, rfl, by omega, rfl, rfl⟩
  case round =>
   obtain ⟨k, q, rfl, hk, hsame, hw⟩ := hrel
   have hxl := HN.out
   have hyl := HM.out
   by_cases hlt : k < n
   ·obtain ⟨x, hx⟩ : ∃ x, xs[k]? = some x := ⟨_, List.getElem?_eq_getElem (by omega)⟩
    obtain ⟨y, hy⟩ : ∃ y, ys[k]? = some y := ⟨_, List.getElem?_eq_getElem (by omega)⟩
    have HX := Lib.hid hx
    have HY := Lib.hid hy
    obtain ⟨b, off, rfl, -, hbw, hc⟩ := HA.out.open_ (k := k) (by rw [strs, List.length_map, HN.out]; exact hlt)
    obtain ⟨b', off', rfl, -, hbw', hc'⟩ := HA'.out.open_ (k := k) (by rw [strs, List.length_map, HM.out]; exact hlt)
    have hcx : wr.cell? ⟨b, off + k, none⟩ = some (.string x) := by rw [hw.out]; exact hc k _ (by rw [strs, List.getElem?_map, hx]; rfl)
    have hcy : wr.cell? ⟨b', off' + k, none⟩ = some (.string y) := by rw [hw.out]; exact hc' k _ (by rw [strs, List.getElem?_map, hy]; rfl)
    clear hc hc' 
    have hk0 : (0 : Int) ≤ (k : Int) := Int.natCast_nonneg _
    have hk1 : (k : Int) < (n : Int) := by omega
    clear hx hy hxl hyl
    by_cases hxy : x = y
    ·have hb : (x.toList == y.toList) = true := by simp [hxy]
     have HXY := Lib.hid hxy
     clear hxy
     go_wp2_with fail
     go_quiet (fail)
     go_wp2
     go_roundw
     case rel =>
      refine ⟨k + 1, q + nq, by go_num, by omega, (takeG_eq hsame.out HX.out HY.out).2 HXY.out, ?_⟩
      show _ = _
      rw [hw.out, World.drewN_drewN]
     case measure => simp [intOf]; omega
    ·have hb := textb_ne hxy
     have hb2 : (x.toList == y.toList) = false := by simpa using hb
     clear hb
     have HXY := Lib.hid hxy
     clear hxy
     go_wp2_with fail
     go_quiet (fail)
     go_wp2
     go_ret
     refine ⟨?_, q + nq, ?_⟩
     ·have : xs ≠ ys := fun e => HXY.out (by
       have h1 := HX.out
       have h2 := HY.out
       rw [e] at h1
       rw [h1] at h2
       exact Option.some.inj h2)
      simp [this]
     ·rw [hw.out, World.drewN_drewN]
   ·have hge : n ≤ k := by omega
    clear hxl hyl
    go_wp2
    go_ret
    refine ⟨?_, q, hw.out.symm⟩
    have h1 := hsame.out
    have h2 := HN.out
    have h3 := HM.out
    rw [List.take_of_length_le (by omega), List.take_of_length_le (by omega)] at h1
    simp [h1]
 ·have hb : ((n : Int) != (m : Int)) = true := by simp; omega
  have hne : xs ≠ ys := fun e => hlen (by rw [← HN.out, ← HM.out, e])
  have HNE := Lib.hid hne
  clear hlen hne
  go_enter Tryz.func46, Tryz.ntmps46
  go_wp2
  go_ret
  exact ⟨by simp [HNE.out], 0, rfl⟩
set_option maxHeartbeats 2000000 in
theorem rsameops_any (A A' : Option Addr) (n m c d : Nat) (xs ys : List Op4) (w : World) (B B' : Nat) (hA : Row w B A (opC xs)) (hA' : Row w B' A' (opC ys)) (hn : xs.length = n) (hm : ys.length = m) (hnm : n ≤ 1000000) (hmm : m ≤ 1000000) :
  Calls Tryz.prog 47 #[.slice A n c, .slice A' m d] w fun e w' => e = .returned (.bool (decide (xs = ys))) ∧ ∃ k, w.drewN k = w' := by
 have HA := Lib.hid hA
 have HA' := Lib.hid hA'
 have HN := Lib.hid hn
 have HM := Lib.hid hm
 clear hA hA' hn hm
 by_cases hlen : n = m
 ·subst hlen
  go_enter Tryz.func47, Tryz.ntmps47
  go_wp2_with fail
  go_loopw [5] (fun i wr => ∃ k q : Nat, i = .int .i64 k ∧ k ≤ n ∧ Hid (xs.take k = ys.take k) ∧ Hid (wr = w.drewN q)) (fun i _ => n - (intOf i).toNat)
  case atStart => exact ⟨0, 0, rfl, by omega, rfl, rfl⟩
  case round =>
   obtain ⟨k, q, rfl, hk, hsame, hw⟩ := hrel
   have hxl := HN.out
   have hyl := HM.out
   by_cases hlt : k < n
   ·obtain ⟨x, hx⟩ : ∃ x, xs[k]? = some x := ⟨_, List.getElem?_eq_getElem (by omega)⟩
    obtain ⟨y, hy⟩ : ∃ y, ys[k]? = some y := ⟨_, List.getElem?_eq_getElem (by omega)⟩
    have HX := Lib.hid hx
    have HY := Lib.hid hy
    obtain ⟨b, off, rfl, -, hbw, h1⟩ := row_op HA.out hx
    obtain ⟨b', off', rfl, -, hbw', h2⟩ := row_op HA'.out hy
    obtain ⟨a0, a1, a2, a3⟩ := (show OpAt wr b (off + k * 4) x by rw [hw.out]; exact h1.only ((Only.refl [] w).drewN q) hbw (by simp))
    obtain ⟨d0, d1, d2, d3⟩ := (show OpAt wr b' (off' + k * 4) y by rw [hw.out]; exact h2.only ((Only.refl [] w).drewN q) hbw' (by simp))
    obtain ⟨xw, xk, xv, xn⟩ := x
    obtain ⟨yw, yk, yv, yn⟩ := y
    dsimp only at a0 a1 a2 a3 d0 d1 d2 d3
    clear h1 h2
    have hk0 : (0 : Int) ≤ (k : Int) := Int.natCast_nonneg _
    have hk1 : (k : Int) < (n : Int) := by omega
    clear hx hy hxl hyl
    by_cases hxy : Op4.mk xw xk xv xn = Op4.mk yw yk yv yn
    ·have hb : neqOp xw xk xv xn yw yk yv yn = false := by unfold neqOp; rw [decide_eq_true hxy]; rfl
     have HXY := Lib.hid hxy
     clear hxy
     go_wp2_with fail
     go_quiet (fail)
     go_wp2
     go_roundw
     case rel =>
      refine ⟨k + 1, q + nq, by go_num, by omega, (takeG_eq hsame.out HX.out HY.out).2 HXY.out, ?_⟩
      show _ = _
      rw [hw.out, World.drewN_drewN]
     case measure => simp [intOf]; omega
    ·have hb : neqOp xw xk xv xn yw yk yv yn = true := by unfold neqOp; rw [decide_eq_false hxy]; rfl
     have HXY := Lib.hid hxy
     clear hxy
     go_wp2_with fail
     go_quiet (fail)
     go_wp2
     go_ret
     refine ⟨?_, q + nq, ?_⟩
     ·have : xs ≠ ys := fun e => HXY.out (by
       have h1 := HX.out
       have h2 := HY.out
       rw [e] at h1
       rw [h1] at h2
       exact Option.some.inj h2)
      simp [this]
     ·rw [hw.out, World.drewN_drewN]
   ·have hge : n ≤ k := by omega
    clear hxl hyl
    go_wp2
    go_ret
    refine ⟨?_, q, hw.out.symm⟩
    have h1 := hsame.out
    have h2 := HN.out
    have h3 := HM.out
    rw [List.take_of_length_le (by omega), List.take_of_length_le (by omega)] at h1
    simp [h1]
 ·have hb : ((n : Int) != (m : Int)) = true := by simp; omega
  have hne : xs ≠ ys := fun e => hlen (by rw [← HN.out, ← HM.out, e])
  have HNE := Lib.hid hne
  clear hlen hne
  go_enter Tryz.func47, Tryz.ntmps47
  go_wp2
  go_ret
  exact ⟨by simp [HNE.out], 0, rfl⟩
end Go.Proofs.YtjhomlnlmpdklaaGreatDoor

set_option linter.unusedVariables false
set_option linter.unusedSimpArgs false
namespace Go.Proofs.YtjhomlnlmpdklaaGreatDoor
open Go.RowKit
def eqH (g h : Hst) : Bool := decide (g.ss = h.ss) && (decide (g.ks = h.ks) && decide (g.l = h.l))
end Go.Proofs.YtjhomlnlmpdklaaGreatDoor
