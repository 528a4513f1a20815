/- erase.Place. -/
import Derived.Test.YtjhomlnlmpdklaaGreatDoorEraseStaysCardK31
import Derived.Test.YtjhomlnlmpdklaaGreatDoorEraseStaysCardK32
import Derived.Test.YtjhomlnlmpdklaaGreatDoorEraseStaysCardK19
import Derived.Test.YtjhomlnlmpdklaaGreatDoorEraseStaysCardK2
set_option linter.unusedVariables false
set_option linter.unusedSimpArgs false
namespace Go.Proofs.YtjhomlnlmpdklaaGreatDoor
open Go.RowKit
open Go.Lib hiding intOf
attribute [local go_sem ↓] Go.wp_at_zero Go.wp_at_succ
/-- Where an op stands then. -/
def notL (l : List Op4) : Nat := (l.filter notLost).length
def placeO (h : Hst) (a b : Int) : Option (Int × Int) := (opAtH h a b).bind fun x => if x.2.vk = 2 then none else some (a, (notL (x.1.ops.take b.toNat) : Int))
theorem place_none {h : Hst} {a b : Int} (ho : opAtH h a b = none) : placeO h a b = none := by unfold placeO; rw [ho]; rfl
theorem place_some {h : Hst} {a b : Int} {t : Tx} {o : Op4} (ho : opAtH h a b = some (t, o)) : placeO h a b = if o.vk = 2 then none else some (a, (notL (t.ops.take b.toNat) : Int)) := by unfold placeO; rw [ho]; rfl
theorem notL_take {ops : List Op4} {j : Nat} {o : Op4} (h : ops[j]? = some o) : notL (ops.take (j + 1)) = notL (ops.take j) + if o.vk = 2 then 0 else 1 := by
 unfold notL
 rw [List.take_add_one, h, List.filter_append, List.length_append]
 by_cases hv : o.vk = 2 <;> simp [notLost, hv]
theorem notL_le (ops : List Op4) (j : Nat) : notL (ops.take j) ≤ j := by
 unfold notL
 exact Nat.le_trans (List.length_filter_le _ _) (by rw [List.length_take]; omega)
set_option maxRecDepth 10000 in
set_option maxHeartbeats 4000000 in
theorem eplace_any (A0 A1 A2 : Option Addr) (n0 n1 n2 c0 c1 c2 B : Nat) (h : Hst) (a b : Int) (w : World) (hg : HIn w B A0 A1 A2 n0 n1 n2 h) :
  Calls Tryz.prog 29 #[hval A0 A1 A2 n0 n1 n2 c0 c1 c2, .agg #[.int .i64 a, .int .i64 b]] w fun e w' => e = .returned (optT (placeO h a b)) ∧ Only [] w w' := by
 have HO1 : Hid (Only [] w (((w.alloc (.cells #[.slice A0 n0 c0, .slice A1 n1 c1, .slice A2 n2 c2] 25)).alloc (.cells #[.int .i64 a, .int .i64 b] 27)).alloc (.cells #[.int .i64 0, .int .i64 0] 27))) := Lib.hid ((((Only.refl [] w).alloc _).alloc _).alloc _)
 have HF := Lib.hid (hmay_any A0 A1 A2 n0 n1 n2 c0 c1 c2 B h _ (hg.same HO1.out))
 have HL := Lib.hid hg.at_.r2
 have HN2 := Lib.hid hg.n2
 have HNO := Lib.hid hg.sm.no
 unfold hval at HF ⊢
 clear hg
 have HH1 : Hid (Blk (((w.alloc (.cells #[.slice A0 n0 c0, .slice A1 n1 c1, .slice A2 n2 c2] 25)).alloc (.cells #[.int .i64 a, .int .i64 b] 27)).alloc (.cells #[.int .i64 0, .int .i64 0] 27)) w.heap.size 25 #[.slice A0 n0 c0, .slice A1 n1 c1, .slice A2 n2 c2]) := Lib.hid (((Blk.made w 25 #[.slice A0 n0 c0, .slice A1 n1 c1, .slice A2 n2 c2]).alloc _).alloc _)
 have HP1 : Hid (Blk (((w.alloc (.cells #[.slice A0 n0 c0, .slice A1 n1 c1, .slice A2 n2 c2] 25)).alloc (.cells #[.int .i64 a, .int .i64 b] 27)).alloc (.cells #[.int .i64 0, .int .i64 0] 27)) (w.heap.size + 1) 27 #[.int .i64 a, .int .i64 b]) := Lib.hid (by
  have := Blk.made (w.alloc (.cells #[.slice A0 n0 c0, .slice A1 n1 c1, .slice A2 n2 c2] 25)) 27 #[.int .i64 a, .int .i64 b]
  rw [World.size_alloc] at this
  exact this.alloc _)
 have HR1 : Hid (Blk (((w.alloc (.cells #[.slice A0 n0 c0, .slice A1 n1 c1, .slice A2 n2 c2] 25)).alloc (.cells #[.int .i64 a, .int .i64 b] 27)).alloc (.cells #[.int .i64 0, .int .i64 0] 27)) (w.heap.size + 1 + 1) 27 #[.int .i64 0, .int .i64 0]) := Lib.hid (by
  have := Blk.made ((w.alloc (.cells #[.slice A0 n0 c0, .slice A1 n1 c1, .slice A2 n2 c2] 25)).alloc (.cells #[.int .i64 a, .int .i64 b] 27)) 27 #[.int .i64 0, .int .i64 0]
  simpa only [World.size_alloc] using this)
 cases hm : mayH h with
 | false =>
  rw [place_none (opAt_none (txAt_no hm))]
  rw [errH_not hm] at HF
  clear hm HL HN2 HNO
  go_enter Tryz.func29, Tryz.ntmps29
  go_wp2_with fail
  generalize (((w.alloc (.cells #[.slice A0 n0 c0, .slice A1 n1 c1, .slice A2 n2 c2] 25)).alloc (.cells #[.int .i64 a, .int .i64 b] 27)).alloc (.cells #[.int .i64 0, .int .i64 0] 27)) = w1 at *
  generalize hgr : w.heap.size + 1 + 1 = gr at *
  generalize hgp : w.heap.size + 1 = gp at *
  refine (HF.out).mono ?_
  rintro e w2 ⟨rfl, O2⟩
  have HO2 := Lib.hid (HO1.out.trans O2)
  have HR2 := Lib.hid (O2.blk HR1.out (by simp))
  have HP2 := Lib.hid (O2.blk HP1.out (by simp))
  have HH2 := Lib.hid (O2.blk HH1.out (by simp))
  clear O2 HF HP1 HR1 HH1
  have lP := HP2.out.lt
  have p0 := HP2.out.at_ 0
  have p1 := HP2.out.at_ 1
  have lH := HH2.out.lt
  have y2 := HH2.out.at_ 2
  simp at p0 p1 y2
  go_wp2_with (refine wpList_store_blk rfl 27 (.tmp 4) (.tmp 26) rfl gr 27 _ #[.int .i64 0, .int .i64 0] rfl rfl HR2.out rfl (by kernel_rfl) (by kernel_rfl) ?_; intro w9 b9 o9; have HB9 := Lib.hid b9; have HN9 := Lib.hid o9; clear b9 o9)
  refine bodyPost_ret (results_row2 Tryz.results29 _ _ gr 27 #[.int .i64 0, .int .i64 0] _ rfl HB9.out Tryz.underlying27 rfl (by kernel_rfl)) rfl ?_
  exact ⟨rfl, HO2.out.step HN9.out (fun i hi hl => by simp at hi; omega)⟩
 | true =>
  rw [errH_yes hm] at HF
  by_cases h1 : a < 0
  ·rw [place_none (opAt_none (txAt_neg h1))]
   have d1 : decide (a < 0) = true := decide_eq_true h1
   clear hm h1 HL HN2 HNO
   go_enter Tryz.func29, Tryz.ntmps29
   go_wp2_with fail
   generalize (((w.alloc (.cells #[.slice A0 n0 c0, .slice A1 n1 c1, .slice A2 n2 c2] 25)).alloc (.cells #[.int .i64 a, .int .i64 b] 27)).alloc (.cells #[.int .i64 0, .int .i64 0] 27)) = w1 at *
   generalize hgr : w.heap.size + 1 + 1 = gr at *
   generalize hgp : w.heap.size + 1 = gp at *
   refine (HF.out).mono ?_
   rintro e w2 ⟨rfl, O2⟩
   have HO2 := Lib.hid (HO1.out.trans O2)
   have HR2 := Lib.hid (O2.blk HR1.out (by simp))
   have HP2 := Lib.hid (O2.blk HP1.out (by simp))
   have HH2 := Lib.hid (O2.blk HH1.out (by simp))
   clear O2 HF HP1 HR1 HH1
   have lP := HP2.out.lt
   have p0 := HP2.out.at_ 0
   have p1 := HP2.out.at_ 1
   have lH := HH2.out.lt
   have y2 := HH2.out.at_ 2
   simp at p0 p1 y2
   go_wp2_with (refine wpList_store_blk rfl 27 (.tmp 4) (.tmp 26) rfl gr 27 _ #[.int .i64 0, .int .i64 0] rfl rfl HR2.out rfl (by kernel_rfl) (by kernel_rfl) ?_; intro w9 b9 o9; have HB9 := Lib.hid b9; have HN9 := Lib.hid o9; clear b9 o9)
   refine bodyPost_ret (results_row2 Tryz.results29 _ _ gr 27 #[.int .i64 0, .int .i64 0] _ rfl HB9.out Tryz.underlying27 rfl (by kernel_rfl)) rfl ?_
   exact ⟨rfl, HO2.out.step HN9.out (fun i hi hl => by simp at hi; omega)⟩
  ·have d1 : decide (a < 0) = false := decide_eq_false h1
   by_cases h2 : (n2 : Int) ≤ a
   ·rw [place_none (opAt_none (txAt_big (by rw [HN2.out]; exact h2)))]
    have d2 : decide ((n2 : Int) ≤ a) = true := decide_eq_true h2
    have d2' : decide (a ≥ (n2 : Int)) = true := decide_eq_true h2
    clear hm h1 h2 HL HN2 HNO
    go_enter Tryz.func29, Tryz.ntmps29
    go_wp2_with fail
    generalize (((w.alloc (.cells #[.slice A0 n0 c0, .slice A1 n1 c1, .slice A2 n2 c2] 25)).alloc (.cells #[.int .i64 a, .int .i64 b] 27)).alloc (.cells #[.int .i64 0, .int .i64 0] 27)) = w1 at *
    generalize hgr : w.heap.size + 1 + 1 = gr at *
    generalize hgp : w.heap.size + 1 = gp at *
    refine (HF.out).mono ?_
    rintro e w2 ⟨rfl, O2⟩
    have HO2 := Lib.hid (HO1.out.trans O2)
    have HR2 := Lib.hid (O2.blk HR1.out (by simp))
    have HP2 := Lib.hid (O2.blk HP1.out (by simp))
    have HH2 := Lib.hid (O2.blk HH1.out (by simp))
    clear O2 HF HP1 HR1 HH1
    have lP := HP2.out.lt
    have p0 := HP2.out.at_ 0
    have p1 := HP2.out.at_ 1
    have lH := HH2.out.lt
    have y2 := HH2.out.at_ 2
    simp at p0 p1 y2
    go_wp2_with (refine wpList_store_blk rfl 27 (.tmp 4) (.tmp 26) rfl gr 27 _ #[.int .i64 0, .int .i64 0] rfl rfl HR2.out rfl (by kernel_rfl) (by kernel_rfl) ?_; intro w9 b9 o9; have HB9 := Lib.hid b9; have HN9 := Lib.hid o9; clear b9 o9)
    refine bodyPost_ret (results_row2 Tryz.results29 _ _ gr 27 #[.int .i64 0, .int .i64 0] _ rfl HB9.out Tryz.underlying27 rfl (by kernel_rfl)) rfl ?_
    exact ⟨rfl, HO2.out.step HN9.out (fun i hi hl => by simp at hi; omega)⟩
   ·have d2 : decide ((n2 : Int) ≤ a) = false := decide_eq_false h2
    obtain ⟨q, rfl⟩ : ∃ q : Nat, a = q := ⟨a.toNat, by omega⟩
    have hqn : q < n2 := by omega
    obtain ⟨t, ht⟩ : ∃ t, h.l[q]? = some t := ⟨_, List.getElem?_eq_getElem (by rw [HN2.out]; exact hqn)⟩
    have hta := txAt_yes hm ht
    obtain ⟨bt, ot, AT, cpt, rfl, hbtB, hbtw, hTA, hOk⟩ := HL.out.at_ ht
    have HTA := Lib.hid hTA
    have HROW := Lib.hid hOk.row
    have hlec := hOk.le
    have hcap := hOk.cap
    have hno := HNO.out t (List.mem_of_getElem? ht)
    have h01 : (q : Int) < (n2 : Int) := by omega
    have hq0 : (0 : Int) ≤ (q : Int) := Int.natCast_nonneg _
    clear hm h1 h2 ht hTA hOk HL HN2 HNO
    dsimp only at hlec hcap
    by_cases h3 : b < 0
    ·rw [place_none (opAt_neg h3)]
     have d3 : decide (b < 0) = true := decide_eq_true h3
     clear h3 hta
     obtain ⟨ts, tf, ops⟩ := t
     dsimp only at *
     generalize hmm : ops.length = m at *
     go_enter Tryz.func29, Tryz.ntmps29
     go_wp2_with fail
     generalize (((w.alloc (.cells #[.slice A0 n0 c0, .slice A1 n1 c1, .slice (some ⟨bt, ot, none⟩) n2 c2] 25)).alloc (.cells #[.int .i64 (q : Int), .int .i64 b] 27)).alloc (.cells #[.int .i64 0, .int .i64 0] 27)) = w1 at *
     generalize hgr : w.heap.size + 1 + 1 = gr at *
     generalize hgp : w.heap.size + 1 = gp at *
     refine (HF.out).mono ?_
     rintro e w2 ⟨rfl, O2⟩
     have HO2 := Lib.hid (HO1.out.trans O2)
     have HR2 := Lib.hid (O2.blk HR1.out (by simp))
     have HP2 := Lib.hid (O2.blk HP1.out (by simp))
     have HH2 := Lib.hid (O2.blk HH1.out (by simp))
     clear O2 HF HP1 HR1 HH1
     have lP := HP2.out.lt
     have p0 := HP2.out.at_ 0
     have p1 := HP2.out.at_ 1
     have lH := HH2.out.lt
     have y2 := HH2.out.at_ 2
     simp at p0 p1 y2
     obtain ⟨a0, a1, a2⟩ := HTA.out.only HO2.out hbtw (by simp)
     have hbtr : bt < w2.heap.size := Nat.lt_of_lt_of_le hbtw HO2.out.size
     dsimp only at a0 a1 a2
     go_wp2_with (refine wpList_store_blk rfl 27 (.tmp 4) (.tmp 54) rfl gr 27 _ #[.int .i64 0, .int .i64 0] rfl rfl HR2.out rfl (by kernel_rfl) (by kernel_rfl) ?_; intro w9 b9 o9; have HB9 := Lib.hid b9; have HN9 := Lib.hid o9; clear b9 o9)
     refine bodyPost_ret (results_row2 Tryz.results29 _ _ gr 27 #[.int .i64 0, .int .i64 0] _ rfl HB9.out Tryz.underlying27 rfl (by kernel_rfl)) rfl ?_
     exact ⟨rfl, HO2.out.step HN9.out (fun i hi hl => by simp at hi; omega)⟩
    ·have d3 : decide (b < 0) = false := decide_eq_false h3
     by_cases h4 : (t.ops.length : Int) ≤ b
     ·rw [place_none (opAt_big hta h4)]
      obtain ⟨ts, tf, ops⟩ := t
      dsimp only at *
      generalize hmm : ops.length = m at *
      have d4 : decide ((m : Int) ≤ b) = true := decide_eq_true h4
      clear h3 h4 hta
      go_enter Tryz.func29, Tryz.ntmps29
      go_wp2_with fail
      generalize (((w.alloc (.cells #[.slice A0 n0 c0, .slice A1 n1 c1, .slice (some ⟨bt, ot, none⟩) n2 c2] 25)).alloc (.cells #[.int .i64 (q : Int), .int .i64 b] 27)).alloc (.cells #[.int .i64 0, .int .i64 0] 27)) = w1 at *
      generalize hgr : w.heap.size + 1 + 1 = gr at *
      generalize hgp : w.heap.size + 1 = gp at *
      refine (HF.out).mono ?_
      rintro e w2 ⟨rfl, O2⟩
      have HO2 := Lib.hid (HO1.out.trans O2)
      have HR2 := Lib.hid (O2.blk HR1.out (by simp))
      have HP2 := Lib.hid (O2.blk HP1.out (by simp))
      have HH2 := Lib.hid (O2.blk HH1.out (by simp))
      clear O2 HF HP1 HR1 HH1
      have lP := HP2.out.lt
      have p0 := HP2.out.at_ 0
      have p1 := HP2.out.at_ 1
      have lH := HH2.out.lt
      have y2 := HH2.out.at_ 2
      simp at p0 p1 y2
      obtain ⟨a0, a1, a2⟩ := HTA.out.only HO2.out hbtw (by simp)
      have hbtr : bt < w2.heap.size := Nat.lt_of_lt_of_le hbtw HO2.out.size
      dsimp only at a0 a1 a2
      go_wp2_with (refine wpList_store_blk rfl 27 (.tmp 4) (.tmp 54) rfl gr 27 _ #[.int .i64 0, .int .i64 0] rfl rfl HR2.out rfl (by kernel_rfl) (by kernel_rfl) ?_; intro w9 b9 o9; have HB9 := Lib.hid b9; have HN9 := Lib.hid o9; clear b9 o9)
      refine bodyPost_ret (results_row2 Tryz.results29 _ _ gr 27 #[.int .i64 0, .int .i64 0] _ rfl HB9.out Tryz.underlying27 rfl (by kernel_rfl)) rfl ?_
      exact ⟨rfl, HO2.out.step HN9.out (fun i hi hl => by simp at hi; omega)⟩
     ·obtain ⟨j, rfl⟩ : ∃ j : Nat, b = j := ⟨b.toNat, by omega⟩
      have hjm : j < t.ops.length := by omega
      obtain ⟨y, hy⟩ : ∃ y, t.ops[j]? = some y := ⟨_, List.getElem?_eq_getElem hjm⟩
      have hoa : opAtH h (q : Int) (j : Int) = some (t, y) := by
       unfold opAtH
       rw [hta]
       show (if 0 ≤ (j : Int) then _ else none) = _
       rw [if_pos (by omega)]
       simp [hy]
      rw [place_some hoa]
      obtain ⟨ts, tf, ops⟩ := t
      dsimp only at *
      generalize hmm : ops.length = m at *
      have d4 : decide ((m : Int) ≤ (j : Int)) = false := decide_eq_false h4
      have h04 : (j : Int) < (m : Int) := by omega
      have hj0 : (0 : Int) ≤ (j : Int) := Int.natCast_nonneg _
      obtain ⟨bo, oo, rfl, hboB, hbo, hP⟩ := row_op HROW.out hy
      have HPY := Lib.hid hP
      obtain ⟨yw, yk, yv, yn⟩ := y
      clear h3 h4 hta hoa hP
      have hjt : ((j : Int)).toNat = j := by omega
      rw [hjt]
      clear hjt
      by_cases h5 : yv = 2
      ·subst h5
       rw [if_pos rfl]
       clear hy
       go_enter Tryz.func29, Tryz.ntmps29
       go_wp2_with fail
       generalize (((w.alloc (.cells #[.slice A0 n0 c0, .slice A1 n1 c1, .slice (some ⟨bt, ot, none⟩) n2 c2] 25)).alloc (.cells #[.int .i64 (q : Int), .int .i64 (j : Int)] 27)).alloc (.cells #[.int .i64 0, .int .i64 0] 27)) = w1 at *
       generalize hgr : w.heap.size + 1 + 1 = gr at *
       generalize hgp : w.heap.size + 1 = gp at *
       refine (HF.out).mono ?_
       rintro e w2 ⟨rfl, O2⟩
       have HO2 := Lib.hid (HO1.out.trans O2)
       have HR2 := Lib.hid (O2.blk HR1.out (by simp))
       have HP2 := Lib.hid (O2.blk HP1.out (by simp))
       have HH2 := Lib.hid (O2.blk HH1.out (by simp))
       clear O2 HF HP1 HR1 HH1
       have lP := HP2.out.lt
       have p0 := HP2.out.at_ 0
       have p1 := HP2.out.at_ 1
       have lH := HH2.out.lt
       have y2 := HH2.out.at_ 2
       simp at p0 p1 y2
       obtain ⟨a0, a1, a2⟩ := HTA.out.only HO2.out hbtw (by simp)
       have hbtr : bt < w2.heap.size := Nat.lt_of_lt_of_le hbtw HO2.out.size
       dsimp only at a0 a1 a2
       obtain ⟨q0, q1, q2, q3⟩ := HPY.out.only HO2.out hbo (by simp)
       have hbor : bo < w2.heap.size := Nat.lt_of_lt_of_le hbo HO2.out.size
       dsimp only at q0 q1 q2 q3
       go_wp2_with (refine wpList_store_blk rfl 27 (.tmp 4) (.tmp 54) rfl gr 27 _ #[.int .i64 0, .int .i64 0] rfl rfl HR2.out rfl (by kernel_rfl) (by kernel_rfl) ?_; intro w9 b9 o9; have HB9 := Lib.hid b9; have HN9 := Lib.hid o9; clear b9 o9)
       refine bodyPost_ret (results_row2 Tryz.results29 _ _ gr 27 #[.int .i64 0, .int .i64 0] _ rfl HB9.out Tryz.underlying27 rfl (by kernel_rfl)) rfl ?_
       exact ⟨rfl, HO2.out.step HN9.out (fun i hi hl => by simp at hi; omega)⟩
      ·dsimp only
       rw [if_neg h5]
       have d5 : decide (yv = 2) = false := decide_eq_false h5
       have d5' : (yv == 2) = false := by simpa using h5
       clear hy
       obtain ⟨NN, hNN⟩ : ∃ NN, NN = notL (ops.take j) := ⟨_, rfl⟩
       rw [← hNN]
       have HNN := Lib.hid hNN.symm
       clear hNN
       go_enter Tryz.func29, Tryz.ntmps29
       go_wp2_with fail
       generalize (((w.alloc (.cells #[.slice A0 n0 c0, .slice A1 n1 c1, .slice (some ⟨bt, ot, none⟩) n2 c2] 25)).alloc (.cells #[.int .i64 (q : Int), .int .i64 (j : Int)] 27)).alloc (.cells #[.int .i64 0, .int .i64 0] 27)) = w1 at *
       generalize hgr : w.heap.size + 1 + 1 = gr at *
       generalize hgp : w.heap.size + 1 = gp at *
       refine (HF.out).mono ?_
       rintro e w2 ⟨rfl, O2⟩
       have HO2 := Lib.hid (HO1.out.trans O2)
       have HR2 := Lib.hid (O2.blk HR1.out (by simp))
       have HP2 := Lib.hid (O2.blk HP1.out (by simp))
       have HH2 := Lib.hid (O2.blk HH1.out (by simp))
       clear O2 HF HP1 HR1 HH1
       have lP := HP2.out.lt
       have p0 := HP2.out.at_ 0
       have p1 := HP2.out.at_ 1
       have lH := HH2.out.lt
       have y2 := HH2.out.at_ 2
       simp at p0 p1 y2
       obtain ⟨a0, a1, a2⟩ := HTA.out.only HO2.out hbtw (by simp)
       have hbtr : bt < w2.heap.size := Nat.lt_of_lt_of_le hbtw HO2.out.size
       dsimp only at a0 a1 a2
       obtain ⟨q0, q1, q2, q3⟩ := HPY.out.only HO2.out hbo (by simp)
       have hbor : bo < w2.heap.size := Nat.lt_of_lt_of_le hbo HO2.out.size
       dsimp only at q0 q1 q2 q3
       have hjc : (j : Int) ≤ (cpt : Int) := by omega
       have hjc' : j ≤ cpt := by omega
       have hgrw : w.heap.size ≤ gr := by omega
       go_wp2_with fail
       go_loopw [7, 60] (fun cv iv wr => ∃ i : Nat, iv = .int .i64 i ∧ i ≤ j ∧ cv = .int .i64 (notL (ops.take i) : Int) ∧ Hid (Only [] w2 wr)) (fun _ iv _ => j - (intOf iv).toNat)
       case atStart => exact ⟨0, rfl, by omega, rfl, Lib.hid (Only.refl [] _)⟩
       case round =>
        obtain ⟨i, rfl, hi, rfl, hO⟩ := hrel
        clear a0 a1 a2 q0 q1 q2 q3 lP lH p0 p1 y2 hbor hbtr
        have hnl := notL_le ops i
        by_cases hlt : i < j
        ·obtain ⟨z, hz⟩ : ∃ z, ops[i]? = some z := ⟨_, List.getElem?_eq_getElem (by omega)⟩
         have HNT := Lib.hid (notL_take hz)
         obtain ⟨bz, oz, hbz, -, hbzw, hPz⟩ := row_op (HROW.out.only (HO2.out.trans hO.out) (by simp)) hz
         injection hbz with hbz
         injection hbz with hb1 hb2 _
         subst hb1 hb2
         obtain ⟨q0, q1, q2, q3⟩ := hPz
         obtain ⟨zw, zk, zv, zn⟩ := z
         dsimp only at q0 q1 q2 q3
         have hlz : (i : Int) < (j : Int) := by omega
         have hi0 : (0 : Int) ≤ (i : Int) := Int.natCast_nonneg _
         have hwi : IntKind.i64.wrap ((i : Int) + 1) = (i : Int) + 1 := IntWalk.i64_in _ (by omega)
         have hwn : IntKind.i64.wrap ((notL (ops.take i) : Int) + 1) = (notL (ops.take i) : Int) + 1 := IntWalk.i64_in _ (by omega)
         have HX := Lib.hid (hO.out.alloc (.cells #[.bool zw, .int .i64 zk, .int .i64 zv, .int .i64 zn] 46))
         by_cases h6 : zv = 2
         ·subst h6
          have HE : Hid (notL (ops.take (i + 1)) = notL (ops.take i)) := Lib.hid (by rw [HNT.out]; simp)
          clear hz HNT
          generalize notL (ops.take i) = N at *
          go_wp2
          go_roundw
          case rel => first | exact ⟨i + 1, by go_num, by omega, by rw [HE.out], HX⟩ | exact ⟨_, ⟨i + 1, by go_num, by omega, by rw [HE.out], HX⟩, rfl⟩
          case measure => simp [intOf]; omega
         ·have HE : Hid ((notL (ops.take (i + 1)) : Int) = (notL (ops.take i) : Int) + 1) := Lib.hid (by rw [HNT.out]; simp [h6])
          have d6 : decide (zv = 2) = false := decide_eq_false h6
          have d6' : (zv == 2) = false := by simpa using h6
          have d6'' : (zv != 2) = true := by simpa using h6
          clear hz HNT
          generalize notL (ops.take i) = N at *
          go_wp2
          go_roundw
          case rel => first | exact ⟨i + 1, by go_num, by omega, by rw [HE.out], HX⟩ | exact ⟨_, ⟨i + 1, by go_num, by omega, by rw [HE.out], HX⟩, rfl⟩
          case measure => simp [intOf]; omega
        ·have hij : i = j := by omega
         subst hij
         have hd7 : decide ((i : Int) < (i : Int)) = false := by simp
         have HO3 := Lib.hid (HO2.out.trans hO.out)
         have HR3 := Lib.hid (hO.out.blk HR2.out (by simp))
         have HP3 := Lib.hid (hO.out.blk HP2.out (by simp))
         clear HR2 HP2 HH2
         have lP := HP3.out.lt
         have p0 := HP3.out.at_ 0
         have p1 := HP3.out.at_ 1
         simp at p0 p1
         rw [HNN.out]
         go_wp2_with (refine wpList_store_blk rfl 27 (.tmp 4) (.tmp 74) rfl gr 27 _ #[.int .i64 (q : Int), .int .i64 (NN : Int)] rfl rfl HR3.out rfl (by kernel_rfl) (by kernel_rfl) ?_; intro w9 b9 o9; have HB9 := Lib.hid b9; have HN9 := Lib.hid o9; clear b9 o9)
         refine bodyPost_ret (results_row2 Tryz.results29 _ _ gr 27 #[.int .i64 (q : Int), .int .i64 (NN : Int)] _ rfl HB9.out Tryz.underlying27 rfl (by kernel_rfl)) rfl ?_
         exact ⟨rfl, HO3.out.step HN9.out (fun i hi hl => by simp at hi; omega)⟩
end Go.Proofs.YtjhomlnlmpdklaaGreatDoor
