/- Parts. -/
import Derived.Test.YtjfbeeogiejopaaGreatDoorWorldNextCardK18
set_option maxRecDepth 10000
set_option maxHeartbeats 16000000
set_option linter.unusedVariables false
set_option linter.unusedSimpArgs false
namespace Go.Proofs.YtjfbeeogiejopaaGreatDoor
open Go.RowKit
open Go.Lib hiding intOf
attribute [local go_sem ↓] Go.wp_at_zero Go.wp_at_succ
def idxE {α : Type} [BEq α] (l : List α) (x : α) : Int := if l.idxOf x < l.length then (l.idxOf x : Int) else -1
theorem idxE_at {α : Type} [BEq α] [LawfulBEq α] {l : List α} {x : α} {k : Nat} (h : l[k]? = some x) (hn : ∀ j, j < k → ∀ y, l[j]? = some y → y ≠ x) : idxE l x = (k : Int) := by
 have hk := (List.getElem?_eq_some_iff.1 h).1;have hm : x ∈ l := List.mem_of_getElem? h;have hlt := List.idxOf_lt_length_of_mem hm;have hx := List.getElem_idxOf hlt;have e : l.idxOf x = k := by
  rcases Nat.lt_trichotomy (l.idxOf x) k with h1 | h1 | h1
  ·exact absurd hx (hn _ h1 _ (List.getElem?_eq_getElem hlt))
  ·exact h1
  ·have h2 := List.not_of_lt_findIdx (p := (· == x)) (xs := l) h1;obtain ⟨_, h3⟩ := List.getElem?_eq_some_iff.1 h;simp [h3] at h2
 unfold idxE;rw [if_pos hlt, e]
theorem idxE_none {α : Type} [BEq α] [LawfulBEq α] {l : List α} {x : α} (hn : ∀ j, j < l.length → ∀ y, l[j]? = some y → y ≠ x) : idxE l x = -1 := by
 unfold idxE;rw [if_neg];intro h;exact hn _ h _ (List.getElem?_eq_getElem h) (List.getElem_idxOf h)
theorem idxE_mem {α : Type} [BEq α] [LawfulBEq α] [DecidableEq α] (l : List α) (x : α) : decide (0 ≤ idxE l x) = decide (x ∈ l) := by
 unfold idxE
 by_cases h : x ∈ l
 ·rw [if_pos (List.idxOf_lt_length_of_mem h)];simp [h]
 ·rw [if_neg (fun e => h (by have h2 := List.getElem_mem e; rwa [List.getElem_idxOf e] at h2))];simp [h]
theorem vindex_any (A : Option Addr) (m c B : Nat) (vs : List V2) (v : V2) (w : World) (hg : Row w B A (edgeC vs)) (hm : vs.length = m) (hM : m ≤ 100000) :
  Calls Tryz.prog 91 #[.slice A m c, agV v] w fun e w' => e = .returned (.int .i64 (idxE vs v)) ∧ Only [] w w' := by
 obtain ⟨v1, v2⟩ := v;unfold agV;dsimp only;have HG := Hd hg;have HM := Hd hm;have HO1 := Hd ((Only.refl [] w).alloc (.cells #[.int .i64 v1, .int .i64 v2] 38));have HB1 := Hd (Blk.made w 38 #[.int .i64 v1, .int .i64 v2]);clear hg hm;go_enter Tryz.func91, Tryz.ntmps91;go_upto_region 1 with (fail)
 generalize (w.alloc (.cells #[.int .i64 v1, .int .i64 v2] 38)) = w1 at *;generalize hgg : w.heap.size = g at *;go_wp2_with fail
 go_loopw [8] (fun iv wr => ∃ k : Nat, iv = .int .i64 (k : Int) ∧ k ≤ m ∧ Hid (∀ j, j < k → ∀ y, vs[j]? = some y → y ≠ (v1, v2)) ∧ Hid (Blk wr g 38 #[.int .i64 v1, .int .i64 v2]) ∧ Hid (Only [] w wr)) (fun iv _ => m - (intOf iv).toNat)
 case atStart => exact ⟨0, rfl, by omega, Hd (fun j hj => by omega), HB1, HO1⟩
 case round =>
  obtain ⟨k, rfl, hk, hn, hB, hO⟩ := hrel;clear HB1 HO1
  by_cases hlt : k < m
  ·obtain ⟨u, hu⟩ : ∃ u, vs[k]? = some u := ⟨_, List.getElem?_eq_getElem (by rw [HM.out]; exact hlt)⟩;obtain ⟨b, off, rfl, hbB, hbw, hc⟩ := (HG.out.only hO.out (by simp)).open_ (k := k * 2) (by rw [edgeC_len, HM.out]; omega);have hE := edgeC_get vs k u hu;have HC0 := Hd (hc _ _ hE.1);have HC1 := Hd (hc _ _ hE.2);rw [← Nat.add_assoc] at HC1;have h01 : (k : Int) < (m : Int) := by omega
   have hk0 : (0 : Int) ≤ (k : Int) := Int.natCast_nonneg _;have hwk : IntKind.i64.wrap ((k : Int) + 1) = (k : Int) + 1 := IntWalk.i64_in _ (by omega);have HU := Hd hu;obtain ⟨u1, u2⟩ := u;dsimp only at HC0 HC1;clear hc hE hu;go_upto_region 4 with (fail)
   have hcase : (v1 = u1 ∧ v2 = u2) ∨ (¬ (v1 = u1 ∧ v2 = u2) ∧ ((v1 == u1) = false ∨ ((v1 == u1) = true ∧ (v2 == u2) = false))) := by
    by_cases e0 : v1 = u1
    ·by_cases e1 : v2 = u2
     ·exact .inl ⟨e0, e1⟩
     ·exact .inr ⟨fun h => e1 h.2, .inr ⟨by simp [e0], by simp [e1]⟩⟩
    ·exact .inr ⟨fun h => e0 h.1, .inl (by simp [e0])⟩
   rcases hcase with ⟨rfl, rfl⟩ | ⟨hne, hcase⟩
   ·have HE := Hd (idxE_at HU.out hn.out);have RD0 := Hd fun wq (hSw : Only [] wr wq) => aI (Bk2 (hSw.blk hB.out (by simp))) (aI ((hSw.cell (p := ⟨b, off + k * 2, none⟩) hbw (by simp)).trans HC0.out) ((hSw.cell (p := ⟨b, off + k * 2 + 1, none⟩) hbw (by simp)).trans HC1.out));refine rg1 [] [] wr ?_;have OW : Only [] wr wr.drew := (Only.refl [] wr).drew;generalize wr.drew = wz at *;refine trq 0 0 RD0 (h := tQ 1 (h := tQ 2 (h := tQ 3 (h := trq 4 0 RD0 (h := tQ 5 (h := ?_))))));refine tdn ?_;have HOZ := Hd (hO.out.trans OW);clear OW hB hn HC0 HC1;go_wp2
    go_ret
    exact ⟨by rw [HE.out]; rfl, HOZ.out⟩
   ·have HN : Hid (∀ j, j < k + 1 → ∀ y, vs[j]? = some y → y ≠ (v1, v2)) := Hd (fun j hj y hy => by
     by_cases e : j = k
     ·subst e;rw [HU.out] at hy
      cases hy
      exact fun h => hne ⟨(congrArg Prod.fst h).symm, (congrArg Prod.snd h).symm⟩
     ·exact hn.out j (by omega) y hy)
    clear hne;rcases hcase with hb0 | ⟨hb0, hb1⟩
    ·have RD0 := Hd fun wq (hSw : Only [] wr wq) => aI (Bk2 (hSw.blk hB.out (by simp))) (aI ((hSw.cell (p := ⟨b, off + k * 2, none⟩) hbw (by simp)).trans HC0.out) ((hSw.cell (p := ⟨b, off + k * 2 + 1, none⟩) hbw (by simp)).trans HC1.out));refine rg1 [] [] wr ?_;have OW : Only [] wr wr.drew := (Only.refl [] wr).drew;generalize wr.drew = wz at *;refine trq 0 0 RD0 (h := tQ 1 (h := tQ 2 (h := tQ 3 (h := trq 4 0 RD0 (h := tQ 5 (h := ?_))))));refine tdn ?_;have HOZ := Hd (hO.out.trans OW);have HBZ := Hd (OW.blk hB.out (by simp));clear OW hB hn HC0 HC1 hO;go_wp2
     go_roundw
     case rel => exact ⟨k + 1, by go_num, by omega, HN, HBZ, HOZ⟩
     case measure => simp [intOf]; omega
    ·have RD0 := Hd fun wq (hSw : Only [] wr wq) => aI (Bk2 (hSw.blk hB.out (by simp))) (aI ((hSw.cell (p := ⟨b, off + k * 2, none⟩) hbw (by simp)).trans HC0.out) ((hSw.cell (p := ⟨b, off + k * 2 + 1, none⟩) hbw (by simp)).trans HC1.out));refine rg1 [] [] wr ?_;have OW : Only [] wr wr.drew := (Only.refl [] wr).drew;generalize wr.drew = wz at *;refine trq 0 0 RD0 (h := tQ 1 (h := tQ 2 (h := tQ 3 (h := trq 4 0 RD0 (h := tQ 5 (h := ?_))))));refine tdn ?_;have HOZ := Hd (hO.out.trans OW);have HBZ := Hd (OW.blk hB.out (by simp));clear OW hB hn HC0 HC1 hO;go_wp2
     go_roundw
     case rel => exact ⟨k + 1, by go_num, by omega, HN, HBZ, HOZ⟩
     case measure => simp [intOf]; omega
  ·have hkm : k = m := by omega
   subst hkm;have hd2 : decide ((k : Int) < (k : Int)) = false := by simp
   have HE := Hd (idxE_none (fun j hj => hn.out j (by rw [← HM.out]; exact hj)));go_wp2
   go_ret
   exact ⟨by rw [HE.out]; rfl, hO.out⟩
theorem vcontains_any (A : Option Addr) (m c B : Nat) (vs : List V2) (v : V2) (w : World) (hg : Row w B A (edgeC vs)) (hm : vs.length = m) (hM : m ≤ 100000) :
  Calls Tryz.prog 89 #[.slice A m c, agV v] w fun e w' => e = .returned (.bool (decide (v ∈ vs))) ∧ Only [] w w' := by
 have HX := Hd (fun w' (O : Only [] w w') => vindex_any A m c B vs v w' (hg.only O (by simp)) hm hM);obtain ⟨v1, v2⟩ := v;have HE := Hd (idxE_mem vs (v1, v2));unfold agV at *;dsimp only at *;have HO1 := Hd ((Only.refl [] w).alloc (.cells #[.int .i64 v1, .int .i64 v2] 38));have HB1 := Hd (Blk.made w 38 #[.int .i64 v1, .int .i64 v2]);clear hg hm;generalize idxE vs (v1, v2) = q at *;go_enter Tryz.func89, Tryz.ntmps89;go_upto_region 1 with (fail)
 generalize (w.alloc (.cells #[.int .i64 v1, .int .i64 v2] 38)) = w1 at *;generalize w.heap.size = g at *;have lB := HB1.out.lt;have y0 := HB1.out.at_ 0;have y1 := HB1.out.at_ 1;simp at y0 y1;go_wp2_with fail
 refine (HX.out _ HO1.out).mono ?_;rintro e w2 ⟨rfl, O2⟩;have HO2 := Hd (HO1.out.trans O2);clear O2 HO1 HB1 HX lB y0 y1;go_wp2
 go_ret
 exact ⟨by rw [← HE.out]; rfl, HO2.out⟩
theorem one_bools (l : List Bool) : ∀ u ∈ l.map Value.bool, u.oneCell' = true := by
 intro u hu;obtain ⟨b, -, rfl⟩ := List.mem_map.1 hu
 rfl
theorem one_vals (l : List V2) : ∀ u ∈ edgeC l, u.oneCell' = true := by
 intro u hu;obtain ⟨x, -, hx⟩ := List.mem_flatMap.1 hu;simp at hx;rcases hx with rfl | rfl <;> rfl
theorem vclone_any (A : Option Addr) (m c B : Nat) (xs : List V2) (w : World) (hg : Row w B A (edgeC xs)) (hm : xs.length = m) (hM : m ≤ 100000) (hc : A = none → m = 0 ∧ c = 0) :
  Calls Tryz.prog 90 #[.slice A m c] w fun e w' => ∃ V, (e = .returned V ∧ w'.ownsRow w.heap.size 38 2 V m (edgeC xs)) ∧ Only [] w w' := by
 obtain ⟨i0, hi, hz0, hz1, hz2⟩ := info_parts info_val;have hnil := fun (w : World) (a : Option Addr) (n c : Nat) => Go.Lib.run_eql_slice_nil (P := Tryz.prog) w _ _ a n c 0 0 Tryz.underlying33;have HG := Hd hg;have HM := Hd hm;clear hg hm
 cases A with
 | none =>
  obtain ⟨rfl, rfl⟩ := hc rfl;have hx : xs = [] := List.eq_nil_of_length_eq_zero HM.out;subst hx;go_enter Tryz.func90, Tryz.ntmps90;go_wp2
  go_ret
  exact ⟨⟨_, rfl, World.ownsRow_nil _ _ _ _⟩, Only.refl [] w⟩
 | some a =>
  clear hc;go_enter Tryz.func90, Tryz.ntmps90;go_wp2_with (at_builtin; refine wpList_append_row _ rfl (.tmp 5) (.tmp 6) 33 rfl w.heap.size 38 i0 _ 2 16 Tryz.underlying33 hi hz0 hz1 hz2 rfl (by omega) (.slice (some ⟨w.heap.size, 0, none⟩) 0 0) 0 [] rfl (World.ownsRow_lit w (e := 38) (size := 2) #[] 0 (Nat.le_refl _) (by unfold maxLen; omega) rfl) _ (some a) m c (edgeC xs) rfl (by rw [edgeC_len, HM.out]) (HG.out.only ((Only.refl [] w).alloc (.cells #[] 38)) (by simp)) (one_vals xs) (by unfold maxLen; omega) (by omega) (by simp) ?_; intro V9 w9 hown hgrow hat)
  have HV := Hd hown;have HO := Hd (((Only.refl [] w).alloc (.cells #[] 38)).step (only_grown hgrow) (fun i hi hl => by have h2 : i = w.heap.size := (by simp [Value.ownBlock] at hi; exact hi); omega));rw [Nat.zero_add, List.nil_append] at HV;clear hown hgrow hat;go_wp2
  go_ret
  exact ⟨_, ⟨rfl, HV.out⟩, HO.out⟩
theorem bclone_any (A : Option Addr) (m c B : Nat) (xs : List Bool) (w : World) (hg : Row w B A (xs.map Value.bool)) (hm : xs.length = m) (hM : m ≤ 100000) (hc : A = none → m = 0 ∧ c = 0) :
  Calls Tryz.prog 66 #[.slice A m c] w fun e w' => ∃ V, (e = .returned V ∧ w'.ownsRow w.heap.size 4 1 V m (xs.map Value.bool)) ∧ Only [] w w' := by
 obtain ⟨i0, hi, hz0, hz1, hz2⟩ := info_parts info_bl;have hnil := fun (w : World) (a : Option Addr) (n c : Nat) => Go.Lib.run_eql_slice_nil (P := Tryz.prog) w _ _ a n c 0 0 Tryz.underlying49;have HG := Hd hg;have HM := Hd hm;clear hg hm
 cases A with
 | none =>
  obtain ⟨rfl, rfl⟩ := hc rfl;have hx : xs = [] := List.eq_nil_of_length_eq_zero HM.out;subst hx;go_enter Tryz.func66, Tryz.ntmps66;go_wp2
  go_ret
  exact ⟨⟨_, rfl, World.ownsRow_nil _ _ _ _⟩, Only.refl [] w⟩
 | some a =>
  clear hc;go_enter Tryz.func66, Tryz.ntmps66;go_wp2_with (at_builtin; refine wpList_append_row _ rfl (.tmp 5) (.tmp 6) 49 rfl w.heap.size 4 i0 _ 1 1 Tryz.underlying49 hi hz0 hz1 hz2 rfl (by omega) (.slice (some ⟨w.heap.size, 0, none⟩) 0 0) 0 [] rfl (World.ownsRow_lit w (e := 4) (size := 1) #[] 0 (Nat.le_refl _) (by unfold maxLen; omega) rfl) _ (some a) m c (xs.map Value.bool) rfl (by rw [List.length_map, HM.out, Nat.mul_one]) (HG.out.only ((Only.refl [] w).alloc (.cells #[] 4)) (by simp)) (one_bools xs) (by unfold maxLen; omega) (by omega) (by simp) ?_; intro V9 w9 hown hgrow hat)
  have HV := Hd hown;have HO := Hd (((Only.refl [] w).alloc (.cells #[] 4)).step (only_grown hgrow) (fun i hi hl => by have h2 : i = w.heap.size := (by simp [Value.ownBlock] at hi; exact hi); omega));rw [Nat.zero_add, List.nil_append] at HV;clear hown hgrow hat;go_wp2
  go_ret
  exact ⟨_, ⟨rfl, HV.out⟩, HO.out⟩
theorem bindex_any (A : Option Addr) (m c B : Nat) (vs : List Bool) (v : Bool) (w : World) (hg : Row w B A (vs.map Value.bool)) (hm : vs.length = m) (hM : m ≤ 100000) :
  Calls Tryz.prog 92 #[.slice A m c, .bool v] w fun e w' => e = .returned (.int .i64 (idxE vs v)) ∧ Only [] w w' := by
 have HG := Hd hg;have HM := Hd hm;clear hg hm;go_enter Tryz.func92, Tryz.ntmps92;go_wp2_with fail
 go_loopw [8] (fun iv wr => ∃ k : Nat, iv = .int .i64 (k : Int) ∧ k ≤ m ∧ Hid (∀ j, j < k → ∀ y, vs[j]? = some y → y ≠ v) ∧ Hid (Only [] w wr)) (fun iv _ => m - (intOf iv).toNat)
 case atStart => exact ⟨0, rfl, by omega, Hd (fun j hj => by omega), Hd (Only.refl [] w)⟩
 case round =>
  obtain ⟨k, rfl, hk, hn, hO⟩ := hrel
  by_cases hlt : k < m
  ·obtain ⟨u, hu⟩ : ∃ u, vs[k]? = some u := ⟨_, List.getElem?_eq_getElem (by rw [HM.out]; exact hlt)⟩;obtain ⟨b, off, rfl, hbB, hbw, hc⟩ := (HG.out.only hO.out (by simp)).open_ (k := k) (by rw [List.length_map, HM.out]; omega);have c0 := hc k _ (by rw [List.getElem?_map, hu]; rfl);have h01 : (k : Int) < (m : Int) := by omega
   have hk0 : (0 : Int) ≤ (k : Int) := Int.natCast_nonneg _;have hwk : IntKind.i64.wrap ((k : Int) + 1) = (k : Int) + 1 := IntWalk.i64_in _ (by omega)
   by_cases he : v = u
   ·subst he;have HE := Hd (idxE_at hu hn.out);have hb0 : (v == v) = true := by simp
    clear hc hu;go_wp2
    go_ret
    exact ⟨by rw [HE.out]; rfl, hO.out⟩
   ·have HN : Hid (∀ j, j < k + 1 → ∀ y, vs[j]? = some y → y ≠ v) := Hd (fun j hj y hy => by
     by_cases e : j = k
     ·subst e;rw [hu] at hy
      cases hy
      exact fun h => he h.symm
     ·exact hn.out j (by omega) y hy)
    have hb0 : (v == u) = false := by simpa using he
    clear hc hu he hn;go_wp2
    go_roundw
    case rel => exact ⟨k + 1, by go_num, by omega, HN, hO⟩
    case measure => simp [intOf]; omega
  ·have hkm : k = m := by omega
   subst hkm;have hd2 : decide ((k : Int) < (k : Int)) = false := by simp
   have HE := Hd (idxE_none (fun j hj => hn.out j (by rw [← HM.out]; exact hj)));go_wp2
   go_ret
   exact ⟨by rw [HE.out]; rfl, hO.out⟩
theorem kown_any (A : Option Addr) (m c B j : Nat) (ops : List Op4) (o : Op4) (w : World) (hg : Row w B A (opC ops)) (hm : ops.length = m) (hM : m ≤ 1000) (hmc : m ≤ c) (hc : c ≤ maxLen) (hj : ops[j]? = some o) :
  Calls Tryz.prog 93 #[.slice A m c, .int .i64 (j : Int)] w fun e w' => e = .returned (optT (leftW o.key (ops.take j))) ∧ Only [] w w' := by
 have hjl := (List.getElem?_eq_some_iff.1 hj).1;have HL := Hd (fun (A' : Option Addr) w' (O : Only [] w w') (hA : A' = A) => left_any A' j c B (ops.take j) o.key w' (by rw [hA, opC_take]; exact (hg.only O (fun _ h => by cases h)).take _) (by rw [List.length_take]; omega) (by omega));obtain ⟨b, off, rfl, hb, hbw, hP⟩ := row_op hg hj;have p1 := hP.c1;have hj0 : (0 : Int) ≤ (j : Int) := Int.natCast_nonneg _;have hjm : (j : Int) < (m : Int) := by omega
 have hjc : (j : Int) ≤ (c : Int) := by omega
 clear hg hP hj;generalize leftW o.key (ops.take j) = v at *;generalize o.key = ok at *;have HB := Hd (Blk.made w 38 #[.int .i64 0, .int .i64 0]);have HO := Hd ((Only.refl [] w).alloc (.cells #[.int .i64 0, .int .i64 0] 38));go_enter Tryz.func93, Tryz.ntmps93;go_wp2_with fail
 generalize (w.alloc (.cells #[.int .i64 0, .int .i64 0] 38)) = w1 at *;generalize hgr : w.heap.size = gr at *;have hsz := HO.out.size;have p1' := (HO.out.cell (p := ⟨b, off + j * 4 + 1, none⟩) (hgr ▸ hbw) (by simp)).trans p1;have hbw1 : b < w1.heap.size := by omega
 have HP1 := Hd p1';clear p1 p1';refine rg1 [] [gr] w1 ?_;refine tQ 0 (h := tQ 1 (h := tQ 2 (h := tQ 3 (h := tQ 4 (h := tQ 5 (h := tQ 6 (h := ?_)))))));refine trd (i := 7) (v := ?_) 0 ?_ ?_;rotate_left
 ·(intro wq hSw; have p1 := (hSw.cell (p := ⟨b, off + j * 4 + 1, none⟩) hbw1 (by simp; omega)).trans HP1.out; clear hSw; go_simp; try with_reducible rfl)
 (try simp only [tdz]);refine tst (i := 8) fun K hK => ?_;go_simp;refine (HL.out _ _ (HO.out.trans (Only.refl [] w1).drew) rfl).mono ?_;rintro e w2 ⟨rfl, O2⟩;unfold optT optV;have HB2 := Hd (O2.blk (HB.out.drew) (by simp));have O2 := O2.wide (T := [gr]) (fun i hi => by cases hi);refine kOut hK (((Only.refl [gr] w1).drew).trans O2) (h := ?_);clear hK K;refine tQ 9 (h := tQ 10 (h := ?_));refine tst (i := 11) fun K hK => ?_;refine wp_store_blk 38 (.tmp 4) (.tmp 15) rfl gr 38 _ #[.int .i64 (v.getD (0, 0)).1, .int .i64 (v.getD (0, 0)).2] rfl rfl HB2.out rfl (by kernel_rfl) (by kernel_rfl) ?_;intro w3 hb3 o3;have HB3 := Hd hb3;refine kOut hK ((((Only.refl [gr] w1).drew).trans O2).trans o3) (h := ?_);clear hK K;refine tQ 12 (h := ?_);refine tdn ?_;have HNW := Hd ( ((((Only.refl [gr] w1).drew).trans O2).trans o3));go_wp2
 refine bodyPost_ret (results_row2 Tryz.results93 _ _ gr 38 #[.int .i64 (v.getD (0, 0)).1, .int .i64 (v.getD (0, 0)).2] _ rfl HB3.out Tryz.underlying38 rfl (by kernel_rfl)) rfl ?_;exact ⟨rfl, HO.out.step HNW.out (fun i hi hl => by simp at hi; omega)⟩
def firstX (t : Tx) (j : Nat) (o : Op4) (b : Bool) : V2 := if b = true then (leftW o.key (t.ops.take j)).getD (0, 0) else (0, 0)
theorem kfirst_any (A0 A1 A2 : Option Addr) (n0 n1 n2 c0 c1 c2 B : Nat) (h : Hst) (i j : Nat) (t : Tx) (o : Op4) (b : Bool) (w : World) (hg : HIn w B A0 A1 A2 n0 n1 n2 h) (hx : h.l[i]? = some t) (ho : t.ops[j]? = some o) :
  Calls Tryz.prog 88 #[hval A0 A1 A2 n0 n1 n2 c0 c1 c2, .agg #[.int .i64 (i : Int), .int .i64 (j : Int)], .bool b] w fun e w' => e = .returned (agV (firstX t j o b)) ∧ Only [] w w' := by
 have hn2 : n2 ≤ 1000 := by have := hg.sm.nl; rw [hg.n2] at this; exact this
 have hno := hg.sm.no t (List.mem_of_getElem? hx);obtain ⟨bl, off, A', cp, rfl, -, hbw, hT, hOk⟩ := hg.at_.r2.at_ hx;have hi2 : i < n2 := by rw [← hg.n2]; exact (List.getElem?_eq_some_iff.1 hx).1
 have hjm := (List.getElem?_eq_some_iff.1 ho).1;have HKO := Hd (fun w' (O : Only [] w w') => kown_any A' _ cp B j t.ops o w' (hOk.row.only O (by simp)) rfl hno hOk.le hOk.cap ho);have HTC := Hd hT.c2;dsimp only at HTC;unfold firstX;generalize t.ops.length = m at *;generalize leftW o.key (t.ops.take j) = v at *;have hi0 : (0 : Int) ≤ (i : Int) := by omega
 have hj0 : (0 : Int) ≤ (j : Int) := by omega
 have hi2' : (i : Int) < (n2 : Int) := by omega
 unfold hval;clear hg hx ho hOk hT;have HO1 := Hd ((((Only.refl [] w).alloc (.cells #[.slice A0 n0 c0, .slice A1 n1 c1, .slice (some ⟨bl, off, none⟩) n2 c2] 25)).alloc (.cells #[.int .i64 (i : Int), .int .i64 (j : Int)] 27)).alloc (.cells #[.int .i64 0, .int .i64 0] 38));have HB1 := Hd (((Blk.made w 25 #[.slice A0 n0 c0, .slice A1 n1 c1, .slice (some ⟨bl, off, none⟩) n2 c2]).alloc (.cells #[.int .i64 (i : Int), .int .i64 (j : Int)] 27)).alloc (.cells #[.int .i64 0, .int .i64 0] 38));have HP1 := Hd ((Blk.made (w.alloc (.cells #[.slice A0 n0 c0, .slice A1 n1 c1, .slice (some ⟨bl, off, none⟩) n2 c2] 25)) 27 #[.int .i64 (i : Int), .int .i64 (j : Int)]).alloc (.cells #[.int .i64 0, .int .i64 0] 38));have HR1 := Hd (Blk.made ((w.alloc (.cells #[.slice A0 n0 c0, .slice A1 n1 c1, .slice (some ⟨bl, off, none⟩) n2 c2] 25)).alloc (.cells #[.int .i64 (i : Int), .int .i64 (j : Int)] 27)) 38 #[.int .i64 0, .int .i64 0]);simp only [World.size_alloc] at HP1 HR1
 cases b with
 | false =>
  clear HKO HTC;go_enter Tryz.func88, Tryz.ntmps88;go_upto_region 1 with (fail)
  generalize (((w.alloc (.cells #[.slice A0 n0 c0, .slice A1 n1 c1, .slice (some ⟨bl, off, none⟩) n2 c2] 25)).alloc (.cells #[.int .i64 (i : Int), .int .i64 (j : Int)] 27)).alloc (.cells #[.int .i64 0, .int .i64 0] 38)) = w1 at *;generalize hgr : w.heap.size + 1 + 1 = gr at *;go_wp2_with (refine wpList_store_blk rfl 38 (.tmp 6) (.tmp 11) rfl gr 38 _ #[.int .i64 0, .int .i64 0] rfl rfl HR1.out rfl (by kernel_rfl) (by kernel_rfl) ?_; intro w9 b9 o9; have HB9 := Hd b9; have HN9 := Hd o9; clear b9 o9)
  refine bodyPost_ret (results_row1 Tryz.results88 _ _ gr 38 #[.int .i64 0, .int .i64 0] _ rfl HB9.out Tryz.underlying38 rfl (by kernel_rfl)) rfl ?_;exact ⟨rfl, HO1.out.step HN9.out (fun i hi hl => by simp at hi; omega)⟩
 | true =>
  go_enter Tryz.func88, Tryz.ntmps88;go_upto_region 1 with (fail)
  generalize (((w.alloc (.cells #[.slice A0 n0 c0, .slice A1 n1 c1, .slice (some ⟨bl, off, none⟩) n2 c2] 25)).alloc (.cells #[.int .i64 (i : Int), .int .i64 (j : Int)] 27)).alloc (.cells #[.int .i64 0, .int .i64 0] 38)) = w1 at *;generalize hgr : w.heap.size + 1 + 1 = gr at *;generalize hgp : w.heap.size + 1 = gp at *;generalize hgg : w.heap.size = g at *;have hbr : bl < w1.heap.size := by have := HO1.out.size; omega
  have HTC1 := Hd ((HO1.out.cell (p := ⟨bl, off + i * 3 + 2, none⟩) (by show bl < _; omega) (by simp)).trans HTC.out);go_upto_region 3 with (fail)
  have RD0 := Hd fun wq (hSw : Only [] w1 wq) => aI (Bk3 (hSw.blk HB1.out (by simp))) (aI (Bk2 (hSw.blk HP1.out (by simp))) ((hSw.cell (p := ⟨bl, off + i * 3 + 2, none⟩) hbr (by simp)).trans HTC1.out));refine rg1 [] [] w1 ?_;have OW : Only [] w1 w1.drew := (Only.refl [] w1).drew;generalize hwz : w1.drew = wz at *;clear hwz;refine tQ 0 (h := trq 1 0 RD0 (h := tQ 2 (h := trq 3 0 RD0 (h := tQ 4 (h := tQ 5 (h := trq 6 0 RD0 (h := tQ 7 (h := trq 8 0 RD0 (h := ?_)))))))))
  apply cut_1_0 (fun w gv => (Only [] w1 w) ∧ (True) ∧ (Blk w gv 38 #[.int .i64 0, .int .i64 0]) ∧ (w1.heap.size ≤ gv))
  intro HST9_13
  apply cut_1_0 (fun w gv => (Only [] w1 w) ∧ (True) ∧ (Blk w gv 38 #[.int .i64 0, .int .i64 0]) ∧ (w1.heap.size ≤ gv))
  intro HST13
  apply cut_0_0 (fun w  => (Only [] w1 w) ∧ (True))
  intro HST9
  ·refine timed_forks (l := [9, 13]) (by kernel_rfl) (by simp) (fork_cons ⟨_, rfl, fun K hK => ?_⟩ (fork_cons ⟨_, rfl, fun K hK => ?_⟩ (fork_nil)))
   ·go_simp;refine (HKO.out _ (HO1.out.trans OW)).mono ?_;rintro e w3 ⟨rfl, O3⟩;unfold optT optV;have OW1 := OW.trans O3;have OS := O3;refine kOut hK (OW1) (h := ?_);clear hK K;refine tQ 10 (h := tQ 11 (h := tQ 12 (h := ?_)));exact HST9 w3  ⟨OW1, trivial⟩
   ·go_simp;have OW1 := OW.alloc (.cells #[.int .i64 0, .int .i64 0] 38);have OS : Only [] wz (wz.alloc (.cells #[.int .i64 0, .int .i64 0] 38)) := (Only.refl [] wz).alloc (.cells #[.int .i64 0, .int .i64 0] 38);have BV := Blk.made wz 38 #[.int .i64 0, .int .i64 0];have HGV : w1.heap.size ≤ wz.heap.size := OW.size;generalize wz.alloc (.cells #[.int .i64 0, .int .i64 0] 38) = w1 at *;generalize wz.heap.size = gv at *;refine kOut hK (OW1) (h := ?_);clear hK K;exact HST13 w1 gv ⟨OW1, trivial, BV, HGV⟩
  ·intro wz  ⟨OW, HTT⟩;refine tst (i := 13) fun K hK => ?_;go_simp;have OW1 := OW.alloc (.cells #[.int .i64 0, .int .i64 0] 38);have OS : Only [] wz (wz.alloc (.cells #[.int .i64 0, .int .i64 0] 38)) := (Only.refl [] wz).alloc (.cells #[.int .i64 0, .int .i64 0] 38);have BV := Blk.made wz 38 #[.int .i64 0, .int .i64 0];have HGV : w1.heap.size ≤ wz.heap.size := OW.size;generalize wz.alloc (.cells #[.int .i64 0, .int .i64 0] 38) = w1 at *;generalize wz.heap.size = gv at *;refine kOut hK (OW1) (h := ?_);clear hK K;exact HST9_13 w1 gv ⟨OW1, trivial, BV, HGV⟩
  ·intro wz gv ⟨OW, HTT, BV, HGV⟩;refine tst (i := 9) fun K hK => ?_;go_simp;refine (HKO.out _ (HO1.out.trans OW)).mono ?_;rintro e w3 ⟨rfl, O3⟩;unfold optT optV;have OW1 := OW.trans O3;have OS := O3;have BV1 := OS.blk BV (by simp);refine kOut hK (OW1) (h := ?_);clear hK K;refine tQ 10 (h := tQ 11 (h := tQ 12 (h := ?_)));exact HST9_13 w3 gv ⟨OW1, trivial, BV1, HGV⟩
  -- behind all of the crowd
  intro wz gv ⟨OW, HTT, BV, HGV⟩;refine tst (i := 14) fun K hK => ?_;refine wp_store_blk 38 (.tmp 7) (.tmp 23) rfl gv 38 _ #[.int .i64 (v.getD (0, 0)).1, .int .i64 (v.getD (0, 0)).2] rfl rfl BV rfl (by kernel_rfl) (by kernel_rfl) ?_;intro w9 b9 o9;have HV9b := Hd b9;have OW9 := OW.step o9 (fun i hi hl => by simp at hi; omega);clear o9 b9;refine kOut hK (OW9) (h := ?_);clear hK K;refine tQ 15 (h := ?_);refine tdn ?_;have HW9 := Hd OW9;have HO9 := Hd (HO1.out.trans HW9.out);have HR9 := Hd (HW9.out.blk HR1.out (by simp));have lV := HV9b.out.lt;have u0 := HV9b.out.at_ 0;have u1 := HV9b.out.at_ 1;simp at u0 u1;clear HB1 HP1 HR1 HKO HTC HTC1 HO1 HW9;generalize hxv : v.getD (0, 0) = x at *;have HXV := Hd hxv;clear hxv;obtain ⟨x1, x2⟩ := x;dsimp only at *;go_wp2_with (refine wpList_store_blk rfl 38 (.tmp 6) (.tmp 25) rfl gr 38 _ #[.int .i64 x1, .int .i64 x2] rfl rfl HR9.out rfl (by kernel_rfl) (by kernel_rfl) ?_; intro w10 b10 o10; have HB10 := Hd b10; have HN10 := Hd o10; clear b10 o10)
  refine bodyPost_ret (results_row1 Tryz.results88 _ _ gr 38 #[.int .i64 x1, .int .i64 x2] _ rfl HB10.out Tryz.underlying38 rfl (by kernel_rfl)) rfl ?_;exact ⟨by show _ = Ending.returned (agV (v.getD (0, 0))); rw [HXV.out]; rfl, HO9.out.step HN10.out (fun i hi hl => by simp at hi; omega)⟩
theorem triesO_none {h : Hst} {i : Nat} {t : Tx} {j : Nat} {o : Op4} (hv : leftW o.key (t.ops.take j) = none) : triesO h i t j o true = sortV (valsO (i : Int) o.key h.l) ++ [(1, (freshN h.l o.key : Int))] := by unfold triesO; rw [if_pos rfl, hv]
theorem triesO_some {h : Hst} {i : Nat} {t : Tx} {j : Nat} {o : Op4} {v : V2} (hv : leftW o.key (t.ops.take j) = some v) : triesO h i t j o true = [v, (1, (freshN h.l o.key : Int))] := by unfold triesO; rw [if_pos rfl, hv]
theorem valsO_len (a key : Int) (l : List Tx) : (valsO a key l).length ≤ l.length + 1 := by
 unfold valsO leftL;rw [List.length_cons];have := List.length_filterMap_le (fun x : Tx × Nat => forT a key x.2 x.1) l.zipIdx;rw [List.length_zipIdx] at this;omega
theorem blk_row {w : World} {g : Nat} {t : TypeId} {cs : Array Value} (h : Blk w g t cs) : Row w w.heap.size (some ⟨g, 0, none⟩) cs.toList :=
 .inr ⟨g, 0, rfl, h.lt, Nat.le_refl _, fun j u hu => by
  rw [Nat.zero_add, h.at_ j]
  simpa using hu⟩
theorem own_lit1 (w : World) (v : V2) : (w.alloc (.cells #[.int .i64 v.1, .int .i64 v.2] 38)).ownsRow w.heap.size 38 2 (.slice (some ⟨w.heap.size, 0, none⟩) 1 1) 1 (edgeC [v]) :=
 World.ownsRow_lit w (e := 38) (size := 2) #[.int .i64 v.1, .int .i64 v.2] 1 (Nat.le_refl _) (by unfold maxLen; omega) rfl
theorem own_lit2 (w : World) (v u : V2) : (w.alloc (.cells #[.int .i64 v.1, .int .i64 v.2, .int .i64 u.1, .int .i64 u.2] 38)).ownsRow w.heap.size 38 2 (.slice (some ⟨w.heap.size, 0, none⟩) 2 2) 2 (edgeC [v, u]) :=
 World.ownsRow_lit w (e := 38) (size := 2) #[.int .i64 v.1, .int .i64 v.2, .int .i64 u.1, .int .i64 u.2] 2 (Nat.le_refl _) (by unfold maxLen; omega) rfl
theorem wtries_any (A0 A1 A2 : Option Addr) (n0 n1 n2 c0 c1 c2 B : Nat) (h : Hst) (i j : Nat) (t : Tx) (o : Op4) (b : Bool) (w : World) (hg : HIn w B A0 A1 A2 n0 n1 n2 h) (hm : mayH h = true) (hI : HInt h) (hx : h.l[i]? = some t) (ho : t.ops[j]? = some o) :
  Calls Tryz.prog 71 #[hval A0 A1 A2 n0 n1 n2 c0 c1 c2, .agg #[.int .i64 (i : Int), .int .i64 (j : Int)], .bool b] w fun e w' => ∃ V, (e = .returned V ∧ w'.ownsRow w.heap.size 38 2 V (triesO h i t j o b).length (edgeC (triesO h i t j o b))) ∧ Only [] w w' := by
 obtain ⟨i0, hi, hz0, hz1, hz2⟩ := info_parts info_val;have hn2 : n2 ≤ 40 := by rw [← hg.n2]; exact (may_ops hm).1
 have hno := hg.sm.no t (List.mem_of_getElem? hx);have HKF := Hd (fun w' (O : Only [] w w') => kfresh_any A0 A1 A2 n0 n1 n2 c0 c1 c2 B h o.key w' (hg.same O) hm hI);have HKV := Hd (fun w' (O : Only [] w w') => kvalues_own A0 A1 A2 n0 n1 n2 c0 c1 c2 B h i j t o w' (hg.same O) hm hI hx ho);have HVN : Hid ((sortV (valsO (i : Int) o.key h.l)).length ≤ 41) := Hd (by
  have h1 := sortV_le (valsO (i : Int) o.key h.l);have h2 := valsO_len (i : Int) o.key h.l;have h3 := hg.n2;omega)
 obtain ⟨bl, off, A', cp, rfl, -, hbw, hT, hOk⟩ := hg.at_.r2.at_ hx;have hi2 : i < n2 := by rw [← hg.n2]; exact (List.getElem?_eq_some_iff.1 hx).1
 have hjm := (List.getElem?_eq_some_iff.1 ho).1;obtain ⟨bo, oo, rfl, -, hbo, hP⟩ := row_op hOk.row ho;have hkc := hP.c1;have HKC := Hd hkc;have HKO := Hd (fun w' (O : Only [] w w') => kown_any (some ⟨bo, oo, none⟩) _ cp B j t.ops o w' (hOk.row.only O (by simp)) rfl hno hOk.le hOk.cap ho);have HTC := Hd hT.c2;dsimp only at HTC;have HEN := Hd (fun (hv : leftW o.key (t.ops.take j) = none) => triesO_none (h := h) (i := i) hv);have HES := Hd (fun (v : V2) (hv : leftW o.key (t.ops.take j) = some v) => triesO_some (h := h) (i := i) hv);have HEF : triesO h i t j o false = [(0, 0)] := rfl;generalize t.ops.length = m at *;generalize leftW o.key (t.ops.take j) = v at *;generalize sortV (valsO (i : Int) o.key h.l) = L at *;generalize freshN h.l o.key = fr at *;have hi0 : (0 : Int) ≤ (i : Int) := by omega
 have hj0 : (0 : Int) ≤ (j : Int) := by omega
 have hi2' : (i : Int) < (n2 : Int) := by omega
 have hjm' : (j : Int) < (m : Int) := by omega
 unfold hval at *;clear hg hx ho hOk hT hP hkc;have HO1 := Hd (((Only.refl [] w).alloc (.cells #[.slice A0 n0 c0, .slice A1 n1 c1, .slice (some ⟨bl, off, none⟩) n2 c2] 25)).alloc (.cells #[.int .i64 (i : Int), .int .i64 (j : Int)] 27));have HB1 := Hd ((Blk.made w 25 #[.slice A0 n0 c0, .slice A1 n1 c1, .slice (some ⟨bl, off, none⟩) n2 c2]).alloc (.cells #[.int .i64 (i : Int), .int .i64 (j : Int)] 27));have HP1 := Hd (Blk.made (w.alloc (.cells #[.slice A0 n0 c0, .slice A1 n1 c1, .slice (some ⟨bl, off, none⟩) n2 c2] 25)) 27 #[.int .i64 (i : Int), .int .i64 (j : Int)]);simp only [World.size_alloc] at HP1
 cases b with
 | false =>
  clear HKO HTC HKF HKV HEN HES;rw [HEF];go_enter Tryz.func71, Tryz.ntmps71;go_upto_region 1 with (fail)
  generalize ((w.alloc (.cells #[.slice A0 n0 c0, .slice A1 n1 c1, .slice (some ⟨bl, off, none⟩) n2 c2] 25)).alloc (.cells #[.int .i64 (i : Int), .int .i64 (j : Int)] 27)) = w1 at *;have HOW := Hd (own_lit1 w1 (0, 0));have HO2 := Hd (HO1.out.alloc (.cells #[.int .i64 0, .int .i64 0] 38));go_wp2
  go_ret
  exact ⟨⟨_, rfl, own_low HOW.out HO1.out.size⟩, HO2.out⟩
 | true =>
  clear HEF;generalize triesO h i t j o true = TT at *;generalize o.key = ok at *;go_enter Tryz.func71, Tryz.ntmps71;go_upto_region 1 with (fail)
  generalize ((w.alloc (.cells #[.slice A0 n0 c0, .slice A1 n1 c1, .slice (some ⟨bl, off, none⟩) n2 c2] 25)).alloc (.cells #[.int .i64 (i : Int), .int .i64 (j : Int)] 27)) = w1 at *;generalize hgp : w.heap.size + 1 = gp at *;generalize hgg : w.heap.size = g at *;have hbr : bl < w1.heap.size := by have := HO1.out.size; omega
  have hbor : bo < w1.heap.size := by have := HO1.out.size; omega
  have HTC1 := Hd ((HO1.out.cell (p := ⟨bl, off + i * 3 + 2, none⟩) (by show bl < _; omega) (by simp)).trans HTC.out);have HKC1 := Hd ((HO1.out.cell (p := ⟨bo, oo + j * 4 + 1, none⟩) (by show bo < _; omega) (by simp)).trans HKC.out);have t2 := HTC1.out;have lB := HB1.out.lt;have y2 := HB1.out.at_ 2;have lP := HP1.out.lt;have p0 := HP1.out.at_ 0;simp at y2 p0;go_upto_region 4 with (fail)
  clear t2 lB y2 lP p0 HTC HKC HTC1;have RD0 := Hd fun wq (hSw : Only [] w1 wq) => aI (Bk3 (hSw.blk HB1.out (by simp))) (aI (Bk2 (hSw.blk HP1.out (by simp))) ((hSw.cell (p := ⟨bo, oo + j * 4 + 1, none⟩) hbor (by simp)).trans HKC1.out));refine rg1 [] [] w1 ?_;have OW : Only [] w1 w1.drew := (Only.refl [] w1).drew;generalize hwz : w1.drew = wz at *;clear hwz;refine trq 0 0 RD0 (h := tQ 1 (h := tQ 2 (h := trq 3 0 RD0 (h := tQ 4 (h := tQ 5 (h := trq 6 0 RD0 (h := ?_)))))))
  apply cut_1_0 (fun w gv => (Only [] w1 w) ∧ (True) ∧ (Blk w gv 38 #[.int .i64 0, .int .i64 0]) ∧ (w1.heap.size ≤ gv))
  intro HST7_8
  apply cut_1_0 (fun w gv => (Only [] w1 w) ∧ (True) ∧ (Blk w gv 38 #[.int .i64 0, .int .i64 0]) ∧ (w1.heap.size ≤ gv))
  intro HST8
  apply cut_0_0 (fun w  => (Only [] w1 w) ∧ (True))
  intro HST7
  ·refine timed_forks (l := [7, 8]) (by kernel_rfl) (by simp) (fork_cons ⟨_, rfl, fun K hK => ?_⟩ (fork_cons ⟨_, rfl, fun K hK => ?_⟩ (fork_nil)))
   ·go_simp;refine (HKF.out _ (HO1.out.trans OW)).mono ?_;rintro e w3 ⟨rfl, O3⟩;have OW1 := OW.trans O3;have OS := O3;refine kOut hK (OW1) (h := ?_);clear hK K;exact HST7 w3  ⟨OW1, trivial⟩
   ·go_simp;have OW1 := OW.alloc (.cells #[.int .i64 0, .int .i64 0] 38);have OS : Only [] wz (wz.alloc (.cells #[.int .i64 0, .int .i64 0] 38)) := (Only.refl [] wz).alloc (.cells #[.int .i64 0, .int .i64 0] 38);have BV := Blk.made wz 38 #[.int .i64 0, .int .i64 0];have HGV : w1.heap.size ≤ wz.heap.size := OW.size;generalize wz.alloc (.cells #[.int .i64 0, .int .i64 0] 38) = w1 at *;generalize wz.heap.size = gv at *;refine kOut hK (OW1) (h := ?_);clear hK K;exact HST8 w1 gv ⟨OW1, trivial, BV, HGV⟩
  ·intro wz  ⟨OW, HTT⟩;refine tst (i := 8) fun K hK => ?_;go_simp;have OW1 := OW.alloc (.cells #[.int .i64 0, .int .i64 0] 38);have OS : Only [] wz (wz.alloc (.cells #[.int .i64 0, .int .i64 0] 38)) := (Only.refl [] wz).alloc (.cells #[.int .i64 0, .int .i64 0] 38);have BV := Blk.made wz 38 #[.int .i64 0, .int .i64 0];have HGV : w1.heap.size ≤ wz.heap.size := OW.size;generalize wz.alloc (.cells #[.int .i64 0, .int .i64 0] 38) = w1 at *;generalize wz.heap.size = gv at *;refine kOut hK (OW1) (h := ?_);clear hK K;exact HST7_8 w1 gv ⟨OW1, trivial, BV, HGV⟩
  ·intro wz gv ⟨OW, HTT, BV, HGV⟩;refine tst (i := 7) fun K hK => ?_;go_simp;refine (HKF.out _ (HO1.out.trans OW)).mono ?_;rintro e w3 ⟨rfl, O3⟩;have OW1 := OW.trans O3;have OS := O3;have BV1 := OS.blk BV (by simp);refine kOut hK (OW1) (h := ?_);clear hK K;exact HST7_8 w3 gv ⟨OW1, trivial, BV1, HGV⟩
  -- behind all of the crowd
  intro wz gv ⟨OW, HTT, BV, HGV⟩;refine tst (i := 9) fun K hK => ?_;refine wp_store_blk 38 (.tmp 8) (.tmp 29) rfl gv 38 _ #[.int .i64 1, .int .i64 (fr : Int)] rfl rfl BV rfl (by kernel_rfl) (by kernel_rfl) ?_;intro w9 b9 o9;have HV9b := Hd b9;have OW9 := OW.step o9 (fun i hi hl => by simp at hi; omega);clear o9 b9;refine kOut hK (OW9) (h := ?_);clear hK K;refine tdn ?_;have HW9 := Hd OW9;have HO9 := Hd (HO1.out.trans HW9.out);have HB9 := Hd (HW9.out.blk HB1.out (by simp));have HP9 := Hd (HW9.out.blk HP1.out (by simp));have HF9 := HV9b;clear HB1 HP1 HKC1 HO1 HW9 HKF HV9b hbr hbor;generalize gv = gf at *;generalize w9 = wA at *;have lP := HP9.out.lt;have p1 := HP9.out.at_ 1;simp at p1;go_wp2_with fail
  refine (HKO.out _ HO9.out).mono ?_;rintro e w3 ⟨rfl, O3⟩;unfold optT optV;go_upto_region 6 with (fail)
  have HOB := Hd ((HO9.out.trans O3).alloc (.cells #[.int .i64 (v.getD (0, 0)).1, .int .i64 (v.getD (0, 0)).2] 38));have HBB := Hd ((O3.blk HB9.out (by simp)).alloc (.cells #[.int .i64 (v.getD (0, 0)).1, .int .i64 (v.getD (0, 0)).2] 38));have HPB := Hd ((O3.blk HP9.out (by simp)).alloc (.cells #[.int .i64 (v.getD (0, 0)).1, .int .i64 (v.getD (0, 0)).2] 38));have HFB := Hd ((O3.blk HF9.out (by simp)).alloc (.cells #[.int .i64 (v.getD (0, 0)).1, .int .i64 (v.getD (0, 0)).2] 38));have HVB := Hd (Blk.made w3 38 #[.int .i64 (v.getD (0, 0)).1, .int .i64 (v.getD (0, 0)).2]);clear O3 HO9 HB9 HP9 HF9 HKO lP p1;generalize w3.alloc (.cells #[.int .i64 (v.getD (0, 0)).1, .int .i64 (v.getD (0, 0)).2] 38) = wB at *;generalize w3.heap.size = gw at *
  cases v with
  | some v =>
   have HE := Hd (HES.out v rfl);have lV := HVB.out.lt;have u0 := HVB.out.at_ 0;have u1 := HVB.out.at_ 1;have lF := HFB.out.lt;have f0 := HFB.out.at_ 0;have f1 := HFB.out.at_ 1;obtain ⟨v1, v2⟩ := v;simp at u0 u1 f0 f1;have HOW := Hd (own_lit2 wB (v1, v2) (1, (fr : Int)));have HO2 := Hd (HOB.out.alloc (.cells #[.int .i64 v1, .int .i64 v2, .int .i64 1, .int .i64 (fr : Int)] 38));go_wp2
   go_ret
   exact ⟨⟨_, rfl, by rw [HE.out]; exact own_low HOW.out (by have := HOB.out.size; omega)⟩, HO2.out⟩
  | none =>
   have HE := Hd (HEN.out rfl);clear HEN HES HVB;go_upto_region 8 with (fail)
   have RD0 := Hd fun wq (hSw : Only [] wB wq) => aI (Bk3 (hSw.blk HBB.out (by simp))) (aI (Bk2 (hSw.blk HPB.out (by simp))) (Bk2 (hSw.blk HFB.out (by simp))));refine rg1 [] [] wB ?_;have OW : Only [] wB wB.drew := (Only.refl [] wB).drew;generalize hwz : wB.drew = wz at *;clear hwz;refine trq 0 0 RD0 (h := trq 1 0 RD0 (h := trq 3 0 RD0 (h := ?_)))
   apply cut_1_1 (fun w gv VV => (Only [] wB w) ∧ (True) ∧ (Blk w gv 38 #[.int .i64 1, .int .i64 (fr : Int)]) ∧ (wB.heap.size ≤ gv) ∧ (w.ownsRow wB.heap.size 38 2 VV L.length (edgeC L)))
   intro HST2_4
   apply cut_1_0 (fun w gv => (Only [] wB w) ∧ (True) ∧ (Blk w gv 38 #[.int .i64 1, .int .i64 (fr : Int)]) ∧ (wB.heap.size ≤ gv))
   intro HST4
   apply cut_0_1 (fun w VV => (Only [] wB w) ∧ (True) ∧ (w.ownsRow wB.heap.size 38 2 VV L.length (edgeC L)))
   intro HST2
   ·refine timed_forks (l := [2, 4]) (by kernel_rfl) (by simp) (fork_cons ⟨_, rfl, fun K hK => ?_⟩ (fork_cons ⟨_, rfl, fun K hK => ?_⟩ (fork_nil)))
    ·go_simp;refine (HKV.out _ (HOB.out.trans OW)).mono ?_;rintro e w3 ⟨VV, ⟨rfl, ho3⟩, O3⟩;have OV := own_low ho3 OW.size;have OW1 := OW.trans O3;have OS := O3;refine kOut hK (OW1) (h := ?_);clear hK K;exact HST2 w3 VV ⟨OW1, trivial, OV⟩
    ·go_simp;have OW1 := OW.alloc (.cells #[.int .i64 1, .int .i64 (fr : Int)] 38);have OS : Only [] wz (wz.alloc (.cells #[.int .i64 1, .int .i64 (fr : Int)] 38)) := (Only.refl [] wz).alloc (.cells #[.int .i64 1, .int .i64 (fr : Int)] 38);have BV := Blk.made wz 38 #[.int .i64 1, .int .i64 (fr : Int)];have HGV : wB.heap.size ≤ wz.heap.size := OW.size;generalize wz.alloc (.cells #[.int .i64 1, .int .i64 (fr : Int)] 38) = w1 at *;generalize wz.heap.size = gv at *;refine kOut hK (OW1) (h := ?_);clear hK K;exact HST4 w1 gv ⟨OW1, trivial, BV, HGV⟩
   ·intro wz VV ⟨OW, HTT, OV⟩;refine tst (i := 4) fun K hK => ?_;go_simp;have OW1 := OW.alloc (.cells #[.int .i64 1, .int .i64 (fr : Int)] 38);have OS : Only [] wz (wz.alloc (.cells #[.int .i64 1, .int .i64 (fr : Int)] 38)) := (Only.refl [] wz).alloc (.cells #[.int .i64 1, .int .i64 (fr : Int)] 38);have BV := Blk.made wz 38 #[.int .i64 1, .int .i64 (fr : Int)];have HGV : wB.heap.size ≤ wz.heap.size := OW.size;have OV1 := own_only OV OS (by simp);generalize wz.alloc (.cells #[.int .i64 1, .int .i64 (fr : Int)] 38) = w1 at *;generalize wz.heap.size = gv at *;refine kOut hK (OW1) (h := ?_);clear hK K;exact HST2_4 w1 gv VV ⟨OW1, trivial, BV, HGV, OV1⟩
   ·intro wz gv ⟨OW, HTT, BV, HGV⟩;refine tst (i := 2) fun K hK => ?_;go_simp;refine (HKV.out _ (HOB.out.trans OW)).mono ?_;rintro e w3 ⟨VV, ⟨rfl, ho3⟩, O3⟩;have OV := own_low ho3 OW.size;have OW1 := OW.trans O3;have OS := O3;have BV1 := OS.blk BV (by simp);refine kOut hK (OW1) (h := ?_);clear hK K;exact HST2_4 w3 gv VV ⟨OW1, trivial, BV1, HGV, OV⟩
   -- behind all of the crowd
   intro wz gv VV ⟨OW, HTT, BV, HGV, OV⟩;refine tst (i := 5) fun K hK => ?_;refine step_append_row _ rfl (.tmp 43) (.tmp 45) 33 rfl wB.heap.size 38 i0 _ 2 16 Tryz.underlying33 hi hz0 hz1 hz2 rfl (by omega) VV L.length (edgeC L) (by rfl) OV _ (some ⟨gv, 0, none⟩) 1 1 [.int .i64 1, .int .i64 (fr : Int)] (by rfl) (by rfl) (blk_row BV) (by intro u hu; simp at hu; rcases hu with rfl | rfl <;> rfl) (by have := HVN.out; unfold maxLen; omega) (by have := HVN.out; omega) OW.size ?_;intro V9 w9 hown9 hgrow9 hat9;have OW9 := OW.step (only_grown hgrow9) (own_new OV);have HV9 := Hd hown9;clear hown9 hgrow9 hat9;refine kOut hK (OW9) (h := ?_);clear hK K;refine tQ 6 (h := ?_);refine tdn ?_;have HWC := Hd OW9;have HO9 := Hd (HOB.out.trans HWC.out);go_wp2
   go_ret
   exact ⟨_, ⟨rfl, by rw [HE.out, List.length_append, edgeC_append]; exact own_low HV9.out (by have := HOB.out.size; omega)⟩, HO9.out⟩
end Go.Proofs.YtjfbeeogiejopaaGreatDoor
