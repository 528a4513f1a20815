/- Parts. -/
import Derived.Test.YtojpohmijlkagaaDoorLaw43AllK23
import Derived.Test.YtojpohmijlkagaaDoorLaw43AllK25
import Derived.WalkMore
set_option maxRecDepth 10000
set_option maxHeartbeats 16000000
set_option linter.unusedVariables false
set_option linter.unusedSimpArgs false
namespace Go.Proofs.YtojpohmijlkagaaDoor
open Go.RowKit
open Go.Lib hiding intOf
attribute [local go_sem ↓] Go.wp_at_zero Go.wp_at_succ
def linesB (s : ByteArray) : List ByteArray := (linesOf (by_ s)).map fun l => ⟨l.toArray⟩
theorem linesB_eq {s : ByteArray} {xs : List ByteArray} (h : xs.map by_ = linesOf (by_ s)) : linesB s = xs := by
 unfold linesB;rw [← h, List.map_map];have : ((fun l => (⟨l.toArray⟩ : ByteArray)) ∘ by_) = id := by
  funext x
  exact by_inj (by show (by_ x).toArray.toList = by_ x; simp)
 rw [this, List.map_id]
def scrR (s : ByteArray) : List Cmd × Int × Int :=
 if 65536 < s.size then ([], 0, 6) else
  match (linesOf (by_ s)).findIdx? (fun x => !validD x) with
  | some i => ([], (i : Int) + 1, 5)
  | none => scrGo (linesB s) 0 []
theorem lines_no10 : ∀ (l cur : List UInt8), (10 : UInt8) ∉ cur → ∀ x ∈ cutL cur l, (10 : UInt8) ∉ x
 | [], cur, h, x, hx => by
  unfold cutL at hx
  split at hx
  ·cases hx
  ·rw [List.mem_singleton] at hx;rw [hx];exact h
 | b :: l, cur, h, x, hx => by
  unfold cutL at hx
  split at hx
  ·rcases List.mem_cons.1 hx with rfl | hx
   ·exact h
   ·exact lines_no10 l [] (by simp) x hx
  ·rename_i hb
   refine lines_no10 l (cur ++ [b]) (fun hm => ?_) x hx;rcases List.mem_append.1 hm with hm | hm
   ·exact h hm
   ·rw [List.mem_singleton] at hm;exact hb hm.symm
def pairsW (s : ByteArray) : List (ByteArray × Int) := (wordsOf (by_ s)).map fun p => (s.extract p.1 p.2, ((leads ((by_ s).take p.1) : Nat) : Int) + 1)
theorem pairs_cells (s : ByteArray) : wordsV s (wordsOf (by_ s)) = wcC (pairsW s) := by
 unfold wordsV wcC pairsW;rw [List.flatMap_map]
 rfl
theorem pairs_texts (s : ByteArray) : (pairsW s).map Prod.fst = textsOf s := by
 unfold pairsW textsOf;rw [List.map_map]
 rfl
theorem pairs_len (s : ByteArray) : (pairsW s).length = (wordsOf (by_ s)).length := by simp [pairsW]
theorem wslice_tail (b off t c : Nat) (h : 1 ≤ t) (hc : t ≤ c) (W : World) : (Instr.slice 50 (.slice (some ⟨b, off, none⟩) t c) (some (.int .i64 1)) none none).run Tryd.prog W = .ok (.slice (some ⟨b, if c = 1 then off else off + 2, none⟩) (t - 1) (c - 1)) W := by
 rw [run_slice_l (P := Tryd.prog) W 50 (some ⟨b, off, none⟩) t c (by kernel_rfl) .i64 (1 : Int) (by omega) (by omega)];have hs : (sizeOf (Tryd.prog.elem 50)).run Tryd.prog W = .ok 2 W := by kernel_rfl
 rw [hs]
 by_cases hc1 : c = 1 <;> simp [Result.andThen, sliced, hc1, Addr.add]
theorem scrGo_step {xs : List ByteArray} {k : Nat} {x : ByteArray} (h : xs[k]? = some x) (acc : List Cmd) : scrGo (xs.drop k) k acc = match textsOf x with
  | [] => scrGo (xs.drop (k + 1)) (k + 1) acc
  | w :: t => if (cmdR w t).2.2 ≠ 0 then ([], (k : Int) + 1, (cmdR w t).2.2) else if acc.length = 200 then ([], (k : Int) + 1, 7) else scrGo (xs.drop (k + 1)) (k + 1) (acc ++ [⟨(k : Int) + 1, (cmdR w t).1, (cmdR w t).2.1⟩]) := by
 obtain ⟨hi, rfl⟩ := List.getElem?_eq_some_iff.1 h;rw [List.drop_eq_getElem_cons hi, scrGo]
 cases textsOf xs[k] <;> rfl
theorem row_tail_wc {W : World} {B b off c : Nat} {x : ByteArray × Int} {t : List (ByteArray × Int)} (h : Row W B (some ⟨b, off, none⟩) (wcC (x :: t))) (hB : B = W.heap.size) (hc : t.length + 1 ≤ c) : Row W W.heap.size (some ⟨b, if c = 1 then off else off + 2, none⟩) (wcC t) := by
 by_cases hc1 : c = 1
 ·obtain rfl : t = [] := List.eq_nil_of_length_eq_zero (by omega);exact .inl rfl
 ·rw [if_neg hc1];rcases h with h | ⟨b', off', e, h1, h2, h3⟩
  ·exact absurd h (by simp [wcC])
  ·injection e with e;injection e with e1 e2;subst e1;subst e2;refine .inr ⟨b, off + 2, rfl, by omega, Nat.le_refl _, fun j u hu => ?_⟩;rw [show off + 2 + j = off + (j + 2) by omega];exact h3 (j + 2) u (by simpa [wcC] using hu)
attribute [-go_sem] Go.run_slice_l Go.run_slice_h Go.run_slice_any Go.run_slice_lh in
theorem sparse43_any (s : ByteArray) (w : World) (hs : s.size ≤ 65536) (hrow : ∀ x ∈ linesOf (by_ s), x.length ≤ 65535) (hT : UTabs w) (hM : MLen w) (hS : Scrs w) :
  Calls Tryd.prog 7 #[.string s] w fun e w' => ∃ A c, (e = .returned (.tuple #[.slice A (scrR s).1.length c, .int .i64 (scrR s).2.1, .int .i64 (scrR s).2.2]) ∧ w'.ownsRow w.heap.size 40 3 (.slice A (scrR s).1.length c) (scrR s).1.length (cmdC (scrR s).1)) ∧ Only [] w w' := by
 obtain ⟨i0, hi, hz0, hz1, hz2⟩ := info_parts info_cline;have HOF := Hd (of_any s w hs hT);have HWD := Hd (fun (x : ByteArray) w' (h : x.size ≤ 65535) (O : Only [] w w') => words_any x w' h (hT.only O) (hM.only O));have HOP := Hd (fun (kd : Int) (A : Option Addr) (n c B : Nat) (ws : List (ByteArray × Int)) w' (O : Only [] w w') (hg : Row w' B A (wcC ws)) (hn : ws.length = n) (hM : n ≤ 100000) (hs : ∀ x ∈ ws, x.1.size ≤ 65537) => soperand_any kd A n c B ws w' (hS.only O) hg hn hM hs);have HSC := Hd hS;obtain ⟨r, hr⟩ : ∃ r, r = scrR s := ⟨_, rfl⟩;rw [← hr];have HR := Hd hr;have HROWS := Hd hrow;have hln := cutL_len (by_ s) [];rw [by_length] at hln;clear hr hT hM hS hrow;go_enter Tryd.func7, Tryd.ntmps7;go_wp2
 go_step3
 go_upto_region 1 with (fail)
 go_wp2_with fail
 refine (HOF.out).mono ?_;rintro e w1 ⟨O1, ⟨hval, V0, xs, rfl, hown0, hxs⟩ | ⟨i, x, hx, hbad, hfirst, rfl⟩⟩
 ·have hidx : (linesOf (by_ s)).findIdx? (fun x => !validD x) = none := by
   rw [List.findIdx?_eq_none_iff];intro x hx;rw [hval x hx]
   rfl
  have hr : r = scrGo xs 0 [] := by
   rw [HR.out];unfold scrR;rw [if_neg (by omega), hidx, linesB_eq hxs]
  have HXS : Hid (∀ x ∈ xs, x.size ≤ 65535 ∧ badL (by_ x) = false) := Hd (fun x hx => by
   have hm : by_ x ∈ linesOf (by_ s) := by rw [← hxs]; exact List.mem_map_of_mem hx
   have h1 := HROWS.out (by_ x) hm;rw [by_length] at h1;refine ⟨h1, ?_⟩;unfold badL;rw [hval _ hm];have h2 := lines_no10 (by_ s) [] (by simp) (by_ x) hm
   simpa using h2)
  have hnl : xs.length ≤ 65537 := by
   have := congrArg List.length hxs;rw [List.length_map] at this;unfold linesOf at this;omega
  obtain ⟨A0, c0, rfl, -, -, -, hrow0⟩ := own_row hown0;generalize hn : xs.length = n at *;have HN := Hd hn;have HRR := Hd hr;have HO1 := Hd O1;have HROW := Hd hrow0;clear hval hown0 hxs hidx HR HROWS hn hr O1 hrow0 hln HOF;obtain ⟨g, hgg⟩ : ∃ g, g = w1.heap.size := ⟨_, rfl⟩;go_wp2_with fail
  go_step3
  go_wp2_with fail
  go_loopw [8, 29] (fun V iv wr => ∃ (k : Nat) (acc : List Cmd), iv = .int .i64 k ∧ k ≤ n ∧ acc.length ≤ 200 ∧ Hid (r = scrGo (xs.drop k) k acc) ∧ Hid (wr.ownsRow g 40 3 V acc.length (cmdC acc)) ∧ Hid (Only [] w wr) ∧ Hid (Only [] w1 wr)) (fun _ iv _ => n - (intOf iv).toNat)
  case atStart => exact ⟨0, [], rfl, by omega, by simp, HRR, Hd (World.ownsRow_nil _ _ _ _), HO1, Hd (Only.refl _ _)⟩
  case round =>
   obtain ⟨k, acc, rfl, hk, hacc, hR, hV, hO, hOB⟩ := hrel
   by_cases hlt : k < n
   ·have h01 : (k : Int) < (n : Int) := by omega
    have hk0 : (0 : Int) ≤ (k : Int) := Int.natCast_nonneg _;have hwk : IntKind.i64.wrap ((k : Int) + 1) = (k : Int) + 1 := IntWalk.i64_in _ (by omega);obtain ⟨b, off, rfl, hbB, hbw, hcell⟩ := HROW.out.open_ (k := k) (by rw [strs, List.length_map, HN.out]; exact hlt);obtain ⟨x, hx⟩ : ∃ x, xs[k]? = some x := ⟨_, List.getElem?_eq_getElem (by rw [HN.out]; exact hlt)⟩;have hck : wr.cell? ⟨b, off + k, none⟩ = some (.string x) := (hOB.out.cell (p := ⟨b, off + k, none⟩) hbw (by simp)).trans (hcell k _ (by rw [strs, List.getElem?_map, hx]; rfl));have hbr : b < wr.heap.size := Nat.lt_of_lt_of_le hbw hOB.out.size;have hxx := HXS.out x (List.mem_of_getElem? hx);have HST := Hd (hR.out.trans (scrGo_step hx acc));have HW := Hd (HWD.out x wr hxx.1 hO.out);have HBD := Hd hxx.2;have HXZ := Hd hxx.1;clear hcell hx hxx hR;go_wp2_with fail
    refine (HW.out).mono ?_;rintro e w2 ⟨O2, ⟨hbb, -⟩ | ⟨-, Vw, rfl, hVw⟩⟩
    ·exact absurd (hbb.symm.trans HBD.out) (by decide)
    obtain ⟨Aw, cw, rfl, hcw, -, -, -⟩ := own_row hVw;rw [pairs_cells, ← pairs_len] at hVw;rw [← pairs_len] at hcw;rw [← pairs_len];rw [← pairs_texts] at HST;have HPS : Hid (∀ y ∈ pairsW x, y.1.size ≤ 65537) := Hd (fun y hy => by
     have h1 : y.1 ∈ textsOf x := by rw [← pairs_texts]; exact List.mem_map_of_mem hy
     unfold textsOf at h1;obtain ⟨p, -, e1⟩ := List.mem_map.1 h1;rw [← e1, ByteArray.size_extract];have := HXZ.out;omega)
    have hpl : (pairsW x).length ≤ 70000 := by
     rw [pairs_len];have h1 := spans_len (codeL (by_ x)) 0 none;have h2 := ahead_len (by_ x);rw [code_len] at h1;rw [by_length] at h2;have := HXZ.out;unfold wordsOf;omega
    generalize pairsW x = ps at *;have HV2 := Hd (own_only hV.out O2 (by simp));have HO2 := Hd (hO.out.trans O2);have HOB2 := Hd (hOB.out.trans O2);have HVW := Hd hVw;clear O2 hV hO hOB hVw hck HW HBD HXZ
    match ps, hpl, hcw, HST, HPS, HVW with
    | [], hpl, hcw, HST, HPS, HVW =>
     have HS1 : Hid (r = scrGo (xs.drop (k + 1)) (k + 1) acc) := HST;clear HST HPS HVW;go_wp2
     go_roundw
     case rel => exact ⟨k + 1, acc, by go_num, by omega, hacc, HS1, HV2, HO2, HOB2⟩
     case measure => simp [intOf]; omega
    | (x0, q0) :: t, hpl, hcw, HST, HPS, HVW =>
     obtain ⟨A3, c3, e3, hc3, -, -, hrw⟩ := own_row HVW.out;obtain ⟨rfl, -, rfl⟩ : Aw = A3 ∧ True ∧ cw = c3 := by injection e3 with e1 e2 e4; exact ⟨e1, trivial, e4⟩
     obtain ⟨b1, off1, rfl, -, hb1w, hcell1⟩ := hrw.open_ (k := 0) (by rw [wcC_len]; simp);have hx0 : w2.cell? ⟨b1, off1 + 0, none⟩ = some (.string x0) := hcell1 0 _ rfl;have hx00 : w2.cell? ⟨b1, off1, none⟩ = some (.string x0) := hx0;have HS2 : Hid (r = if (cmdR x0 (t.map Prod.fst)).2.2 ≠ 0 then ([], (k : Int) + 1, (cmdR x0 (t.map Prod.fst)).2.2) else if acc.length = 200 then ([], (k : Int) + 1, 7) else scrGo (xs.drop (k + 1)) (k + 1) (acc ++ [⟨(k : Int) + 1, (cmdR x0 (t.map Prod.fst)).1, (cmdR x0 (t.map Prod.fst)).2.1⟩])) := HST;have HSC2 := Hd (HSC.out.only HO2.out);obtain ⟨A8, c8, rfl, h8c, h8m, -, -⟩ := own_row HV2.out;have HWT : Hid (World.rangeAt w2 0 0 (strs kwL)) := Hd (fun j v hj => by rw [Nat.zero_add]; exact HSC2.out.c0 j v hj);have HRW := Hd hrw;have hl1 : ((x0, q0) :: t).length = t.length + 1 := rfl;rw [hl1] at hpl hcw ⊢;have hz : ((t.length + 1 : Nat) : Int) ≠ 0 := by omega
     have hc1 : 1 ≤ t.length + 1 := by omega
     clear HST hcell1 hrw hc3 hx0 e3;go_upto_region 10 with (fail)
     refine wp_region_lit ?_;refine wpList_load_mid rfl 53 (.global 0) rfl 0 0 rfl (strs kwL) (.array 10 9) HWT.out (by kernel_rfl) rfl (by kernel_rfl) ?_;have hvv : Value.agg (strs kwL).toArray = wordsT := rfl;rw [hvv];have HIX : Hid (∀ (j : Nat), j < 10 → ∀ W : World, (Instr.index 53 wordsT (.int .i64 (j : Int))).run Tryd.prog W = .ok (.string (kwL.getD j ⟨#[]⟩)) W) := Hd word_idx;have hfd : Hid (findB x0 kwL 0 = findB x0 (kwL.drop 0) 0) := Hd rfl;clear HWT hvv;generalize wordsT = V0 at *;go_wp2_with fail
     go_loopw [8, 43] (fun v8 iv wr => ∃ j : Nat, v8 = .slice A8 acc.length c8 ∧ iv = .int .i64 (j : Int) ∧ j ≤ 10 ∧ Hid (findB x0 kwL 0 = findB x0 (kwL.drop j) j) ∧ wr = w2) (fun _ iv _ => 10 - (intOf iv).toNat)
     case atStart => exact ⟨0, rfl, rfl, by omega, hfd, rfl⟩
     case round =>
      obtain ⟨j, rfl, rfl, hj, hq, rfl⟩ := hrel
      by_cases hlt2 : j < 10
      ·have hidx := HIX.out j hlt2;have h01j : (j : Int) < 10 := by omega
       have h0j : (0 : Int) ≤ (j : Int) := Int.natCast_nonneg _;have hwj : IntKind.i64.wrap ((j : Int) + 1) = (j : Int) + 1 := IntWalk.i64_in _ (by omega);obtain ⟨y, hy⟩ : ∃ y, kwL[j]? = some y := ⟨_, List.getElem?_eq_getElem (show j < kwL.length from hlt2)⟩;have hgd : kwL.getD j ⟨#[]⟩ = y := by rw [List.getD_eq_getElem?_getD, hy]; rfl
       rw [hgd] at hidx;have HD := Hd (findB_drop (s := x0) (l := kwL) hy);clear hgd hy
       by_cases e : y = x0
       ·have HE : Hid (findB x0 kwL 0 = some j) := Hd (by rw [hq.out, HD.out, if_pos e]);have HCM : Hid (cmdR x0 (t.map Prod.fst) = ((j : Int) + 1, (operR ((j : Int) + 1) (t.map Prod.fst)).1, (operR ((j : Int) + 1) (t.map Prod.fst)).2)) := Hd (by unfold cmdR; rw [HE.out]);have HTL : Hid (Row wr wr.heap.size (some ⟨b1, if cw = 1 then off1 else off1 + 2, none⟩) (wcC t)) := Hd (row_tail_wc HRW.out (by omega) hcw);have hsl := wslice_tail b1 off1 (t.length + 1) cw hc1 hcw;have HOPS := Hd (HOP.out ((j : Int) + 1) (some ⟨b1, if cw = 1 then off1 else off1 + 2, none⟩) (t.length + 1 - 1) (cw - 1) wr.heap.size t wr HO2.out HTL.out (by omega) (by omega) (fun z hz => HPS.out z (List.mem_cons_of_mem _ hz)));subst e;have hb : (y.toList == y.toList) = true := by simp
        clear HD HE HTL HRW;generalize (if cw = 1 then off1 else off1 + 2) = off2 at *;obtain ⟨⟨na, ea⟩, hor⟩ : ∃ o, operR ((j : Int) + 1) (t.map Prod.fst) = o := ⟨_, rfl⟩;have HOR := Hd hor;rw [hor] at HOPS HCM;clear hor;go_wp2_with fail
        refine (HOPS.out).mono ?_;rintro e w3 ⟨rfl, rfl⟩
        by_cases hea : ea = 0
        ·subst hea
         by_cases hac : acc.length = 200
         ·have HFR : Hid (r = ([], (k : Int) + 1, 7)) := Hd (by rw [HS2.out, HCM.out, if_neg (by simp), if_pos hac]);go_wp2
          try rw [Exit.noGoto_ret]
          go_ret3
          obtain rfl := HFR.out;exact ⟨none, 0, ⟨rfl, World.ownsRow_nil _ _ _ _⟩, HO2.out⟩
         ·have HFR : Hid (r = scrGo (xs.drop (k + 1)) (k + 1) (acc ++ [⟨(k : Int) + 1, (j : Int) + 1, na⟩])) := Hd (by rw [HS2.out, HCM.out, if_neg (by simp), if_neg hac]);have hac2 : acc.length < 200 := by omega
          have hd20 : ((acc.length : Int) == 200) = false := by simp; omega
          have hgw : g ≤ wr.heap.size := by rw [hgg]; exact HOB2.out.size
          go_wp2_with (at_builtin; refine wpList_append_row _ rfl (.tmp 73) (.tmp 80) _ rfl g 40 i0 _ 3 24 Tryd.underlying23 hi hz0 hz1 hz2 rfl (by omega) _ _ _ rfl (own_only HV2.out ((Only.refl [] _).alloc _) (by simp)) (wr.heap.size + 1) (some ⟨wr.heap.size, 0, none⟩) 1 1 [.int .i64 ((k : Int) + 1), .int .i64 ((j : Int) + 1), .int .i64 na] rfl rfl (row_lit wr 40 #[.int .i64 ((k : Int) + 1), .int .i64 ((j : Int) + 1), .int .i64 na]) (by intro u hu; simp at hu; rcases hu with rfl | rfl | rfl <;> rfl) (by unfold maxLen; omega) (by omega) (by simp; omega) ?_; intro v8 w8 hown8 hgrow hat)
          have HV8 : Hid (w8.ownsRow g 40 3 v8 (acc ++ [(⟨(k : Int) + 1, (j : Int) + 1, na⟩ : Cmd)]).length (cmdC (acc ++ [(⟨(k : Int) + 1, (j : Int) + 1, na⟩ : Cmd)]))) := Hd (by
           have e1 : cmdC (acc ++ [⟨(k : Int) + 1, (j : Int) + 1, na⟩]) = cmdC acc ++ [.int .i64 ((k : Int) + 1), .int .i64 ((j : Int) + 1), .int .i64 na] := by
            unfold cmdC;rw [List.flatMap_append]
            rfl
           rw [e1, List.length_append];exact hown8)
          have HVa := own_only HV2.out ((Only.refl [] wr).alloc (.cells #[.int .i64 ((k : Int) + 1), .int .i64 ((j : Int) + 1), .int .i64 na] 40)) (by simp);have hw01 := HO1.out.size;have HO8 := Hd ((HO2.out.alloc (.cells #[.int .i64 ((k : Int) + 1), .int .i64 ((j : Int) + 1), .int .i64 na] 40)).step (only_grown hgrow) (fun i hi hl => own_new HVa (S := []) i hi (by omega)));have HOB8 := Hd ((HOB2.out.alloc (.cells #[.int .i64 ((k : Int) + 1), .int .i64 ((j : Int) + 1), .int .i64 na] 40)).step (only_grown hgrow) (fun i hi hl => own_new HVa (S := []) i hi (by omega)));exact ⟨⟨k + 1, _, by go_num, by omega, by simp; omega, HFR, HV8, HO8, HOB8⟩, by simp [intOf]; omega⟩
        ·have HFR : Hid (r = ([], (k : Int) + 1, ea)) := Hd (by rw [HS2.out, HCM.out, if_pos (by simpa using hea)]);go_wp2
         try rw [Exit.noGoto_ret]
         go_ret3
         obtain rfl := HFR.out;exact ⟨none, 0, ⟨rfl, World.ownsRow_nil _ _ _ _⟩, HO2.out⟩
       ·have HE : Hid (findB x0 kwL 0 = findB x0 (kwL.drop (j + 1)) (j + 1)) := Hd (by rw [hq.out, HD.out, if_neg e]);have hb : (y.toList == x0.toList) = false := bytes_off e;clear e HD;go_wp2
        go_roundw
        case rel => first | exact ⟨j + 1, rfl, by go_num, by omega, HE, rfl⟩ | exact ⟨j + 1, trivial, by go_num, by omega, HE, trivial⟩ | exact ⟨j + 1, rfl, by go_num, by omega, HE, trivial⟩
        case measure => simp [intOf]; omega
      ·obtain rfl : j = 10 := by omega
       have HFR : Hid (r = ([], (k : Int) + 1, 5)) := Hd (by
        have h1 : findB x0 kwL 0 = none := by rw [hq.out, List.drop_of_length_le (show kwL.length ≤ 10 from Nat.le_refl _)]; rfl
        have h2 : cmdR x0 (t.map Prod.fst) = (0, 0, 5) := by unfold cmdR; rw [h1]
        rw [HS2.out, h2, if_pos (by decide)])
       go_wp2
       try rw [Exit.noGoto_ret]
       go_ret3
       obtain rfl := HFR.out;exact ⟨none, 0, ⟨rfl, World.ownsRow_nil _ _ _ _⟩, HO2.out⟩
   ·obtain rfl : k = n := by omega
    have HFR : Hid (r = (acc, 0, 0)) := Hd (by rw [hR.out, List.drop_of_length_le (by rw [HN.out]; exact Nat.le_refl _)]; rfl);have hw01 := HO1.out.size;have HVE := Hd (own_lower hV.out (by rw [hgg]; exact hw01 : w.heap.size ≤ g));obtain ⟨A8, c8, rfl, h8c, h8m, -, -⟩ := own_row HVE.out;obtain rfl := HFR.out;clear hR hV;go_wp2
    try rw [Exit.noGoto_ret]
    go_ret3
    first | exact ⟨A8, c8, ⟨rfl, HVE.out⟩, hO.out⟩ | exact ⟨⟨A8, c8, rfl, HVE.out⟩, hO.out⟩
 ·have HFR : Hid (r = ([], (i : Int) + 1, 5)) := Hd (by
   rw [HR.out];unfold scrR;obtain ⟨hil, hix⟩ := List.getElem?_eq_some_iff.1 hx;have hfi : (linesOf (by_ s)).findIdx? (fun x => !validD x) = some i := by
    rw [List.findIdx?_eq_some_iff_getElem];refine ⟨hil, by rw [hix, hbad]; rfl, fun j hj => ?_⟩;have := hfirst j _ hj (List.getElem?_eq_getElem (by omega));rw [this]
    decide
   rw [if_neg (by omega), hfi])
  have HO1 := Hd O1;obtain rfl := HFR.out;clear hx hbad hfirst O1 HR HROWS;have h0i : (0 : Int) ≤ (i : Int) := Int.natCast_nonneg _;go_wp2
  try rw [Exit.noGoto_ret]
  go_ret3
  first | exact ⟨none, 0, ⟨rfl, World.ownsRow_nil _ _ _ _⟩, HO1.out⟩ | exact ⟨⟨none, 0, rfl, World.ownsRow_nil _ _ _ _⟩, HO1.out⟩
end Go.Proofs.YtojpohmijlkagaaDoor
