/- Parts. -/
import Derived.Test.YtojpohmijlkagaaDoorLaw43AllK34
import Derived.Test.YtojpohmijlkagaaDoorLaw43AllK37
import Derived.Test.YtojpohmijlkagaaDoorLaw43AllK39
set_option maxRecDepth 10000
set_option maxHeartbeats 16000000
set_option linter.unusedVariables false
set_option linter.unusedSimpArgs false
namespace Go.Proofs.YtojpohmijlkagaaDoor
open Go.RowKit
open Go.Lib hiding intOf
attribute [local go_sem ↓] Go.wp_at_zero Go.wp_at_succ
theorem cmdC_add (acc : List Cmd) (a b c : Int) : cmdC (acc ++ [⟨a, b, c⟩]) = cmdC acc ++ [.int .i64 a, .int .i64 b, .int .i64 c] := by
 unfold cmdC;rw [List.flatMap_append]
 rfl
set_option maxRecDepth 100000 in
theorem rsparse43_any (s : ByteArray) (w : World) (hs : s.size ≤ 65536) (hrow : ∀ x ∈ linesOf (by_ s), x.length ≤ 65535) :
  Calls Tryd.prog 8 #[.string s] w fun e w' => ∃ A c, (e = .returned (.tuple #[.slice A (scrR s).1.length c, .int .i64 (scrR s).2.1, .int .i64 (scrR s).2.2]) ∧ w'.ownsRow w.heap.size 42 3 (.slice A (scrR s).1.length c) (scrR s).1.length (cmdC (scrR s).1)) ∧ Only [] w w' := by
 obtain ⟨i0, hi, hz0, hz1, hz2⟩ := info_parts info_rline43;have HOF := Hd (rof_any s w hs);have HWD := Hd (fun (x : ByteArray) w' (h : x.size ≤ 65535) => rwords_any x w' h);have HON := Hd (fun A n c B x0 q0 t w' hg hn hM hs => rone43_any A n c B x0 q0 t w' hg hn hM hs);obtain ⟨r, hr⟩ : ∃ r, r = scrR s := ⟨_, rfl⟩;rw [← hr];have HR := Hd hr;have HROWS := Hd hrow;have hln := cutL_len (by_ s) [];rw [by_length] at hln;clear hr hrow;go_enter Tryd.func8, Tryd.ntmps8;go_wp2_with fail
 refine (HOF.out).mono ?_;rintro e w1 ⟨O1, ⟨hval, V0, xs, rfl, hown0, hxs⟩ | ⟨i, x, hx, hbad, hfirst, rfl⟩⟩
 ·have hidx : (linesOf (by_ s)).findIdx? (fun x => !validD x) = none := by
   rw [List.findIdx?_eq_none_iff];intro x hx;rw [hval x hx]
   rfl
  have hr : r = scrGo xs 0 [] := by
   rw [HR.out];unfold scrR;rw [if_neg (by omega), hidx, linesB_eq hxs]
  have HXS : Hid (∀ x ∈ xs, x.size ≤ 65535 ∧ badL (by_ x) = false) := Hd (fun x hx => by
   have hm : by_ x ∈ linesOf (by_ s) := by rw [← hxs]; exact List.mem_map_of_mem hx
   have h1 := HROWS.out (by_ x) hm;rw [by_length] at h1;refine ⟨h1, ?_⟩;unfold badL;rw [hval _ hm];have h2 := lines_no10 (by_ s) [] (by simp) (by_ x) hm
   simpa using h2)
  have hnl : xs.length ≤ 65537 := by
   have := congrArg List.length hxs;rw [List.length_map] at this;unfold linesOf at this;omega
  obtain ⟨A0, c0, rfl, -, -, -, hrow0⟩ := own_row hown0;generalize hn : xs.length = n at *;have HN := Hd hn;have HRR := Hd hr;have HO1 := Hd O1;have HROW := Hd hrow0;clear hval hown0 hxs hidx HR HROWS hn hr O1 hrow0 hln HOF;go_wp2_with fail
  go_loopw [8, 9] (fun V iv wr => ∃ (k : Nat) (acc : List Cmd), iv = .int .i64 k ∧ k ≤ n ∧ acc.length ≤ 200 ∧ Hid (r = scrGo (xs.drop k) k acc) ∧ Hid (wr.ownsRow w1.heap.size 42 3 V acc.length (cmdC acc)) ∧ Hid (Only [] w1 wr)) (fun _ iv _ => n - (intOf iv).toNat)
  case atStart => exact ⟨0, [], rfl, by omega, by simp, HRR, Hd (World.ownsRow_lit w1 #[] 0 (Nat.le_refl _) (by unfold maxLen; omega) rfl), Hd ((Only.refl [] w1).alloc _)⟩
  case round =>
   obtain ⟨k, acc, rfl, hk, hacc, hR, HOWN, HO⟩ := hrel;obtain ⟨A, c, rfl, -, -, -, -⟩ := own_row HOWN.out
   by_cases hlt : k < n
   ·have h01 : (k : Int) < (n : Int) := by omega
    have hk0 : (0 : Int) ≤ (k : Int) := Int.natCast_nonneg _;have hwk : IntKind.i64.wrap ((k : Int) + 1) = (k : Int) + 1 := IntWalk.i64_in _ (by omega);obtain ⟨b, off, rfl, hbB, hbw, hcell⟩ := HROW.out.open_ (k := k) (by rw [strs, List.length_map, HN.out]; exact hlt);obtain ⟨x, hx⟩ : ∃ x, xs[k]? = some x := ⟨_, List.getElem?_eq_getElem (by rw [HN.out]; exact hlt)⟩;have hck : wr.cell? ⟨b, off + k, none⟩ = some (.string x) := (HO.out.cell (p := ⟨b, off + k, none⟩) hbw (by simp)).trans (hcell k _ (by rw [strs, List.getElem?_map, hx]; rfl));have hbr : b < wr.heap.size := Nat.lt_of_lt_of_le hbw HO.out.size;have hxx := HXS.out x (List.mem_of_getElem? hx);have HST := Hd (hR.out.trans (scrGo_step hx acc));have HW := Hd (HWD.out x wr hxx.1);have HBD := Hd hxx.2;have HXZ := Hd hxx.1;clear hcell hx hxx hR;go_wp2_with fail
    refine (HW.out).mono ?_;rintro e w2 ⟨O2, ⟨hbb, -⟩ | ⟨-, Vw, rfl, hVw⟩⟩
    ·exact absurd (hbb.symm.trans HBD.out) (by decide)
    obtain ⟨Aw, cw, rfl, hcw, -, -, -⟩ := own_row hVw;rw [pairs_cells, ← pairs_len] at hVw;rw [← pairs_len] at hcw;rw [← pairs_len];rw [← pairs_texts] at HST;have HPS : Hid (∀ y ∈ pairsW x, y.1.size ≤ 65537) := Hd (fun y hy => by
     have h1 : y.1 ∈ textsOf x := by rw [← pairs_texts]; exact List.mem_map_of_mem hy
     unfold textsOf at h1;obtain ⟨p, -, e1⟩ := List.mem_map.1 h1;rw [← e1, ByteArray.size_extract];have := HXZ.out;omega)
    have hpl : (pairsW x).length ≤ 70000 := by
     rw [pairs_len];have h1 := spans_len (codeL (by_ x)) 0 none;have h2 := ahead_len (by_ x);rw [code_len] at h1;rw [by_length] at h2;have := HXZ.out;unfold wordsOf;omega
    generalize pairsW x = ps at *;have HV2 := Hd (own_only HOWN.out O2 (by simp));have HO2 := Hd (HO.out.trans O2);have HVW := Hd hVw;clear O2 HOWN HO hVw hck HW HBD HXZ
    match ps, hpl, hcw, HST, HPS, HVW with
    | [], hpl, hcw, HST, HPS, HVW =>
     have HS1 : Hid (r = scrGo (xs.drop (k + 1)) (k + 1) acc) := HST;clear HST HPS HVW;go_wp2
     go_roundw
     case rel => exact ⟨k + 1, acc, by go_num, by omega, hacc, HS1, HV2, HO2⟩
     case measure => simp [intOf]; omega
    | (x0, q0) :: t, hpl, hcw, HST, HPS, HVW =>
     obtain ⟨A3, c3, e3, hc3, -, -, hrw⟩ := own_row HVW.out;obtain ⟨rfl, -, rfl⟩ : Aw = A3 ∧ True ∧ cw = c3 := by injection e3 with e1 e2 e4; exact ⟨e1, trivial, e4⟩
     have HS2 : Hid (r = if (cmdR x0 (t.map Prod.fst)).2.2 ≠ 0 then ([], (k : Int) + 1, (cmdR x0 (t.map Prod.fst)).2.2) else if acc.length = 200 then ([], (k : Int) + 1, 7) else scrGo (xs.drop (k + 1)) (k + 1) (acc ++ [⟨(k : Int) + 1, (cmdR x0 (t.map Prod.fst)).1, (cmdR x0 (t.map Prod.fst)).2.1⟩])) := HST;have hl1 : ((x0, q0) :: t).length = t.length + 1 := rfl;rw [hl1] at hpl hcw ⊢;have HO1w := Hd (HON.out Aw (t.length + 1) cw w2.heap.size x0 q0 t w2 hrw rfl (by omega) (fun y hy => HPS.out y (List.mem_cons_of_mem _ hy)));obtain ⟨⟨ck, cn, ce⟩, hcr⟩ : ∃ r, cmdR x0 (t.map Prod.fst) = r := ⟨_, rfl⟩;rw [hcr] at HS2 HO1w;have hz : ((t.length + 1 : Nat) : Int) ≠ 0 := by omega
     have hz3 : (((t.length + 1 : Nat) : Int) == 0) = false := by simp; omega
     dsimp only at HS2 HO1w;clear HST HVW hrw hc3 e3 hcr HPS;go_wp2_with fail
     refine (HO1w.out).mono ?_;rintro e w3 ⟨kd, nn, ⟨rfl, hkn⟩, O3⟩;have HKN := Hd hkn;have HV3 := Hd (own_only HV2.out O3 (by simp));have HO3 := Hd (HO2.out.trans O3);clear O3 HV2 HO2 HO1w hkn
     by_cases hea : ce = 0
     ·subst hea;obtain ⟨rfl, rfl⟩ := HKN.out rfl;generalize hm : acc.length = m at *
      by_cases hac : m = 200
      ·subst hac;have HFR : Hid (r = ([], (k : Int) + 1, 7)) := Hd (by rw [HS2.out, if_neg (by simp), if_pos rfl]);have HO4 := Hd ((HO1.out.trans HO3.out).alloc (.cells #[.int .i64 0, .int .i64 kd, .int .i64 nn] 42));go_wp2
       go_ret3
       obtain rfl := HFR.out;exact ⟨none, 0, ⟨rfl, World.ownsRow_nil _ _ _ _⟩, HO4.out⟩
      ·have HFR : Hid (r = scrGo (xs.drop (k + 1)) (k + 1) (acc ++ [⟨(k : Int) + 1, kd, nn⟩])) := Hd (by rw [HS2.out, if_neg (by simp), if_neg hac]);have hd20 : ((m : Int) == 200) = false := by simp; omega
       have hlen : (acc ++ [(⟨(k : Int) + 1, kd, nn⟩ : Cmd)]).length = m + 1 := by rw [List.length_append, hm]; rfl
       clear HS2 HKN;go_upto_region 11 with (fail)
       have HB := Hd (Blk.made w3 42 #[.int .i64 0, .int .i64 kd, .int .i64 nn]);have O4 : Only [] w3 (w3.alloc (.cells #[.int .i64 0, .int .i64 kd, .int .i64 nn] 42)) := (Only.refl [] w3).alloc _;have HV4 := Hd (own_only HV3.out O4 (by simp));have HO4 := Hd (HO3.out.trans O4);have hgx : w1.heap.size ≤ w3.heap.size := HO3.out.size;have HNB : Hid (∀ g, (Value.slice A m c).ownBlock = some g → g ≠ w3.heap.size) := Hd (fun g hg e => by have := (own_lt HV3.out (g := g) (by rw [hg]; simp)); omega);clear O4 HV3 HO3;generalize (w3.alloc (.cells #[.int .i64 0, .int .i64 kd, .int .i64 nn] 42)) = w4 at *;generalize w3.heap.size = gx at *;have lB := HB.out.lt;have y0 := HB.out.at_ 0;have y1 := HB.out.at_ 1;have y2 := HB.out.at_ 2;have f0 := HB.out.free 0;simp at y0 y1 y2;go_upto_region 16 with (fail)
       have HB5 := Hd (HB.out.put 0 (.int .i64 ((k : Int) + 1)));have O5 : Only [gx] w4 (w4.setCell ⟨gx, 0, none⟩ (.int .i64 ((k : Int) + 1))) := (Only.refl [gx] w4).put (fun _ => by simp) _;have HV5 := Hd (own_only HV4.out O5 (fun g hg hm => HNB.out g hg (by simpa using hm)));have HO5 := Hd (HO4.out.step O5 (fun i hi hl => by simp at hi; omega));clear y0 y1 y2 f0 lB HB HV4 HO4 O5;generalize (w4.setCell ⟨gx, 0, none⟩ (.int .i64 ((k : Int) + 1))) = w5 at *;have lB := HB5.out.lt;have y0 := HB5.out.at_ 0;have y1 := HB5.out.at_ 1;have y2 := HB5.out.at_ 2;simp at y0 y1 y2;have hsz5 := HO5.out.size;go_wp2_with (
        at_builtin
        refine wpList_append_row _ rfl (.tmp 60) (.tmp 62) _ rfl w1.heap.size 42 i0 _ 3 24 Tryd.underlying27 hi hz0 hz1 hz2 rfl (by omega) _ m (cmdC acc) (by rfl) (own_only HV5.out ((Only.refl [] w5).alloc _) (by simp)) (w5.heap.size + 1) (some ⟨w5.heap.size, 0, none⟩) 1 1 [.int .i64 ((k : Int) + 1), .int .i64 kd, .int .i64 nn] (by rfl) (by rfl) (row_lit w5 42 #[.int .i64 ((k : Int) + 1), .int .i64 kd, .int .i64 nn]) (by intro u hu; simp at hu; rcases hu with rfl | rfl | rfl <;> rfl) (by unfold maxLen; omega) (by omega) (by simp; omega) ?_;intro v6 w6 hown6 hgrow6 hat6;have HO6 := Hd ((HO5.out.alloc (.cells #[.int .i64 ((k : Int) + 1), .int .i64 kd, .int .i64 nn] 42)).step (only_grown hgrow6) (own_new HV5.out));have HV6 := Hd hown6;clear hown6 hgrow6 hat6)
       have HV7 : Hid (w6.ownsRow w1.heap.size 42 3 v6 (acc ++ [(⟨(k : Int) + 1, kd, nn⟩ : Cmd)]).length (cmdC (acc ++ [(⟨(k : Int) + 1, kd, nn⟩ : Cmd)]))) := Hd (by rw [hlen, cmdC_add]; exact HV6.out);clear HV6 HV5 HO5;go_wp2
       go_roundw
       case rel => exact ⟨k + 1, acc ++ [⟨(k : Int) + 1, kd, nn⟩], by go_num, by omega, by rw [hlen]; omega, HFR, HV7, HO6⟩
       case measure => simp [intOf]; omega
     ·have HFR : Hid (r = ([], (k : Int) + 1, ce)) := Hd (by rw [HS2.out, if_pos (by simpa using hea)]);have hne : (ce != 0) = true := by simpa using hea
      have HO4 := Hd ((HO1.out.trans HO3.out).alloc (.cells #[.int .i64 0, .int .i64 kd, .int .i64 nn] 42));clear HS2 HKN;go_wp2
      go_ret3
      obtain rfl := HFR.out;exact ⟨none, 0, ⟨rfl, World.ownsRow_nil _ _ _ _⟩, HO4.out⟩
   ·obtain rfl : k = n := by omega
    have hd : decide ((k : Int) < (k : Int)) = false := by simp
    have HFR : Hid (r = (acc, 0, 0)) := Hd (by rw [hR.out, List.drop_of_length_le (by rw [HN.out]; exact Nat.le_refl _)]; rfl);have HVE := Hd (own_lower HOWN.out HO1.out.size);obtain ⟨A8, c8, e8, h8c, h8m, -, -⟩ := own_row HVE.out;injection e8 with e81 e82 e83;subst e81 e83;obtain rfl := HFR.out;clear hR HOWN e82;go_wp2
    go_ret3
    first | exact ⟨A, c, ⟨rfl, HVE.out⟩, HO1.out.trans HO.out⟩ | exact ⟨⟨A, c, rfl, HVE.out⟩, HO1.out.trans HO.out⟩ | exact ⟨_, _, ⟨rfl, HVE.out⟩, HO1.out.trans HO.out⟩
 ·have HFR : Hid (r = ([], (i : Int) + 1, 5)) := Hd (by
   rw [HR.out];unfold scrR;obtain ⟨hil, hix⟩ := List.getElem?_eq_some_iff.1 hx;have hfi : (linesOf (by_ s)).findIdx? (fun x => !validD x) = some i := by
    rw [List.findIdx?_eq_some_iff_getElem];refine ⟨hil, by rw [hix, hbad]; rfl, fun j hj => ?_⟩;have := hfirst j _ hj (List.getElem?_eq_getElem (by omega));rw [this]
    decide
   rw [if_neg (by omega), hfi])
  have HO1 := Hd O1;obtain rfl := HFR.out;clear hx hbad hfirst O1 HR HROWS;go_wp2
  go_ret3
  first | exact ⟨none, 0, ⟨rfl, World.ownsRow_nil _ _ _ _⟩, HO1.out⟩ | exact ⟨⟨none, 0, rfl, World.ownsRow_nil _ _ _ _⟩, HO1.out⟩
end Go.Proofs.YtojpohmijlkagaaDoor
