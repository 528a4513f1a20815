/- Parts. -/
import Derived.Test.YtlemjgjpglmphaaDoorPartOfCardK45
set_option maxRecDepth 10000
set_option maxHeartbeats 16000000
set_option linter.unusedVariables false
set_option linter.unusedSimpArgs false
namespace Go.Proofs.YtlemjgjpglmphaaDoor
open Go.RowKit
attribute [local go_sem ↓] Go.wp_at_zero Go.wp_at_succ
def partT (n : Nat) (l : List (Int × Int)) (a b : Nat) : List Int := ((List.range b).filter (simB n l a)).map fun b : Nat => (b : Int)
theorem partT_all (n : Nat) (l : List (Int × Int)) (a : Nat) : partT n l a n = partL n l a := rfl
theorem partT_succ (n : Nat) (l : List (Int × Int)) (a b : Nat) : partT n l a (b + 1) = partT n l a b ++ if simB n l a b = true then [(b : Int)] else [] := by
 unfold partT;rw [List.range_succ, List.filter_append, List.map_append]
 congr 1
 cases h : simB n l a b <;> simp [h]
theorem partT_len (n : Nat) (l : List (Int × Int)) (a b : Nat) : (partT n l a b).length ≤ b := by
 unfold partT;rw [List.length_map];exact Nat.le_trans (List.length_filter_le _ _) (by simp)
structure RMk (n : Nat) (l : List (Int × Int)) (a b : Nat) (K : List Int) : Prop where
 is : ∀ z : Nat, z < n → ((z : Int) ∈ K ↔ (∃ c, c < a ∧ simB n l c z = true) ∨ (z < b ∧ simB n l a z = true))
section
variable {n a b : Nat} {l : List (Int × Int)} {K : List Int}
theorem RMk.start : RMk n l 0 0 [] := ⟨fun z _ => by simp⟩
theorem lead_no : leadB n l a = false ↔ ∃ c, c < a ∧ simB n l c a = true := by
 unfold leadB;rw [List.all_eq_false]
 constructor
 ·rintro ⟨c, hc, h⟩;exact ⟨c, List.mem_range.1 hc, by simpa using h⟩
 ·rintro ⟨c, hc, h⟩;exact ⟨c, List.mem_range.2 hc, by simp [h]⟩
theorem RMk.at_ (h : RMk n l a 0 K) (ha : a < n) : (a : Int) ∈ K ↔ leadB n l a = false := by
 rw [h.is a ha, lead_no];simp
theorem RMk.skip (w : WfE n l) (h : RMk n l a 0 K) (hl : leadB n l a = false) : RMk n l (a + 1) 0 K := ⟨fun z hz => by
 obtain ⟨c, hc, hs⟩ := lead_no.1 hl;rw [h.is z hz]
 constructor
 ·rintro (⟨d, hd, h1⟩ | ⟨h1, _⟩)
  ·exact .inl ⟨d, by omega, h1⟩
  ·omega
 ·rintro (⟨d, hd, h1⟩ | ⟨h1, _⟩)
  ·rcases Nat.lt_or_ge d a with h2 | h2
   ·exact .inl ⟨d, h2, h1⟩
   ·obtain rfl : d = a := by omega
    exact .inl ⟨c, hc, sim_trans w hs h1⟩
  ·omega⟩
theorem RMk.no (h : RMk n l a b K) (hs : simB n l a b = false) : RMk n l a (b + 1) K := ⟨fun z hz => by
 rw [h.is z hz]
 constructor
 ·rintro (h1 | ⟨h1, h2⟩)
  ·exact .inl h1
  ·exact .inr ⟨by omega, h2⟩
 ·rintro (h1 | ⟨h1, h2⟩)
  ·exact .inl h1
  ·refine .inr ⟨?_, h2⟩;rcases Nat.lt_or_ge z b with h3 | h3
   ·exact h3
   ·obtain rfl : z = b := by omega
    rw [hs] at h2
    cases h2⟩
theorem RMk.yes (h : RMk n l a b K) (hb : b < n) (hs : simB n l a b = true) : RMk n l a (b + 1) (K ++ [(b : Int)]) := ⟨fun z hz => by
 rw [List.mem_append, h.is z hz, List.mem_singleton]
 constructor
 ·rintro ((h1 | ⟨h1, h2⟩) | h1)
  ·exact .inl h1
  ·exact .inr ⟨by omega, h2⟩
  ·obtain rfl : z = b := by omega
   exact .inr ⟨by omega, hs⟩
 ·rintro (h1 | ⟨h1, h2⟩)
  ·exact .inl (.inl h1)
  ·rcases Nat.lt_or_ge z b with h3 | h3
   ·exact .inl (.inr ⟨h3, h2⟩)
   ·exact .inr (by omega)⟩
theorem RMk.next (h : RMk n l a n K) : RMk n l (a + 1) 0 K := ⟨fun z hz => by
 rw [h.is z hz]
 constructor
 ·rintro (⟨c, hc, h1⟩ | ⟨_, h2⟩)
  ·exact .inl ⟨c, by omega, h1⟩
  ·exact .inl ⟨a, by omega, h2⟩
 ·rintro (⟨c, hc, h1⟩ | ⟨h1, _⟩)
  ·rcases Nat.lt_or_ge c a with h2 | h2
   ·exact .inl ⟨c, h2, h1⟩
   ·obtain rfl : c = a := by omega
    exact .inr ⟨hz, h1⟩
  ·omega⟩
end
theorem info_rowR : (Tryd.prog.info? 29).map (fun i => (i.zero, i.size, i.bytes)) = some (some (.slice none 0 0), 1, 24) := by kernel_rfl
theorem rparts_any (n : Nat) (A : Option Addr) (m c B : Nat) (l : List (Int × Int)) (w : World) (hr : Row w B A (edgeC l)) (hl : l.length = m) (hm : m ≤ 100000) (hn : n ≤ 500) (wf : WfE n l) :
  Calls Tryd.prog 12 #[.int .i64 (n : Int), .slice A m c] w fun e w' => ∃ (qs : List LP) (A' : Option Addr) (c' : Nat), (e = .returned (.slice A' qs.length c') ∧ w'.ownsRow w.heap.size 29 1 (.slice A' qs.length c') qs.length (qs.map LP.v) ∧ (∀ x ∈ qs, x.Ok w' w.heap.size) ∧ qs.map LP.L = partsL n l) ∧ Only [] w w' := by
 obtain ⟨i0, hi, hz0, hz1, hz2⟩ := info_parts info_int;obtain ⟨i1, hi1, hy0, hy1, hy2⟩ := info_parts info_rowR;have HFR := Hd (fun (a : Nat) W (O : Only [] w W) => rfrom_any n a A m c B l W (hr.only O (by simp)) hl hm hn wf);have HWF := Hd wf;have hmk := fun W => make_marks n hn W;clear hr hl wf;go_enter Tryd.func12, Tryd.ntmps12;go_upto_region 1 with (fail)
 rename World => wa
 refine rg1 [] [] wa ?_;have OW : Only [] wa wa.drew := (Only.refl [] wa).drew;generalize hwz : wa.drew = wz at *;clear hwz;refine tQ 1 (h := ?_)
 apply cut_2_0 (fun w g0 gm => (Only [] wa w) ∧ (w.ownsRow wa.heap.size 29 1 (.slice (some ⟨g0, 0, none⟩) 0 0) 0 []) ∧ (Blk w gm 4 (markC n [])) ∧ (wa.heap.size ≤ gm))
 intro HST0_2
 apply cut_1_0 (fun w gm => (Only [] wa w) ∧ (Blk w gm 4 (markC n [])) ∧ (wa.heap.size ≤ gm))
 intro HST2
 apply cut_1_0 (fun w g0 => (Only [] wa w) ∧ (w.ownsRow wa.heap.size 29 1 (.slice (some ⟨g0, 0, none⟩) 0 0) 0 []))
 intro HST0
 ·refine timed_forks (l := [0, 2]) (by kernel_rfl) (by simp) (fork_cons ⟨_, rfl, fun K hK => ?_⟩ (fork_cons ⟨_, rfl, fun K hK => ?_⟩ (fork_nil)))
  ·go_simp;obtain ⟨OS, OWn, OLn⟩ := lit_go 29 1 OW;generalize wz.alloc (.cells #[] 29) = wn at *;generalize wz.heap.size = g0 at *;refine kOut hK (OWn) (h := ?_);clear hK K;refine tQ 3 (h := ?_);exact HST0 wn g0 ⟨OWn, OLn⟩
  ·go_simp;obtain ⟨OS, OWn, BLn, hszn⟩ := made_go 4 (markC n []) OW;generalize wz.alloc (.cells (markC n []) 4) = wn at *;generalize wz.heap.size = gm at *;refine kOut hK (OWn) (h := ?_);clear hK K;exact HST2 wn gm ⟨OWn, BLn, hszn⟩
 ·intro wz g0 ⟨OW, OL0⟩;refine tst (i := 2) fun K hK => ?_;go_simp;obtain ⟨OS, OWn, BLn, hszn⟩ := made_go 4 (markC n []) OW;generalize wz.alloc (.cells (markC n []) 4) = wn at *;generalize wz.heap.size = gm at *;refine kOut hK (OWn) (h := ?_);clear hK K;refine tQ 4 (h := ?_);exact HST0_2 wn g0 gm ⟨OWn, own_only OL0 OS (by simp), BLn, hszn⟩
 ·intro wz gm ⟨OW, BL2, GE2⟩;refine tst (i := 0) fun K hK => ?_;go_simp;obtain ⟨OS, OWn, OLn⟩ := lit_go 29 1 OW;generalize wz.alloc (.cells #[] 29) = wn at *;generalize wz.heap.size = g0 at *;refine kOut hK (OWn) (h := ?_);clear hK K;refine tQ 3 (h := tQ 4 (h := ?_));exact HST0_2 wn g0 gm ⟨OWn, OLn, OS.blk BL2 (by simp), GE2⟩
 -- behind all of the crowd
 intro wz g0 gm ⟨OW, OL0, BL2, GE2⟩;refine tdn ?_;have HO0 := Hd OW;have HQ0 := Hd OL0;have HM0 := Hd BL2;have hgm : wa.heap.size ≤ gm := GE2;clear OW OL0 BL2 GE2 hmk;go_wp2_with fail
 go_loopw [5, 7] (fun ov av wr => ∃ (a : Nat) (qs : List LP) (A' : Option Addr) (c' : Nat) (K : List Int), ov = .slice A' qs.length c' ∧ av = .int .i64 a ∧ a ≤ n ∧ qs.length ≤ a ∧ Hid (wr.ownsRow wa.heap.size 29 1 (.slice A' qs.length c') qs.length (qs.map LP.v)) ∧ Hid (∀ x ∈ qs, x.Ok wr wa.heap.size) ∧ Hid (qs.map LP.L = ((List.range a).filter (leadB n l)).map (partL n l)) ∧ Hid (Blk wr gm 4 (markC n K)) ∧ Hid (RMk n l a 0 K) ∧ Hid (Only [] wa wr)) (fun _ av _ => n - (intOf av).toNat)
 case atStart => exact ⟨0, [], some ⟨g0, 0, none⟩, 0, [], rfl, rfl, by omega, by simp, HQ0, Hd (by simp), Hd rfl, HM0, Hd .start, HO0⟩
 case round =>
  obtain ⟨a, qs, Ao, co, K, rfl, rfl, han, hqa, hQ, hX, hL, hB, hK, hO⟩ := hrel;clear HQ0 HM0 HO0
  by_cases hlt : a < n
  ·have h01 : (a : Int) < (n : Int) := by omega
   have ha0 : (0 : Int) ≤ (a : Int) := Int.natCast_nonneg _;have hwa : IntKind.i64.wrap ((a : Int) + 1) = (a : Int) + 1 := IntWalk.i64_in _ (by omega);have e4 := (hB.out.at_ a).trans (markC_at n K a hlt);have hbl := hB.out.lt;have hat := hK.out.at_ hlt
   cases hld : leadB n l a with
   | false =>
    rw [decide_eq_true (hat.2 hld)] at e4;have HKS := Hd (hK.out.skip HWF.out hld);have HLS : Hid (qs.map LP.L = ((List.range (a + 1)).filter (leadB n l)).map (partL n l)) := Hd (by rw [hL.out, List.range_succ, List.filter_append]; simp [hld]);clear hat hld;go_wp2
    go_roundw
    case rel => first | exact ⟨a + 1, qs, Ao, co, K, rfl, by go_num, by omega, by omega, hQ, hX, HLS, hB, HKS, hO⟩ | exact ⟨_, _, ⟨a + 1, qs, Ao, co, K, rfl, by go_num, by omega, by omega, hQ, hX, HLS, hB, HKS, hO⟩, rfl, rfl⟩
    case measure => simp [intOf]; omega
   | true =>
    have hnk : ¬ (a : Int) ∈ K := fun h => by have := hat.1 h; rw [hld] at this; cases this
    rw [decide_eq_false hnk] at e4;have HLS : Hid ((qs.map LP.L) ++ [partL n l a] = ((List.range (a + 1)).filter (leadB n l)).map (partL n l)) := Hd (by rw [hL.out, List.range_succ, List.filter_append]; simp [hld]);have hazw : wa.heap.size ≤ wr.heap.size := hO.out.size;have HXB : Hid (∀ x ∈ qs, x.b < wr.heap.size) := Hd (fun x hx => ((hX.out x hx).head).2.1);have hgz : gm < wr.heap.size := hbl;have OA : Only [] wr (wr.alloc (.cells #[] 3)) := (Only.refl [] wr).alloc _;have HP1 : Hid ((wr.alloc (.cells #[] 3)).ownsRow wr.heap.size 3 1 (.slice (some ⟨wr.heap.size, 0, none⟩) (partT n l a 0).length 0) (partT n l a 0).length ((partT n l a 0).map (Value.int .i64))) := Hd ⟨rfl, .inr ⟨wr.heap.size, 0, #[], rfl, Nat.le_refl _, Array.getElem?_push_size, Nat.le_refl _, by decide, rfl, rfl⟩⟩;have HO1 := Hd (hO.out.trans OA);have HQ1 := Hd (own_only hQ.out OA (by simp));have HX1 := Hd (fun x hx => (hX.out x hx).only OA (by simp));have HB1 := Hd (OA.blk hB.out (by simp));have HC := Hd (HFR.out a _ HO1.out);have hzA : (wr.alloc (.cells #[] 3)).heap.size = wr.heap.size + 1 := by simp
    have HKA := hK;clear hat hld hnk OA hQ hX hL hB hO hK;go_wp2_with fail
    refine (HC.out).mono ?_;rintro e w2 ⟨Af, cf, ⟨rfl, hv⟩, O2⟩;have HF2 := Hd hv;have HP2 := Hd (own_only HP1.out O2 (by simp));have HAP2 : Hid (∀ g ∈ (Value.slice (some ⟨wr.heap.size, 0, none⟩) (partT n l a 0).length 0).ownBlock.toList, g ∉ (Value.slice Af (reachL n l a).length cf).ownBlock.toList) := Hd (fun g hg hm => by
     have h1 := (hv.lt g (by simpa using hm)).1;simp [Value.ownBlock] at hg;omega)
    have HO2 := Hd (HO1.out.trans O2);have HQ2 := Hd (own_only HQ1.out O2 (by simp));have HX2 := Hd (fun x hx => (HX1.out x hx).only O2 (by simp));have HB2 := Hd (O2.blk HB1.out (by simp));have HZ2 : Hid (wr.heap.size ≤ w2.heap.size) := Hd (by have := O2.size; omega);have hfl : (reachL n l a).length ≤ n := by unfold reachL; rw [List.length_map]; exact Nat.le_trans (List.length_filter_le _ _) (by simp)
    rw [hzA] at HF2;clear hv O2 HP1 HO1 HQ1 HX1 HB1 HC hzA e4 hbl;go_wp2_with fail
    generalize wr.heap.size = zw at *
    go_loopw [8, 10] (fun pv bv wr => ∃ (b : Nat) (A' : Option Addr) (c' : Nat) (K' : List Int), pv = .slice A' (partT n l a b).length c' ∧ bv = .int .i64 b ∧ b ≤ n ∧ Hid (wr.ownsRow zw 3 1 (.slice A' (partT n l a b).length c') (partT n l a b).length ((partT n l a b).map (Value.int .i64))) ∧ Hid (∀ g ∈ (Value.slice A' (partT n l a b).length c').ownBlock.toList, g ∉ (Value.slice Af (reachL n l a).length cf).ownBlock.toList) ∧ Hid (wr.ownsRow wa.heap.size 29 1 (.slice Ao qs.length co) qs.length (qs.map LP.v)) ∧ Hid (∀ x ∈ qs, x.Ok wr wa.heap.size) ∧ Hid (Blk wr gm 4 (markC n K')) ∧ Hid (RMk n l a b K') ∧ Hid (wr.ownsRow (zw + 1) 3 1 (.slice Af (reachL n l a).length cf) (reachL n l a).length ((reachL n l a).map (Value.int .i64))) ∧ Hid (zw ≤ wr.heap.size) ∧ Hid (Only [] wa wr)) (fun _ bv _ => n - (intOf bv).toNat)
    case atStart => exact ⟨0, some ⟨zw, 0, none⟩, 0, K, rfl, rfl, by omega, HP2, HAP2, HQ2, HX2, HB2, HKA, HF2, HZ2, HO2⟩
    case round =>
     obtain ⟨b, A', c', K', rfl, rfl, hbn', HP4, HAP4, HQ4, HX4, HB4, hK, HF4, HZ4, HO4⟩ := hrel;clear HP2 HAP2 HQ2 HX2 HB2 HKA HF2 HZ2 HO2
     by_cases hbn : b < n
     ·have h02 : (b : Int) < (n : Int) := by omega
      have hb0 : (0 : Int) ≤ (b : Int) := Int.natCast_nonneg _;have hwb : IntKind.i64.wrap ((b : Int) + 1) = (b : Int) + 1 := IntWalk.i64_in _ (by omega);have HPT := Hd (partT_succ n l a b);have hpl := partT_len n l a b
      by_cases hba : b = a
      ·subst hba;have hsb : simB n l b b = true := sim_refl b;have HPT : Hid (partT n l b (b + 1) = partT n l b b ++ [(b : Int)]) := Hd (by rw [HPT.out, if_pos hsb]);have hz4 := HZ4.out;go_wp2_with (
        at_builtin
        refine wpList_append_row _ rfl (.tmp 49) (.tmp 51) 29 rfl zw 3 i0 _ 1 8 Tryd.underlying29 hi hz0 hz1 hz2 rfl (by omega) _ _ _ (by rfl) (own_only HP4.out ((Only.refl [] wr).alloc (.cells #[.int .i64 (b : Int)] 3)) (fun _ _ => by simp)) _ _ 1 1 [.int .i64 (b : Int)] (by rfl) (by rfl) (row_lit _ _ _) (by intro u hu; simp at hu; rcases hu with rfl; rfl) (by unfold maxLen; omega) (by omega) (by simp; omega) ?_;intro v' w7 hown hgrow hat;have OA := (Only.refl [] wr).alloc (.cells #[.int .i64 (b : Int)] 3);have OV := only_grown hgrow;have hPA := own_only HP4.out OA (fun _ _ => by simp);have hFA := own_only HF4.out OA (fun _ _ => by simp);obtain ⟨A7, c7, rfl, -, -, -, -⟩ := own_row hown;have HP7 := Hd hown;have HAP7 : Hid (∀ g ∈ (Value.slice A7 ((partT n l b b).length + 1) c7).ownBlock.toList, g ∉ (Value.slice Af (reachL n l b).length cf).ownBlock.toList) := Hd (fun g hg hm => by
         rcases hat with h | h
         ·have e : (Value.slice A7 ((partT n l b b).length + 1) c7).ownBlock = _ := h;rw [e] at hg; exact HAP4.out g hg hm
         ·have e : (Value.slice A7 ((partT n l b b).length + 1) c7).ownBlock = _ := h;rw [e] at hg;simp at hg;have := own_lt hFA hm;simp at this;omega)
        have HQ7 := Hd (own_only (own_only HQ4.out OA (by simp)) OV (fun g hg hm => own_own (own_only HQ4.out OA (by simp)) hPA (by decide) g hg hm));have HX7 := Hd (fun x hx => ((HX4.out x hx).only OA (by simp)).only OV (fun hm => by have h1 := (hPA.lt x.b (by simpa using hm)).1; have h2 := HXB.out x hx; omega));have HB7 := Hd (OV.blk (OA.blk HB4.out (by simp)) (own_apart hPA (OA.blk HB4.out (by simp)) (by decide)));have HF7 := Hd (own_only hFA OV (fun g hg hm => HAP4.out g hm (by rw [hg]; simp)));have HO7 := Hd ((HO4.out.step OA (by simp)).step OV (fun i hi hl => by have := (hPA.lt i (by simpa using hi)).1; omega));have HZ7 := Hd (Nat.le_trans hz4 (Nat.le_trans OA.size OV.size));have d0 := (HB7.out.at_ b).trans (markC_at n K' b hbn);have d1 := HB7.out.free b;have d2 := HB7.out.lt;clear hown hgrow hat OA OV hPA hFA)
       have OM : Only [gm] w7 (w7.setCell ⟨gm, b, none⟩ (.bool true)) := (Only.refl [gm] w7).put (p := ⟨gm, b, none⟩) (fun _ => by simp) _;have HB8 : Hid (Blk (w7.setCell ⟨gm, b, none⟩ (.bool true)) gm 4 (markC n (K' ++ [(b : Int)]))) := Hd (by rw [markC_snoc n K' b hbn]; exact HB7.out.put b _);have hp8 := own_only HP7.out OM (fun g hg hm => own_apart HP7.out HB7.out (by decide) (by simp at hm; rw [← hm, hg]; simp));have HP8 : Hid ((w7.setCell ⟨gm, b, none⟩ (.bool true)).ownsRow zw 3 1 (.slice A7 (partT n l b (b + 1)).length c7) (partT n l b (b + 1)).length ((partT n l b (b + 1)).map (Value.int .i64))) := Hd (by rw [HPT.out, List.length_append, List.map_append]; exact hp8);clear hp8;have HAP8 : Hid (∀ g ∈ (Value.slice A7 (partT n l b (b + 1)).length c7).ownBlock.toList, g ∉ (Value.slice Af (reachL n l b).length cf).ownBlock.toList) := Hd (fun g hg => HAP7.out g (by cases A7 <;> exact hg));have HQ8 := Hd (own_only HQ7.out OM (fun g hg hm => own_apart HQ7.out HB7.out (by decide) (by simp at hm; rw [← hm, hg]; simp)));have HX8 := Hd (fun x hx => (HX7.out x hx).only OM (fun hm => own_apart (HX7.out x hx).1 HB7.out (by decide) (by simp at hm; rw [← hm]; simp [LP.v, Value.ownBlock])));have HF8 := Hd (own_only HF7.out OM (fun g hg hm => own_apart HF7.out HB7.out (by decide) (by simp at hm; rw [← hm, hg]; simp)));have HO8 := Hd (HO7.out.step OM (fun i hi hl => by simp at hi; omega));have HZ8 := Hd (Nat.le_trans HZ7.out OM.size);have HK8 := Hd (hK.out.yes hbn hsb);go_roundw
       case rel => first | exact ⟨b + 1, A7, c7, _, by rw [HPT.out, List.length_append]; rfl, by go_num, by omega, HP8, HAP8, HQ8, HX8, HB8, HK8, HF8, HZ8, HO8⟩ | exact ⟨_, _, ⟨b + 1, A7, c7, _, by rw [HPT.out, List.length_append]; rfl, by go_num, by omega, HP8, HAP8, HQ8, HX8, HB8, HK8, HF8, HZ8, HO8⟩, rfl, rfl⟩
       case measure => simp [intOf]; omega
      ·have hbe : ¬ (b : Int) = (a : Int) := by omega
       have hbe2 : decide ((b : Int) = (a : Int)) = false := by simpa using hbe
       have HH1 : Hid (Calls Tryd.prog 20 #[.slice Af (reachL n l a).length cf, .int .i64 (b : Int)] wr fun e w' => e = .returned (.bool (wayB n l a b)) ∧ wr = w') := Hd (by
        have := hasInt_any Af (reachL n l a).length cf _ (reachL n l a) (b : Int) wr rfl (by omega) (row_of_own HF4.out)
        rwa [reach_self hbn] at this)
       cases hw1 : wayB n l a b with
       | false =>
        have hsb : simB n l a b = false := by unfold simB; rw [hw1, decide_eq_false (fun h => hba h.symm)]; rfl
        rw [hw1] at HH1;clear hw1;go_wp2_with fail
        refine (HH1.out).mono ?_;rintro e w5 ⟨rfl, rfl⟩;clear HH1;have HPN : Hid (partT n l a (b + 1) = partT n l a b) := Hd (by rw [HPT.out, hsb]; simp);have HK8 := Hd (hK.out.no hsb);go_wp2
        go_roundw
        case rel => first | exact ⟨b + 1, A', c', K', by rw [HPN.out], by go_num, by omega, by rw [HPN.out]; exact HP4, by rw [HPN.out]; exact HAP4, HQ4, HX4, HB4, HK8, HF4, HZ4, HO4⟩ | exact ⟨_, _, ⟨b + 1, A', c', K', by rw [HPN.out], by go_num, by omega, by rw [HPN.out]; exact HP4, by rw [HPN.out]; exact HAP4, HQ4, HX4, HB4, HK8, HF4, HZ4, HO4⟩, rfl, rfl⟩
        case measure => simp [intOf]; omega
       | true =>
        rw [hw1] at HH1;have HC2 := Hd (HFR.out b wr HO4.out);have hfl2 : (reachL n l b).length ≤ n := by unfold reachL; rw [List.length_map]; exact Nat.le_trans (List.length_filter_le _ _) (by simp)
        go_wp2_with fail
        refine (HH1.out).mono ?_;rintro e w5 ⟨rfl, rfl⟩;clear HH1;go_wp2_with fail
        refine (HC2.out).mono ?_;rintro e w5 ⟨A5, c5, ⟨rfl, hv⟩, O5⟩;have HH2 : Hid (Calls Tryd.prog 20 #[.slice A5 (reachL n l b).length c5, .int .i64 (a : Int)] w5 fun e w' => e = .returned (.bool (wayB n l b a)) ∧ w5 = w') := Hd (by
         have := hasInt_any A5 (reachL n l b).length c5 _ (reachL n l b) (a : Int) w5 rfl (by omega) (row_of_own hv)
         rwa [reach_self hlt] at this)
        have HP5 := Hd (own_only HP4.out O5 (by simp));have HQ5 := Hd (own_only HQ4.out O5 (by simp));have HX5 := Hd (fun x hx => (HX4.out x hx).only O5 (by simp));have HB5 := Hd (O5.blk HB4.out (by simp));have HF5 := Hd (own_only HF4.out O5 (by simp));have HZ5 := Hd (Nat.le_trans HZ4.out O5.size);have HO5 := Hd (HO4.out.trans O5);clear hv O5 HC2 HP4 HQ4 HX4 HB4 HF4 HZ4 HO4;have HP4 := HP5;have HQ4 := HQ5;have HX4 := HX5;have HB4 := HB5;have HF4 := HF5;have HZ4 := HZ5;have HO4 := HO5;clear HP5 HQ5 HX5 HB5 HF5 HZ5 HO5
        cases hw2 : wayB n l b a with
        | false =>
         have hsb : simB n l a b = false := by unfold simB; rw [hw1, hw2, decide_eq_false (fun h => hba h.symm)]; rfl
         rw [hw2] at HH2;clear hw1 hw2;go_wp2_with fail
         refine (HH2.out).mono ?_;rintro e w6 ⟨rfl, rfl⟩;clear HH2;have HPN : Hid (partT n l a (b + 1) = partT n l a b) := Hd (by rw [HPT.out, hsb]; simp);have HK8 := Hd (hK.out.no hsb);go_wp2
         go_roundw
         case rel => first | exact ⟨b + 1, A', c', K', by rw [HPN.out], by go_num, by omega, by rw [HPN.out]; exact HP4, by rw [HPN.out]; exact HAP4, HQ4, HX4, HB4, HK8, HF4, HZ4, HO4⟩ | exact ⟨_, _, ⟨b + 1, A', c', K', by rw [HPN.out], by go_num, by omega, by rw [HPN.out]; exact HP4, by rw [HPN.out]; exact HAP4, HQ4, HX4, HB4, HK8, HF4, HZ4, HO4⟩, rfl, rfl⟩
         case measure => simp [intOf]; omega
        | true =>
         have hsb : simB n l a b = true := by unfold simB; rw [hw1, hw2, decide_eq_false (fun h => hba h.symm)]; rfl
         rw [hw2] at HH2;have HPT : Hid (partT n l a (b + 1) = partT n l a b ++ [(b : Int)]) := Hd (by rw [HPT.out, if_pos hsb]);have hz4 := HZ4.out;clear hw1 hw2;go_wp2_with fail
         refine (HH2.out).mono ?_;rintro e w6 ⟨rfl, rfl⟩;clear HH2;go_wp2_with (
          at_builtin
          refine wpList_append_row _ rfl (.tmp 49) (.tmp 51) 29 rfl zw 3 i0 _ 1 8 Tryd.underlying29 hi hz0 hz1 hz2 rfl (by omega) _ _ _ (by rfl) (own_only HP4.out ((Only.refl [] w5).alloc (.cells #[.int .i64 (b : Int)] 3)) (fun _ _ => by simp)) _ _ 1 1 [.int .i64 (b : Int)] (by rfl) (by rfl) (row_lit _ _ _) (by intro u hu; simp at hu; rcases hu with rfl; rfl) (by unfold maxLen; omega) (by omega) (by simp; omega) ?_;intro v' w7 hown hgrow hat;have OA := (Only.refl [] w5).alloc (.cells #[.int .i64 (b : Int)] 3);have OV := only_grown hgrow;have hPA := own_only HP4.out OA (fun _ _ => by simp);have hFA := own_only HF4.out OA (fun _ _ => by simp);obtain ⟨A7, c7, rfl, -, -, -, -⟩ := own_row hown;have HP7 := Hd hown;have HAP7 : Hid (∀ g ∈ (Value.slice A7 ((partT n l a b).length + 1) c7).ownBlock.toList, g ∉ (Value.slice Af (reachL n l a).length cf).ownBlock.toList) := Hd (fun g hg hm => by
           rcases hat with h | h
           ·have e : (Value.slice A7 ((partT n l a b).length + 1) c7).ownBlock = _ := h;rw [e] at hg; exact HAP4.out g hg hm
           ·have e : (Value.slice A7 ((partT n l a b).length + 1) c7).ownBlock = _ := h;rw [e] at hg;simp at hg;have := own_lt hFA hm;simp at this;omega)
          have HQ7 := Hd (own_only (own_only HQ4.out OA (by simp)) OV (fun g hg hm => own_own (own_only HQ4.out OA (by simp)) hPA (by decide) g hg hm));have HX7 := Hd (fun x hx => ((HX4.out x hx).only OA (by simp)).only OV (fun hm => by have h1 := (hPA.lt x.b (by simpa using hm)).1; have h2 := HXB.out x hx; omega));have HB7 := Hd (OV.blk (OA.blk HB4.out (by simp)) (own_apart hPA (OA.blk HB4.out (by simp)) (by decide)));have HF7 := Hd (own_only hFA OV (fun g hg hm => HAP4.out g hm (by rw [hg]; simp)));have HO7 := Hd ((HO4.out.step OA (by simp)).step OV (fun i hi hl => by have := (hPA.lt i (by simpa using hi)).1; omega));have HZ7 := Hd (Nat.le_trans hz4 (Nat.le_trans OA.size OV.size));have d0 := (HB7.out.at_ b).trans (markC_at n K' b hbn);have d1 := HB7.out.free b;have d2 := HB7.out.lt;clear hown hgrow hat OA OV hPA hFA)
         have OM : Only [gm] w7 (w7.setCell ⟨gm, b, none⟩ (.bool true)) := (Only.refl [gm] w7).put (p := ⟨gm, b, none⟩) (fun _ => by simp) _;have HB8 : Hid (Blk (w7.setCell ⟨gm, b, none⟩ (.bool true)) gm 4 (markC n (K' ++ [(b : Int)]))) := Hd (by rw [markC_snoc n K' b hbn]; exact HB7.out.put b _);have hp8 := own_only HP7.out OM (fun g hg hm => own_apart HP7.out HB7.out (by decide) (by simp at hm; rw [← hm, hg]; simp));have HP8 : Hid ((w7.setCell ⟨gm, b, none⟩ (.bool true)).ownsRow zw 3 1 (.slice A7 (partT n l a (b + 1)).length c7) (partT n l a (b + 1)).length ((partT n l a (b + 1)).map (Value.int .i64))) := Hd (by rw [HPT.out, List.length_append, List.map_append]; exact hp8);clear hp8;have HAP8 : Hid (∀ g ∈ (Value.slice A7 (partT n l a (b + 1)).length c7).ownBlock.toList, g ∉ (Value.slice Af (reachL n l a).length cf).ownBlock.toList) := Hd (fun g hg => HAP7.out g (by cases A7 <;> exact hg));have HQ8 := Hd (own_only HQ7.out OM (fun g hg hm => own_apart HQ7.out HB7.out (by decide) (by simp at hm; rw [← hm, hg]; simp)));have HX8 := Hd (fun x hx => (HX7.out x hx).only OM (fun hm => own_apart (HX7.out x hx).1 HB7.out (by decide) (by simp at hm; rw [← hm]; simp [LP.v, Value.ownBlock])));have HF8 := Hd (own_only HF7.out OM (fun g hg hm => own_apart HF7.out HB7.out (by decide) (by simp at hm; rw [← hm, hg]; simp)));have HO8 := Hd (HO7.out.step OM (fun i hi hl => by simp at hi; omega));have HZ8 := Hd (Nat.le_trans HZ7.out OM.size);have HK8 := Hd (hK.out.yes hbn hsb);go_roundw
         case rel => first | exact ⟨b + 1, A7, c7, _, by rw [HPT.out, List.length_append]; rfl, by go_num, by omega, HP8, HAP8, HQ8, HX8, HB8, HK8, HF8, HZ8, HO8⟩ | exact ⟨_, _, ⟨b + 1, A7, c7, _, by rw [HPT.out, List.length_append]; rfl, by go_num, by omega, HP8, HAP8, HQ8, HX8, HB8, HK8, HF8, HZ8, HO8⟩, rfl, rfl⟩
         case measure => simp [intOf]; omega
     ·have hnb : n = b := by omega
      have hdd2 : decide ((b : Int) < (b : Int)) = false := by simp
      subst hnb;rw [partT_all] at HP4;obtain ⟨r, hr⟩ : ∃ r, (a : Int) ∈ partL n l a ∧ r = 0 := ⟨0, mem_part.2 ⟨a, rfl, hlt, sim_refl a⟩, rfl⟩;have hpn : 0 < (partL n l a).length := List.length_pos_of_mem hr.1;obtain ⟨gp, c3, ep⟩ := own_some HP4.out hpn;rw [partT_all];rw [partT_all] at HAP4;injection ep with ep1 ep2 ep3;subst ep1 ep3;have hgp := (HP4.out.lt gp rfl).1;have HKN := Hd hK.out.next;have HXN : Hid ((⟨gp, c', partL n l a⟩ : LP).Ok wr wa.heap.size) := Hd ⟨own_lower HP4.out hazw, fun h => by have h2 : partL n l a = [] := h; rw [h2] at hpn; simp at hpn, fun z hz => by
       obtain ⟨q, rfl, hq, -⟩ := mem_part.1 hz;omega⟩
      have hws := HO4.out.size;have hpl2 := part_len (n := n) (l := l) a;clear ep2 hK hr HAP4 HF4;go_wp2_with (
       at_builtin
       refine wpList_append_row _ rfl (.tmp 56) (.tmp 58) 25 rfl wa.heap.size 29 i1 _ 1 24 Tryd.underlying25 hi1 hy0 hy1 hy2 rfl (by omega) _ qs.length (qs.map LP.v) (by rfl) (own_only HQ4.out ((Only.refl [] wr).alloc (.cells #[.slice (some ⟨gp, 0, none⟩) (partL n l a).length c'] 29)) (fun _ _ => by simp)) _ _ 1 1 [.slice (some ⟨gp, 0, none⟩) (partL n l a).length c'] (by rfl) (by rfl) (row_lit _ _ _) (by intro u hu; simp at hu; rcases hu with rfl; rfl) (by unfold maxLen; omega) (by omega) (by simp; omega) ?_;intro v' w7 hown hgrow hat;have OA := (Only.refl [] wr).alloc (.cells #[.slice (some ⟨gp, 0, none⟩) (partL n l a).length c'] 29);have OV := only_grown hgrow;obtain ⟨A7, c7, rfl, -, -, -, -⟩ := own_row hown;have hAA := own_only HQ4.out OA (by simp);have HQ7 : Hid (w7.ownsRow wa.heap.size 29 1 (.slice A7 (qs ++ [(⟨gp, c', partL n l a⟩ : LP)]).length c7) (qs ++ [(⟨gp, c', partL n l a⟩ : LP)]).length ((qs ++ [(⟨gp, c', partL n l a⟩ : LP)]).map LP.v)) := Hd (by
        rw [List.map_append, List.length_append];exact hown)
       have HO7 := Hd ((HO4.out.step OA (by simp)).step OV (fun i hi hl => by have := (hAA.lt i (by simpa using hi)).1; omega));have HB7 := Hd (OV.blk (OA.blk HB4.out (by simp)) (own_apart hAA (OA.blk HB4.out (by simp)) (by decide)));have HX7 : Hid (∀ x ∈ qs ++ [(⟨gp, c', partL n l a⟩ : LP)], x.Ok w7 wa.heap.size) := Hd (fun x hx => by
        have h1 : x.Ok wr wa.heap.size := by
         rcases List.mem_append.1 hx with h2 | h2
         ·exact HX4.out x h2
         ·rw [List.mem_singleton.1 h2]; exact HXN.out
        have h2 := h1.only OA (by simp);exact h2.only OV (fun hm => own_own h2.1 hAA (by decide) x.b rfl hm))
       have HLN : Hid ((qs ++ [(⟨gp, c', partL n l a⟩ : LP)]).map LP.L = ((List.range (a + 1)).filter (leadB n l)).map (partL n l)) := Hd (by rw [← HLS.out, List.map_append]; rfl);clear hown hgrow hat OA OV hAA)
      go_roundw
      case rel => first | exact ⟨a + 1, _, A7, c7, K', by simp, by go_num, by omega, by simp; omega, HQ7, HX7, HLN, HB7, HKN, HO7⟩ | exact ⟨_, _, ⟨a + 1, _, A7, c7, K', by simp, by go_num, by omega, by simp; omega, HQ7, HX7, HLN, HB7, HKN, HO7⟩, rfl, rfl⟩
      case measure => simp [intOf]; omega
  ·have hna : n = a := by omega
   have hdd : decide ((n : Int) < (n : Int)) = false := by simp
   subst hna;go_wp2
   go_ret
   exact ⟨qs, Ao, co, ⟨rfl, hQ.out, hX.out, hL.out⟩, hO.out⟩
end Go.Proofs.YtlemjgjpglmphaaDoor
