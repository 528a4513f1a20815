/- Parts. -/
import Derived.Test.YtjfbeeogiejopaaGreatDoorWorldNextCardK15
set_option maxRecDepth 10000
set_option maxHeartbeats 16000000
set_option linter.unusedVariables false
set_option linter.unusedSimpArgs false
namespace Go.Proofs.YtjfbeeogiejopaaGreatDoor
open Go.RowKit
open Go.Lib hiding intOf
attribute [local go_sem ↓] Go.wp_at_zero Go.wp_at_succ
theorem compactV_rise (zs : List (Int × Int)) (hn : ∀ z ∈ zs, mayP z = true) (hs : zs.Pairwise fun a b => lessV b a = false) : ∀ k, k ≤ zs.length →
  ((compactUpTo zs.toArray k).Pairwise fun a b => lessV a b = true) ∧ ∀ y, y ∈ compactUpTo zs.toArray k ↔ y ∈ zs.take k := by
 have hg : ∀ j, (h : j < zs.length) → zs.toArray[j]! = zs[j] := fun j h => by
  rw [getElem!_pos zs.toArray j (by simpa using h)]
  rfl
 intro k
 induction k with
 | zero => intro _; exact ⟨by simp [compactUpTo], fun y => by simp [compactUpTo]⟩
 | succ k ih =>
  intro hk;obtain ⟨ih1, ih2⟩ := ih (by omega);have hlt : k < zs.length := by omega
  have htk : zs.take (k + 1) = zs.take k ++ [zs[k]] := by rw [List.take_add_one, List.getElem?_eq_getElem hlt]; rfl
  rw [compactUpTo_succ]
  by_cases hkp : keeps zs.toArray k = true
  ·rw [if_pos hkp, hg k hlt];refine ⟨List.pairwise_append.2 ⟨ih1, List.pairwise_singleton _ _, fun a ha b hb => ?_⟩, fun y => by rw [List.mem_append, ih2, htk, List.mem_append]⟩;rw [List.mem_singleton] at hb;subst hb;have ha2 := (ih2 a).1 ha;obtain ⟨j, hj, e⟩ := List.mem_iff_getElem.1 ha2;rw [List.getElem_take] at e;rw [List.length_take] at hj;have hjk : j < k := by omega
   unfold keeps at hkp;have hkp := of_decide_eq_true hkp;have hk1 : 0 < k := by omega
   have hne : zs[k] ≠ zs[k - 1]'(by omega) := by
    rcases hkp with h | h
    ·omega
    ·rw [hg k hlt, hg (k - 1) (by omega)] at h;exact h
   have hS := List.pairwise_iff_getElem.1 hs;have hlast : lessV (zs[k - 1]'(by omega)) zs[k] = true := by
    cases hc : lessV (zs[k - 1]'(by omega)) zs[k] with
    | true => rfl
    | false => exact absurd (lessV_total (hn _ (List.getElem_mem _)) (hn _ (List.getElem_mem _)) hc (hS (k - 1) k (by omega) hlt (by omega))).symm hne
   by_cases hj1 : j = k - 1
   ·subst hj1;rw [← e];exact hlast
   ·have h1 := hS j (k - 1) (by omega) (by omega) (by omega);rw [← e]
    cases hc : lessV (zs[j]'(by omega)) (zs[k - 1]'(by omega)) with
    | true => exact lessV_trans hc hlast
    | false =>
     have e2 := lessV_total (hn _ (List.getElem_mem _)) (hn _ (List.getElem_mem _)) hc h1;rw [e2];exact hlast
  ·have hkf : keeps zs.toArray k = false := by simpa using hkp
   rw [if_neg hkp, List.append_nil];refine ⟨ih1, fun y => ?_⟩;rw [ih2, htk, List.mem_append, List.mem_singleton];refine ⟨.inl, ?_⟩;rintro (h | rfl)
   ·exact h
   ·unfold keeps at hkf;have hkf := of_decide_eq_false hkf;have hk1 : k ≠ 0 := fun h => hkf (.inl h);have he : zs[k] = zs[k - 1]'(by omega) := by
     have := Classical.not_not.1 (fun h => hkf (.inr h));rw [hg k hlt, hg (k - 1) (by omega)] at this;exact this
    rw [he];exact List.mem_iff_getElem.2 ⟨k - 1, by rw [List.length_take]; omega, by rw [List.getElem_take]⟩
theorem compactV_sort (l bs : List (Int × Int)) (hn : ∀ b ∈ bs, mayP b = true) (hs : bs.Pairwise fun a b => lessV b a = false) (hm : ∀ y, y ∈ bs ↔ y ∈ l ∧ mayP y = true) :
  compactUpTo bs.toArray bs.length = sortV l := by
 have h := compactV_rise bs hn hs bs.length (Nat.le_refl _);refine sortV_unique h.1 fun y => ?_;rw [← hm, h.2, List.take_length]
theorem vins_none (fv : Value) (w : World) :
  Calls Tryz.prog 127 #[.slice none 0 0, .int .i64 0, .int .i64 0, fv] w fun e w' => e = .returned (.tuple #[]) ∧ w = w' := by
 go_enter Tryz.func127, Tryz.ntmps127;go_wp2
 refine wp_loop_rounds 1 ?_;rw [rounds_succ];go_wp2
 go_end0
 exact ⟨rfl, rfl⟩
theorem vpdq_none (lim : Int) (fv : Value) (w : World) :
  Calls Tryz.prog 111 #[.slice none 0 0, .int .i64 0, .int .i64 0, .int .i64 lim, fv] w fun e w' => e = .returned (.tuple #[]) ∧ w = w' := by
 have HI := Hd (fun w' => vins_none fv w');go_enter Tryz.func111, Tryz.ntmps111;go_wp2
 refine wp_loop_rounds 1 ?_;rw [rounds_succ];go_wp2_with fail
 refine (HI.out _).mono ?_;rintro e w' ⟨rfl, rfl⟩;go_wp2
 (try simp only [Exit.inBlock, Exit.then]); refine bodyPost_ret (results_none rfl _ _ _) rfl ?_
 exact ⟨rfl, rfl⟩
theorem vlen_none (w : World) : Calls Tryz.prog 112 #[.int .u64 0] w fun e w' => e = .returned (.int .i64 0) ∧ w' = w :=
 Any.bits_Len (SlLaysF0.n15.bits (P := Tryz.prog) (ρ := Tryz.laysSortZ_ren) { Tryz.laysSortZ with }) 0 w (by omega) (by omega)
theorem vsortf_none (fv : Value) (w : World) :
  Calls Tryz.prog 95 #[.slice none 0 0, fv] w fun e w' => e = .returned (.tuple #[]) ∧ w = w' := by
 have HP := Hd (fun w' => vpdq_none 0 fv w');have HL := Hd (fun w' => vlen_none w');have hw : IntKind.u64.wrap 0 = 0 := by rfl
 go_enter Tryz.func95, Tryz.ntmps95;go_wp2_with fail
 refine (HL.out _).mono ?_;rintro e w' ⟨rfl, rfl⟩;go_wp2_with fail
 refine (HP.out _).mono ?_;rintro e w' ⟨rfl, rfl⟩;go_wp2
 go_end0
 exact ⟨rfl, rfl⟩
theorem vcompact_none (w : World) : Calls Tryz.prog 97 #[.slice none 0 0] w fun e w' => e = .returned (.slice none 0 0) ∧ w = w' := by
 go_enter Tryz.func97, Tryz.ntmps97;go_wp2
 go_ret
 exact ⟨rfl, rfl⟩
theorem vinfo : (Tryz.prog.info? 38).map (fun i => (i.zero, i.size, i.bytes)) = some (some (.agg #[.int .i64 0, .int .i64 0]), 2, 16) := by kernel_rfl
theorem row_take {w : World} {B g n : Nat} {t : TypeId} {cs : Array Value} {xs : List Value} (hb : Blk w g t cs) (hr : Row w B (some ⟨g, 0, none⟩) xs) (hl : xs.length = n) (hn : n ≤ cs.size) : cs.toList.take n = xs := by
 refine List.ext_getElem? fun j => ?_;rw [List.getElem?_take]
 by_cases hj : j < n
 ·rw [if_pos hj, Array.getElem?_toList];obtain ⟨u, hu⟩ : ∃ u, xs[j]? = some u := ⟨_, List.getElem?_eq_getElem (by omega)⟩;obtain ⟨b, o, e, -, -, hc⟩ := hr.open_ (k := j) (by omega)
  cases e
  have := hc j u hu;rw [Nat.zero_add, hb.at_] at this;rw [this, hu]
 ·rw [if_neg hj, List.getElem?_eq_none (by omega)]
theorem compactUpTo_len (d : Array (Int × Int)) (k : Nat) : (compactUpTo d k).length ≤ k := by
 unfold compactUpTo;rw [List.length_map];exact Nat.le_trans (List.length_filter_le _ _) (by simp)
theorem vsorted_own (A : Option Addr) (n c B : Nat) (zs : List (Int × Int)) (w : World) (hn : zs.length = n) (hN : n ≤ 1000) (hA : Row w B A (edgeC zs)) :
  Calls Tryz.prog 72 #[.slice A n c] w fun e w' => Only [] w w' ∧ ∃ V, e = .returned V ∧ w'.ownsRow w.heap.size 38 2 V (sortV zs).length (edgeC (sortV zs)) := by
 obtain ⟨i0, hi, hz0, hz1, hz2⟩ := info_parts vinfo;have HMY := Hd (fun (z : Int × Int) w' => (may_anyV z.1 z.2 w'));have HN := Hd hn;have HROW := Hd hA;clear hn hA;go_enter Tryz.func72, Tryz.ntmps72;go_wp2_with fail
 go_loopw [3, 8] (fun V iv wr => ∃ (k m : Nat), iv = .int .i64 k ∧ k ≤ n ∧ m ≤ k ∧ Hid (((zs.take k).filter mayP).length = m) ∧ Hid (wr.ownsRow w.heap.size 38 2 V m (edgeC ((zs.take k).filter mayP))) ∧ Hid (Only [] w wr)) (fun _ iv _ => n - (intOf iv).toNat)
 case atStart => exact ⟨0, 0, rfl, by omega, by omega, Hd rfl, Hd ⟨rfl, .inl ⟨rfl, rfl⟩⟩, Hd (Only.refl [] w)⟩
 case round =>
  obtain ⟨k, m, rfl, hk, hm, HM, HOWN, HO⟩ := hrel
  by_cases hlt : k < n
  ·have h01 : (k : Int) < (n : Int) := by omega
   have hk0 : (0 : Int) ≤ (k : Int) := Int.natCast_nonneg _;have hwk : IntKind.i64.wrap ((k : Int) + 1) = (k : Int) + 1 := IntWalk.i64_in _ (by omega);obtain ⟨b, off, rfl, hbB, hbw, hcell⟩ := HROW.out.open_ (k := k * 2) (by rw [edgeC_len, HN.out]; omega);obtain ⟨l, hl⟩ : ∃ l, zs[k]? = some l := ⟨_, List.getElem?_eq_getElem (by rw [HN.out]; exact hlt)⟩;have hee := edgeC_get zs k l hl;have hck0 : wr.cell? ⟨b, off + k * 2, none⟩ = some (.int .i64 l.1) := (HO.out.cell (p := ⟨b, off + k * 2, none⟩) hbw (by simp)).trans (hcell _ _ hee.1);have hck1 : wr.cell? ⟨b, off + k * 2 + 1, none⟩ = some (.int .i64 l.2) := by rw [Nat.add_assoc]; exact (HO.out.cell (p := ⟨b, off + (k * 2 + 1), none⟩) hbw (by simp)).trans (hcell _ _ hee.2)
   have HI := Hd (fun w' => HMY.out l w');have hwsz := HO.out.size;obtain ⟨v, hv⟩ : ∃ v, v = mayP l := ⟨_, rfl⟩;have hv2 : v = mayB l.1 l.2 := hv;rw [← hv2] at HI;have HV := Hd hv;have HLK := Hd hl;clear hcell hl hv hv2 hee;obtain ⟨x, y⟩ := l;dsimp only at hck0 hck1 HI
   cases v with
   | true =>
    have HTK : Hid ((zs.take (k + 1)).filter mayP = (zs.take k).filter mayP ++ [(x, y)]) := Hd (by
     rw [List.take_add_one, HLK.out, List.filter_append]
     congr 1
     simp [HV.out.symm])
    have hlen : (edgeC ((zs.take k).filter mayP)).length = m * 2 := by rw [edgeC_len, HM.out]
    go_wp2_with fail
    refine (HI.out _).mono ?_;rintro e w2 ⟨rfl, hX2⟩;have bV := hX2.blk (made2 wr 38 x y) (by simp);have hO2 := ((Only.refl [] wr).alloc (.cells #[.int .i64 x, .int .i64 y] 38)).trans hX2.only;have HOWN2 := Hd (own_only HOWN.out hO2 (by simp));have HO2 := Hd (HO.out.trans hO2);have hw2 := hO2.size;have lV := bV.lt;have v0 := bV.at_ 0;have v1 := bV.at_ 1;simp at v0 v1;clear hO2 hX2 bV;go_wp2_with (at_builtin; refine wpList_append_row _ rfl (.tmp 14) (.tmp 16) _ rfl w.heap.size 38 i0 _ 2 16 Tryz.underlying33 hi hz0 hz1 hz2 rfl (by omega) _ m (edgeC ((zs.take k).filter mayP)) rfl (own_only HOWN2.out ((Only.refl [] _).alloc _) (by simp)) (w2.heap.size + 1) (some ⟨w2.heap.size, 0, none⟩) 1 1 [.int .i64 x, .int .i64 y] (by rfl) (by rfl) (row_lit w2 38 #[.int .i64 x, .int .i64 y]) (by intro u hu; simp at hu; rcases hu with rfl | rfl <;> rfl) (by unfold maxLen; omega) (by omega) (by simp; omega) ?_; intro v3 w3 hown3 hgrow hat)
    have REL : w3.ownsRow w.heap.size 38 2 v3 (m + 1) (edgeC ((zs.take (k + 1)).filter mayP)) ∧ Only [] w w3 ∧ ((zs.take (k + 1)).filter mayP).length = m + 1 := by
     refine ⟨?_, (HO2.out.alloc _).step (only_grown hgrow) (own_new HOWN2.out), ?_⟩
     ·rw [HTK.out, edgeC_append];exact hown3
     ·rw [HTK.out, List.length_append, HM.out]
      rfl
    have HREL := Hd REL;clear REL hown3 hgrow hat hlen;go_wp2
    go_roundw
    case rel => exact ⟨k + 1, m + 1, by go_num, by omega, by omega, Hd HREL.out.2.2, Hd HREL.out.1, Hd HREL.out.2.1⟩
    case measure => simp [intOf]; omega
   | false =>
    go_wp2_with fail
    refine (HI.out _).mono ?_;rintro e w2 ⟨rfl, hX2⟩;have hO2 := ((Only.refl [] wr).alloc (.cells #[.int .i64 x, .int .i64 y] 38)).trans hX2.only;have HOWN2 := Hd (own_only HOWN.out hO2 (by simp));have HO2 := Hd (HO.out.trans hO2);have HTK2 : Hid ((zs.take (k + 1)).filter mayP = (zs.take k).filter mayP) := Hd (by
     rw [List.take_add_one, HLK.out, List.filter_append];simp [HV.out.symm])
    clear hO2 hX2;go_wp2
    go_roundw
    case rel => exact ⟨k + 1, m, by go_num, by omega, by omega, Hd (by rw [HTK2.out]; exact HM.out), Hd (by rw [HTK2.out]; exact HOWN2.out), HO2⟩
    case measure => simp [intOf]; omega
  ·have hkn : k = n := by omega
   subst hkn;have hd : decide ((k : Int) < (k : Int)) = false := by simp
   have HALL : Hid ((zs.take k).filter mayP = zs.filter mayP) := Hd (by rw [List.take_of_length_le (by rw [HN.out]; exact Nat.le_refl _)]);have HFM : Hid (∀ y, y ∈ (zs.take k).filter mayP ↔ y ∈ zs ∧ mayP y = true) := Hd (fun y => by rw [HALL.out, List.mem_filter]);generalize (zs.take k).filter mayP = fair at *;obtain ⟨hl0, hv⟩ := HOWN.out;rcases hv with ⟨hv, hm0⟩ | ⟨g, cap, cur, hv, hbase, hg, hnc, hcm, hsz, ht⟩
   ·subst hv;subst hm0;have hfe : fair = [] := List.eq_nil_of_length_eq_zero HM.out;subst hfe;have HS := Hd (fun w' => vsortf_none (.func (.func 96) #[] #[]) w');have HC := Hd (fun w' => vcompact_none w');have HE : Hid (sortV zs = []) := Hd (by
     have := (sortV_vals zs).2
     cases hs : sortV zs with
     | nil => rfl
     | cons y t =>
      rw [hs] at this;have h1 := (HFM.out y).2 ((this y).1 (List.mem_cons_self ..))
      cases h1)
    clear hl0 HOWN;go_wp2_with fail
    refine (HS.out _).mono ?_;rintro e w5 ⟨rfl, rfl⟩;go_wp2_with fail
    refine (HC.out _).mono ?_;rintro e w6 ⟨rfl, rfl⟩;go_wp2
    go_ret
    exact ⟨HO.out, .slice none 0 0, rfl, by rw [HE.out]; exact ⟨rfl, .inl ⟨rfl, rfl⟩⟩⟩
   ·subst hv;have h0 : Below w.heap.size w wr := HO.out.below (Nat.le_refl _) (by simp);have HS := Hd (vsortf_own w wr g cap m cur fair HM.out (fun b hb => ((HFM.out b).1 hb).2) (by omega) hg ht hbase h0);have HHB := Hd (show HasBlk wr g 38 (cap * 2) from ⟨cur, hg, hsz⟩);have HBASE := Hd (show w.heap.size ≤ g ∧ cap ≤ maxLen ∧ fair.length ≤ cap from ⟨hbase, hcm, by rw [HM.out]; exact hnc⟩);have HC := Hd (fun w' (bs : List (Int × Int)) (hl : bs.length = m) hH hlt h0' => vcompact_own w w' g cap m bs.toArray (by simpa using hl) (by omega) hnc hH hbase hlt h0');clear hl0 HOWN hg ht hbase hsz h0 hnc hcm;go_wp2_with fail
    refine (HS.out).mono ?_;rintro e w5 ⟨rfl, hb5, hg5, hk5, bs, hbl, hbp, hbs, hbc⟩;have HHB5 := Hd (hk5 _ _ HHB.out);clear hk5 HHB;have hH : Go.Sort.HoldsK encP 2 w5 g 0 bs.toArray := by
     intro t ht2;have ht3 : t < m * 2 := by simpa [hbl] using ht2
     have hj : t / 2 < m := by omega
     obtain ⟨q0, q1, q2, q3⟩ := hbc (t / 2) hj;have hgj : bs.toArray[t / 2]! = bs.getD (t / 2) (0, 0) := by
      rw [getElem!_pos bs.toArray (t / 2) (by simpa [hbl] using hj), List.getD_eq_getElem?_getD, List.getElem?_eq_getElem (by omega)]
      rfl
     show w5.cell? ⟨g, 0 + t, none⟩ = some ((Go.Sort.flatK encP 2 bs.toArray)[t]!) ∧ _
     rw [Go.Sort.get_flatK _ _ _ _ (by simpa [hbl] using ht3), hgj, Nat.zero_add];rcases Nat.mod_two_eq_zero_or_one t with h2 | h2
     ·rw [h2];have e : t / 2 * 2 = t := by omega
      rw [e] at q0 q2;exact ⟨q0, q2⟩
     ·rw [h2];have e : t / 2 * 2 + 1 = t := by omega
      rw [e] at q1 q3;exact ⟨q1, q3⟩
    have HC5 := HC.out w5 bs hbl hH hg5 hb5;have HCL := Hd (show (compactUpTo bs.toArray bs.length).length ≤ cap from Nat.le_trans (compactUpTo_len _ _) (by rw [hbl, ← HM.out]; exact HBASE.out.2.2));have hcs := compactV_sort zs bs (fun b hb => ((HFM.out b).1 (hbp.mem_iff.1 hb)).2) hbs (fun y => by rw [hbp.mem_iff, HFM.out]);rw [hbl] at hcs;rw [hbl, hcs] at HCL;rw [hcs] at HC5;have HC6 := Hd HC5;clear hb5 hg5 hbl hbp hbs hbc hH HC5 hcs HC;go_wp2_with fail
    refine (HC6.out).mono ?_;rintro e w6 ⟨rfl, hb6, hrow, hk6⟩;have HHB6 := Hd (hk6 _ _ HHB5.out);clear hk6 HHB5;have HB6 := Hd hb6;have HR6 := Hd hrow;clear hb6 hrow;go_wp2
    go_ret
    obtain ⟨cs6, hb6, hs6⟩ := HHB6.out;exact ⟨Only.of_below HB6.out [], _, rfl, by rw [edgeC_len], .inr ⟨g, cap, cs6, rfl, HBASE.out.1, hb6, HCL.out, HBASE.out.2.1, hs6, row_take hb6 HR6.out (by rw [edgeC_len]) (by rw [hs6]; exact Nat.mul_le_mul_right 2 HCL.out)⟩⟩
end Go.Proofs.YtjfbeeogiejopaaGreatDoor
namespace Go.Proofs.YtjfbeeogiejopaaGreatDoor
open Go.RowKit
section
variable {P : Program} {ops : Array Oper} {Q : Exit → Act → World → Prop} {md : Region.Mode} {S : Array Bool → World → Prop}
theorem timed_forks {l : List Nat} {fuel : Nat} {listed : Array Bool} {a : Act} {w : World} (hr : Region.ready md ops listed = l) (hl : l ≠ [])
  (h : ∀ k ∈ l, ∃ ok, ops[k]? = some ok ∧ ∀ K' : Act → World → Prop, Shut (∀ a w, S (listed.setIfInBounds k true) w → (S (listed.setIfInBounds k true) w → wpAnyT P md ops Q S fuel (listed.setIfInBounds k true) a w) → K' a w) →
   if Region.wanted ok (yielded ops a.tmps) = true then Oper.wp P ok a w K' Q else K' (a.put ok.dst undef) w) : S listed w → wpAnyT P md ops Q S (fuel + 1) listed a w := by
 intro _;refine ⟨fun h0 => (by rw [hr] at h0; exact absurd h0 hl), fun k hk => ?_⟩;rw [hr] at hk;obtain ⟨ok, ho, hs⟩ := h k hk;exact wpOp_step ho (fun K' hK => hs K' (fun a w hS hW => hK a w ⟨hS, hW hS⟩))
end
section
variable {G : Prop}
theorem cut_0_0 (F : World → Prop) {L : World → Prop} (h1 : (∀ (w : World), F w  → L w ) → G) (h2 : ∀ (w : World), F w  → L w ) : G := h1 h2
theorem cut_0_1 (F : World → Value → Prop) {L : World → Value → Prop} (h1 : (∀ (w : World) (y0 : Value), F w y0 → L w y0) → G) (h2 : ∀ (w : World) (y0 : Value), F w y0 → L w y0) : G := h1 h2
theorem cut_0_2 (F : World → Value → Value → Prop) {L : World → Value → Value → Prop} (h1 : (∀ (w : World) (y0 y1 : Value), F w y0 y1 → L w y0 y1) → G) (h2 : ∀ (w : World) (y0 y1 : Value), F w y0 y1 → L w y0 y1) : G := h1 h2
theorem cut_0_4 (F : World → Value → Value → Value → Value → Prop) {L : World → Value → Value → Value → Value → Prop} (h1 : (∀ (w : World) (y0 y1 y2 y3 : Value), F w y0 y1 y2 y3 → L w y0 y1 y2 y3) → G) (h2 : ∀ (w : World) (y0 y1 y2 y3 : Value), F w y0 y1 y2 y3 → L w y0 y1 y2 y3) : G := h1 h2
theorem cut_1_0 (F : World → Nat → Prop) {L : World → Nat → Prop} (h1 : (∀ (w : World) (g0 : Nat), F w g0  → L w g0 ) → G) (h2 : ∀ (w : World) (g0 : Nat), F w g0  → L w g0 ) : G := h1 h2
theorem cut_1_1 (F : World → Nat → Value → Prop) {L : World → Nat → Value → Prop} (h1 : (∀ (w : World) (g0 : Nat) (y0 : Value), F w g0 y0 → L w g0 y0) → G) (h2 : ∀ (w : World) (g0 : Nat) (y0 : Value), F w g0 y0 → L w g0 y0) : G := h1 h2
theorem cut_1_2 (F : World → Nat → Value → Value → Prop) {L : World → Nat → Value → Value → Prop} (h1 : (∀ (w : World) (g0 : Nat) (y0 y1 : Value), F w g0 y0 y1 → L w g0 y0 y1) → G) (h2 : ∀ (w : World) (g0 : Nat) (y0 y1 : Value), F w g0 y0 y1 → L w g0 y0 y1) : G := h1 h2
theorem cut_1_4 (F : World → Nat → Value → Value → Value → Value → Prop) {L : World → Nat → Value → Value → Value → Value → Prop} (h1 : (∀ (w : World) (g0 : Nat) (y0 y1 y2 y3 : Value), F w g0 y0 y1 y2 y3 → L w g0 y0 y1 y2 y3) → G) (h2 : ∀ (w : World) (g0 : Nat) (y0 y1 y2 y3 : Value), F w g0 y0 y1 y2 y3 → L w g0 y0 y1 y2 y3) : G := h1 h2
theorem cut_2_0 (F : World → Nat → Nat → Prop) {L : World → Nat → Nat → Prop} (h1 : (∀ (w : World) (g0 g1 : Nat), F w g0 g1  → L w g0 g1 ) → G) (h2 : ∀ (w : World) (g0 g1 : Nat), F w g0 g1  → L w g0 g1 ) : G := h1 h2
theorem cut_3_0 (F : World → Nat → Nat → Nat → Prop) {L : World → Nat → Nat → Nat → Prop} (h1 : (∀ (w : World) (g0 g1 g2 : Nat), F w g0 g1 g2  → L w g0 g1 g2 ) → G) (h2 : ∀ (w : World) (g0 g1 g2 : Nat), F w g0 g1 g2  → L w g0 g1 g2 ) : G := h1 h2
theorem cut_2_0_1 (F : World → Nat → Nat → Option Addr → Prop) {L : World → Nat → Nat → Option Addr → Prop} (h1 : (∀ (w : World) (g0 g1 : Nat) (z0 : Option Addr), F w g0 g1 z0 → L w g0 g1 z0) → G) (h2 : ∀ (w : World) (g0 g1 : Nat) (z0 : Option Addr), F w g0 g1 z0 → L w g0 g1 z0) : G := h1 h2
theorem cut_3_0_1 (F : World → Nat → Nat → Nat → Option Addr → Prop) {L : World → Nat → Nat → Nat → Option Addr → Prop} (h1 : (∀ (w : World) (g0 g1 g2 : Nat) (z0 : Option Addr), F w g0 g1 g2 z0 → L w g0 g1 g2 z0) → G) (h2 : ∀ (w : World) (g0 g1 g2 : Nat) (z0 : Option Addr), F w g0 g1 g2 z0 → L w g0 g1 g2 z0) : G := h1 h2
theorem cut_3_0_2 (F : World → Nat → Nat → Nat → Option Addr → Option Addr → Prop) {L : World → Nat → Nat → Nat → Option Addr → Option Addr → Prop} (h1 : (∀ (w : World) (g0 g1 g2 : Nat) (z0 z1 : Option Addr), F w g0 g1 g2 z0 z1 → L w g0 g1 g2 z0 z1) → G) (h2 : ∀ (w : World) (g0 g1 g2 : Nat) (z0 z1 : Option Addr), F w g0 g1 g2 z0 z1 → L w g0 g1 g2 z0 z1) : G := h1 h2
theorem cut_4_0_1 (F : World → Nat → Nat → Nat → Nat → Option Addr → Prop) {L : World → Nat → Nat → Nat → Nat → Option Addr → Prop} (h1 : (∀ (w : World) (g0 g1 g2 g3 : Nat) (z0 : Option Addr), F w g0 g1 g2 g3 z0 → L w g0 g1 g2 g3 z0) → G) (h2 : ∀ (w : World) (g0 g1 g2 g3 : Nat) (z0 : Option Addr), F w g0 g1 g2 g3 z0 → L w g0 g1 g2 g3 z0) : G := h1 h2
theorem cut_4_0_2 (F : World → Nat → Nat → Nat → Nat → Option Addr → Option Addr → Prop) {L : World → Nat → Nat → Nat → Nat → Option Addr → Option Addr → Prop} (h1 : (∀ (w : World) (g0 g1 g2 g3 : Nat) (z0 z1 : Option Addr), F w g0 g1 g2 g3 z0 z1 → L w g0 g1 g2 g3 z0 z1) → G) (h2 : ∀ (w : World) (g0 g1 g2 g3 : Nat) (z0 z1 : Option Addr), F w g0 g1 g2 g3 z0 z1 → L w g0 g1 g2 g3 z0 z1) : G := h1 h2
theorem cut_5_0_2 (F : World → Nat → Nat → Nat → Nat → Nat → Option Addr → Option Addr → Prop) {L : World → Nat → Nat → Nat → Nat → Nat → Option Addr → Option Addr → Prop} (h1 : (∀ (w : World) (g0 g1 g2 g3 g4 : Nat) (z0 z1 : Option Addr), F w g0 g1 g2 g3 g4 z0 z1 → L w g0 g1 g2 g3 g4 z0 z1) → G) (h2 : ∀ (w : World) (g0 g1 g2 g3 g4 : Nat) (z0 z1 : Option Addr), F w g0 g1 g2 g3 g4 z0 z1 → L w g0 g1 g2 g3 g4 z0 z1) : G := h1 h2
end
theorem fork_cons {p : Nat → Prop} {k : Nat} {l : List Nat} (h : p k) (r : ∀ j ∈ l, p j) : ∀ j ∈ k :: l, p j := List.forall_mem_cons.2 ⟨h, r⟩
theorem fork_nil {p : Nat → Prop} : ∀ j ∈ ([] : List Nat), p j := fun _ h => by cases h
open Go.Lib hiding intOf
attribute [local go_sem ↓] Go.wp_at_zero Go.wp_at_succ
def HInt (h : Hst) : Prop := ∀ t ∈ h.l, ∀ x ∈ t.ops, OpI x
theorem leftW_mem {key : Int} {l : List Op4} {v : Int × Int} (h : leftW key l = some v) : ∃ o ∈ l, hitO key o = true ∧ v = (o.vk, o.vn) := by
 have : ∀ (k : List Op4) (acc : Option (Int × Int)), k.foldl (fun acc o => if hitO key o = true then some (o.vk, o.vn) else acc) acc = some v → acc = some v ∨ ∃ o ∈ k, hitO key o = true ∧ v = (o.vk, o.vn) := by
  intro k
  induction k with
  | nil => intro acc h; exact .inl h
  | cons o k ih =>
   intro acc h;rw [List.foldl_cons] at h;rcases ih _ h with h1 | ⟨o', ho', h2⟩
   ·by_cases hh : hitO key o = true
    ·rw [if_pos hh] at h1;exact .inr ⟨o, List.mem_cons_self, hh, (Option.some.inj h1).symm⟩
    ·rw [if_neg hh] at h1;exact .inl h1
   ·exact .inr ⟨o', List.mem_cons_of_mem _ ho', h2⟩
 rcases this l none h with h1 | h1
 ·cases h1
 ·exact h1
theorem may_ops {h : Hst} (hm : mayH h = true) : h.l.length ≤ 40 ∧ (∀ t ∈ h.l, t.ops.length ≤ 20) ∧ ∀ t ∈ h.l, ∀ o ∈ t.ops, 0 ≤ o.key ∧ o.key < (h.ks.length : Int) ∧ mayB o.vk o.vn = true ∧ (o.wr = true → o.vk = 1) := by
 unfold mayH namesB txsB opsB at hm;simp only [Bool.and_eq_true, decide_eq_true_eq] at hm;obtain ⟨-, -, ⟨hn, hx, -⟩, ho, -⟩ := hm;refine ⟨hn, fun t ht => ?_, fun t ht o hop => ?_⟩
 ·have h1 := List.all_eq_true.1 hx t ht;unfold txB at h1;simp only [Bool.and_eq_true, decide_eq_true_eq] at h1;exact h1.2.2
 ·have h1 := List.all_eq_true.1 (List.all_eq_true.1 ho t ht) o hop;unfold opB at h1;simp only [Bool.and_eq_true, decide_eq_true_eq, Bool.or_eq_true, Bool.not_eq_true'] at h1;refine ⟨h1.1.1, h1.1.2, h1.2.1, fun hw => ?_⟩;rcases h1.2.2 with h2 | h2
  ·rw [hw] at h2; cases h2
  ·exact h2
theorem forT_mem {a key : Int} {i : Nat} {t : Tx} {v : Int × Int} (hv : forT a key i t = some v) : (i : Int) ≠ a ∧ t.f ≠ 2 ∧ ∃ o ∈ t.ops, hitO key o = true ∧ v = (o.vk, o.vn) := by
 unfold forT at hv
 split at hv
 ·cases hv
 ·rename_i hc
  exact ⟨fun e => hc (.inl e), fun e => hc (.inr e), leftW_mem hv⟩
theorem forT_wf {h : Hst} (hm : mayH h = true) (hI : HInt h) {a key : Int} {i : Nat} {t : Tx} {v : Int × Int} (ht : h.l[i]? = some t) (hv : forT a key i t = some v) : v.1 = 1 ∧ VWf v := by
 obtain ⟨-, -, o, ho, hh, rfl⟩ := forT_mem hv;have h1 := (may_ops hm).2.2 t (List.mem_of_getElem? ht) o ho;have h2 := hI t (List.mem_of_getElem? ht) o ho;unfold hitO at hh;simp only [Bool.and_eq_true, decide_eq_true_eq] at hh;have h3 := h1.2.2.2 hh.1;unfold OpI at h2;refine ⟨h3, WalkArith.wf_i64 (by dsimp only; omega), WalkArith.wf_i64 (by dsimp only; omega)⟩
theorem zero_wf : VWf (0, 0) := ⟨by decide, by decide⟩
theorem valsO_wf {h : Hst} (hm : mayH h = true) (hI : HInt h) {a key : Int} : ∀ v ∈ valsO a key h.l, VWf v := by
 intro v hv;rcases List.mem_cons.1 hv with rfl | hv
 ·exact zero_wf
 ·unfold leftL at hv;obtain ⟨x, hx, hxv⟩ := List.mem_filterMap.1 hv;obtain ⟨i, hi⟩ := List.mem_iff_getElem?.1 hx;rw [List.getElem?_zipIdx] at hi
  cases ht : h.l[i]? with
  | none => rw [ht] at hi; cases hi
  | some t =>
   rw [ht] at hi;simp at hi;subst hi;exact (forT_wf hm hI (by simpa using ht) hxv).2
theorem valsO_take {a key : Int} {l : List Tx} {k : Nat} {t : Tx} (h : l[k]? = some t) : valsO a key (l.take (k + 1)) = valsO a key (l.take k) ++ (forT a key k t).toList := by
 unfold valsO;rw [leftL_take h]
 rfl
theorem info_val : (Tryz.prog.info? 38).map (fun i => (i.zero, i.size, i.bytes)) = some (some (.agg #[.int .i64 0, .int .i64 0]), 2, 16) := by kernel_rfl
theorem own_low {w : World} {b b' : Nat} {e : TypeId} {size : Nat} {v : Value} {n : Nat} {xs : List Value} (h : w.ownsRow b e size v n xs) (hb : b' ≤ b) : w.ownsRow b' e size v n xs := by
 refine ⟨h.1, ?_⟩;rcases h.2 with hn | ⟨g, cap, cur, hv, hbg, rest⟩
 ·exact .inl hn
 ·exact .inr ⟨g, cap, cur, hv, Nat.le_trans hb hbg, rest⟩
set_option maxRecDepth 100000 in
theorem kvalues_own (A0 A1 A2 : Option Addr) (n0 n1 n2 c0 c1 c2 B : Nat) (h : Hst) (i j : Nat) (t : Tx) (o : Op4) (w : World) (hg : HIn w B A0 A1 A2 n0 n1 n2 h) (hm : mayH h = true) (hI : HInt h) (hx : h.l[i]? = some t) (ho : t.ops[j]? = some o) :
  Calls Tryz.prog 43 #[hval A0 A1 A2 n0 n1 n2 c0 c1 c2, .agg #[.int .i64 (i : Int), .int .i64 (j : Int)]] w fun e w' => ∃ V, (e = .returned V ∧ w'.ownsRow w.heap.size 38 2 V (sortV (valsO (i : Int) o.key h.l)).length (edgeC (sortV (valsO (i : Int) o.key h.l)))) ∧ Only [] w w' := by
 obtain ⟨i0, hi, hz0, hz1, hz2⟩ := info_parts info_val;have hmm := @run_makeMap Tryz.prog;obtain ⟨key, hkey⟩ : ∃ key, key = o.key := ⟨_, rfl⟩;rw [← hkey];have HFR := Hd (fun (k : Nat) (t : Tx) w' (ht : h.l[k]? = some t) (O : Only [] w w') => kforread_any A0 A1 A2 n0 n1 n2 c0 c1 c2 B h (i : Int) (j : Int) key k t w' (hg.same O) ht);have HFW := Hd (fun (k : Nat) (t : Tx) (v : Int × Int) (ht : h.l[k]? = some t) (hv : forT (i : Int) key k t = some v) => (forT_wf hm hI ht hv).2);have HVW := Hd (valsO_wf hm hI (a := (i : Int)) (key := key));have HN2 := Hd hg.n2;have hn2 : n2 ≤ 40 := by rw [← hg.n2]; exact (may_ops hm).1
 obtain ⟨bl, off, A', cp, rfl, -, hbw, hT, hOk⟩ := hg.at_.r2.at_ hx;have hi2 : i < n2 := by rw [← hg.n2]; exact (List.getElem?_eq_some_iff.1 hx).1
 obtain ⟨bo, oo, rfl, -, hbo, hP⟩ := row_op hOk.row ho;have hjm := (List.getElem?_eq_some_iff.1 ho).1;have hkc := hP.c1;rw [← hkey] at hkc;have HKC := Hd hkc;have HTC := Hd hT.c2;dsimp only at HTC;generalize t.ops.length = m at *;have hi0 : (0 : Int) ≤ (i : Int) := by omega
 have hj0 : (0 : Int) ≤ (j : Int) := by omega
 have hi2' : (i : Int) < (n2 : Int) := by omega
 have hjm' : (j : Int) < (m : Int) := by omega
 have HN0 := Hd hz0;have HN1 := Hd hz1;unfold hval at HFR ⊢;clear hg hm hI hx ho hOk hP hT hkc hkey;have HO1 := Hd (((Only.refl [] w).alloc (.cells #[.slice A0 n0 c0, .slice A1 n1 c1, .slice (some ⟨bl, off, none⟩) n2 c2] 25)).alloc (.cells #[.int .i64 (i : Int), .int .i64 (j : Int)] 27));have HB1 := Hd ((Blk.made w 25 #[.slice A0 n0 c0, .slice A1 n1 c1, .slice (some ⟨bl, off, none⟩) n2 c2]).alloc (.cells #[.int .i64 (i : Int), .int .i64 (j : Int)] 27));have HP1 := Hd (Blk.made (w.alloc (.cells #[.slice A0 n0 c0, .slice A1 n1 c1, .slice (some ⟨bl, off, none⟩) n2 c2] 25)) 27 #[.int .i64 (i : Int), .int .i64 (j : Int)]);simp only [World.size_alloc] at HP1;go_enter Tryz.func43, Tryz.ntmps43;go_upto_region 1 with (fail)
 generalize ((w.alloc (.cells #[.slice A0 n0 c0, .slice A1 n1 c1, .slice (some ⟨bl, off, none⟩) n2 c2] 25)).alloc (.cells #[.int .i64 (i : Int), .int .i64 (j : Int)] 27)) = w1 at *;generalize hgp : w.heap.size + 1 = gp at *;generalize hgg : w.heap.size = g at *;have hgz : g ≤ w1.heap.size := by have := HO1.out.size; omega
 have HM1 := Hd (World.ownsMap_made (H := Unit) w1 Tryz.prog 38 (plainElem Tryz.prog 3));go_upto_region 2 with (refine wpList_insert_own _ rfl _ _ _ 97 rfl 38 3 law_val Tryz.underlying97 (plainElem Tryz.prog 3) w1.heap.size 0 (.map []) rfl HM1.out (by unfold maxLen; omega) _ _ _ rfl rfl (key_val (v := (0, 0)) zero_wf) _ [] (plainElem_int Tryz.underlying3 (by decide)) ?_; intro w2 hown2 hgrow2)
 have O2 : Only [w1.heap.size] (w1.alloc (.map #[] 0)) w2 := Only.of_grown hgrow2 (fun x hx _ => by cases hx; simp);have HO2 := Hd ((HO1.out.alloc (.map #[] 0)).step O2 (fun x hx hl => by simp at hx; omega));have HB2 := Hd (O2.blk (HB1.out.alloc (.map #[] 0)) (by have := HB1.out.lt; simp; omega));have HP2 := Hd (O2.blk (HP1.out.alloc (.map #[] 0)) (by have := HP1.out.lt; simp; omega));obtain ⟨D, hD⟩ : ∃ D : DataW Unit, D = (DataW.map []).put (kV (0, 0)) (.lit (.int .i64 (-1))) := ⟨_, rfl⟩;rw [← hD] at hown2;have HD2 : HasV D [(0, 0)] := by rw [hD]; exact HasV.nil.put Maps.isMap_empty zero_wf _
 have HM2 := Hd hown2;generalize hgm : w1.heap.size = gm at *;have hgm1 : Hid (g ≤ gm) := Hd hgz;clear O2 HO1 HB1 HP1 HM1 hown2 hgrow2 hD hmm;have lB := HB2.out.lt;have y2 := HB2.out.at_ 2;simp at y2;go_wp2_with fail
 go_loopw [17] (fun iv wr => ∃ (k : Nat) (D : DataW Unit), iv = .int .i64 k ∧ k ≤ n2 ∧ HasV D (valsO (i : Int) key (h.l.take k)) ∧ Hid (wr.ownsMap Tryz.prog 38 (plainElem Tryz.prog 3) gm (k + 1) D) ∧ Hid (Blk wr g 25 #[.slice A0 n0 c0, .slice A1 n1 c1, .slice (some ⟨bl, off, none⟩) n2 c2]) ∧ Hid (Blk wr gp 27 #[.int .i64 (i : Int), .int .i64 (j : Int)]) ∧ Hid (Only [] w wr)) (fun iv _ => n2 - (intOf iv).toNat)
 case atStart => exact ⟨0, D, rfl, by omega, HD2, HM2, HB2, HP2, HO2⟩
 case round =>
  obtain ⟨k, D1, rfl, hk, hD1, hM, hB, hP, hO⟩ := hrel;clear HD2 HM2 HB2 HP2 HO2 lB y2 D;have hsz : g ≤ wr.heap.size := by have := hO.out.size; omega
  have hgm2 : Hid (gm < wr.heap.size) := Hd (ownsMap_blt hM.out)
  by_cases hlt : k < n2
  ·obtain ⟨x, hx⟩ : ∃ x, h.l[k]? = some x := ⟨_, List.getElem?_eq_getElem (by rw [HN2.out]; exact hlt)⟩;have HWT := Hd (valsO_take (a := (i : Int)) (key := key) hx);have HCALL := Hd (fun w' (O : Only [] w w') => HFR.out k x w' hx O);have HVF := Hd (fun v => HFW.out k x v hx);have h01 : (k : Int) < (n2 : Int) := by omega
   have hk0 : (0 : Int) ≤ (k : Int) := Int.natCast_nonneg _;have hwk : IntKind.i64.wrap ((k : Int) + 1) = (k : Int) + 1 := IntWalk.i64_in _ (by omega);have hbr : bl < wr.heap.size := by omega
   have hbor : bo < wr.heap.size := by omega
   have HTC3 := Hd ((hO.out.cell (p := ⟨bl, off + i * 3 + 2, none⟩) (by show bl < _; omega) (by simp)).trans HTC.out);have HKC3 := Hd ((hO.out.cell (p := ⟨bo, oo + j * 4 + 1, none⟩) (by show bo < _; omega) (by simp)).trans HKC.out);generalize valsO (i : Int) key (h.l.take k) = pre at *;generalize hfv : forT (i : Int) key k x = v at *;clear hx hfv;go_upto_region 5 with (fail)
   have RD0 := Hd fun wq (hSw : Only [] wr wq) => aI (Bk3 (hSw.blk hB.out (by simp))) (aI (Bk2 (hSw.blk hP.out (by simp))) (aI ((hSw.cell (p := ⟨bl, off + i * 3 + 2, none⟩) hbr (by simp)).trans HTC3.out) ((hSw.cell (p := ⟨bo, oo + j * 4 + 1, none⟩) hbor (by simp)).trans HKC3.out)));refine rg1 [] [] wr ?_;have OW : Only [] wr wr.drew := (Only.refl [] wr).drew;generalize hwz : wr.drew = wz at *;clear hwz;refine trq 0 0 RD0 (h := trq 1 0 RD0 (h := tQ 2 (h := tQ 3 (h := trq 4 0 RD0 (h := tQ 5 (h := trq 6 0 RD0 (h := tQ 7 (h := tQ 8 (h := trq 9 0 RD0 (h := tQ 10 (h := trq 11 0 RD0 (h := tQ 12 (h := tQ 13 (h := trq 14 0 RD0 (h := ?_)))))))))))))))
   apply cut_1_0 (fun w gv => (Only [] wr w) ∧ (True) ∧ (Blk w gv 38 #[.int .i64 0, .int .i64 0]) ∧ (wr.heap.size ≤ gv))
   intro HST15_19
   apply cut_1_0 (fun w gv => (Only [] wr w) ∧ (True) ∧ (Blk w gv 38 #[.int .i64 0, .int .i64 0]) ∧ (wr.heap.size ≤ gv))
   intro HST19
   apply cut_0_0 (fun w  => (Only [] wr w) ∧ (True))
   intro HST15
   ·refine timed_forks (l := [15, 19]) (by kernel_rfl) (by simp) (fork_cons ⟨_, rfl, fun K hK => ?_⟩ (fork_cons ⟨_, rfl, fun K hK => ?_⟩ (fork_nil)))
    ·go_simp;refine (HCALL.out _ (hO.out.trans OW)).mono ?_;rintro e w3 ⟨rfl, O3⟩;unfold optT optV;have OW1 := OW.trans O3;have OS := O3;refine kOut hK (OW1) (h := ?_);clear hK K;refine tQ 16 (h := tQ 17 (h := tQ 18 (h := ?_)));exact HST15 w3  ⟨OW1, trivial⟩
    ·go_simp;have OW1 := OW.alloc (.cells #[.int .i64 0, .int .i64 0] 38);have OS : Only [] wz (wz.alloc (.cells #[.int .i64 0, .int .i64 0] 38)) := (Only.refl [] wz).alloc (.cells #[.int .i64 0, .int .i64 0] 38);have BV := Blk.made wz 38 #[.int .i64 0, .int .i64 0];have HGV : wr.heap.size ≤ wz.heap.size := OW.size;generalize wz.alloc (.cells #[.int .i64 0, .int .i64 0] 38) = w1 at *;generalize wz.heap.size = gv at *;refine kOut hK (OW1) (h := ?_);clear hK K;exact HST19 w1 gv ⟨OW1, trivial, BV, HGV⟩
   ·intro wz  ⟨OW, HTT⟩;refine tst (i := 19) fun K hK => ?_;go_simp;have OW1 := OW.alloc (.cells #[.int .i64 0, .int .i64 0] 38);have OS : Only [] wz (wz.alloc (.cells #[.int .i64 0, .int .i64 0] 38)) := (Only.refl [] wz).alloc (.cells #[.int .i64 0, .int .i64 0] 38);have BV := Blk.made wz 38 #[.int .i64 0, .int .i64 0];have HGV : wr.heap.size ≤ wz.heap.size := OW.size;generalize wz.alloc (.cells #[.int .i64 0, .int .i64 0] 38) = w1 at *;generalize wz.heap.size = gv at *;refine kOut hK (OW1) (h := ?_);clear hK K;exact HST15_19 w1 gv ⟨OW1, trivial, BV, HGV⟩
   ·intro wz gv ⟨OW, HTT, BV, HGV⟩;refine tst (i := 15) fun K hK => ?_;go_simp;refine (HCALL.out _ (hO.out.trans OW)).mono ?_;rintro e w3 ⟨rfl, O3⟩;unfold optT optV;have OW1 := OW.trans O3;have OS := O3;have BV1 := OS.blk BV (by simp);refine kOut hK (OW1) (h := ?_);clear hK K;refine tQ 16 (h := tQ 17 (h := tQ 18 (h := ?_)));exact HST15_19 w3 gv ⟨OW1, trivial, BV1, HGV⟩
   -- behind all of the crowd
   intro wz gv ⟨OW, HTT, BV, HGV⟩;refine tst (i := 20) fun K hK => ?_;refine wp_store_blk 38 (.tmp 7) (.tmp 37) rfl gv 38 _ #[.int .i64 (v.getD (0, 0)).1, .int .i64 (v.getD (0, 0)).2] rfl rfl BV rfl (by kernel_rfl) (by kernel_rfl) ?_;intro w9 b9 o9;have HV9b := Hd b9;have OW9 := OW.step o9 (fun i hi hl => by simp at hi; omega);clear o9 b9;refine kOut hK (OW9) (h := ?_);clear hK K;refine tQ 21 (h := ?_);refine tdn ?_;have HW9 := Hd OW9;have HO9 := Hd (hO.out.trans HW9.out);have HB9 := Hd (HW9.out.blk hB.out (by simp));have HP9 := Hd (HW9.out.blk hP.out (by simp));have HM9 := Hd (ownsMap_only hM.out HW9.out (by simp));have hgm9 : Hid (gm < w9.heap.size) := Hd (ownsMap_blt HM9.out);clear hB hP hM hO HTC3 HKC3 hbr hbor hsz hgm2 HCALL
   cases v with
   | none =>
    have HE : Hid (valsO (i : Int) key (h.l.take (k + 1)) = pre) := Hd (by rw [HWT.out]; simp);rw [Option.isSome_none];go_wp2
    go_roundw
    case rel => exact ⟨k + 1, D1, by go_num, by omega, by rw [HE.out]; exact hD1, Hd (HM9.out.mono (by omega)), HB9, HP9, HO9⟩
    case measure => simp [intOf]; omega
   | some v =>
    have HE : Hid (valsO (i : Int) key (h.l.take (k + 1)) = pre ++ [v]) := Hd (by rw [HWT.out]; rfl);have hvw := HVF.out v rfl;have HDV := fun d => hD1.put HM9.out.isMap hvw d;obtain ⟨v1, v2⟩ := v;rw [Option.isSome_some];dsimp only [Option.getD_some] at *;have lV := HV9b.out.lt;have u0 := HV9b.out.at_ 0;have u1 := HV9b.out.at_ 1;simp at u0 u1;go_wp2_with (refine wpList_mapUpdate_own _ rfl _ _ _ 97 rfl 38 3 law_val Tryz.underlying97 (plainElem Tryz.prog 3) gm (k + 1) D1 rfl HM9.out (by unfold maxLen; omega) _ _ _ rfl rfl (key_val hvw) _ [] (plainElem_int Tryz.underlying3 (WalkArith.wf_i64 (by omega))) ?_; intro w4 hown4 hgrow4)
    have O4 : Only [gm] w9 w4 := Only.of_grown hgrow4 (fun x hx _ => by cases hx; simp);have HB4 := Hd (O4.blk HB9.out (by have := ownsMap_blk HM9.out HB9.out; simpa using this));have HP4 := Hd (O4.blk HP9.out (by have := ownsMap_blk HM9.out HP9.out; simpa using this));have HO4 := Hd (HO9.out.step O4 (fun x hx hl => by simp at hx; have := hgm1.out; omega));have HM4 := Hd hown4;clear O4 hown4 hgrow4 lV u0 u1;go_wp2
    go_roundw
    case rel => exact ⟨k + 1, _, by go_num, by omega, by rw [HE.out]; exact HDV _, HM4, HB4, HP4, HO4⟩
    case measure => simp [intOf]; omega
  ·have hkn : k = n2 := by omega
   subst hkn;have hd2 : decide ((k : Int) < (k : Int)) = false := by simp
   have HDE : HasV D1 (valsO (i : Int) key h.l) := by
    rw [List.take_of_length_le (by rw [HN2.out]; exact Nat.le_refl _)] at hD1;exact hD1
   obtain ⟨wo, hwo⟩ : ∃ wo : World, wo = wr := ⟨_, rfl⟩;subst hwo;clear hD1 hB hP HTC HKC HFR HFW;go_wp2_with (at_range; refine wpList_range_own _ rfl _ 97 rfl 38 3 law_val Tryz.underlying97 (plainElem Tryz.prog 3) gm (k + 1) D1 rfl hM.out ?_; intro w0 hrg0 hg0 hs0)
   go_frame
   have HO0 := Hd (hO.out.trans (Only.of_grown (S := []) hg0 (fun x hx => by cases hx)));have HR0 := Hd hrg0;have hsz0 : Maps.size D1 ≤ k + 1 := hM.out.size_le;obtain ⟨r, hr⟩ : ∃ r, r = wo.heap.size := ⟨_, rfl⟩;rw [← hr] at HR0 ⊢;have hgr : Hid (g ≤ r) := Hd (by omega);clear hrg0 hg0 hs0 hr hO hM hsz
   go_loopw [9] (fun V wr => ∃ (left : Lit → Bool) (cnt : Nat) (zs : List V2), Hid (wr.ranges Tryz.prog 38 (plainElem Tryz.prog 3) gm r (k + 1) D1 left cnt) ∧ MetV D1 left zs ∧ zs.length + cnt ≤ k + 1 ∧ Hid (wr.ownsRow g 38 2 V zs.length (edgeC zs)) ∧ Hid (Only [] w wr)) (fun _ wr => wr.rangeLeft gm r)
   case atStart => exact ⟨_, _, [], HR0, MetV.start D1, by simpa using hsz0, Hd ⟨rfl, .inl ⟨rfl, rfl⟩⟩, HO0⟩
   case round =>
    obtain ⟨left, cnt, zs, hrg, hmet, hcs, hrow, hO⟩ := hrel;clear HR0 HO0 hsz0;go_wp2_with (at_next; refine wpList_next_ranges _ rfl _ rfl 38 law_val (plainElem Tryz.prog 3) agV (Value.int .i64) (fun key kl hk => by obtain ⟨x, -, hx, -⟩ := key_inv hk; exact ⟨x, hx⟩) (fun v y hv => by obtain ⟨c, rfl, _⟩ := plainElem_int_inv Tryz.underlying3 hv; exact ⟨c, rfl⟩) gm r (k + 1) D1 left cnt rfl hrg.out ?_ ?_)
    ·intro hc0 hl0;have HEND := Hd (hmet.all HDE HVW.out hl0);obtain ⟨A8, c8, e8, -, -, -, hrow8⟩ := own_row hrow.out;subst e8;have HS := Hd (vsorted_own A8 zs.length c8 _ zs wr rfl (by omega) hrow8);rw [HEND.out] at HS;clear hrg hmet hrow hrow8 hl0 HDE HEND hcs;generalize zs.length = q8 at *;go_wp2_with fail
     refine (HS.out).mono ?_;rintro e w9 ⟨O9, V9, rfl, hr9⟩;have hgle : g ≤ wr.heap.size := hgg ▸ hO.out.size;have HR9 := Hd (own_low hr9 hgle);have HO9 := Hd (hO.out.trans O9);clear O9 hr9 HS;go_wp2
     go_ret
     exact ⟨_, ⟨rfl, by rw [hgg]; exact HR9.out⟩, HO9.out⟩
    ·intro x1 x2 c kl yd yp w2 cnt2 hkey hlk hv hat hrg2 hlt hg2 hs2 hen;obtain ⟨⟨v1, v2⟩, hvw, ev, rfl⟩ := key_inv hkey;unfold agV at ev;simp at ev;obtain ⟨rfl, rfl⟩ := ev;have hmet2 := hmet.step hvw (Maps.has_true_of_atKey hat);have O2 : Only [r] wr w2 := Only.of_grown hg2 (fun x hx _ => by cases hx; simp);have HMET := Hd hmet2;have HOW2 := Hd (own_only hrow.out O2 (fun gg hg => by have := (ranges_own hrg.out hrow.out).2; simp [hg] at this; simp; omega));have HRG2 := Hd hrg2;have HO2 := Hd (hO.out.step O2 (fun x hx hl => by simp at hx; have := hgr.out; omega));have HLE := Hd (hrg.out.left_eq);have hsz2 : Hid (g ≤ w2.heap.size) := Hd (by have := HO2.out.size; omega);unfold agV at *;dsimp only at *;clear hs2 hmet hmet2 O2 hrow hrg hrg2 hO hkey hat hv hg2 hlk;go_upto_region 13 with (fail)
     have HO3 := Hd (HO2.out.alloc (.cells #[.int .i64 x1, .int .i64 x2] 38));have HOW3 := Hd (own_only HOW2.out ((Only.refl [] w2).alloc (.cells #[.int .i64 x1, .int .i64 x2] 38)) (by simp));have HRG3 := Hd (ranges_only HRG2.out ((Only.refl [] w2).alloc (.cells #[.int .i64 x1, .int .i64 x2] 38)) (by simp) (by simp));have HV3 := Hd (Blk.made w2 38 #[.int .i64 x1, .int .i64 x2]);have hsz3 : g ≤ (w2.alloc (.cells #[.int .i64 x1, .int .i64 x2] 38)).heap.size := by have := hsz2.out; simp; omega
     clear HO2 HOW2 HRG2 hsz2 hen;generalize (w2.alloc (.cells #[.int .i64 x1, .int .i64 x2] 38)) = w3 at *;generalize w2.heap.size = gv at *;have lV := HV3.out.lt;have u0 := HV3.out.at_ 0;have u1 := HV3.out.at_ 1;simp at u0 u1;go_wp2_with (at_builtin; refine wpList_append_row _ rfl (.tmp 50) (.tmp 52) _ rfl g 38 i0 _ 2 16 Tryz.underlying33 hi hz0 hz1 hz2 rfl (by omega) _ _ _ rfl (own_only HOW3.out ((Only.refl [] _).alloc _) (by simp)) (w3.heap.size + 1) (some ⟨w3.heap.size, 0, none⟩) 1 1 [.int .i64 x1, .int .i64 x2] rfl rfl (row_lit w3 38 #[.int .i64 x1, .int .i64 x2]) (by intro u hu; simp at hu; rcases hu with rfl | rfl <;> rfl) (by unfold maxLen; omega) (by omega) (by simp; omega) ?_; intro v8 w8 hown8 hgrow hat)
     have HVa := own_only HOW3.out ((Only.refl [] w3).alloc (.cells #[.int .i64 x1, .int .i64 x2] 38)) (by simp);have hrg4 := ranges_only HRG3.out ((Only.refl [] w3).alloc (.cells #[.int .i64 x1, .int .i64 x2] 38)) (by simp) (by simp);have HRG8 := Hd (ranges_only hrg4 (only_grown hgrow) (ranges_own hrg4 HVa).1 (ranges_own hrg4 HVa).2);have HO8 := Hd ((HO3.out.alloc (.cells #[.int .i64 x1, .int .i64 x2] 38)).step (only_grown hgrow) (fun i hi hl => by have := own_new HVa (S := []) i hi; rw [hgg] at hl; exact this hl));have HOW8 : Hid (w8.ownsRow g 38 2 v8 (zs ++ [(x1, x2)]).length (edgeC (zs ++ [(x1, x2)]))) := Hd (by
      rw [edgeC_append]
      simpa [edgeC] using hown8)
     have HL8 := Hd (HRG8.out.left_eq);clear hgrow hat hown8 hrg4 HVa HOW3 HRG3 HO3 lV u0 u1;go_wp2
     go_roundw
     case rel => first | exact ⟨_, cnt2, zs ++ [(x1, x2)], HRG8, HMET.out, by simp; omega, HOW8, HO8⟩ | exact ⟨_, ⟨_, cnt2, zs ++ [(x1, x2)], HRG8, HMET.out, by simp; omega, HOW8, HO8⟩, rfl⟩
     case measure => rw [HL8.out, HLE.out]; exact hlt
end Go.Proofs.YtjfbeeogiejopaaGreatDoor
