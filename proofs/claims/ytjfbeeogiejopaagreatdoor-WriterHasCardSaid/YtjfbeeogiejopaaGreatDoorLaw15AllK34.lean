/- value.Sorted: what Compact leaves of values in order; SortFunc and Compact at no slice. value.Sorted: the walk. A region that draws its order: several operations may come up next; what comes behind some of them is shown once, in whatever order they came up. -/
import Derived.Test.YtjfbeeogiejopaaGreatDoorLaw15AllK33
import Derived.Test.YtjfbeeogiejopaaGreatDoorLaw15AllK3
import Derived.Test.YtjfbeeogiejopaaGreatDoorLaw15AllK8
set_option linter.unusedVariables false
set_option linter.unusedSimpArgs false
namespace Go.Proofs.YtjfbeeogiejopaaGreatDoor
open Go.RowKit
open Go.Lib hiding intOf
attribute [local go_sem ↓] Go.wp_at_zero Go.wp_at_succ
/-- The mathematics of what Compact leaves of values in order. -/
theorem compactV_rise (zs : List (Int × Int)) (hn : ∀ z ∈ zs, mayP z = true) (hs : zs.Pairwise fun a b => lessV b a = false) : ∀ k, k ≤ zs.length →
  ((compactUpTo zs.toArray k).Pairwise fun a b => lessV a b = true) ∧ ∀ y, y ∈ compactUpTo zs.toArray k ↔ y ∈ zs.take k := by
 have hg : ∀ j, (h : j < zs.length) → zs.toArray[j]! = zs[j] := fun j h => by
  rw [getElem!_pos zs.toArray j (by simpa using h)]
  rfl
 intro k
 induction k with
 | zero => intro _; exact ⟨by simp [compactUpTo], fun y => by simp [compactUpTo]⟩
 | succ k ih =>
  intro hk
  obtain ⟨ih1, ih2⟩ := ih (by omega)
  have hlt : k < zs.length := by omega
  have htk : zs.take (k + 1) = zs.take k ++ [zs[k]] := by rw [List.take_add_one, List.getElem?_eq_getElem hlt]; rfl
  rw [compactUpTo_succ]
  by_cases hkp : keeps zs.toArray k = true
  ·rw [if_pos hkp, hg k hlt]
   refine ⟨List.pairwise_append.2 ⟨ih1, List.pairwise_singleton _ _, fun a ha b hb => ?_⟩, fun y => by rw [List.mem_append, ih2, htk, List.mem_append]⟩
   rw [List.mem_singleton] at hb
   subst hb
   have ha2 := (ih2 a).1 ha
   obtain ⟨j, hj, e⟩ := List.mem_iff_getElem.1 ha2
   rw [List.getElem_take] at e
   rw [List.length_take] at hj
   have hjk : j < k := by omega
   unfold keeps at hkp
   have hkp := of_decide_eq_true hkp
   have hk1 : 0 < k := by omega
   have hne : zs[k] ≠ zs[k - 1]'(by omega) := by
    rcases hkp with h | h
    ·omega
    ·rw [hg k hlt, hg (k - 1) (by omega)] at h
     exact h
   have hS := List.pairwise_iff_getElem.1 hs
   have hlast : lessV (zs[k - 1]'(by omega)) zs[k] = true := by
    cases hc : lessV (zs[k - 1]'(by omega)) zs[k] with
    | true => rfl
    | false => exact absurd (lessV_total (hn _ (List.getElem_mem _)) (hn _ (List.getElem_mem _)) hc (hS (k - 1) k (by omega) hlt (by omega))).symm hne
   by_cases hj1 : j = k - 1
   ·subst hj1
    rw [← e]
    exact hlast
   ·have h1 := hS j (k - 1) (by omega) (by omega) (by omega)
    rw [← e]
    cases hc : lessV (zs[j]'(by omega)) (zs[k - 1]'(by omega)) with
    | true => exact lessV_trans hc hlast
    | false =>
     have e2 := lessV_total (hn _ (List.getElem_mem _)) (hn _ (List.getElem_mem _)) hc h1
     rw [e2]
     exact hlast
  ·have hkf : keeps zs.toArray k = false := by simpa using hkp
   rw [if_neg hkp, List.append_nil]
   refine ⟨ih1, fun y => ?_⟩
   rw [ih2, htk, List.mem_append, List.mem_singleton]
   refine ⟨.inl, ?_⟩
   rintro (h | rfl)
   ·exact h
   ·unfold keeps at hkf
    have hkf := of_decide_eq_false hkf
    have hk1 : k ≠ 0 := fun h => hkf (.inl h)
    have he : zs[k] = zs[k - 1]'(by omega) := by
     have := Classical.not_not.1 (fun h => hkf (.inr h))
     rw [hg k hlt, hg (k - 1) (by omega)] at this
     exact this
    rw [he]
    exact List.mem_iff_getElem.2 ⟨k - 1, by rw [List.length_take]; omega, by rw [List.getElem_take]⟩
theorem compactV_sort (l bs : List (Int × Int)) (hn : ∀ b ∈ bs, mayP b = true) (hs : bs.Pairwise fun a b => lessV b a = false) (hm : ∀ y, y ∈ bs ↔ y ∈ l ∧ mayP y = true) :
  compactUpTo bs.toArray bs.length = sortV l := by
 have h := compactV_rise bs hn hs bs.length (Nat.le_refl _)
 refine sortV_unique h.1 fun y => ?_
 rw [← hm, h.2, List.take_length]
set_option maxHeartbeats 2000000 in
theorem vins_none (fv : Value) (w : World) :
  Calls Tryz.prog 127 #[.slice none 0 0, .int .i64 0, .int .i64 0, fv] w fun e w' => e = .returned (.tuple #[]) ∧ w = w' := by
 go_enter Tryz.func127, Tryz.ntmps127
 go_wp2
 refine wp_loop_rounds 1 ?_
 rw [rounds_succ]
 go_wp2
 go_end0
 exact ⟨rfl, rfl⟩
set_option maxHeartbeats 2000000 in
set_option maxRecDepth 10000 in
theorem vpdq_none (lim : Int) (fv : Value) (w : World) :
  Calls Tryz.prog 111 #[.slice none 0 0, .int .i64 0, .int .i64 0, .int .i64 lim, fv] w fun e w' => e = .returned (.tuple #[]) ∧ w = w' := by
 have HI := Lib.hid (fun w' => vins_none fv w')
 go_enter Tryz.func111, Tryz.ntmps111
 go_wp2
 refine wp_loop_rounds 1 ?_
 rw [rounds_succ]
 go_wp2_with fail
 refine (HI.out _).mono ?_
 rintro e w' ⟨rfl, rfl⟩
 go_wp2
 (try simp only [Exit.inBlock, Exit.then]); refine bodyPost_ret (results_none rfl _ _ _) rfl ?_
 exact ⟨rfl, rfl⟩
theorem vlen_none (w : World) : Calls Tryz.prog 112 #[.int .u64 0] w fun e w' => e = .returned (.int .i64 0) ∧ w' = w :=
 Any.bits_Len (SlLaysF0.n15.bits (P := Tryz.prog) (ρ := Tryz.laysSortZ_ren) { Tryz.laysSortZ with }) 0 w (by omega) (by omega)
set_option maxHeartbeats 2000000 in
theorem vsortf_none (fv : Value) (w : World) :
  Calls Tryz.prog 95 #[.slice none 0 0, fv] w fun e w' => e = .returned (.tuple #[]) ∧ w = w' := by
 have HP := Lib.hid (fun w' => vpdq_none 0 fv w')
 have HL := Lib.hid (fun w' => vlen_none w')
 have hw : IntKind.u64.wrap 0 = 0 := by rfl
 go_enter Tryz.func95, Tryz.ntmps95
 go_wp2_with fail
 refine (HL.out _).mono ?_
 rintro e w' ⟨rfl, rfl⟩
 go_wp2_with fail
 refine (HP.out _).mono ?_
 rintro e w' ⟨rfl, rfl⟩
 go_wp2
 go_end0
 exact ⟨rfl, rfl⟩
set_option maxHeartbeats 1000000 in
theorem vcompact_none (w : World) : Calls Tryz.prog 97 #[.slice none 0 0] w fun e w' => e = .returned (.slice none 0 0) ∧ w = w' := by
 go_enter Tryz.func97, Tryz.ntmps97
 go_wp2
 go_ret
 exact ⟨rfl, rfl⟩
end Go.Proofs.YtjfbeeogiejopaaGreatDoor

set_option linter.unusedVariables false
set_option linter.unusedSimpArgs false
namespace Go.Proofs.YtjfbeeogiejopaaGreatDoor
open Go.RowKit
open Go.Lib hiding intOf
attribute [local go_sem ↓] Go.wp_at_zero Go.wp_at_succ
theorem vinfo : (Tryz.prog.info? 38).map (fun i => (i.zero, i.size, i.bytes)) = some (some (.agg #[.int .i64 0, .int .i64 0]), 2, 16) := by kernel_rfl
set_option maxRecDepth 10000 in
set_option maxHeartbeats 4000000 in
theorem vsorted_any (A : Option Addr) (n c B : Nat) (zs : List (Int × Int)) (w : World) (hn : zs.length = n) (hN : n ≤ 1000) (hA : Row w B A (edgeC zs)) :
  Calls Tryz.prog 72 #[.slice A n c] w fun e w' => Only [] w w' ∧ ∃ A' m c', e = .returned (.slice A' m c') ∧ (sortV zs).length = m ∧ Row w' w'.heap.size A' (edgeC (sortV zs)) := by
 obtain ⟨i0, hi, hz0, hz1, hz2⟩ := info_parts vinfo
 have HMY := Lib.hid (fun (z : Int × Int) w' => (may_anyV z.1 z.2 w'))
 have HN := Lib.hid hn
 have HROW := Lib.hid hA
 clear hn hA
 go_enter Tryz.func72, Tryz.ntmps72
 go_wp2_with fail
 go_loopw [3, 8] (fun V iv wr => ∃ (k m : Nat), iv = .int .i64 k ∧ k ≤ n ∧ m ≤ k ∧ Hid (((zs.take k).filter mayP).length = m) ∧ Hid (wr.ownsRow w.heap.size 38 2 V m (edgeC ((zs.take k).filter mayP))) ∧ Hid (Only [] w wr)) (fun _ iv _ => n - (intOf iv).toNat)
 case atStart => exact ⟨0, 0, rfl, by omega, by omega, Lib.hid rfl, Lib.hid ⟨rfl, .inl ⟨rfl, rfl⟩⟩, Lib.hid (Only.refl [] w)⟩
 case round =>
  obtain ⟨k, m, rfl, hk, hm, HM, HOWN, HO⟩ := hrel
  by_cases hlt : k < n
  ·have h01 : (k : Int) < (n : Int) := by omega
   have hk0 : (0 : Int) ≤ (k : Int) := Int.natCast_nonneg _
   have hwk : IntKind.i64.wrap ((k : Int) + 1) = (k : Int) + 1 := IntWalk.i64_in _ (by omega)
   obtain ⟨b, off, rfl, hbB, hbw, hcell⟩ := HROW.out.open_ (k := k * 2) (by rw [edgeC_len, HN.out]; omega)
   obtain ⟨l, hl⟩ : ∃ l, zs[k]? = some l := ⟨_, List.getElem?_eq_getElem (by rw [HN.out]; exact hlt)⟩
   have hee := edgeC_get zs k l hl
   have hck0 : wr.cell? ⟨b, off + k * 2, none⟩ = some (.int .i64 l.1) := (HO.out.cell (p := ⟨b, off + k * 2, none⟩) hbw (by simp)).trans (hcell _ _ hee.1)
   have hck1 : wr.cell? ⟨b, off + k * 2 + 1, none⟩ = some (.int .i64 l.2) := by rw [Nat.add_assoc]; exact (HO.out.cell (p := ⟨b, off + (k * 2 + 1), none⟩) hbw (by simp)).trans (hcell _ _ hee.2)
   have HI := Lib.hid (fun w' => HMY.out l w')
   have hwsz := HO.out.size
   obtain ⟨v, hv⟩ : ∃ v, v = mayP l := ⟨_, rfl⟩
   have hv2 : v = mayB l.1 l.2 := hv
   rw [← hv2] at HI
   have HV := Lib.hid hv
   have HLK := Lib.hid hl
   clear hcell hl hv hv2 hee
   obtain ⟨x, y⟩ := l
   dsimp only at hck0 hck1 HI
   cases v with
   | true =>
    have HTK : Hid ((zs.take (k + 1)).filter mayP = (zs.take k).filter mayP ++ [(x, y)]) := Lib.hid (by
     rw [List.take_add_one, HLK.out, List.filter_append]
     congr 1
     simp [HV.out.symm])
    have hlen : (edgeC ((zs.take k).filter mayP)).length = m * 2 := by rw [edgeC_len, HM.out]
    go_wp2_with fail
    refine (HI.out _).mono ?_
    rintro e w2 ⟨rfl, hX2⟩
    have bV := hX2.blk (made2 wr 38 x y) (by simp)
    have hO2 := ((Only.refl [] wr).alloc (.cells #[.int .i64 x, .int .i64 y] 38)).trans hX2.only
    have HOWN2 := Lib.hid (own_only HOWN.out hO2 (by simp))
    have HO2 := Lib.hid (HO.out.trans hO2)
    have hw2 := hO2.size
    have lV := bV.lt
    have v0 := bV.at_ 0
    have v1 := bV.at_ 1
    simp at v0 v1
    clear hO2 hX2 bV
    go_wp2_with (at_builtin; refine wpList_append_row _ rfl (.tmp 14) (.tmp 16) _ rfl w.heap.size 38 i0 _ 2 16 Tryz.underlying33 hi hz0 hz1 hz2 rfl (by omega) _ m (edgeC ((zs.take k).filter mayP)) rfl (own_only HOWN2.out ((Only.refl [] _).alloc _) (by simp)) (w2.heap.size + 1) (some ⟨w2.heap.size, 0, none⟩) 1 1 [.int .i64 x, .int .i64 y] (by rfl) (by rfl) (row_lit w2 38 #[.int .i64 x, .int .i64 y]) (by intro u hu; simp at hu; rcases hu with rfl | rfl <;> rfl) (by unfold maxLen; omega) (by omega) (by simp; omega) ?_; intro v3 w3 hown3 hgrow hat)
    have REL : w3.ownsRow w.heap.size 38 2 v3 (m + 1) (edgeC ((zs.take (k + 1)).filter mayP)) ∧ Only [] w w3 ∧ ((zs.take (k + 1)).filter mayP).length = m + 1 := by
     refine ⟨?_, (HO2.out.alloc _).step (only_grown hgrow) (own_new HOWN2.out), ?_⟩
     ·rw [HTK.out, edgeC_append]
      exact hown3
     ·rw [HTK.out, List.length_append, HM.out]
      rfl
    have HREL := Lib.hid REL
    clear REL hown3 hgrow hat hlen
    go_wp2
    go_roundw
    case rel => exact ⟨k + 1, m + 1, by go_num, by omega, by omega, Lib.hid HREL.out.2.2, Lib.hid HREL.out.1, Lib.hid HREL.out.2.1⟩
    case measure => simp [intOf]; omega
   | false =>
    go_wp2_with fail
    refine (HI.out _).mono ?_
    rintro e w2 ⟨rfl, hX2⟩
    have hO2 := ((Only.refl [] wr).alloc (.cells #[.int .i64 x, .int .i64 y] 38)).trans hX2.only
    have HOWN2 := Lib.hid (own_only HOWN.out hO2 (by simp))
    have HO2 := Lib.hid (HO.out.trans hO2)
    have HTK2 : Hid ((zs.take (k + 1)).filter mayP = (zs.take k).filter mayP) := Lib.hid (by
     rw [List.take_add_one, HLK.out, List.filter_append]
     simp [HV.out.symm])
    clear hO2 hX2
    go_wp2
    go_roundw
    case rel => exact ⟨k + 1, m, by go_num, by omega, by omega, Lib.hid (by rw [HTK2.out]; exact HM.out), Lib.hid (by rw [HTK2.out]; exact HOWN2.out), HO2⟩
    case measure => simp [intOf]; omega
  ·have hkn : k = n := by omega
   subst hkn
   have hd : decide ((k : Int) < (k : Int)) = false := by simp
   have HALL : Hid ((zs.take k).filter mayP = zs.filter mayP) := Lib.hid (by rw [List.take_of_length_le (by rw [HN.out]; exact Nat.le_refl _)])
   have HFM : Hid (∀ y, y ∈ (zs.take k).filter mayP ↔ y ∈ zs ∧ mayP y = true) := Lib.hid (fun y => by rw [HALL.out, List.mem_filter])
   generalize (zs.take k).filter mayP = fair at *
   obtain ⟨hl0, hv⟩ := HOWN.out
   rcases hv with ⟨hv, hm0⟩ | ⟨g, cap, cur, hv, hbase, hg, hnc, hcm, hsz, ht⟩
   ·subst hv
    subst hm0
    have hfe : fair = [] := List.eq_nil_of_length_eq_zero HM.out
    subst hfe
    have HS := Lib.hid (fun w' => vsortf_none (.func (.func 96) #[] #[]) w')
    have HC := Lib.hid (fun w' => vcompact_none w')
    have HE : Hid (sortV zs = []) := Lib.hid (by
     have := (sortV_vals zs).2
     cases hs : sortV zs with
     | nil => rfl
     | cons y t =>
      rw [hs] at this
      have h1 := (HFM.out y).2 ((this y).1 (List.mem_cons_self ..))
      cases h1)
    clear hl0 HOWN
    go_wp2_with fail
    refine (HS.out _).mono ?_
    rintro e w5 ⟨rfl, rfl⟩
    go_wp2_with fail
    refine (HC.out _).mono ?_
    rintro e w6 ⟨rfl, rfl⟩
    go_wp2
    go_ret
    exact ⟨HO.out, none, 0, 0, rfl, by rw [HE.out]; rfl, by rw [HE.out]; exact .inl rfl⟩
   ·subst hv
    have h0 : Below w.heap.size w wr := HO.out.below (Nat.le_refl _) (by simp)
    have HS := Lib.hid (vsortf_own w wr g cap m cur fair HM.out (fun b hb => ((HFM.out b).1 hb).2) (by omega) hg ht hbase h0)
    have HC := Lib.hid (fun w' (bs : List (Int × Int)) (hl : bs.length = m) hH hlt h0' => vcompact_own w w' g cap m bs.toArray (by simpa using hl) (by omega) hnc hH hbase hlt h0')
    clear hl0 HOWN hg ht hbase hsz h0 hnc hcm
    go_wp2_with fail
    refine (HS.out).mono ?_
    rintro e w5 ⟨rfl, hb5, hg5, bs, hbl, hbp, hbs, hbc⟩
    have hH : Go.Sort.HoldsK encP 2 w5 g 0 bs.toArray := by
     intro t ht2
     have ht3 : t < m * 2 := by simpa [hbl] using ht2
     have hj : t / 2 < m := by omega
     obtain ⟨q0, q1, q2, q3⟩ := hbc (t / 2) hj
     have hgj : bs.toArray[t / 2]! = bs.getD (t / 2) (0, 0) := by
      rw [getElem!_pos bs.toArray (t / 2) (by simpa [hbl] using hj), List.getD_eq_getElem?_getD, List.getElem?_eq_getElem (by omega)]
      rfl
     show w5.cell? ⟨g, 0 + t, none⟩ = some ((Go.Sort.flatK encP 2 bs.toArray)[t]!) ∧ _
     rw [Go.Sort.get_flatK _ _ _ _ (by simpa [hbl] using ht3), hgj, Nat.zero_add]
     rcases Nat.mod_two_eq_zero_or_one t with h2 | h2
     ·rw [h2]
      have e : t / 2 * 2 = t := by omega
      rw [e] at q0 q2
      exact ⟨q0, q2⟩
     ·rw [h2]
      have e : t / 2 * 2 + 1 = t := by omega
      rw [e] at q1 q3
      exact ⟨q1, q3⟩
    have HC5 := HC.out w5 bs hbl hH hg5 hb5
    have hcs := compactV_sort zs bs (fun b hb => ((HFM.out b).1 (hbp.mem_iff.1 hb)).2) hbs (fun y => by rw [hbp.mem_iff, HFM.out])
    rw [hbl] at hcs
    rw [hcs] at HC5
    have HC6 := Lib.hid HC5
    clear hb5 hg5 hbl hbp hbs hbc hH HC5 hcs HC
    go_wp2_with fail
    refine (HC6.out).mono ?_
    rintro e w6 ⟨rfl, hb6, hrow⟩
    have HB6 := Lib.hid hb6
    have HR6 := Lib.hid hrow
    clear hb6 hrow
    go_wp2
    go_ret
    exact ⟨Only.of_below HB6.out [], _, _, _, rfl, rfl, HR6.out⟩
end Go.Proofs.YtjfbeeogiejopaaGreatDoor

set_option linter.unusedVariables false
set_option linter.unusedSimpArgs false
namespace Go.Proofs.YtjfbeeogiejopaaGreatDoor
open Go.RowKit
section
variable {P : Program} {ops : Array Oper} {Q : Exit → Act → World → Prop} {md : Region.Mode} {S : Array Bool → World → Prop}
theorem timed_forks {l : List Nat} {fuel : Nat} {listed : Array Bool} {a : Act} {w : World} (hr : Region.ready md ops listed = l) (hl : l ≠ [])
  (h : ∀ k ∈ l, ∃ ok, ops[k]? = some ok ∧ ∀ K' : Act → World → Prop, Shut (∀ a w, S (listed.setIfInBounds k true) w → (S (listed.setIfInBounds k true) w → wpAnyT P md ops Q S fuel (listed.setIfInBounds k true) a w) → K' a w) →
   if Region.wanted ok (yielded ops a.tmps) = true then Oper.wp P ok a w K' Q else K' (a.put ok.dst undef) w) : S listed w → wpAnyT P md ops Q S (fuel + 1) listed a w := by
 intro _
 refine ⟨fun h0 => (by rw [hr] at h0; exact absurd h0 hl), fun k hk => ?_⟩
 rw [hr] at hk
 obtain ⟨ok, ho, hs⟩ := h k hk
 exact wpOp_step ho (fun K' hK => hs K' (fun a w hS hW => hK a w ⟨hS, hW hS⟩))
end
section
variable {G : Prop}
theorem cut_0_0 (F : World → Prop) {L : World → Prop} (h1 : (∀ (w : World), F w  → L w ) → G) (h2 : ∀ (w : World), F w  → L w ) : G := h1 h2
theorem cut_1_0 (F : World → Nat → Prop) {L : World → Nat → Prop} (h1 : (∀ (w : World) (g0 : Nat), F w g0  → L w g0 ) → G) (h2 : ∀ (w : World) (g0 : Nat), F w g0  → L w g0 ) : G := h1 h2
end
theorem fork_cons {p : Nat → Prop} {k : Nat} {l : List Nat} (h : p k) (r : ∀ j ∈ l, p j) : ∀ j ∈ k :: l, p j := List.forall_mem_cons.2 ⟨h, r⟩
theorem fork_nil {p : Nat → Prop} : ∀ j ∈ ([] : List Nat), p j := fun _ h => by cases h
end Go.Proofs.YtjfbeeogiejopaaGreatDoor
