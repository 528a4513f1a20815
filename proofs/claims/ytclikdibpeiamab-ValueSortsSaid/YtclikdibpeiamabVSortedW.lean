/- value.Sorted: the walk. -/
import Derived.Test.YtclikdibpeiamabVSorted
import Derived.Test.YtclikdibpeiamabOwn
set_option linter.unusedVariables false
set_option linter.unusedSimpArgs false
namespace Go.Proofs.Ytclikdibpeiamab
open Go.RowKit
open Go.Lib hiding intOf
attribute [local go_sem ↓] Go.wp_at_zero Go.wp_at_succ

theorem vinfo : (Try.prog.info? 24).map (fun i => (i.zero, i.size, i.bytes)) = some (some (.agg #[.int .i64 0, .int .i64 0]), 2, 16) := by kernel_rfl

set_option maxRecDepth 10000 in
set_option maxHeartbeats 4000000 in
theorem vsorted_any (A : Option Addr) (n c B : Nat) (zs : List (Int × Int)) (w : World) (hn : zs.length = n) (hN : n ≤ 1000) (hA : Row w B A (edgeC zs)) :
    Calls Try.prog 6 #[.slice A n c] w fun e w' => Only [] w w' ∧ ∃ A' m c', e = .returned (.slice A' m c') ∧ (sortV zs).length = m ∧ Row w' w'.heap.size A' (edgeC (sortV zs)) := by
  obtain ⟨i0, hi, hz0, hz1, hz2⟩ := info_parts vinfo
  have HMY := Lib.hid (fun (z : Int × Int) w' => (may_any z.1 z.2 w'))
  have HN := Lib.hid hn
  have HROW := Lib.hid hA
  clear hn hA
  go_enter Try.func6, Try.ntmps6
  go_wp2_with fail
  go_loopw [3, 8] (fun V iv wr => ∃ (k m : Nat), iv = .int .i64 k ∧ k ≤ n ∧ m ≤ k ∧ Hid (((zs.take k).filter mayP).length = m) ∧ Hid (wr.ownsRow w.heap.size 24 2 V m (edgeC ((zs.take k).filter mayP))) ∧ Hid (Only [] w wr)) (fun _ iv _ => n - (intOf iv).toNat)
  case atStart => exact ⟨0, 0, rfl, by omega, by omega, Lib.hid rfl, Lib.hid ⟨rfl, .inl ⟨rfl, rfl⟩⟩, Lib.hid (Only.refl [] w)⟩
  case round =>
    obtain ⟨k, m, rfl, hk, hm, HM, HOWN, HO⟩ := hrel
    by_cases hlt : k < n
    · have h01 : (k : Int) < (n : Int) := by omega
      have hk0 : (0 : Int) ≤ (k : Int) := Int.natCast_nonneg _
      have hwk : IntKind.i64.wrap ((k : Int) + 1) = (k : Int) + 1 := IntWalk.i64_in _ (by omega)
      obtain ⟨b, off, rfl, hbB, hbw, hcell⟩ := HROW.out.open_ (k := k * 2) (by rw [edgeC_len, HN.out]; omega)
      obtain ⟨l, hl⟩ : ∃ l, zs[k]? = some l := ⟨_, List.getElem?_eq_getElem (by rw [HN.out]; exact hlt)⟩
      have hee := edgeC_get zs k l hl
      have hck0 : wr.cell? ⟨b, off + k * 2, none⟩ = some (.int .i64 l.1) := (HO.out.cell (p := ⟨b, off + k * 2, none⟩) hbw (by simp)).trans (hcell _ _ hee.1)
      have hck1 : wr.cell? ⟨b, off + k * 2 + 1, none⟩ = some (.int .i64 l.2) := by rw [Nat.add_assoc]; exact (HO.out.cell (p := ⟨b, off + (k * 2 + 1), none⟩) hbw (by simp)).trans (hcell _ _ hee.2)
      have HI := Lib.hid (fun w' => HMY.out l w')
      have hwsz := HO.out.size
      obtain ⟨v, hv⟩ : ∃ v, v = mayP l := ⟨_, rfl⟩
      have hv2 : v = mayB l.1 l.2 := hv
      rw [← hv2] at HI
      have HV := Lib.hid hv
      have HLK := Lib.hid hl
      clear hcell hl hv hv2 hee
      obtain ⟨x, y⟩ := l
      dsimp only at hck0 hck1 HI
      cases v with
      | true =>
        have HTK : Hid ((zs.take (k + 1)).filter mayP = (zs.take k).filter mayP ++ [(x, y)]) := Lib.hid (by
          rw [List.take_add_one, HLK.out, List.filter_append]
          congr 1
          simp [HV.out.symm])
        have hlen : (edgeC ((zs.take k).filter mayP)).length = m * 2 := by rw [edgeC_len, HM.out]
        go_wp2_with fail
        refine (HI.out _).mono ?_
        rintro e w2 ⟨rfl, hX2⟩
        have bV := hX2.blk (made2 wr 24 x y) (by simp)
        have hO2 := ((Only.refl [] wr).alloc (.cells #[.int .i64 x, .int .i64 y] 24)).trans hX2.only
        have HOWN2 := Lib.hid (own_only HOWN.out hO2 (by simp))
        have HO2 := Lib.hid (HO.out.trans hO2)
        have hw2 := hO2.size
        have lV := bV.lt
        have v0 := bV.at_ 0
        have v1 := bV.at_ 1
        simp at v0 v1
        clear hO2 hX2 bV
        go_wp2_with (at_builtin; refine wpList_append_row _ rfl (.tmp 14) (.tmp 16) _ rfl w.heap.size 24 i0 _ 2 16 Try.underlying22 hi hz0 hz1 hz2 rfl (by omega) _ m (edgeC ((zs.take k).filter mayP)) rfl (own_only HOWN2.out ((Only.refl [] _).alloc _) (by simp)) (w2.heap.size + 1) (some ⟨w2.heap.size, 0, none⟩) 1 1 [.int .i64 x, .int .i64 y] (by rfl) (by rfl) (row_lit w2 24 #[.int .i64 x, .int .i64 y]) (by intro u hu; simp at hu; rcases hu with rfl | rfl <;> rfl) (by unfold maxLen; omega) (by omega) (by simp; omega) ?_; intro v3 w3 hown3 hgrow hat)
        have REL : w3.ownsRow w.heap.size 24 2 v3 (m + 1) (edgeC ((zs.take (k + 1)).filter mayP)) ∧ Only [] w w3 ∧ ((zs.take (k + 1)).filter mayP).length = m + 1 := by
          refine ⟨?_, (HO2.out.alloc _).step (only_grown hgrow) (own_new HOWN2.out), ?_⟩
          · rw [HTK.out, edgeC_append]
            exact hown3
          · rw [HTK.out, List.length_append, HM.out]
            rfl
        have HREL := Lib.hid REL
        clear REL hown3 hgrow hat hlen
        go_wp2
        go_roundw
        case rel => exact ⟨k + 1, m + 1, by go_num, by omega, by omega, Lib.hid HREL.out.2.2, Lib.hid HREL.out.1, Lib.hid HREL.out.2.1⟩
        case measure => simp [intOf]; omega
      | false =>
        go_wp2_with fail
        refine (HI.out _).mono ?_
        rintro e w2 ⟨rfl, hX2⟩
        have hO2 := ((Only.refl [] wr).alloc (.cells #[.int .i64 x, .int .i64 y] 24)).trans hX2.only
        have HOWN2 := Lib.hid (own_only HOWN.out hO2 (by simp))
        have HO2 := Lib.hid (HO.out.trans hO2)
        have HTK2 : Hid ((zs.take (k + 1)).filter mayP = (zs.take k).filter mayP) := Lib.hid (by
          rw [List.take_add_one, HLK.out, List.filter_append]
          simp [HV.out.symm])
        clear hO2 hX2
        go_wp2
        go_roundw
        case rel => exact ⟨k + 1, m, by go_num, by omega, by omega, Lib.hid (by rw [HTK2.out]; exact HM.out), Lib.hid (by rw [HTK2.out]; exact HOWN2.out), HO2⟩
        case measure => simp [intOf]; omega
    · have hkn : k = n := by omega
      subst hkn
      have hd : decide ((k : Int) < (k : Int)) = false := by simp
      have HALL : Hid ((zs.take k).filter mayP = zs.filter mayP) := Lib.hid (by rw [List.take_of_length_le (by rw [HN.out]; exact Nat.le_refl _)])
      have HFM : Hid (∀ y, y ∈ (zs.take k).filter mayP ↔ y ∈ zs ∧ mayP y = true) := Lib.hid (fun y => by rw [HALL.out, List.mem_filter])
      generalize (zs.take k).filter mayP = fair at *
      obtain ⟨hl0, hv⟩ := HOWN.out
      rcases hv with ⟨hv, hm0⟩ | ⟨g, cap, cur, hv, hbase, hg, hnc, hcm, hsz, ht⟩
      · subst hv
        subst hm0
        have hfe : fair = [] := List.eq_nil_of_length_eq_zero HM.out
        subst hfe
        have HS := Lib.hid (fun w' => vsortf_none (.func (.func 15) #[] #[]) w')
        have HC := Lib.hid (fun w' => vcompact_none w')
        have HE : Hid (sortV zs = []) := Lib.hid (by
          have := (sortV_vals zs).2
          cases hs : sortV zs with
          | nil => rfl
          | cons y t =>
            rw [hs] at this
            have h1 := (HFM.out y).2 ((this y).1 (List.mem_cons_self ..))
            cases h1)
        clear hl0 HOWN
        go_wp2_with fail
        refine (HS.out _).mono ?_
        rintro e w5 ⟨rfl, rfl⟩
        go_wp2_with fail
        refine (HC.out _).mono ?_
        rintro e w6 ⟨rfl, rfl⟩
        go_wp2
        go_ret
        exact ⟨HO.out, none, 0, 0, rfl, by rw [HE.out]; rfl, by rw [HE.out]; exact .inl rfl⟩
      · subst hv
        have h0 : Below w.heap.size w wr := HO.out.below (Nat.le_refl _) (by simp)
        have HS := Lib.hid (vsortf_own w wr g cap m cur fair HM.out (fun b hb => ((HFM.out b).1 hb).2) (by omega) hg ht hbase h0)
        have HC := Lib.hid (fun w' (bs : List (Int × Int)) (hl : bs.length = m) hH hlt h0' => vcompact_own w w' g cap m bs.toArray (by simpa using hl) (by omega) hnc hH hbase hlt h0')
        clear hl0 HOWN hg ht hbase hsz h0 hnc hcm
        go_wp2_with fail
        refine (HS.out).mono ?_
        rintro e w5 ⟨rfl, hb5, hg5, bs, hbl, hbp, hbs, hbc⟩
        have hH : Go.Sort.HoldsK encP 2 w5 g 0 bs.toArray := by
          intro t ht2
          have ht3 : t < m * 2 := by simpa [hbl] using ht2
          have hj : t / 2 < m := by omega
          obtain ⟨q0, q1, q2, q3⟩ := hbc (t / 2) hj
          have hgj : bs.toArray[t / 2]! = bs.getD (t / 2) (0, 0) := by
            rw [getElem!_pos bs.toArray (t / 2) (by simpa [hbl] using hj), List.getD_eq_getElem?_getD, List.getElem?_eq_getElem (by omega)]
            rfl
          show w5.cell? ⟨g, 0 + t, none⟩ = some ((Go.Sort.flatK encP 2 bs.toArray)[t]!) ∧ _
          rw [Go.Sort.get_flatK _ _ _ _ (by simpa [hbl] using ht3), hgj, Nat.zero_add]
          rcases Nat.mod_two_eq_zero_or_one t with h2 | h2
          · rw [h2]
            have e : t / 2 * 2 = t := by omega
            rw [e] at q0 q2
            exact ⟨q0, q2⟩
          · rw [h2]
            have e : t / 2 * 2 + 1 = t := by omega
            rw [e] at q1 q3
            exact ⟨q1, q3⟩
        have HC5 := HC.out w5 bs hbl hH hg5 hb5
        have hcs := compactV_sort zs bs (fun b hb => ((HFM.out b).1 (hbp.mem_iff.1 hb)).2) hbs (fun y => by rw [hbp.mem_iff, HFM.out])
        rw [hbl] at hcs
        rw [hcs] at HC5
        have HC6 := Lib.hid HC5
        clear hb5 hg5 hbl hbp hbs hbc hH HC5 hcs HC
        go_wp2_with fail
        refine (HC6.out).mono ?_
        rintro e w6 ⟨rfl, hb6, hrow⟩
        have HB6 := Lib.hid hb6
        have HR6 := Lib.hid hrow
        clear hb6 hrow
        go_wp2
        go_ret
        exact ⟨Only.of_below HB6.out [], _, _, _, rfl, rfl, HR6.out⟩

end Go.Proofs.Ytclikdibpeiamab
