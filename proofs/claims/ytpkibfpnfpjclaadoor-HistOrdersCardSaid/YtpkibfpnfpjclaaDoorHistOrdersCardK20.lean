/- The package hist: transactions. -/
import Derived.Test.YtpkibfpnfpjclaaDoorHistOrdersCardK19
set_option linter.unusedVariables false
set_option linter.unusedSimpArgs false
namespace Go.Proofs.YtpkibfpnfpjclaaDoor
open Go.RowKit
open Go.Lib hiding intOf
attribute [local go_sem ↓] Go.wp_at_zero Go.wp_at_succ

def useB (n : Nat) (l : List Int) : Bool := (List.range n).all fun i : Nat => decide ((i : Int) ∈ l)
def txsB (h : Hst) : Bool := decide (h.l.length ≤ 40) && (h.l.all (txB h.ss.length) && useB h.ss.length (h.l.map Tx.s))
theorem txs_no {h : Hst} {k : Nat} {t : Tx} (hk : h.l[k]? = some t) (hb : txB h.ss.length t = false) : txsB h = false := by
  unfold txsB
  have : h.l.all (txB h.ss.length) = false := by
    rw [List.all_eq_false]
    exact ⟨t, List.mem_of_getElem? hk, by rw [hb]; simp⟩
  rw [this]
  simp
theorem takeTx_all {α : Type} {l : List α} {p : α → Bool} {k : Nat} {x : α} (h : (l.take k).all p = true) (hk : l[k]? = some x) (hx : p x = true) : (l.take (k + 1)).all p = true := by
  rw [List.take_add_one, hk, List.all_append, h]
  simpa using hx
theorem row_front {w : World} {g : Nat} {t : TypeId} {zs : List Int} (h : Blk w g t (zs.map (Value.int .i64)).toArray) (n : Nat) : Row w w.heap.size (some ⟨g, 0, none⟩) ((zs.take n).map (Value.int .i64)) :=
  .inr ⟨g, 0, rfl, h.lt, Nat.le_refl _, fun j u hu => by
    rw [Nat.zero_add, h.at_ j]
    rw [List.map_take, List.getElem?_take] at hu
    split at hu
    · simpa using hu
    · cases hu⟩

set_option maxRecDepth 10000 in
set_option maxHeartbeats 4000000 in
theorem txs_any (A0 A1 A2 : Option Addr) (n0 n1 n2 c0 c1 c2 B : Nat) (h : Hst) (w : World) (hg : HAt w B A0 A1 A2 h) (hn0 : h.ss.length = n0) (hn2 : h.l.length = n2) (h20 : n0 ≤ 20) (hM : n2 ≤ 1000) :
    Calls Tryd.prog 26 #[hval A0 A1 A2 n0 n1 n2 c0 c1 c2] w fun e w' => e = .returned (.bool (txsB h)) ∧ Only [] w w' := by
  unfold hval
  have HFT := Lib.hid (fun f w' => fate_any f w')
  have HG := Lib.hid hg.r2
  have HN0 := Lib.hid hn0
  have HN2 := Lib.hid hn2
  have HO := Lib.hid ((Only.refl [] w).alloc (.cells #[.slice A0 n0 c0, .slice A1 n1 c1, .slice A2 n2 c2] 25))
  clear hg
  by_cases h40 : n2 ≤ 40
  · have hd : decide ((40 : Int) < (n2 : Int)) = false := by simp; omega
    obtain ⟨r, hr⟩ : ∃ r, r = txsB h := ⟨_, rfl⟩
    rw [← hr]
    have HR := Lib.hid hr
    have HB1 := Lib.hid ((Blk.made w 25 #[.slice A0 n0 c0, .slice A1 n1 c1, .slice A2 n2 c2]).alloc (.cells (cntC 20 []) 65))
    have HU1 := Lib.hid (Blk.made (w.alloc (.cells #[.slice A0 n0 c0, .slice A1 n1 c1, .slice A2 n2 c2] 25)) 65 (cntC 20 []))
    have HO1 := Lib.hid (HO.out.alloc (.cells (cntC 20 []) 65))
    rw [World.size_alloc] at HU1
    clear hr hn0 hn2 HO
    go_enter Tryd.func26, Tryd.ntmps26
    go_wp2_with fail
    go_loopw [13] (fun iv wr => ∃ k : Nat, iv = .int .i64 k ∧ k ≤ n2 ∧ Hid ((h.l.take k).all (txB n0) = true) ∧ Hid (Blk wr w.heap.size 25 #[.slice A0 n0 c0, .slice A1 n1 c1, .slice A2 n2 c2]) ∧ Hid (Blk wr (w.heap.size + 1) 65 (cntC 20 ((h.l.take k).map Tx.s))) ∧ Hid (Only [] w wr)) (fun iv _ => n2 - (intOf iv).toNat)
    case atStart => exact ⟨0, rfl, by omega, Lib.hid (by simp), HB1, HU1, HO1⟩
    case round =>
      obtain ⟨k, rfl, hk, hall, hB, hU, hO⟩ := hrel
      have hsz := hO.out.size
      by_cases hlt : k < n2
      · obtain ⟨x, hx⟩ : ∃ x, h.l[k]? = some x := ⟨_, List.getElem?_eq_getElem (by rw [HN2.out]; exact hlt)⟩
        obtain ⟨b, off, A', cp, rfl, -, hbw, hT, hOk⟩ := HG.out.at_ hx
        obtain ⟨a0, a1, a2⟩ := hT.only hO.out hbw (by simp)
        have hln := Nat.le_trans hOk.le hOk.cap
        unfold maxLen at hln
        have HX := Lib.hid hx
        obtain ⟨s, f, ops⟩ := x
        dsimp only at a0 a1 a2 hln
        generalize hm : ops.length = m at *
        have HMM := Lib.hid hm
        have h01 : (k : Int) < (n2 : Int) := by omega
        have hk0 : (0 : Int) ≤ (k : Int) := Int.natCast_nonneg _
        have hwk : IntKind.i64.wrap ((k : Int) + 1) = (k : Int) + 1 := IntWalk.i64_in _ (by omega)
        have hbr : b < wr.heap.size := by omega
        clear hT hOk hx hm
        go_upto_region 7 with (fail)
        have O2 : Only [] wr (wr.alloc (.cells #[.int .i64 s, .int .i64 f, .slice A' m cp] 45)) := (Only.refl [] wr).alloc _
        have bT := Blk.made wr 45 #[.int .i64 s, .int .i64 f, .slice A' m cp]
        have HB2 := Lib.hid (O2.blk hB.out (by simp))
        have HU2 := Lib.hid (O2.blk hU.out (by simp))
        have HO2 := Lib.hid (hO.out.trans O2)
        clear a0 a1 a2 O2 hB hU hO
        generalize (wr.alloc (.cells #[.int .i64 s, .int .i64 f, .slice A' m cp] 45)) = w2 at *
        generalize wr.heap.size = gt at *
        have lT := bT.lt
        have t0 := bT.at_ 0
        have t1 := bT.at_ 1
        have t2 := bT.at_ 2
        have lB := HB2.out.lt
        have b0 := HB2.out.at_ 0
        have b2 := HB2.out.at_ 2
        simp at t0 t1 t2 b0 b2
        clear bT
        have bad : txB n0 ⟨s, f, ops⟩ = false → Hid (r = false) := fun hb => Lib.hid (by rw [HR.out]; exact txs_no HX.out (by rw [HN0.out]; exact hb))
        have hcase : (s < 0 ∧ txB n0 ⟨s, f, ops⟩ = false) ∨ (decide (s < 0) = false ∧ (n0 : Int) ≤ s ∧ txB n0 ⟨s, f, ops⟩ = false) ∨ (decide (s < 0) = false ∧ decide ((n0 : Int) ≤ s) = false ∧ fateB f = false ∧ txB n0 ⟨s, f, ops⟩ = false) ∨
            (decide (s < 0) = false ∧ decide ((n0 : Int) ≤ s) = false ∧ fateB f = true ∧ decide ((20 : Int) < (m : Int)) = true ∧ txB n0 ⟨s, f, ops⟩ = false) ∨
            ∃ j : Nat, s = (j : Int) ∧ j < n0 ∧ fateB f = true ∧ decide ((20 : Int) < (m : Int)) = false ∧ txB n0 ⟨s, f, ops⟩ = true := by
          unfold txB
          dsimp only
          rw [HMM.out]
          by_cases q1 : s < 0
          · exact .inl ⟨q1, by rw [decide_eq_false (by omega)]; rfl⟩
          · by_cases q2 : (n0 : Int) ≤ s
            · exact .inr (.inl ⟨decide_eq_false q1, q2, by rw [decide_eq_false (by omega)]; rfl⟩)
            · cases q3 : fateB f with
              | false => exact .inr (.inr (.inl ⟨decide_eq_false q1, decide_eq_false q2, rfl, by simp⟩))
              | true =>
                by_cases q4 : 20 < m
                · exact .inr (.inr (.inr (.inl ⟨decide_eq_false q1, decide_eq_false q2, rfl, decide_eq_true (by omega), by rw [decide_eq_false (show ¬ m ≤ 20 by omega)]; simp⟩)))
                · exact .inr (.inr (.inr (.inr ⟨s.toNat, by omega, by omega, rfl, decide_eq_false (by omega), by rw [decide_eq_true (show 0 ≤ s ∧ s < (n0 : Int) by omega), decide_eq_true (show m ≤ 20 by omega)]; rfl⟩)))
        rcases hcase with ⟨q1, q⟩ | ⟨q1, q2, q⟩ | ⟨q1, q2, q3, q⟩ | ⟨q1, q2, q3, q4, q⟩ | ⟨j, rfl, hj, q3, q4, q⟩
        · obtain rfl := (bad q).out
          clear bad q
          go_wp2
          go_ret
          exact ⟨rfl, HO2.out⟩
        · obtain rfl := (bad q).out
          clear bad q
          go_wp2
          go_ret
          exact ⟨rfl, HO2.out⟩
        · obtain rfl := (bad q).out
          have HF := Lib.hid (HFT.out f w2)
          rw [q3] at HF
          clear bad q q3
          go_wp2_with fail
          refine (HF.out).mono ?_
          rintro e w3 ⟨rfl, rfl⟩
          go_wp2
          go_ret
          exact ⟨rfl, HO2.out⟩
        · obtain rfl := (bad q).out
          have HF := Lib.hid (HFT.out f w2)
          rw [q3] at HF
          clear bad q q3
          go_wp2_with fail
          refine (HF.out).mono ?_
          rintro e w3 ⟨rfl, rfl⟩
          go_wp2
          go_ret
          exact ⟨rfl, HO2.out⟩
        · have HF := Lib.hid (HFT.out f w2)
          rw [q3] at HF
          have q1 : decide ((j : Int) < 0) = false := by simp
          have q2 : decide ((n0 : Int) ≤ (j : Int)) = false := by simp; omega
          have q5 : (0 : Int) ≤ (j : Int) := by omega
          have q6 : (j : Int) < 20 := by omega
          have lU := HU2.out.lt
          have uj := (HU2.out.at_ j).trans (cntC_at 20 _ j (by omega))
          have gj := HU2.out.free j
          have hc : ((h.l.take k).map Tx.s).countP (fun s => decide (s = (j : Int))) ≤ 1000 := by
            have := List.countP_le_length (p := fun s => decide (s = (j : Int))) (l := (h.l.take k).map Tx.s)
            rw [List.length_map, List.length_take] at this
            omega
          have HCS := Lib.hid (cntC_snoc 20 ((h.l.take k).map Tx.s) j (by omega))
          have HTK : Hid ((h.l.take (k + 1)).map Tx.s = (h.l.take k).map Tx.s ++ [(j : Int)]) := Lib.hid (by rw [List.take_add_one, HX.out]; simp)
          have HAL := Lib.hid (takeTx_all hall.out HX.out q)
          generalize ((h.l.take k).map Tx.s).countP (fun s => decide (s = (j : Int))) = cj at *
          have hwc : IntKind.i64.wrap ((cj : Int) + 1) = (cj : Int) + 1 := IntWalk.i64_in _ (by omega)
          clear bad q q3 hall
          go_wp2_with fail
          refine (HF.out).mono ?_
          rintro e w3 ⟨rfl, rfl⟩
          go_wp2
          go_roundw
          case rel =>
            refine ⟨k + 1, by go_num, by omega, HAL, Lib.hid (HB2.out.far (by simp only; omega) _), Lib.hid ?_, Lib.hid (HO2.out.put (fun h => by simp only at h; omega) _)⟩
            rw [HTK.out, HCS.out]
            exact HU2.out.put j _
          case measure => simp [intOf]; omega
      · have hkn : k = n2 := by omega
        subst hkn
        have hd2 : decide ((k : Int) < (k : Int)) = false := by simp
        have hU1 := hU.out
        have hA1 := hall.out
        rw [List.take_of_length_le (by rw [HN2.out]; exact Nat.le_refl _)] at hU1 hA1
        have hrow := row_front hU1 n0
        have hcz := cntL_zero 20 (h.l.map Tx.s) n0 h20
        have HCI := Lib.hid (contI_any (some ⟨w.heap.size + 1, 0, none⟩) n0 20 _ ((cntL 20 (h.l.map Tx.s)).take n0) 0 wr (by rw [List.length_take, cntL_len]; omega) (by omega) hrow)
        rw [hcz] at HCI
        have HRR : Hid (r = ((List.range n0).all fun i : Nat => decide ((i : Int) ∈ h.l.map Tx.s))) := Lib.hid (by
          rw [HR.out]
          unfold txsB useB
          rw [HN0.out, hA1, HN2.out, decide_eq_true h40]
          rfl)
        have lB := hB.out.lt
        have b0 := hB.out.at_ 0
        simp at b0
        have lU := hU.out.lt
        have q5 : (0 : Int) ≤ (n0 : Int) := by omega
        have q6 : (n0 : Int) ≤ 20 := by omega
        clear hU1 hA1 hrow hcz hall hU HR
        generalize ((List.range n0).all fun i : Nat => decide ((i : Int) ∈ h.l.map Tx.s)) = q at *
        go_wp2_with fail
        refine (HCI.out).mono ?_
        rintro e w3 ⟨rfl, rfl⟩
        go_wp2
        go_ret
        exact ⟨by rw [HRR.out]; simp, hO.out⟩
  · have hd : decide ((40 : Int) < (n2 : Int)) = true := by simp; omega
    have hr : txsB h = false := by
      unfold txsB
      rw [hn2, decide_eq_false h40]
      rfl
    rw [hr]
    go_enter Tryd.func26, Tryd.ntmps26
    go_wp2
    go_ret
    exact ⟨rfl, HO.out⟩

end Go.Proofs.YtpkibfpnfpjclaaDoor
