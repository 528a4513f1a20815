/- The document's Session, Infos, Lost, SamePlaces. -/
import Derived.Test.YtpkibfpnfpjclaaDoorHistE
import Derived.BigQuiet
set_option linter.unusedVariables false
set_option linter.unusedSimpArgs false
namespace Go.Proofs.YtpkibfpnfpjclaaDoor
open Go.RowKit
open Go.Lib hiding intOf
attribute [local go_sem ↓] Go.wp_at_zero Go.wp_at_succ

set_option maxRecDepth 10000 in
set_option maxHeartbeats 4000000 in
theorem rsession_any (A0 A1 A2 : Option Addr) (n0 n1 n2 c0 c1 c2 B : Nat) (h : Hst) (x : Int) (w : World) (hg : LRow w B A2 h.l) (hn2 : h.l.length = n2) (hM : n2 ≤ 1000) :
    Calls Tryd.prog 9 #[hval A0 A1 A2 n0 n1 n2 c0 c1 c2, .int .i64 x] w fun e w' =>
      ∃ A c, (e = .returned (.slice A (whichL (fun t => decide (t.s = x)) h.l).length c) ∧ Row w' w'.heap.size A ((whichL (fun t => decide (t.s = x)) h.l).map (Value.int .i64))) ∧ Only [] w w' := by
  unfold hval
  obtain ⟨i0, hi, hz0, hz1, hz2⟩ := info_parts info_int
  have HG := Lib.hid hg
  have HN2 := Lib.hid hn2
  have HO := Lib.hid (((Only.refl [] w).alloc (.cells #[.slice A0 n0 c0, .slice A1 n1 c1, .slice A2 n2 c2] 25)).alloc (.cells #[] 3))
  have HB := Lib.hid ((Blk.made w 25 #[.slice A0 n0 c0, .slice A1 n1 c1, .slice A2 n2 c2]).alloc (.cells #[] 3))
  have HV := Lib.hid (World.ownsRow_lit (w.alloc (.cells #[.slice A0 n0 c0, .slice A1 n1 c1, .slice A2 n2 c2] 25)) (e := 3) (size := 1) #[] 0 (Nat.le_refl _) (by unfold maxLen; omega) rfl)
  rw [World.size_alloc] at HV
  clear hg hn2
  obtain ⟨q, hq⟩ : ∃ q : Tx → Bool, q = fun t => decide (t.s = x) := ⟨_, rfl⟩
  rw [← hq]
  have HQ := Lib.hid hq
  clear hq
  go_enter Tryd.func9, Tryd.ntmps9
  go_wp2_with fail
  go_loopw [5, 6] (fun V iv wr => ∃ k : Nat, iv = .int .i64 k ∧ k ≤ n2 ∧ Hid (wr.ownsRow (w.heap.size + 1) 3 1 V (whichL q (h.l.take k)).length ((whichL q (h.l.take k)).map (Value.int .i64))) ∧ Hid (Blk wr w.heap.size 25 #[.slice A0 n0 c0, .slice A1 n1 c1, .slice A2 n2 c2]) ∧ Hid (Only [] w wr)) (fun _ iv _ => n2 - (intOf iv).toNat)
  case atStart => exact ⟨0, rfl, by omega, HV, HB, HO⟩
  case round =>
    obtain ⟨k, rfl, hk, hV, hB, hO⟩ := hrel
    clear HV HB HO
    have hsz := hO.out.size
    have lB := hB.out.lt
    have b2 := hB.out.at_ 2
    simp at b2
    by_cases hlt : k < n2
    · obtain ⟨y, hx⟩ : ∃ y, h.l[k]? = some y := ⟨_, List.getElem?_eq_getElem (by rw [HN2.out]; exact hlt)⟩
      obtain ⟨b, off, A', cp, rfl, -, hbw, hT, hOk⟩ := HG.out.at_ hx
      obtain ⟨a0, a1, a2⟩ := hT.only hO.out hbw (by simp)
      have HWT := Lib.hid (which_take (p := q) hx)
      have hwl := which_le q (h.l.take k)
      rw [List.length_take] at hwl
      obtain ⟨s, f, ops⟩ := y
      dsimp only at a0 a1 a2
      have h01 : (k : Int) < (n2 : Int) := by omega
      have hk0 : (0 : Int) ≤ (k : Int) := Int.natCast_nonneg _
      have hwk : IntKind.i64.wrap ((k : Int) + 1) = (k : Int) + 1 := IntWalk.i64_in _ (by omega)
      have hbr : b < wr.heap.size := by omega
      have HQX : Hid (q ⟨s, f, ops⟩ = decide (s = x)) := Lib.hid (by rw [HQ.out])
      clear hT hOk hx a2
      by_cases hf : s = x
      · have HE : Hid (whichL q (h.l.take (k + 1)) = whichL q (h.l.take k) ++ [(k : Int)]) := Lib.hid (by rw [HWT.out, HQX.out, decide_eq_true hf]; simp)
        subst hf
        go_wp2_with (at_builtin; refine wpList_append_row _ rfl (.tmp 23) (.tmp 25) _ rfl (w.heap.size + 1) 3 i0 _ 1 8 Tryd.underlying27 hi hz0 hz1 hz2 rfl (by omega) _ _ _ rfl (own_only hV.out ((Only.refl [] _).alloc _) (by simp)) (wr.heap.size + 1) (some ⟨wr.heap.size, 0, none⟩) 1 1 [.int .i64 (k : Int)] rfl rfl (row_lit wr 3 #[.int .i64 (k : Int)]) (by simp [Value.oneCell']) (by unfold maxLen; omega) (by omega) (by simp; omega) ?_; intro v4 w4 hown4 hgrow hat)
        have hb1 := hB.out.alloc (.cells #[.int .i64 (k : Int)] 3)
        have hv1 := own_only hV.out ((Only.refl [] wr).alloc (.cells #[.int .i64 (k : Int)] 3)) (by simp)
        have REL : w4.ownsRow (w.heap.size + 1) 3 1 v4 (whichL q (h.l.take (k + 1))).length ((whichL q (h.l.take (k + 1))).map (Value.int .i64)) ∧ Blk w4 w.heap.size 25 #[.slice A0 n0 c0, .slice A1 n1 c1, .slice (some ⟨b, off, none⟩) n2 c2] ∧ Only [] w w4 := by
          refine ⟨?_, (only_grown hgrow).blk hb1 (own_apart hv1 hb1 (by decide)), (hO.out.alloc _).step (only_grown hgrow) (fun i hi hl => own_new hV.out (S := []) i hi (by omega))⟩
          rw [HE.out]
          simpa using hown4
        have HREL := Lib.hid REL
        clear REL hown4 lB b2 hb1 hv1
        go_wp2
        go_roundw
        case rel => first | exact ⟨k + 1, by go_num, by omega, Lib.hid HREL.out.1, Lib.hid HREL.out.2.1, Lib.hid HREL.out.2.2⟩ | exact ⟨_, ⟨k + 1, by go_num, by omega, Lib.hid HREL.out.1, Lib.hid HREL.out.2.1, Lib.hid HREL.out.2.2⟩, rfl⟩
        case measure => simp [intOf]; omega
      · have HE : Hid (whichL q (h.l.take (k + 1)) = whichL q (h.l.take k)) := Lib.hid (by rw [HWT.out, HQX.out, decide_eq_false hf]; simp)
        have hf1 : (s == x) = false := by simpa using hf
        clear hf
        go_wp2
        go_roundw
        case rel => exact ⟨k + 1, by go_num, by omega, Lib.hid (by rw [HE.out]; exact hV.out), hB, hO⟩
        case measure => simp [intOf]; omega
    · have hkn : k = n2 := by omega
      subst hkn
      have hd2 : decide ((k : Int) < (k : Int)) = false := by simp
      have hVV := hV.out
      rw [List.take_of_length_le (by rw [HN2.out]; exact Nat.le_refl _)] at hVV
      obtain ⟨A, c, rfl, -, -, -, hR⟩ := own_row hVV
      have HR := Lib.hid hR
      clear hV hVV hR
      go_wp2
      go_ret
      first | exact ⟨⟨_, ⟨_, rfl⟩, HR.out⟩, hO.out⟩ | exact ⟨_, _, ⟨rfl, HR.out⟩, hO.out⟩

set_option maxRecDepth 10000 in
set_option maxHeartbeats 4000000 in
theorem rinfos_any (A0 A1 A2 : Option Addr) (n0 n1 n2 c0 c1 c2 B : Nat) (h : Hst) (w : World) (hg : LRow w B A2 h.l) (hn2 : h.l.length = n2) (hM : n2 ≤ 1000) :
    Calls Tryd.prog 14 #[hval A0 A1 A2 n0 n1 n2 c0 c1 c2] w fun e w' =>
      ∃ A c, (e = .returned (.slice A (whichL (fun t => decide (t.f = 3)) h.l).length c) ∧ Row w' w'.heap.size A ((whichL (fun t => decide (t.f = 3)) h.l).map (Value.int .i64))) ∧ Only [] w w' := by
  unfold hval
  obtain ⟨i0, hi, hz0, hz1, hz2⟩ := info_parts info_int
  have HG := Lib.hid hg
  have HN2 := Lib.hid hn2
  have HO := Lib.hid (((Only.refl [] w).alloc (.cells #[.slice A0 n0 c0, .slice A1 n1 c1, .slice A2 n2 c2] 25)).alloc (.cells #[] 3))
  have HB := Lib.hid ((Blk.made w 25 #[.slice A0 n0 c0, .slice A1 n1 c1, .slice A2 n2 c2]).alloc (.cells #[] 3))
  have HV := Lib.hid (World.ownsRow_lit (w.alloc (.cells #[.slice A0 n0 c0, .slice A1 n1 c1, .slice A2 n2 c2] 25)) (e := 3) (size := 1) #[] 0 (Nat.le_refl _) (by unfold maxLen; omega) rfl)
  rw [World.size_alloc] at HV
  clear hg hn2
  obtain ⟨q, hq⟩ : ∃ q : Tx → Bool, q = fun t => decide (t.f = 3) := ⟨_, rfl⟩
  rw [← hq]
  have HQ := Lib.hid hq
  clear hq
  go_enter Tryd.func14, Tryd.ntmps14
  go_wp2_with fail
  go_loopw [3, 4] (fun V iv wr => ∃ k : Nat, iv = .int .i64 k ∧ k ≤ n2 ∧ Hid (wr.ownsRow (w.heap.size + 1) 3 1 V (whichL q (h.l.take k)).length ((whichL q (h.l.take k)).map (Value.int .i64))) ∧ Hid (Blk wr w.heap.size 25 #[.slice A0 n0 c0, .slice A1 n1 c1, .slice A2 n2 c2]) ∧ Hid (Only [] w wr)) (fun _ iv _ => n2 - (intOf iv).toNat)
  case atStart => exact ⟨0, rfl, by omega, HV, HB, HO⟩
  case round =>
    obtain ⟨k, rfl, hk, hV, hB, hO⟩ := hrel
    clear HV HB HO
    have hsz := hO.out.size
    have lB := hB.out.lt
    have b2 := hB.out.at_ 2
    simp at b2
    by_cases hlt : k < n2
    · obtain ⟨x, hx⟩ : ∃ x, h.l[k]? = some x := ⟨_, List.getElem?_eq_getElem (by rw [HN2.out]; exact hlt)⟩
      obtain ⟨b, off, A', cp, rfl, -, hbw, hT, hOk⟩ := HG.out.at_ hx
      obtain ⟨a0, a1, a2⟩ := hT.only hO.out hbw (by simp)
      have HWT := Lib.hid (which_take (p := q) hx)
      have hwl := which_le q (h.l.take k)
      rw [List.length_take] at hwl
      obtain ⟨s, f, ops⟩ := x
      dsimp only at a0 a1 a2
      have h01 : (k : Int) < (n2 : Int) := by omega
      have hk0 : (0 : Int) ≤ (k : Int) := Int.natCast_nonneg _
      have hwk : IntKind.i64.wrap ((k : Int) + 1) = (k : Int) + 1 := IntWalk.i64_in _ (by omega)
      have hbr : b < wr.heap.size := by omega
      have HQX : Hid (q ⟨s, f, ops⟩ = decide (f = 3)) := Lib.hid (by rw [HQ.out])
      clear hT hOk hx a2
      by_cases hf : f = 3
      · have HE : Hid (whichL q (h.l.take (k + 1)) = whichL q (h.l.take k) ++ [(k : Int)]) := Lib.hid (by rw [HWT.out, HQX.out, decide_eq_true hf]; simp)
        subst hf
        go_wp2_with (at_builtin; refine wpList_append_row _ rfl (.tmp 20) (.tmp 22) _ rfl (w.heap.size + 1) 3 i0 _ 1 8 Tryd.underlying27 hi hz0 hz1 hz2 rfl (by omega) _ _ _ rfl (own_only hV.out ((Only.refl [] _).alloc _) (by simp)) (wr.heap.size + 1) (some ⟨wr.heap.size, 0, none⟩) 1 1 [.int .i64 (k : Int)] rfl rfl (row_lit wr 3 #[.int .i64 (k : Int)]) (by simp [Value.oneCell']) (by unfold maxLen; omega) (by omega) (by simp; omega) ?_; intro v4 w4 hown4 hgrow hat)
        have hb1 := hB.out.alloc (.cells #[.int .i64 (k : Int)] 3)
        have hv1 := own_only hV.out ((Only.refl [] wr).alloc (.cells #[.int .i64 (k : Int)] 3)) (by simp)
        have REL : w4.ownsRow (w.heap.size + 1) 3 1 v4 (whichL q (h.l.take (k + 1))).length ((whichL q (h.l.take (k + 1))).map (Value.int .i64)) ∧ Blk w4 w.heap.size 25 #[.slice A0 n0 c0, .slice A1 n1 c1, .slice (some ⟨b, off, none⟩) n2 c2] ∧ Only [] w w4 := by
          refine ⟨?_, (only_grown hgrow).blk hb1 (own_apart hv1 hb1 (by decide)), (hO.out.alloc _).step (only_grown hgrow) (fun i hi hl => own_new hV.out (S := []) i hi (by omega))⟩
          rw [HE.out]
          simpa using hown4
        have HREL := Lib.hid REL
        clear REL hown4 lB b2 hb1 hv1
        go_wp2
        go_roundw
        case rel => first | exact ⟨k + 1, by go_num, by omega, Lib.hid HREL.out.1, Lib.hid HREL.out.2.1, Lib.hid HREL.out.2.2⟩ | exact ⟨_, ⟨k + 1, by go_num, by omega, Lib.hid HREL.out.1, Lib.hid HREL.out.2.1, Lib.hid HREL.out.2.2⟩, rfl⟩
        case measure => simp [intOf]; omega
      · have HE : Hid (whichL q (h.l.take (k + 1)) = whichL q (h.l.take k)) := Lib.hid (by rw [HWT.out, HQX.out, decide_eq_false hf]; simp)
        have hf1 : (f == 3) = false := by simpa using hf
        clear hf
        go_wp2
        go_roundw
        case rel => exact ⟨k + 1, by go_num, by omega, Lib.hid (by rw [HE.out]; exact hV.out), hB, hO⟩
        case measure => simp [intOf]; omega
    · have hkn : k = n2 := by omega
      subst hkn
      have hd2 : decide ((k : Int) < (k : Int)) = false := by simp
      have hVV := hV.out
      rw [List.take_of_length_le (by rw [HN2.out]; exact Nat.le_refl _)] at hVV
      obtain ⟨A, c, rfl, -, -, -, hR⟩ := own_row hVV
      have HR := Lib.hid hR
      clear hV hVV hR
      go_wp2
      go_ret
      first | exact ⟨⟨_, ⟨_, rfl⟩, HR.out⟩, hO.out⟩ | exact ⟨_, _, ⟨rfl, HR.out⟩, hO.out⟩

set_option maxRecDepth 10000 in
set_option maxHeartbeats 4000000 in
theorem rlost_any (A0 A1 A2 : Option Addr) (n0 n1 n2 c0 c1 c2 B : Nat) (h : Hst) (w : World) (hg : LRow w B A2 h.l) (hn2 : h.l.length = n2) (hM : n2 ≤ 1000) (hno : ∀ t ∈ h.l, t.ops.length ≤ 1000) :
    Calls Tryd.prog 15 #[hval A0 A1 A2 n0 n1 n2 c0 c1 c2] w fun e w' =>
      ∃ A c, (e = .returned (.slice A (lostP (plsL h.l)).length c) ∧ Row w' w'.heap.size A (placeC (lostP (plsL h.l)))) ∧ Only [] w w' := by
  unfold hval
  obtain ⟨i0, hi, hz0, hz1, hz2⟩ := info_parts info_place
  have HG := Lib.hid hg
  have HN2 := Lib.hid hn2
  have HNO := Lib.hid hno
  have HO := Lib.hid (((Only.refl [] w).alloc (.cells #[.slice A0 n0 c0, .slice A1 n1 c1, .slice A2 n2 c2] 25)).alloc (.cells #[] 58))
  have HB := Lib.hid ((Blk.made w 25 #[.slice A0 n0 c0, .slice A1 n1 c1, .slice A2 n2 c2]).alloc (.cells #[] 58))
  have HV := Lib.hid (World.ownsRow_lit (w.alloc (.cells #[.slice A0 n0 c0, .slice A1 n1 c1, .slice A2 n2 c2] 25)) (e := 58) (size := 2) #[] 0 (Nat.le_refl _) (by unfold maxLen; omega) rfl)
  rw [World.size_alloc] at HV
  clear hg hn2 hno
  go_enter Tryd.func15, Tryd.ntmps15
  go_wp2_with fail
  go_loopw [3, 4] (fun V iv wr => ∃ k : Nat, iv = .int .i64 k ∧ k ≤ n2 ∧ Hid (wr.ownsRow (w.heap.size + 1) 58 2 V (lostP (plsL (h.l.take k))).length (placeC (lostP (plsL (h.l.take k))))) ∧ Hid (Blk wr w.heap.size 25 #[.slice A0 n0 c0, .slice A1 n1 c1, .slice A2 n2 c2]) ∧ Hid (Only [] w wr)) (fun _ iv _ => n2 - (intOf iv).toNat)
  case atStart => exact ⟨0, rfl, by omega, HV, HB, HO⟩
  case round =>
    obtain ⟨k, rfl, hk, hV, hB, hO⟩ := hrel
    clear HV HB HO
    by_cases hlt : k < n2
    · obtain ⟨x, hx⟩ : ∃ x, h.l[k]? = some x := ⟨_, List.getElem?_eq_getElem (by rw [HN2.out]; exact hlt)⟩
      obtain ⟨b, off, A', cp, rfl, -, hbw, hT, hOk⟩ := HG.out.at_ hx
      have HT := Lib.hid hT
      have HPT := Lib.hid (plsL_take hx)
      have hpl := plsL_len (h.l.take k) (fun t ht => HNO.out t (List.mem_of_mem_take ht))
      rw [List.length_take] at hpl
      have hm1 := HNO.out x (List.mem_of_getElem? hx)
      have HROW := Lib.hid hOk.row
      obtain ⟨s, f, ops⟩ := x
      dsimp only at HT HPT hm1 HROW
      generalize hm : ops.length = m at *
      have HMM := Lib.hid hm
      have h01 : (k : Int) < (n2 : Int) := by omega
      have hk0 : (0 : Int) ≤ (k : Int) := Int.natCast_nonneg _
      have hwk : IntKind.i64.wrap ((k : Int) + 1) = (k : Int) + 1 := IntWalk.i64_in _ (by omega)
      have hV' : Hid (wr.ownsRow (w.heap.size + 1) 58 2 u3 (lostP (plsL (h.l.take k) ++ plsT k (ops.take 0))).length (placeC (lostP (plsL (h.l.take k) ++ plsT k (ops.take 0))))) := by simpa [plsT] using hV
      have hB' := hB
      have hO' := hO
      clear hT hOk hx hm hV
      have lB := hB'.out.lt
      have b2 := hB'.out.at_ 2
      simp at b2
      go_wp2_with fail
      clear lB b2 hB hO
      go_loopw [3, 5] (fun V iv wr => ∃ j : Nat, iv = .int .i64 j ∧ j ≤ m ∧ Hid (wr.ownsRow (w.heap.size + 1) 58 2 V (lostP (plsL (h.l.take k) ++ plsT k (ops.take j))).length (placeC (lostP (plsL (h.l.take k) ++ plsT k (ops.take j))))) ∧ Hid (Blk wr w.heap.size 25 #[.slice A0 n0 c0, .slice A1 n1 c1, .slice (some ⟨b, off, none⟩) n2 c2]) ∧ Hid (Only [] w wr)) (fun _ iv _ => m - (intOf iv).toNat)
      case atStart => exact ⟨0, rfl, by omega, hV', hB', hO'⟩
      case round =>
        obtain ⟨j, rfl, hj, hV, hB, hO⟩ := hrel
        clear hV' hB' hO'
        have hsz := hO.out.size
        have lB := hB.out.lt
        have b2 := hB.out.at_ 2
        simp at b2
        obtain ⟨a0, a1, a2⟩ := HT.out.only hO.out hbw (by simp)
        dsimp only at a2
        rw [HMM.out] at a2
        have hbr : b < wr.heap.size := by omega
        clear a0 a1
        by_cases hlt2 : j < m
        · obtain ⟨y, hy⟩ : ∃ y, ops[j]? = some y := ⟨_, List.getElem?_eq_getElem (by rw [HMM.out]; exact hlt2)⟩
          obtain ⟨b', off', rfl, -, hbw', hP⟩ := row_op HROW.out hy
          obtain ⟨p0, p1, p2, p3⟩ := hP.only hO.out hbw' (by simp)
          have HTT := Lib.hid (plsT_take (i := k) hy)
          have hll := lostP_le (plsL (h.l.take k) ++ plsT k (ops.take j))
          rw [List.length_append, plsT_len, List.length_take] at hll
          obtain ⟨yw, yk, yv, yn⟩ := y
          dsimp only at p0 p1 p2 p3
          have h02 : (j : Int) < (m : Int) := by omega
          have hj0 : (0 : Int) ≤ (j : Int) := Int.natCast_nonneg _
          have hwj : IntKind.i64.wrap ((j : Int) + 1) = (j : Int) + 1 := IntWalk.i64_in _ (by omega)
          have hbr' : b' < wr.heap.size := by omega
          clear hP hy p0 p1 p3
          by_cases hv2 : yv = 2
          · have HE : Hid (lostP (plsL (h.l.take k) ++ plsT k (ops.take (j + 1))) = lostP (plsL (h.l.take k) ++ plsT k (ops.take j)) ++ [((k : Int), (j : Int))]) := Lib.hid (by
              rw [HTT.out, ← List.append_assoc, lostP_hit _ (by exact hv2)])
            subst hv2
            go_wp2_with (at_builtin; refine wpList_append_row _ rfl (.tmp 37) (.tmp 41) _ rfl (w.heap.size + 1) 58 i0 _ 2 16 Tryd.underlying34 hi hz0 hz1 hz2 rfl (by omega) _ _ _ rfl (own_only hV.out ((Only.refl [] _).alloc _) (by simp)) (wr.heap.size + 1) (some ⟨wr.heap.size, 0, none⟩) 1 1 [.int .i64 (k : Int), .int .i64 (j : Int)] rfl rfl (row_lit wr 58 #[.int .i64 (k : Int), .int .i64 (j : Int)]) (by intro u hu; simp at hu; rcases hu with rfl | rfl <;> rfl) (by unfold maxLen; omega) (by omega) (by simp; omega) ?_; intro v4 w4 hown4 hgrow hat)
            have hb1 := hB.out.alloc (.cells #[.int .i64 (k : Int), .int .i64 (j : Int)] 58)
            have hv1 := own_only hV.out ((Only.refl [] wr).alloc (.cells #[.int .i64 (k : Int), .int .i64 (j : Int)] 58)) (by simp)
            have REL : w4.ownsRow (w.heap.size + 1) 58 2 v4 (lostP (plsL (h.l.take k) ++ plsT k (ops.take (j + 1)))).length (placeC (lostP (plsL (h.l.take k) ++ plsT k (ops.take (j + 1))))) ∧ Blk w4 w.heap.size 25 #[.slice A0 n0 c0, .slice A1 n1 c1, .slice (some ⟨b, off, none⟩) n2 c2] ∧ Only [] w w4 := by
              refine ⟨?_, (only_grown hgrow).blk hb1 (own_apart hv1 hb1 (by decide)), (hO.out.alloc _).step (only_grown hgrow) (fun i hi hl => own_new hV.out (S := []) i hi (by omega))⟩
              rw [HE.out, placeC_append]
              simpa [placeC] using hown4
            have HREL := Lib.hid REL
            clear REL hown4 lB b2 a2 p2 hb1 hv1
            go_wp2
            go_roundw
            case rel => first | exact ⟨j + 1, by go_num, by omega, Lib.hid HREL.out.1, Lib.hid HREL.out.2.1, Lib.hid HREL.out.2.2⟩ | exact ⟨_, ⟨j + 1, by go_num, by omega, Lib.hid HREL.out.1, Lib.hid HREL.out.2.1, Lib.hid HREL.out.2.2⟩, rfl⟩
            case measure => simp [intOf]; omega
          · have HE : Hid (lostP (plsL (h.l.take k) ++ plsT k (ops.take (j + 1))) = lostP (plsL (h.l.take k) ++ plsT k (ops.take j))) := Lib.hid (by
              rw [HTT.out, ← List.append_assoc, lostP_miss _ (by exact hv2)])
            have hf1 : (yv == 2) = false := by simpa using hv2
            clear hv2
            go_wp2
            go_roundw
            case rel => exact ⟨j + 1, by go_num, by omega, Lib.hid (by rw [HE.out]; exact hV.out), hB, hO⟩
            case measure => simp [intOf]; omega
        · have hjm : j = m := by omega
          subst hjm
          have hd3 : decide ((j : Int) < (j : Int)) = false := by simp
          have hVE : Hid (wr.ownsRow (w.heap.size + 1) 58 2 u3 (lostP (plsL (h.l.take (k + 1)))).length (placeC (lostP (plsL (h.l.take (k + 1)))))) := Lib.hid (by
            have := hV.out
            rw [show ops.take j = ops from List.take_of_length_le (by rw [HMM.out]; exact Nat.le_refl _)] at this
            rw [HPT.out]
            exact this)
          clear hV
          go_wp2
          go_roundw
          case rel => exact ⟨k + 1, by go_num, by omega, hVE, hB, hO⟩
          case measure => simp [intOf]; omega
    · have hkn : k = n2 := by omega
      subst hkn
      have lB := hB.out.lt
      have b2 := hB.out.at_ 2
      simp at b2
      have hd2 : decide ((k : Int) < (k : Int)) = false := by simp
      have hVV := hV.out
      rw [List.take_of_length_le (by rw [HN2.out]; exact Nat.le_refl _)] at hVV
      obtain ⟨A, c, rfl, -, -, -, hR⟩ := own_row hVV
      have HR := Lib.hid hR
      clear hV hVV hR
      go_wp2
      go_ret
      first | exact ⟨⟨_, ⟨_, rfl⟩, HR.out⟩, hO.out⟩ | exact ⟨_, _, ⟨rfl, HR.out⟩, hO.out⟩

theorem placeC_len (l : List (Int × Int)) : (placeC l).length = l.length * 2 := flat_len _ 2 (fun _ => rfl) l
set_option maxHeartbeats 1000000 in
theorem samePl_eq (A A' : Option Addr) (n c d : Nat) (l : List (Int × Int)) (w : World) (B B' : Nat) (hA : Row w B A (placeC l)) (hA' : Row w B' A' (placeC l)) (hn : l.length = n) (hnm : n ≤ 9223372036854775807) :
    Calls Tryd.prog 17 #[.slice A n c, .slice A' n d] w fun e w' => e = .returned (.bool true) ∧ ∃ k, w.drewN k = w' := by
  have HA := Lib.hid hA
  have HA' := Lib.hid hA'
  have HN := Lib.hid hn
  clear hA hA' hn
  go_enter Tryd.func17, Tryd.ntmps17
  go_wp2_with fail
  go_loopw [5] (fun i wr => ∃ k q : Nat, i = .int .i64 k ∧ k ≤ n ∧ Hid (wr = w.drewN q)) (fun i _ => n - (intOf i).toNat)
  case atStart => exact ⟨0, 0, rfl, by omega, rfl⟩
  case round =>
    obtain ⟨k, q, rfl, hk, hw⟩ := hrel
    have hxl := HN.out
    by_cases hlt : k < n
    · obtain ⟨b, off, rfl, -, hbw, hc⟩ := HA.out.open_ (k := k * 2) (by rw [placeC_len]; omega)
      obtain ⟨b', off', rfl, -, hbw', hc'⟩ := HA'.out.open_ (k := k * 2) (by rw [placeC_len]; omega)
      obtain ⟨e, he⟩ : ∃ e, l[k]? = some e := ⟨_, List.getElem?_eq_getElem (by omega)⟩
      obtain ⟨x, y⟩ := e
      have g0 := flat_get (fun e : Int × Int => [Value.int .i64 e.1, .int .i64 e.2]) 2 (fun _ => rfl) l k _ he 0 (by omega)
      have g1 := flat_get (fun e : Int × Int => [Value.int .i64 e.1, .int .i64 e.2]) 2 (fun _ => rfl) l k _ he 1 (by omega)
      have hc0 : wr.cell? ⟨b, off + k * 2, none⟩ = some (.int .i64 x) := by rw [hw.out]; exact hc _ _ g0
      have hc1 : wr.cell? ⟨b, off + k * 2 + 1, none⟩ = some (.int .i64 y) := by rw [hw.out, Nat.add_assoc]; exact hc _ _ g1
      have hc2 : wr.cell? ⟨b', off' + k * 2, none⟩ = some (.int .i64 x) := by rw [hw.out]; exact hc' _ _ g0
      have hc3 : wr.cell? ⟨b', off' + k * 2 + 1, none⟩ = some (.int .i64 y) := by rw [hw.out, Nat.add_assoc]; exact hc' _ _ g1
      have hk0 : (0 : Int) ≤ (k : Int) := Int.natCast_nonneg _
      have hk1 : (k : Int) < (n : Int) := by omega
      clear hc hc' hxl he g0 g1
      go_wp2_with fail
      go_quiet (fail)
      go_wp2
      go_roundw
      case rel =>
        refine ⟨k + 1, q + nq, by go_num, by omega, ?_⟩
        show _ = _
        rw [hw.out, World.drewN_drewN]
      case measure => simp [intOf]; omega
    · have hge : n ≤ k := by omega
      clear hxl
      go_wp2
      go_ret
      exact ⟨rfl, q, hw.out.symm⟩

end Go.Proofs.YtpkibfpnfpjclaaDoor
