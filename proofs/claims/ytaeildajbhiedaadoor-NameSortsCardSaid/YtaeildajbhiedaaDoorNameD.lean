/- Contracts of the package name: Turned; the law's works. -/
import Derived.Test.YtaeildajbhiedaaDoorNameC
set_option linter.unusedVariables false
set_option linter.unusedSimpArgs false
namespace Go.Proofs.YtaeildajbhiedaaDoor
open Go.RowKit
open Go.Lib hiding intOf
attribute [local go_sem ↓] Go.wp_at_zero Go.wp_at_succ

theorem add_at (g j : Nat) : (⟨g, 0, none⟩ : Addr).add j = ⟨g, j, none⟩ := by
  unfold Addr.add
  split
  · rename_i h; subst h; rfl
  · simp
theorem rev_getD (pre : List Nat) (n j : Nat) (hn : pre.length = n) (h : j < n) : ((pre.reverse.map fun (r : Nat) => (r : Int)).getD j 0) = ((pre.getD (n - 1 - j) 0 : Nat) : Int) := by
  subst hn
  rw [List.getD_eq_getElem?_getD, List.getElem?_map, List.getElem?_reverse h, List.getD_eq_getElem?_getD, List.getElem?_eq_getElem (by omega)]
  rfl
theorem cells_of (cur : Array Value) (pre : List Nat) (n : Nat) (hn : pre.length = n) (ht : cur.toList.take (n * 1) = i32s pre) : ∀ m, m < n → cur[m]? = some (i32 (pre.getD m 0)) := by
  intro m hm
  have h1 : (cur.toList.take (n * 1))[m]? = some (i32 (pre.getD m 0)) := by
    rw [ht, i32s, List.getElem?_map, List.getD_eq_getElem?_getD, List.getElem?_eq_getElem (by omega)]
    rfl
  rw [List.getElem?_take, if_pos (by omega)] at h1
  rw [← Array.getElem?_toList]
  exact h1

set_option maxHeartbeats 4000000 in
theorem turned_any (s : ByteArray) (w : World) (hs : s.size ≤ 1000000) :
    Calls Tryd.prog 20 #[.string s] w fun e w' => e = .returned (.string ⟨(turnedL (by_ s)).toArray⟩) ∧ Only [] w w' := by
  obtain ⟨i0, hi, hz0, hz1, hz2⟩ := info_parts tinfo_rune
  obtain ⟨R, hR⟩ : ∃ R : ByteArray, R = ⟨(turnedL (by_ s)).toArray⟩ := ⟨_, rfl⟩
  have HR : Hid (∀ pre, runesL (by_ s) = pre → runesBytes (pre.reverse.map fun (r : Nat) => (r : Int)) = R) := Lib.hid (fun pre h => by
    apply by_inj
    rw [bytes_enc, hR, ← h]
    exact List.toList_toArray.symm)
  rw [← hR]
  clear hR
  go_enter Tryd.func20, Tryd.ntmps20
  go_wp2
  go_loopw [3] (fun V wr => ∃ (pos n : Nat) (pre : List Nat), pos ≤ s.size ∧ n ≤ pos ∧ Hid (pre.length = n) ∧ Hid (wr.ownsRow w.heap.size 21 1 V n (i32s pre)) ∧ Hid (runesL (by_ s) = pre ++ runesL ((by_ s).drop pos)) ∧ Hid (wr.heap[w.heap.size]? = some (.stringIter s pos)) ∧ Hid (Only [] w wr)) (fun _ wr => s.size - wr.iterPos w.heap.size)
  case atStart => exact ⟨0, 0, [], by omega, by omega, Lib.hid rfl, Lib.hid ⟨rfl, .inl ⟨rfl, rfl⟩⟩, Lib.hid rfl, Lib.hid (World.iter_heap w s 0), Lib.hid ((Only.refl [] w).alloc _)⟩
  case round =>
    obtain ⟨pos, n, pre, hpos, hn, HN, HOWN, HRU, HIT, HO⟩ := hrel
    by_cases hp : pos < s.size
    · have hnx : ∀ ty, (Instr.next (.pointer (some ⟨w.heap.size, 0, none⟩)) true ty).run Tryd.prog wr = _ := fun ty => run_next_any_at wr w.heap.size s pos ty HIT.out hp
      have hwd := width_le s pos hp
      have hip := iterPos_of HIT.out
      have HST := Lib.hid (runes_dec s pos hp)
      obtain ⟨⟨r, wd⟩, hdec⟩ : ∃ d, d = Utf8.decode s pos := ⟨_, rfl⟩
      rw [← hdec] at hnx hwd HST
      dsimp only at hwd
      have HIT2 := Lib.hid (iterAt_heap wr w.heap.size s pos (pos + wd) HIT.out)
      have HOWN2 := Lib.hid (own_iter HOWN.out HIT.out (pos + wd))
      have HO2 := Lib.hid (only_iter HO.out s (pos + wd) (k := w.heap.size) (fun h => by omega))
      have hO2s := HO2.out.size
      have HRU2 : Hid (runesL (by_ s) = (pre ++ [r]) ++ runesL ((by_ s).drop (pos + wd))) := Lib.hid (by rw [HRU.out, HST.out]; simp)
      have HN2 : Hid ((pre ++ [r]).length = n + 1) := Lib.hid (by rw [List.length_append, HN.out]; rfl)
      have hlen : (i32s pre).length = n := by rw [i32s, List.length_map, HN.out]
      obtain ⟨w3, hw3⟩ : ∃ w3, w3 = wr.iterAt w.heap.size s (pos + wd) := ⟨_, rfl⟩
      rw [← hw3] at hnx HIT2 HOWN2 HO2 hO2s
      have hwd1 := hwd.1
      have hwd2 := hwd.2
      clear hdec hw3 hwd HIT HO HOWN HRU HST
      go_wp2_with (at_builtin; refine wpList_append_row _ rfl (.tmp 11) (.tmp 13) _ rfl w.heap.size 21 i0 _ 1 4 Tryd.underlying53 hi hz0 hz1 hz2 rfl (by omega) _ _ (i32s pre) rfl (own_only HOWN2.out ((Only.refl [] _).alloc _) (by simp)) (w3.heap.size + 1) (some ⟨w3.heap.size, 0, none⟩) 1 1 [i32 r] (by rfl) (by rfl) (row_lit w3 21 #[i32 r]) (by intro u hu; simp at hu; subst hu; rfl) (by unfold maxLen; omega) (by omega) (by simp; omega) ?_; intro v3 w4 hown3 hgrow hat)
      have REL : w4.heap[w.heap.size]? = some (.stringIter s (pos + wd)) ∧ w4.ownsRow w.heap.size 21 1 v3 (n + 1) (i32s (pre ++ [r])) ∧ Only [] w w4 := by
        have hk : w.heap.size < w3.heap.size := (Array.getElem?_eq_some_iff.1 HIT2.out).1
        have hwas : (w3.alloc (.cells #[i32 r] 21)).heap[w.heap.size]? = some (.stringIter s (pos + wd)) := by
          rw [Below.heap_alloc w3 _ w.heap.size hk]
          exact HIT2.out
        refine ⟨?_, ?_, (HO2.out.alloc _).step (only_grown hgrow) (own_new HOWN2.out)⟩
        · have hnot : w.heap.size ∉ u3.ownBlock.toList := fun hm => by
            cases hv : u3.ownBlock with
            | none => rw [hv] at hm; cases hm
            | some g =>
              rw [hv] at hm
              simp at hm
              subst hm
              obtain ⟨cur, hcur⟩ := own_blk HOWN2.out hv
              unfold Blk at hcur
              rw [HIT2.out] at hcur
              cases hcur
          rw [(only_grown hgrow).keeps w.heap.size (by rw [World.size_alloc]; omega) hnot]
          exact hwas
        · have : i32s (pre ++ [r]) = i32s pre ++ [i32 r] := by simp [i32s]
          rw [this]
          exact hown3
      have HREL := Lib.hid REL
      have hip3 := iterPos_of REL.1
      clear REL hown3 hgrow hat hlen
      go_wp2
      go_roundw
      case rel =>
        first
        | exact ⟨pos + wd, n + 1, pre ++ [r], by omega, by omega, HN2, Lib.hid HREL.out.2.1, HRU2, Lib.hid HREL.out.1, Lib.hid HREL.out.2.2⟩
        | exact ⟨_, _, _, _, ⟨pos + wd, n + 1, pre ++ [r], by omega, by omega, HN2, Lib.hid HREL.out.2.1, HRU2, Lib.hid HREL.out.1, Lib.hid HREL.out.2.2⟩, rfl⟩
      case measure => rw [hip, hip3]; omega
    · have hnx : ∀ ty, (Instr.next (.pointer (some ⟨w.heap.size, 0, none⟩)) true ty).run Tryd.prog wr = _ := fun ty => run_next_end_at wr w.heap.size s pos ty HIT.out hp
      have hl : (by_ s).drop pos = [] := List.drop_of_length_le (by rw [by_length]; omega)
      have hall : runesL (by_ s) = pre := by
        have := HRU.out
        rw [hl, runes_nil, List.append_nil] at this
        exact this
      have HRR := Lib.hid (HR.out pre hall)
      clear hl hall HRU HR
      obtain ⟨hl, hv⟩ := HOWN.out
      rcases hv with ⟨hv, hn0⟩ | ⟨g, cap, cur, hv, hbase, hg, hnc, hm, hsz, ht⟩
      · subst hv
        subst hn0
        have hpn : pre = [] := List.eq_nil_of_length_eq_zero HN.out
        subst hpn
        have HRV := Lib.hid (reverse_none wr)
        have hcv : (convert 53 9 (.slice none 0 0)).run Tryd.prog wr = .ok (.string .empty) wr := run_convert_runes_nil wr _ _ 21 0 0 Tryd.underlying53 Tryd.underlying21 Tryd.underlying9
        have HE : Hid (ByteArray.empty = R) := Lib.hid (by rw [← HRR.out]; rfl)
        clear hl HOWN
        go_wp2_with fail
        refine (HRV.out).mono ?_
        rintro e w5 ⟨rfl, rfl⟩
        go_wp2
        go_ret
        exact ⟨by rw [← HE.out]; rfl, HO.out⟩
      · subst hv
        have HRV := Lib.hid (reverse_own g cap n cur pre wr HN.out hg (cells_of cur pre n HN.out ht) hnc hm)
        have HB := Lib.hid hbase
        clear hl HOWN hg ht hbase hsz
        go_wp2_with fail
        refine (HRV.out).mono ?_
        rintro e w5 ⟨rfl, hO5, cur', hB5, -, hC5⟩
        have HO5 : Hid (Only [] w w5) := Lib.hid (HO.out.step hO5 (fun i hi hlt => by simp at hi; subst hi; have := HB.out; omega))
        have hcv : (convert 53 9 (.slice (some ⟨g, 0, none⟩) n cap)).run Tryd.prog w5 = .ok (.string R) w5 := by
          have hlen : (pre.reverse.map fun (r : Nat) => (r : Int)).length = n := by rw [List.length_map, List.length_reverse, HN.out]
          have h := run_convert_runes (P := Tryd.prog) w5 53 9 21 ⟨g, 0, none⟩ n cap (pre.reverse.map fun (r : Nat) => (r : Int)) (by omega) Tryd.underlying53 Tryd.underlying21 Tryd.underlying9 (fun j hj => by
            rw [hlen] at hj
            rw [add_at, hB5.at_, hC5 j hj, rev_getD pre n j HN.out hj]
            rfl)
          rw [List.take_of_length_le (by omega), HRR.out] at h
          exact h
        clear hO5 hB5 hC5
        go_wp2
        go_ret
        exact ⟨rfl, HO5.out⟩

theorem enc_len : ∀ rs : List Nat, (encL rs).length ≤ 4 * rs.length
  | [] => Nat.zero_le _
  | r :: rs => by
    have ih := enc_len rs
    have h : (encodeRune (r : Int)).length ≤ 4 := by
      unfold encodeRune
      rw [List.length_map]
      exact (encodeRuneZ_length _).2
    show (encodeRune (r : Int) ++ encL rs).length ≤ _
    rw [List.length_append, List.length_cons]
    omega
theorem turned_len (l : List UInt8) : (turnedL l).length ≤ 4 * l.length := by
  have h1 := enc_len (runesL l).reverse
  rw [List.length_reverse] at h1
  have h2 := runes_len l
  unfold turnedL
  omega

theorem ex2_a : isName ⟨#[195, 169]⟩ = true := by kernel_rfl
theorem ex2_b : isName ⟨#[49, 195, 169]⟩ = false := by kernel_rfl
theorem ex2_c : isName ⟨#[111, 107]⟩ = false := by kernel_rfl
theorem ex2_d : turnedL (by_ ⟨#[97, 195, 169]⟩) = [195, 169, 97] := by kernel_rfl
theorem ex2_e : lessL (runesL (by_ ⟨#[97]⟩)) (runesL (by_ ⟨#[195, 169]⟩)) = true := by kernel_rfl

set_option maxHeartbeats 2000000 in
theorem works02_any (w : World) (hT : UTabs w) :
    Calls Tryd.prog 16 #[] w fun e w' => e = .returned (.bool true) ∧ Only [] w w' := by
  have H1 := Lib.hid (is_any ⟨#[195, 169]⟩ w (by decide) hT)
  rw [ex2_a] at H1
  have H2 := Lib.hid (fun w' (h : Only [] w w') => is_any ⟨#[49, 195, 169]⟩ w' (by decide) (hT.only h))
  rw [ex2_b] at H2
  have H3 := Lib.hid (fun w' (h : Only [] w w') => is_any ⟨#[111, 107]⟩ w' (by decide) (hT.only h))
  rw [ex2_c] at H3
  have H4 := Lib.hid (fun w' => turned_any ⟨#[97, 195, 169]⟩ w' (by decide))
  rw [ex2_d] at H4
  have H5 := Lib.hid (fun w' (h : Only [] w w') => less_any ⟨#[97]⟩ ⟨#[195, 169]⟩ w' (by decide) (by decide) (hT.only h))
  rw [ex2_e] at H5
  clear hT
  go_enter Tryd.func16, Tryd.ntmps16
  go_wp2_with fail
  refine (H1.out).mono ?_
  rintro e w1 ⟨rfl, hO1⟩
  have HO1 := Lib.hid hO1
  clear hO1
  go_wp2_with fail
  refine (H2.out _ HO1.out).mono ?_
  rintro e w2 ⟨rfl, hO2⟩
  have HO2 := Lib.hid (HO1.out.trans hO2)
  clear hO2
  go_wp2_with fail
  refine (H3.out _ HO2.out).mono ?_
  rintro e w3 ⟨rfl, hO3⟩
  have HO3 := Lib.hid (HO2.out.trans hO3)
  clear hO3
  go_wp2_with fail
  refine (H4.out w3).mono ?_
  rintro e w4 ⟨rfl, hO4⟩
  have HO4 := Lib.hid (HO3.out.trans hO4)
  clear hO4
  go_wp2_with fail
  refine (H5.out _ HO4.out).mono ?_
  rintro e w5 ⟨rfl, hO5⟩
  have HO5 := Lib.hid (HO4.out.trans hO5)
  clear hO5
  go_wp2
  go_ret
  exact ⟨rfl, HO5.out⟩

end Go.Proofs.YtaeildajbhiedaaDoor
