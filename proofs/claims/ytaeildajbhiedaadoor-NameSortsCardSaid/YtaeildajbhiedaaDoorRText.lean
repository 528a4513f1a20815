/- Contracts of the document's names: Text, Turned. -/
import Derived.Test.YtaeildajbhiedaaDoorRName
import Derived.Laws.BytesArg
set_option linter.unusedVariables false
set_option linter.unusedSimpArgs false
namespace Go.Proofs.YtaeildajbhiedaaDoor
open Go.RowKit
open Go.Lib hiding intOf
attribute [local go_sem ↓] Go.wp_at_zero Go.wp_at_succ

theorem rune_range (l : List UInt8) : ∀ r ∈ runesL l, (r < 55296 ∨ 57344 ≤ r) ∧ r ≤ 1114111 := by
  have : ∀ (n : Nat) (l : List UInt8), ∀ r ∈ runesF n l, (r < 55296 ∨ 57344 ≤ r) ∧ r ≤ 1114111 := by
    intro n
    induction n with
    | zero => intro l r hr; cases hr
    | succ n ih =>
      intro l r hr
      cases l with
      | nil => cases hr
      | cons b t =>
        rw [runesF] at hr
        rcases List.mem_cons.1 hr with rfl | hr
        · rw [decodeL_N]
          have k0 := ((b :: t).getD 0 0).toNat_lt
          rcases decodeN_shape (b :: t).length ((b :: t).getD 0 0).toNat ((b :: t).getD 1 0).toNat ((b :: t).getD 2 0).toNat ((b :: t).getD 3 0).toNat with ⟨c, e⟩ | ⟨c1, c2, c3, cv, e⟩ | ⟨c1, c2, c3, c4, cv, cs, e⟩ | ⟨c1, c2, c3, c4, c5, cv, cw, e⟩ | e
          all_goals (rw [e]; simp only; omega)
        · exact ih _ r hr
  exact this _ _
def numsZ (rs : List Nat) : List Int := (rs.map fun (r : Nat) => encodeRuneZ (r : Int)).flatten
theorem nums_snoc (rs : List Nat) (r : Nat) : numsZ (rs ++ [r]) = numsZ rs ++ encodeRuneZ (r : Int) := by simp [numsZ]
theorem nums_len : ∀ rs : List Nat, (numsZ rs).length ≤ 4 * rs.length
  | [] => Nat.zero_le _
  | r :: rs => by
    have ih := nums_len rs
    have h := (encodeRuneZ_length (r : Int)).2
    show (encodeRuneZ (r : Int) ++ numsZ rs).length ≤ _
    rw [List.length_append, List.length_cons]
    omega
theorem nums_enc : ∀ rs : List Nat, (numsZ rs).map (fun n => UInt8.ofNat n.toNat) = encL rs
  | [] => rfl
  | r :: rs => by
    show (encodeRuneZ (r : Int) ++ numsZ rs).map _ = encodeRune (r : Int) ++ encL rs
    rw [List.map_append, nums_enc rs]
    rfl
theorem tinfo_byte : (Tryd.prog.info? 5).map (fun i => (i.zero, i.size, i.bytes)) = some (some (.int .u8 0), 1, 1) := by kernel_rfl

set_option maxRecDepth 20000 in
set_option maxHeartbeats 8000000 in
theorem rtext_any (A : Option Addr) (n c B : Nat) (rs : List Nat) (w : World) (hn : rs.length = n) (hN : n ≤ 1000) (hr : ∀ r ∈ rs, (r < 55296 ∨ 57344 ≤ r) ∧ r ≤ 1114111) (hA : Row w B A (i64s rs)) :
    Calls Tryd.prog 40 #[.slice A n c] w fun e w' => e = .returned (.string ⟨(encL rs).toArray⟩) ∧ Only [] w w' := by
  obtain ⟨i0, hi, hz0, hz1, hz2⟩ := info_parts tinfo_byte
  obtain ⟨R, hR⟩ : ∃ R : ByteArray, R = ⟨(encL rs).toArray⟩ := ⟨_, rfl⟩
  rw [← hR]
  have HR : Hid (strOfNums (numsZ rs) = R) := Lib.hid (by
    rw [hR]
    unfold strOfNums
    rw [nums_enc])
  have HN := Lib.hid hn
  have HRG := Lib.hid hr
  have HROW := Lib.hid hA
  clear hR hn hr hA
  go_enter Tryd.func40, Tryd.ntmps40
  go_wp2_with fail
  go_loopw [3, 4] (fun V iv wr => ∃ (k m : Nat), iv = .int .i64 k ∧ k ≤ n ∧ m ≤ 4 * k ∧ Hid ((numsZ (rs.take k)).length = m) ∧ Hid (wr.ownsRow w.heap.size 5 1 V m ((numsZ (rs.take k)).map (Value.int .u8))) ∧ Hid (Only [] w wr)) (fun _ iv _ => n - (intOf iv).toNat)
  case atStart => exact ⟨0, 0, rfl, by omega, by omega, Lib.hid rfl, Lib.hid (World.ownsRow_lit w #[] 0 (Nat.le_refl _) (by unfold maxLen; omega) rfl), Lib.hid ((Only.refl [] w).alloc _)⟩
  case round =>
    obtain ⟨k, m, rfl, hk, hm, HM, HOWN, HO⟩ := hrel
    have hwsz := HO.out.size
    by_cases hlt : k < n
    · have h01 : (k : Int) < (n : Int) := by omega
      have hk0 : (0 : Int) ≤ (k : Int) := Int.natCast_nonneg _
      have hwk : IntKind.i64.wrap ((k : Int) + 1) = (k : Int) + 1 := IntWalk.i64_in _ (by omega)
      obtain ⟨b, off, rfl, hbB, hbw, hcell⟩ := HROW.out.open_ (k := k) (by rw [i64s_len, HN.out]; exact hlt)
      obtain ⟨r, hr⟩ : ∃ r, rs[k]? = some r := ⟨_, List.getElem?_eq_getElem (by rw [HN.out]; exact hlt)⟩
      have hck : wr.cell? ⟨b, off + k, none⟩ = some (.int .i64 (r : Int)) := (HO.out.cell (p := ⟨b, off + k, none⟩) hbw (by simp)).trans (hcell k _ (i64s_at rs k r hr))
      have hrg := HRG.out r (List.mem_of_getElem? hr)
      have HTK : Hid (numsZ (rs.take (k + 1)) = numsZ (rs.take k) ++ encodeRuneZ (r : Int)) := Lib.hid (by
        rw [List.take_add_one, hr]
        exact nums_snoc _ _)
      have hlen : ((numsZ (rs.take k)).map (Value.int .u8)).length = m := by rw [List.length_map, HM.out]
      have hr0 : (0 : Int) ≤ (r : Int) := Int.natCast_nonneg _
      clear hcell hr
      by_cases c1 : r < 128
      · have f1 : (r : Int) < 128 := by omega
        have u1 : IntKind.u8.wrap (r : Int) = (r : Int) := by simp [IntKind.wrap, IntKind.bits, IntKind.signed]; omega
        have HZ : Hid (encodeRuneZ (r : Int) = [(r : Int)]) := Lib.hid (encodeRuneZ_one (by omega) (by omega))
        go_wp2_with (at_builtin; refine wpList_append_row _ rfl (.tmp 19) (.tmp 22) _ rfl w.heap.size 5 i0 _ 1 1 Tryd.underlying72 hi hz0 hz1 hz2 rfl (by omega) _ m _ rfl (own_only HOWN.out ((Only.refl [] _).alloc _) (by simp)) (wr.heap.size + 1) (some ⟨wr.heap.size, 0, none⟩) 1 1 [.int .u8 (r : Int)] (by rfl) (by rfl) (row_lit wr 5 #[.int .u8 (r : Int)]) (by intro u hu; simp at hu; subst hu; rfl) (by unfold maxLen; omega) (by omega) (by simp; omega) ?_; intro v3 w3 hown3 hgrow hat)
        have REL : w3.ownsRow w.heap.size 5 1 v3 (m + 1) ((numsZ (rs.take (k + 1))).map (Value.int .u8)) ∧ Only [] w w3 ∧ (numsZ (rs.take (k + 1))).length = m + 1 := by
          refine ⟨?_, (HO.out.alloc _).step (only_grown hgrow) (own_new HOWN.out), ?_⟩
          · rw [HTK.out, HZ.out, List.map_append]
            exact hown3
          · rw [HTK.out, HZ.out, List.length_append, HM.out]
            rfl
        have HREL := Lib.hid REL
        clear REL hown3 hgrow hat hlen
        go_wp2
        go_roundw
        case rel => exact ⟨k + 1, m + 1, by go_num, by omega, by omega, Lib.hid HREL.out.2.2, Lib.hid HREL.out.1, Lib.hid HREL.out.2.1⟩
        case measure => simp [intOf]; omega
      · have f1 : decide ((r : Int) < 128) = false := decide_eq_false (by omega)
        by_cases c2 : r < 2048
        · have f2 : (r : Int) < 2048 := by omega
          have HZ : Hid (encodeRuneZ (r : Int) = [192 + (r : Int) / 64, 128 + (r : Int) % 64]) := Lib.hid (encodeRuneZ_two (by omega) (by omega))
          go_wp2_with (at_builtin; refine wpList_append_row _ rfl (.tmp 26) (.tmp 35) _ rfl w.heap.size 5 i0 _ 1 1 Tryd.underlying72 hi hz0 hz1 hz2 rfl (by omega) _ m _ rfl (own_only HOWN.out ((Only.refl [] _).alloc _) (by simp)) (wr.heap.size + 1) (some ⟨wr.heap.size, 0, none⟩) 2 2 [.int .u8 (192 + (r : Int) / 64), .int .u8 (128 + (r : Int) % 64)] (by rfl) (by rfl) (row_lit wr 5 #[.int .u8 (192 + (r : Int) / 64), .int .u8 (128 + (r : Int) % 64)]) (by intro u hu; simp at hu; rcases hu with rfl | rfl <;> rfl) (by unfold maxLen; omega) (by omega) (by simp; omega) ?_; intro v3 w3 hown3 hgrow hat)
          have REL : w3.ownsRow w.heap.size 5 1 v3 (m + 2) ((numsZ (rs.take (k + 1))).map (Value.int .u8)) ∧ Only [] w w3 ∧ (numsZ (rs.take (k + 1))).length = m + 2 := by
            refine ⟨?_, (HO.out.alloc _).step (only_grown hgrow) (own_new HOWN.out), ?_⟩
            · rw [HTK.out, HZ.out, List.map_append]
              exact hown3
            · rw [HTK.out, HZ.out, List.length_append, HM.out]
              rfl
          have HREL := Lib.hid REL
          clear REL hown3 hgrow hat hlen
          go_wp2
          go_roundw
          case rel => exact ⟨k + 1, m + 2, by go_num, by omega, by omega, Lib.hid HREL.out.2.2, Lib.hid HREL.out.1, Lib.hid HREL.out.2.1⟩
          case measure => simp [intOf]; omega
        · have f2 : decide ((r : Int) < 2048) = false := decide_eq_false (by omega)
          by_cases c3 : r < 65536
          · have f3 : (r : Int) < 65536 := by omega
            have HZ : Hid (encodeRuneZ (r : Int) = [224 + (r : Int) / 4096, 128 + (r : Int) / 64 % 64, 128 + (r : Int) % 64]) := Lib.hid (encodeRuneZ_three (by omega))
            go_wp2_with (at_builtin; refine wpList_append_row _ rfl (.tmp 39) (.tmp 53) _ rfl w.heap.size 5 i0 _ 1 1 Tryd.underlying72 hi hz0 hz1 hz2 rfl (by omega) _ m _ rfl (own_only HOWN.out ((Only.refl [] _).alloc _) (by simp)) (wr.heap.size + 1) (some ⟨wr.heap.size, 0, none⟩) 3 3 [.int .u8 (224 + (r : Int) / 4096), .int .u8 (128 + (r : Int) / 64 % 64), .int .u8 (128 + (r : Int) % 64)] (by rfl) (by rfl) (row_lit wr 5 #[.int .u8 (224 + (r : Int) / 4096), .int .u8 (128 + (r : Int) / 64 % 64), .int .u8 (128 + (r : Int) % 64)]) (by intro u hu; simp at hu; rcases hu with rfl | rfl | rfl <;> rfl) (by unfold maxLen; omega) (by omega) (by simp; omega) ?_; intro v3 w3 hown3 hgrow hat)
            have REL : w3.ownsRow w.heap.size 5 1 v3 (m + 3) ((numsZ (rs.take (k + 1))).map (Value.int .u8)) ∧ Only [] w w3 ∧ (numsZ (rs.take (k + 1))).length = m + 3 := by
              refine ⟨?_, (HO.out.alloc _).step (only_grown hgrow) (own_new HOWN.out), ?_⟩
              · rw [HTK.out, HZ.out, List.map_append]
                exact hown3
              · rw [HTK.out, HZ.out, List.length_append, HM.out]
                rfl
            have HREL := Lib.hid REL
            clear REL hown3 hgrow hat hlen
            go_wp2
            go_roundw
            case rel => exact ⟨k + 1, m + 3, by go_num, by omega, by omega, Lib.hid HREL.out.2.2, Lib.hid HREL.out.1, Lib.hid HREL.out.2.1⟩
            case measure => simp [intOf]; omega
          · have f3 : decide ((r : Int) < 65536) = false := decide_eq_false (by omega)
            have HZ : Hid (encodeRuneZ (r : Int) = [240 + (r : Int) / 262144, 128 + (r : Int) / 4096 % 64, 128 + (r : Int) / 64 % 64, 128 + (r : Int) % 64]) := Lib.hid (encodeRuneZ_four (by omega) (by omega))
            go_wp2_with (at_builtin; refine wpList_append_row _ rfl (.tmp 55) (.tmp 74) _ rfl w.heap.size 5 i0 _ 1 1 Tryd.underlying72 hi hz0 hz1 hz2 rfl (by omega) _ m _ rfl (own_only HOWN.out ((Only.refl [] _).alloc _) (by simp)) (wr.heap.size + 1) (some ⟨wr.heap.size, 0, none⟩) 4 4 [.int .u8 (240 + (r : Int) / 262144), .int .u8 (128 + (r : Int) / 4096 % 64), .int .u8 (128 + (r : Int) / 64 % 64), .int .u8 (128 + (r : Int) % 64)] (by rfl) (by rfl) (row_lit wr 5 #[.int .u8 (240 + (r : Int) / 262144), .int .u8 (128 + (r : Int) / 4096 % 64), .int .u8 (128 + (r : Int) / 64 % 64), .int .u8 (128 + (r : Int) % 64)]) (by intro u hu; simp at hu; rcases hu with rfl | rfl | rfl | rfl <;> rfl) (by unfold maxLen; omega) (by omega) (by simp; omega) ?_; intro v3 w3 hown3 hgrow hat)
            have REL : w3.ownsRow w.heap.size 5 1 v3 (m + 4) ((numsZ (rs.take (k + 1))).map (Value.int .u8)) ∧ Only [] w w3 ∧ (numsZ (rs.take (k + 1))).length = m + 4 := by
              refine ⟨?_, (HO.out.alloc _).step (only_grown hgrow) (own_new HOWN.out), ?_⟩
              · rw [HTK.out, HZ.out, List.map_append]
                exact hown3
              · rw [HTK.out, HZ.out, List.length_append, HM.out]
                rfl
            have HREL := Lib.hid REL
            clear REL hown3 hgrow hat hlen
            go_wp2
            go_roundw
            case rel => exact ⟨k + 1, m + 4, by go_num, by omega, by omega, Lib.hid HREL.out.2.2, Lib.hid HREL.out.1, Lib.hid HREL.out.2.1⟩
            case measure => simp [intOf]; omega
    · have hkn : k = n := by omega
      subst hkn
      have hd : decide ((k : Int) < (k : Int)) = false := by simp
      have hall : rs.take k = rs := List.take_of_length_le (by rw [HN.out]; exact Nat.le_refl _)
      rw [hall] at HM HOWN
      obtain ⟨hl0, hv⟩ := HOWN.out
      rcases hv with ⟨hv, h0⟩ | ⟨g, cap, cur, hv, hb, hg, hnc, hcm, hsz, ht⟩
      · subst hv
        subst h0
        have hcv : (convert 72 9 (.slice none 0 0)).run Tryd.prog wr = .ok (.string ⟨#[]⟩) wr := run_convert_bytes_nil wr 72 5 Tryd.underlying72 Tryd.underlying5 0 0 9 Tryd.underlying9
        have HE : Hid ((⟨#[]⟩ : ByteArray) = R) := Lib.hid (by
          rw [← HR.out]
          have : numsZ rs = [] := List.eq_nil_of_length_eq_zero HM.out
          rw [this]
          rfl)
        clear hl0 HOWN
        go_wp2
        go_ret
        exact ⟨by first | (rw [← HE.out]; done) | (rw [← HE.out]; rfl), HO.out⟩
      · subst hv
        have hB : Blk wr g 5 cur := hg
        have hcv : (convert 72 9 (.slice (some ⟨g, 0, none⟩) m cap)).run Tryd.prog wr = .ok (.string R) wr := by
          have h := run_convert_bytes_arg (P := Tryd.prog) wr 72 5 Tryd.underlying72 Tryd.underlying5 g 0 m cap (numsZ rs) HM.out (fun i hi => by
            rw [hB.at_, Nat.zero_add]
            have h1 : (cur.toList.take (m * 1))[i]? = some (.int .u8 ((numsZ rs).getD i 0)) := by
              rw [ht, List.getElem?_map, List.getD_eq_getElem?_getD, List.getElem?_eq_getElem (by rw [HM.out]; exact hi)]
              rfl
            rw [List.getElem?_take, if_pos (by omega)] at h1
            rw [← Array.getElem?_toList]
            exact h1) 9 Tryd.underlying9
          rw [HR.out] at h
          exact h
        clear hl0 HOWN hg ht hB hsz
        go_wp2
        go_ret
        exact ⟨rfl, HO.out⟩

set_option maxHeartbeats 4000000 in
theorem rturned_any (s : ByteArray) (w : World) (hs : s.size ≤ 1000) :
    Calls Tryd.prog 21 #[.string s] w fun e w' => e = .returned (.string ⟨(turnedL (by_ s)).toArray⟩) ∧ Only [] w w' := by
  obtain ⟨i0, hi, hz0, hz1, hz2⟩ := info_parts info_int
  have HA := Lib.hid (rrunes02_any s w (by omega))
  have hrl := runes_len (by_ s)
  rw [by_length] at hrl
  have hrg := rune_range (by_ s)
  unfold turnedL
  obtain ⟨rs, hrs⟩ : ∃ rs, rs = runesL (by_ s) := ⟨_, rfl⟩
  rw [← hrs] at HA hrl hrg ⊢
  obtain ⟨n, hn⟩ : ∃ n, n = rs.length := ⟨_, rfl⟩
  rw [← hn] at HA hrl
  have HTX := Lib.hid (fun A c B w' (hA : Row w' B A (i64s rs.reverse)) => rtext_any A n c B rs.reverse w' (by rw [List.length_reverse, hn]) (by omega) (fun r hr => hrg r (List.mem_reverse.1 hr)) hA)
  generalize (⟨(encL rs.reverse).toArray⟩ : ByteArray) = R at *
  have HN := Lib.hid hn
  clear hrs hrg hn
  go_enter Tryd.func21, Tryd.ntmps21
  go_wp2_with fail
  refine (HA.out).mono ?_
  rintro e w1 ⟨hO1, V, rfl, hown⟩
  have HO1 := Lib.hid hO1
  obtain ⟨A, c, rfl, -, -, -, hrow⟩ := own_row hown
  have HROW := Lib.hid hrow
  have hw1 := hO1.size
  have hwn : IntKind.i64.wrap ((n : Int) - 1) = (n : Int) - 1 := IntWalk.i64_in _ (by omega)
  clear hO1 hown hrow
  go_wp2_with fail
  go_loopw [4, 5] (fun V iv wr => ∃ (k : Nat) (jz : Int), iv = .int .i64 jz ∧ jz = (n : Int) - 1 - k ∧ k ≤ n ∧ Hid (wr.ownsRow w1.heap.size 3 1 V k (i64s (rs.reverse.take k))) ∧ Hid (Only [] w1 wr)) (fun _ iv _ => (intOf iv + 1).toNat)
  case atStart => exact ⟨0, (n : Int) - 1, rfl, by omega, by omega, Lib.hid (World.ownsRow_lit w1 #[] 0 (Nat.le_refl _) (by unfold maxLen; omega) rfl), Lib.hid ((Only.refl [] w1).alloc _)⟩
  case round =>
    obtain ⟨k, jz, rfl, hj, hk, HOWN, HO⟩ := hrel
    have hwsz := HO.out.size
    by_cases hlt : (0 : Int) ≤ jz
    · obtain ⟨j, rfl⟩ : ∃ j : Nat, jz = j := ⟨jz.toNat, by omega⟩
      have hjk : n = k + j + 1 := by omega
      have i0' : (0 : Int) ≤ (j : Int) := Int.natCast_nonneg _
      have i1 : (j : Int) < (n : Int) := by omega
      obtain ⟨r, hr⟩ : ∃ r, rs[j]? = some r := ⟨_, List.getElem?_eq_getElem (by rw [← HN.out]; omega)⟩
      obtain ⟨b, o, rfl, -, hbw, hcell⟩ := HROW.out.open_ (k := j) (by rw [i64s_len, ← HN.out]; omega)
      have hck : wr.cell? ⟨b, o + j, none⟩ = some (.int .i64 (r : Int)) := (HO.out.cell (p := ⟨b, o + j, none⟩) hbw (by simp)).trans (hcell j _ (i64s_at rs j r hr))
      have HTK : Hid (i64s (rs.reverse.take (k + 1)) = i64s (rs.reverse.take k) ++ [.int .i64 (r : Int)]) := Lib.hid (by
        rw [List.take_add_one, List.getElem?_reverse (by rw [← HN.out]; omega), ← HN.out, show n - 1 - k = j by omega, hr]
        simp [i64s])
      have hlen : (i64s (rs.reverse.take k)).length = k := by rw [i64s_len, List.length_take, List.length_reverse, ← HN.out]; omega
      have hwj : IntKind.i64.wrap ((j : Int) - 1) = (j : Int) - 1 := IntWalk.i64_in _ (by omega)
      have HJK := Lib.hid hjk
      have hk1000 : k + 1 ≤ 1000 := by omega
      clear hcell hr hj hjk
      go_wp2_with (at_builtin; refine wpList_append_row _ rfl (.tmp 16) (.tmp 21) _ rfl w1.heap.size 3 i0 _ 1 8 Tryd.underlying47 hi hz0 hz1 hz2 rfl (by omega) _ k (i64s (rs.reverse.take k)) rfl (own_only HOWN.out ((Only.refl [] _).alloc _) (by simp)) (wr.heap.size + 1) (some ⟨wr.heap.size, 0, none⟩) 1 1 [.int .i64 (r : Int)] (by rfl) (by rfl) (row_lit wr 3 #[.int .i64 (r : Int)]) (by intro u hu; simp at hu; subst hu; rfl) (by unfold maxLen; omega) (by omega) (by simp; omega) ?_; intro v3 w3 hown3 hgrow hat)
      have REL : w3.ownsRow w1.heap.size 3 1 v3 (k + 1) (i64s (rs.reverse.take (k + 1))) ∧ Only [] w1 w3 :=
        ⟨by rw [HTK.out]; exact hown3, (HO.out.alloc _).step (only_grown hgrow) (own_new HOWN.out)⟩
      have HREL := Lib.hid REL
      clear REL hown3 hgrow hat hlen
      go_wp2
      go_roundw
      case rel =>
        have hjk := HJK.out
        exact ⟨k + 1, (j : Int) - 1, rfl, by omega, by omega, Lib.hid HREL.out.1, Lib.hid HREL.out.2⟩
      case measure => simp [intOf]
    · have hd : decide ((0 : Int) ≤ jz) = false := decide_eq_false hlt
      have hkn : k = n := by omega
      subst hkn
      have hall : rs.reverse.take k = rs.reverse := List.take_of_length_le (by rw [List.length_reverse, ← HN.out]; exact Nat.le_refl _)
      rw [hall] at HOWN
      obtain ⟨A1, c1, rfl, -, -, -, hrow1⟩ := own_row HOWN.out
      have HT1 := Lib.hid (HTX.out A1 c1 _ wr hrow1)
      have HOW := Lib.hid (HO1.out.trans HO.out)
      clear hall hrow1 HOWN HO hj
      go_wp2_with fail
      refine (HT1.out).mono ?_
      rintro e w4 ⟨rfl, hO4⟩
      have HO4 := Lib.hid (HOW.out.trans hO4)
      clear hO4
      go_wp2
      go_ret
      exact ⟨rfl, HO4.out⟩

end Go.Proofs.YtaeildajbhiedaaDoor
