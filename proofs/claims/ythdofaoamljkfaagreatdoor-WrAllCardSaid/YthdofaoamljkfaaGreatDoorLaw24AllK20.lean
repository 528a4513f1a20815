/- Parts. -/
import Derived.Test.YthdofaoamljkfaaGreatDoorLaw24AllK19
import Derived.Test.YthdofaoamljkfaaGreatDoorLaw24AllK13
set_option maxRecDepth 10000
set_option maxHeartbeats 16000000
set_option linter.unusedVariables false
set_option linter.unusedSimpArgs false
namespace Go.Proofs.YthdofaoamljkfaaGreatDoor
open Go.RowKit
open Go.Lib hiding intOf
attribute [local go_sem ↓] Go.wp_at_zero Go.wp_at_succ
def i64s (rs : List Nat) : List Value := rs.map fun (r : Nat) => Value.int .i64 (r : Int)
theorem rrunes02_any (s : ByteArray) (w : World) (hs : s.size ≤ 65537) :
  Calls Tryz.prog 83 #[.string s] w fun e w' => Only [] w w' ∧ ∃ V, e = .returned V ∧ w'.ownsRow w.heap.size 3 1 V (runesL (by_ s)).length (i64s (runesL (by_ s))) := by
 obtain ⟨i0, hi, hz0, hz1, hz2⟩ := info_parts info_int;have HON := Hd (fun pos w' (h : pos < s.size) => rone_any s pos w' h hs);go_enter Tryz.func83, Tryz.ntmps83;go_wp2_with fail
 go_loopw [3, 4] (fun V iv wr => ∃ (pos n : Nat) (pre : List Nat), iv = .int .i64 pos ∧ pos ≤ s.size ∧ n ≤ pos ∧ Hid (pre.length = n) ∧ Hid (wr.ownsRow w.heap.size 3 1 V n (i64s pre)) ∧ Hid (runesL (by_ s) = pre ++ runesL ((by_ s).drop pos)) ∧ Hid (Only [] w wr)) (fun _ iv _ => s.size - (intOf iv).toNat)
 case atStart => exact ⟨0, 0, [], rfl, by omega, by omega, Hd rfl, Hd (World.ownsRow_lit w #[] 0 (Nat.le_refl _) (by unfold maxLen; omega) rfl), Hd rfl, Hd ((Only.refl [] w).alloc _)⟩
 case round =>
  obtain ⟨pos, n, pre, rfl, hpos, hn, HN, HOWN, HRU, HO⟩ := hrel;have hO2s := HO.out.size
  by_cases hp : pos < s.size
  ·have hp1 : (pos : Int) < (s.size : Int) := by omega
   have hwd := width_le s pos hp;have HST := Hd (runes_dec s pos hp);have HON1 := Hd (HON.out pos wr hp);rw [dn_decode] at HON1;obtain ⟨⟨r, wd⟩, hdec⟩ : ∃ d, d = Utf8.decode s pos := ⟨_, rfl⟩;rw [← hdec] at hwd HST HON1;dsimp only at hwd HON1;have HRU2 : Hid (runesL (by_ s) = (pre ++ [r]) ++ runesL ((by_ s).drop (pos + wd))) := Hd (by rw [HRU.out, HST.out]; simp);have HN2 : Hid ((pre ++ [r]).length = n + 1) := Hd (by rw [List.length_append, HN.out]; rfl);have hlen : (i64s pre).length = n := by rw [i64s, List.length_map, HN.out]
   have hwd1 := hwd.1;have hwd2 := hwd.2;have hwk : IntKind.i64.wrap ((pos : Int) + (wd : Int)) = (pos : Int) + (wd : Int) := IntWalk.i64_in _ (by omega);clear hdec hwd HRU HST;go_wp2_with fail
   refine (HON1.out).mono ?_;rintro e w' ⟨rfl, rfl⟩;go_wp2_with (at_builtin; refine wpList_append_row _ rfl (.tmp 18) (.tmp 20) _ rfl w.heap.size 3 i0 _ 1 8 Tryz.underlying26 hi hz0 hz1 hz2 rfl (by omega) _ _ (i64s pre) rfl (own_only HOWN.out ((Only.refl [] _).alloc _) (by simp)) (wr.heap.size + 1) (some ⟨wr.heap.size, 0, none⟩) 1 1 [.int .i64 (r : Int)] (by rfl) (by rfl) (row_lit wr 3 #[.int .i64 (r : Int)]) (by intro u hu; simp at hu; subst hu; rfl) (by unfold maxLen; omega) (by omega) (by simp; omega) ?_; intro v3 w4 hown3 hgrow hat)
   have REL : w4.ownsRow w.heap.size 3 1 v3 (n + 1) (i64s (pre ++ [r])) ∧ Only [] w w4 := by
    refine ⟨?_, (HO.out.alloc _).step (only_grown hgrow) (own_new HOWN.out)⟩;have : i64s (pre ++ [r]) = i64s pre ++ [.int .i64 (r : Int)] := by simp [i64s]
    rw [this];exact hown3
   have HREL := Hd REL;clear REL hown3 hgrow hat hlen;go_wp2
   go_roundw
   case rel => exact ⟨pos + wd, n + 1, pre ++ [r], by go_num, by omega, by omega, HN2, Hd HREL.out.1, HRU2, Hd HREL.out.2⟩
   case measure => simp [intOf]; omega
  ·have hp0 : decide ((pos : Int) < (s.size : Int)) = false := decide_eq_false (by omega);have hl : (by_ s).drop pos = [] := List.drop_of_length_le (by rw [by_length]; omega);have hall : runesL (by_ s) = pre := by
    have := HRU.out;rw [hl, runes_nil, List.append_nil] at this;exact this
   have HAL := Hd hall;clear hl hall;go_wp2
   go_ret
   exact ⟨HO.out, _, rfl, by rw [HAL.out, HN.out]; exact HOWN.out⟩
theorem bad_width {l : List UInt8} {k : Nat} (hne : l ≠ []) (h : decodeL l = (65533, k)) : k = 1 ∨ k = 3 := by
 rw [decodeL_N] at h;have k0 := (l.getD 0 0).toNat_lt;have k1 := (l.getD 1 0).toNat_lt;rcases decodeN_shape l.length (l.getD 0 0).toNat (l.getD 1 0).toNat (l.getD 2 0).toNat (l.getD 3 0).toNat with ⟨c, e⟩ | ⟨c1, c2, c3, cv, e⟩ | ⟨c1, c2, c3, c4, cv, cs, e⟩ | ⟨c1, c2, c3, c4, c5, cv, cw, e⟩ | e
 all_goals (rw [e] at h; have h1 := congrArg Prod.fst h; have h2 := congrArg Prod.snd h; simp only at h1 h2; omega)
theorem rclean_any (s : ByteArray) (w : World) (hs : s.size ≤ 65537) :
  Calls Tryz.prog 85 #[.string s] w fun e w' => e = .returned (.bool (validD (by_ s))) ∧ w = w' := by
 have HON := Hd (fun pos w' (h : pos < s.size) => rone_any s pos w' h hs);obtain ⟨v, hv⟩ : ∃ v, v = validD (by_ s) := ⟨_, rfl⟩;rw [← hv];have HV := Hd hv;clear hv;go_enter Tryz.func85, Tryz.ntmps85;go_wp2
 go_loopw [3] (fun iv wr => ∃ (pos : Nat), iv = .int .i64 pos ∧ pos ≤ s.size ∧ Hid (v = validD ((by_ s).drop pos)) ∧ wr = w) (fun iv _ => s.size - (intOf iv).toNat)
 case atStart => exact ⟨0, rfl, by omega, Hd (by rw [HV.out]; rfl), by first | rfl | trivial⟩
 case round =>
  obtain ⟨pos, rfl, hpos, HVD, rfl⟩ := hrel
  by_cases hp : pos < s.size
  ·have hp1 : (pos : Int) < (s.size : Int) := by omega
   have hwd := width_le s pos hp;have HON1 := Hd (HON.out pos wr hp);rw [dn_decode] at HON1;have hne : (by_ s).drop pos ≠ [] := by
    intro e;have := congrArg List.length e;rw [List.length_drop, by_length] at this;simp at this;omega
   have hst := validD_step _ hne;have hbw := fun k => bad_width (k := k) hne;rw [decL_at] at hst hbw;obtain ⟨⟨r, wd⟩, hdec⟩ : ∃ d, d = Utf8.decode s pos := ⟨_, rfl⟩;rw [← hdec] at hwd HON1 hst hbw;dsimp only at hwd HON1 hst;have hwd1 := hwd.1;have hwd2 := hwd.2;have hwk : IntKind.i64.wrap ((pos : Int) + (wd : Int)) = (pos : Int) + (wd : Int) := IntWalk.i64_in _ (by omega)
   by_cases hr : r = 65533
   ·subst hr;rcases hbw wd rfl with rfl | rfl
    ·have hf : v = false := by rw [HVD.out, hst, if_pos ⟨rfl, rfl⟩]
     subst hf;clear hdec hwd hst hbw HVD hne HV;go_wp2_with fail
     refine (HON1.out).mono ?_;rintro e w' ⟨rfl, rfl⟩;go_wp2
     go_ret
     exact ⟨rfl, rfl⟩
    ·have HV2 : Hid (v = validD ((by_ s).drop (pos + 3))) := Hd (by rw [HVD.out, hst, if_neg (by simp), List.drop_drop]);clear hdec hwd hst hbw HVD hne;go_wp2_with fail
     refine (HON1.out).mono ?_;rintro e w' ⟨rfl, rfl⟩;go_wp2
     go_roundw
     case rel => exact ⟨pos + 3, by go_num, by omega, HV2, by first | rfl | trivial⟩
     case measure => simp [intOf]; omega
   ·have hr1 : ((r : Int) == 65533) = false := by simp; omega
    have HV2 : Hid (v = validD ((by_ s).drop (pos + wd))) := Hd (by rw [HVD.out, hst, if_neg (fun h => hr h.1), List.drop_drop]);clear hdec hwd hst hbw HVD hne hr;go_wp2_with fail
    refine (HON1.out).mono ?_;rintro e w' ⟨rfl, rfl⟩;go_wp2
    go_roundw
    case rel => exact ⟨pos + wd, by go_num, by omega, HV2, by first | rfl | trivial⟩
    case measure => simp [intOf]; omega
  ·have hp0 : decide ((pos : Int) < (s.size : Int)) = false := decide_eq_false (by omega);have hl : (by_ s).drop pos = [] := List.drop_of_length_le (by rw [by_length]; omega);have hf : v = true := by rw [HVD.out, hl]; rfl
   subst hf;clear hl HVD HV;go_wp2
   go_ret
   exact ⟨rfl, rfl⟩
theorem i64s_at (rs : List Nat) (k r : Nat) (h : rs[k]? = some r) : (i64s rs)[k]? = some (.int .i64 (r : Int)) := by
 rw [i64s, List.getElem?_map, h]
 rfl
theorem i64s_len (rs : List Nat) : (i64s rs).length = rs.length := by rw [i64s, List.length_map]
theorem name_false {rs : List Nat} {r : Nat} (h : r ∈ rs) (hm : mayR r = false) : nameL rs = false := by
 have : rs.all mayR = false := by
  rw [List.all_eq_false];exact ⟨r, h, by rw [hm]; simp⟩
 unfold nameL;rw [this, Bool.and_false]
theorem name_true {rs : List Nat} (h0 : 0 < rs.length) (h1 : rs.length ≤ 20) (h2 : digitR (rs.headD 0) = false) (h3 : rs.all mayR = true) : nameL rs = true := by
 unfold nameL;rw [decide_eq_true h0, decide_eq_true h1, h2, h3]
 rfl
theorem ris_any (s : ByteArray) (w : World) (hs : s.size ≤ 65537) :
  Calls Tryz.prog 70 #[.string s] w fun e w' => e = .returned (.bool (isName s)) ∧ Only [] w w' := by
 have HA := Hd (rrunes02_any s w hs);have HRS := Hd (fun w' => rreserved_any s w');have HCL := Hd (fun w' => rclean_any s w' hs);have hrl := runes_len (by_ s);rw [by_length] at hrl;obtain ⟨R, hR⟩ : ∃ R, R = isName s := ⟨_, rfl⟩;rw [← hR];unfold isName at hR;obtain ⟨rs, hrs⟩ : ∃ rs, rs = runesL (by_ s) := ⟨_, rfl⟩;rw [← hrs] at HA hrl hR;obtain ⟨v, hv⟩ : ∃ v, v = validD (by_ s) := ⟨_, rfl⟩;obtain ⟨x, hx⟩ : ∃ x, x = reservedL (by_ s) := ⟨_, rfl⟩;rw [← hv] at HCL hR;rw [← hx] at HRS hR;obtain ⟨n, hn⟩ : ∃ n, n = rs.length := ⟨_, rfl⟩;rw [← hn] at HA hrl;have HR := Hd hR;have HN := Hd hn;clear hR hrs hv hx hn;go_enter Tryz.func70, Tryz.ntmps70;go_wp2_with fail
 refine (HA.out).mono ?_;rintro e w1 ⟨hO1, V, rfl, hown⟩;have HO1 := Hd hO1;obtain ⟨A, c, rfl, -, -, -, hrow⟩ := own_row hown;have HROW := Hd hrow;clear hO1 hown hrow
 by_cases hn0 : n = 0
 ·have f1 : (n : Int) < 1 := by omega
  have HF : Hid (R = false) := Hd (by rw [HR.out]; simp only [nameL, ← HN.out, hn0]; simp);clear hn0;go_wp2
  go_ret
  exact ⟨by first | (rw [HF.out]; done) | (rw [HF.out]; rfl), HO1.out⟩
 ·by_cases hn20 : 20 < n
  ·have f1 : decide ((n : Int) < 1) = false := decide_eq_false (by omega);have f2 : (20 : Int) < (n : Int) := by omega
   have HF : Hid (R = false) := Hd (by
    rw [HR.out];have : decide (rs.length ≤ 20) = false := decide_eq_false (by rw [← HN.out]; omega);simp only [nameL, this, Bool.and_false, Bool.false_and])
   go_wp2
   go_ret
   exact ⟨by first | (rw [HF.out]; done) | (rw [HF.out]; rfl), HO1.out⟩
  ·have f1 : decide ((n : Int) < 1) = false := decide_eq_false (by omega);have f2 : decide ((20 : Int) < (n : Int)) = false := decide_eq_false (by omega);go_wp2_with fail
   refine (HRS.out _).mono ?_;rintro e w1' ⟨rfl, rfl⟩
   cases x with
   | true =>
    have HF : Hid (R = false) := Hd (by rw [HR.out]; simp);go_wp2
    go_ret
    exact ⟨by first | (rw [HF.out]; done) | (rw [HF.out]; rfl), HO1.out⟩
   | false =>
    go_wp2_with fail
    refine (HCL.out _).mono ?_;rintro e w1' ⟨rfl, rfl⟩
    cases v with
    | false =>
     have HF : Hid (R = false) := Hd (by rw [HR.out]; simp);go_wp2
     go_ret
     exact ⟨by first | (rw [HF.out]; done) | (rw [HF.out]; rfl), HO1.out⟩
    | true =>
     have HR2 : Hid (R = nameL rs) := Hd (by rw [HR.out]; simp);clear HR HRS HCL HA;obtain ⟨r0, hr0⟩ : ∃ r0, rs[0]? = some r0 := ⟨_, List.getElem?_eq_getElem (by rw [← HN.out]; omega)⟩;have hhd : rs.headD 0 = r0 := by
      cases rs with
      | nil => cases hr0
      | cons y t => exact Option.some.inj hr0
     obtain ⟨b, o, rfl, -, hbw, hcell⟩ := HROW.out.open_ (k := 0) (by rw [i64s_len, ← HN.out]; omega);have g0 : w1.cell? ⟨b, o, none⟩ = some (.int .i64 (r0 : Int)) := hcell 0 _ (i64s_at rs 0 r0 hr0);have hn1 : (0 : Int) < (n : Int) := by omega
     by_cases hdg : 48 ≤ r0 ∧ r0 ≤ 57
     ·have f3 : 48 ≤ (r0 : Int) := by omega
      have f4 : (r0 : Int) ≤ 57 := by omega
      have HF : Hid (R = false) := Hd (by
       rw [HR2.out];have : digitR (rs.headD 0) = true := by rw [hhd]; simp [digitR, hdg]
       simp only [nameL, this, Bool.not_true, Bool.and_false, Bool.false_and])
      clear hcell hr0 hhd hdg;go_wp2
      go_ret
      exact ⟨by first | (rw [HF.out]; done) | (rw [HF.out]; rfl), HO1.out⟩
     ·have HDG : Hid (digitR (rs.headD 0) = false) := Hd (by rw [hhd]; simp [digitR]; omega);have hguard : (decide ((48 : Int) ≤ (r0 : Int)) = false ∧ decide (48 ≤ r0) = false) ∨ ((48 : Int) ≤ (r0 : Int) ∧ decide ((r0 : Int) ≤ 57) = false ∧ decide (r0 ≤ 57) = false) := by
       by_cases h : 48 ≤ r0
       ·right
        exact ⟨by omega, decide_eq_false (by omega), decide_eq_false (by omega)⟩
       ·left
        exact ⟨decide_eq_false (by omega), decide_eq_false (by omega)⟩
      clear hcell hr0 hhd hdg;have LOOP : ∀ (k : Nat), k < n → ∃ r, rs[k]? = some r := fun k hk => ⟨_, List.getElem?_eq_getElem (by rw [← HN.out]; exact hk)⟩;have HLOOP := Hd LOOP;clear LOOP;rcases hguard with ⟨h1, h2⟩ | ⟨h1, h2, h3⟩
      ·go_wp2_with fail
       go_loopw [4] (fun iv wr => ∃ (k : Nat), iv = .int .i64 k ∧ k ≤ n ∧ Hid ((rs.take k).all mayR = true) ∧ wr = w1) (fun iv _ => n - (intOf iv).toNat)
       case atStart => exact ⟨0, rfl, by omega, Hd rfl, by first | rfl | trivial⟩
       case round =>
        obtain ⟨k, rfl, hk, HM, rfl⟩ := hrel
        by_cases hlt : k < n
        ·have i1 : (k : Int) < (n : Int) := by omega
         have i0 : (0 : Int) ≤ (k : Int) := Int.natCast_nonneg _;obtain ⟨r, hr⟩ := HLOOP.out k hlt;obtain ⟨b, o, hbo, -, hbw, hcell⟩ := HROW.out.open_ (k := k) (by rw [i64s_len, ← HN.out]; exact hlt)
         cases hbo
         have gk : wr.cell? ⟨b, o + k, none⟩ = some (.int .i64 (r : Int)) := hcell _ _ (i64s_at rs k r hr);have HRK := Hd hr;have HTK : Hid (rs.take (k + 1) = rs.take k ++ [r]) := Hd (by rw [List.take_add_one, hr]; rfl);have hwk : IntKind.i64.wrap ((k : Int) + 1) = (k : Int) + 1 := IntWalk.i64_in _ (by omega);clear hcell hr
         by_cases c0 : r ≤ 47
         ·have l128 : (r : Int) < 128 := by omega
          have n95 : ((r : Int) != 95) = true := by simp; omega
          have l48 : (r : Int) < 48 := by omega
          have l65 : (r : Int) < 65 := by omega
          have l97 : (r : Int) < 97 := by omega
          have hm : mayR r = false := by simp [mayR, digitR]; omega
          have HF : Hid (R = false) := Hd (by rw [HR2.out]; exact name_false (List.mem_of_getElem? HRK.out) hm);clear hm HM;go_wp2
          go_ret
          exact ⟨by first | (rw [HF.out]; done) | (rw [HF.out]; rfl), HO1.out⟩
         by_cases c1 : r ≤ 57
         ·have l128 : (r : Int) < 128 := by omega
          have n95 : ((r : Int) != 95) = true := by simp; omega
          have l48 : decide ((r : Int) < 48) = false := decide_eq_false (by omega);have g57 : decide (57 < (r : Int)) = false := decide_eq_false (by omega);have hm : mayR r = true := by simp [mayR, digitR]; omega
          have HM2 : Hid ((rs.take (k + 1)).all mayR = true) := Hd (by rw [HTK.out, List.all_append, HM.out]; simpa using hm);clear hm HM;go_wp2
          go_roundw
          case rel => exact ⟨k + 1, by go_num, by omega, HM2, by first | rfl | trivial⟩
          case measure => simp [intOf]; omega
         by_cases c2 : r ≤ 64
         ·have l128 : (r : Int) < 128 := by omega
          have n95 : ((r : Int) != 95) = true := by simp; omega
          have l48 : decide ((r : Int) < 48) = false := decide_eq_false (by omega);have g57 : 57 < (r : Int) := by omega
          have l65 : (r : Int) < 65 := by omega
          have l97 : (r : Int) < 97 := by omega
          have hm : mayR r = false := by simp [mayR, digitR]; omega
          have HF : Hid (R = false) := Hd (by rw [HR2.out]; exact name_false (List.mem_of_getElem? HRK.out) hm);clear hm HM;go_wp2
          go_ret
          exact ⟨by first | (rw [HF.out]; done) | (rw [HF.out]; rfl), HO1.out⟩
         by_cases c3 : r ≤ 90
         ·have l128 : (r : Int) < 128 := by omega
          have n95 : ((r : Int) != 95) = true := by simp; omega
          have l48 : decide ((r : Int) < 48) = false := decide_eq_false (by omega);have g57 : 57 < (r : Int) := by omega
          have l65 : decide ((r : Int) < 65) = false := decide_eq_false (by omega);have g90 : decide (90 < (r : Int)) = false := decide_eq_false (by omega);have hm : mayR r = true := by simp [mayR, digitR]; omega
          have HM2 : Hid ((rs.take (k + 1)).all mayR = true) := Hd (by rw [HTK.out, List.all_append, HM.out]; simpa using hm);clear hm HM;go_wp2
          go_roundw
          case rel => exact ⟨k + 1, by go_num, by omega, HM2, by first | rfl | trivial⟩
          case measure => simp [intOf]; omega
         by_cases c4 : r ≤ 94
         ·have l128 : (r : Int) < 128 := by omega
          have n95 : ((r : Int) != 95) = true := by simp; omega
          have l48 : decide ((r : Int) < 48) = false := decide_eq_false (by omega);have g57 : 57 < (r : Int) := by omega
          have l65 : decide ((r : Int) < 65) = false := decide_eq_false (by omega);have g90 : 90 < (r : Int) := by omega
          have l97 : (r : Int) < 97 := by omega
          have hm : mayR r = false := by simp [mayR, digitR]; omega
          have HF : Hid (R = false) := Hd (by rw [HR2.out]; exact name_false (List.mem_of_getElem? HRK.out) hm);clear hm HM;go_wp2
          go_ret
          exact ⟨by first | (rw [HF.out]; done) | (rw [HF.out]; rfl), HO1.out⟩
         by_cases c5 : r ≤ 95
         ·have l128 : (r : Int) < 128 := by omega
          have n95 : ((r : Int) != 95) = false := by simp; omega
          have hm : mayR r = true := by simp [mayR, digitR]; omega
          have HM2 : Hid ((rs.take (k + 1)).all mayR = true) := Hd (by rw [HTK.out, List.all_append, HM.out]; simpa using hm);clear hm HM;go_wp2
          go_roundw
          case rel => exact ⟨k + 1, by go_num, by omega, HM2, by first | rfl | trivial⟩
          case measure => simp [intOf]; omega
         by_cases c6 : r ≤ 96
         ·have l128 : (r : Int) < 128 := by omega
          have n95 : ((r : Int) != 95) = true := by simp; omega
          have l48 : decide ((r : Int) < 48) = false := decide_eq_false (by omega);have g57 : 57 < (r : Int) := by omega
          have l65 : decide ((r : Int) < 65) = false := decide_eq_false (by omega);have g90 : 90 < (r : Int) := by omega
          have l97 : (r : Int) < 97 := by omega
          have hm : mayR r = false := by simp [mayR, digitR]; omega
          have HF : Hid (R = false) := Hd (by rw [HR2.out]; exact name_false (List.mem_of_getElem? HRK.out) hm);clear hm HM;go_wp2
          go_ret
          exact ⟨by first | (rw [HF.out]; done) | (rw [HF.out]; rfl), HO1.out⟩
         by_cases c7 : r ≤ 122
         ·have l128 : (r : Int) < 128 := by omega
          have n95 : ((r : Int) != 95) = true := by simp; omega
          have l48 : decide ((r : Int) < 48) = false := decide_eq_false (by omega);have g57 : 57 < (r : Int) := by omega
          have l65 : decide ((r : Int) < 65) = false := decide_eq_false (by omega);have g90 : 90 < (r : Int) := by omega
          have l97 : decide ((r : Int) < 97) = false := decide_eq_false (by omega);have g122 : decide (122 < (r : Int)) = false := decide_eq_false (by omega);have hm : mayR r = true := by simp [mayR, digitR]; omega
          have HM2 : Hid ((rs.take (k + 1)).all mayR = true) := Hd (by rw [HTK.out, List.all_append, HM.out]; simpa using hm);clear hm HM;go_wp2
          go_roundw
          case rel => exact ⟨k + 1, by go_num, by omega, HM2, by first | rfl | trivial⟩
          case measure => simp [intOf]; omega
         by_cases c8 : r ≤ 127
         ·have l128 : (r : Int) < 128 := by omega
          have n95 : ((r : Int) != 95) = true := by simp; omega
          have l48 : decide ((r : Int) < 48) = false := decide_eq_false (by omega);have g57 : 57 < (r : Int) := by omega
          have l65 : decide ((r : Int) < 65) = false := decide_eq_false (by omega);have g90 : 90 < (r : Int) := by omega
          have l97 : decide ((r : Int) < 97) = false := decide_eq_false (by omega);have g122 : 122 < (r : Int) := by omega
          have hm : mayR r = false := by simp [mayR, digitR]; omega
          have HF : Hid (R = false) := Hd (by rw [HR2.out]; exact name_false (List.mem_of_getElem? HRK.out) hm);clear hm HM;go_wp2
          go_ret
          exact ⟨by first | (rw [HF.out]; done) | (rw [HF.out]; rfl), HO1.out⟩
         have l128 : decide ((r : Int) < 128) = false := decide_eq_false (by omega);have hm : mayR r = true := by simp [mayR, digitR]; omega
         have HM2 : Hid ((rs.take (k + 1)).all mayR = true) := Hd (by rw [HTK.out, List.all_append, HM.out]; simpa using hm);clear hm HM;go_wp2
         go_roundw
         case rel => exact ⟨k + 1, by go_num, by omega, HM2, by first | rfl | trivial⟩
         case measure => simp [intOf]; omega
        ·have hkn : k = n := by omega
         subst hkn;have hd : decide ((k : Int) < (k : Int)) = false := by simp
         have HF : Hid (R = true) := Hd (by
          rw [HR2.out];refine name_true (by rw [← HN.out]; omega) (by rw [← HN.out]; omega) HDG.out ?_;have := HM.out
          rwa [List.take_of_length_le (by rw [← HN.out]; exact Nat.le_refl _)] at this)
         go_wp2
         go_ret
         exact ⟨by first | (rw [HF.out]; done) | (rw [HF.out]; rfl), HO1.out⟩
      ·go_wp2_with fail
       go_loopw [4] (fun iv wr => ∃ (k : Nat), iv = .int .i64 k ∧ k ≤ n ∧ Hid ((rs.take k).all mayR = true) ∧ wr = w1) (fun iv _ => n - (intOf iv).toNat)
       case atStart => exact ⟨0, rfl, by omega, Hd rfl, by first | rfl | trivial⟩
       case round =>
        obtain ⟨k, rfl, hk, HM, rfl⟩ := hrel
        by_cases hlt : k < n
        ·have i1 : (k : Int) < (n : Int) := by omega
         have i0 : (0 : Int) ≤ (k : Int) := Int.natCast_nonneg _;obtain ⟨r, hr⟩ := HLOOP.out k hlt;obtain ⟨b, o, hbo, -, hbw, hcell⟩ := HROW.out.open_ (k := k) (by rw [i64s_len, ← HN.out]; exact hlt)
         cases hbo
         have gk : wr.cell? ⟨b, o + k, none⟩ = some (.int .i64 (r : Int)) := hcell _ _ (i64s_at rs k r hr);have HRK := Hd hr;have HTK : Hid (rs.take (k + 1) = rs.take k ++ [r]) := Hd (by rw [List.take_add_one, hr]; rfl);have hwk : IntKind.i64.wrap ((k : Int) + 1) = (k : Int) + 1 := IntWalk.i64_in _ (by omega);clear hcell hr
         by_cases c0 : r ≤ 47
         ·have l128 : (r : Int) < 128 := by omega
          have n95 : ((r : Int) != 95) = true := by simp; omega
          have l48 : (r : Int) < 48 := by omega
          have l65 : (r : Int) < 65 := by omega
          have l97 : (r : Int) < 97 := by omega
          have hm : mayR r = false := by simp [mayR, digitR]; omega
          have HF : Hid (R = false) := Hd (by rw [HR2.out]; exact name_false (List.mem_of_getElem? HRK.out) hm);clear hm HM;go_wp2
          go_ret
          exact ⟨by first | (rw [HF.out]; done) | (rw [HF.out]; rfl), HO1.out⟩
         by_cases c1 : r ≤ 57
         ·have l128 : (r : Int) < 128 := by omega
          have n95 : ((r : Int) != 95) = true := by simp; omega
          have l48 : decide ((r : Int) < 48) = false := decide_eq_false (by omega);have g57 : decide (57 < (r : Int)) = false := decide_eq_false (by omega);have hm : mayR r = true := by simp [mayR, digitR]; omega
          have HM2 : Hid ((rs.take (k + 1)).all mayR = true) := Hd (by rw [HTK.out, List.all_append, HM.out]; simpa using hm);clear hm HM;go_wp2
          go_roundw
          case rel => exact ⟨k + 1, by go_num, by omega, HM2, by first | rfl | trivial⟩
          case measure => simp [intOf]; omega
         by_cases c2 : r ≤ 64
         ·have l128 : (r : Int) < 128 := by omega
          have n95 : ((r : Int) != 95) = true := by simp; omega
          have l48 : decide ((r : Int) < 48) = false := decide_eq_false (by omega);have g57 : 57 < (r : Int) := by omega
          have l65 : (r : Int) < 65 := by omega
          have l97 : (r : Int) < 97 := by omega
          have hm : mayR r = false := by simp [mayR, digitR]; omega
          have HF : Hid (R = false) := Hd (by rw [HR2.out]; exact name_false (List.mem_of_getElem? HRK.out) hm);clear hm HM;go_wp2
          go_ret
          exact ⟨by first | (rw [HF.out]; done) | (rw [HF.out]; rfl), HO1.out⟩
         by_cases c3 : r ≤ 90
         ·have l128 : (r : Int) < 128 := by omega
          have n95 : ((r : Int) != 95) = true := by simp; omega
          have l48 : decide ((r : Int) < 48) = false := decide_eq_false (by omega);have g57 : 57 < (r : Int) := by omega
          have l65 : decide ((r : Int) < 65) = false := decide_eq_false (by omega);have g90 : decide (90 < (r : Int)) = false := decide_eq_false (by omega);have hm : mayR r = true := by simp [mayR, digitR]; omega
          have HM2 : Hid ((rs.take (k + 1)).all mayR = true) := Hd (by rw [HTK.out, List.all_append, HM.out]; simpa using hm);clear hm HM;go_wp2
          go_roundw
          case rel => exact ⟨k + 1, by go_num, by omega, HM2, by first | rfl | trivial⟩
          case measure => simp [intOf]; omega
         by_cases c4 : r ≤ 94
         ·have l128 : (r : Int) < 128 := by omega
          have n95 : ((r : Int) != 95) = true := by simp; omega
          have l48 : decide ((r : Int) < 48) = false := decide_eq_false (by omega);have g57 : 57 < (r : Int) := by omega
          have l65 : decide ((r : Int) < 65) = false := decide_eq_false (by omega);have g90 : 90 < (r : Int) := by omega
          have l97 : (r : Int) < 97 := by omega
          have hm : mayR r = false := by simp [mayR, digitR]; omega
          have HF : Hid (R = false) := Hd (by rw [HR2.out]; exact name_false (List.mem_of_getElem? HRK.out) hm);clear hm HM;go_wp2
          go_ret
          exact ⟨by first | (rw [HF.out]; done) | (rw [HF.out]; rfl), HO1.out⟩
         by_cases c5 : r ≤ 95
         ·have l128 : (r : Int) < 128 := by omega
          have n95 : ((r : Int) != 95) = false := by simp; omega
          have hm : mayR r = true := by simp [mayR, digitR]; omega
          have HM2 : Hid ((rs.take (k + 1)).all mayR = true) := Hd (by rw [HTK.out, List.all_append, HM.out]; simpa using hm);clear hm HM;go_wp2
          go_roundw
          case rel => exact ⟨k + 1, by go_num, by omega, HM2, by first | rfl | trivial⟩
          case measure => simp [intOf]; omega
         by_cases c6 : r ≤ 96
         ·have l128 : (r : Int) < 128 := by omega
          have n95 : ((r : Int) != 95) = true := by simp; omega
          have l48 : decide ((r : Int) < 48) = false := decide_eq_false (by omega);have g57 : 57 < (r : Int) := by omega
          have l65 : decide ((r : Int) < 65) = false := decide_eq_false (by omega);have g90 : 90 < (r : Int) := by omega
          have l97 : (r : Int) < 97 := by omega
          have hm : mayR r = false := by simp [mayR, digitR]; omega
          have HF : Hid (R = false) := Hd (by rw [HR2.out]; exact name_false (List.mem_of_getElem? HRK.out) hm);clear hm HM;go_wp2
          go_ret
          exact ⟨by first | (rw [HF.out]; done) | (rw [HF.out]; rfl), HO1.out⟩
         by_cases c7 : r ≤ 122
         ·have l128 : (r : Int) < 128 := by omega
          have n95 : ((r : Int) != 95) = true := by simp; omega
          have l48 : decide ((r : Int) < 48) = false := decide_eq_false (by omega);have g57 : 57 < (r : Int) := by omega
          have l65 : decide ((r : Int) < 65) = false := decide_eq_false (by omega);have g90 : 90 < (r : Int) := by omega
          have l97 : decide ((r : Int) < 97) = false := decide_eq_false (by omega);have g122 : decide (122 < (r : Int)) = false := decide_eq_false (by omega);have hm : mayR r = true := by simp [mayR, digitR]; omega
          have HM2 : Hid ((rs.take (k + 1)).all mayR = true) := Hd (by rw [HTK.out, List.all_append, HM.out]; simpa using hm);clear hm HM;go_wp2
          go_roundw
          case rel => exact ⟨k + 1, by go_num, by omega, HM2, by first | rfl | trivial⟩
          case measure => simp [intOf]; omega
         by_cases c8 : r ≤ 127
         ·have l128 : (r : Int) < 128 := by omega
          have n95 : ((r : Int) != 95) = true := by simp; omega
          have l48 : decide ((r : Int) < 48) = false := decide_eq_false (by omega);have g57 : 57 < (r : Int) := by omega
          have l65 : decide ((r : Int) < 65) = false := decide_eq_false (by omega);have g90 : 90 < (r : Int) := by omega
          have l97 : decide ((r : Int) < 97) = false := decide_eq_false (by omega);have g122 : 122 < (r : Int) := by omega
          have hm : mayR r = false := by simp [mayR, digitR]; omega
          have HF : Hid (R = false) := Hd (by rw [HR2.out]; exact name_false (List.mem_of_getElem? HRK.out) hm);clear hm HM;go_wp2
          go_ret
          exact ⟨by first | (rw [HF.out]; done) | (rw [HF.out]; rfl), HO1.out⟩
         have l128 : decide ((r : Int) < 128) = false := decide_eq_false (by omega);have hm : mayR r = true := by simp [mayR, digitR]; omega
         have HM2 : Hid ((rs.take (k + 1)).all mayR = true) := Hd (by rw [HTK.out, List.all_append, HM.out]; simpa using hm);clear hm HM;go_wp2
         go_roundw
         case rel => exact ⟨k + 1, by go_num, by omega, HM2, by first | rfl | trivial⟩
         case measure => simp [intOf]; omega
        ·have hkn : k = n := by omega
         subst hkn;have hd : decide ((k : Int) < (k : Int)) = false := by simp
         have HF : Hid (R = true) := Hd (by
          rw [HR2.out];refine name_true (by rw [← HN.out]; omega) (by rw [← HN.out]; omega) HDG.out ?_;have := HM.out
          rwa [List.take_of_length_le (by rw [← HN.out]; exact Nat.le_refl _)] at this)
         go_wp2
         go_ret
         exact ⟨by first | (rw [HF.out]; done) | (rw [HF.out]; rfl), HO1.out⟩
end Go.Proofs.YthdofaoamljkfaaGreatDoor
