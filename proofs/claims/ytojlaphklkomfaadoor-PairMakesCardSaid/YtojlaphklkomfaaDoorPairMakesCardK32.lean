/- Parts. -/
import Derived.Test.YtojlaphklkomfaaDoorPairMakesCardK31
import Derived.Test.YtojlaphklkomfaaDoorPairMakesCardK26
set_option maxRecDepth 10000
set_option maxHeartbeats 16000000
set_option linter.unusedVariables false
set_option linter.unusedSimpArgs false
namespace Go.Proofs.YtojlaphklkomfaaDoor
open Go.RowKit
open Go.Lib hiding intOf
attribute [local go_sem ↓] Go.wp_at_zero Go.wp_at_succ
def i64s (rs : List Nat) : List Value := rs.map fun (r : Nat) => Value.int .i64 (r : Int)
theorem rrunes02_any (s : ByteArray) (w : World) (hs : s.size ≤ 65537) :
  Calls Tryd.prog 40 #[.string s] w fun e w' => Only [] w w' ∧ ∃ V, e = .returned V ∧ w'.ownsRow w.heap.size 3 1 V (runesL (by_ s)).length (i64s (runesL (by_ s))) := by
 obtain ⟨i0, hi, hz0, hz1, hz2⟩ := info_parts info_int;have HON := Hd (fun pos w' (h : pos < s.size) => rone_any s pos w' h hs);go_enter Tryd.func40, Tryd.ntmps40;go_wp2_with fail
 go_loopw [3, 4] (fun V iv wr => ∃ (pos n : Nat) (pre : List Nat), iv = .int .i64 pos ∧ pos ≤ s.size ∧ n ≤ pos ∧ Hid (pre.length = n) ∧ Hid (wr.ownsRow w.heap.size 3 1 V n (i64s pre)) ∧ Hid (runesL (by_ s) = pre ++ runesL ((by_ s).drop pos)) ∧ Hid (Only [] w wr)) (fun _ iv _ => s.size - (intOf iv).toNat)
 case atStart => exact ⟨0, 0, [], rfl, by omega, by omega, Hd rfl, Hd (World.ownsRow_lit w #[] 0 (Nat.le_refl _) (by unfold maxLen; omega) rfl), Hd rfl, Hd ((Only.refl [] w).alloc _)⟩
 case round =>
  obtain ⟨pos, n, pre, rfl, hpos, hn, HN, HOWN, HRU, HO⟩ := hrel;have hO2s := HO.out.size
  by_cases hp : pos < s.size
  ·have hp1 : (pos : Int) < (s.size : Int) := by omega
   have hwd := width_le s pos hp;have HST := Hd (runes_dec s pos hp);have HON1 := Hd (HON.out pos wr hp);rw [dn_decode] at HON1;obtain ⟨⟨r, wd⟩, hdec⟩ : ∃ d, d = Utf8.decode s pos := ⟨_, rfl⟩;rw [← hdec] at hwd HST HON1;dsimp only at hwd HON1;have HRU2 : Hid (runesL (by_ s) = (pre ++ [r]) ++ runesL ((by_ s).drop (pos + wd))) := Hd (by rw [HRU.out, HST.out]; simp);have HN2 : Hid ((pre ++ [r]).length = n + 1) := Hd (by rw [List.length_append, HN.out]; rfl);have hlen : (i64s pre).length = n := by rw [i64s, List.length_map, HN.out]
   have hwd1 := hwd.1;have hwd2 := hwd.2;have hwk : IntKind.i64.wrap ((pos : Int) + (wd : Int)) = (pos : Int) + (wd : Int) := IntWalk.i64_in _ (by omega);clear hdec hwd HRU HST;go_wp2_with fail
   refine (HON1.out).mono ?_;rintro e w' ⟨rfl, rfl⟩;go_wp2_with (at_builtin; refine wpList_append_row _ rfl (.tmp 18) (.tmp 20) _ rfl w.heap.size 3 i0 _ 1 8 Tryd.underlying40 hi hz0 hz1 hz2 rfl (by omega) _ _ (i64s pre) rfl (own_only HOWN.out ((Only.refl [] _).alloc _) (by simp)) (wr.heap.size + 1) (some ⟨wr.heap.size, 0, none⟩) 1 1 [.int .i64 (r : Int)] (by rfl) (by rfl) (row_lit wr 3 #[.int .i64 (r : Int)]) (by intro u hu; simp at hu; subst hu; rfl) (by unfold maxLen; omega) (by omega) (by simp; omega) ?_; intro v3 w4 hown3 hgrow hat)
   have REL : w4.ownsRow w.heap.size 3 1 v3 (n + 1) (i64s (pre ++ [r])) ∧ Only [] w w4 := by
    refine ⟨?_, (HO.out.alloc _).step (only_grown hgrow) (own_new HOWN.out)⟩;have : i64s (pre ++ [r]) = i64s pre ++ [.int .i64 (r : Int)] := by simp [i64s]
    rw [this];exact hown3
   have HREL := Hd REL;clear REL hown3 hgrow hat hlen;go_wp2
   go_roundw
   case rel => exact ⟨pos + wd, n + 1, pre ++ [r], by go_num, by omega, by omega, HN2, Hd HREL.out.1, HRU2, Hd HREL.out.2⟩
   case measure => simp [intOf]; omega
  ·have hp0 : decide ((pos : Int) < (s.size : Int)) = false := decide_eq_false (by omega);have hl : (by_ s).drop pos = [] := List.drop_of_length_le (by rw [by_length]; omega);have hall : runesL (by_ s) = pre := by
    have := HRU.out;rw [hl, runes_nil, List.append_nil] at this;exact this
   have HAL := Hd hall;clear hl hall;go_wp2
   go_ret
   exact ⟨HO.out, _, rfl, by rw [HAL.out, HN.out]; exact HOWN.out⟩
theorem bad_width {l : List UInt8} {k : Nat} (hne : l ≠ []) (h : decodeL l = (65533, k)) : k = 1 ∨ k = 3 := by
 rw [decodeL_N] at h;have k0 := (l.getD 0 0).toNat_lt;have k1 := (l.getD 1 0).toNat_lt;rcases decodeN_shape l.length (l.getD 0 0).toNat (l.getD 1 0).toNat (l.getD 2 0).toNat (l.getD 3 0).toNat with ⟨c, e⟩ | ⟨c1, c2, c3, cv, e⟩ | ⟨c1, c2, c3, c4, cv, cs, e⟩ | ⟨c1, c2, c3, c4, c5, cv, cw, e⟩ | e
 all_goals (rw [e] at h; have h1 := congrArg Prod.fst h; have h2 := congrArg Prod.snd h; simp only at h1 h2; omega)
theorem rclean_any (s : ByteArray) (w : World) (hs : s.size ≤ 65537) :
  Calls Tryd.prog 42 #[.string s] w fun e w' => e = .returned (.bool (validD (by_ s))) ∧ w = w' := by
 have HON := Hd (fun pos w' (h : pos < s.size) => rone_any s pos w' h hs);obtain ⟨v, hv⟩ : ∃ v, v = validD (by_ s) := ⟨_, rfl⟩;rw [← hv];have HV := Hd hv;clear hv;go_enter Tryd.func42, Tryd.ntmps42;go_wp2
 go_loopw [3] (fun iv wr => ∃ (pos : Nat), iv = .int .i64 pos ∧ pos ≤ s.size ∧ Hid (v = validD ((by_ s).drop pos)) ∧ wr = w) (fun iv _ => s.size - (intOf iv).toNat)
 case atStart => exact ⟨0, rfl, by omega, Hd (by rw [HV.out]; rfl), by first | rfl | trivial⟩
 case round =>
  obtain ⟨pos, rfl, hpos, HVD, rfl⟩ := hrel
  by_cases hp : pos < s.size
  ·have hp1 : (pos : Int) < (s.size : Int) := by omega
   have hwd := width_le s pos hp;have HON1 := Hd (HON.out pos wr hp);rw [dn_decode] at HON1;have hne : (by_ s).drop pos ≠ [] := by
    intro e;have := congrArg List.length e;rw [List.length_drop, by_length] at this;simp at this;omega
   have hst := validD_step _ hne;have hbw := fun k => bad_width (k := k) hne;rw [decL_at] at hst hbw;obtain ⟨⟨r, wd⟩, hdec⟩ : ∃ d, d = Utf8.decode s pos := ⟨_, rfl⟩;rw [← hdec] at hwd HON1 hst hbw;dsimp only at hwd HON1 hst;have hwd1 := hwd.1;have hwd2 := hwd.2;have hwk : IntKind.i64.wrap ((pos : Int) + (wd : Int)) = (pos : Int) + (wd : Int) := IntWalk.i64_in _ (by omega)
   by_cases hr : r = 65533
   ·subst hr;rcases hbw wd rfl with rfl | rfl
    ·have hf : v = false := by rw [HVD.out, hst, if_pos ⟨rfl, rfl⟩]
     subst hf;clear hdec hwd hst hbw HVD hne HV;go_wp2_with fail
     refine (HON1.out).mono ?_;rintro e w' ⟨rfl, rfl⟩;go_wp2
     go_ret
     exact ⟨rfl, rfl⟩
    ·have HV2 : Hid (v = validD ((by_ s).drop (pos + 3))) := Hd (by rw [HVD.out, hst, if_neg (by simp), List.drop_drop]);clear hdec hwd hst hbw HVD hne;go_wp2_with fail
     refine (HON1.out).mono ?_;rintro e w' ⟨rfl, rfl⟩;go_wp2
     go_roundw
     case rel => exact ⟨pos + 3, by go_num, by omega, HV2, by first | rfl | trivial⟩
     case measure => simp [intOf]; omega
   ·have hr1 : ((r : Int) == 65533) = false := by simp; omega
    have HV2 : Hid (v = validD ((by_ s).drop (pos + wd))) := Hd (by rw [HVD.out, hst, if_neg (fun h => hr h.1), List.drop_drop]);clear hdec hwd hst hbw HVD hne hr;go_wp2_with fail
    refine (HON1.out).mono ?_;rintro e w' ⟨rfl, rfl⟩;go_wp2
    go_roundw
    case rel => exact ⟨pos + wd, by go_num, by omega, HV2, by first | rfl | trivial⟩
    case measure => simp [intOf]; omega
  ·have hp0 : decide ((pos : Int) < (s.size : Int)) = false := decide_eq_false (by omega);have hl : (by_ s).drop pos = [] := List.drop_of_length_le (by rw [by_length]; omega);have hf : v = true := by rw [HVD.out, hl]; rfl
   subst hf;clear hl HVD HV;go_wp2
   go_ret
   exact ⟨rfl, rfl⟩
theorem i64s_at (rs : List Nat) (k r : Nat) (h : rs[k]? = some r) : (i64s rs)[k]? = some (.int .i64 (r : Int)) := by
 rw [i64s, List.getElem?_map, h]
 rfl
theorem i64s_len (rs : List Nat) : (i64s rs).length = rs.length := by rw [i64s, List.length_map]
end Go.Proofs.YtojlaphklkomfaaDoor
