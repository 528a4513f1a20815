/- Parts. -/
import Derived.Test.YtbiclliooidkjaaGreatDoorLaw41AllK4
import Derived.Shelf.Unicode.DecodeAny
import Derived.Lib.SlicesCompact
import Derived.Lib.SlicesS
set_option maxRecDepth 10000
set_option maxHeartbeats 16000000
set_option linter.unusedVariables false
set_option linter.unusedSimpArgs false
namespace Go.Proofs.YtbiclliooidkjaaGreatDoor
open Go.RowKit
open Go.Lib hiding intOf
attribute [local go_sem ↓] Go.wp_at_zero Go.wp_at_succ
def UTabs (w : World) : Prop := Lib.Utf8Tabs (Tryz.laysValid_ren.g 3) (Tryz.laysValid_ren.g 4) w
theorem UTabs.only {w w' : World} (h : UTabs w) (ho : Only [] w w') : UTabs w' := Utf8Tabs_below h (ho.below (Nat.le_refl _) (by simp))
theorem valid_any (x : ByteArray) (w : World) (hs : x.size ≤ 9223372036854775807) (hT : UTabs w) :
  Calls Tryz.prog 74 #[.string x] w fun e w' => e = .returned (.bool (validD (by_ x))) ∧ Only [] w w' := by
 have h : Calls Tryz.prog 74 #[.string x] w _ := Any.utf8_ValidString Tryz.laysValid x w hs hT;exact h.mono fun e w' ⟨h1, h2⟩ => ⟨h1, Only.of_below h2 []⟩
theorem runes_dec (a : ByteArray) (pos : Nat) (h : pos < a.size) : runesL ((by_ a).drop pos) = (Utf8.decode a pos).1 :: runesL ((by_ a).drop (pos + (Utf8.decode a pos).2)) := by
 rw [runes_step (by intro e; have := congrArg List.length e; rw [List.length_drop, by_length] at this; simp at this; omega), decL_at, List.drop_drop]
theorem size_ne {c : ByteArray} (h : c ≠ ⟨#[]⟩) : 0 < c.size := by
 rcases Nat.eq_zero_or_pos c.size with h0 | h0
 ·exfalso
  refine h (by_inj ?_);have : (by_ c).length = 0 := by rw [by_length, h0]
  rw [List.eq_nil_of_length_eq_zero this]
  rfl
 ·exact h0
theorem is_any (s : ByteArray) (w : World) (hs : s.size ≤ 9223372036854775807) (hT : UTabs w) :
  Calls Tryz.prog 78 #[.string s] w fun e w' => e = .returned (.bool (isName s)) ∧ Only [] w w' := by
 have HV := Hd (valid_any s w hs hT);have HRS := Hd (fun w' => reserved_any s w');have HMY := Hd (fun r w' => may_any r w');have HDG := Hd (fun r w' => digit_any r w');obtain ⟨R, hR⟩ : ∃ R, R = isName s := ⟨_, rfl⟩;rw [← hR];unfold isName at hR;obtain ⟨v, hv⟩ : ∃ v, v = validD (by_ s) := ⟨_, rfl⟩;obtain ⟨x, hx⟩ : ∃ x, x = reservedL (by_ s) := ⟨_, rfl⟩;rw [← hv] at HV hR;rw [← hx] at HRS hR;have HR := Hd hR;clear hR hT hv hx;go_enter Tryz.func78, Tryz.ntmps78;go_wp2_with fail
 refine (HV.out).mono ?_;rintro e w1 ⟨rfl, hO1⟩;have HO1 := Hd hO1;clear hO1
 cases v with
 | false =>
  have HF : Hid (R = false) := Hd (by rw [HR.out]; simp);go_wp2
  go_ret
  exact ⟨by first | (rw [HF.out]; done) | (rw [HF.out]; rfl), HO1.out⟩
 | true =>
  go_wp2_with fail
  refine (HRS.out w1).mono ?_;rintro e w1' ⟨rfl, rfl⟩
  cases x with
  | true =>
   have HF : Hid (R = false) := Hd (by rw [HR.out]; simp);go_wp2
   go_ret
   exact ⟨by first | (rw [HF.out]; done) | (rw [HF.out]; rfl), HO1.out⟩
  | false =>
   have HR2 : Hid (R = nameL (runesL (by_ s))) := Hd (by rw [HR.out]; simp);clear HR HV HRS;have hO1s := HO1.out.size;go_wp2
   go_loopw [3] (fun nv wr => ∃ (pos k : Nat) (pre : List Nat), nv = .int .i64 k ∧ pos ≤ s.size ∧ k ≤ 20 ∧ Hid (pre.length = k) ∧ Hid (OkPre pre) ∧ Hid (runesL (by_ s) = pre ++ runesL ((by_ s).drop pos)) ∧ Hid (wr.heap[w1.heap.size]? = some (.stringIter s pos)) ∧ Hid (Only [] w wr)) (fun _ wr => s.size - wr.iterPos w1.heap.size)
   case atStart => exact ⟨0, 0, [], rfl, by omega, by omega, Hd rfl, Hd okPre_nil, Hd rfl, Hd (World.iter_heap w1 s 0), Hd (HO1.out.alloc _)⟩
   case round =>
    obtain ⟨pos, k, pre, rfl, hpos, hk, HK, HOK, HRU, HIT, HO⟩ := hrel
    by_cases hp : pos < s.size
    ·have hnx : ∀ ty, (Instr.next (.pointer (some ⟨w1.heap.size, 0, none⟩)) true ty).run Tryz.prog wr = _ := fun ty => run_next_any_at wr w1.heap.size s pos ty HIT.out hp;have hwd := width_le s pos hp;have hip := iterPos_of HIT.out;have HST := Hd (runes_dec s pos hp);obtain ⟨⟨r, wd⟩, hdec⟩ : ∃ d, d = Utf8.decode s pos := ⟨_, rfl⟩;rw [← hdec] at hnx hwd HST;dsimp only at hwd;have HIT2 := Hd (iterAt_heap wr w1.heap.size s pos (pos + wd) HIT.out);have hip2 := iterPos_of HIT2.out;have HO2 := Hd (only_iter HO.out s (pos + wd) (k := w1.heap.size) (fun h => by omega));have HM1 := Hd (fun w' => HMY.out r w');have HD1 := Hd (fun w' => HDG.out r w');have HN : Hid (R = nameL (pre ++ r :: runesL ((by_ s).drop (pos + wd)))) := Hd (by rw [HR2.out, HRU.out, HST.out]);obtain ⟨w3, hw3⟩ : ∃ w3, w3 = wr.iterAt w1.heap.size s (pos + wd) := ⟨_, rfl⟩;rw [← hw3] at hnx HIT2 HO2 hip2;obtain ⟨m, hm⟩ : ∃ m, m = mayR r := ⟨_, rfl⟩;obtain ⟨d, hd⟩ : ∃ d, d = digitR r := ⟨_, rfl⟩;rw [← hm] at HM1;rw [← hd] at HD1;have hwd1 := hwd.1;have hwd2 := hwd.2;have HMM := Hd hm;have HDD := Hd hd;have hwk : IntKind.i64.wrap ((k : Int) + 1) = (k : Int) + 1 := IntWalk.i64_in _ (by omega);clear hdec hw3 hwd HIT HO hm hd
     cases m with
     | false =>
      have HF : Hid (R = false) := Hd (by rw [HN.out]; exact name_bad1 _ _ _ HMM.out.symm);go_wp2_with fail
      refine (HM1.out _).mono ?_;rintro e w4 ⟨rfl, rfl⟩;go_wp2
      go_ret
      exact ⟨by first | (rw [HF.out]; done) | (rw [HF.out]; rfl), HO2.out⟩
     | true =>
      by_cases hk0 : k = 0
      ·subst hk0;have hpn : pre = [] := List.eq_nil_of_length_eq_zero HK.out;subst hpn;go_wp2_with fail
       refine (HM1.out _).mono ?_;rintro e w4 ⟨rfl, rfl⟩
       cases d with
       | true =>
        have HF : Hid (R = false) := Hd (by rw [HN.out]; exact name_bad2 _ _ HDD.out.symm);go_wp2_with fail
        refine (HD1.out _).mono ?_;rintro e w4 ⟨rfl, rfl⟩;go_wp2
        go_ret
        exact ⟨by first | (rw [HF.out]; done) | (rw [HF.out]; rfl), HO2.out⟩
       | false =>
        have HOK2 := Hd (okPre_snoc HOK.out HMM.out.symm (fun _ => HDD.out.symm));have HRU2 : Hid (runesL (by_ s) = ([] ++ [r]) ++ runesL ((by_ s).drop (pos + wd))) := Hd (by rw [HRU.out, HST.out]; simp);clear HN;go_wp2_with fail
        refine (HD1.out _).mono ?_;rintro e w4 ⟨rfl, rfl⟩;go_wp2
        go_roundw
        case rel => exact ⟨pos + wd, 1, [] ++ [r], rfl, by omega, by omega, Hd rfl, HOK2, HRU2, HIT2, HO2⟩
        case measure => rw [hip, hip2]; omega
      ·have hk1 : ((k : Int) == 0) = false := by simp; omega
       by_cases hk20 : k = 20
       ·subst hk20;have HF : Hid (R = false) := Hd (by rw [HN.out]; exact name_bad3 _ _ _ HK.out);go_wp2_with fail
        refine (HM1.out _).mono ?_;rintro e w4 ⟨rfl, rfl⟩;go_wp2
        go_ret
        exact ⟨by first | (rw [HF.out]; done) | (rw [HF.out]; rfl), HO2.out⟩
       ·have hk2 : ((k : Int) == 20) = false := by simp; omega
        have HOK2 := Hd (okPre_snoc HOK.out HMM.out.symm (fun e => by exfalso; have := HK.out; rw [e] at this; simp at this; omega));have HRU2 : Hid (runesL (by_ s) = (pre ++ [r]) ++ runesL ((by_ s).drop (pos + wd))) := Hd (by rw [HRU.out, HST.out]; simp);have HK2 : Hid ((pre ++ [r]).length = k + 1) := Hd (by rw [List.length_append, HK.out]; rfl);clear HN;go_wp2_with fail
        refine (HM1.out _).mono ?_;rintro e w4 ⟨rfl, rfl⟩;go_wp2
        go_roundw
        case rel => exact ⟨pos + wd, k + 1, pre ++ [r], by go_num, by omega, by omega, HK2, HOK2, HRU2, HIT2, HO2⟩
        case measure => rw [hip, hip2]; omega
    ·have hnx : ∀ ty, (Instr.next (.pointer (some ⟨w1.heap.size, 0, none⟩)) true ty).run Tryz.prog wr = _ := fun ty => run_next_end_at wr w1.heap.size s pos ty HIT.out hp;have hl : (by_ s).drop pos = [] := List.drop_of_length_le (by rw [by_length]; omega);have HF : Hid (R = decide (0 < k)) := Hd (by rw [HR2.out, HRU.out, hl, runes_nil, List.append_nil, okPre_name HOK.out (by rw [HK.out]; exact hk), HK.out]);clear hl;go_wp2
     go_ret
     exact ⟨by first | (rw [HF.out]; done) | (rw [HF.out]; rfl), HO.out⟩
end Go.Proofs.YtbiclliooidkjaaGreatDoor
namespace Go.Proofs
open Go.Shelf
def Tryz.laysDecode_ren : Go.Shelf.Ren := ⟨fun | 197 => 104 | 260 => 112 | n => n, fun | 9 => 9 | 21 => 21 | 3 => 3 | 4 => 4 | 5 => 5 | 105 => 159 | 119 => 145 | 0 => 0 | 46 => 62 | 139 => 148 | 138 => 147 | n => n, fun | 3 => 0 | 4 => 1 | n => n⟩
theorem Tryz.laysDecode : Go.Proofs.Lays.n197 Tryz.prog Tryz.laysDecode_ren := {
 mixed := by kernel_rfl
 f197 := Tryz.func104.trans (congrArg some (by kernel_rfl))
 f260 := Tryz.func112.trans (congrArg some (by kernel_rfl))
 t0 := Tryz.underlying0
 a0 := Tryz.isAgg0
 z0 := Tryz.sizeOf0
 v0 := Tryz.zeroValue0
 t3 := Tryz.underlying3
 a3 := Tryz.isAgg3
 z3 := Tryz.sizeOf3
 v3 := Tryz.zeroValue3
 t4 := Tryz.underlying4
 a4 := Tryz.isAgg4
 z4 := Tryz.sizeOf4
 v4 := Tryz.zeroValue4
 t5 := Tryz.underlying5
 a5 := Tryz.isAgg5
 z5 := Tryz.sizeOf5
 v5 := Tryz.zeroValue5
 t9 := Tryz.underlying9
 a9 := Tryz.isAgg9
 z9 := Tryz.sizeOf9
 v9 := Tryz.zeroValue9
 t21 := Tryz.underlying21
 a21 := Tryz.isAgg21
 z21 := Tryz.sizeOf21
 v21 := Tryz.zeroValue21
 t46 := Tryz.underlying62
 a46 := Tryz.isAgg62
 z46 := Tryz.sizeOf62
 v46 := Tryz.zeroValue62
 t105 := Tryz.underlying159
 a105 := Tryz.isAgg159
 z105 := Tryz.sizeOf159
 v105 := Tryz.zeroValue159
 t119 := Tryz.underlying145
 a119 := Tryz.isAgg145
 z119 := Tryz.sizeOf145
 t138 := Tryz.underlying147
 a138 := Tryz.isAgg147
 z138 := Tryz.sizeOf147
 v138 := Tryz.zeroValue147
 t139 := Tryz.underlying148
 a139 := Tryz.isAgg148
 z139 := Tryz.sizeOf148
 v139 := Tryz.zeroValue148
 g3 := by kernel_rfl
 g4 := by kernel_rfl }
end Go.Proofs
namespace Go.Proofs.YtbiclliooidkjaaGreatDoor
open Go.RowKit
open Go.Lib hiding intOf
attribute [local go_sem ↓] Go.wp_at_zero Go.wp_at_succ
theorem decode_any (c : ByteArray) (w : World) (hT : UTabs w) :
  Calls Tryz.prog 104 #[.string c] w fun e w' => e = .returned (.tuple #[.int .i32 ((Lib.decodeGo c).1 : Nat), .int .i64 ((Lib.decodeGo c).2 : Nat)]) ∧ Only [] w w' := by
 have h : Calls Tryz.prog 104 #[.string c] w _ := Any.utf8_DecodeRuneInString Tryz.laysDecode c w hT;exact h.mono fun e w' ⟨h1, h2⟩ => ⟨h1, Only.of_below h2 []⟩
theorem decode_none (w : World) (hT : UTabs w) :
  Calls Tryz.prog 104 #[.string ⟨#[]⟩] w fun e w' => e = .returned (.tuple #[.int .i32 65533, .int .i64 0]) ∧ Only [] w w' := decode_any ⟨#[]⟩ w hT
theorem decodeGo_some {c : ByteArray} (h : 0 < c.size) : Lib.decodeGo c = decodeL (by_ c) := by
 unfold Lib.decodeGo;rw [if_neg (by omega), ← decL_at c 0, List.drop_zero]
theorem less_any (a b : ByteArray) (w : World) (ha : a.size ≤ 9223372036854775807) (hb : b.size ≤ 9223372036854775807) (hT : UTabs w) :
  Calls Tryz.prog 83 #[.string a, .string b] w fun e w' => e = .returned (.bool (lessL (runesL (by_ a)) (runesL (by_ b)))) ∧ Only [] w w' := by
 obtain ⟨R, hR⟩ : ∃ R, R = lessL (runesL (by_ a)) (runesL (by_ b)) := ⟨_, rfl⟩;rw [← hR];have HD := Hd (fun c (w' : World) (hO : Only [] w w') => decode_any c w' (hT.only hO));have HD0 := Hd (fun (w' : World) (hO : Only [] w w') => decode_none w' (hT.only hO));have HR := Hd hR;clear hR hT;go_enter Tryz.func83, Tryz.ntmps83;go_wp2
 go_loopw [1] (fun bv wr => ∃ (pos : Nat) (c : ByteArray), bv = .string c ∧ pos ≤ a.size ∧ c.size ≤ 9223372036854775807 ∧ Hid (R = lessL (runesL ((by_ a).drop pos)) (runesL (by_ c))) ∧ Hid (wr.heap[w.heap.size]? = some (.stringIter a pos)) ∧ Hid (Only [] w wr)) (fun _ wr => a.size - wr.iterPos w.heap.size)
 case atStart => exact ⟨0, b, rfl, by omega, hb, Hd (by rw [List.drop_zero]; exact HR.out), Hd (World.iter_heap w a 0), Hd ((Only.refl [] w).alloc _)⟩
 case round =>
  obtain ⟨pos, c, rfl, hpos, hc, HL, HIT, HO⟩ := hrel
  by_cases hp : pos < a.size
  ·have hnx : ∀ ty, (Instr.next (.pointer (some ⟨w.heap.size, 0, none⟩)) true ty).run Tryz.prog wr = _ := fun ty => run_next_any_at wr w.heap.size a pos ty HIT.out hp;have hwd := width_le a pos hp;have hip := iterPos_of HIT.out;have HST := Hd (runes_dec a pos hp);obtain ⟨⟨r, wd⟩, hdec⟩ : ∃ d, d = Utf8.decode a pos := ⟨_, rfl⟩;rw [← hdec] at hnx hwd HST;dsimp only at hwd;have HIT2 := Hd (iterAt_heap wr w.heap.size a pos (pos + wd) HIT.out);have HO2 := Hd (only_iter HO.out a (pos + wd) (k := w.heap.size) (fun h => by omega));have hO2s := HO2.out.size;have HD1 := Hd (HD.out c _ HO2.out);obtain ⟨w3, hw3⟩ : ∃ w3, w3 = wr.iterAt w.heap.size a (pos + wd) := ⟨_, rfl⟩;rw [← hw3] at hnx HIT2 HO2 hO2s HD1;have hw0 : w.heap.size < w3.heap.size := (Array.getElem?_eq_some_iff.1 HIT2.out).1;have hwd1 := hwd.1;have hwd2 := hwd.2;clear hdec hw3 hwd HIT HO
   by_cases hce : c = ⟨#[]⟩
   ·subst hce;have HD1 := Hd (HD0.out _ HO2.out);have HF : Hid (R = false) := Hd (by rw [HL.out, HST.out]; rfl);clear HST HL hc;go_wp2_with fail
    refine (HD1.out).mono ?_;rintro e w4 ⟨rfl, hO4⟩;have HO4 := Hd (HO2.out.trans hO4);clear hO4;go_wp2
    go_ret
    exact ⟨by first | (rw [HF.out]; done) | (rw [HF.out]; rfl), HO4.out⟩
   ·have hcs := size_ne hce;have hne : by_ c ≠ [] := fun e => by
     have h0 : c.size = 0 := by rw [← by_length, e]; rfl
     omega
    have HST2 := Hd (runes_step hne);have hk1 := dec_pos hne;have hk2 : (decodeL (by_ c)).2 ≤ c.size := by rw [← by_length]; exact decodeL_le _ hne
    rw [decodeGo_some hcs] at HD1;obtain ⟨⟨q, n⟩, hqn⟩ : ∃ d, d = decodeL (by_ c) := ⟨_, rfl⟩;rw [← hqn] at HD1 HST2 hk1 hk2;dsimp only at HD1 hk1 hk2;have hn0 : ((n : Int) == 0) = false := by simp; omega
    clear hqn hne hce
    by_cases hrq : r = q
    ·subst hrq;have hrr : ((r : Int) != (r : Int)) = false := by simp
     have hn1 : (0 : Int) ≤ (n : Int) := Int.natCast_nonneg _;have hn2 : (n : Int) ≤ (c.size : Int) := by omega
     have HL2 : Hid (R = lessL (runesL ((by_ a).drop (pos + wd))) (runesL (by_ (c.extract n c.size)))) := Hd (by
      rw [HL.out, HST.out, HST2.out, less_same, by_extract, ← by_length c, List.take_length])
     have hcs2 : (c.extract n c.size).size ≤ 9223372036854775807 := by
      rw [ByteArray.size_extract];omega
     have HCS2 := Hd hcs2;clear HL HST HST2 hcs2;go_wp2_with fail
     refine (HD1.out).mono ?_;rintro e w4 ⟨rfl, hO4⟩;have HO4 := Hd (HO2.out.trans hO4);have HIT4 := Hd ((hO4.keeps w.heap.size hw0 (by simp)).trans HIT2.out);have hip2 := iterPos_of HIT4.out;clear hO4;go_wp2
     go_roundw
     case rel => exact ⟨pos + wd, _, rfl, by omega, HCS2.out, HL2, HIT4, HO4⟩
     case measure => rw [hip, hip2]; omega
    ·have hrr : ((r : Int) != (q : Int)) = true := by simp; omega
     have hn1 : (0 : Int) < (n : Int) := by omega
     have HF : Hid (R = decide (r < q)) := Hd (by rw [HL.out, HST.out, HST2.out, less_unlike _ _ hrq]);clear HL HST HST2;go_wp2_with fail
     refine (HD1.out).mono ?_;rintro e w4 ⟨rfl, hO4⟩;have HO4 := Hd (HO2.out.trans hO4);clear hO4;go_wp2
     go_ret
     exact ⟨by first | (rw [HF.out]; done) | (rw [HF.out]; rfl), HO4.out⟩
  ·have hnx : ∀ ty, (Instr.next (.pointer (some ⟨w.heap.size, 0, none⟩)) true ty).run Tryz.prog wr = _ := fun ty => run_next_end_at wr w.heap.size a pos ty HIT.out hp;have hl : (by_ a).drop pos = [] := List.drop_of_length_le (by rw [by_length]; omega)
   by_cases hce : c = ⟨#[]⟩
   ·subst hce;have HF : Hid (R = false) := Hd (by rw [HL.out, hl]; rfl);clear HL hl hc;go_wp2
    go_ret
    exact ⟨by first | (rw [HF.out]; done) | (rw [HF.out]; rfl), HO.out⟩
   ·have hcs := size_ne hce;have hne : by_ c ≠ [] := fun e => by
     have h0 : c.size = 0 := by rw [← by_length, e]; rfl
     omega
    have HF : Hid (R = true) := Hd (by rw [HL.out, hl, runes_step hne]; rfl);have hcn : c.toList.isEmpty = false := by
     rw [Lib.toList_data]
     cases hb : c.data.toList with
     | nil => exact absurd hb hne
     | cons x t => rfl
    clear HL hl hc hne hcs hce;go_wp2
    go_ret
    exact ⟨by first | (rw [HF.out]; done) | (rw [HF.out]; rfl), HO.out⟩
end Go.Proofs.YtbiclliooidkjaaGreatDoor
namespace Go.Proofs.YtbiclliooidkjaaGreatDoor
open Go.Lib
theorem lessL_trans : ∀ x y z : List Nat, lessL x y = true → lessL y z = true → lessL x z = true
 | [], [], _, h, _ => by cases h
 | [], _ :: _, [], _, h => by cases h
 | [], _ :: _, _ :: _, _, _ => rfl
 | _ :: _, [], _, h, _ => by cases h
 | _ :: _, _ :: _, [], _, h => by cases h
 | r :: x, q :: y, t :: z, h1, h2 => by
  unfold lessL at h1 h2 ⊢
  by_cases e1 : r = q
  ·subst e1;rw [if_pos rfl] at h1
   by_cases e2 : r = t
   ·subst e2;rw [if_pos rfl] at h2 ⊢;exact lessL_trans x y z h1 h2
   ·rw [if_neg e2] at h2 ⊢;exact h2
  ·rw [if_neg e1] at h1;have h1 := of_decide_eq_true h1
   by_cases e2 : q = t
   ·subst e2;rw [if_neg e1];exact decide_eq_true h1
   ·rw [if_neg e2] at h2;have h2 := of_decide_eq_true h2;rw [if_neg (by omega)];exact decide_eq_true (by omega)
def lessB (a b : ByteArray) : Bool := lessL (runesL (by_ a)) (runesL (by_ b))
theorem lessB_irr (a : ByteArray) : lessB a a = false := less_irr _
theorem lessB_trans {a b c : ByteArray} (h1 : lessB a b = true) (h2 : lessB b c = true) : lessB a c = true := lessL_trans _ _ _ h1 h2
theorem lessB_asym {a b : ByteArray} (h : lessB a b = true) : lessB b a = false := by
 cases h2 : lessB b a with
 | false => rfl
 | true =>
  have := lessB_trans h h2;rw [lessB_irr] at this
  cases this
theorem name_valid' {s : ByteArray} (h : isName s = true) : validD (by_ s) = true := by
 unfold isName at h;simp only [Bool.and_eq_true] at h;exact h.1.1
theorem lessB_total {a b : ByteArray} (ha : isName a = true) (hb : isName b = true) (h1 : lessB a b = false) (h2 : lessB b a = false) : a = b := by
 by_cases e : runesL (by_ a) = runesL (by_ b)
 ·exact by_inj (runes_inj (name_valid' ha) (name_valid' hb) e)
 ·have := less_one _ _ e;unfold lessB at h1 h2;rw [h1, h2] at this
  cases this
def Rising (l : List ByteArray) : Prop := l.Pairwise fun a b => lessB a b = true
theorem rising_unique : ∀ l m : List ByteArray, Rising l → Rising m → (∀ x, x ∈ l ↔ x ∈ m) → l = m
 | [], [], _, _, _ => rfl
 | [], y :: m, _, _, h => by have := (h y).2 (List.mem_cons_self ..); cases this
 | x :: l, [], _, _, h => by have := (h x).1 (List.mem_cons_self ..); cases this
 | x :: l, y :: m, hl, hm, h => by
  obtain ⟨hx, hl2⟩ := List.pairwise_cons.1 hl;obtain ⟨hy, hm2⟩ := List.pairwise_cons.1 hm;have exy : x = y := by
   rcases List.mem_cons.1 ((h x).1 (List.mem_cons_self ..)) with e | e
   ·exact e
   ·rcases List.mem_cons.1 ((h y).2 (List.mem_cons_self ..)) with e2 | e2
    ·exact e2.symm
    ·have h1 := hy x e;have h2 := hx y e2;rw [lessB_asym h1] at h2
     cases h2
  subst exy;have : l = m := by
   refine rising_unique l m hl2 hm2 fun z => ⟨fun hz => ?_, fun hz => ?_⟩
   ·rcases List.mem_cons.1 ((h z).1 (List.mem_cons_of_mem _ hz)) with e | e
    ·subst e;have := hx z hz;rw [lessB_irr] at this
     cases this
    ·exact e
   ·rcases List.mem_cons.1 ((h z).2 (List.mem_cons_of_mem _ hz)) with e | e
    ·subst e;have := hy z hz;rw [lessB_irr] at this
     cases this
    ·exact e
  rw [this]
def aheadOf (out : List ByteArray) (x : ByteArray) : Nat := (out.takeWhile fun y => lessB y x).length
def insB (out : List ByteArray) (x : ByteArray) : List ByteArray :=
 if isName x = true then (if out[aheadOf out x]? = some x then out else out.take (aheadOf out x) ++ x :: out.drop (aheadOf out x)) else out
def sortB (l : List ByteArray) : List ByteArray := l.foldl insB []
theorem ahead_split (out : List ByteArray) (x : ByteArray) : out.take (aheadOf out x) = out.takeWhile (fun y => lessB y x) ∧ out.drop (aheadOf out x) = out.dropWhile (fun y => lessB y x) := by
 have h := List.takeWhile_append_dropWhile (p := fun y => lessB y x) (l := out);have h1 := congrArg (List.take (out.takeWhile fun y => lessB y x).length) h;have h2 := congrArg (List.drop (out.takeWhile fun y => lessB y x).length) h;rw [List.take_left] at h1;rw [List.drop_left] at h2;exact ⟨h1.symm, h2.symm⟩
structure Names (out : List ByteArray) : Prop where
 rise : Rising out
 name : ∀ x ∈ out, isName x = true
theorem names_nil : Names [] := ⟨List.Pairwise.nil, fun x h => (by cases h)⟩
theorem drop_head {p : ByteArray → Bool} : ∀ {l : List ByteArray} {y : ByteArray} {t : List ByteArray}, l.dropWhile p = y :: t → p y = false
 | x :: l, y, t, h => by
  by_cases hx : p x = true
  ·rw [List.dropWhile_cons_of_pos hx] at h;exact drop_head h
  ·rw [List.dropWhile_cons_of_neg hx] at h;obtain ⟨rfl, -⟩ := List.cons.inj h
   simpa using hx
theorem take_all {p : ByteArray → Bool} : ∀ (l : List ByteArray), ∀ y ∈ l.takeWhile p, p y = true
 | x :: l, y, h => by
  by_cases hx : p x = true
  ·rw [List.takeWhile_cons_of_pos hx] at h;rcases List.mem_cons.1 h with rfl | h
   ·exact hx
   ·exact take_all l y h
  ·rw [List.takeWhile_cons_of_neg hx] at h
   cases h
theorem ins_names {out : List ByteArray} (h : Names out) (x : ByteArray) : Names (insB out x) ∧ ∀ y, y ∈ insB out x ↔ y ∈ out ∨ (y = x ∧ isName x = true) := by
 unfold insB
 by_cases hx : isName x = true
 ·rw [if_pos hx]
  by_cases he : out[aheadOf out x]? = some x
  ·rw [if_pos he];refine ⟨h, fun y => ⟨.inl, ?_⟩⟩;rintro (hy | ⟨rfl, -⟩)
   ·exact hy
   ·exact List.mem_of_getElem? he
  ·rw [if_neg he];obtain ⟨h1, h2⟩ := ahead_split out x;have happ : out.take (aheadOf out x) ++ out.drop (aheadOf out x) = out := List.take_append_drop _ _;have hall := take_all (p := fun y => lessB y x) out;rw [← h1] at hall;have hrest : ∀ y ∈ out.drop (aheadOf out x), lessB x y = true := by
    cases hd : out.drop (aheadOf out x) with
    | nil => intro y hy; cases hy
    | cons z t =>
     have hz : lessB z x = false := drop_head (p := fun y => lessB y x) (by rw [← h2]; exact hd);have hzm : z ∈ out := by rw [← happ, hd]; simp
     have hzx : z ≠ x := fun e => he (by
      have : (out.drop (aheadOf out x))[0]? = some z := by rw [hd]; rfl
      rw [List.getElem?_drop, Nat.add_zero] at this;rw [this, e])
     have hxz : lessB x z = true := by
      cases hc : lessB x z with
      | true => rfl
      | false => exact absurd (lessB_total (h.name z hzm) hx hz hc) hzx
     have hr := h.rise;rw [← happ, hd] at hr;have hr2 := (List.pairwise_append.1 hr).2.1;intro y hy;rcases List.mem_cons.1 hy with rfl | hy
     ·exact hxz
     ·exact lessB_trans hxz ((List.pairwise_cons.1 hr2).1 y hy)
   have hr := h.rise;unfold Rising at hr;rw [← happ] at hr;obtain ⟨ra, rb, rab⟩ := List.pairwise_append.1 hr;refine ⟨⟨?_, ?_⟩, fun y => ?_⟩
   ·refine List.pairwise_append.2 ⟨ra, List.pairwise_cons.2 ⟨hrest, rb⟩, fun a ha b hb => ?_⟩;rcases List.mem_cons.1 hb with rfl | hb
    ·exact hall a ha
    ·exact rab a ha b hb
   ·intro y hy;rcases List.mem_append.1 hy with hy | hy
    ·exact h.name y (List.mem_of_mem_take hy)
    ·rcases List.mem_cons.1 hy with rfl | hy
     ·exact hx
     ·exact h.name y (List.mem_of_mem_drop hy)
   ·constructor
    ·intro hy;rcases List.mem_append.1 hy with hy | hy
     ·exact .inl (List.mem_of_mem_take hy)
     ·rcases List.mem_cons.1 hy with rfl | hy
      ·exact .inr ⟨rfl, hx⟩
      ·exact .inl (List.mem_of_mem_drop hy)
    ·rintro (hy | ⟨rfl, -⟩)
     ·rw [← happ] at hy;rcases List.mem_append.1 hy with hy | hy
      ·exact List.mem_append.2 (.inl hy)
      ·exact List.mem_append.2 (.inr (List.mem_cons_of_mem _ hy))
     ·exact List.mem_append.2 (.inr (List.mem_cons_self ..))
 ·rw [if_neg hx];refine ⟨h, fun y => ⟨.inl, ?_⟩⟩;rintro (hy | ⟨-, hc⟩)
  ·exact hy
  ·exact absurd hc hx
theorem fold_names : ∀ (l out : List ByteArray), Names out → Names (l.foldl insB out) ∧ ∀ y, y ∈ l.foldl insB out ↔ y ∈ out ∨ (y ∈ l ∧ isName y = true)
 | [], out, h => ⟨h, fun y => by simp⟩
 | x :: l, out, h => by
  obtain ⟨h1, h2⟩ := ins_names h x;obtain ⟨h3, h4⟩ := fold_names l (insB out x) h1;refine ⟨h3, fun y => ?_⟩;rw [List.foldl_cons, h4, h2]
  constructor
  ·rintro ((h | ⟨rfl, h⟩) | ⟨h, h'⟩)
   ·exact .inl h
   ·exact .inr ⟨List.mem_cons_self .., h⟩
   ·exact .inr ⟨List.mem_cons_of_mem _ h, h'⟩
  ·rintro (h | ⟨h, h'⟩)
   ·exact .inl (.inl h)
   ·rcases List.mem_cons.1 h with rfl | h
    ·exact .inl (.inr ⟨rfl, h'⟩)
    ·exact .inr ⟨h, h'⟩
theorem sortB_names (l : List ByteArray) : Names (sortB l) ∧ ∀ y, y ∈ sortB l ↔ y ∈ l ∧ isName y = true := by
 obtain ⟨h1, h2⟩ := fold_names l [] names_nil;exact ⟨h1, fun y => by rw [show sortB l = l.foldl insB [] from rfl, h2]; simp⟩
theorem sortB_unique {l m : List ByteArray} (hr : Rising m) (hm : ∀ y, y ∈ m ↔ y ∈ l ∧ isName y = true) : m = sortB l :=
 rising_unique m (sortB l) hr (sortB_names l).1.rise fun y => by rw [hm, (sortB_names l).2]
def riseB : List ByteArray → Bool
 | [] => true
 | [_] => true
 | a :: b :: l => lessB a b && riseB (b :: l)
def tabB (t : List ByteArray) : Bool := t.all isName && riseB t
theorem riseB_iff : ∀ t : List ByteArray, riseB t = true ↔ ∀ (j : Nat) x y, t[j]? = some x → t[j + 1]? = some y → lessB x y = true
 | [] => ⟨fun _ j x y h => (by cases h), fun _ => rfl⟩
 | [a] => ⟨fun _ j x y _ h => (by simp at h), fun _ => rfl⟩
 | a :: b :: l => by
  rw [riseB, Bool.and_eq_true, riseB_iff (b :: l)]
  constructor
  ·rintro ⟨h1, h2⟩ j x y hx hy
   cases j with
   | zero =>
    obtain rfl := Option.some.inj hx;obtain rfl := Option.some.inj hy;exact h1
   | succ j => exact h2 j x y hx hy
  ·intro h;exact ⟨h 0 a b rfl rfl, fun j x y hx hy => h (j + 1) x y hx hy⟩
theorem tab_iff (t : List ByteArray) : tabB t = true ↔ (∀ (j : Nat) x, t[j]? = some x → isName x = true) ∧ ∀ (j : Nat) x y, t[j]? = some x → t[j + 1]? = some y → lessB x y = true := by
 unfold tabB;rw [Bool.and_eq_true, riseB_iff, List.all_eq_true];refine ⟨fun ⟨h1, h2⟩ => ⟨fun j x hx => h1 x (List.mem_of_getElem? hx), h2⟩, fun ⟨h1, h2⟩ => ⟨fun x hx => ?_, h2⟩⟩;obtain ⟨j, hj⟩ := List.mem_iff_getElem?.1 hx;exact h1 j x hj
theorem tab_bad1 {t : List ByteArray} {j : Nat} {x : ByteArray} (h : t[j]? = some x) (hn : isName x = false) : tabB t = false := by
 cases ht : tabB t with
 | false => rfl
 | true =>
  have := ((tab_iff t).1 ht).1 j x h;rw [hn] at this
  cases this
theorem tab_bad2 {t : List ByteArray} {j : Nat} {x y : ByteArray} (h : t[j]? = some x) (h' : t[j + 1]? = some y) (hn : lessB x y = false) : tabB t = false := by
 cases ht : tabB t with
 | false => rfl
 | true =>
  have := ((tab_iff t).1 ht).2 j x y h h';rw [hn] at this
  cases this
theorem rising_of : ∀ t : List ByteArray, riseB t = true → Rising t
 | [], _ => List.Pairwise.nil
 | [a], _ => List.pairwise_singleton _ _
 | a :: b :: l, h => by
  rw [riseB, Bool.and_eq_true] at h;have ih := rising_of (b :: l) h.2;refine List.pairwise_cons.2 ⟨fun y hy => ?_, ih⟩;rcases List.mem_cons.1 hy with rfl | hy
  ·exact h.1
  ·exact lessB_trans h.1 ((List.pairwise_cons.1 ih).1 y hy)
theorem of_rising : ∀ t : List ByteArray, Rising t → riseB t = true
 | [], _ => rfl
 | [a], _ => rfl
 | a :: b :: l, h => by
  obtain ⟨h1, h2⟩ := List.pairwise_cons.1 h;rw [riseB, h1 b (List.mem_cons_self ..), of_rising (b :: l) h2]
  rfl
def posB (t : List ByteArray) (s : ByteArray) : Int := if tabB t = true then idxOfS t s else -1
theorem idx_ge (t : List ByteArray) (s : ByteArray) : -1 ≤ idxOfS t s ∧ idxOfS t s < t.length := by
 by_cases h : s ∈ t
 ·obtain ⟨k, hk, hmin⟩ : ∃ k : Nat, t[k]? = some s ∧ ∀ j, j < k → t[j]? ≠ some s := by
   obtain ⟨k, hk⟩ := List.mem_iff_getElem?.1 h;refine Nat.strongRecOn (motive := fun k : Nat => t[k]? = some s → ∃ k : Nat, t[k]? = some s ∧ ∀ j, j < k → t[j]? ≠ some s) k (fun k ih hk => ?_) hk
   by_cases hj : ∃ j, j < k ∧ t[j]? = some s
   ·obtain ⟨j, hj1, hj2⟩ := hj;exact ih j hj1 hj2
   ·exact ⟨k, hk, fun j hj1 hj2 => hj ⟨j, hj1, hj2⟩⟩
  have hl := (List.getElem?_eq_some_iff.1 hk).1;have := idxOfS_hit t t.length k s hl (Nat.le_refl _) (by rw [List.getD_eq_getElem?_getD, hk]; rfl) (fun j hj e => hmin j hj (by
   rw [List.getD_eq_getElem?_getD, List.getElem?_eq_getElem (by omega)] at e;rw [List.getElem?_eq_getElem (by omega)];exact congrArg some e))
  rw [List.take_length] at this;rw [this];omega
 ·have := idxOfS_miss t t.length s (fun j hj e => h (by
   rw [List.getD_eq_getElem?_getD, List.getElem?_eq_getElem hj] at e;have e2 : t[j] = s := e;rw [← e2];exact List.getElem_mem hj))
  rw [List.take_length] at this;rw [this];omega
end Go.Proofs.YtbiclliooidkjaaGreatDoor
