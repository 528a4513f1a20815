/- Parts. -/
import Derived.Test.YtojlaphklkomfaaDoorPairMakesCardK11
set_option maxRecDepth 10000
set_option maxHeartbeats 16000000
set_option linter.unusedVariables false
set_option linter.unusedSimpArgs false
namespace Go.Proofs.YtojlaphklkomfaaDoor
open Go.RowKit
open Go.Lib hiding intOf
attribute [local go_sem ↓] Go.wp_at_zero Go.wp_at_succ
set_option maxRecDepth 100000 in
theorem slow_none (w : World) : Calls Tryd.prog 74 #[.string ⟨#[]⟩] w fun e w' => e = .returned (.tuple #[.int .i32 65533, .int .i64 0]) ∧ w = w' := by
 go_enter Tryd.func74, Tryd.ntmps74;go_wp2
 go_ret2
 exact ⟨rfl, rfl⟩
theorem decode_ex (c : ByteArray) (w : World) (hT : UTabs w) :
  Calls Tryd.prog 61 #[.string c] w fun e w' => e = .returned (.tuple #[.int .i32 ((Lib.decodeGo c).1 : Nat), .int .i64 ((Lib.decodeGo c).2 : Nat)]) ∧ Ex w w' := by
 by_cases hce : c = ⟨#[]⟩
 ·subst hce;have HS' := Hd (slow_none w)
  show Calls _ _ _ _ fun e w' => e = .returned (.tuple #[.int .i32 65533, .int .i64 0]) ∧ Ex w w'
  clear hT;go_enter Tryd.func61, Tryd.ntmps61;go_wp2_with fail
  refine (HS'.out).mono ?_;rintro e w' ⟨rfl, rfl⟩;go_wp2
  go_ret2
  exact ⟨rfl, Ex.refl _⟩
 ·have h0 := size_ne hce;have hz0 : (0 : Int) < (c.size : Int) := by omega
  have hne : c.toList.isEmpty = false := by
   rw [Lib.toList_data]
   cases hb : c.data.toList with
   | nil => exact absurd (by_inj (s := c) (t := ⟨#[]⟩) hb) hce
   | cons x t => rfl
  have hs0 := byte_get c 0 h0
  by_cases hb : (c.get! 0).toNat < 128
  ·have hd : Lib.decodeGo c = ((c.get! 0).toNat, 1) := by
    unfold Lib.decodeGo;rw [if_neg (by omega), Lib.decode_at, Nat.sub_zero, Nat.zero_add, Nat.zero_add, Nat.zero_add];exact dec_small hb
   rw [hd];generalize c.get! 0 = x0 at *;have hlt : (x0.toNat : Int) < 128 := by omega
   clear hd hT hce;go_enter Tryd.func61, Tryd.ntmps61;go_wp2
   go_ret2
   exact ⟨rfl, Ex.refl _⟩
  ·have HS := Hd (slow_ex c w h0 (by omega) hT);generalize (Lib.decodeGo c).1 = r at *;generalize (Lib.decodeGo c).2 = n at *;generalize c.get! 0 = x0 at *;have hlt : decide ((x0.toNat : Int) < 128) = false := decide_eq_false (by omega);clear hT hce;go_enter Tryd.func61, Tryd.ntmps61;go_wp2_with fail
   refine (HS.out).mono ?_;rintro e w' ⟨rfl, hX⟩;have HX := Hd hX;clear hX;go_wp2
   go_ret2
   exact ⟨rfl, HX.out⟩
theorem decode_none_ex (w : World) (hT : UTabs w) :
  Calls Tryd.prog 61 #[.string ⟨#[]⟩] w fun e w' => e = .returned (.tuple #[.int .i32 65533, .int .i64 0]) ∧ Ex w w' := decode_ex ⟨#[]⟩ w hT
theorem less_ex (a b : ByteArray) (w : World) (ha : a.size ≤ 9223372036854775807) (hb : b.size ≤ 9223372036854775807) (hT : UTabs w) :
  Calls Tryd.prog 50 #[.string a, .string b] w fun e w' => e = .returned (.bool (lessL (runesL (by_ a)) (runesL (by_ b)))) ∧ Ex w w' := by
 obtain ⟨R, hR⟩ : ∃ R, R = lessL (runesL (by_ a)) (runesL (by_ b)) := ⟨_, rfl⟩;rw [← hR];have HD := Hd (fun c (w' : World) (hO : Ex w w') => decode_ex c w' (hT.only hO.only));have HD0 := Hd (fun (w' : World) (hO : Ex w w') => decode_none_ex w' (hT.only hO.only));have HR := Hd hR;clear hR hT;go_enter Tryd.func50, Tryd.ntmps50;go_wp2
 go_loopw [1] (fun bv wr => ∃ (pos : Nat) (c : ByteArray), bv = .string c ∧ pos ≤ a.size ∧ c.size ≤ 9223372036854775807 ∧ Hid (R = lessL (runesL ((by_ a).drop pos)) (runesL (by_ c))) ∧ Hid (wr.heap[w.heap.size]? = some (.stringIter a pos)) ∧ Hid (Ex w wr)) (fun _ wr => a.size - wr.iterPos w.heap.size)
 case atStart => exact ⟨0, b, rfl, by omega, hb, Hd (by rw [List.drop_zero]; exact HR.out), Hd (World.iter_heap w a 0), Hd ((Ex.refl w).alloc _)⟩
 case round =>
  obtain ⟨pos, c, rfl, hpos, hc, HL, HIT, HO⟩ := hrel
  by_cases hp : pos < a.size
  ·have hnx : ∀ ty, (Instr.next (.pointer (some ⟨w.heap.size, 0, none⟩)) true ty).run Tryd.prog wr = _ := fun ty => run_next_any_at wr w.heap.size a pos ty HIT.out hp;have hwd := width_le a pos hp;have hip := iterPos_of HIT.out;have HST := Hd (runes_dec a pos hp);obtain ⟨⟨r, wd⟩, hdec⟩ : ∃ d, d = Utf8.decode a pos := ⟨_, rfl⟩;rw [← hdec] at hnx hwd HST;dsimp only at hwd;have HIT2 := Hd (iterAt_heap wr w.heap.size a pos (pos + wd) HIT.out);have HO2 := Hd (HO.out.iter a (pos + wd) (k := w.heap.size) (fun h => by omega));have hO2s := HO2.out.only.size;have HD1 := Hd (HD.out c _ HO2.out);obtain ⟨w3, hw3⟩ : ∃ w3, w3 = wr.iterAt w.heap.size a (pos + wd) := ⟨_, rfl⟩;rw [← hw3] at hnx HIT2 HO2 hO2s HD1;have hw0 : w.heap.size < w3.heap.size := (Array.getElem?_eq_some_iff.1 HIT2.out).1;have hwd1 := hwd.1;have hwd2 := hwd.2;clear hdec hw3 hwd HIT HO
   by_cases hce : c = ⟨#[]⟩
   ·subst hce;have HD1 := Hd (HD0.out _ HO2.out);have HF : Hid (R = false) := Hd (by rw [HL.out, HST.out]; rfl);clear HST HL hc;go_wp2_with fail
    refine (HD1.out).mono ?_;rintro e w4 ⟨rfl, hO4⟩;have HO4 := Hd (HO2.out.trans hO4);clear hO4;go_wp2
    go_ret
    exact ⟨by first | (rw [HF.out]; done) | (rw [HF.out]; rfl), HO4.out⟩
   ·have hcs := size_ne hce;have hne : by_ c ≠ [] := fun e => by
     have h0 : c.size = 0 := by rw [← by_length, e]; rfl
     omega
    have HST2 := Hd (runes_step hne);have hk1 := dec_pos hne;have hk2 : (decodeL (by_ c)).2 ≤ c.size := by rw [← by_length]; exact decodeL_le _ hne
    rw [decodeGo_some hcs] at HD1;obtain ⟨⟨q, n⟩, hqn⟩ : ∃ d, d = decodeL (by_ c) := ⟨_, rfl⟩;rw [← hqn] at HD1 HST2 hk1 hk2;dsimp only at HD1 hk1 hk2;have hn0 : ((n : Int) == 0) = false := by simp; omega
    clear hqn hne hce
    by_cases hrq : r = q
    ·subst hrq;have hrr : ((r : Int) != (r : Int)) = false := by simp
     have hn1 : (0 : Int) ≤ (n : Int) := Int.natCast_nonneg _;have hn2 : (n : Int) ≤ (c.size : Int) := by omega
     have HL2 : Hid (R = lessL (runesL ((by_ a).drop (pos + wd))) (runesL (by_ (c.extract n c.size)))) := Hd (by
      rw [HL.out, HST.out, HST2.out, less_same, by_extract, ← by_length c, List.take_length])
     have hcs2 : (c.extract n c.size).size ≤ 9223372036854775807 := by
      rw [ByteArray.size_extract];omega
     have HCS2 := Hd hcs2;clear HL HST HST2 hcs2;go_wp2_with fail
     refine (HD1.out).mono ?_;rintro e w4 ⟨rfl, hO4⟩;have HO4 := Hd (HO2.out.trans hO4);have HIT4 := Hd ((hO4.only.keeps w.heap.size hw0 (by simp)).trans HIT2.out);have hip2 := iterPos_of HIT4.out;clear hO4;go_wp2
     go_roundw
     case rel => exact ⟨pos + wd, _, rfl, by omega, HCS2.out, HL2, HIT4, HO4⟩
     case measure => rw [hip, hip2]; omega
    ·have hrr : ((r : Int) != (q : Int)) = true := by simp; omega
     have hn1 : (0 : Int) < (n : Int) := by omega
     have HF : Hid (R = decide (r < q)) := Hd (by rw [HL.out, HST.out, HST2.out, less_unlike _ _ hrq]);clear HL HST HST2;go_wp2_with fail
     refine (HD1.out).mono ?_;rintro e w4 ⟨rfl, hO4⟩;have HO4 := Hd (HO2.out.trans hO4);clear hO4;go_wp2
     go_ret
     exact ⟨by first | (rw [HF.out]; done) | (rw [HF.out]; rfl), HO4.out⟩
  ·have hnx : ∀ ty, (Instr.next (.pointer (some ⟨w.heap.size, 0, none⟩)) true ty).run Tryd.prog wr = _ := fun ty => run_next_end_at wr w.heap.size a pos ty HIT.out hp;have hl : (by_ a).drop pos = [] := List.drop_of_length_le (by rw [by_length]; omega)
   by_cases hce : c = ⟨#[]⟩
   ·subst hce;have HF : Hid (R = false) := Hd (by rw [HL.out, hl]; rfl);clear HL hl hc;go_wp2
    go_ret
    exact ⟨by first | (rw [HF.out]; done) | (rw [HF.out]; rfl), HO.out⟩
   ·have hcs := size_ne hce;have hne : by_ c ≠ [] := fun e => by
     have h0 : c.size = 0 := by rw [← by_length, e]; rfl
     omega
    have HF : Hid (R = true) := Hd (by rw [HL.out, hl, runes_step hne]; rfl);have hcn : c.toList.isEmpty = false := by
     rw [Lib.toList_data]
     cases hb : c.data.toList with
     | nil => exact absurd hb hne
     | cons x t => rfl
    clear HL hl hc hne hcs hce;go_wp2
    go_ret
    exact ⟨by first | (rw [HF.out]; done) | (rw [HF.out]; rfl), HO.out⟩
def cmpB (a b : ByteArray) : Int := if lessL (runesL (by_ a)) (runesL (by_ b)) = true then -1 else if lessL (runesL (by_ b)) (runesL (by_ a)) = true then 1 else 0
theorem compare_ex (a b : ByteArray) (w : World) (ha : a.size ≤ 9223372036854775807) (hb : b.size ≤ 9223372036854775807) (hT : UTabs w) :
  Calls Tryd.prog 45 #[.string a, .string b] w fun e w' => e = .returned (.int .i64 (cmpB a b)) ∧ Ex w w' := by
 have H1 := Hd (less_ex a b w ha hb hT);have H2 := Hd (fun w' (h : Ex w w') => less_ex b a w' hb ha (hT.only h.only));unfold cmpB;generalize lessL (runesL (by_ a)) (runesL (by_ b)) = x at *;generalize lessL (runesL (by_ b)) (runesL (by_ a)) = y at *;clear hT ha hb
 cases x with
 | true =>
  rw [if_pos rfl];go_enter Tryd.func45, Tryd.ntmps45;go_wp2_with fail
  refine (H1.out).mono ?_;rintro e w1 ⟨rfl, hO⟩;have HO := Hd hO;clear hO;go_wp2
  go_ret
  exact ⟨rfl, HO.out⟩
 | false =>
  rw [if_neg (by simp)]
  cases y with
  | true =>
   rw [if_pos rfl];go_enter Tryd.func45, Tryd.ntmps45;go_wp2_with fail
   refine (H1.out).mono ?_;rintro e w1 ⟨rfl, hO⟩;have HO := Hd hO;clear hO;go_wp2_with fail
   refine (H2.out _ HO.out).mono ?_;rintro e w2 ⟨rfl, hO2⟩;have HO2 := Hd (HO.out.trans hO2);clear hO2;go_wp2
   go_ret
   exact ⟨rfl, HO2.out⟩
  | false =>
   rw [if_neg (by simp)];go_enter Tryd.func45, Tryd.ntmps45;go_wp2_with fail
   refine (H1.out).mono ?_;rintro e w1 ⟨rfl, hO⟩;have HO := Hd hO;clear hO;go_wp2_with fail
   refine (H2.out _ HO.out).mono ?_;rintro e w2 ⟨rfl, hO2⟩;have HO2 := Hd (HO.out.trans hO2);clear hO2;go_wp2
   go_ret
   exact ⟨rfl, HO2.out⟩
end Go.Proofs.YtojlaphklkomfaaDoor
