/- Parts. -/
import Derived.Test.YtjfbeeogiejopaaGreatDoorWorldNextCardK7
import Derived.Ground.SlsfProg
import Derived.Shelf.SlSortCmp.Whole1
import Derived.Shelf.SlGeneric
import Derived.Shelf.Slices.Cells
set_option maxRecDepth 10000
set_option maxHeartbeats 16000000
set_option linter.unusedVariables false
set_option linter.unusedSimpArgs false
namespace Go.Proofs.YtjfbeeogiejopaaGreatDoor
open Go.RowKit
open Go.Lib hiding intOf
attribute [local go_sem ↓] Go.wp_at_zero Go.wp_at_succ
set_option maxRecDepth 100000 in
theorem slow_none (w : World) : Calls Tryz.prog 167 #[.string ⟨#[]⟩] w fun e w' => e = .returned (.tuple #[.int .i32 65533, .int .i64 0]) ∧ w = w' := by
 go_enter Tryz.func167, Tryz.ntmps167;go_wp2
 go_ret2
 exact ⟨rfl, rfl⟩
theorem decode_ex (c : ByteArray) (w : World) (hT : UTabs w) :
  Calls Tryz.prog 153 #[.string c] w fun e w' => e = .returned (.tuple #[.int .i32 ((Lib.decodeGo c).1 : Nat), .int .i64 ((Lib.decodeGo c).2 : Nat)]) ∧ Ex w w' := by
 by_cases hce : c = ⟨#[]⟩
 ·subst hce;have HS' := Hd (slow_none w)
  show Calls _ _ _ _ fun e w' => e = .returned (.tuple #[.int .i32 65533, .int .i64 0]) ∧ Ex w w'
  clear hT;go_enter Tryz.func153, Tryz.ntmps153;go_wp2_with fail
  refine (HS'.out).mono ?_;rintro e w' ⟨rfl, rfl⟩;go_wp2
  go_ret2
  exact ⟨rfl, Ex.refl _⟩
 ·have h0 := size_ne hce;have hz0 : (0 : Int) < (c.size : Int) := by omega
  have hne : c.toList.isEmpty = false := by
   rw [Lib.toList_data]
   cases hb : c.data.toList with
   | nil => exact absurd (by_inj (s := c) (t := ⟨#[]⟩) hb) hce
   | cons x t => rfl
  have hs0 := byte_get c 0 h0
  by_cases hb : (c.get! 0).toNat < 128
  ·have hd : Lib.decodeGo c = ((c.get! 0).toNat, 1) := by
    unfold Lib.decodeGo;rw [if_neg (by omega), Lib.decode_at, Nat.sub_zero, Nat.zero_add, Nat.zero_add, Nat.zero_add];exact dec_small hb
   rw [hd];generalize c.get! 0 = x0 at *;have hlt : (x0.toNat : Int) < 128 := by omega
   clear hd hT hce;go_enter Tryz.func153, Tryz.ntmps153;go_wp2
   go_ret2
   exact ⟨rfl, Ex.refl _⟩
  ·have HS := Hd (slow_ex c w h0 (by omega) hT);generalize (Lib.decodeGo c).1 = r at *;generalize (Lib.decodeGo c).2 = n at *;generalize c.get! 0 = x0 at *;have hlt : decide ((x0.toNat : Int) < 128) = false := decide_eq_false (by omega);clear hT hce;go_enter Tryz.func153, Tryz.ntmps153;go_wp2_with fail
   refine (HS.out).mono ?_;rintro e w' ⟨rfl, hX⟩;have HX := Hd hX;clear hX;go_wp2
   go_ret2
   exact ⟨rfl, HX.out⟩
theorem decode_none_ex (w : World) (hT : UTabs w) :
  Calls Tryz.prog 153 #[.string ⟨#[]⟩] w fun e w' => e = .returned (.tuple #[.int .i32 65533, .int .i64 0]) ∧ Ex w w' := decode_ex ⟨#[]⟩ w hT
theorem less_ex (a b : ByteArray) (w : World) (ha : a.size ≤ 9223372036854775807) (hb : b.size ≤ 9223372036854775807) (hT : UTabs w) :
  Calls Tryz.prog 124 #[.string a, .string b] w fun e w' => e = .returned (.bool (lessL (runesL (by_ a)) (runesL (by_ b)))) ∧ Ex w w' := by
 obtain ⟨R, hR⟩ : ∃ R, R = lessL (runesL (by_ a)) (runesL (by_ b)) := ⟨_, rfl⟩;rw [← hR];have HD := Hd (fun c (w' : World) (hO : Ex w w') => decode_ex c w' (hT.only hO.only));have HD0 := Hd (fun (w' : World) (hO : Ex w w') => decode_none_ex w' (hT.only hO.only));have HR := Hd hR;clear hR hT;go_enter Tryz.func124, Tryz.ntmps124;go_wp2
 go_loopw [1] (fun bv wr => ∃ (pos : Nat) (c : ByteArray), bv = .string c ∧ pos ≤ a.size ∧ c.size ≤ 9223372036854775807 ∧ Hid (R = lessL (runesL ((by_ a).drop pos)) (runesL (by_ c))) ∧ Hid (wr.heap[w.heap.size]? = some (.stringIter a pos)) ∧ Hid (Ex w wr)) (fun _ wr => a.size - wr.iterPos w.heap.size)
 case atStart => exact ⟨0, b, rfl, by omega, hb, Hd (by rw [List.drop_zero]; exact HR.out), Hd (World.iter_heap w a 0), Hd ((Ex.refl w).alloc _)⟩
 case round =>
  obtain ⟨pos, c, rfl, hpos, hc, HL, HIT, HO⟩ := hrel
  by_cases hp : pos < a.size
  ·have hnx : ∀ ty, (Instr.next (.pointer (some ⟨w.heap.size, 0, none⟩)) true ty).run Tryz.prog wr = _ := fun ty => run_next_any_at wr w.heap.size a pos ty HIT.out hp;have hwd := width_le a pos hp;have hip := iterPos_of HIT.out;have HST := Hd (runes_dec a pos hp);obtain ⟨⟨r, wd⟩, hdec⟩ : ∃ d, d = Utf8.decode a pos := ⟨_, rfl⟩;rw [← hdec] at hnx hwd HST;dsimp only at hwd;have HIT2 := Hd (iterAt_heap wr w.heap.size a pos (pos + wd) HIT.out);have HO2 := Hd (HO.out.iter a (pos + wd) (k := w.heap.size) (fun h => by omega));have hO2s := HO2.out.only.size;have HD1 := Hd (HD.out c _ HO2.out);obtain ⟨w3, hw3⟩ : ∃ w3, w3 = wr.iterAt w.heap.size a (pos + wd) := ⟨_, rfl⟩;rw [← hw3] at hnx HIT2 HO2 hO2s HD1;have hw0 : w.heap.size < w3.heap.size := (Array.getElem?_eq_some_iff.1 HIT2.out).1;have hwd1 := hwd.1;have hwd2 := hwd.2;clear hdec hw3 hwd HIT HO
   by_cases hce : c = ⟨#[]⟩
   ·subst hce;have HD1 := Hd (HD0.out _ HO2.out);have HF : Hid (R = false) := Hd (by rw [HL.out, HST.out]; rfl);clear HST HL hc;go_wp2_with fail
    refine (HD1.out).mono ?_;rintro e w4 ⟨rfl, hO4⟩;have HO4 := Hd (HO2.out.trans hO4);clear hO4;go_wp2
    go_ret
    exact ⟨by first | (rw [HF.out]; done) | (rw [HF.out]; rfl), HO4.out⟩
   ·have hcs := size_ne hce;have hne : by_ c ≠ [] := fun e => by
     have h0 : c.size = 0 := by rw [← by_length, e]; rfl
     omega
    have HST2 := Hd (runes_step hne);have hk1 := dec_pos hne;have hk2 : (decodeL (by_ c)).2 ≤ c.size := by rw [← by_length]; exact decodeL_le _ hne
    rw [decodeGo_some hcs] at HD1;obtain ⟨⟨q, n⟩, hqn⟩ : ∃ d, d = decodeL (by_ c) := ⟨_, rfl⟩;rw [← hqn] at HD1 HST2 hk1 hk2;dsimp only at HD1 hk1 hk2;have hn0 : ((n : Int) == 0) = false := by simp; omega
    clear hqn hne hce
    by_cases hrq : r = q
    ·subst hrq;have hrr : ((r : Int) != (r : Int)) = false := by simp
     have hn1 : (0 : Int) ≤ (n : Int) := Int.natCast_nonneg _;have hn2 : (n : Int) ≤ (c.size : Int) := by omega
     have HL2 : Hid (R = lessL (runesL ((by_ a).drop (pos + wd))) (runesL (by_ (c.extract n c.size)))) := Hd (by
      rw [HL.out, HST.out, HST2.out, less_same, by_extract, ← by_length c, List.take_length])
     have hcs2 : (c.extract n c.size).size ≤ 9223372036854775807 := by
      rw [ByteArray.size_extract];omega
     have HCS2 := Hd hcs2;clear HL HST HST2 hcs2;go_wp2_with fail
     refine (HD1.out).mono ?_;rintro e w4 ⟨rfl, hO4⟩;have HO4 := Hd (HO2.out.trans hO4);have HIT4 := Hd ((hO4.only.keeps w.heap.size hw0 (by simp)).trans HIT2.out);have hip2 := iterPos_of HIT4.out;clear hO4;go_wp2
     go_roundw
     case rel => exact ⟨pos + wd, _, rfl, by omega, HCS2.out, HL2, HIT4, HO4⟩
     case measure => rw [hip, hip2]; omega
    ·have hrr : ((r : Int) != (q : Int)) = true := by simp; omega
     have hn1 : (0 : Int) < (n : Int) := by omega
     have HF : Hid (R = decide (r < q)) := Hd (by rw [HL.out, HST.out, HST2.out, less_unlike _ _ hrq]);clear HL HST HST2;go_wp2_with fail
     refine (HD1.out).mono ?_;rintro e w4 ⟨rfl, hO4⟩;have HO4 := Hd (HO2.out.trans hO4);clear hO4;go_wp2
     go_ret
     exact ⟨by first | (rw [HF.out]; done) | (rw [HF.out]; rfl), HO4.out⟩
  ·have hnx : ∀ ty, (Instr.next (.pointer (some ⟨w.heap.size, 0, none⟩)) true ty).run Tryz.prog wr = _ := fun ty => run_next_end_at wr w.heap.size a pos ty HIT.out hp;have hl : (by_ a).drop pos = [] := List.drop_of_length_le (by rw [by_length]; omega)
   by_cases hce : c = ⟨#[]⟩
   ·subst hce;have HF : Hid (R = false) := Hd (by rw [HL.out, hl]; rfl);clear HL hl hc;go_wp2
    go_ret
    exact ⟨by first | (rw [HF.out]; done) | (rw [HF.out]; rfl), HO.out⟩
   ·have hcs := size_ne hce;have hne : by_ c ≠ [] := fun e => by
     have h0 : c.size = 0 := by rw [← by_length, e]; rfl
     omega
    have HF : Hid (R = true) := Hd (by rw [HL.out, hl, runes_step hne]; rfl);have hcn : c.toList.isEmpty = false := by
     rw [Lib.toList_data]
     cases hb : c.data.toList with
     | nil => exact absurd hb hne
     | cons x t => rfl
    clear HL hl hc hne hcs hce;go_wp2
    go_ret
    exact ⟨by first | (rw [HF.out]; done) | (rw [HF.out]; rfl), HO.out⟩
def cmpB (a b : ByteArray) : Int := if lessL (runesL (by_ a)) (runesL (by_ b)) = true then -1 else if lessL (runesL (by_ b)) (runesL (by_ a)) = true then 1 else 0
theorem compare_ex (a b : ByteArray) (w : World) (ha : a.size ≤ 9223372036854775807) (hb : b.size ≤ 9223372036854775807) (hT : UTabs w) :
  Calls Tryz.prog 186 #[.string a, .string b] w fun e w' => e = .returned (.int .i64 (cmpB a b)) ∧ Ex w w' := by
 have H1 := Hd (less_ex a b w ha hb hT);have H2 := Hd (fun w' (h : Ex w w') => less_ex b a w' hb ha (hT.only h.only));unfold cmpB;generalize lessL (runesL (by_ a)) (runesL (by_ b)) = x at *;generalize lessL (runesL (by_ b)) (runesL (by_ a)) = y at *;clear hT ha hb
 cases x with
 | true =>
  rw [if_pos rfl];go_enter Tryz.func186, Tryz.ntmps186;go_wp2_with fail
  refine (H1.out).mono ?_;rintro e w1 ⟨rfl, hO⟩;have HO := Hd hO;clear hO;go_wp2
  go_ret
  exact ⟨rfl, HO.out⟩
 | false =>
  rw [if_neg (by simp)]
  cases y with
  | true =>
   rw [if_pos rfl];go_enter Tryz.func186, Tryz.ntmps186;go_wp2_with fail
   refine (H1.out).mono ?_;rintro e w1 ⟨rfl, hO⟩;have HO := Hd hO;clear hO;go_wp2_with fail
   refine (H2.out _ HO.out).mono ?_;rintro e w2 ⟨rfl, hO2⟩;have HO2 := Hd (HO.out.trans hO2);clear hO2;go_wp2
   go_ret
   exact ⟨rfl, HO2.out⟩
  | false =>
   rw [if_neg (by simp)];go_enter Tryz.func186, Tryz.ntmps186;go_wp2_with fail
   refine (H1.out).mono ?_;rintro e w1 ⟨rfl, hO⟩;have HO := Hd hO;clear hO;go_wp2_with fail
   refine (H2.out _ HO.out).mono ?_;rintro e w2 ⟨rfl, hO2⟩;have HO2 := Hd (HO.out.trans hO2);clear hO2;go_wp2
   go_ret
   exact ⟨rfl, HO2.out⟩
end Go.Proofs.YtjfbeeogiejopaaGreatDoor
namespace Go.Proofs
open Go.Shelf
def Tryz.laysSort_ren : Go.Shelf.Ren := ⟨fun | 6 => 185 | 15 => 112 | 14 => 188 | 28 => 135 | 29 => 136 | 20 => 189 | 21 => 190 | 22 => 191 | 23 => 192 | 24 => 193 | 25 => 194 | 26 => 195 | 27 => 196 | 46 => 197 | 47 => 155 | 48 => 156 | 49 => 198 | 50 => 199 | 57 => 200 | n => n, fun | 22 => 22 | 24 => 9 | 25 => 212 | 3 => 3 | 39 => 145 | 0 => 0 | 53 => 180 | 55 => 182 | 4 => 4 | 46 => 174 | 45 => 173 | 50 => 166 | 5 => 5 | 9 => 9 | 66 => 204 | 70 => 208 | 76 => 218 | 77 => 170 | n => n, fun | n => n⟩
theorem Tryz.laysSort : Go.Proofs.SlLaysF.n6 Tryz.prog Tryz.laysSort_ren := {
 mixed := by kernel_rfl
 f6 := ⟨Tryz.f185.name, by decide, Tryz.func185.trans (congrArg some (by kernel_rfl))⟩
 f14 := ⟨Tryz.f188.name, by decide, Tryz.func188.trans (congrArg some (by kernel_rfl))⟩
 f15 := Tryz.func112.trans (congrArg some (by kernel_rfl))
 f20 := ⟨Tryz.f189.name, by decide, Tryz.func189.trans (congrArg some (by kernel_rfl))⟩
 f21 := ⟨Tryz.f190.name, by decide, Tryz.func190.trans (congrArg some (by kernel_rfl))⟩
 f22 := ⟨Tryz.f191.name, by decide, Tryz.func191.trans (congrArg some (by kernel_rfl))⟩
 f23 := ⟨Tryz.f192.name, by decide, Tryz.func192.trans (congrArg some (by kernel_rfl))⟩
 f24 := ⟨Tryz.f193.name, by decide, Tryz.func193.trans (congrArg some (by kernel_rfl))⟩
 f25 := ⟨Tryz.f194.name, by decide, Tryz.func194.trans (congrArg some (by kernel_rfl))⟩
 f26 := ⟨Tryz.f195.name, by decide, Tryz.func195.trans (congrArg some (by kernel_rfl))⟩
 f27 := ⟨Tryz.f196.name, by decide, Tryz.func196.trans (congrArg some (by kernel_rfl))⟩
 f28 := Tryz.func135.trans (congrArg some (by kernel_rfl))
 f29 := Tryz.func136.trans (congrArg some (by kernel_rfl))
 f46 := ⟨Tryz.f197.name, by decide, Tryz.func197.trans (congrArg some (by kernel_rfl))⟩
 f47 := Tryz.func155.trans (congrArg some (by kernel_rfl))
 f48 := Tryz.func156.trans (congrArg some (by kernel_rfl))
 f49 := ⟨Tryz.f198.name, by decide, Tryz.func198.trans (congrArg some (by kernel_rfl))⟩
 f50 := ⟨Tryz.f199.name, by decide, Tryz.func199.trans (congrArg some (by kernel_rfl))⟩
 f57 := ⟨Tryz.f200.name, by decide, Tryz.func200.trans (congrArg some (by kernel_rfl))⟩
 t0 := Tryz.underlying0
 a0 := Tryz.isAgg0
 z0 := Tryz.sizeOf0
 v0 := Tryz.zeroValue0
 t3 := Tryz.underlying3
 a3 := Tryz.isAgg3
 z3 := Tryz.sizeOf3
 v3 := Tryz.zeroValue3
 t4 := Tryz.underlying4
 a4 := Tryz.isAgg4
 z4 := Tryz.sizeOf4
 v4 := Tryz.zeroValue4
 t5 := Tryz.underlying5
 a5 := Tryz.isAgg5
 z5 := Tryz.sizeOf5
 v5 := Tryz.zeroValue5
 t9 := Tryz.underlying9
 a9 := Tryz.isAgg9
 z9 := Tryz.sizeOf9
 v9 := Tryz.zeroValue9
 t22 := Tryz.underlying22
 a22 := Tryz.isAgg22
 z22 := Tryz.sizeOf22
 v22 := Tryz.zeroValue22
 a24 := Tryz.isAgg9
 z24 := Tryz.sizeOf9
 t25 := Tryz.underlying212
 a25 := Tryz.isAgg212
 z25 := Tryz.sizeOf212
 v25 := Tryz.zeroValue212
 t39 := Tryz.underlying145
 a39 := Tryz.isAgg145
 z39 := Tryz.sizeOf145
 v39 := Tryz.zeroValue145
 t45 := Tryz.underlying173
 a45 := Tryz.isAgg173
 z45 := Tryz.sizeOf173
 v45 := Tryz.zeroValue173
 t46 := Tryz.underlying174
 a46 := Tryz.isAgg174
 z46 := Tryz.sizeOf174
 v46 := Tryz.zeroValue174
 t50 := Tryz.underlying166
 a50 := Tryz.isAgg166
 z50 := Tryz.sizeOf166
 v50 := Tryz.zeroValue166
 t53 := Tryz.underlying180
 a53 := Tryz.isAgg180
 z53 := Tryz.sizeOf180
 v53 := Tryz.zeroValue180
 t55 := Tryz.underlying182
 a55 := Tryz.isAgg182
 z55 := Tryz.sizeOf182
 v55 := Tryz.zeroValue182
 t66 := Tryz.underlying204
 a66 := Tryz.isAgg204
 z66 := Tryz.sizeOf204
 v66 := Tryz.zeroValue204
 t70 := Tryz.underlying208
 a70 := Tryz.isAgg208
 z70 := Tryz.sizeOf208
 v70 := Tryz.zeroValue208
 t76 := Tryz.underlying218
 a76 := Tryz.isAgg218
 z76 := Tryz.sizeOf218
 v76 := Tryz.zeroValue218
 t77 := Tryz.underlying170
 a77 := Tryz.isAgg170
 z77 := Tryz.sizeOf170
 v77 := Tryz.zeroValue170 }
def Tryz.laysCompact_ren : Go.Shelf.Ren := ⟨fun | 194 => 187 | n => n, fun | 31 => 22 | 9 => 9 | 3 => 3 | 4 => 4 | 0 => 0 | n => n, fun | n => n⟩
theorem Tryz.laysCompact : Go.Proofs.Lays.n194 Tryz.prog Tryz.laysCompact_ren := {
 mixed := by kernel_rfl
 f194 := Tryz.func187.trans (congrArg some (by kernel_rfl))
 t0 := Tryz.underlying0
 a0 := Tryz.isAgg0
 z0 := Tryz.sizeOf0
 v0 := Tryz.zeroValue0
 t3 := Tryz.underlying3
 a3 := Tryz.isAgg3
 z3 := Tryz.sizeOf3
 v3 := Tryz.zeroValue3
 t4 := Tryz.underlying4
 a4 := Tryz.isAgg4
 z4 := Tryz.sizeOf4
 v4 := Tryz.zeroValue4
 t9 := Tryz.underlying9
 a9 := Tryz.isAgg9
 z9 := Tryz.sizeOf9
 v9 := Tryz.zeroValue9
 t31 := Tryz.underlying22
 a31 := Tryz.isAgg22
 z31 := Tryz.sizeOf22
 v31 := Tryz.zeroValue22 }
end Go.Proofs
namespace Go.Proofs.YtjfbeeogiejopaaGreatDoor
open Go.RowKit
open Go.Lib hiding intOf
attribute [local go_sem ↓] Go.wp_at_zero Go.wp_at_succ
@[reducible] def NameT : Type := {b : ByteArray // isName b = true}
theorem name_a : isName ⟨#[97]⟩ = true := by kernel_rfl
def encN (x : NameT) : Value := .string x.1
def cmpN (x y : NameT) : Int := cmpB x.1 y.1
theorem ltN_eq (x y : NameT) : ltOf cmpN x y = lessB x.1 y.1 := by
 unfold ltOf cmpN cmpB lessB
 cases lessL (runesL (by_ x.1)) (runesL (by_ y.1)) with
 | true => simp
 | false =>
  cases lessL (runesL (by_ y.1)) (runesL (by_ x.1)) <;> simp
theorem ltN_swo : Go.Sort.SWO (ltOf cmpN) where
 irrefl x := by rw [ltN_eq]; exact lessB_irr _
 trans x y z h1 h2 := by
  rw [ltN_eq] at *;exact lessB_trans h1 h2
 ntrans x y z h1 h2 := by
  rw [ltN_eq] at *
  cases h : lessB x.1 z.1 with
  | false => rfl
  | true =>
   cases h3 : lessB z.1 y.1 with
   | true =>
    have := lessB_trans h h3;rw [h1] at this
    cases this
   | false =>
    have e := lessB_total y.2 z.2 h2 h3;rw [e, h] at h1
    cases h1
theorem name_size {b : ByteArray} (h : isName b = true) : b.size ≤ 80 := by
 have hv := name_valid' h;unfold isName at h;simp only [Bool.and_eq_true, nameL, decide_eq_true_eq] at h;have h2 := enc_len (runesL (by_ b));rw [enc_runes hv, by_length] at h2;have := h.2.1.1.2;omega
theorem below_sortWorld {α : Type} [Inhabited α] (enc : α → Value) {B : Nat} {a : World} (w : World) (blk off m : Nat) (dk : Array α) (os : Array Obj) (h : Below B a w) (hB : B ≤ blk) (hs : B ≤ w.heap.size) : Below B a (sortWorld enc w blk off m dk os) := by
 have hsz : (w.heap.modify blk (Go.Sort.onCells (Go.Sort.putCells enc off dk))).size = w.heap.size := by simp
 refine ⟨h.os, h.tape, h.output, Nat.le_trans h.size ?_, fun k hk => ?_⟩
 ·show _ ≤ (w.heap.modify blk (Go.Sort.onCells (Go.Sort.putCells enc off dk)) ++ os).size
  rw [Array.size_append, hsz];omega
 ·show (w.heap.modify blk (Go.Sort.onCells (Go.Sort.putCells enc off dk)) ++ os)[k]? = _
  rw [Array.getElem?_append_left (by rw [hsz]; omega), Array.getElem?_modify, if_neg (by omega)];exact h.block k hk
theorem compact_rise (zs : List (List UInt8)) (hn : ∀ z ∈ zs, isName ⟨z.toArray⟩ = true) (hs : zs.Pairwise fun a b => lessB ⟨b.toArray⟩ ⟨a.toArray⟩ = false) : ∀ k, k ≤ zs.length →
  ((compactUpTo zs.toArray k).Pairwise fun a b => lessB ⟨a.toArray⟩ ⟨b.toArray⟩ = true) ∧ ∀ y, y ∈ compactUpTo zs.toArray k ↔ y ∈ zs.take k := by
 have hg : ∀ j, (h : j < zs.length) → zs.toArray[j]! = zs[j] := fun j h => by
  rw [getElem!_pos zs.toArray j (by simpa using h)]
  rfl
 intro k
 induction k with
 | zero => intro _; exact ⟨by simp [compactUpTo], fun y => by simp [compactUpTo]⟩
 | succ k ih =>
  intro hk;obtain ⟨ih1, ih2⟩ := ih (by omega);have hlt : k < zs.length := by omega
  have htk : zs.take (k + 1) = zs.take k ++ [zs[k]] := by rw [List.take_add_one, List.getElem?_eq_getElem hlt]; rfl
  rw [compactUpTo_succ]
  by_cases hkp : keeps zs.toArray k = true
  ·rw [if_pos hkp, hg k hlt];refine ⟨List.pairwise_append.2 ⟨ih1, List.pairwise_singleton _ _, fun a ha b hb => ?_⟩, fun y => by rw [List.mem_append, ih2, htk, List.mem_append]⟩;rw [List.mem_singleton] at hb;subst hb;have ha2 := (ih2 a).1 ha;obtain ⟨j, hj, e⟩ := List.mem_iff_getElem.1 ha2;rw [List.getElem_take] at e;rw [List.length_take] at hj;have hjk : j < k := by omega
   unfold keeps at hkp;have hkp := of_decide_eq_true hkp;have hk1 : 0 < k := by omega
   have hne : zs[k] ≠ zs[k - 1]'(by omega) := by
    rcases hkp with h | h
    ·omega
    ·rw [hg k hlt, hg (k - 1) (by omega)] at h;exact h
   have hS := List.pairwise_iff_getElem.1 hs;have inj : ∀ {u v : List UInt8}, (⟨u.toArray⟩ : ByteArray) = ⟨v.toArray⟩ → u = v := fun {u v} h => by
    have := congrArg (fun s : ByteArray => s.data.toList) h
    simpa using this
   have hlast : lessB ⟨(zs[k - 1]'(by omega)).toArray⟩ ⟨zs[k].toArray⟩ = true := by
    cases hc : lessB ⟨(zs[k - 1]'(by omega)).toArray⟩ ⟨zs[k].toArray⟩ with
    | true => rfl
    | false => exact absurd (inj (lessB_total (hn _ (List.getElem_mem _)) (hn _ (List.getElem_mem _)) hc (hS (k - 1) k (by omega) hlt (by omega)))).symm hne
   by_cases hj1 : j = k - 1
   ·subst hj1;rw [← e];exact hlast
   ·have h1 := hS j (k - 1) (by omega) (by omega) (by omega);rw [← e]
    cases hc : lessB ⟨(zs[j]'(by omega)).toArray⟩ ⟨(zs[k - 1]'(by omega)).toArray⟩ with
    | true => exact lessB_trans hc hlast
    | false =>
     have e2 := inj (lessB_total (hn _ (List.getElem_mem _)) (hn _ (List.getElem_mem _)) hc h1);rw [e2];exact hlast
  ·have hkf : keeps zs.toArray k = false := by simpa using hkp
   rw [if_neg hkp, List.append_nil];refine ⟨ih1, fun y => ?_⟩;rw [ih2, htk, List.mem_append, List.mem_singleton];refine ⟨.inl, ?_⟩;rintro (h | rfl)
   ·exact h
   ·unfold keeps at hkf;have hkf := of_decide_eq_false hkf;have hk1 : k ≠ 0 := fun h => hkf (.inl h);have he : zs[k] = zs[k - 1]'(by omega) := by
     have := Classical.not_not.1 (fun h => hkf (.inr h));rw [hg k hlt, hg (k - 1) (by omega)] at this;exact this
    rw [he];exact List.mem_iff_getElem.2 ⟨k - 1, by rw [List.length_take]; omega, by rw [List.getElem_take]⟩
theorem compact_sort (l bs : List ByteArray) (hn : ∀ b ∈ bs, isName b = true) (hs : bs.Pairwise fun a b => lessB b a = false) (hm : ∀ y, y ∈ bs ↔ y ∈ l ∧ isName y = true) :
  (compact (bs.map by_)).map (fun z => (⟨z.toArray⟩ : ByteArray)) = sortB l := by
 have back : ∀ b : ByteArray, (⟨(by_ b).toArray⟩ : ByteArray) = b := fun b => by_inj List.toList_toArray;have h := compact_rise (bs.map by_) (fun z hz => by
  obtain ⟨b, hb, rfl⟩ := List.mem_map.1 hz;rw [back];exact hn b hb) (by
  rw [List.pairwise_map];refine hs.imp fun {a b} h => ?_;rw [back, back];exact h) (bs.map by_).length (Nat.le_refl _)
 refine sortB_unique ?_ fun y => ?_
 ·unfold Rising compact;rw [List.pairwise_map];exact h.1
 ·rw [← hm]
  constructor
  ·intro hy;obtain ⟨z, hz, rfl⟩ := List.mem_map.1 hy;have := (h.2 z).1 hz;rw [List.take_length] at this;obtain ⟨b, hb, rfl⟩ := List.mem_map.1 this;rw [back];exact hb
  ·intro hy;refine List.mem_map.2 ⟨by_ y, (h.2 _).2 (by rw [List.take_length]; exact List.mem_map.2 ⟨y, hy, rfl⟩), back y⟩
theorem sortf_own (w0 w : World) (g cap n : Nat) (cur : Array Value) (fair : List ByteArray) (hl : fair.length = n) (hnm : ∀ b ∈ fair, isName b = true) (hN : n ≤ 1000) (hb : Blk w g 9 cur) (ht : cur.toList.take (n * 1) = strs fair) (hg : w0.heap.size ≤ g) (h0 : Below w0.heap.size w0 w) (hT : UTabs w0) :
  Calls Tryz.prog 185 #[.slice (some ⟨g, 0, none⟩) n cap, .func (.func 186) #[] #[]] w fun e w' => e = .returned (.tuple #[]) ∧ Below w0.heap.size w0 w' ∧ g < w'.heap.size ∧
   ∃ bs : List ByteArray, bs.length = n ∧ bs.Perm fair ∧ bs.Pairwise (fun a b => lessB b a = false) ∧ ∀ j, j < n → w'.cell? ⟨g, 0 + j, none⟩ = some (.string (bs.getD j ⟨#[]⟩)) ∧ w'.frozen? ⟨g, 0 + j, none⟩ = false := by
 letI : Inhabited NameT := ⟨⟨⟨#[97]⟩, name_a⟩⟩
 obtain ⟨dl, hdl⟩ : ∃ dl : List NameT, dl.map (fun x : NameT => x.1) = fair := by
  refine ⟨fair.attach.map fun x => (⟨x.1, hnm x.1 x.2⟩ : NameT), ?_⟩;rw [List.map_map];exact List.attach_map_subtype_val fair
 have hdn : dl.length = n := by rw [← hl, ← hdl, List.length_map]
 have hget : ∀ j, j < n → ∀ e : List NameT, e.length = n → encN (e.toArray[j]!) = .string ((e.map fun x : NameT => x.1).getD j ⟨#[]⟩) := by
  intro j hj e he;rw [getElem!_pos e.toArray j (by simpa [he] using hj), List.getD_eq_getElem?_getD, List.getElem?_map, List.getElem?_eq_getElem (by omega)]
  rfl
 have hH : Go.Sort.Holds encN w g 0 dl.toArray := by
  intro j hj;have hj2 : j < n := by simpa [hdn] using hj
  refine ⟨?_, hb.free _⟩;rw [hget j hj2 dl hdn, hdl, hb.at_, Nat.zero_add];have h1 : (cur.toList.take (n * 1))[j]? = some (.string (fair.getD j ⟨#[]⟩)) := by
   rw [ht, strs, List.getElem?_map, List.getD_eq_getElem?_getD, List.getElem?_eq_getElem (by omega)]
   rfl
  rw [List.getElem?_take, if_pos (by omega)] at h1;rw [← Array.getElem?_toList];exact h1
 have hlt := hb.lt;have hws : w0.heap.size ≤ w.heap.size := by omega
 have hcmp : CmpLays1 Tryz.prog 186 #[] encN cmpN g 0 dl.toArray.size w := by
  intro m os dk hdk x y;have h := compare_ex x.1 y.1 (sortWorld encN w g 0 m dk os) (by have := name_size x.2; omega) (by have := name_size y.2; omega) (Utf8Tabs_below hT (below_sortWorld encN w g 0 m dk os h0 hg hws));have e : (#[encN x, encN y] ++ #[] : Array Value) = #[.string x.1, .string y.1] := by simp [encN]
  rw [e];exact h.mono fun e w' ⟨he, hx⟩ => ⟨he, hx.grown⟩
 have h := Any.slices_SortFunc Tryz.laysSort encN (fun _ => rfl) cmpN ltN_swo 186 #[] g 0 cap dl.toArray w (enters_of Tryz.func186 (by kernel_rfl) rfl) hcmp hH hlt (by simp [hdn]; omega);have hsz : dl.toArray.size = n := by simp [hdn]
 rw [hsz] at h;refine Calls.mono h ?_;rintro e w' ⟨rfl, d', q, os, ⟨hp1, -, hp2⟩, hso, rfl⟩;obtain ⟨ms⟩ := d';have hmn : ms.length = n := by simpa [hdn] using hp1
 have hx1 : (dl.toArray.extract 0 n).toList = dl := by simp [← hdn]
 have hx2 : ((Array.mk ms).extract 0 n).toList = ms := by simp [← hmn]
 rw [hx1, hx2] at hp2;refine ⟨rfl, ?_, ?_, ms.map (fun x : NameT => x.1), by rw [List.length_map, hmn], ?_, ?_, ?_⟩
 ·exact below_sortWorld encN w g 0 q _ os h0 hg hws
 ·show g < (w.heap.modify g _ ++ os).size
  rw [Array.size_append, Array.size_modify];omega
 ·rw [← hdl];exact hp2.map _
 ·rw [List.pairwise_map, List.pairwise_iff_getElem];intro i j hi hj hij;have h2 := hso i j (Nat.zero_le _) hij (by omega);rw [ltN_eq, getElem!_pos (Array.mk ms) i (by simpa using hi), getElem!_pos (Array.mk ms) j (by simpa using hj)] at h2;exact h2
 ·intro j hj;have hdk : (ms.toArray).size = dl.toArray.size := by simp [hmn, hdn]
  have hh : Go.Sort.Holds encN (sortWorld encN w g 0 q ms.toArray os) g 0 ms.toArray :=
   Go.Sort.holds_grow encN (Go.Sort.putRow encN (Go.Sort.ahead w q) g 0 ms.toArray) os g 0 ms.toArray (by show g < (w.heap.modify g _).size; rw [Array.size_modify]; exact hlt) (Go.Sort.holds_putRow encN (Go.Sort.ahead w q) g 0 dl.toArray ms.toArray (Go.Sort.holds_ahead encN w q g 0 dl.toArray hH) hdk)
  have h2 := hh j (by simpa [hmn] using hj);rw [hget j hj ms hmn] at h2;exact h2
theorem ins_none (fv : Value) (w : World) :
  Calls Tryz.prog 189 #[.slice none 0 0, .int .i64 0, .int .i64 0, fv] w fun e w' => e = .returned (.tuple #[]) ∧ w = w' := by
 go_enter Tryz.func189, Tryz.ntmps189;go_wp2
 refine wp_loop_rounds 1 ?_;rw [rounds_succ];go_wp2
 go_end0
 exact ⟨rfl, rfl⟩
theorem pdq_none (lim : Int) (fv : Value) (w : World) :
  Calls Tryz.prog 188 #[.slice none 0 0, .int .i64 0, .int .i64 0, .int .i64 lim, fv] w fun e w' => e = .returned (.tuple #[]) ∧ w = w' := by
 have HI := Hd (fun w' => ins_none fv w');go_enter Tryz.func188, Tryz.ntmps188;go_wp2
 refine wp_loop_rounds 1 ?_;rw [rounds_succ];go_wp2_with fail
 refine (HI.out _).mono ?_;rintro e w' ⟨rfl, rfl⟩;go_wp2
 (try simp only [Exit.inBlock, Exit.then]); refine bodyPost_ret (results_none rfl _ _ _) rfl ?_
 exact ⟨rfl, rfl⟩
theorem len_none (w : World) : Calls Tryz.prog 112 #[.int .u64 0] w fun e w' => e = .returned (.int .i64 0) ∧ w' = w :=
 Any.bits_Len (SlLaysF0.n15.bits (P := Tryz.prog) (ρ := Tryz.laysSort_ren) { Tryz.laysSort with }) 0 w (by omega) (by omega)
theorem sortf_none (fv : Value) (w : World) :
  Calls Tryz.prog 185 #[.slice none 0 0, fv] w fun e w' => e = .returned (.tuple #[]) ∧ w = w' := by
 have HP := Hd (fun w' => pdq_none 0 fv w');have HL := Hd (fun w' => len_none w');have hw : IntKind.u64.wrap 0 = 0 := by rfl
 go_enter Tryz.func185, Tryz.ntmps185;go_wp2_with fail
 refine (HL.out _).mono ?_;rintro e w' ⟨rfl, rfl⟩;go_wp2_with fail
 refine (HP.out _).mono ?_;rintro e w' ⟨rfl, rfl⟩;go_wp2
 go_end0
 exact ⟨rfl, rfl⟩
theorem below_cells {B b : Nat} {a : World} (hb : B ≤ b) : ∀ (vs : List Value) (o : Nat) (w : World), Below B a w → Below B a (w.setCells b o vs)
 | [], _, _, h => h
 | v :: vs, o, w, h => by
  refine below_cells hb vs (o + 1) _ ⟨h.os, h.tape, h.output, by simpa [World.setCell] using h.size, fun k hk => ?_⟩;rw [Below.heap_setCell w _ v k (by show k ≠ b; omega)];exact h.block k hk
theorem size_cells (b : Nat) : ∀ (vs : List Value) (o : Nat) (w : World), (w.setCells b o vs).heap.size = w.heap.size
 | [], _, _ => rfl
 | v :: vs, o, w => by
  show ((w.setCell ⟨b, o, none⟩ v).setCells b (o + 1) vs).heap.size = _
  rw [size_cells b vs (o + 1) _];simp [World.setCell]
theorem strsOf_list (bs : List ByteArray) (n : Nat) (h : bs.length = n) : strsOf (fun j => bs.getD j ⟨#[]⟩) n = bs.map by_ := by
 unfold strsOf
 apply List.ext_getElem
 ·simp [h]
 ·intro i h1 h2;simp only [List.getElem_map, List.getElem_range];rw [List.getD_eq_getElem?_getD, List.getElem?_eq_getElem (by simpa using h2)]
  rfl
theorem compactf_own (w0 w : World) (g cap n : Nat) (l bs : List ByteArray) (hl : bs.length = n) (hN : n ≤ 1000) (hc : n ≤ cap) (hn : ∀ b ∈ bs, isName b = true) (hs : bs.Pairwise fun a b => lessB b a = false) (hm : ∀ y, y ∈ bs ↔ y ∈ l ∧ isName y = true)
  (hcell : ∀ j, j < n → w.cell? ⟨g, 0 + j, none⟩ = some (.string (bs.getD j ⟨#[]⟩)) ∧ w.frozen? ⟨g, 0 + j, none⟩ = false) (hg : w0.heap.size ≤ g) (hlt : g < w.heap.size) (h0 : Below w0.heap.size w0 w) :
  Calls Tryz.prog 187 #[.slice (some ⟨g, 0, none⟩) n cap] w fun e w' => e = .returned (.slice (some ⟨g, 0, none⟩) (sortB l).length cap) ∧ Below w0.heap.size w0 w' ∧ Row w' w'.heap.size (some ⟨g, 0, none⟩) (strs (sortB l)) := by
 have h := Any.slices_Compact_string_cells Tryz.laysCompact g 0 n cap (fun j => bs.getD j ⟨#[]⟩) w (by omega) hc (fun j hj => (hcell j hj).1) (fun j hj => (hcell j hj).2);rw [strsOf_list bs n hl] at h;have hcs := compact_sort l bs hn hs hm;have hle := compact_length_le (bs.map by_);rw [List.length_map, hl] at hle;generalize compact (bs.map by_) = ys at *;have hlen : (sortB l).length = ys.length := by rw [← hcs, List.length_map]
 rw [hlen];refine Calls.mono h ?_;rintro e w' ⟨rfl, q, rfl⟩;refine ⟨rfl, below_cells hg _ _ _ ⟨h0.os, h0.tape, h0.output, h0.size, h0.block⟩, ?_⟩;have hcells := cells_after_strs (W := w) (b := g) (off := 0) (q := q) (m := n) (ys := ys ++ List.replicate (n - ys.length) []) (Nat.le_refl n) (by simp; omega) (fun j hj => (hcell j hj).1);refine .inr ⟨g, 0, rfl, ?_, ?_, fun j u hu => ?_⟩
 ·rw [size_cells]; exact hlt
 ·exact Nat.le_refl _
 ·rw [← hcs, strs, List.map_map, List.getElem?_map] at hu
  cases hy : ys[j]? with
  | none => rw [hy] at hu; cases hu
  | some y =>
   rw [hy] at hu;obtain rfl := Option.some.inj hu;have hj : j < ys.length := (List.getElem?_eq_some_iff.1 hy).1;rw [hcells j (by omega)];unfold strAfter;rw [if_pos (by rw [List.length_append]; omega), List.getD_eq_getElem?_getD, List.getElem?_append_left hj, hy]
   rfl
theorem sorted_new (A : Option Addr) (n c B : Nat) (zs : List ByteArray) (w : World) (hn : zs.length = n) (hN : n ≤ 1000) (hz : ∀ z ∈ zs, z.size ≤ 9223372036854775807) (hA : Row w B A (strs zs)) (hT : UTabs w) :
  Calls Tryz.prog 184 #[.slice A n c] w fun e w' => Only [] w w' ∧ ∃ A' m c', e = .returned (.slice A' m c') ∧ (sortB zs).length = m ∧ Row w' w'.heap.size A' (strs (sortB zs)) ∧ ∀ b, A' = some b → w.heap.size ≤ b.block := by
 obtain ⟨i0, hi, hz0, hz1, hz2⟩ := info_parts tinfo_string;have HIS := Hd (fun k z w' (h : Only [] w w') (hz' : zs[k]? = some z) => is_any z w' (hz z (List.mem_of_getElem? hz')) (hT.only h));have HT := Hd hT;have HN := Hd hn;have HROW := Hd hA;clear hz hT hn hA;go_enter Tryz.func184, Tryz.ntmps184;go_wp2_with fail
 go_loopw [3, 8] (fun V iv wr => ∃ (k m : Nat), iv = .int .i64 k ∧ k ≤ n ∧ m ≤ k ∧ Hid (((zs.take k).filter isName).length = m) ∧ Hid (wr.ownsRow w.heap.size 9 1 V m (strs ((zs.take k).filter isName))) ∧ Hid (Only [] w wr)) (fun _ iv _ => n - (intOf iv).toNat)
 case atStart => exact ⟨0, 0, rfl, by omega, by omega, Hd rfl, Hd ⟨rfl, .inl ⟨rfl, rfl⟩⟩, Hd (Only.refl [] w)⟩
 case round =>
  obtain ⟨k, m, rfl, hk, hm, HM, HOWN, HO⟩ := hrel
  by_cases hlt : k < n
  ·have h01 : (k : Int) < (n : Int) := by omega
   have hk0 : (0 : Int) ≤ (k : Int) := Int.natCast_nonneg _;have hwk : IntKind.i64.wrap ((k : Int) + 1) = (k : Int) + 1 := IntWalk.i64_in _ (by omega);obtain ⟨b, off, rfl, hbB, hbw, hcell⟩ := HROW.out.open_ (k := k) (by rw [strs, List.length_map, HN.out]; exact hlt);obtain ⟨l, hl⟩ : ∃ l, zs[k]? = some l := ⟨_, List.getElem?_eq_getElem (by rw [HN.out]; exact hlt)⟩;have hck : wr.cell? ⟨b, off + k, none⟩ = some (.string l) := (HO.out.cell (p := ⟨b, off + k, none⟩) hbw (by simp)).trans (hcell k _ (by rw [strs, List.getElem?_map, hl]; rfl));have HI := Hd (HIS.out k l wr HO.out hl);have hwsz := HO.out.size;obtain ⟨v, hv⟩ : ∃ v, v = isName l := ⟨_, rfl⟩;rw [← hv] at HI;have HV := Hd hv;have HLK := Hd hl;clear hcell hl hv
   cases v with
   | true =>
    have HTK : Hid ((zs.take (k + 1)).filter isName = (zs.take k).filter isName ++ [l]) := Hd (by
     rw [List.take_add_one, HLK.out, List.filter_append]
     congr 1
     simp [HV.out.symm])
    have hlen : (strs ((zs.take k).filter isName)).length = m := by rw [strs, List.length_map, HM.out]
    go_wp2_with fail
    refine (HI.out).mono ?_;rintro e w2 ⟨rfl, hO2⟩;have HOWN2 := Hd (own_only HOWN.out hO2 (by simp));have HO2 := Hd (HO.out.trans hO2);have hw2 := hO2.size;clear hO2;go_wp2_with (at_builtin; refine wpList_append_row _ rfl (.tmp 14) (.tmp 16) _ rfl w.heap.size 9 i0 _ 1 16 Tryz.underlying22 hi hz0 hz1 hz2 rfl (by omega) _ m (strs ((zs.take k).filter isName)) rfl (own_only HOWN2.out ((Only.refl [] _).alloc _) (by simp)) (w2.heap.size + 1) (some ⟨w2.heap.size, 0, none⟩) 1 1 [.string l] (by rfl) (by rfl) (row_lit w2 9 #[.string l]) (by simp [Value.oneCell']) (by unfold maxLen; omega) (by omega) (by simp; omega) ?_; intro v3 w3 hown3 hgrow hat)
    have REL : w3.ownsRow w.heap.size 9 1 v3 (m + 1) (strs ((zs.take (k + 1)).filter isName)) ∧ Only [] w w3 ∧ ((zs.take (k + 1)).filter isName).length = m + 1 := by
     refine ⟨?_, (HO2.out.alloc _).step (only_grown hgrow) (own_new HOWN2.out), ?_⟩
     ·rw [HTK.out];have e : strs ((zs.take k).filter isName ++ [l]) = strs ((zs.take k).filter isName) ++ [.string l] := by simp [strs]
      rw [e];exact hown3
     ·rw [HTK.out, List.length_append, HM.out]
      rfl
    have HREL := Hd REL;clear REL hown3 hgrow hat hlen;go_wp2
    go_roundw
    case rel => exact ⟨k + 1, m + 1, by go_num, by omega, by omega, Hd HREL.out.2.2, Hd HREL.out.1, Hd HREL.out.2.1⟩
    case measure => simp [intOf]; omega
   | false =>
    go_wp2_with fail
    refine (HI.out).mono ?_;rintro e w2 ⟨rfl, hO2⟩;have HOWN2 := Hd (own_only HOWN.out hO2 (by simp));have HO2 := Hd (HO.out.trans hO2);have HTK2 : Hid ((zs.take (k + 1)).filter isName = (zs.take k).filter isName) := Hd (by
     rw [List.take_add_one, HLK.out, List.filter_append];simp [HV.out.symm])
    clear hO2;go_wp2
    go_roundw
    case rel => exact ⟨k + 1, m, by go_num, by omega, by omega, Hd (by rw [HTK2.out]; exact HM.out), Hd (by rw [HTK2.out]; exact HOWN2.out), HO2⟩
    case measure => simp [intOf]; omega
  ·have hkn : k = n := by omega
   subst hkn;have hd : decide ((k : Int) < (k : Int)) = false := by simp
   have HALL : Hid ((zs.take k).filter isName = zs.filter isName) := Hd (by rw [List.take_of_length_le (by rw [HN.out]; exact Nat.le_refl _)]);have HFM : Hid (∀ y, y ∈ (zs.take k).filter isName ↔ y ∈ zs ∧ isName y = true) := Hd (fun y => by rw [HALL.out, List.mem_filter]);generalize (zs.take k).filter isName = fair at *;obtain ⟨hl0, hv⟩ := HOWN.out;rcases hv with ⟨hv, hm0⟩ | ⟨g, cap, cur, hv, hbase, hg, hnc, hcm, hsz, ht⟩
   ·subst hv;subst hm0;have hfe : fair = [] := List.eq_nil_of_length_eq_zero HM.out;subst hfe;have HS := Hd (fun w' => sortf_none (.func (.func 186) #[] #[]) w');have HC := Hd (fun w' => (Any.slices_Compact_string_empty Tryz.laysCompact none 0 w'));have HE : Hid (sortB zs = []) := Hd (by
     have := (sortB_names zs).2
     cases hs : sortB zs with
     | nil => rfl
     | cons y t =>
      rw [hs] at this;have h1 := (HFM.out y).2 ((this y).1 (List.mem_cons_self ..))
      cases h1)
    clear hl0 HOWN;go_wp2_with fail
    refine (HS.out _).mono ?_;rintro e w5 ⟨rfl, rfl⟩;go_wp2_with fail
    refine (HC.out _).mono ?_;rintro e w6 ⟨rfl, rfl⟩;go_wp2
    go_ret
    exact ⟨HO.out, none, 0, 0, rfl, by rw [HE.out]; rfl, by rw [HE.out]; exact .inl rfl, fun b h => by cases h⟩
   ·subst hv;have h0 : Below w.heap.size w wr := HO.out.below (Nat.le_refl _) (by simp);have HS := Hd (sortf_own w wr g cap m cur fair HM.out (fun b hb => ((HFM.out b).1 hb).2) (by omega) hg ht hbase h0 HT.out);have HC := Hd (fun w' bs hl hc hn hs hm' hcell hlt h0' => compactf_own w w' g cap m zs bs hl (by omega) hc hn hs hm' hcell hbase hlt h0');have HCC := Hd hnc;have HBASE := Hd hbase;clear hl0 HOWN hg ht hbase hsz h0 hnc hcm;go_wp2_with fail
    refine (HS.out).mono ?_;rintro e w5 ⟨rfl, hb5, hg5, bs, hbl, hbp, hbs, hbc⟩;have HC5 := Hd (HC.out w5 bs hbl HCC.out (fun b hb => ((HFM.out b).1 (hbp.mem_iff.1 hb)).2) hbs (fun y => by rw [hbp.mem_iff, HFM.out]) hbc hg5 hb5);clear hb5 hg5 hbl hbp hbs hbc;go_wp2_with fail
    refine (HC5.out).mono ?_;rintro e w6 ⟨rfl, hb6, hrow⟩;have HB6 := Hd hb6;have HR6 := Hd hrow;clear hb6 hrow;go_wp2
    go_ret
    exact ⟨Only.of_below HB6.out [], _, _, _, rfl, rfl, HR6.out, fun b h => by cases h; exact HBASE.out⟩
end Go.Proofs.YtjfbeeogiejopaaGreatDoor
