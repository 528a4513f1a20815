/- Parts. -/
import Derived.Test.YthdofaoamljkfaaGreatDoorLaw24AllK31
import Derived.Ground.SlsfProg
import Derived.Shelf.SlSortCmp.Whole1
import Derived.Shelf.SlGeneric
import Derived.Shelf.Slices.Cells
import Derived.Test.YthdofaoamljkfaaGreatDoorLaw24AllK7
set_option maxRecDepth 10000
set_option maxHeartbeats 16000000
set_option linter.unusedVariables false
set_option linter.unusedSimpArgs false
namespace Go.Proofs.YthdofaoamljkfaaGreatDoor
open Go.RowKit
open Go.Lib hiding intOf
attribute [local go_sem ↓] Go.wp_at_zero Go.wp_at_succ
set_option maxRecDepth 100000 in
theorem slow_none (w : World) : Calls Tryz.prog 119 #[.string ⟨#[]⟩] w fun e w' => e = .returned (.tuple #[.int .i32 65533, .int .i64 0]) ∧ w = w' := by
 go_enter Tryz.func119, Tryz.ntmps119;go_wp2
 go_ret2
 exact ⟨rfl, rfl⟩
theorem decode_ex (c : ByteArray) (w : World) (hT : UTabs w) :
  Calls Tryz.prog 112 #[.string c] w fun e w' => e = .returned (.tuple #[.int .i32 ((Lib.decodeGo c).1 : Nat), .int .i64 ((Lib.decodeGo c).2 : Nat)]) ∧ Ex w w' := by
 by_cases hce : c = ⟨#[]⟩
 ·subst hce;have HS' := Hd (slow_none w)
  show Calls _ _ _ _ fun e w' => e = .returned (.tuple #[.int .i32 65533, .int .i64 0]) ∧ Ex w w'
  clear hT;go_enter Tryz.func112, Tryz.ntmps112;go_wp2_with fail
  refine (HS'.out).mono ?_;rintro e w' ⟨rfl, rfl⟩;go_wp2
  go_ret2
  exact ⟨rfl, Ex.refl _⟩
 ·have h0 := size_ne hce;have hz0 : (0 : Int) < (c.size : Int) := by omega
  have hne : c.toList.isEmpty = false := by
   rw [Lib.toList_data]
   cases hb : c.data.toList with
   | nil => exact absurd (by_inj (s := c) (t := ⟨#[]⟩) hb) hce
   | cons x t => rfl
  have hs0 := byte_get c 0 h0
  by_cases hb : (c.get! 0).toNat < 128
  ·have hd : Lib.decodeGo c = ((c.get! 0).toNat, 1) := by
    unfold Lib.decodeGo;rw [if_neg (by omega), Lib.decode_at, Nat.sub_zero, Nat.zero_add, Nat.zero_add, Nat.zero_add];exact dec_small hb
   rw [hd];generalize c.get! 0 = x0 at *;have hlt : (x0.toNat : Int) < 128 := by omega
   clear hd hT hce;go_enter Tryz.func112, Tryz.ntmps112;go_wp2
   go_ret2
   exact ⟨rfl, Ex.refl _⟩
  ·have HS := Hd (slow_ex c w h0 (by omega) hT);generalize (Lib.decodeGo c).1 = r at *;generalize (Lib.decodeGo c).2 = n at *;generalize c.get! 0 = x0 at *;have hlt : decide ((x0.toNat : Int) < 128) = false := decide_eq_false (by omega);clear hT hce;go_enter Tryz.func112, Tryz.ntmps112;go_wp2_with fail
   refine (HS.out).mono ?_;rintro e w' ⟨rfl, hX⟩;have HX := Hd hX;clear hX;go_wp2
   go_ret2
   exact ⟨rfl, HX.out⟩
theorem decode_none_ex (w : World) (hT : UTabs w) :
  Calls Tryz.prog 112 #[.string ⟨#[]⟩] w fun e w' => e = .returned (.tuple #[.int .i32 65533, .int .i64 0]) ∧ Ex w w' := decode_ex ⟨#[]⟩ w hT
theorem less_ex (a b : ByteArray) (w : World) (ha : a.size ≤ 9223372036854775807) (hb : b.size ≤ 9223372036854775807) (hT : UTabs w) :
  Calls Tryz.prog 96 #[.string a, .string b] w fun e w' => e = .returned (.bool (lessL (runesL (by_ a)) (runesL (by_ b)))) ∧ Ex w w' := by
 obtain ⟨R, hR⟩ : ∃ R, R = lessL (runesL (by_ a)) (runesL (by_ b)) := ⟨_, rfl⟩;rw [← hR];have HD := Hd (fun c (w' : World) (hO : Ex w w') => decode_ex c w' (hT.only hO.only));have HD0 := Hd (fun (w' : World) (hO : Ex w w') => decode_none_ex w' (hT.only hO.only));have HR := Hd hR;clear hR hT;go_enter Tryz.func96, Tryz.ntmps96;go_wp2
 go_loopw [1] (fun bv wr => ∃ (pos : Nat) (c : ByteArray), bv = .string c ∧ pos ≤ a.size ∧ c.size ≤ 9223372036854775807 ∧ Hid (R = lessL (runesL ((by_ a).drop pos)) (runesL (by_ c))) ∧ Hid (wr.heap[w.heap.size]? = some (.stringIter a pos)) ∧ Hid (Ex w wr)) (fun _ wr => a.size - wr.iterPos w.heap.size)
 case atStart => exact ⟨0, b, rfl, by omega, hb, Hd (by rw [List.drop_zero]; exact HR.out), Hd (World.iter_heap w a 0), Hd ((Ex.refl w).alloc _)⟩
 case round =>
  obtain ⟨pos, c, rfl, hpos, hc, HL, HIT, HO⟩ := hrel
  by_cases hp : pos < a.size
  ·have hnx : ∀ ty, (Instr.next (.pointer (some ⟨w.heap.size, 0, none⟩)) true ty).run Tryz.prog wr = _ := fun ty => run_next_any_at wr w.heap.size a pos ty HIT.out hp;have hwd := width_le a pos hp;have hip := iterPos_of HIT.out;have HST := Hd (runes_dec a pos hp);obtain ⟨⟨r, wd⟩, hdec⟩ : ∃ d, d = Utf8.decode a pos := ⟨_, rfl⟩;rw [← hdec] at hnx hwd HST;dsimp only at hwd;have HIT2 := Hd (iterAt_heap wr w.heap.size a pos (pos + wd) HIT.out);have HO2 := Hd (HO.out.iter a (pos + wd) (k := w.heap.size) (fun h => by omega));have hO2s := HO2.out.only.size;have HD1 := Hd (HD.out c _ HO2.out);obtain ⟨w3, hw3⟩ : ∃ w3, w3 = wr.iterAt w.heap.size a (pos + wd) := ⟨_, rfl⟩;rw [← hw3] at hnx HIT2 HO2 hO2s HD1;have hw0 : w.heap.size < w3.heap.size := (Array.getElem?_eq_some_iff.1 HIT2.out).1;have hwd1 := hwd.1;have hwd2 := hwd.2;clear hdec hw3 hwd HIT HO
   by_cases hce : c = ⟨#[]⟩
   ·subst hce;have HD1 := Hd (HD0.out _ HO2.out);have HF : Hid (R = false) := Hd (by rw [HL.out, HST.out]; rfl);clear HST HL hc;go_wp2_with fail
    refine (HD1.out).mono ?_;rintro e w4 ⟨rfl, hO4⟩;have HO4 := Hd (HO2.out.trans hO4);clear hO4;go_wp2
    go_ret
    exact ⟨by first | (rw [HF.out]; done) | (rw [HF.out]; rfl), HO4.out⟩
   ·have hcs := size_ne hce;have hne : by_ c ≠ [] := fun e => by
     have h0 : c.size = 0 := by rw [← by_length, e]; rfl
     omega
    have HST2 := Hd (runes_step hne);have hk1 := dec_pos hne;have hk2 : (decodeL (by_ c)).2 ≤ c.size := by rw [← by_length]; exact decodeL_le _ hne
    rw [decodeGo_some hcs] at HD1;obtain ⟨⟨q, n⟩, hqn⟩ : ∃ d, d = decodeL (by_ c) := ⟨_, rfl⟩;rw [← hqn] at HD1 HST2 hk1 hk2;dsimp only at HD1 hk1 hk2;have hn0 : ((n : Int) == 0) = false := by simp; omega
    clear hqn hne hce
    by_cases hrq : r = q
    ·subst hrq;have hrr : ((r : Int) != (r : Int)) = false := by simp
     have hn1 : (0 : Int) ≤ (n : Int) := Int.natCast_nonneg _;have hn2 : (n : Int) ≤ (c.size : Int) := by omega
     have HL2 : Hid (R = lessL (runesL ((by_ a).drop (pos + wd))) (runesL (by_ (c.extract n c.size)))) := Hd (by
      rw [HL.out, HST.out, HST2.out, less_same, by_extract, ← by_length c, List.take_length])
     have hcs2 : (c.extract n c.size).size ≤ 9223372036854775807 := by
      rw [ByteArray.size_extract];omega
     have HCS2 := Hd hcs2;clear HL HST HST2 hcs2;go_wp2_with fail
     refine (HD1.out).mono ?_;rintro e w4 ⟨rfl, hO4⟩;have HO4 := Hd (HO2.out.trans hO4);have HIT4 := Hd ((hO4.only.keeps w.heap.size hw0 (by simp)).trans HIT2.out);have hip2 := iterPos_of HIT4.out;clear hO4;go_wp2
     go_roundw
     case rel => exact ⟨pos + wd, _, rfl, by omega, HCS2.out, HL2, HIT4, HO4⟩
     case measure => rw [hip, hip2]; omega
    ·have hrr : ((r : Int) != (q : Int)) = true := by simp; omega
     have hn1 : (0 : Int) < (n : Int) := by omega
     have HF : Hid (R = decide (r < q)) := Hd (by rw [HL.out, HST.out, HST2.out, less_unlike _ _ hrq]);clear HL HST HST2;go_wp2_with fail
     refine (HD1.out).mono ?_;rintro e w4 ⟨rfl, hO4⟩;have HO4 := Hd (HO2.out.trans hO4);clear hO4;go_wp2
     go_ret
     exact ⟨by first | (rw [HF.out]; done) | (rw [HF.out]; rfl), HO4.out⟩
  ·have hnx : ∀ ty, (Instr.next (.pointer (some ⟨w.heap.size, 0, none⟩)) true ty).run Tryz.prog wr = _ := fun ty => run_next_end_at wr w.heap.size a pos ty HIT.out hp;have hl : (by_ a).drop pos = [] := List.drop_of_length_le (by rw [by_length]; omega)
   by_cases hce : c = ⟨#[]⟩
   ·subst hce;have HF : Hid (R = false) := Hd (by rw [HL.out, hl]; rfl);clear HL hl hc;go_wp2
    go_ret
    exact ⟨by first | (rw [HF.out]; done) | (rw [HF.out]; rfl), HO.out⟩
   ·have hcs := size_ne hce;have hne : by_ c ≠ [] := fun e => by
     have h0 : c.size = 0 := by rw [← by_length, e]; rfl
     omega
    have HF : Hid (R = true) := Hd (by rw [HL.out, hl, runes_step hne]; rfl);have hcn : c.toList.isEmpty = false := by
     rw [Lib.toList_data]
     cases hb : c.data.toList with
     | nil => exact absurd hb hne
     | cons x t => rfl
    clear HL hl hc hne hcs hce;go_wp2
    go_ret
    exact ⟨by first | (rw [HF.out]; done) | (rw [HF.out]; rfl), HO.out⟩
def cmpB (a b : ByteArray) : Int := if lessL (runesL (by_ a)) (runesL (by_ b)) = true then -1 else if lessL (runesL (by_ b)) (runesL (by_ a)) = true then 1 else 0
theorem compare_ex (a b : ByteArray) (w : World) (ha : a.size ≤ 9223372036854775807) (hb : b.size ≤ 9223372036854775807) (hT : UTabs w) :
  Calls Tryz.prog 136 #[.string a, .string b] w fun e w' => e = .returned (.int .i64 (cmpB a b)) ∧ Ex w w' := by
 have H1 := Hd (less_ex a b w ha hb hT);have H2 := Hd (fun w' (h : Ex w w') => less_ex b a w' hb ha (hT.only h.only));unfold cmpB;generalize lessL (runesL (by_ a)) (runesL (by_ b)) = x at *;generalize lessL (runesL (by_ b)) (runesL (by_ a)) = y at *;clear hT ha hb
 cases x with
 | true =>
  rw [if_pos rfl];go_enter Tryz.func136, Tryz.ntmps136;go_wp2_with fail
  refine (H1.out).mono ?_;rintro e w1 ⟨rfl, hO⟩;have HO := Hd hO;clear hO;go_wp2
  go_ret
  exact ⟨rfl, HO.out⟩
 | false =>
  rw [if_neg (by simp)]
  cases y with
  | true =>
   rw [if_pos rfl];go_enter Tryz.func136, Tryz.ntmps136;go_wp2_with fail
   refine (H1.out).mono ?_;rintro e w1 ⟨rfl, hO⟩;have HO := Hd hO;clear hO;go_wp2_with fail
   refine (H2.out _ HO.out).mono ?_;rintro e w2 ⟨rfl, hO2⟩;have HO2 := Hd (HO.out.trans hO2);clear hO2;go_wp2
   go_ret
   exact ⟨rfl, HO2.out⟩
  | false =>
   rw [if_neg (by simp)];go_enter Tryz.func136, Tryz.ntmps136;go_wp2_with fail
   refine (H1.out).mono ?_;rintro e w1 ⟨rfl, hO⟩;have HO := Hd hO;clear hO;go_wp2_with fail
   refine (H2.out _ HO.out).mono ?_;rintro e w2 ⟨rfl, hO2⟩;have HO2 := Hd (HO.out.trans hO2);clear hO2;go_wp2
   go_ret
   exact ⟨rfl, HO2.out⟩
end Go.Proofs.YthdofaoamljkfaaGreatDoor
namespace Go.Proofs
open Go.Shelf
def Tryz.laysSort_ren : Go.Shelf.Ren := ⟨fun | 6 => 135 | 15 => 139 | 14 => 138 | 28 => 148 | 29 => 149 | 20 => 140 | 21 => 141 | 22 => 142 | 23 => 143 | 24 => 144 | 25 => 145 | 26 => 146 | 27 => 147 | 46 => 150 | 47 => 151 | 48 => 152 | 49 => 153 | 50 => 154 | 57 => 155 | n => n, fun | 22 => 22 | 24 => 9 | 25 => 160 | 3 => 3 | 39 => 147 | 0 => 0 | 53 => 171 | 55 => 91 | 4 => 4 | 46 => 179 | 45 => 178 | 50 => 137 | 5 => 5 | 9 => 9 | 66 => 186 | 70 => 190 | 76 => 192 | 77 => 140 | n => n, fun | n => n⟩
theorem Tryz.laysSort : Go.Proofs.SlLaysF.n6 Tryz.prog Tryz.laysSort_ren := {
 mixed := by kernel_rfl
 f6 := ⟨Tryz.f135.name, by decide, Tryz.func135.trans (congrArg some (by kernel_rfl))⟩
 f14 := ⟨Tryz.f138.name, by decide, Tryz.func138.trans (congrArg some (by kernel_rfl))⟩
 f15 := Tryz.func139.trans (congrArg some (by kernel_rfl))
 f20 := ⟨Tryz.f140.name, by decide, Tryz.func140.trans (congrArg some (by kernel_rfl))⟩
 f21 := ⟨Tryz.f141.name, by decide, Tryz.func141.trans (congrArg some (by kernel_rfl))⟩
 f22 := ⟨Tryz.f142.name, by decide, Tryz.func142.trans (congrArg some (by kernel_rfl))⟩
 f23 := ⟨Tryz.f143.name, by decide, Tryz.func143.trans (congrArg some (by kernel_rfl))⟩
 f24 := ⟨Tryz.f144.name, by decide, Tryz.func144.trans (congrArg some (by kernel_rfl))⟩
 f25 := ⟨Tryz.f145.name, by decide, Tryz.func145.trans (congrArg some (by kernel_rfl))⟩
 f26 := ⟨Tryz.f146.name, by decide, Tryz.func146.trans (congrArg some (by kernel_rfl))⟩
 f27 := ⟨Tryz.f147.name, by decide, Tryz.func147.trans (congrArg some (by kernel_rfl))⟩
 f28 := Tryz.func148.trans (congrArg some (by kernel_rfl))
 f29 := Tryz.func149.trans (congrArg some (by kernel_rfl))
 f46 := ⟨Tryz.f150.name, by decide, Tryz.func150.trans (congrArg some (by kernel_rfl))⟩
 f47 := Tryz.func151.trans (congrArg some (by kernel_rfl))
 f48 := Tryz.func152.trans (congrArg some (by kernel_rfl))
 f49 := ⟨Tryz.f153.name, by decide, Tryz.func153.trans (congrArg some (by kernel_rfl))⟩
 f50 := ⟨Tryz.f154.name, by decide, Tryz.func154.trans (congrArg some (by kernel_rfl))⟩
 f57 := ⟨Tryz.f155.name, by decide, Tryz.func155.trans (congrArg some (by kernel_rfl))⟩
 t0 := Tryz.underlying0
 a0 := Tryz.isAgg0
 z0 := Tryz.sizeOf0
 v0 := Tryz.zeroValue0
 t3 := Tryz.underlying3
 a3 := Tryz.isAgg3
 z3 := Tryz.sizeOf3
 v3 := Tryz.zeroValue3
 t4 := Tryz.underlying4
 a4 := Tryz.isAgg4
 z4 := Tryz.sizeOf4
 v4 := Tryz.zeroValue4
 t5 := Tryz.underlying5
 a5 := Tryz.isAgg5
 z5 := Tryz.sizeOf5
 v5 := Tryz.zeroValue5
 t9 := Tryz.underlying9
 a9 := Tryz.isAgg9
 z9 := Tryz.sizeOf9
 v9 := Tryz.zeroValue9
 t22 := Tryz.underlying22
 a22 := Tryz.isAgg22
 z22 := Tryz.sizeOf22
 v22 := Tryz.zeroValue22
 a24 := Tryz.isAgg9
 z24 := Tryz.sizeOf9
 t25 := Tryz.underlying160
 a25 := Tryz.isAgg160
 z25 := Tryz.sizeOf160
 v25 := Tryz.zeroValue160
 t39 := Tryz.underlying147
 a39 := Tryz.isAgg147
 z39 := Tryz.sizeOf147
 v39 := Tryz.zeroValue147
 t45 := Tryz.underlying178
 a45 := Tryz.isAgg178
 z45 := Tryz.sizeOf178
 v45 := Tryz.zeroValue178
 t46 := Tryz.underlying179
 a46 := Tryz.isAgg179
 z46 := Tryz.sizeOf179
 v46 := Tryz.zeroValue179
 t50 := Tryz.underlying137
 a50 := Tryz.isAgg137
 z50 := Tryz.sizeOf137
 v50 := Tryz.zeroValue137
 t53 := Tryz.underlying171
 a53 := Tryz.isAgg171
 z53 := Tryz.sizeOf171
 v53 := Tryz.zeroValue171
 t55 := Tryz.underlying91
 a55 := Tryz.isAgg91
 z55 := Tryz.sizeOf91
 v55 := Tryz.zeroValue91
 t66 := Tryz.underlying186
 a66 := Tryz.isAgg186
 z66 := Tryz.sizeOf186
 v66 := Tryz.zeroValue186
 t70 := Tryz.underlying190
 a70 := Tryz.isAgg190
 z70 := Tryz.sizeOf190
 v70 := Tryz.zeroValue190
 t76 := Tryz.underlying192
 a76 := Tryz.isAgg192
 z76 := Tryz.sizeOf192
 v76 := Tryz.zeroValue192
 t77 := Tryz.underlying140
 a77 := Tryz.isAgg140
 z77 := Tryz.sizeOf140
 v77 := Tryz.zeroValue140 }
def Tryz.laysCompact_ren : Go.Shelf.Ren := ⟨fun | 194 => 137 | n => n, fun | 31 => 22 | 9 => 9 | 3 => 3 | 4 => 4 | 0 => 0 | n => n, fun | n => n⟩
theorem Tryz.laysCompact : Go.Proofs.Lays.n194 Tryz.prog Tryz.laysCompact_ren := {
 mixed := by kernel_rfl
 f194 := Tryz.func137.trans (congrArg some (by kernel_rfl))
 t0 := Tryz.underlying0
 a0 := Tryz.isAgg0
 z0 := Tryz.sizeOf0
 v0 := Tryz.zeroValue0
 t3 := Tryz.underlying3
 a3 := Tryz.isAgg3
 z3 := Tryz.sizeOf3
 v3 := Tryz.zeroValue3
 t4 := Tryz.underlying4
 a4 := Tryz.isAgg4
 z4 := Tryz.sizeOf4
 v4 := Tryz.zeroValue4
 t9 := Tryz.underlying9
 a9 := Tryz.isAgg9
 z9 := Tryz.sizeOf9
 v9 := Tryz.zeroValue9
 t31 := Tryz.underlying22
 a31 := Tryz.isAgg22
 z31 := Tryz.sizeOf22
 v31 := Tryz.zeroValue22 }
end Go.Proofs
namespace Go.Proofs.YthdofaoamljkfaaGreatDoor
open Go.RowKit
open Go.Lib hiding intOf
attribute [local go_sem ↓] Go.wp_at_zero Go.wp_at_succ
@[reducible] def NameT : Type := {b : ByteArray // isName b = true}
theorem name_a : isName ⟨#[97]⟩ = true := by kernel_rfl
def encN (x : NameT) : Value := .string x.1
def cmpN (x y : NameT) : Int := cmpB x.1 y.1
theorem ltN_eq (x y : NameT) : ltOf cmpN x y = lessB x.1 y.1 := by
 unfold ltOf cmpN cmpB lessB
 cases lessL (runesL (by_ x.1)) (runesL (by_ y.1)) with
 | true => simp
 | false =>
  cases lessL (runesL (by_ y.1)) (runesL (by_ x.1)) <;> simp
theorem ltN_swo : Go.Sort.SWO (ltOf cmpN) where
 irrefl x := by rw [ltN_eq]; exact lessB_irr _
 trans x y z h1 h2 := by
  rw [ltN_eq] at *;exact lessB_trans h1 h2
 ntrans x y z h1 h2 := by
  rw [ltN_eq] at *
  cases h : lessB x.1 z.1 with
  | false => rfl
  | true =>
   cases h3 : lessB z.1 y.1 with
   | true =>
    have := lessB_trans h h3;rw [h1] at this
    cases this
   | false =>
    have e := lessB_total y.2 z.2 h2 h3;rw [e, h] at h1
    cases h1
theorem name_size {b : ByteArray} (h : isName b = true) : b.size ≤ 80 := by
 have hv := name_valid' h;unfold isName at h;simp only [Bool.and_eq_true, nameL, decide_eq_true_eq] at h;have h2 := enc_len (runesL (by_ b));rw [enc_runes hv, by_length] at h2;have := h.2.1.1.2;omega
theorem below_sortWorld {α : Type} [Inhabited α] (enc : α → Value) {B : Nat} {a : World} (w : World) (blk off m : Nat) (dk : Array α) (os : Array Obj) (h : Below B a w) (hB : B ≤ blk) (hs : B ≤ w.heap.size) : Below B a (sortWorld enc w blk off m dk os) := by
 have hsz : (w.heap.modify blk (Go.Sort.onCells (Go.Sort.putCells enc off dk))).size = w.heap.size := by simp
 refine ⟨h.os, h.tape, h.output, Nat.le_trans h.size ?_, fun k hk => ?_⟩
 ·show _ ≤ (w.heap.modify blk (Go.Sort.onCells (Go.Sort.putCells enc off dk)) ++ os).size
  rw [Array.size_append, hsz];omega
 ·show (w.heap.modify blk (Go.Sort.onCells (Go.Sort.putCells enc off dk)) ++ os)[k]? = _
  rw [Array.getElem?_append_left (by rw [hsz]; omega), Array.getElem?_modify, if_neg (by omega)];exact h.block k hk
theorem compact_rise (zs : List (List UInt8)) (hn : ∀ z ∈ zs, isName ⟨z.toArray⟩ = true) (hs : zs.Pairwise fun a b => lessB ⟨b.toArray⟩ ⟨a.toArray⟩ = false) : ∀ k, k ≤ zs.length →
  ((compactUpTo zs.toArray k).Pairwise fun a b => lessB ⟨a.toArray⟩ ⟨b.toArray⟩ = true) ∧ ∀ y, y ∈ compactUpTo zs.toArray k ↔ y ∈ zs.take k := by
 have hg : ∀ j, (h : j < zs.length) → zs.toArray[j]! = zs[j] := fun j h => by
  rw [getElem!_pos zs.toArray j (by simpa using h)]
  rfl
 intro k
 induction k with
 | zero => intro _; exact ⟨by simp [compactUpTo], fun y => by simp [compactUpTo]⟩
 | succ k ih =>
  intro hk;obtain ⟨ih1, ih2⟩ := ih (by omega);have hlt : k < zs.length := by omega
  have htk : zs.take (k + 1) = zs.take k ++ [zs[k]] := by rw [List.take_add_one, List.getElem?_eq_getElem hlt]; rfl
  rw [compactUpTo_succ]
  by_cases hkp : keeps zs.toArray k = true
  ·rw [if_pos hkp, hg k hlt];refine ⟨List.pairwise_append.2 ⟨ih1, List.pairwise_singleton _ _, fun a ha b hb => ?_⟩, fun y => by rw [List.mem_append, ih2, htk, List.mem_append]⟩;rw [List.mem_singleton] at hb;subst hb;have ha2 := (ih2 a).1 ha;obtain ⟨j, hj, e⟩ := List.mem_iff_getElem.1 ha2;rw [List.getElem_take] at e;rw [List.length_take] at hj;have hjk : j < k := by omega
   unfold keeps at hkp;have hkp := of_decide_eq_true hkp;have hk1 : 0 < k := by omega
   have hne : zs[k] ≠ zs[k - 1]'(by omega) := by
    rcases hkp with h | h
    ·omega
    ·rw [hg k hlt, hg (k - 1) (by omega)] at h;exact h
   have hS := List.pairwise_iff_getElem.1 hs;have inj : ∀ {u v : List UInt8}, (⟨u.toArray⟩ : ByteArray) = ⟨v.toArray⟩ → u = v := fun {u v} h => by
    have := congrArg (fun s : ByteArray => s.data.toList) h
    simpa using this
   have hlast : lessB ⟨(zs[k - 1]'(by omega)).toArray⟩ ⟨zs[k].toArray⟩ = true := by
    cases hc : lessB ⟨(zs[k - 1]'(by omega)).toArray⟩ ⟨zs[k].toArray⟩ with
    | true => rfl
    | false => exact absurd (inj (lessB_total (hn _ (List.getElem_mem _)) (hn _ (List.getElem_mem _)) hc (hS (k - 1) k (by omega) hlt (by omega)))).symm hne
   by_cases hj1 : j = k - 1
   ·subst hj1;rw [← e];exact hlast
   ·have h1 := hS j (k - 1) (by omega) (by omega) (by omega);rw [← e]
    cases hc : lessB ⟨(zs[j]'(by omega)).toArray⟩ ⟨(zs[k - 1]'(by omega)).toArray⟩ with
    | true => exact lessB_trans hc hlast
    | false =>
     have e2 := inj (lessB_total (hn _ (List.getElem_mem _)) (hn _ (List.getElem_mem _)) hc h1);rw [e2];exact hlast
  ·have hkf : keeps zs.toArray k = false := by simpa using hkp
   rw [if_neg hkp, List.append_nil];refine ⟨ih1, fun y => ?_⟩;rw [ih2, htk, List.mem_append, List.mem_singleton];refine ⟨.inl, ?_⟩;rintro (h | rfl)
   ·exact h
   ·unfold keeps at hkf;have hkf := of_decide_eq_false hkf;have hk1 : k ≠ 0 := fun h => hkf (.inl h);have he : zs[k] = zs[k - 1]'(by omega) := by
     have := Classical.not_not.1 (fun h => hkf (.inr h));rw [hg k hlt, hg (k - 1) (by omega)] at this;exact this
    rw [he];exact List.mem_iff_getElem.2 ⟨k - 1, by rw [List.length_take]; omega, by rw [List.getElem_take]⟩
theorem compact_sort (l bs : List ByteArray) (hn : ∀ b ∈ bs, isName b = true) (hs : bs.Pairwise fun a b => lessB b a = false) (hm : ∀ y, y ∈ bs ↔ y ∈ l ∧ isName y = true) :
  (compact (bs.map by_)).map (fun z => (⟨z.toArray⟩ : ByteArray)) = sortB l := by
 have back : ∀ b : ByteArray, (⟨(by_ b).toArray⟩ : ByteArray) = b := fun b => by_inj List.toList_toArray;have h := compact_rise (bs.map by_) (fun z hz => by
  obtain ⟨b, hb, rfl⟩ := List.mem_map.1 hz;rw [back];exact hn b hb) (by
  rw [List.pairwise_map];refine hs.imp fun {a b} h => ?_;rw [back, back];exact h) (bs.map by_).length (Nat.le_refl _)
 refine sortB_unique ?_ fun y => ?_
 ·unfold Rising compact;rw [List.pairwise_map];exact h.1
 ·rw [← hm]
  constructor
  ·intro hy;obtain ⟨z, hz, rfl⟩ := List.mem_map.1 hy;have := (h.2 z).1 hz;rw [List.take_length] at this;obtain ⟨b, hb, rfl⟩ := List.mem_map.1 this;rw [back];exact hb
  ·intro hy;refine List.mem_map.2 ⟨by_ y, (h.2 _).2 (by rw [List.take_length]; exact List.mem_map.2 ⟨y, hy, rfl⟩), back y⟩
end Go.Proofs.YthdofaoamljkfaaGreatDoor
