/- The package table: Is. A contract of the library at this program: what it asks of the program, field by field. A contract of the library at this program: what it asks of the program, field by field. The package table: find, Find, Make, Put (what they make is new). A whole struct stored into its own block, in a region in the text's order. Rows of the call's own, apart by their types; below a base. -/
import Derived.Test.YtjhomlnlmpdklaaGreatDoorEraseStaysCardK15
import Derived.Test.YtjhomlnlmpdklaaGreatDoorEraseStaysCardK10
import Derived.Test.YtjhomlnlmpdklaaGreatDoorProg
import Derived.Ground.NamesProg
import Derived.Shelf.Slices.Turned
import Derived.Ground.Names2Prog
import Derived.Shelf.Slices.Clone
import Derived.Test.YtjhomlnlmpdklaaGreatDoorEraseStaysCardK18
import Derived.Test.YtjhomlnlmpdklaaGreatDoorEraseStaysCardK2
import Derived.Test.YtjhomlnlmpdklaaGreatDoorEraseStaysCardK3
set_option linter.unusedVariables false
set_option linter.unusedSimpArgs false
namespace Go.Proofs.YtjhomlnlmpdklaaGreatDoor
open Go.RowKit
open Go.Lib hiding intOf
attribute [local go_sem ↓] Go.wp_at_zero Go.wp_at_succ
set_option maxHeartbeats 4000000 in
theorem istab_any (A : Option Addr) (n c B : Nat) (t : List ByteArray) (w : World) (hn : t.length = n) (hnm : n ≤ 9223372036854775806) (hz : ∀ z ∈ t, z.size ≤ 9223372036854775807) (hA : Row w B A (strs t)) (hT : UTabs w) :
  Calls Tryz.prog 68 #[.slice A n c] w fun e w' => e = .returned (.bool (tabB t)) ∧ Only [] w w' := by
 have HIS := Lib.hid (fun (k : Nat) z w' (h : Only [] w w') (hz' : t[k]? = some z) => is_any z w' (hz z (List.mem_of_getElem? hz')) (hT.only h))
 have HLS := Lib.hid (fun (k j : Nat) y z w' (h : Only [] w w') (hy : t[j]? = some y) (hz' : t[k]? = some z) => less_any y z w' (hz y (List.mem_of_getElem? hy)) (hz z (List.mem_of_getElem? hz')) (hT.only h))
 have HN := Lib.hid hn
 have HROW := Lib.hid hA
 clear hn hz hA hT
 go_enter Tryz.func68, Tryz.ntmps68
 go_wp2_with fail
 go_loopw [7] (fun iv wr => ∃ (k : Nat), iv = .int .i64 k ∧ k ≤ n ∧ Hid (∀ (j : Nat) x, j < k → t[j]? = some x → isName x = true) ∧ Hid (∀ (j : Nat) x y, j + 1 < k → t[j]? = some x → t[j + 1]? = some y → lessB x y = true) ∧ Hid (Only [] w wr)) (fun iv _ => n - (intOf iv).toNat)
 case atStart => exact ⟨0, rfl, by omega, Lib.hid (fun j x h => by omega), Lib.hid (fun j x y h => by omega), Lib.hid (Only.refl [] w)⟩
 case round =>
  obtain ⟨k, rfl, hk, HNM, HLE, HO⟩ := hrel
  by_cases hlt : k < n
  ·have h01 : (k : Int) < (n : Int) := by omega
   have hk0 : (0 : Int) ≤ (k : Int) := Int.natCast_nonneg _
   have hwk : IntKind.i64.wrap ((k : Int) + 1) = (k : Int) + 1 := IntWalk.i64_in _ (by omega)
   obtain ⟨b, off, rfl, hbB, hbw, hcell⟩ := HROW.out.open_ (k := k) (by rw [strs, List.length_map, HN.out]; exact hlt)
   obtain ⟨l, hl⟩ : ∃ l, t[k]? = some l := ⟨_, List.getElem?_eq_getElem (by rw [HN.out]; exact hlt)⟩
   have HUP := Lib.hid (fun (w' : World) (h : Only [] w w') (j : Nat) (x : ByteArray) (hx : t[j]? = some x) => ((h.cell (p := ⟨b, off + j, none⟩) hbw (by simp)).trans (hcell j _ (by rw [strs, List.getElem?_map, hx]; rfl)) : w'.cell? ⟨b, off + j, none⟩ = some (.string x)))
   have hck := HUP.out wr HO.out k l hl
   have hck' : k = 0 → wr.cell? ⟨b, off, none⟩ = some (.string l) := fun h => by subst h; exact hck
   have HI := Lib.hid (HIS.out k l wr HO.out hl)
   have HLK := Lib.hid hl
   obtain ⟨v, hv⟩ : ∃ v, v = isName l := ⟨_, rfl⟩
   rw [← hv] at HI
   have HV := Lib.hid hv
   have HCK := Lib.hid hck'
   clear hcell hl hv hck'
   cases v with
   | false =>
    have HF : Hid (tabB t = false) := Lib.hid (tab_bad1 HLK.out HV.out.symm)
    go_wp2_with fail
    refine (HI.out).mono ?_
    rintro e w2 ⟨rfl, hO2⟩
    have HO2 := Lib.hid (HO.out.trans hO2)
    clear hO2
    go_wp2
    go_ret
    exact ⟨by rw [HF.out]; rfl, HO2.out⟩
   | true =>
    have HNM2 : Hid (∀ (j : Nat) x, j < k + 1 → t[j]? = some x → isName x = true) := Lib.hid (fun j x hj hx => by
     by_cases h : j < k
     ·exact HNM.out j x h hx
     ·obtain rfl : j = k := by omega
      rw [HLK.out] at hx
      obtain rfl := Option.some.inj hx
      exact HV.out.symm)
    by_cases hk00 : k = 0
    ·have hck0 := HCK.out hk00
     subst hk00
     have HLE2 : Hid (∀ (j : Nat) x y, j + 1 < 0 + 1 → t[j]? = some x → t[j + 1]? = some y → lessB x y = true) := Lib.hid (fun j x y h => by omega)
     go_wp2_with fail
     refine (HI.out).mono ?_
     rintro e w2 ⟨rfl, hO2⟩
     have HO2 := Lib.hid (HO.out.trans hO2)
     clear hO2
     go_wp2
     go_roundw
     case rel => exact ⟨0 + 1, by first | rfl | go_num, by omega, HNM2, HLE2, HO2⟩
     case measure => simp [intOf]; omega
    ·obtain ⟨j, hj⟩ : ∃ j, k = j + 1 := ⟨k - 1, by omega⟩
     have hkp : (0 : Int) < (k : Int) := by omega
     have hwj : IntKind.i64.wrap ((k : Int) - 1) = (j : Int) := by rw [IntWalk.i64_in _ (by omega)]; omega
     have hj0 : (0 : Int) ≤ (j : Int) := Int.natCast_nonneg _
     have hj1 : (j : Int) < (n : Int) := by omega
     obtain ⟨y, hy⟩ : ∃ y, t[j]? = some y := ⟨_, List.getElem?_eq_getElem (by rw [HN.out]; omega)⟩
     have HJ := Lib.hid hj
     have HY := Lib.hid hy
     have HLS1 := Lib.hid (fun w' h => HLS.out k j y l w' h hy HLK.out)
     obtain ⟨u, hu⟩ : ∃ u, u = lessB y l := ⟨_, rfl⟩
     have hu2 : u = lessL (runesL (by_ y)) (runesL (by_ l)) := hu
     rw [← hu2] at HLS1
     have HU := Lib.hid hu
     clear hj hy hu hu2
     go_wp2_with fail
     refine (HI.out).mono ?_
     rintro e w2 ⟨rfl, hO2⟩
     have HO2 := Lib.hid (HO.out.trans hO2)
     have hcj := HUP.out w2 HO2.out j y HY.out
     clear hO2
     go_wp2_with fail
     refine (HLS1.out _ HO2.out).mono ?_
     rintro e w3 ⟨rfl, hO3⟩
     have HO3 := Lib.hid (HO2.out.trans hO3)
     clear hO3 hcj
     cases u with
     | false =>
      have HF : Hid (tabB t = false) := Lib.hid (tab_bad2 HY.out (by rw [← HJ.out]; exact HLK.out) HU.out.symm)
      go_wp2
      go_ret
      exact ⟨by rw [HF.out]; rfl, HO3.out⟩
     | true =>
      have HLE2 : Hid (∀ (i : Nat) x z, i + 1 < k + 1 → t[i]? = some x → t[i + 1]? = some z → lessB x z = true) := Lib.hid (fun i x z hi hx hz => by
       by_cases h : i + 1 < k
       ·exact HLE.out i x z h hx hz
       ·obtain rfl : i = j := by have := HJ.out; omega
        rw [HY.out] at hx
        obtain rfl := Option.some.inj hx
        rw [← HJ.out, HLK.out] at hz
        obtain rfl := Option.some.inj hz
        exact HU.out.symm)
      go_wp2
      go_roundw
      case rel => exact ⟨k + 1, by go_num, by omega, HNM2, HLE2, HO3⟩
      case measure => simp [intOf]; omega
  ·have hkn : k = n := by omega
   subst hkn
   have hd : decide ((k : Int) < (k : Int)) = false := by simp
   have HF : Hid (tabB t = true) := Lib.hid ((tab_iff t).2 ⟨fun j x hx => HNM.out j x (by rw [← HN.out]; exact (List.getElem?_eq_some_iff.1 hx).1) hx, fun j x y hx hy => HLE.out j x y (by rw [← HN.out]; exact (List.getElem?_eq_some_iff.1 hy).1) hx hy⟩)
   go_wp2
   go_ret
   exact ⟨by rw [HF.out]; rfl, HO.out⟩
end Go.Proofs.YtjhomlnlmpdklaaGreatDoor

namespace Go.Proofs
open Go.Shelf
def Tryz.laysIndex_ren : Go.Shelf.Ren := ⟨fun | 109 => 113 | n => n, fun | 31 => 22 | 9 => 9 | 3 => 3 | 0 => 0 | 4 => 4 | n => n, fun | n => n⟩
theorem Tryz.laysIndex : Go.Proofs.Lays.n109 Tryz.prog Tryz.laysIndex_ren := {
 mixed := by kernel_rfl
 f109 := Tryz.func113.trans (congrArg some (by kernel_rfl))
 t0 := Tryz.underlying0
 a0 := Tryz.isAgg0
 z0 := Tryz.sizeOf0
 v0 := Tryz.zeroValue0
 t3 := Tryz.underlying3
 a3 := Tryz.isAgg3
 z3 := Tryz.sizeOf3
 v3 := Tryz.zeroValue3
 t4 := Tryz.underlying4
 a4 := Tryz.isAgg4
 z4 := Tryz.sizeOf4
 v4 := Tryz.zeroValue4
 t9 := Tryz.underlying9
 a9 := Tryz.isAgg9
 z9 := Tryz.sizeOf9
 v9 := Tryz.zeroValue9
 t31 := Tryz.underlying22
 a31 := Tryz.isAgg22
 z31 := Tryz.sizeOf22
 v31 := Tryz.zeroValue22 }
end Go.Proofs

namespace Go.Proofs
open Go.Shelf
def Tryz.laysClone_ren : Go.Shelf.Ren := ⟨fun | 16 => 59 | n => n, fun | 24 => 22 | 9 => 9 | 4 => 4 | n => n, fun | n => n⟩
theorem Tryz.laysClone : Go.Proofs.Lays2.n16 Tryz.prog Tryz.laysClone_ren := {
 mixed := by kernel_rfl
 f16 := Tryz.func59.trans (congrArg some (by kernel_rfl))
 t4 := Tryz.underlying4
 a4 := Tryz.isAgg4
 z4 := Tryz.sizeOf4
 v4 := Tryz.zeroValue4
 t9 := Tryz.underlying9
 a9 := Tryz.isAgg9
 z9 := Tryz.sizeOf9
 v9 := Tryz.zeroValue9
 t24 := Tryz.underlying22
 a24 := Tryz.isAgg22
 z24 := Tryz.sizeOf22
 v24 := Tryz.zeroValue22
 i9 := by kernel_rfl }
end Go.Proofs

set_option linter.unusedVariables false
set_option linter.unusedSimpArgs false
namespace Go.Proofs.YtjhomlnlmpdklaaGreatDoor
open Go.RowKit
open Go.Lib hiding intOf
attribute [local go_sem ↓] Go.wp_at_zero Go.wp_at_succ
theorem index_any (A : Option Addr) (n c B : Nat) (t : List ByteArray) (s : ByteArray) (w : World) (hn : t.length = n) (hnm : n ≤ 9223372036854775807) (hA : Row w B A (strs t)) :
  Calls Tryz.prog 113 #[.slice A n c, .string s] w fun e w' => e = .returned (.int .i64 (idxOfS t s)) ∧ w = w' := by
 subst hn
 rcases hA with h | ⟨b, off, rfl, hb, hw, hcell⟩
 ·have ht : t = [] := by simpa [strs] using h
  subst ht
  have h : Calls Tryz.prog 113 #[.slice A 0 c, .string s] w _ := Any.slices_Index_string_empty Tryz.laysIndex A c s w
  exact h.mono fun e w' ⟨h1, h2⟩ => ⟨h1, h2.symm⟩
 ·have h : Calls Tryz.prog 113 #[.slice (some ⟨b, off, none⟩) t.length c, .string s] w _ := Any.slices_Index_string Tryz.laysIndex b off t.length c t s w (Nat.le_refl _) hnm (fun j hj => hcell j _ (by
   rw [strs, List.getElem?_map, List.getD_eq_getElem?_getD, List.getElem?_eq_getElem hj]
   rfl))
  rw [List.take_length] at h
  exact h.mono fun e w' ⟨h1, h2⟩ => ⟨h1, h2.symm⟩
set_option maxHeartbeats 2000000 in
theorem find_low (A : Option Addr) (n c B : Nat) (t : List ByteArray) (s : ByteArray) (w : World) (hn : t.length = n) (hnm : n ≤ 9223372036854775807) (hA : Row w B A (strs t)) :
  Calls Tryz.prog 106 #[.slice A n c, .string s] w fun e w' => e = .returned (.tuple #[.int .i64 (max (idxOfS t s) 0), .bool (decide (0 ≤ idxOfS t s))]) ∧ w = w' := by
 have HI := Lib.hid (index_any A n c B t s w hn hnm hA)
 generalize idxOfS t s = z at *
 clear hA hn
 go_enter Tryz.func106, Tryz.ntmps106
 go_wp2_with fail
 refine (HI.out).mono ?_
 rintro e w' ⟨rfl, rfl⟩
 go_wp2
 go_ret2
 exact ⟨rfl, rfl⟩
set_option maxHeartbeats 2000000 in
theorem find_any (A : Option Addr) (n c B : Nat) (t : List ByteArray) (s : ByteArray) (w : World) (hn : t.length = n) (hnm : n ≤ 9223372036854775806) (hz : ∀ z ∈ t, z.size ≤ 9223372036854775807) (hA : Row w B A (strs t)) (hT : UTabs w) :
  Calls Tryz.prog 86 #[.slice A n c, .string s] w fun e w' => e = .returned (.tuple #[.int .i64 (max (posB t s) 0), .bool (decide (0 ≤ posB t s))]) ∧ Only [] w w' := by
 have HI := Lib.hid (istab_any A n c B t w hn hnm hz hA hT)
 have HF := Lib.hid (fun w' (h : Only [] w w') => find_low A n c B t s w' hn (by omega) (hA.only h (by simp)))
 unfold posB
 generalize tabB t = v at *
 clear hz hA hT hn
 cases v with
 | false =>
  rw [if_neg (by simp)]
  go_enter Tryz.func86, Tryz.ntmps86
  go_wp2_with fail
  refine (HI.out).mono ?_
  rintro e w1 ⟨rfl, hO⟩
  have HO := Lib.hid hO
  clear hO
  go_wp2
  go_ret2
  exact ⟨rfl, HO.out⟩
 | true =>
  rw [if_pos rfl]
  generalize idxOfS t s = z at *
  go_enter Tryz.func86, Tryz.ntmps86
  go_wp2_with fail
  refine (HI.out).mono ?_
  rintro e w1 ⟨rfl, hO⟩
  have HO := Lib.hid hO
  clear hO
  go_wp2_with fail
  refine (HF.out _ HO.out).mono ?_
  rintro e w2 ⟨rfl, rfl⟩
  go_wp2
  go_ret2
  exact ⟨rfl, HO.out⟩
set_option maxHeartbeats 2000000 in
theorem make_new (A : Option Addr) (n c B : Nat) (zs : List ByteArray) (w : World) (hn : zs.length = n) (hN : n ≤ 1000) (hz : ∀ z ∈ zs, z.size ≤ 9223372036854775807) (hA : Row w B A (strs zs)) (hT : UTabs w) :
  Calls Tryz.prog 124 #[.slice A n c] w fun e w' => Only [] w w' ∧ ∃ A' m c', e = .returned (.slice A' m c') ∧ (sortB zs).length = m ∧ Row w' w'.heap.size A' (strs (sortB zs)) ∧ ∀ b, A' = some b → w.heap.size ≤ b.block := by
 have HS := Lib.hid (sorted_new A n c B zs w hn hN hz hA hT)
 clear hn hN hz hA hT
 go_enter Tryz.func124, Tryz.ntmps124
 go_wp2_with fail
 refine (HS.out).mono ?_
 rintro e w1 ⟨hO, A', m, c', rfl, hm, hr, hf⟩
 have HF := Lib.hid hf
 have HO := Lib.hid hO
 have HM := Lib.hid hm
 have HR := Lib.hid hr
 clear hO hm hr hf
 go_wp2
 go_ret
 exact ⟨HO.out, _, _, _, rfl, HM.out, HR.out, HF.out⟩
theorem clone_any (A : Option Addr) (n c B : Nat) (zs : List ByteArray) (w : World) (hn : zs.length = n) (hN : n ≤ 1000) (hA : Row w B A (strs zs)) (hc : A = none → n = 0 ∧ c = c) :
  Calls Tryz.prog 59 #[.slice A n c] w fun e w' => Only [] w w' ∧ ∃ V, e = .returned V ∧ w'.ownsRow w.heap.size 9 1 V n (strs zs) := by
 cases A with
 | none =>
  obtain ⟨h0, -⟩ := hc rfl
  subst h0
  have hz : zs = [] := List.eq_nil_of_length_eq_zero hn
  subst hz
  have h : Calls Tryz.prog 59 #[.slice none 0 c] w _ := Any.slices_Clone_string_nil Tryz.laysClone 0 c w
  exact h.mono fun e w' ⟨h1, h2⟩ => by
   subst h2
   exact ⟨Only.refl _ _, _, h1, rfl, .inl ⟨rfl, rfl⟩⟩
 | some a =>
  rcases hA with h | ⟨b, off, ha, hb, hw, hcell⟩
  ·have hz : zs = [] := by simpa [strs] using h
   subst hz
   have h0 : n = 0 := hn.symm
   subst h0
   have h : Calls Tryz.prog 59 #[.slice (some a) 0 c] w _ := Any.slices_Clone_string_zero Tryz.laysClone a c w
   exact h.mono fun e w' ⟨v', h1, h2, _, h4⟩ => ⟨Only.of_below h4 [], v', h1, h2⟩
  ·obtain rfl := Option.some.inj ha
   have h : Calls Tryz.prog 59 #[.slice (some ⟨b, off, none⟩) n c] w _ := Any.slices_Clone_string Tryz.laysClone b off n c zs w (by omega) (by omega) (fun j hj => hcell j _ (by
    rw [strs, List.getElem?_map, List.getD_eq_getElem?_getD, List.getElem?_eq_getElem hj]
    rfl))
   rw [List.take_of_length_le (by omega)] at h
   exact h.mono fun e w' ⟨v', h1, h2, _, h4⟩ => ⟨Only.of_below h4 [], v', h1, h2⟩
set_option maxHeartbeats 2000000 in
theorem put_new (A : Option Addr) (n c B : Nat) (zs : List ByteArray) (s : ByteArray) (w : World) (hn : zs.length = n) (hN : n ≤ 500) (hz : ∀ z ∈ zs, z.size ≤ 9223372036854775807) (hs : s.size ≤ 9223372036854775807) (hA : Row w B A (strs zs)) (hc : A = none → n = 0 ∧ c = c) (hT : UTabs w) :
  Calls Tryz.prog 118 #[.slice A n c, .string s] w fun e w' => Only [] w w' ∧ ∃ A' m c', e = .returned (.slice A' m c') ∧ (sortB (zs ++ [s])).length = m ∧ Row w' w'.heap.size A' (strs (sortB (zs ++ [s]))) ∧ ∀ b, A' = some b → w.heap.size ≤ b.block := by
 obtain ⟨i0, hi, hz0, hz1, hz2⟩ := info_parts tinfo_string
 have HC := Lib.hid (clone_any A n c B zs w hn (by omega) hA hc)
 have HMK := Lib.hid (fun A' c' B' w' hA' (h : Only [] w w') => make_new A' (n + 1) c' B' (zs ++ [s]) w' (by rw [List.length_append, hn]; rfl) (by omega) (fun z hz' => by
  rcases List.mem_append.1 hz' with h | h
  ·exact hz z h
  ·rw [List.mem_singleton] at h; subst h; exact hs) hA' (hT.only h))
 have hlen : (strs zs).length = n := by rw [strs, List.length_map, hn]
 clear hn hz hs hA hT
 go_enter Tryz.func118, Tryz.ntmps118
 go_wp2_with fail
 refine (HC.out).mono ?_
 rintro e w1 ⟨hO1, V, rfl, hown⟩
 have hw1 := hO1.size
 have HO1 := Lib.hid hO1
 have HOWN := Lib.hid hown
 clear hO1 hown
 go_wp2_with (at_builtin; refine wpList_append_row _ rfl (.tmp 6) (.tmp 8) _ rfl w.heap.size 9 i0 _ 1 16 Tryz.underlying22 hi hz0 hz1 hz2 rfl (by omega) _ n (strs zs) rfl (own_only HOWN.out ((Only.refl [] _).alloc _) (by simp)) (w1.heap.size + 1) (some ⟨w1.heap.size, 0, none⟩) 1 1 [.string s] rfl rfl (row_lit w1 9 #[.string s]) (by simp [Value.oneCell']) (by unfold maxLen; omega) (by omega) (by simp; omega) ?_; intro v3 w3 hown3 hgrow hat)
 have HO3 := Lib.hid ((HO1.out.alloc (.cells #[.string s] 9)).step (only_grown hgrow) (own_new HOWN.out))
 rw [show strs zs ++ [.string s] = strs (zs ++ [s]) by simp [strs]] at hown3
 obtain ⟨A3, c3, rfl, -, -, -, hrow3⟩ := own_row hown3
 have HM3 := Lib.hid (HMK.out A3 c3 _ w3 hrow3 HO3.out)
 clear hown3 hgrow hat hrow3
 go_wp2_with fail
 refine (HM3.out).mono ?_
 rintro e w4 ⟨hO4, A', m, c', rfl, hm, hr, hf⟩
 have HF := Lib.hid (fun b hb => Nat.le_trans HO3.out.size (hf b hb))
 have HO4 := Lib.hid (HO3.out.trans hO4)
 have HM := Lib.hid hm
 have HR := Lib.hid hr
 clear hO4 hm hr hf
 go_wp2
 go_ret
 exact ⟨HO4.out, _, _, _, rfl, HM.out, HR.out, HF.out⟩
end Go.Proofs.YtjhomlnlmpdklaaGreatDoor

set_option linter.unusedVariables false
set_option linter.unusedSimpArgs false
namespace Go.Proofs.YtjhomlnlmpdklaaGreatDoor
open Go.RowKit
theorem wpList_store_blk {P : Program} {ops : Array Oper} {rest : List Oper} {op : Oper} {a : Act} {w : World} {Q : Exit → Act → World → Prop} (hgd : op.guard = none) (ty : TypeId) (x y : Operand) (ho : op.op = .store ty x y)
  (g : Nat) (t : TypeId) (cs cells : Array Value) (hx : a.eval x = .pointer (some ⟨g, 0, none⟩)) (hy : a.eval y = .agg cells)
  (hb : Blk w g t cs) (hl : cells.size = cs.size) (hi : (P.info? ty).map (·.size) = some cells.size) (h1 : cells.all (·.oneCell') = true)
  (h : ∀ w', Blk w' g t cells → Only [g] w w' → wpList P ops Q rest (a.put op.dst undef) w') : wpList P ops Q (op :: rest) a w :=
 wpList_store_mid hgd ty x y ho g 0 cells hx hy (by rw [hl]; exact hb.there) hi h1 (h _ (by have := hb.putAll cells.toList (by simpa using hl); simpa using this) ((Only.refl [g] w).putAll (fun _ => by simp) _))
end Go.Proofs.YtjhomlnlmpdklaaGreatDoor

set_option linter.unusedVariables false
set_option linter.unusedSimpArgs false
namespace Go.Proofs.YtjhomlnlmpdklaaGreatDoor
open Go.RowKit
theorem own_two {w : World} {base base' : Nat} {e e' : TypeId} {size size' : Nat} {v v' : Value} {n n' : Nat} {xs xs' : List Value} (h : w.ownsRow base e size v n xs) (h' : w.ownsRow base' e' size' v' n' xs') (hne : e ≠ e') :
  ∀ g, v.ownBlock = some g → g ∉ v'.ownBlock.toList := fun g hg hm => by
 obtain ⟨cur, hb⟩ := own_blk h hg
 exact own_apart h' hb (Ne.symm hne) hm
theorem own_off {w : World} {base : Nat} {e : TypeId} {size : Nat} {v : Value} {n : Nat} {xs : List Value} (h : w.ownsRow base e size v n xs) {b : Nat} (hb : b < base) : b ∉ v.ownBlock.toList := fun hm => by
 cases hv : v.ownBlock with
 | none => rw [hv] at hm; cases hm
 | some g =>
  rw [hv] at hm
  simp at hm
  subst hm
  have := (h.lt b hv).1
  omega
theorem own_lower {w : World} {base base' : Nat} {e : TypeId} {size : Nat} {v : Value} {n : Nat} {xs : List Value} (h : w.ownsRow base e size v n xs) (hb : base' ≤ base) : w.ownsRow base' e size v n xs := by
 obtain ⟨hl, hv⟩ := h
 refine ⟨hl, ?_⟩
 rcases hv with hv | ⟨g, cap, cur, rfl, h1, rest⟩
 ·exact .inl hv
 ·exact .inr ⟨g, cap, cur, rfl, Nat.le_trans hb h1, rest⟩
end Go.Proofs.YtjhomlnlmpdklaaGreatDoor
