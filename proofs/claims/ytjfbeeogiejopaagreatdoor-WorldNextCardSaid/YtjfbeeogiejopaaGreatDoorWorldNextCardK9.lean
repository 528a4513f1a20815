/- Parts. -/
import Derived.Shelf.Slices.Turned
import Derived.Ground.Names2Prog
import Derived.Shelf.Slices.Clone
import Derived.Test.YtjfbeeogiejopaaGreatDoorWorldNextCardK8
set_option maxRecDepth 10000
set_option maxHeartbeats 16000000
set_option linter.unusedVariables false
set_option linter.unusedSimpArgs false
namespace Go.Proofs.YtjfbeeogiejopaaGreatDoor
open Go.RowKit
open Go.Lib hiding intOf
attribute [local go_sem ↓] Go.wp_at_zero Go.wp_at_succ
theorem istab_any (A : Option Addr) (n c B : Nat) (t : List ByteArray) (w : World) (hn : t.length = n) (hnm : n ≤ 9223372036854775806) (hz : ∀ z ∈ t, z.size ≤ 9223372036854775807) (hA : Row w B A (strs t)) (hT : UTabs w) :
  Calls Tryz.prog 103 #[.slice A n c] w fun e w' => e = .returned (.bool (tabB t)) ∧ Only [] w w' := by
 have HIS := Hd (fun (k : Nat) z w' (h : Only [] w w') (hz' : t[k]? = some z) => is_any z w' (hz z (List.mem_of_getElem? hz')) (hT.only h));have HLS := Hd (fun (k j : Nat) y z w' (h : Only [] w w') (hy : t[j]? = some y) (hz' : t[k]? = some z) => less_any y z w' (hz y (List.mem_of_getElem? hy)) (hz z (List.mem_of_getElem? hz')) (hT.only h));have HN := Hd hn;have HROW := Hd hA;clear hn hz hA hT;go_enter Tryz.func103, Tryz.ntmps103;go_wp2_with fail
 go_loopw [7] (fun iv wr => ∃ (k : Nat), iv = .int .i64 k ∧ k ≤ n ∧ Hid (∀ (j : Nat) x, j < k → t[j]? = some x → isName x = true) ∧ Hid (∀ (j : Nat) x y, j + 1 < k → t[j]? = some x → t[j + 1]? = some y → lessB x y = true) ∧ Hid (Only [] w wr)) (fun iv _ => n - (intOf iv).toNat)
 case atStart => exact ⟨0, rfl, by omega, Hd (fun j x h => by omega), Hd (fun j x y h => by omega), Hd (Only.refl [] w)⟩
 case round =>
  obtain ⟨k, rfl, hk, HNM, HLE, HO⟩ := hrel
  by_cases hlt : k < n
  ·have h01 : (k : Int) < (n : Int) := by omega
   have hk0 : (0 : Int) ≤ (k : Int) := Int.natCast_nonneg _;have hwk : IntKind.i64.wrap ((k : Int) + 1) = (k : Int) + 1 := IntWalk.i64_in _ (by omega);obtain ⟨b, off, rfl, hbB, hbw, hcell⟩ := HROW.out.open_ (k := k) (by rw [strs, List.length_map, HN.out]; exact hlt);obtain ⟨l, hl⟩ : ∃ l, t[k]? = some l := ⟨_, List.getElem?_eq_getElem (by rw [HN.out]; exact hlt)⟩;have HUP := Hd (fun (w' : World) (h : Only [] w w') (j : Nat) (x : ByteArray) (hx : t[j]? = some x) => ((h.cell (p := ⟨b, off + j, none⟩) hbw (by simp)).trans (hcell j _ (by rw [strs, List.getElem?_map, hx]; rfl)) : w'.cell? ⟨b, off + j, none⟩ = some (.string x)));have hck := HUP.out wr HO.out k l hl;have hck' : k = 0 → wr.cell? ⟨b, off, none⟩ = some (.string l) := fun h => by subst h; exact hck
   have HI := Hd (HIS.out k l wr HO.out hl);have HLK := Hd hl;obtain ⟨v, hv⟩ : ∃ v, v = isName l := ⟨_, rfl⟩;rw [← hv] at HI;have HV := Hd hv;have HCK := Hd hck';clear hcell hl hv hck'
   cases v with
   | false =>
    have HF : Hid (tabB t = false) := Hd (tab_bad1 HLK.out HV.out.symm);go_wp2_with fail
    refine (HI.out).mono ?_;rintro e w2 ⟨rfl, hO2⟩;have HO2 := Hd (HO.out.trans hO2);clear hO2;go_wp2
    go_ret
    exact ⟨by rw [HF.out]; rfl, HO2.out⟩
   | true =>
    have HNM2 : Hid (∀ (j : Nat) x, j < k + 1 → t[j]? = some x → isName x = true) := Hd (fun j x hj hx => by
     by_cases h : j < k
     ·exact HNM.out j x h hx
     ·obtain rfl : j = k := by omega
      rw [HLK.out] at hx;obtain rfl := Option.some.inj hx;exact HV.out.symm)
    by_cases hk00 : k = 0
    ·have hck0 := HCK.out hk00;subst hk00;have HLE2 : Hid (∀ (j : Nat) x y, j + 1 < 0 + 1 → t[j]? = some x → t[j + 1]? = some y → lessB x y = true) := Hd (fun j x y h => by omega);go_wp2_with fail
     refine (HI.out).mono ?_;rintro e w2 ⟨rfl, hO2⟩;have HO2 := Hd (HO.out.trans hO2);clear hO2;go_wp2
     go_roundw
     case rel => exact ⟨0 + 1, by first | rfl | go_num, by omega, HNM2, HLE2, HO2⟩
     case measure => simp [intOf]; omega
    ·obtain ⟨j, hj⟩ : ∃ j, k = j + 1 := ⟨k - 1, by omega⟩;have hkp : (0 : Int) < (k : Int) := by omega
     have hwj : IntKind.i64.wrap ((k : Int) - 1) = (j : Int) := by rw [IntWalk.i64_in _ (by omega)]; omega
     have hj0 : (0 : Int) ≤ (j : Int) := Int.natCast_nonneg _;have hj1 : (j : Int) < (n : Int) := by omega
     obtain ⟨y, hy⟩ : ∃ y, t[j]? = some y := ⟨_, List.getElem?_eq_getElem (by rw [HN.out]; omega)⟩;have HJ := Hd hj;have HY := Hd hy;have HLS1 := Hd (fun w' h => HLS.out k j y l w' h hy HLK.out);obtain ⟨u, hu⟩ : ∃ u, u = lessB y l := ⟨_, rfl⟩;have hu2 : u = lessL (runesL (by_ y)) (runesL (by_ l)) := hu;rw [← hu2] at HLS1;have HU := Hd hu;clear hj hy hu hu2;go_wp2_with fail
     refine (HI.out).mono ?_;rintro e w2 ⟨rfl, hO2⟩;have HO2 := Hd (HO.out.trans hO2);have hcj := HUP.out w2 HO2.out j y HY.out;clear hO2;go_wp2_with fail
     refine (HLS1.out _ HO2.out).mono ?_;rintro e w3 ⟨rfl, hO3⟩;have HO3 := Hd (HO2.out.trans hO3);clear hO3 hcj
     cases u with
     | false =>
      have HF : Hid (tabB t = false) := Hd (tab_bad2 HY.out (by rw [← HJ.out]; exact HLK.out) HU.out.symm);go_wp2
      go_ret
      exact ⟨by rw [HF.out]; rfl, HO3.out⟩
     | true =>
      have HLE2 : Hid (∀ (i : Nat) x z, i + 1 < k + 1 → t[i]? = some x → t[i + 1]? = some z → lessB x z = true) := Hd (fun i x z hi hx hz => by
       by_cases h : i + 1 < k
       ·exact HLE.out i x z h hx hz
       ·obtain rfl : i = j := by have := HJ.out; omega
        rw [HY.out] at hx;obtain rfl := Option.some.inj hx;rw [← HJ.out, HLK.out] at hz;obtain rfl := Option.some.inj hz;exact HU.out.symm)
      go_wp2
      go_roundw
      case rel => exact ⟨k + 1, by go_num, by omega, HNM2, HLE2, HO3⟩
      case measure => simp [intOf]; omega
  ·have hkn : k = n := by omega
   subst hkn;have hd : decide ((k : Int) < (k : Int)) = false := by simp
   have HF : Hid (tabB t = true) := Hd ((tab_iff t).2 ⟨fun j x hx => HNM.out j x (by rw [← HN.out]; exact (List.getElem?_eq_some_iff.1 hx).1) hx, fun j x y hx hy => HLE.out j x y (by rw [← HN.out]; exact (List.getElem?_eq_some_iff.1 hy).1) hx hy⟩);go_wp2
   go_ret
   exact ⟨by rw [HF.out]; rfl, HO.out⟩
end Go.Proofs.YtjfbeeogiejopaaGreatDoor
namespace Go.Proofs
open Go.Shelf
def Tryz.laysIndex_ren : Go.Shelf.Ren := ⟨fun | 109 => 166 | n => n, fun | 31 => 22 | 9 => 9 | 3 => 3 | 0 => 0 | 4 => 4 | n => n, fun | n => n⟩
theorem Tryz.laysIndex : Go.Proofs.Lays.n109 Tryz.prog Tryz.laysIndex_ren := {
 mixed := by kernel_rfl
 f109 := Tryz.func166.trans (congrArg some (by kernel_rfl))
 t0 := Tryz.underlying0
 a0 := Tryz.isAgg0
 z0 := Tryz.sizeOf0
 v0 := Tryz.zeroValue0
 t3 := Tryz.underlying3
 a3 := Tryz.isAgg3
 z3 := Tryz.sizeOf3
 v3 := Tryz.zeroValue3
 t4 := Tryz.underlying4
 a4 := Tryz.isAgg4
 z4 := Tryz.sizeOf4
 v4 := Tryz.zeroValue4
 t9 := Tryz.underlying9
 a9 := Tryz.isAgg9
 z9 := Tryz.sizeOf9
 v9 := Tryz.zeroValue9
 t31 := Tryz.underlying22
 a31 := Tryz.isAgg22
 z31 := Tryz.sizeOf22
 v31 := Tryz.zeroValue22 }
def Tryz.laysClone_ren : Go.Shelf.Ren := ⟨fun | 16 => 180 | n => n, fun | 24 => 22 | 9 => 9 | 4 => 4 | n => n, fun | n => n⟩
theorem Tryz.laysClone : Go.Proofs.Lays2.n16 Tryz.prog Tryz.laysClone_ren := {
 mixed := by kernel_rfl
 f16 := Tryz.func180.trans (congrArg some (by kernel_rfl))
 t4 := Tryz.underlying4
 a4 := Tryz.isAgg4
 z4 := Tryz.sizeOf4
 v4 := Tryz.zeroValue4
 t9 := Tryz.underlying9
 a9 := Tryz.isAgg9
 z9 := Tryz.sizeOf9
 v9 := Tryz.zeroValue9
 t24 := Tryz.underlying22
 a24 := Tryz.isAgg22
 z24 := Tryz.sizeOf22
 v24 := Tryz.zeroValue22
 i9 := by kernel_rfl }
end Go.Proofs
namespace Go.Proofs.YtjfbeeogiejopaaGreatDoor
open Go.RowKit
open Go.Lib hiding intOf
attribute [local go_sem ↓] Go.wp_at_zero Go.wp_at_succ
theorem index_any (A : Option Addr) (n c B : Nat) (t : List ByteArray) (s : ByteArray) (w : World) (hn : t.length = n) (hnm : n ≤ 9223372036854775807) (hA : Row w B A (strs t)) :
  Calls Tryz.prog 166 #[.slice A n c, .string s] w fun e w' => e = .returned (.int .i64 (idxOfS t s)) ∧ w = w' := by
 subst hn;rcases hA with h | ⟨b, off, rfl, hb, hw, hcell⟩
 ·have ht : t = [] := by simpa [strs] using h
  subst ht;have h : Calls Tryz.prog 166 #[.slice A 0 c, .string s] w _ := Any.slices_Index_string_empty Tryz.laysIndex A c s w;exact h.mono fun e w' ⟨h1, h2⟩ => ⟨h1, h2.symm⟩
 ·have h : Calls Tryz.prog 166 #[.slice (some ⟨b, off, none⟩) t.length c, .string s] w _ := Any.slices_Index_string Tryz.laysIndex b off t.length c t s w (Nat.le_refl _) hnm (fun j hj => hcell j _ (by
   rw [strs, List.getElem?_map, List.getD_eq_getElem?_getD, List.getElem?_eq_getElem hj]
   rfl))
  rw [List.take_length] at h;exact h.mono fun e w' ⟨h1, h2⟩ => ⟨h1, h2.symm⟩
theorem find_low (A : Option Addr) (n c B : Nat) (t : List ByteArray) (s : ByteArray) (w : World) (hn : t.length = n) (hnm : n ≤ 9223372036854775807) (hA : Row w B A (strs t)) :
  Calls Tryz.prog 152 #[.slice A n c, .string s] w fun e w' => e = .returned (.tuple #[.int .i64 (max (idxOfS t s) 0), .bool (decide (0 ≤ idxOfS t s))]) ∧ w = w' := by
 have HI := Hd (index_any A n c B t s w hn hnm hA);generalize idxOfS t s = z at *;clear hA hn;go_enter Tryz.func152, Tryz.ntmps152;go_wp2_with fail
 refine (HI.out).mono ?_;rintro e w' ⟨rfl, rfl⟩;go_wp2
 go_ret2
 exact ⟨rfl, rfl⟩
theorem find_any (A : Option Addr) (n c B : Nat) (t : List ByteArray) (s : ByteArray) (w : World) (hn : t.length = n) (hnm : n ≤ 9223372036854775806) (hz : ∀ z ∈ t, z.size ≤ 9223372036854775807) (hA : Row w B A (strs t)) (hT : UTabs w) :
  Calls Tryz.prog 122 #[.slice A n c, .string s] w fun e w' => e = .returned (.tuple #[.int .i64 (max (posB t s) 0), .bool (decide (0 ≤ posB t s))]) ∧ Only [] w w' := by
 have HI := Hd (istab_any A n c B t w hn hnm hz hA hT);have HF := Hd (fun w' (h : Only [] w w') => find_low A n c B t s w' hn (by omega) (hA.only h (by simp)));unfold posB;generalize tabB t = v at *;clear hz hA hT hn
 cases v with
 | false =>
  rw [if_neg (by simp)];go_enter Tryz.func122, Tryz.ntmps122;go_wp2_with fail
  refine (HI.out).mono ?_;rintro e w1 ⟨rfl, hO⟩;have HO := Hd hO;clear hO;go_wp2
  go_ret2
  exact ⟨rfl, HO.out⟩
 | true =>
  rw [if_pos rfl];generalize idxOfS t s = z at *;go_enter Tryz.func122, Tryz.ntmps122;go_wp2_with fail
  refine (HI.out).mono ?_;rintro e w1 ⟨rfl, hO⟩;have HO := Hd hO;clear hO;go_wp2_with fail
  refine (HF.out _ HO.out).mono ?_;rintro e w2 ⟨rfl, rfl⟩;go_wp2
  go_ret2
  exact ⟨rfl, HO.out⟩
theorem make_new (A : Option Addr) (n c B : Nat) (zs : List ByteArray) (w : World) (hn : zs.length = n) (hN : n ≤ 1000) (hz : ∀ z ∈ zs, z.size ≤ 9223372036854775807) (hA : Row w B A (strs zs)) (hT : UTabs w) :
  Calls Tryz.prog 179 #[.slice A n c] w fun e w' => Only [] w w' ∧ ∃ A' m c', e = .returned (.slice A' m c') ∧ (sortB zs).length = m ∧ Row w' w'.heap.size A' (strs (sortB zs)) ∧ ∀ b, A' = some b → w.heap.size ≤ b.block := by
 have HS := Hd (sorted_new A n c B zs w hn hN hz hA hT);clear hn hN hz hA hT;go_enter Tryz.func179, Tryz.ntmps179;go_wp2_with fail
 refine (HS.out).mono ?_;rintro e w1 ⟨hO, A', m, c', rfl, hm, hr, hf⟩;have HF := Hd hf;have HO := Hd hO;have HM := Hd hm;have HR := Hd hr;clear hO hm hr hf;go_wp2
 go_ret
 exact ⟨HO.out, _, _, _, rfl, HM.out, HR.out, HF.out⟩
theorem clone_any (A : Option Addr) (n c B : Nat) (zs : List ByteArray) (w : World) (hn : zs.length = n) (hN : n ≤ 1000) (hA : Row w B A (strs zs)) (hc : A = none → n = 0 ∧ c = c) :
  Calls Tryz.prog 180 #[.slice A n c] w fun e w' => Only [] w w' ∧ ∃ V, e = .returned V ∧ w'.ownsRow w.heap.size 9 1 V n (strs zs) := by
 cases A with
 | none =>
  obtain ⟨h0, -⟩ := hc rfl;subst h0;have hz : zs = [] := List.eq_nil_of_length_eq_zero hn;subst hz;have h : Calls Tryz.prog 180 #[.slice none 0 c] w _ := Any.slices_Clone_string_nil Tryz.laysClone 0 c w;exact h.mono fun e w' ⟨h1, h2⟩ => by
   subst h2;exact ⟨Only.refl _ _, _, h1, rfl, .inl ⟨rfl, rfl⟩⟩
 | some a =>
  rcases hA with h | ⟨b, off, ha, hb, hw, hcell⟩
  ·have hz : zs = [] := by simpa [strs] using h
   subst hz;have h0 : n = 0 := hn.symm;subst h0;have h : Calls Tryz.prog 180 #[.slice (some a) 0 c] w _ := Any.slices_Clone_string_zero Tryz.laysClone a c w;exact h.mono fun e w' ⟨v', h1, h2, _, h4⟩ => ⟨Only.of_below h4 [], v', h1, h2⟩
  ·obtain rfl := Option.some.inj ha;have h : Calls Tryz.prog 180 #[.slice (some ⟨b, off, none⟩) n c] w _ := Any.slices_Clone_string Tryz.laysClone b off n c zs w (by omega) (by omega) (fun j hj => hcell j _ (by
    rw [strs, List.getElem?_map, List.getD_eq_getElem?_getD, List.getElem?_eq_getElem hj]
    rfl))
   rw [List.take_of_length_le (by omega)] at h;exact h.mono fun e w' ⟨v', h1, h2, _, h4⟩ => ⟨Only.of_below h4 [], v', h1, h2⟩
theorem put_new (A : Option Addr) (n c B : Nat) (zs : List ByteArray) (s : ByteArray) (w : World) (hn : zs.length = n) (hN : n ≤ 500) (hz : ∀ z ∈ zs, z.size ≤ 9223372036854775807) (hs : s.size ≤ 9223372036854775807) (hA : Row w B A (strs zs)) (hc : A = none → n = 0 ∧ c = c) (hT : UTabs w) :
  Calls Tryz.prog 173 #[.slice A n c, .string s] w fun e w' => Only [] w w' ∧ ∃ A' m c', e = .returned (.slice A' m c') ∧ (sortB (zs ++ [s])).length = m ∧ Row w' w'.heap.size A' (strs (sortB (zs ++ [s]))) ∧ ∀ b, A' = some b → w.heap.size ≤ b.block := by
 obtain ⟨i0, hi, hz0, hz1, hz2⟩ := info_parts tinfo_string;have HC := Hd (clone_any A n c B zs w hn (by omega) hA hc);have HMK := Hd (fun A' c' B' w' hA' (h : Only [] w w') => make_new A' (n + 1) c' B' (zs ++ [s]) w' (by rw [List.length_append, hn]; rfl) (by omega) (fun z hz' => by
  rcases List.mem_append.1 hz' with h | h
  ·exact hz z h
  ·rw [List.mem_singleton] at h; subst h; exact hs) hA' (hT.only h))
 have hlen : (strs zs).length = n := by rw [strs, List.length_map, hn]
 clear hn hz hs hA hT;go_enter Tryz.func173, Tryz.ntmps173;go_wp2_with fail
 refine (HC.out).mono ?_;rintro e w1 ⟨hO1, V, rfl, hown⟩;have hw1 := hO1.size;have HO1 := Hd hO1;have HOWN := Hd hown;clear hO1 hown;go_wp2_with (at_builtin; refine wpList_append_row _ rfl (.tmp 6) (.tmp 8) _ rfl w.heap.size 9 i0 _ 1 16 Tryz.underlying22 hi hz0 hz1 hz2 rfl (by omega) _ n (strs zs) rfl (own_only HOWN.out ((Only.refl [] _).alloc _) (by simp)) (w1.heap.size + 1) (some ⟨w1.heap.size, 0, none⟩) 1 1 [.string s] rfl rfl (row_lit w1 9 #[.string s]) (by simp [Value.oneCell']) (by unfold maxLen; omega) (by omega) (by simp; omega) ?_; intro v3 w3 hown3 hgrow hat)
 have HO3 := Hd ((HO1.out.alloc (.cells #[.string s] 9)).step (only_grown hgrow) (own_new HOWN.out));rw [show strs zs ++ [.string s] = strs (zs ++ [s]) by simp [strs]] at hown3;obtain ⟨A3, c3, rfl, -, -, -, hrow3⟩ := own_row hown3;have HM3 := Hd (HMK.out A3 c3 _ w3 hrow3 HO3.out);clear hown3 hgrow hat hrow3;go_wp2_with fail
 refine (HM3.out).mono ?_;rintro e w4 ⟨hO4, A', m, c', rfl, hm, hr, hf⟩;have HF := Hd (fun b hb => Nat.le_trans HO3.out.size (hf b hb));have HO4 := Hd (HO3.out.trans hO4);have HM := Hd hm;have HR := Hd hr;clear hO4 hm hr hf;go_wp2
 go_ret
 exact ⟨HO4.out, _, _, _, rfl, HM.out, HR.out, HF.out⟩
end Go.Proofs.YtjfbeeogiejopaaGreatDoor
namespace Go.Proofs.YtjfbeeogiejopaaGreatDoor
open Go.RowKit
theorem wpList_store_blk {P : Program} {ops : Array Oper} {rest : List Oper} {op : Oper} {a : Act} {w : World} {Q : Exit → Act → World → Prop} (hgd : op.guard = none) (ty : TypeId) (x y : Operand) (ho : op.op = .store ty x y)
  (g : Nat) (t : TypeId) (cs cells : Array Value) (hx : a.eval x = .pointer (some ⟨g, 0, none⟩)) (hy : a.eval y = .agg cells)
  (hb : Blk w g t cs) (hl : cells.size = cs.size) (hi : (P.info? ty).map (·.size) = some cells.size) (h1 : cells.all (·.oneCell') = true)
  (h : ∀ w', Blk w' g t cells → Only [g] w w' → wpList P ops Q rest (a.put op.dst undef) w') : wpList P ops Q (op :: rest) a w :=
 wpList_store_mid hgd ty x y ho g 0 cells hx hy (by rw [hl]; exact hb.there) hi h1 (h _ (by have := hb.putAll cells.toList (by simpa using hl); simpa using this) ((Only.refl [g] w).putAll (fun _ => by simp) _))
theorem own_two {w : World} {base base' : Nat} {e e' : TypeId} {size size' : Nat} {v v' : Value} {n n' : Nat} {xs xs' : List Value} (h : w.ownsRow base e size v n xs) (h' : w.ownsRow base' e' size' v' n' xs') (hne : e ≠ e') :
  ∀ g, v.ownBlock = some g → g ∉ v'.ownBlock.toList := fun g hg hm => by
 obtain ⟨cur, hb⟩ := own_blk h hg;exact own_apart h' hb (Ne.symm hne) hm
theorem own_off {w : World} {base : Nat} {e : TypeId} {size : Nat} {v : Value} {n : Nat} {xs : List Value} (h : w.ownsRow base e size v n xs) {b : Nat} (hb : b < base) : b ∉ v.ownBlock.toList := fun hm => by
 cases hv : v.ownBlock with
 | none => rw [hv] at hm; cases hm
 | some g =>
  rw [hv] at hm;simp at hm;subst hm;have := (h.lt b hv).1;omega
theorem own_lower {w : World} {base base' : Nat} {e : TypeId} {size : Nat} {v : Value} {n : Nat} {xs : List Value} (h : w.ownsRow base e size v n xs) (hb : base' ≤ base) : w.ownsRow base' e size v n xs := by
 obtain ⟨hl, hv⟩ := h;refine ⟨hl, ?_⟩;rcases hv with hv | ⟨g, cap, cur, rfl, h1, rest⟩
 ·exact .inl hv
 ·exact .inr ⟨g, cap, cur, rfl, Nat.le_trans hb h1, rest⟩
open Go.Lib hiding intOf
attribute [local go_sem ↓] Go.wp_at_zero Go.wp_at_succ
theorem pfate_any (k : Int) (w : World) : Calls Tryz.prog 151 #[.int .i64 k] w fun e w' => e = .returned (.int .i64 (fateE k)) ∧ w = w' := by
 by_cases h1 : k = 4
 ·subst h1;go_enter Tryz.func151, Tryz.ntmps151;go_wp2
  go_ret
  exact ⟨rfl, rfl⟩
 ·have e1 : (k == 4) = false := by simpa using h1
  by_cases h2 : k = 5
  ·subst h2;go_enter Tryz.func151, Tryz.ntmps151;go_wp2
   go_ret
   exact ⟨rfl, rfl⟩
  ·have e2 : (k == 5) = false := by simpa using h2
   have HE : Hid (fateE k = 3) := Hd (by unfold fateE; rw [if_neg h1, if_neg h2]);clear h1 h2;go_enter Tryz.func151, Tryz.ntmps151;go_wp2
   go_ret
   exact ⟨by rw [HE.out]; rfl, rfl⟩
theorem with_any (A : Option Addr) (n c B : Nat) (t : List ByteArray) (s : ByteArray) (w : World) (hn : t.length = n) (hN : n ≤ 500) (hz : ∀ z ∈ t, z.size ≤ 9223372036854775807) (hs : s.size ≤ 9223372036854775807) (hA : Row w B A (strs t)) (hc : A = none → n = 0) (hT : UTabs w) :
  Calls Tryz.prog 165 #[.slice A n c, .string s] w fun e w' => Only [] w w' ∧ ∃ A' m c', e = .returned (.slice A' m c') ∧ (withB t s).length = m ∧ Row w' w'.heap.size A' (strs (withB t s)) ∧ ((A' = A ∧ withB t s = t) ∨ ∀ b, A' = some b → w.heap.size ≤ b.block) := by
 have HF := Hd (find_any A n c B t s w hn (by omega) hz hA hT);have HP := Hd (fun w' (O : Only [] w w') => put_new A n c B t s w' hn hN hz hs (hA.only O (by simp)) (fun h => ⟨hc h, rfl⟩) (hT.only O));have HN := Hd hn;have HA := Hd hA;clear hn hN hz hs hA hc hT
 by_cases h : 0 ≤ posB t s
 ·rw [decide_eq_true h] at HF;have HW : Hid (withB t s = t) := Hd (by unfold withB; rw [if_pos h]);clear h;go_enter Tryz.func165, Tryz.ntmps165;go_wp2_with fail
  refine (HF.out).mono ?_;rintro e w1 ⟨rfl, O1⟩;have HO1 := Hd O1;clear O1;go_wp2
  go_ret
  exact ⟨HO1.out, _, _, _, rfl, by rw [HW.out]; exact HN.out, by rw [HW.out]; exact row_up (HA.out.only HO1.out (by simp)), .inl ⟨rfl, HW.out⟩⟩
 ·rw [decide_eq_false h] at HF;have HW : Hid (withB t s = sortB (t ++ [s])) := Hd (by unfold withB; rw [if_neg h]);clear h;go_enter Tryz.func165, Tryz.ntmps165;go_wp2_with fail
  refine (HF.out).mono ?_;rintro e w1 ⟨rfl, O1⟩;have HO1 := Hd O1;clear O1;go_wp2_with fail
  refine (HP.out _ HO1.out).mono ?_;rintro e w2 ⟨O2, A', m, c', rfl, hm, hr, hf⟩;have HR := Hd (And.intro hm (And.intro hr hf));have HO2 := Hd (HO1.out.trans O2);clear O2 hm hr hf;go_wp2
  go_ret
  exact ⟨HO2.out, _, _, _, rfl, by rw [HW.out]; exact HR.out.1, by rw [HW.out]; exact HR.out.2.1, .inr fun b hb => Nat.le_trans HO1.out.size (HR.out.2.2 b hb)⟩
def kS (s : ByteArray) : Lit := .string s.data.toList
structure Opens (D : DataW Unit) (ps : List Pt) : Prop where
 there : ∀ s i, openI ps s = some i → Maps.has D (kS s) = true ∧ ∀ z, D.atKey (kS s) z = .lit (.int .i64 (i : Int))
 none_ : ∀ s, openI ps s = none → Maps.has D (kS s) = false
def mine (gm b : Nat) (V : Value) (xs : List PtA) : List Nat := gm :: b :: (V.ownBlock.toList ++ xs.flatMap fun x => (x.A.map Addr.block).toList ++ (x.Z.map Addr.block).toList)
structure MkAt (w : World) (base gm : Nat) (m : Mk) (V : Value) (xs : List PtA) (A0 A1 : Option Addr) (c0 c1 b : Nat) (D : DataW Unit) : Prop where
 blk : Blk w gm 162 #[V, .slice A0 m.ss.length c0, .slice A1 m.ks.length c1, .map (some b)]
 gmb : base ≤ gm
 parts : xs.map PtA.p = m.ps
 row : w.ownsRow base 165 5 V m.ps.length (ptC xs)
 keys : ∀ x ∈ xs, w.ownsRow base 9 1 (.slice x.A x.p.ks.length x.c) x.p.ks.length (strs x.p.ks)
 ops : ∀ x ∈ xs, w.ownsRow base 48 4 (.slice x.Z x.p.ops.length x.d) x.p.ops.length (opC x.p.ops)
 apK : xs.Pairwise fun x y => ∀ a, x.A = some a → ∀ a', y.A = some a' → a.block ≠ a'.block
 apO : xs.Pairwise fun x y => ∀ a, x.Z = some a → ∀ a', y.Z = some a' → a.block ≠ a'.block
 t0 : Row w w.heap.size A0 (strs m.ss)
 t1 : Row w w.heap.size A1 (strs m.ks)
 n0 : A0 = none → m.ss.length = 0
 n1 : A1 = none → m.ks.length = 0
 f0 : m.ss ≠ [] → ∀ a, A0 = some a → a.block ∉ mine gm b V xs
 f1 : m.ks ≠ [] → ∀ a, A1 = some a → a.block ∉ mine gm b V xs
 map : w.ownsMap Tryz.prog 9 (plainElem Tryz.prog 3) b m.ps.length D
 mapb : base ≤ b
 opens : Opens D m.ps
theorem row_avoid {S : List Nat} {w w' : World} {B : Nat} {A : Option Addr} {xs : List Value} (h : Row w B A xs) (ho : Only S w w') (ha : xs ≠ [] → ∀ a, A = some a → a.block ∉ S) : Row w' w'.heap.size A xs := by
 rcases h with rfl | ⟨b, off, rfl, h1, h2, hc⟩
 ·exact .inl rfl
 ·cases xs with
  | nil => exact .inl rfl
  | cons u xs =>
   have hn := ha (by simp) _ rfl;have := ho.size;exact .inr ⟨b, off, rfl, by omega, by omega, fun j v hv => (ho.cell (p := ⟨b, off + j, none⟩) (by show b < _; omega) hn).trans (hc j v hv)⟩
theorem row_lt {w : World} {B : Nat} {A : Option Addr} {xs : List Value} (h : Row w B A xs) (hn : xs ≠ []) {a : Addr} (ha : A = some a) : a.block < w.heap.size := by
 rcases h with rfl | ⟨b, off, e, h1, h2, hc⟩
 ·exact absurd rfl hn
 ·rw [ha] at e;obtain rfl := Option.some.inj e
  show b < _
  omega
theorem map_only {S : List Nat} {w w' : World} {k e : TypeId} {b n : Nat} {D : DataW Unit} (h : w.ownsMap Tryz.prog k (plainElem Tryz.prog e) b n D) (ho : Only S w w') (hb : b ∉ S) : w'.ownsMap Tryz.prog k (plainElem Tryz.prog e) b n D := by
 have hlt := h.lt;obtain ⟨es, clock, h1, h2⟩ := h;exact ⟨es, clock, (ho.keeps b hlt hb).trans h1, h2⟩
theorem map_not_blk {w : World} {k e : TypeId} {b n g : Nat} {t : TypeId} {cs : Array Value} {D : DataW Unit} (h : w.ownsMap Tryz.prog k (plainElem Tryz.prog e) b n D) (hb : Blk w g t cs) : g ≠ b := by
 rintro rfl;obtain ⟨es, clock, h1, -⟩ := h;rw [show w.heap[g]? = _ from hb] at h1
 cases h1
theorem map_not_own {w : World} {k e : TypeId} {b n : Nat} {D : DataW Unit} (h : w.ownsMap Tryz.prog k (plainElem Tryz.prog e) b n D) {base : Nat} {t : TypeId} {sz m : Nat} {v : Value} {xs : List Value} (hr : w.ownsRow base t sz v m xs) : b ∉ v.ownBlock.toList := by
 intro hm
 cases hv : v.ownBlock with
 | none => rw [hv] at hm; cases hm
 | some g =>
  rw [hv] at hm;obtain ⟨cur, hb⟩ := own_blk hr hv;have := map_not_blk h hb;simp at hm;omega
theorem MkAt.same {w w' : World} {base gm : Nat} {m : Mk} {V : Value} {xs : List PtA} {A0 A1 : Option Addr} {c0 c1 b : Nat} {D : DataW Unit} (h : MkAt w base gm m V xs A0 A1 c0 c1 b D) (ho : Only [] w w') : MkAt w' base gm m V xs A0 A1 c0 c1 b D where
 blk := ho.blk h.blk (by simp)
 gmb := h.gmb
 parts := h.parts
 row := own_only h.row ho (by simp)
 keys := fun x hx => own_only (h.keys x hx) ho (by simp)
 ops := fun x hx => own_only (h.ops x hx) ho (by simp)
 apK := h.apK
 apO := h.apO
 t0 := row_avoid h.t0 ho (by simp)
 t1 := row_avoid h.t1 ho (by simp)
 n0 := h.n0
 n1 := h.n1
 f0 := h.f0
 f1 := h.f1
 map := map_only h.map ho (by simp)
 mapb := h.mapb
 opens := h.opens
theorem mine_lt {w : World} {base gm : Nat} {m : Mk} {V : Value} {xs : List PtA} {A0 A1 : Option Addr} {c0 c1 b : Nat} {D : DataW Unit} (h : MkAt w base gm m V xs A0 A1 c0 c1 b D) : ∀ i ∈ mine gm b V xs, i < w.heap.size := by
 intro i hi;unfold mine at hi;simp only [List.mem_cons, List.mem_append, List.mem_flatMap] at hi;rcases hi with rfl | rfl | hi | ⟨x, hx, hi | hi⟩
 ·exact h.blk.lt
 ·exact h.map.lt
 ·exact own_lt h.row hi
 ·have := own_lt (h.keys x hx) (g := i) (by
   cases hA : x.A with
   | none => rw [hA] at hi; cases hi
   | some a => rw [hA] at hi; simpa [Value.ownBlock] using hi)
  exact this
 ·have := own_lt (h.ops x hx) (g := i) (by
   cases hA : x.Z with
   | none => rw [hA] at hi; cases hi
   | some a => rw [hA] at hi; simpa [Value.ownBlock] using hi)
  exact this
theorem mine_ge {w : World} {base gm : Nat} {m : Mk} {V : Value} {xs : List PtA} {A0 A1 : Option Addr} {c0 c1 b : Nat} {D : DataW Unit} (h : MkAt w base gm m V xs A0 A1 c0 c1 b D) : ∀ i ∈ mine gm b V xs, base ≤ i := by
 intro i hi;unfold mine at hi;simp only [List.mem_cons, List.mem_append, List.mem_flatMap] at hi;rcases hi with rfl | rfl | hi | ⟨x, hx, hi | hi⟩
 ·exact h.gmb
 ·exact h.mapb
 ·exact (h.row.lt i (by simpa using hi)).1
 ·exact ((h.keys x hx).lt i (by
   cases hA : x.A with
   | none => rw [hA] at hi; cases hi
   | some a => rw [hA] at hi; simp at hi; simp [Value.ownBlock, hi])).1
 ·exact ((h.ops x hx).lt i (by
   cases hA : x.Z with
   | none => rw [hA] at hi; cases hi
   | some a => rw [hA] at hi; simp at hi; simp [Value.ownBlock, hi])).1
theorem strs_ne {l : List ByteArray} : strs l ≠ [] ↔ l ≠ [] := by cases l <;> simp [strs]
theorem row_of_none {w : World} {B : Nat} {xs : List ByteArray} {A : Option Addr} (h : Row w B A (strs xs)) (hA : A = none) : xs.length = 0 := by
 subst hA;rcases h with h | ⟨b, off, e, _⟩
 ·cases xs with
  | nil => rfl
  | cons x l => simp [strs] at h
 ·cases e
theorem own_val {A : Option Addr} {n c g : Nat} : (Value.slice A n c).ownBlock = some g ↔ ∃ a, A = some a ∧ a.block = g := by
 cases A <;> simp [Value.ownBlock]
structure MkB (m : Mk) : Prop where
 zs : ∀ z ∈ m.ss, z.size ≤ 65537
 zk : ∀ z ∈ m.ks, z.size ≤ 65537
 np : m.ps.length ≤ 40
 ns : m.ss.length ≤ 20
 nk : m.ks.length ≤ 40
 uni : ∀ (i j : Nat) (p q : Pt), m.ps[i]? = some p → m.ps[j]? = some q → p.s = q.s → p.f = 0 → q.f = 0 → i = j
 no : ∀ p ∈ m.ps, p.ops.length ≤ 20 ∧ p.ks.length = p.ops.length ∧ p.s.size ≤ 65537 ∧ (∀ z ∈ p.ks, z.size ≤ 65537)
theorem info_part : (Tryz.prog.info? 165).map (fun i => (i.zero, i.size, i.bytes)) = some (some (.agg #[.string ⟨#[]⟩, .int .i64 0, .int .i64 0, .slice none 0 0, .slice none 0 0]), 5, 80) := by kernel_rfl
theorem law_str : Go.Maps.Keyed Tryz.prog 9 := Go.Maps.string_keyed Tryz.underlying9
theorem opens_begin {D : DataW Unit} {ps : List Pt} {s : ByteArray} {ln : Int} (h : Opens D ps) (hD : Maps.IsMap D) (hn : openI ps s = none) : Opens (D.put (kS s) (.lit (.int .i64 (ps.length : Int)))) (ps ++ [⟨s, 0, ln, [], []⟩]) := by
 have hk : WideAt.IsKeyLit (kS s) := by unfold kS; trivial
 have e1 : openI (ps ++ [⟨s, 0, ln, [], []⟩]) s = some ps.length := by
  unfold openI at hn ⊢;rw [List.findIdx?_append, hn];simp [List.findIdx?_cons]
 have e2 : ∀ r, r ≠ s → openI (ps ++ [⟨s, 0, ln, [], []⟩]) r = openI ps r := fun r hr => by
  unfold openI;rw [List.findIdx?_append];have : ([⟨s, 0, ln, [], []⟩] : List Pt).findIdx? (fun p => decide (p.s = r) && decide (p.f = 0)) = none := by simp [List.findIdx?_cons, Ne.symm hr]
  rw [this]
  cases List.findIdx? (fun p => decide (p.s = r) && decide (p.f = 0)) ps <;> rfl
 have hkn : ∀ r, r ≠ s → kS r ≠ kS s := fun r hr e => hr (by
  unfold kS at e;injection e with e;obtain ⟨⟨r⟩⟩ := r;obtain ⟨⟨s⟩⟩ := s
  simpa using e)
 refine ⟨fun r i hi => ?_, fun r hi => ?_⟩
 ·by_cases hr : r = s
  ·subst hr;rw [e1] at hi;obtain rfl := Option.some.inj hi;exact ⟨Maps.has_put_same hD hk _, fun z => Maps.atKey_put_same hD hk _ z⟩
  ·rw [e2 r hr] at hi;rw [Maps.has_put_other (hkn r hr)];exact ⟨(h.there r i hi).1, fun z => by rw [Maps.atKey_put_other (hkn r hr)]; exact (h.there r i hi).2 z⟩
 ·by_cases hr : r = s
  ·subst hr;rw [e1] at hi
   cases hi
  ·rw [e2 r hr] at hi;rw [Maps.has_put_other (hkn r hr)];exact h.none_ r hi
theorem wp_mapUpdate_own {H : Type} {P : Program} {o : Oper} {a : Act} {w : World} {K' : Act → World → Prop} {Q : Exit → Act → World → Prop} (m x v : Operand) (t : TypeId) (hop : o.op = Op.mapUpdate t m x v)
  (k e : TypeId) (K : Go.Maps.Keyed P k) (ht : P.underlying t = some (.map k e)) (R : Value → Option (DataW H × List MemPlace)) (b n : Nat) (D : DataW H)
  (hm : a.eval m = .map (some b)) (hown : w.ownsMap P k R b n D) (hn : n < maxLen) (key val : Value) (kl : Lit) (hx : a.eval x = key) (hv : a.eval v = val) (hkey : keyOf P k key = some kl)
  (d : DataW H) (ps : List MemPlace) (hval : R val = some (d, ps)) (hK : ∀ w', w'.ownsMap P k R b (n + 1) (D.put kl d) → w.grownBy w' (some b) → K' (a.put o.dst undef) w') : o.wp P a w K' Q := by
 obtain ⟨w', hrun, r1, r2⟩ := hown.update K ht hn hkey hval;unfold Oper.wp;simp [execOp, hop, hm, hx, hv, hrun, Result.andThen];exact hK w' r1 r2
theorem wp_delete_own {H : Type} {P : Program} {o : Oper} {a : Act} {w : World} {K' : Act → World → Prop} {Q : Exit → Act → World → Prop} (m x : Operand) (t k : TypeId) (hop : o.op = Op.call { callee := Callee.builtin Builtin.delete, args := #[m, x], argTypes := #[t, k] })
  (e : TypeId) (K : Go.Maps.Keyed P k) (ht : P.underlying t = some (.map k e)) (R : Value → Option (DataW H × List MemPlace)) (b n : Nat) (D : DataW H)
  (hm : a.eval m = .map (some b)) (hown : w.ownsMap P k R b n D) (key : Value) (kl : Lit) (hx : a.eval x = key) (hkey : keyOf P k key = some kl)
  (hK : ∀ w', w'.ownsMap P k R b n (D.del kl) → w.mapTurned w' b → K' (a.put o.dst (.tuple #[])) w') : o.wp P a w K' Q := by
 obtain ⟨w', hrun, r1, r2⟩ := hown.drop K ht hkey o.type;unfold Oper.wp;simp [execOp, hop, resolve, invoke, builtin, hm, hx, hrun, Result.andThen];exact hK w' r1 r2
theorem mk_begun {w2 w6 : World} {base gm : Nat} {m : Mk} {V V3 : Value} {xs : List PtA} {A0 A1 A' : Option Addr} {c0 c1 b k' c' H : Nat} {D : DataW Unit} {s : ByteArray} {ln : Int} (h : MkAt w2 base gm m V xs A0 A1 c0 c1 b D) (ho : Only (gm :: b :: V.ownBlock.toList) w2 w6)
  (hblk : Blk w6 gm 162 #[V3, .slice A' k' c', .slice A1 m.ks.length c1, .map (some b)]) (hrow : w6.ownsRow base 165 5 V3 (m.ps.length + 1) (ptC (xs ++ [⟨⟨s, 0, ln, [], []⟩, none, 0, none, 0⟩])))
  (hmap : w6.ownsMap Tryz.prog 9 (plainElem Tryz.prog 3) b (m.ps.length + 1) (D.put (kS s) (.lit (.int .i64 (m.ps.length : Int))))) (hat : V3.ownBlock = V.ownBlock ∨ ∃ g, V3.ownBlock = some g ∧ w2.heap.size ≤ g) (hk : (withB m.ss s).length = k')
  (hr : Row w2 w2.heap.size A' (strs (withB m.ss s))) (hor : (A' = A0 ∧ withB m.ss s = m.ss) ∨ ∀ a, A' = some a → H ≤ a.block) (hH : ∀ i ∈ mine gm b V xs, i < H) (hn : openI m.ps s = none) (hT : ∀ a, A1 = some a → m.ks ≠ [] → a.block < w2.heap.size) :
  MkAt w6 base gm ⟨m.ps ++ [⟨s, 0, ln, [], []⟩], withB m.ss s, m.ks⟩ V3 (xs ++ [⟨⟨s, 0, ln, [], []⟩, none, 0, none, 0⟩]) A' A1 c' c1 b (D.put (kS s) (.lit (.int .i64 (m.ps.length : Int)))) := by
 have hsub : ∀ i ∈ (gm :: b :: V.ownBlock.toList), i ∈ mine gm b V xs := fun i hi => by
  unfold mine;simp only [List.mem_cons, List.mem_append] at hi ⊢;rcases hi with h | h | h
  ·exact .inl h
  ·exact .inr (.inl h)
  ·exact .inr (.inr (.inl h))
 have hfl : ∀ i, i ∈ mine gm b V3 (xs ++ [⟨⟨s, 0, ln, [], []⟩, none, 0, none, 0⟩]) → i ∈ mine gm b V xs ∨ w2.heap.size ≤ i := fun i hi => by
  unfold mine at hi ⊢;simp only [List.mem_cons, List.mem_append, List.flatMap_append, List.flatMap_cons, List.flatMap_nil, Option.map_none, Option.toList_none, List.append_nil, List.not_mem_nil, or_false] at hi ⊢;rcases hi with h | h | h | h
  ·exact .inl (.inl h)
  ·exact .inl (.inr (.inl h))
  ·rcases hat with e | ⟨g, e, hg⟩
   ·rw [e] at h;exact .inl (.inr (.inr (.inl h)))
   ·rw [e] at h;simp at h;exact .inr (by omega)
  ·exact .inl (.inr (.inr (.inr h)))
 have hA' : withB m.ss s ≠ [] → ∀ a, A' = some a → a.block ∉ mine gm b V xs := fun hne a ha hm => by
  rcases hor with ⟨e, e2⟩ | hf
  ·rw [e2] at hne;exact h.f0 hne a (e ▸ ha) hm
  ·have := hf a ha;have := hH _ hm;omega
 have hkeep : ∀ {t : TypeId} {sz n : Nat} {v : Value} {l : List Value}, w2.ownsRow base t sz v n l → t ≠ 165 → t ≠ 162 → w6.ownsRow base t sz v n l := fun {t sz n v l} hr h1 h2 => own_only hr ho (fun g hg hm => by
  simp only [List.mem_cons] at hm;rcases hm with rfl | rfl | hm
  ·exact own_apart hr h.blk h2 (by rw [hg]; simp)
  ·exact map_not_own h.map hr (by rw [hg]; simp)
  ·exact own_two hr h.row h1 g hg hm)
 refine ⟨by rw [hk]; exact hblk, h.gmb, by rw [List.map_append, h.parts]; rfl, by simpa using hrow, ?_, ?_, ?_, ?_, ?_, ?_, ?_, ?_, ?_, ?_, by simpa using hmap, h.mapb, opens_begin h.opens h.map.isMap hn⟩
 ·intro x hx;rcases List.mem_append.1 hx with hx | hx
  ·exact hkeep (h.keys x hx) (by decide) (by decide)
  ·simp at hx;subst hx;exact World.ownsRow_nil _ _ _ _
 ·intro x hx;rcases List.mem_append.1 hx with hx | hx
  ·exact hkeep (h.ops x hx) (by decide) (by decide)
  ·simp at hx;subst hx;exact World.ownsRow_nil _ _ _ _
 ·rw [List.pairwise_append];exact ⟨h.apK, by simp, fun x hx y hy a ha a' ha' => by simp at hy; subst hy; cases ha'⟩
 ·rw [List.pairwise_append];exact ⟨h.apO, by simp, fun x hx y hy a ha a' ha' => by simp at hy; subst hy; cases ha'⟩
 ·exact row_avoid hr ho (fun hne a ha hm => hA' (strs_ne.1 hne) a ha (hsub _ hm))
 ·exact row_avoid h.t1 ho (fun hne a ha hm => h.f1 (strs_ne.1 hne) a ha (hsub _ hm))
 ·exact fun e => row_of_none hr e
 ·exact h.n1
 ·intro hne a ha hm;rcases hfl _ hm with hm | hm
  ·exact hA' hne a ha hm
  ·have := row_lt hr (strs_ne.2 hne) ha;omega
 ·intro hne a ha hm;rcases hfl _ hm with hm | hm
  ·exact h.f1 hne a ha hm
  ·have := hT a ha hne;omega
theorem begin_any (x : Ev6) (base gm : Nat) (m : Mk) (V : Value) (xs : List PtA) (A0 A1 : Option Addr) (c0 c1 b : Nat) (D : DataW Unit) (w : World) (h : MkAt w base gm m V xs A0 A1 c0 c1 b D) (hB : MkB m) (hs : x.s.size ≤ 65537) (hsn : isName x.s = true) (hopen : openI m.ps x.s = none) (hbase : base ≤ w.heap.size) (hT : UTabs w) :
  Calls Tryz.prog 149 #[.pointer (some ⟨gm, 0, none⟩), .agg #[.int .i64 x.k, .string x.s, .string x.y, .int .i64 x.vk, .int .i64 x.vn, .int .i64 x.ln]] w fun e w' => e = .returned (.int .i64 (beginE m x)) ∧ Only (mine gm b V xs) w w' ∧
   (beginE m x = 0 → ∃ V' xs' A0' A1' c0' c1' D', MkAt w' base gm (beginM m x) V' xs' A0' A1' c0' c1' b D') := by
 obtain ⟨Ap, cp, hV, -, -, -, -⟩ := own_row h.row;subst hV;obtain ⟨ia, hia, ha0, ha1, ha2⟩ := info_parts info_part;have HE := Hd (Blk.made w 128 #[.int .i64 x.k, .string x.s, .string x.y, .int .i64 x.vk, .int .i64 x.vn, .int .i64 x.ln]);have HO1 := Hd ((Only.refl [] w).alloc (.cells #[.int .i64 x.k, .string x.s, .string x.y, .int .i64 x.vk, .int .i64 x.vn, .int .i64 x.ln] 128));have HM1 := Hd (h.same HO1.out);have HW := Hd (fun w' (O : Only [] (w.alloc (.cells #[.int .i64 x.k, .string x.s, .string x.y, .int .i64 x.vk, .int .i64 x.vn, .int .i64 x.ln] 128)) w') => with_any A0 m.ss.length c0 _ m.ss x.s w' rfl (by have := hB.ns; omega) (fun z hz => by have := hB.zs z hz; omega) (by omega) (HM1.out.same O).t0 h.n0 (hT.only (HO1.out.trans O)));have HBB := Hd hB;have hnp := hB.np;have HOP := Hd hopen;have HEV := Hd (And.intro hs hsn);clear h hT hB hopen hs hsn;go_enter Tryz.func149, Tryz.ntmps149;go_upto_region 1 with (fail)
 generalize (w.alloc (.cells #[.int .i64 x.k, .string x.s, .string x.y, .int .i64 x.vk, .int .i64 x.vn, .int .i64 x.ln] 128)) = w1 at *;generalize hga : w.heap.size = ga at *;generalize hnn : m.ps.length = np at *;have HNN := Hd hnn;clear hnn;refine rg1 [] [] w1 ?_;refine tQ 0 (h := tQ 1 (h := tQ 2 (h := ?_)));refine trd (i := 3) (v := ?_) 0 ?_ ?_;rotate_left
 ·(intro wq hSw; have hb := hSw.blk HM1.out.blk (by simp); have hlb := hb.lt; have y1 := hb.at_ 1; have he := hSw.blk HE.out (by simp); have hle := he.lt; have v1 := he.at_ 1; simp at y1 v1; clear hSw; go_simp; try with_reducible rfl)
 (try simp only [tdz]);refine tQ 4 (h := ?_);refine trd (i := 5) (v := ?_) 0 ?_ ?_;rotate_left
 ·(intro wq hSw; have hb := hSw.blk HM1.out.blk (by simp); have hlb := hb.lt; have y1 := hb.at_ 1; have he := hSw.blk HE.out (by simp); have hle := he.lt; have v1 := he.at_ 1; simp at y1 v1; clear hSw; go_simp; try with_reducible rfl)
 (try simp only [tdz]);refine tst (i := 6) fun K hK => ?_;go_simp;refine (HW.out _ ((Only.refl [] _).drew)).mono ?_;rintro e w2 ⟨O2, A', k', c', rfl, hl, hr, hf⟩;have HWL := Hd (And.intro hl (And.intro hr hf));clear hl hr hf;refine kOut hK (((Only.refl [] w1).drew).trans O2) (h := ?_);clear hK K;refine tQ 7 (h := ?_);refine tdn ?_;have HNW := Hd ( (((Only.refl [] w1).drew).trans O2));have HM2 := Hd (HM1.out.same HNW.out);have HE2 := Hd (HNW.out.blk HE.out (by simp));have HO2 := Hd (HO1.out.trans HNW.out);have hb2 : Blk w2 gm 162 #[.slice Ap np cp, .slice A0 m.ss.length c0, .slice A1 m.ks.length c1, .map (some b)] := HM2.out.blk;have hlb := hb2.lt;have z0 := hb2.at_ 0;simp at z0;clear hb2;have HK := Hd (And.intro HWL.out.1 (And.intro HWL.out.2.1 HWL.out.2.2))
 by_cases hk1 : 20 < k'
 ·have d1 : decide ((20 : Int) < (k' : Int)) = true := decide_eq_true (by omega);have HX : Hid (beginE m x = 7) := Hd (by unfold beginE; rw [if_pos (.inl (by rw [HWL.out.1]; exact hk1))]);clear hk1;go_wp2
  go_ret
  exact ⟨by rw [HX.out]; rfl, HO2.out.wide (fun i hi => by cases hi), fun e => by rw [HX.out] at e; cases e⟩
 ·have d1 : decide ((20 : Int) < (k' : Int)) = false := decide_eq_false (by omega)
  by_cases hp1 : np = 40
  ·have d2 : ((np : Int) == 40) = true := by simp; omega
   have HX : Hid (beginE m x = 7) := Hd (by unfold beginE; rw [if_pos (.inr (by rw [HNN.out]; exact hp1))]);clear hp1 hk1;go_wp2
   go_ret
   exact ⟨by rw [HX.out]; rfl, HO2.out.wide (fun i hi => by cases hi), fun e => by rw [HX.out] at e; cases e⟩
  ·have d2 : ((np : Int) == 40) = false := by simp; omega
   have HX : Hid (beginE m x = 0 ∧ beginM m x = ⟨m.ps ++ [⟨x.s, 0, x.ln, [], []⟩], withB m.ss x.s, m.ks⟩) := Hd (by
    have : ¬ ((withB m.ss x.s).length > 20 ∨ m.ps.length = 40) := by rw [HWL.out.1, HNN.out]; omega
    unfold beginE beginM;rw [if_neg this, if_neg this];exact ⟨rfl, rfl⟩)
   have hnp2 : np < 40 := by omega
   clear hp1 hk1
   -- region 4
   have hb2 : Blk w2 gm 162 #[.slice Ap np cp, .slice A0 m.ss.length c0, .slice A1 m.ks.length c1, .map (some b)] := HM2.out.blk;have hf1 := hb2.free 1;have z1 := hb2.at_ 1;simp at z1;have HB3 := Hd (hb2.put 1 (.slice A' k' c'));have HN3 := Hd ((Only.refl [gm] w2).put (p := ⟨gm, 1, none⟩) (by simp) (.slice A' k' c'));clear hb2;have hge : gm ≠ ga := HM2.out.blk.apart HE2.out (by decide);have HE3 := Hd (HN3.out.blk HE2.out (by simp; omega));have hgb : gm ≠ b := map_not_blk HM2.out.map HM2.out.blk;have HMP : Hid ((w2.setCell ⟨gm, 1, none⟩ (.slice A' k' c')).ownsMap Tryz.prog 9 (plainElem Tryz.prog 3) b np D) := Hd (by
    have := map_only HM2.out.map HN3.out (by simp; omega)
    rwa [HNN.out] at this)
   go_upto_region 5 with (fail)
   clear z0 z1 hf1 hlb;generalize (w2.setCell ⟨gm, 1, none⟩ (.slice A' k' c')) = w3 at *;have RD0 := Hd fun wq (hSw : Only [] w3 wq) => aI ((hSw.blk HB3.out (by simp)).lt) (aI ((hSw.blk HB3.out (by simp)).at_ 0) (aI ((hSw.blk HB3.out (by simp)).at_ 3) (aI ((hSw.blk HE3.out (by simp)).lt) ((hSw.blk HE3.out (by simp)).at_ 1))));refine rg1 [11] [] w3 ?_;refine tQ 0 (h := tQ 1 (h := tQ 2 (h := trq 3 0 RD0 (h := tQ 4 (h := trq 5 0 RD0 (h := tQ 6 (h := tQ 7 (h := tQ 8 (h := trq 9 0 RD0 (h := ?_))))))))));refine tst (i := 10) fun K hK => ?_;go_simp;refine kOut hK ((Only.refl [] w3).drew) (h := ?_);clear hK K;refine tst (i := 11) fun K hK => ?_;refine wp_mapUpdate_own _ _ _ 159 rfl 9 3 law_str Tryz.underlying159 _ b np D rfl HMP.out.drew (by unfold maxLen; omega) _ _ _ rfl rfl (Go.WideMaps.keyOf_string_mk Tryz.underlying9 (by have := HEV.out.1; unfold maxLen; omega)) (.lit (.int .i64 (np : Int))) [] (plainElem_int Tryz.underlying3 (WalkArith.wf_i64 (by omega))) ?_;intro w4 hown4 hgr4;have HMP4 := Hd hown4;have HN4 : Hid (Only [b] w3 w4) := Hd (((Only.refl [b] w3).drew).trans (Only.of_grown (S := [b]) hgr4 (fun g hg _ => by simp at hg ⊢; omega)));clear hown4 hgr4;refine hK.out _ _ (timed_over (by kernel_rfl) (timed_nil)) ?_;clear hK K;(try simp only [tdz]);refine tdn ?_;have HB4 := Hd (HN4.out.blk HB3.out (by simp; omega));have hgb2 : ga ≠ b := map_not_blk HMP.out HE3.out;have HE4 := Hd (HN4.out.blk HE3.out (by simp; omega));have HROW4 : Hid (w4.ownsRow base 165 5 (.slice Ap np cp) np (ptC xs)) := Hd (by
    have r2 := HM2.out.row;rw [HNN.out] at r2;have r3 := own_only r2 HN3.out (fun g hg hm => by
     simp at hm;subst hm;exact own_apart r2 HM2.out.blk (by decide) (by rw [hg]; simp))
    exact own_only r3 HN4.out (fun g hg hm => by
     simp at hm;subst hm;exact map_not_own HMP.out r3 (by rw [hg]; simp)))
   have hsz4 : base ≤ w4.heap.size := by have := HN4.out.size; have := HN3.out.size; have := HO2.out.size; omega
   have hsz42 : w2.heap.size ≤ w4.heap.size := by have := HN4.out.size; have := HN3.out.size; omega
   have hptl : (ptC xs).length = np * 5 := by
    have := HM2.out.parts;rw [ptC_len, ← HNN.out, ← this, List.length_map]
   go_upto_region 6 with (fail)
   have RD0 := Hd fun wq (hSw : Only (Value.slice Ap np cp).ownBlock.toList w4 wq) => aI ((hSw.blk HB4.out (own_apart HROW4.out HB4.out (by decide))).lt) (aI ((hSw.blk HB4.out (own_apart HROW4.out HB4.out (by decide))).at_ 0) (aI ((hSw.blk HE4.out (own_apart HROW4.out HE4.out (by decide))).lt) (aI ((hSw.blk HE4.out (own_apart HROW4.out HE4.out (by decide))).at_ 1) (aI ((hSw.blk HE4.out (own_apart HROW4.out HE4.out (by decide))).at_ 4) ((hSw.blk HE4.out (own_apart HROW4.out HE4.out (by decide))).at_ 5)))));refine rgo (F := [⟨[], [14], fun w' => Only (Value.slice Ap np cp).ownBlock.toList w4 w'⟩]) (th1 ((Only.refl _ w4).drew)) ?_;refine tQ 0 (h := tQ 1 (h := tQ 2 (h := tQ 3 (h := trq 4 0 RD0 (h := tQ 5 (h := trq 6 0 RD0 (h := tQ 7 (h := trq 8 0 RD0 (h := tQ 9 (h := ?_))))))))));refine tst (i := 10) fun K hK => ?_;go_simp;have OA : Only [] w4 ((w4.alloc (.cells #[.string x.s, .int .i64 0, .int .i64 x.ln, .slice none 0 0, .slice none 0 0] 165)).drew) := ((Only.refl [] w4).alloc _).drew;refine kOut hK (((Only.refl _ w4).alloc _).drew) (h := ?_);clear hK K;refine tst (i := 11) fun K hK => ?_;refine step_append_row _ rfl (.tmp 43) (.tmp 49) 160 rfl base 165 ia _ 5 80 Tryz.underlying160 hia ha0 ha1 ha2 rfl (by omega) (.slice Ap np cp) np (ptC xs) (by rfl) (own_only HROW4.out OA (by simp)) (w4.heap.size + 1) (some ⟨w4.heap.size, 0, none⟩) 1 1 [.string x.s, .int .i64 0, .int .i64 x.ln, .slice none 0 0, .slice none 0 0] (by rfl) (by rfl) (by exact row_lit w4 165 #[.string x.s, .int .i64 0, .int .i64 x.ln, .slice none 0 0, .slice none 0 0]) (by intro u hu; simp at hu; rcases hu with rfl | rfl | rfl | rfl | rfl <;> rfl) (by unfold maxLen; omega) (by omega) (by have := OA.size; omega) ?_;intro v3 w5 hown3 hgrow hat;have HAT : Hid (v3.ownBlock = (Value.slice Ap np cp).ownBlock ∨ ∃ g, v3.ownBlock = some g ∧ w2.heap.size ≤ g) := Hd (hat.imp id (fun e => ⟨_, e, by simp; omega⟩));obtain ⟨A3, c3, e3, -, -, -, -⟩ := own_row hown3;subst e3;have HO5 : Hid (Only (Value.slice Ap np cp).ownBlock.toList w4 w5) := Hd (((Only.refl (Value.slice Ap np cp).ownBlock.toList w4).alloc (.cells #[.string x.s, .int .i64 0, .int .i64 x.ln, .slice none 0 0, .slice none 0 0] 165)).drew.step (only_grown hgrow) (fun j hj hl => hj));have HROW5 := Hd hown3;have bG := HO5.out.blk HB4.out (own_apart HROW4.out HB4.out (by decide));have HB5 := Hd bG;have lG := bG.lt;have cG := bG.at_ 0;have fG := bG.free 0;simp at cG;clear hgrow hat OA hown3 bG;refine kOut hK (HO5.out) (h := ?_);clear hK K;refine tQ 12 (h := tQ 13 (h := ?_));refine tst (i := 14) fun K hK => ?_;go_simp;refine hK.out _ _ (timed_over (by kernel_rfl) (timed_nil)) ?_;clear hK K;(try simp only [tdz]);refine tdn ?_;go_wp2
   go_ret
   have HN6 : Only (gm :: b :: (Value.slice Ap np cp).ownBlock.toList) w2 (w5.setCell ⟨gm, 0, none⟩ (.slice A3 (np + 1) c3)) :=
    (((HN3.out.wide (fun i hi _ => by simp at hi; simp [hi])).trans (HN4.out.wide (fun i hi _ => by simp at hi; simp [hi]))).trans (HO5.out.wide (fun i hi _ => by simp only [List.mem_cons]; exact .inr (.inr hi)))).put (fun _ => by simp) _
   have hnn := HNN.out;subst hnn;have hbelow : Only (mine gm b (.slice Ap m.ps.length cp) xs) w (w5.setCell ⟨gm, 0, none⟩ (.slice A3 (m.ps.length + 1) c3)) := (HO2.out.wide (fun i hi => by cases hi)).trans (HN6.wide (fun i hi _ => by
    unfold mine;simp only [List.mem_cons, List.mem_append] at hi ⊢;rcases hi with h | h | h
    ·exact .inl h
    ·exact .inr (.inl h)
    ·exact .inr (.inr (.inl h))))
   refine ⟨by rw [HX.out.1]; rfl, hbelow, fun _ => ⟨.slice A3 (m.ps.length + 1) c3, xs ++ [⟨⟨x.s, 0, x.ln, [], []⟩, none, 0, none, 0⟩], A', A1, c', c1, D.put (kS x.s) (.lit (.int .i64 (m.ps.length : Int))), ?_⟩⟩;rw [HX.out.2];refine mk_begun (k' := k') (H := w1.heap.size) HM2.out HN6 ?_ ?_ ?_ HAT.out HWL.out.1 HWL.out.2.1 HWL.out.2.2 (fun i hi => mine_lt HM1.out i hi) HOP.out (fun a ha hne => row_lt HM2.out.t1 (strs_ne.2 hne) ha)
   ·have := HB5.out.put 0 (.slice A3 (m.ps.length + 1) c3)
    simpa using this
   ·have h1 := own_only HROW5.out ((Only.refl [gm] w5).put (p := ⟨gm, 0, none⟩) (by simp) (.slice A3 (m.ps.length + 1) c3)) (fun g hg hm => by
     simp at hm;subst hm;exact own_apart HROW5.out HB5.out (by decide) (by rw [hg]; simp))
    rw [ptC_append];exact h1
   ·exact map_only (map_only HMP4.out HO5.out (map_not_own HMP4.out HROW4.out)) ((Only.refl [gm] w5).put (p := ⟨gm, 0, none⟩) (by simp) (.slice A3 (m.ps.length + 1) c3)) (by simp; omega)
end Go.Proofs.YtjfbeeogiejopaaGreatDoor
namespace Go.Proofs.YtjfbeeogiejopaaGreatDoor
open Go.RowKit
open Go.Lib hiding intOf
theorem pw_set {α : Type} {R : α → α → Prop} : ∀ {l : List α} {i : Nat} {y : α}, l.Pairwise R → (∀ j z, j ≠ i → l[j]? = some z → R y z ∧ R z y) → (l.set i y).Pairwise R
 | [], _, _, h, _ => by simp
 | a :: l, 0, y, h, hy => by
  rw [List.set_cons_zero, List.pairwise_cons];rw [List.pairwise_cons] at h;refine ⟨fun z hz => ?_, h.2⟩;obtain ⟨j, hj⟩ := List.mem_iff_getElem?.1 hz;exact (hy (j + 1) z (by omega) (by simpa using hj)).1
 | a :: l, i + 1, y, h, hy => by
  rw [List.set_cons_succ, List.pairwise_cons];rw [List.pairwise_cons] at h;refine ⟨fun z hz => ?_, pw_set h.2 (fun j z hj hz => hy (j + 1) z (by omega) (by simpa using hz))⟩;rcases List.mem_or_eq_of_mem_set hz with hz | rfl
  ·exact h.1 z hz
  ·exact (hy 0 a (by omega) rfl).2
theorem pw_at {α : Type} {R : α → α → Prop} (hs : ∀ x y, R x y → R y x) {l : List α} (h : l.Pairwise R) {i j : Nat} {x y : α} (hx : l[i]? = some x) (hy : l[j]? = some y) (hij : i ≠ j) : R x y := by
 obtain ⟨hi, rfl⟩ := List.getElem?_eq_some_iff.1 hx;obtain ⟨hj, rfl⟩ := List.getElem?_eq_some_iff.1 hy;rw [List.pairwise_iff_getElem] at h;rcases Nat.lt_or_gt_of_ne hij with h' | h'
 ·exact h i j hi hj h'
 ·exact hs _ _ (h j i hj hi h')
theorem mem_set_at {α : Type} {l : List α} {i : Nat} {y z : α} (hz : z ∈ l.set i y) : z = y ∨ ∃ j, j ≠ i ∧ l[j]? = some z := by
 obtain ⟨j, hj⟩ := List.mem_iff_getElem?.1 hz;rw [List.getElem?_set] at hj
 by_cases h : i = j
 ·rw [if_pos h] at hj
  split at hj
  ·exact .inl (Option.some.inj hj).symm
  ·cases hj
 ·rw [if_neg h] at hj;exact .inr ⟨j, Ne.symm h, hj⟩
theorem find_set {ps : List Pt} {i : Nat} {p q : Pt} (hp : ps[i]? = some p) (g : Pt → Bool) (hg : g q = g p) : (ps.set i q).findIdx? g = ps.findIdx? g := by
 induction ps generalizing i with
 | nil => rfl
 | cons a l ih =>
  cases i with
  | zero =>
   simp at hp;subst hp;rw [List.set_cons_zero, List.findIdx?_cons, List.findIdx?_cons, hg]
  | succ i => rw [List.set_cons_succ, List.findIdx?_cons, List.findIdx?_cons, ih (by simpa using hp)]
theorem opens_set {D : DataW Unit} {ps : List Pt} {i : Nat} {p q : Pt} (h : Opens D ps) (hp : ps[i]? = some p) (h1 : q.s = p.s) (h2 : q.f = p.f) : Opens D (ps.set i q) := by
 have e : ∀ s, openI (ps.set i q) s = openI ps s := fun s => find_set hp _ (by rw [h1, h2]);exact ⟨fun s j hj => h.there s j (by rw [← e]; exact hj), fun s hj => h.none_ s (by rw [← e]; exact hj)⟩
def partB (x : PtA) : List Nat := (x.A.map Addr.block).toList ++ (x.Z.map Addr.block).toList
theorem mine_mem {gm b : Nat} {V : Value} {xs : List PtA} {i : Nat} : i ∈ mine gm b V xs ↔ i = gm ∨ i = b ∨ i ∈ V.ownBlock.toList ∨ ∃ x ∈ xs, i ∈ partB x := by
 unfold mine partB;simp only [List.mem_cons, List.mem_append, List.mem_flatMap]
theorem part_own {A : Option Addr} {n c i : Nat} : i ∈ (A.map Addr.block).toList ↔ i ∈ (Value.slice A n c).ownBlock.toList := by cases A <;> simp [Value.ownBlock]
theorem mk_added {w2 w6 : World} {base gm : Nat} {m : Mk} {V : Value} {xs : List PtA} {A0 A1 A' : Option Addr} {c0 c1 b k' c' H i : Nat} {D : DataW Unit} {y : ByteArray} {xi xi' : PtA} {q : Pt} (h : MkAt w2 base gm m V xs A0 A1 c0 c1 b D)
  (hxi : xs[i]? = some xi) (hq : xi'.p = q) (hqs : q.s = xi.p.s) (hqf : q.f = xi.p.f) (ho : Only (gm :: (V.ownBlock.toList ++ partB xi)) w2 w6)
  (hblk : Blk w6 gm 162 #[V, .slice A0 m.ss.length c0, .slice A' k' c', .map (some b)]) (hrow : w6.ownsRow base 165 5 V m.ps.length (ptC (xs.set i xi')))
  (hkr : w6.ownsRow base 9 1 (.slice xi'.A xi'.p.ks.length xi'.c) xi'.p.ks.length (strs xi'.p.ks)) (hor : w6.ownsRow base 48 4 (.slice xi'.Z xi'.p.ops.length xi'.d) xi'.p.ops.length (opC xi'.p.ops))
  (hka : ∀ a, xi'.A = some a → (∃ a', xi.A = some a' ∧ a'.block = a.block) ∨ w2.heap.size ≤ a.block) (hoa : ∀ a, xi'.Z = some a → (∃ a', xi.Z = some a' ∧ a'.block = a.block) ∨ w2.heap.size ≤ a.block)
  (hk : (withB m.ks y).length = k') (hr : Row w2 w2.heap.size A' (strs (withB m.ks y))) (ht : (A' = A1 ∧ withB m.ks y = m.ks) ∨ ∀ a, A' = some a → H ≤ a.block) (hH : ∀ i ∈ mine gm b V xs, i < H) :
  MkAt w6 base gm ⟨m.ps.set i q, m.ss, withB m.ks y⟩ V (xs.set i xi') A0 A' c0 c' b D := by
 have hmem := List.mem_of_getElem? hxi;have hpi : m.ps[i]? = some xi.p := by rw [← h.parts, List.getElem?_map, hxi]; rfl
 have hsub : ∀ j ∈ (gm :: (V.ownBlock.toList ++ partB xi)), j ∈ mine gm b V xs := fun j hj => by
  rw [mine_mem];simp only [List.mem_cons, List.mem_append] at hj;rcases hj with h | h | h
  ·exact .inl h
  ·exact .inr (.inr (.inl h))
  ·exact .inr (.inr (.inr ⟨xi, hmem, h⟩))
 have hfl : ∀ j, j ∈ mine gm b V (xs.set i xi') → j ∈ mine gm b V xs ∨ w2.heap.size ≤ j := fun j hj => by
  rw [mine_mem] at hj ⊢;rcases hj with h | h | h | ⟨x, hx, h⟩
  ·exact .inl (.inl h)
  ·exact .inl (.inr (.inl h))
  ·exact .inl (.inr (.inr (.inl h)))
  ·rcases mem_set_at hx with rfl | ⟨k, hk, hx⟩
   ·unfold partB at h;rcases List.mem_append.1 h with h | h
    ·cases hA : x.A with
     | none => rw [hA] at h; cases h
     | some a =>
      rw [hA] at h;simp at h;subst h;rcases hka a hA with ⟨a', e1, e2⟩ | h'
      ·refine .inl (.inr (.inr (.inr ⟨xi, hmem, ?_⟩)));unfold partB;rw [e1, ← e2];simp
      ·exact .inr h'
    ·cases hA : x.Z with
     | none => rw [hA] at h; cases h
     | some a =>
      rw [hA] at h;simp at h;subst h;rcases hoa a hA with ⟨a', e1, e2⟩ | h'
      ·refine .inl (.inr (.inr (.inr ⟨xi, hmem, ?_⟩)));unfold partB;rw [e1, ← e2];simp
      ·exact .inr h'
   ·exact .inl (.inr (.inr (.inr ⟨x, List.mem_of_getElem? hx, h⟩)))
 have hA' : withB m.ks y ≠ [] → ∀ a, A' = some a → a.block ∉ mine gm b V xs := fun hne a ha hm => by
  rcases ht with ⟨e, e2⟩ | hf
  ·rw [e2] at hne;exact h.f1 hne a (e ▸ ha) hm
  ·have := hf a ha;have := hH _ hm;omega
 refine ⟨by rw [hk]; exact hblk, h.gmb, ?_, by simpa using hrow, ?_, ?_, ?_, ?_, ?_, ?_, ?_, ?_, ?_, ?_, ?_, h.mapb, opens_set h.opens hpi hqs hqf⟩
 ·rw [← h.parts, List.map_set, hq]
 ·intro x hx;rcases mem_set_at hx with rfl | ⟨j, hj, hx⟩
  ·exact hkr
  ·refine own_only (h.keys x (List.mem_of_getElem? hx)) ho (fun g hg hm => ?_);obtain ⟨a, ha, rfl⟩ := own_val.1 hg;have hkx := h.keys x (List.mem_of_getElem? hx);simp only [List.mem_cons, List.mem_append, partB] at hm;rcases hm with e | e | e | e
   ·exact own_apart hkx h.blk (by decide) (by rw [← e, hg]; simp)
   ·exact own_two hkx h.row (by decide) _ hg e
   ·cases hA : xi.A with
    | none => rw [hA] at e; cases e
    | some a' =>
     rw [hA] at e;simp at e;exact pw_at (fun x y hxy a ha a' ha' => (hxy a' ha' a ha).symm) h.apK hxi hx (Ne.symm hj) a' hA a ha e.symm
   ·exact own_two hkx (h.ops xi hmem) (by decide) _ hg (part_own.1 e)
 ·intro x hx;rcases mem_set_at hx with rfl | ⟨j, hj, hx⟩
  ·exact hor
  ·refine own_only (h.ops x (List.mem_of_getElem? hx)) ho (fun g hg hm => ?_);obtain ⟨a, ha, rfl⟩ := own_val.1 hg;have hkx := h.ops x (List.mem_of_getElem? hx);simp only [List.mem_cons, List.mem_append, partB] at hm;rcases hm with e | e | e | e
   ·exact own_apart hkx h.blk (by decide) (by rw [← e, hg]; simp)
   ·exact own_two hkx h.row (by decide) _ hg e
   ·exact own_two hkx (h.keys xi hmem) (by decide) _ hg (part_own.1 e)
   ·cases hA : xi.Z with
    | none => rw [hA] at e; cases e
    | some a' =>
     rw [hA] at e;simp at e;exact pw_at (fun x y hxy a ha a' ha' => (hxy a' ha' a ha).symm) h.apO hxi hx (Ne.symm hj) a' hA a ha e.symm
 ·refine pw_set h.apK (fun j z hj hz => ?_);have key : ∀ a, xi'.A = some a → ∀ a', z.A = some a' → a.block ≠ a'.block := fun a ha a' ha' => by
   rcases hka a ha with ⟨a2, e1, e2⟩ | h'
   ·rw [← e2];exact pw_at (fun x y hxy a ha a' ha' => (hxy a' ha' a ha).symm) h.apK hxi hz (Ne.symm hj) a2 e1 a' ha'
   ·have := own_lt (h.keys z (List.mem_of_getElem? hz)) (g := a'.block) (by rw [own_val.2 ⟨a', ha', rfl⟩]; simp);omega
  exact ⟨key, fun a ha a' ha' => (key a' ha' a ha).symm⟩
 ·refine pw_set h.apO (fun j z hj hz => ?_);have key : ∀ a, xi'.Z = some a → ∀ a', z.Z = some a' → a.block ≠ a'.block := fun a ha a' ha' => by
   rcases hoa a ha with ⟨a2, e1, e2⟩ | h'
   ·rw [← e2];exact pw_at (fun x y hxy a ha a' ha' => (hxy a' ha' a ha).symm) h.apO hxi hz (Ne.symm hj) a2 e1 a' ha'
   ·have := own_lt (h.ops z (List.mem_of_getElem? hz)) (g := a'.block) (by rw [own_val.2 ⟨a', ha', rfl⟩]; simp);omega
  exact ⟨key, fun a ha a' ha' => (key a' ha' a ha).symm⟩
 ·exact row_avoid h.t0 ho (fun hne a ha hm => h.f0 (strs_ne.1 hne) a ha (hsub _ hm))
 ·exact row_avoid hr ho (fun hne a ha hm => hA' (strs_ne.1 hne) a ha (hsub _ hm))
 ·exact h.n0
 ·exact fun e => row_of_none hr e
 ·intro hne a ha hm;rcases hfl _ hm with hm | hm
  ·exact h.f0 hne a ha hm
  ·have := row_lt h.t0 (strs_ne.2 hne) ha;omega
 ·intro hne a ha hm;rcases hfl _ hm with hm | hm
  ·exact hA' hne a ha hm
  ·have := row_lt hr (strs_ne.2 hne) ha;omega
 ·have hbm : b ∉ (gm :: (V.ownBlock.toList ++ partB xi)) := by
   simp only [List.mem_cons, List.mem_append, partB, not_or];exact ⟨(map_not_blk h.map h.blk).symm, map_not_own h.map h.row, fun e => map_not_own h.map (h.keys xi hmem) (part_own.1 e), fun e => map_not_own h.map (h.ops xi hmem) (part_own.1 e)⟩
  simpa using map_only h.map ho hbm
end Go.Proofs.YtjfbeeogiejopaaGreatDoor
