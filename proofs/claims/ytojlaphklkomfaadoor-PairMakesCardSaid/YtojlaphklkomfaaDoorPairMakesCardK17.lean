/- Parts. -/
import Derived.Test.YtojlaphklkomfaaDoorPairMakesCardK14
import Derived.Test.YtojlaphklkomfaaDoorPairMakesCardK16
set_option maxRecDepth 10000
set_option maxHeartbeats 16000000
set_option linter.unusedVariables false
set_option linter.unusedSimpArgs false
namespace Go.Proofs.YtojlaphklkomfaaDoor
open Go.RowKit
open Go.Lib hiding intOf
attribute [local go_sem ↓] Go.wp_at_zero Go.wp_at_succ
theorem index_any (A : Option Addr) (n c B : Nat) (t : List ByteArray) (s : ByteArray) (w : World) (hn : t.length = n) (hnm : n ≤ 9223372036854775807) (hA : Row w B A (strs t)) :
  Calls Tryd.prog 51 #[.slice A n c, .string s] w fun e w' => e = .returned (.int .i64 (idxOfS t s)) ∧ w = w' := by
 subst hn;rcases hA with h | ⟨b, off, rfl, hb, hw, hcell⟩
 ·have ht : t = [] := by simpa [strs] using h
  subst ht;have h : Calls Tryd.prog 51 #[.slice A 0 c, .string s] w _ := Any.slices_Index_string_empty Tryd.laysIndex A c s w;exact h.mono fun e w' ⟨h1, h2⟩ => ⟨h1, h2.symm⟩
 ·have h : Calls Tryd.prog 51 #[.slice (some ⟨b, off, none⟩) t.length c, .string s] w _ := Any.slices_Index_string Tryd.laysIndex b off t.length c t s w (Nat.le_refl _) hnm (fun j hj => hcell j _ (by
   rw [strs, List.getElem?_map, List.getD_eq_getElem?_getD, List.getElem?_eq_getElem hj]
   rfl))
  rw [List.take_length] at h;exact h.mono fun e w' ⟨h1, h2⟩ => ⟨h1, h2.symm⟩
theorem find_low (A : Option Addr) (n c B : Nat) (t : List ByteArray) (s : ByteArray) (w : World) (hn : t.length = n) (hnm : n ≤ 9223372036854775807) (hA : Row w B A (strs t)) :
  Calls Tryd.prog 37 #[.slice A n c, .string s] w fun e w' => e = .returned (.tuple #[.int .i64 (max (idxOfS t s) 0), .bool (decide (0 ≤ idxOfS t s))]) ∧ w = w' := by
 have HI := Hd (index_any A n c B t s w hn hnm hA);generalize idxOfS t s = z at *;clear hA hn;go_enter Tryd.func37, Tryd.ntmps37;go_wp2_with fail
 refine (HI.out).mono ?_;rintro e w' ⟨rfl, rfl⟩;go_wp2
 go_ret2
 exact ⟨rfl, rfl⟩
theorem find_any (A : Option Addr) (n c B : Nat) (t : List ByteArray) (s : ByteArray) (w : World) (hn : t.length = n) (hnm : n ≤ 9223372036854775806) (hz : ∀ z ∈ t, z.size ≤ 9223372036854775807) (hA : Row w B A (strs t)) (hT : UTabs w) :
  Calls Tryd.prog 25 #[.slice A n c, .string s] w fun e w' => e = .returned (.tuple #[.int .i64 (max (posB t s) 0), .bool (decide (0 ≤ posB t s))]) ∧ Only [] w w' := by
 have HI := Hd (istab_any A n c B t w hn hnm hz hA hT);have HF := Hd (fun w' (h : Only [] w w') => find_low A n c B t s w' hn (by omega) (hA.only h (by simp)));unfold posB;generalize tabB t = v at *;clear hz hA hT hn
 cases v with
 | false =>
  rw [if_neg (by simp)];go_enter Tryd.func25, Tryd.ntmps25;go_wp2_with fail
  refine (HI.out).mono ?_;rintro e w1 ⟨rfl, hO⟩;have HO := Hd hO;clear hO;go_wp2
  go_ret2
  exact ⟨rfl, HO.out⟩
 | true =>
  rw [if_pos rfl];generalize idxOfS t s = z at *;go_enter Tryd.func25, Tryd.ntmps25;go_wp2_with fail
  refine (HI.out).mono ?_;rintro e w1 ⟨rfl, hO⟩;have HO := Hd hO;clear hO;go_wp2_with fail
  refine (HF.out _ HO.out).mono ?_;rintro e w2 ⟨rfl, rfl⟩;go_wp2
  go_ret2
  exact ⟨rfl, HO.out⟩
theorem make_new (A : Option Addr) (n c B : Nat) (zs : List ByteArray) (w : World) (hn : zs.length = n) (hN : n ≤ 1000) (hz : ∀ z ∈ zs, z.size ≤ 9223372036854775807) (hA : Row w B A (strs zs)) (hT : UTabs w) :
  Calls Tryd.prog 23 #[.slice A n c] w fun e w' => Only [] w w' ∧ ∃ A' m c', e = .returned (.slice A' m c') ∧ (sortB zs).length = m ∧ Row w' w'.heap.size A' (strs (sortB zs)) ∧ ∀ b, A' = some b → w.heap.size ≤ b.block := by
 have HS := Hd (sorted_new A n c B zs w hn hN hz hA hT);clear hn hN hz hA hT;go_enter Tryd.func23, Tryd.ntmps23;go_wp2_with fail
 refine (HS.out).mono ?_;rintro e w1 ⟨hO, A', m, c', rfl, hm, hr, hf⟩;have HF := Hd hf;have HO := Hd hO;have HM := Hd hm;have HR := Hd hr;clear hO hm hr hf;go_wp2
 go_ret
 exact ⟨HO.out, _, _, _, rfl, HM.out, HR.out, HF.out⟩
theorem clone_any (A : Option Addr) (n c B : Nat) (zs : List ByteArray) (w : World) (hn : zs.length = n) (hN : n ≤ 1000) (hA : Row w B A (strs zs)) (hc : A = none → n = 0 ∧ c = c) :
  Calls Tryd.prog 73 #[.slice A n c] w fun e w' => Only [] w w' ∧ ∃ V, e = .returned V ∧ w'.ownsRow w.heap.size 9 1 V n (strs zs) := by
 cases A with
 | none =>
  obtain ⟨h0, -⟩ := hc rfl;subst h0;have hz : zs = [] := List.eq_nil_of_length_eq_zero hn;subst hz;have h : Calls Tryd.prog 73 #[.slice none 0 c] w _ := Any.slices_Clone_string_nil Tryd.laysClone 0 c w;exact h.mono fun e w' ⟨h1, h2⟩ => by
   subst h2;exact ⟨Only.refl _ _, _, h1, rfl, .inl ⟨rfl, rfl⟩⟩
 | some a =>
  rcases hA with h | ⟨b, off, ha, hb, hw, hcell⟩
  ·have hz : zs = [] := by simpa [strs] using h
   subst hz;have h0 : n = 0 := hn.symm;subst h0;have h : Calls Tryd.prog 73 #[.slice (some a) 0 c] w _ := Any.slices_Clone_string_zero Tryd.laysClone a c w;exact h.mono fun e w' ⟨v', h1, h2, _, h4⟩ => ⟨Only.of_below h4 [], v', h1, h2⟩
  ·obtain rfl := Option.some.inj ha;have h : Calls Tryd.prog 73 #[.slice (some ⟨b, off, none⟩) n c] w _ := Any.slices_Clone_string Tryd.laysClone b off n c zs w (by omega) (by omega) (fun j hj => hcell j _ (by
    rw [strs, List.getElem?_map, List.getD_eq_getElem?_getD, List.getElem?_eq_getElem hj]
    rfl))
   rw [List.take_of_length_le (by omega)] at h;exact h.mono fun e w' ⟨v', h1, h2, _, h4⟩ => ⟨Only.of_below h4 [], v', h1, h2⟩
theorem put_new (A : Option Addr) (n c B : Nat) (zs : List ByteArray) (s : ByteArray) (w : World) (hn : zs.length = n) (hN : n ≤ 500) (hz : ∀ z ∈ zs, z.size ≤ 9223372036854775807) (hs : s.size ≤ 9223372036854775807) (hA : Row w B A (strs zs)) (hc : A = none → n = 0 ∧ c = c) (hT : UTabs w) :
  Calls Tryd.prog 60 #[.slice A n c, .string s] w fun e w' => Only [] w w' ∧ ∃ A' m c', e = .returned (.slice A' m c') ∧ (sortB (zs ++ [s])).length = m ∧ Row w' w'.heap.size A' (strs (sortB (zs ++ [s]))) ∧ ∀ b, A' = some b → w.heap.size ≤ b.block := by
 obtain ⟨i0, hi, hz0, hz1, hz2⟩ := info_parts tinfo_string;have HC := Hd (clone_any A n c B zs w hn (by omega) hA hc);have HMK := Hd (fun A' c' B' w' hA' (h : Only [] w w') => make_new A' (n + 1) c' B' (zs ++ [s]) w' (by rw [List.length_append, hn]; rfl) (by omega) (fun z hz' => by
  rcases List.mem_append.1 hz' with h | h
  ·exact hz z h
  ·rw [List.mem_singleton] at h; subst h; exact hs) hA' (hT.only h))
 have hlen : (strs zs).length = n := by rw [strs, List.length_map, hn]
 clear hn hz hs hA hT;go_enter Tryd.func60, Tryd.ntmps60;go_wp2_with fail
 refine (HC.out).mono ?_;rintro e w1 ⟨hO1, V, rfl, hown⟩;have hw1 := hO1.size;have HO1 := Hd hO1;have HOWN := Hd hown;clear hO1 hown;go_wp2_with (at_builtin; refine wpList_append_row _ rfl (.tmp 6) (.tmp 8) _ rfl w.heap.size 9 i0 _ 1 16 Tryd.underlying24 hi hz0 hz1 hz2 rfl (by omega) _ n (strs zs) rfl (own_only HOWN.out ((Only.refl [] _).alloc _) (by simp)) (w1.heap.size + 1) (some ⟨w1.heap.size, 0, none⟩) 1 1 [.string s] rfl rfl (row_lit w1 9 #[.string s]) (by simp [Value.oneCell']) (by unfold maxLen; omega) (by omega) (by simp; omega) ?_; intro v3 w3 hown3 hgrow hat)
 have HO3 := Hd ((HO1.out.alloc (.cells #[.string s] 9)).step (only_grown hgrow) (own_new HOWN.out));rw [show strs zs ++ [.string s] = strs (zs ++ [s]) by simp [strs]] at hown3;obtain ⟨A3, c3, rfl, -, -, -, hrow3⟩ := own_row hown3;have HM3 := Hd (HMK.out A3 c3 _ w3 hrow3 HO3.out);clear hown3 hgrow hat hrow3;go_wp2_with fail
 refine (HM3.out).mono ?_;rintro e w4 ⟨hO4, A', m, c', rfl, hm, hr, hf⟩;have HF := Hd (fun b hb => Nat.le_trans HO3.out.size (hf b hb));have HO4 := Hd (HO3.out.trans hO4);have HM := Hd hm;have HR := Hd hr;clear hO4 hm hr hf;go_wp2
 go_ret
 exact ⟨HO4.out, _, _, _, rfl, HM.out, HR.out, HF.out⟩
end Go.Proofs.YtojlaphklkomfaaDoor
namespace Go.Proofs.YtojlaphklkomfaaDoor
open Go.RowKit
theorem wpList_store_blk {P : Program} {ops : Array Oper} {rest : List Oper} {op : Oper} {a : Act} {w : World} {Q : Exit → Act → World → Prop} (hgd : op.guard = none) (ty : TypeId) (x y : Operand) (ho : op.op = .store ty x y)
  (g : Nat) (t : TypeId) (cs cells : Array Value) (hx : a.eval x = .pointer (some ⟨g, 0, none⟩)) (hy : a.eval y = .agg cells)
  (hb : Blk w g t cs) (hl : cells.size = cs.size) (hi : (P.info? ty).map (·.size) = some cells.size) (h1 : cells.all (·.oneCell') = true)
  (h : ∀ w', Blk w' g t cells → Only [g] w w' → wpList P ops Q rest (a.put op.dst undef) w') : wpList P ops Q (op :: rest) a w :=
 wpList_store_mid hgd ty x y ho g 0 cells hx hy (by rw [hl]; exact hb.there) hi h1 (h _ (by have := hb.putAll cells.toList (by simpa using hl); simpa using this) ((Only.refl [g] w).putAll (fun _ => by simp) _))
theorem own_two {w : World} {base base' : Nat} {e e' : TypeId} {size size' : Nat} {v v' : Value} {n n' : Nat} {xs xs' : List Value} (h : w.ownsRow base e size v n xs) (h' : w.ownsRow base' e' size' v' n' xs') (hne : e ≠ e') :
  ∀ g, v.ownBlock = some g → g ∉ v'.ownBlock.toList := fun g hg hm => by
 obtain ⟨cur, hb⟩ := own_blk h hg;exact own_apart h' hb (Ne.symm hne) hm
theorem own_lower {w : World} {base base' : Nat} {e : TypeId} {size : Nat} {v : Value} {n : Nat} {xs : List Value} (h : w.ownsRow base e size v n xs) (hb : base' ≤ base) : w.ownsRow base' e size v n xs := by
 obtain ⟨hl, hv⟩ := h;refine ⟨hl, ?_⟩;rcases hv with hv | ⟨g, cap, cur, rfl, h1, rest⟩
 ·exact .inl hv
 ·exact .inr ⟨g, cap, cur, rfl, Nat.le_trans hb h1, rest⟩
end Go.Proofs.YtojlaphklkomfaaDoor
