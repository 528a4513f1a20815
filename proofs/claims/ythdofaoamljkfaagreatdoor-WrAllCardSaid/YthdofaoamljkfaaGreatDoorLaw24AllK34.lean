/- Parts. -/
import Derived.Shelf.Slices.Turned
import Derived.Ground.Names2Prog
import Derived.Shelf.Slices.Clone
import Derived.Test.YthdofaoamljkfaaGreatDoorLaw24AllK33
import Derived.Test.YthdofaoamljkfaaGreatDoorLaw24AllK30
set_option maxRecDepth 10000
set_option maxHeartbeats 16000000
set_option linter.unusedVariables false
set_option linter.unusedSimpArgs false
namespace Go.Proofs
open Go.Shelf
def Tryz.laysIndex_ren : Go.Shelf.Ren := ⟨fun | 109 => 118 | n => n, fun | 31 => 22 | 9 => 9 | 3 => 3 | 0 => 0 | 4 => 4 | n => n, fun | n => n⟩
theorem Tryz.laysIndex : Go.Proofs.Lays.n109 Tryz.prog Tryz.laysIndex_ren := {
 mixed := by kernel_rfl
 f109 := Tryz.func118.trans (congrArg some (by kernel_rfl))
 t0 := Tryz.underlying0
 a0 := Tryz.isAgg0
 z0 := Tryz.sizeOf0
 v0 := Tryz.zeroValue0
 t3 := Tryz.underlying3
 a3 := Tryz.isAgg3
 z3 := Tryz.sizeOf3
 v3 := Tryz.zeroValue3
 t4 := Tryz.underlying4
 a4 := Tryz.isAgg4
 z4 := Tryz.sizeOf4
 v4 := Tryz.zeroValue4
 t9 := Tryz.underlying9
 a9 := Tryz.isAgg9
 z9 := Tryz.sizeOf9
 v9 := Tryz.zeroValue9
 t31 := Tryz.underlying22
 a31 := Tryz.isAgg22
 z31 := Tryz.sizeOf22
 v31 := Tryz.zeroValue22 }
def Tryz.laysClone_ren : Go.Shelf.Ren := ⟨fun | 16 => 130 | n => n, fun | 24 => 22 | 9 => 9 | 4 => 4 | n => n, fun | n => n⟩
theorem Tryz.laysClone : Go.Proofs.Lays2.n16 Tryz.prog Tryz.laysClone_ren := {
 mixed := by kernel_rfl
 f16 := Tryz.func130.trans (congrArg some (by kernel_rfl))
 t4 := Tryz.underlying4
 a4 := Tryz.isAgg4
 z4 := Tryz.sizeOf4
 v4 := Tryz.zeroValue4
 t9 := Tryz.underlying9
 a9 := Tryz.isAgg9
 z9 := Tryz.sizeOf9
 v9 := Tryz.zeroValue9
 t24 := Tryz.underlying22
 a24 := Tryz.isAgg22
 z24 := Tryz.sizeOf22
 v24 := Tryz.zeroValue22
 i9 := by kernel_rfl }
end Go.Proofs
namespace Go.Proofs.YthdofaoamljkfaaGreatDoor
open Go.RowKit
open Go.Lib hiding intOf
attribute [local go_sem ↓] Go.wp_at_zero Go.wp_at_succ
theorem index_any (A : Option Addr) (n c B : Nat) (t : List ByteArray) (s : ByteArray) (w : World) (hn : t.length = n) (hnm : n ≤ 9223372036854775807) (hA : Row w B A (strs t)) :
  Calls Tryz.prog 118 #[.slice A n c, .string s] w fun e w' => e = .returned (.int .i64 (idxOfS t s)) ∧ w = w' := by
 subst hn;rcases hA with h | ⟨b, off, rfl, hb, hw, hcell⟩
 ·have ht : t = [] := by simpa [strs] using h
  subst ht;have h : Calls Tryz.prog 118 #[.slice A 0 c, .string s] w _ := Any.slices_Index_string_empty Tryz.laysIndex A c s w;exact h.mono fun e w' ⟨h1, h2⟩ => ⟨h1, h2.symm⟩
 ·have h : Calls Tryz.prog 118 #[.slice (some ⟨b, off, none⟩) t.length c, .string s] w _ := Any.slices_Index_string Tryz.laysIndex b off t.length c t s w (Nat.le_refl _) hnm (fun j hj => hcell j _ (by
   rw [strs, List.getElem?_map, List.getD_eq_getElem?_getD, List.getElem?_eq_getElem hj]
   rfl))
  rw [List.take_length] at h;exact h.mono fun e w' ⟨h1, h2⟩ => ⟨h1, h2.symm⟩
theorem find_low (A : Option Addr) (n c B : Nat) (t : List ByteArray) (s : ByteArray) (w : World) (hn : t.length = n) (hnm : n ≤ 9223372036854775807) (hA : Row w B A (strs t)) :
  Calls Tryz.prog 111 #[.slice A n c, .string s] w fun e w' => e = .returned (.tuple #[.int .i64 (max (idxOfS t s) 0), .bool (decide (0 ≤ idxOfS t s))]) ∧ w = w' := by
 have HI := Hd (index_any A n c B t s w hn hnm hA);generalize idxOfS t s = z at *;clear hA hn;go_enter Tryz.func111, Tryz.ntmps111;go_wp2_with fail
 refine (HI.out).mono ?_;rintro e w' ⟨rfl, rfl⟩;go_wp2
 go_ret2
 exact ⟨rfl, rfl⟩
theorem find_any (A : Option Addr) (n c B : Nat) (t : List ByteArray) (s : ByteArray) (w : World) (hn : t.length = n) (hnm : n ≤ 9223372036854775806) (hz : ∀ z ∈ t, z.size ≤ 9223372036854775807) (hA : Row w B A (strs t)) (hT : UTabs w) :
  Calls Tryz.prog 94 #[.slice A n c, .string s] w fun e w' => e = .returned (.tuple #[.int .i64 (max (posB t s) 0), .bool (decide (0 ≤ posB t s))]) ∧ Only [] w w' := by
 have HI := Hd (istab_any A n c B t w hn hnm hz hA hT);have HF := Hd (fun w' (h : Only [] w w') => find_low A n c B t s w' hn (by omega) (hA.only h (by simp)));unfold posB;generalize tabB t = v at *;clear hz hA hT hn
 cases v with
 | false =>
  rw [if_neg (by simp)];go_enter Tryz.func94, Tryz.ntmps94;go_wp2_with fail
  refine (HI.out).mono ?_;rintro e w1 ⟨rfl, hO⟩;have HO := Hd hO;clear hO;go_wp2
  go_ret2
  exact ⟨rfl, HO.out⟩
 | true =>
  rw [if_pos rfl];generalize idxOfS t s = z at *;go_enter Tryz.func94, Tryz.ntmps94;go_wp2_with fail
  refine (HI.out).mono ?_;rintro e w1 ⟨rfl, hO⟩;have HO := Hd hO;clear hO;go_wp2_with fail
  refine (HF.out _ HO.out).mono ?_;rintro e w2 ⟨rfl, rfl⟩;go_wp2
  go_ret2
  exact ⟨rfl, HO.out⟩
theorem make_new (A : Option Addr) (n c B : Nat) (zs : List ByteArray) (w : World) (hn : zs.length = n) (hN : n ≤ 1000) (hz : ∀ z ∈ zs, z.size ≤ 9223372036854775807) (hA : Row w B A (strs zs)) (hT : UTabs w) :
  Calls Tryz.prog 129 #[.slice A n c] w fun e w' => Only [] w w' ∧ ∃ A' m c', e = .returned (.slice A' m c') ∧ (sortB zs).length = m ∧ Row w' w'.heap.size A' (strs (sortB zs)) ∧ ∀ b, A' = some b → w.heap.size ≤ b.block := by
 have HS := Hd (sorted_new A n c B zs w hn hN hz hA hT);clear hn hN hz hA hT;go_enter Tryz.func129, Tryz.ntmps129;go_wp2_with fail
 refine (HS.out).mono ?_;rintro e w1 ⟨hO, A', m, c', rfl, hm, hr, hf⟩;have HF := Hd hf;have HO := Hd hO;have HM := Hd hm;have HR := Hd hr;clear hO hm hr hf;go_wp2
 go_ret
 exact ⟨HO.out, _, _, _, rfl, HM.out, HR.out, HF.out⟩
theorem clone_any (A : Option Addr) (n c B : Nat) (zs : List ByteArray) (w : World) (hn : zs.length = n) (hN : n ≤ 1000) (hA : Row w B A (strs zs)) (hc : A = none → n = 0 ∧ c = c) :
  Calls Tryz.prog 130 #[.slice A n c] w fun e w' => Only [] w w' ∧ ∃ V, e = .returned V ∧ w'.ownsRow w.heap.size 9 1 V n (strs zs) := by
 cases A with
 | none =>
  obtain ⟨h0, -⟩ := hc rfl;subst h0;have hz : zs = [] := List.eq_nil_of_length_eq_zero hn;subst hz;have h : Calls Tryz.prog 130 #[.slice none 0 c] w _ := Any.slices_Clone_string_nil Tryz.laysClone 0 c w;exact h.mono fun e w' ⟨h1, h2⟩ => by
   subst h2;exact ⟨Only.refl _ _, _, h1, rfl, .inl ⟨rfl, rfl⟩⟩
 | some a =>
  rcases hA with h | ⟨b, off, ha, hb, hw, hcell⟩
  ·have hz : zs = [] := by simpa [strs] using h
   subst hz;have h0 : n = 0 := hn.symm;subst h0;have h : Calls Tryz.prog 130 #[.slice (some a) 0 c] w _ := Any.slices_Clone_string_zero Tryz.laysClone a c w;exact h.mono fun e w' ⟨v', h1, h2, _, h4⟩ => ⟨Only.of_below h4 [], v', h1, h2⟩
  ·obtain rfl := Option.some.inj ha;have h : Calls Tryz.prog 130 #[.slice (some ⟨b, off, none⟩) n c] w _ := Any.slices_Clone_string Tryz.laysClone b off n c zs w (by omega) (by omega) (fun j hj => hcell j _ (by
    rw [strs, List.getElem?_map, List.getD_eq_getElem?_getD, List.getElem?_eq_getElem hj]
    rfl))
   rw [List.take_of_length_le (by omega)] at h;exact h.mono fun e w' ⟨v', h1, h2, _, h4⟩ => ⟨Only.of_below h4 [], v', h1, h2⟩
theorem put_new (A : Option Addr) (n c B : Nat) (zs : List ByteArray) (s : ByteArray) (w : World) (hn : zs.length = n) (hN : n ≤ 500) (hz : ∀ z ∈ zs, z.size ≤ 9223372036854775807) (hs : s.size ≤ 9223372036854775807) (hA : Row w B A (strs zs)) (hc : A = none → n = 0 ∧ c = c) (hT : UTabs w) :
  Calls Tryz.prog 123 #[.slice A n c, .string s] w fun e w' => Only [] w w' ∧ ∃ A' m c', e = .returned (.slice A' m c') ∧ (sortB (zs ++ [s])).length = m ∧ Row w' w'.heap.size A' (strs (sortB (zs ++ [s]))) ∧ ∀ b, A' = some b → w.heap.size ≤ b.block := by
 obtain ⟨i0, hi, hz0, hz1, hz2⟩ := info_parts tinfo_string;have HC := Hd (clone_any A n c B zs w hn (by omega) hA hc);have HMK := Hd (fun A' c' B' w' hA' (h : Only [] w w') => make_new A' (n + 1) c' B' (zs ++ [s]) w' (by rw [List.length_append, hn]; rfl) (by omega) (fun z hz' => by
  rcases List.mem_append.1 hz' with h | h
  ·exact hz z h
  ·rw [List.mem_singleton] at h; subst h; exact hs) hA' (hT.only h))
 have hlen : (strs zs).length = n := by rw [strs, List.length_map, hn]
 clear hn hz hs hA hT;go_enter Tryz.func123, Tryz.ntmps123;go_wp2_with fail
 refine (HC.out).mono ?_;rintro e w1 ⟨hO1, V, rfl, hown⟩;have hw1 := hO1.size;have HO1 := Hd hO1;have HOWN := Hd hown;clear hO1 hown;go_wp2_with (at_builtin; refine wpList_append_row _ rfl (.tmp 6) (.tmp 8) _ rfl w.heap.size 9 i0 _ 1 16 Tryz.underlying22 hi hz0 hz1 hz2 rfl (by omega) _ n (strs zs) rfl (own_only HOWN.out ((Only.refl [] _).alloc _) (by simp)) (w1.heap.size + 1) (some ⟨w1.heap.size, 0, none⟩) 1 1 [.string s] rfl rfl (row_lit w1 9 #[.string s]) (by simp [Value.oneCell']) (by unfold maxLen; omega) (by omega) (by simp; omega) ?_; intro v3 w3 hown3 hgrow hat)
 have HO3 := Hd ((HO1.out.alloc (.cells #[.string s] 9)).step (only_grown hgrow) (own_new HOWN.out));rw [show strs zs ++ [.string s] = strs (zs ++ [s]) by simp [strs]] at hown3;obtain ⟨A3, c3, rfl, -, -, -, hrow3⟩ := own_row hown3;have HM3 := Hd (HMK.out A3 c3 _ w3 hrow3 HO3.out);clear hown3 hgrow hat hrow3;go_wp2_with fail
 refine (HM3.out).mono ?_;rintro e w4 ⟨hO4, A', m, c', rfl, hm, hr, hf⟩;have HF := Hd (fun b hb => Nat.le_trans HO3.out.size (hf b hb));have HO4 := Hd (HO3.out.trans hO4);have HM := Hd hm;have HR := Hd hr;clear hO4 hm hr hf;go_wp2
 go_ret
 exact ⟨HO4.out, _, _, _, rfl, HM.out, HR.out, HF.out⟩
theorem pfate_any (k : Int) (w : World) : Calls Tryz.prog 110 #[.int .i64 k] w fun e w' => e = .returned (.int .i64 (fateE k)) ∧ w = w' := by
 by_cases h1 : k = 4
 ·subst h1;go_enter Tryz.func110, Tryz.ntmps110;go_wp2
  go_ret
  exact ⟨rfl, rfl⟩
 ·have e1 : (k == 4) = false := by simpa using h1
  by_cases h2 : k = 5
  ·subst h2;go_enter Tryz.func110, Tryz.ntmps110;go_wp2
   go_ret
   exact ⟨rfl, rfl⟩
  ·have e2 : (k == 5) = false := by simpa using h2
   have HE : Hid (fateE k = 3) := Hd (by unfold fateE; rw [if_neg h1, if_neg h2]);clear h1 h2;go_enter Tryz.func110, Tryz.ntmps110;go_wp2
   go_ret
   exact ⟨by rw [HE.out]; rfl, rfl⟩
theorem with_any (A : Option Addr) (n c B : Nat) (t : List ByteArray) (s : ByteArray) (w : World) (hn : t.length = n) (hN : n ≤ 500) (hz : ∀ z ∈ t, z.size ≤ 9223372036854775807) (hs : s.size ≤ 9223372036854775807) (hA : Row w B A (strs t)) (hc : A = none → n = 0) (hT : UTabs w) :
  Calls Tryz.prog 117 #[.slice A n c, .string s] w fun e w' => Only [] w w' ∧ ∃ A' m c', e = .returned (.slice A' m c') ∧ (withB t s).length = m ∧ Row w' w'.heap.size A' (strs (withB t s)) ∧ ((A' = A ∧ withB t s = t) ∨ ∀ b, A' = some b → w.heap.size ≤ b.block) := by
 have HF := Hd (find_any A n c B t s w hn (by omega) hz hA hT);have HP := Hd (fun w' (O : Only [] w w') => put_new A n c B t s w' hn hN hz hs (hA.only O (by simp)) (fun h => ⟨hc h, rfl⟩) (hT.only O));have HN := Hd hn;have HA := Hd hA;clear hn hN hz hs hA hc hT
 by_cases h : 0 ≤ posB t s
 ·rw [decide_eq_true h] at HF;have HW : Hid (withB t s = t) := Hd (by unfold withB; rw [if_pos h]);clear h;go_enter Tryz.func117, Tryz.ntmps117;go_wp2_with fail
  refine (HF.out).mono ?_;rintro e w1 ⟨rfl, O1⟩;have HO1 := Hd O1;clear O1;go_wp2
  go_ret
  exact ⟨HO1.out, _, _, _, rfl, by rw [HW.out]; exact HN.out, by rw [HW.out]; exact row_up (HA.out.only HO1.out (by simp)), .inl ⟨rfl, HW.out⟩⟩
 ·rw [decide_eq_false h] at HF;have HW : Hid (withB t s = sortB (t ++ [s])) := Hd (by unfold withB; rw [if_neg h]);clear h;go_enter Tryz.func117, Tryz.ntmps117;go_wp2_with fail
  refine (HF.out).mono ?_;rintro e w1 ⟨rfl, O1⟩;have HO1 := Hd O1;clear O1;go_wp2_with fail
  refine (HP.out _ HO1.out).mono ?_;rintro e w2 ⟨O2, A', m, c', rfl, hm, hr, hf⟩;have HR := Hd (And.intro hm (And.intro hr hf));have HO2 := Hd (HO1.out.trans O2);clear O2 hm hr hf;go_wp2
  go_ret
  exact ⟨HO2.out, _, _, _, rfl, by rw [HW.out]; exact HR.out.1, by rw [HW.out]; exact HR.out.2.1, .inr fun b hb => Nat.le_trans HO1.out.size (HR.out.2.2 b hb)⟩
def kS (s : ByteArray) : Lit := .string s.data.toList
structure Opens (D : DataW Unit) (ps : List Pt) : Prop where
 there : ∀ s i, openI ps s = some i → Maps.has D (kS s) = true ∧ ∀ z, D.atKey (kS s) z = .lit (.int .i64 (i : Int))
 none_ : ∀ s, openI ps s = none → Maps.has D (kS s) = false
def mine (gm b : Nat) (V : Value) (xs : List PtA) : List Nat := gm :: b :: (V.ownBlock.toList ++ xs.flatMap fun x => (x.A.map Addr.block).toList ++ (x.Z.map Addr.block).toList)
structure MkAt (w : World) (base gm : Nat) (m : Mk) (V : Value) (xs : List PtA) (A0 A1 : Option Addr) (c0 c1 b : Nat) (D : DataW Unit) : Prop where
 blk : Blk w gm 133 #[V, .slice A0 m.ss.length c0, .slice A1 m.ks.length c1, .map (some b)]
 gmb : base ≤ gm
 parts : xs.map PtA.p = m.ps
 row : w.ownsRow base 136 5 V m.ps.length (ptC xs)
 keys : ∀ x ∈ xs, w.ownsRow base 9 1 (.slice x.A x.p.ks.length x.c) x.p.ks.length (strs x.p.ks)
 ops : ∀ x ∈ xs, w.ownsRow base 70 4 (.slice x.Z x.p.ops.length x.d) x.p.ops.length (opC x.p.ops)
 apK : xs.Pairwise fun x y => ∀ a, x.A = some a → ∀ a', y.A = some a' → a.block ≠ a'.block
 apO : xs.Pairwise fun x y => ∀ a, x.Z = some a → ∀ a', y.Z = some a' → a.block ≠ a'.block
 t0 : Row w w.heap.size A0 (strs m.ss)
 t1 : Row w w.heap.size A1 (strs m.ks)
 n0 : A0 = none → m.ss.length = 0
 n1 : A1 = none → m.ks.length = 0
 f0 : m.ss ≠ [] → ∀ a, A0 = some a → a.block ∉ mine gm b V xs
 f1 : m.ks ≠ [] → ∀ a, A1 = some a → a.block ∉ mine gm b V xs
 map : w.ownsMap Tryz.prog 9 (plainElem Tryz.prog 3) b m.ps.length D
 mapb : base ≤ b
 opens : Opens D m.ps
theorem row_avoid {S : List Nat} {w w' : World} {B : Nat} {A : Option Addr} {xs : List Value} (h : Row w B A xs) (ho : Only S w w') (ha : xs ≠ [] → ∀ a, A = some a → a.block ∉ S) : Row w' w'.heap.size A xs := by
 rcases h with rfl | ⟨b, off, rfl, h1, h2, hc⟩
 ·exact .inl rfl
 ·cases xs with
  | nil => exact .inl rfl
  | cons u xs =>
   have hn := ha (by simp) _ rfl;have := ho.size;exact .inr ⟨b, off, rfl, by omega, by omega, fun j v hv => (ho.cell (p := ⟨b, off + j, none⟩) (by show b < _; omega) hn).trans (hc j v hv)⟩
theorem row_lt {w : World} {B : Nat} {A : Option Addr} {xs : List Value} (h : Row w B A xs) (hn : xs ≠ []) {a : Addr} (ha : A = some a) : a.block < w.heap.size := by
 rcases h with rfl | ⟨b, off, e, h1, h2, hc⟩
 ·exact absurd rfl hn
 ·rw [ha] at e;obtain rfl := Option.some.inj e
  show b < _
  omega
theorem map_only {S : List Nat} {w w' : World} {k e : TypeId} {b n : Nat} {D : DataW Unit} (h : w.ownsMap Tryz.prog k (plainElem Tryz.prog e) b n D) (ho : Only S w w') (hb : b ∉ S) : w'.ownsMap Tryz.prog k (plainElem Tryz.prog e) b n D := by
 have hlt := h.lt;obtain ⟨es, clock, h1, h2⟩ := h;exact ⟨es, clock, (ho.keeps b hlt hb).trans h1, h2⟩
theorem map_not_blk {w : World} {k e : TypeId} {b n g : Nat} {t : TypeId} {cs : Array Value} {D : DataW Unit} (h : w.ownsMap Tryz.prog k (plainElem Tryz.prog e) b n D) (hb : Blk w g t cs) : g ≠ b := by
 rintro rfl;obtain ⟨es, clock, h1, -⟩ := h;rw [show w.heap[g]? = _ from hb] at h1
 cases h1
theorem map_not_own {w : World} {k e : TypeId} {b n : Nat} {D : DataW Unit} (h : w.ownsMap Tryz.prog k (plainElem Tryz.prog e) b n D) {base : Nat} {t : TypeId} {sz m : Nat} {v : Value} {xs : List Value} (hr : w.ownsRow base t sz v m xs) : b ∉ v.ownBlock.toList := by
 intro hm
 cases hv : v.ownBlock with
 | none => rw [hv] at hm; cases hm
 | some g =>
  rw [hv] at hm;obtain ⟨cur, hb⟩ := own_blk hr hv;have := map_not_blk h hb;simp at hm;omega
theorem MkAt.same {w w' : World} {base gm : Nat} {m : Mk} {V : Value} {xs : List PtA} {A0 A1 : Option Addr} {c0 c1 b : Nat} {D : DataW Unit} (h : MkAt w base gm m V xs A0 A1 c0 c1 b D) (ho : Only [] w w') : MkAt w' base gm m V xs A0 A1 c0 c1 b D where
 blk := ho.blk h.blk (by simp)
 gmb := h.gmb
 parts := h.parts
 row := own_only h.row ho (by simp)
 keys := fun x hx => own_only (h.keys x hx) ho (by simp)
 ops := fun x hx => own_only (h.ops x hx) ho (by simp)
 apK := h.apK
 apO := h.apO
 t0 := row_avoid h.t0 ho (by simp)
 t1 := row_avoid h.t1 ho (by simp)
 n0 := h.n0
 n1 := h.n1
 f0 := h.f0
 f1 := h.f1
 map := map_only h.map ho (by simp)
 mapb := h.mapb
 opens := h.opens
theorem mine_lt {w : World} {base gm : Nat} {m : Mk} {V : Value} {xs : List PtA} {A0 A1 : Option Addr} {c0 c1 b : Nat} {D : DataW Unit} (h : MkAt w base gm m V xs A0 A1 c0 c1 b D) : ∀ i ∈ mine gm b V xs, i < w.heap.size := by
 intro i hi;unfold mine at hi;simp only [List.mem_cons, List.mem_append, List.mem_flatMap] at hi;rcases hi with rfl | rfl | hi | ⟨x, hx, hi | hi⟩
 ·exact h.blk.lt
 ·exact h.map.lt
 ·exact own_lt h.row hi
 ·have := own_lt (h.keys x hx) (g := i) (by
   cases hA : x.A with
   | none => rw [hA] at hi; cases hi
   | some a => rw [hA] at hi; simpa [Value.ownBlock] using hi)
  exact this
 ·have := own_lt (h.ops x hx) (g := i) (by
   cases hA : x.Z with
   | none => rw [hA] at hi; cases hi
   | some a => rw [hA] at hi; simpa [Value.ownBlock] using hi)
  exact this
theorem mine_ge {w : World} {base gm : Nat} {m : Mk} {V : Value} {xs : List PtA} {A0 A1 : Option Addr} {c0 c1 b : Nat} {D : DataW Unit} (h : MkAt w base gm m V xs A0 A1 c0 c1 b D) : ∀ i ∈ mine gm b V xs, base ≤ i := by
 intro i hi;unfold mine at hi;simp only [List.mem_cons, List.mem_append, List.mem_flatMap] at hi;rcases hi with rfl | rfl | hi | ⟨x, hx, hi | hi⟩
 ·exact h.gmb
 ·exact h.mapb
 ·exact (h.row.lt i (by simpa using hi)).1
 ·exact ((h.keys x hx).lt i (by
   cases hA : x.A with
   | none => rw [hA] at hi; cases hi
   | some a => rw [hA] at hi; simp at hi; simp [Value.ownBlock, hi])).1
 ·exact ((h.ops x hx).lt i (by
   cases hA : x.Z with
   | none => rw [hA] at hi; cases hi
   | some a => rw [hA] at hi; simp at hi; simp [Value.ownBlock, hi])).1
theorem strs_ne {l : List ByteArray} : strs l ≠ [] ↔ l ≠ [] := by cases l <;> simp [strs]
theorem row_of_none {w : World} {B : Nat} {xs : List ByteArray} {A : Option Addr} (h : Row w B A (strs xs)) (hA : A = none) : xs.length = 0 := by
 subst hA;rcases h with h | ⟨b, off, e, _⟩
 ·cases xs with
  | nil => rfl
  | cons x l => simp [strs] at h
 ·cases e
theorem own_val {A : Option Addr} {n c g : Nat} : (Value.slice A n c).ownBlock = some g ↔ ∃ a, A = some a ∧ a.block = g := by
 cases A <;> simp [Value.ownBlock]
structure MkB (m : Mk) : Prop where
 zs : ∀ z ∈ m.ss, z.size ≤ 65537
 zk : ∀ z ∈ m.ks, z.size ≤ 65537
 np : m.ps.length ≤ 40
 ns : m.ss.length ≤ 20
 nk : m.ks.length ≤ 40
 uni : ∀ (i j : Nat) (p q : Pt), m.ps[i]? = some p → m.ps[j]? = some q → p.s = q.s → p.f = 0 → q.f = 0 → i = j
 no : ∀ p ∈ m.ps, p.ops.length ≤ 20 ∧ p.ks.length = p.ops.length ∧ p.s.size ≤ 65537 ∧ (∀ z ∈ p.ks, z.size ≤ 65537)
end Go.Proofs.YthdofaoamljkfaaGreatDoor
