/- Parts. -/
import Derived.Test.YthdofaoamljkfaaGreatDoorLaw24AllK39
set_option maxRecDepth 10000
set_option maxHeartbeats 16000000
set_option linter.unusedVariables false
set_option linter.unusedSimpArgs false
namespace Go.Proofs.YthdofaoamljkfaaGreatDoor
open Go.RowKit
open Go.Lib
theorem row_beside {w w' : World} {B : Nat} {A : Option Addr} {xs : List Value} {g : Nat} {t : TypeId} {cs : Array Value} (h : Row w B A xs) (hb : Blk w g t cs) (hne : ∀ u : Value, xs[0]? = some u → ∀ j : Nat, cs[j]? ≠ some u) (ho : Only [g] w w') : Row w' w'.heap.size A xs := by
 rcases h with rfl | ⟨b, off, rfl, h1, h2, hc⟩
 ·exact .inl rfl
 ·cases xs with
  | nil => exact .inl rfl
  | cons u xs =>
   have h0 := hc 0 u rfl;have hbg : b ≠ g := fun e => by
    subst e;rw [hb.at_] at h0;exact hne u rfl _ h0
   have := ho.size;exact .inr ⟨b, off, rfl, by omega, by omega, fun j v hv => (ho.cell (p := ⟨b, off + j, none⟩) (by show b < _; omega) (by simp [hbg])).trans (hc j v hv)⟩
theorem hat_past {w w' : World} {B : Nat} {A0 A1 A2 : Option Addr} {h : Hst} {g : Nat} {t : TypeId} {a0 a1 a2 : Option Addr} {k0 k1 k2 e0 e1 e2 : Nat} (hI : HAt w B A0 A1 A2 h) (hb : Blk w g t #[.slice a0 k0 e0, .slice a1 k1 e1, .slice a2 k2 e2]) (ho : Only [g] w w') : HAt w' w'.heap.size A0 A1 A2 h := by
 have key : ∀ (u : Value), (∀ a n c, u ≠ .slice a n c) → ∀ j : Nat, (#[Value.slice a0 k0 e0, .slice a1 k1 e1, .slice a2 k2 e2] : Array Value)[j]? ≠ some u := by
  intro u hu j hj
  match j with
  | 0 => simp at hj; exact hu _ _ _ hj.symm
  | 1 => simp at hj; exact hu _ _ _ hj.symm
  | 2 => simp at hj; exact hu _ _ _ hj.symm
  | j + 3 => simp at hj
 obtain ⟨r0, r1, ⟨xs, hx, r2, hxs⟩⟩ := hI;have ks : ∀ l : List ByteArray, ∀ u : Value, (strs l)[0]? = some u → ∀ a n c, u ≠ .slice a n c := by
  intro l u hu a n c e;subst e
  cases l <;> simp [strs] at hu
 refine ⟨row_beside r0 hb (fun u hu => key u (ks _ u hu)) ho, row_beside r1 hb (fun u hu => key u (ks _ u hu)) ho, ⟨xs, hx, row_beside r2 hb (fun u hu => key u ?_) ho, fun x hx => ⟨row_beside (hxs x hx).row hb (fun u hu => key u ?_) ho, (hxs x hx).le, (hxs x hx).cap⟩⟩⟩
 ·intro a n c e;subst e
  cases xs <;> simp [txC, TxA.c] at hu
 ·intro a n c e;subst e
  cases hxo : x.t.ops with
  | nil => rw [hxo] at hu; simp [opC] at hu
  | cons y l => rw [hxo] at hu; simp [opC, Op4.c] at hu
end Go.Proofs.YthdofaoamljkfaaGreatDoor
namespace Go.Proofs.YthdofaoamljkfaaGreatDoor
open Go.RowKit
open Go.Lib hiding intOf
attribute [local go_sem ↓] Go.wp_at_zero Go.wp_at_succ
def pairE (l : List Ev6) : Int := (followR l).2.2
def pairL (l : List Ev6) : Int := (followR l).2.1
def pairH (l : List Ev6) : Hst := if pairE l = 0 then histOf (followR l).1 else ⟨[], [], []⟩
theorem pair_line {l : List Ev6} (h : pairE l = 0) : pairL l = 0 := by
 unfold pairE pairL followR at *
 split
 ·rename_i hr
  rw [if_pos hr] at h;unfold endE at h ⊢;dsimp only at h ⊢
  split
  ·rename_i p hp
   rw [hp] at h
   cases h
  ·rfl
 ·rename_i hr
  rw [if_neg hr] at h;exact absurd h hr
set_option maxRecDepth 100000 in
theorem phist_any (A : Option Addr) (n c : Nat) (l : List Ev6) (w : World) (hn : l.length = n) (hnm : n ≤ 100000) (hA : Row w w.heap.size A (logC l)) (hz : ∀ x ∈ l, x.s.size ≤ 65537 ∧ x.y.size ≤ 65537) (hT : UTabs w) (hV : Verbs w) :
  Calls Tryz.prog 50 #[.slice A n c] w fun e w' => ∃ B0 B1 B2 d0 d1 d2, (e = .returned (.tuple #[.agg #[.slice B0 (pairH l).ss.length d0, .slice B1 (pairH l).ks.length d1, .slice B2 (pairH l).l.length d2], .int .i64 (pairL l), .int .i64 (pairE l)]) ∧ HAt w' w'.heap.size B0 B1 B2 (pairH l)) ∧ Only [] w w' := by
 have HR0 := Hd (Blk.made w 25 #[.slice none 0 0, .slice none 0 0, .slice none 0 0]);have HO1 := Hd ((Only.refl [] w).alloc (.cells #[.slice none 0 0, .slice none 0 0, .slice none 0 0] 25));have HFO := Hd (follow_any A n c l _ hn hnm (row_up (hA.only HO1.out (by simp))) hz (hT.only HO1.out) (hV.only HO1.out));have HT := Hd (fun w' (O : Only [] w w') => hT.only O);have HE : Hid (pairE l = (followR l).2.2) := Hd rfl;have HL : Hid (pairL l = (followR l).2.1) := Hd rfl;have HPL := Hd (@pair_line l);have HH : Hid (pairH l = if pairE l = 0 then histOf (followR l).1 else ⟨[], [], []⟩) := Hd rfl;rw [← HE.out, ← HL.out] at HFO;generalize pairE l = pe at *;generalize pairL l = pl at *;generalize pairH l = ph at *;generalize followR l = fr at *;obtain ⟨m, r⟩ := fr;dsimp only at HFO HH;clear hn hnm hA hz hT hV HE HL;go_enter Tryz.func50, Tryz.ntmps50;go_wp2_with fail
 generalize (w.alloc (.cells #[.slice none 0 0, .slice none 0 0, .slice none 0 0] 25)) = w1 at *;generalize hgr : w.heap.size = gr at *;refine (HFO.out).mono ?_;rintro e w2 ⟨gm, rfl, O2, hm2⟩;have HR2 := Hd (O2.blk HR0.out (by simp));have HO2 := Hd O2;have HM2 := Hd hm2;have hgr1 := HR0.out.lt;clear O2 hm2 HFO HR0
 by_cases he : pe = 0
 ·have hb : (pe != 0) = false := by simp [he]
  obtain ⟨V, xs, A0, A1, c0, c1, b, D, hmk, hmb⟩ := HM2.out (.inl he);have hpb := HH.out;rw [if_pos he] at hpb;have hpl := HPL.out he;have HPB := Hd hpb;have HPL2 := Hd hpl;have HEE := Hd he;have hge := mine_ge hmk;have hob : ∀ i ∈ opB4 xs, w1.heap.size ≤ i := fun i hi => hge i (by
   simp only [opB4, List.mem_flatMap] at hi;obtain ⟨x, hx, h⟩ := hi;rw [mine_mem];exact .inr (.inr (.inr ⟨x, hx, by unfold partB; rw [List.mem_append]; exact .inr h⟩)))
  have HOB := Hd hob;have HMH := Hd (mhist_any w1.heap.size gm m V xs A0 A1 c0 c1 b D w2 hmk hmb HO2.out.size (fun w' O => HT.out w' ((HO1.out.trans HO2.out).step O (fun i hi hl => by have := hob i hi; omega))));have hgm : Blk w2 gm 133 _ := hmk.blk;clear he hpb hpl hge hob hmk hmb HPL HH HM2;go_wp2_with fail
  refine (HMH.out).mono ?_;rintro e w3 ⟨B0, B1, B2, d0, d1, d2, ⟨rfl, hA3⟩, O3⟩;have hR3 : Blk w3 gr 25 #[.slice none 0 0, .slice none 0 0, .slice none 0 0] := O3.blk HR2.out (fun hm => by have := HOB.out _ hm; omega);have HR3 := Hd hR3;have HA3 := Hd hA3;have HO3 : Hid (Only [] w w3) := Hd ((HO1.out.trans HO2.out).step O3 (fun i hi hl => by have := HOB.out i hi; omega));rw [← HPB.out] at HA3;rw [← HPB.out];clear hR3 hA3 O3;go_wp2_with (refine wpList_store_blk rfl 25 (.tmp 2) (.tmp 20) rfl gr 25 _ #[.slice B0 ph.ss.length d0, .slice B1 ph.ks.length d1, .slice B2 ph.l.length d2] rfl rfl HR3.out rfl (by kernel_rfl) (by kernel_rfl) ?_; intro w9 b9 o9; have HB9 := Hd b9; have HN9 := Hd o9; clear b9 o9)
  refine bodyPost_ret (results_row3 Tryz.results50 _ _ gr 25 #[.slice B0 ph.ss.length d0, .slice B1 ph.ks.length d1, .slice B2 ph.l.length d2] _ rfl HB9.out Tryz.underlying25 rfl (by kernel_rfl)) rfl ?_;refine ⟨B0, B1, B2, d0, d1, d2, ⟨by rw [HPL2.out, HEE.out]; rfl, hat_past HA3.out HR3.out HN9.out⟩, HO3.out.step HN9.out (fun i hi hl => by simp at hi; omega)⟩
 ·have hb : (pe != 0) = true := by simpa using he
  have hpb := HH.out;rw [if_neg he] at hpb;clear he;subst hpb;go_wp2_with (refine wpList_store_blk rfl 25 (.tmp 2) (.tmp 16) rfl gr 25 _ #[.slice none 0 0, .slice none 0 0, .slice none 0 0] rfl rfl HR2.out rfl (by kernel_rfl) (by kernel_rfl) ?_; intro w9 b9 o9; have HB9 := Hd b9; have HN9 := Hd o9; clear b9 o9)
  refine bodyPost_ret (results_row3 Tryz.results50 _ _ gr 25 #[.slice none 0 0, .slice none 0 0, .slice none 0 0] _ rfl HB9.out Tryz.underlying25 rfl (by kernel_rfl)) rfl ?_;exact ⟨⟨none, none, none, ⟨0, 0, 0, rfl⟩, ⟨.inl rfl, .inl rfl, LRow.nil⟩⟩, (HO1.out.trans HO2.out).step HN9.out (fun i hi hl => by simp at hi; omega)⟩
def showR (s : ByteArray) : Hst × Int × Int :=
 if (logParse s).2.2 = 0 then (pairH (logParse s).1, pairL (logParse s).1, pairE (logParse s).1) else (⟨[], [], []⟩, (logParse s).2.1, (logParse s).2.2)
theorem sparse_any (s : ByteArray) (w : World) (hs : s.size ≤ 65536) (hrow : ∀ x ∈ linesOf (by_ s), x.length ≤ 65535) (hln : (logParse s).1.length ≤ 1000) (hz : ∀ x ∈ (logParse s).1, x.s.size ≤ 65537 ∧ x.y.size ≤ 65537) (hT : UTabs w) (hM : MLen w) (hV : Verbs w) :
  Calls Tryz.prog 32 #[.string s] w fun e w' => ∃ B0 B1 B2 d0 d1 d2, (e = .returned (.tuple #[.agg #[.slice B0 (showR s).1.ss.length d0, .slice B1 (showR s).1.ks.length d1, .slice B2 (showR s).1.l.length d2], .int .i64 (showR s).2.1, .int .i64 (showR s).2.2]) ∧ HAt w' w'.heap.size B0 B1 B2 (showR s).1) ∧ Only [] w w' := by
 have HR0 := Hd (Blk.made w 25 #[.slice none 0 0, .slice none 0 0, .slice none 0 0]);have HO1 := Hd ((Only.refl [] w).alloc (.cells #[.slice none 0 0, .slice none 0 0, .slice none 0 0] 25));have HLP := Hd (logparse_any s _ hs hrow (hT.only HO1.out) (hM.only HO1.out) (hV.only HO1.out));have HPH := Hd (fun (A : Option Addr) (n c : Nat) w' (O : Only [] w w') (hn : (logParse s).1.length = n) hA => phist_any A n c (logParse s).1 w' hn (by omega) hA hz (hT.only O) (hV.only O));clear hs hrow hT hM hV hz;unfold showR;generalize logParse s = r at *;obtain ⟨l, at_, er⟩ := r;dsimp only at HLP HPH hln ⊢;have HN := Hd hln;clear hln
 by_cases he : er = 0
 ·subst he;rw [if_pos rfl];dsimp only
  revert HPH
  generalize pairH l = ph;generalize pairE l = pe;generalize pairL l = pl;intro HPH;go_enter Tryz.func32, Tryz.ntmps32;go_wp2_with fail
  generalize (w.alloc (.cells #[.slice none 0 0, .slice none 0 0, .slice none 0 0] 25)) = w1 at *;generalize hgr : w.heap.size = gr at *;refine (HLP.out).mono ?_;rintro e w2 ⟨O2, V, rfl, hown⟩;have HO2 := Hd (HO1.out.trans O2);have HR2 := Hd (O2.blk HR0.out (by simp));obtain ⟨A, c, rfl, -, -, -, hrow⟩ := own_row hown;have HP := Hd (HPH.out A _ c _ HO2.out rfl hrow);clear O2 hown hrow HPH HLP HR0;generalize l.length = n at *;go_wp2_with fail
  refine (HP.out).mono ?_;rintro e w3 ⟨B0, B1, B2, d0, d1, d2, ⟨rfl, hA3⟩, O3⟩;have HR3 := Hd (O3.blk HR2.out (by simp));have HA3 := Hd hA3;have HO3 := Hd (HO2.out.trans O3);clear O3 HP HO2 HR2 hA3;go_wp2_with (refine wpList_store_blk rfl 25 (.tmp 2) (.tmp 21) rfl gr 25 _ #[.slice B0 ph.ss.length d0, .slice B1 ph.ks.length d1, .slice B2 ph.l.length d2] rfl rfl HR3.out rfl (by kernel_rfl) (by kernel_rfl) ?_; intro w9 b9 o9; have HB9 := Hd b9; have HN9 := Hd o9; clear b9 o9)
  refine bodyPost_ret (results_row3 Tryz.results32 _ _ gr 25 #[.slice B0 ph.ss.length d0, .slice B1 ph.ks.length d1, .slice B2 ph.l.length d2] _ rfl HB9.out Tryz.underlying25 rfl (by kernel_rfl)) rfl ?_;exact ⟨B0, B1, B2, d0, d1, d2, ⟨rfl, hat_past HA3.out HR3.out HN9.out⟩, HO3.out.step HN9.out (fun i hi hl => by simp at hi; omega)⟩
 ·have hne : (er != 0) = true := by simpa using he
  rw [if_neg he];dsimp only;clear he;go_enter Tryz.func32, Tryz.ntmps32;go_wp2_with fail
  generalize (w.alloc (.cells #[.slice none 0 0, .slice none 0 0, .slice none 0 0] 25)) = w1 at *;generalize hgr : w.heap.size = gr at *;refine (HLP.out).mono ?_;rintro e w2 ⟨O2, V, rfl, -⟩;have HO2 := Hd (HO1.out.trans O2);have HR2 := Hd (O2.blk HR0.out (by simp));clear O2 HPH HLP HR0;go_wp2_with (refine wpList_store_blk rfl 25 (.tmp 2) (.tmp 16) rfl gr 25 _ #[.slice none 0 0, .slice none 0 0, .slice none 0 0] rfl rfl HR2.out rfl (by kernel_rfl) (by kernel_rfl) ?_; intro w9 b9 o9; have HB9 := Hd b9; have HN9 := Hd o9; clear b9 o9)
  refine bodyPost_ret (results_row3 Tryz.results32 _ _ gr 25 #[.slice none 0 0, .slice none 0 0, .slice none 0 0] _ rfl HB9.out Tryz.underlying25 rfl (by kernel_rfl)) rfl ?_;exact ⟨none, none, none, 0, 0, 0, ⟨rfl, ⟨.inl rfl, .inl rfl, LRow.nil⟩⟩, HO2.out.step HN9.out (fun i hi hl => by simp at hi; omega)⟩
end Go.Proofs.YthdofaoamljkfaaGreatDoor
namespace Go.Proofs.YthdofaoamljkfaaGreatDoor
open Go.RowKit
theorem take_eq_of {xs ys : List Int} {k : Nat} {x y : Int} (h : xs.take k = ys.take k) (hx : xs[k]? = some x) (hy : ys[k]? = some y) : (xs.take (k + 1) = ys.take (k + 1)) ↔ x = y := by
 rw [List.take_add_one, List.take_add_one, hx, hy, h];simp
theorem sameInts_any (A A' : Option Addr) (n m c d : Nat) (xs ys : List Int) (w : World) (B B' : Nat) (hA : Row w B A (xs.map (Value.int .i64))) (hA' : Row w B' A' (ys.map (Value.int .i64)))
  (hn : xs.length = n) (hm : ys.length = m) (hnm : n ≤ 9223372036854775807) (hmm : m ≤ 9223372036854775807) :
  Calls Tryz.prog 17 #[.slice A n c, .slice A' m d] w fun e w' => e = .returned (.bool (decide (xs = ys))) ∧ ∃ k, w.drewN k = w' := by
 have HA := Hd hA;have HA' := Hd hA';have HN := Hd hn;have HM := Hd hm;clear hA hA' hn hm
 by_cases hlen : n = m
 ·subst hlen;go_enter Tryz.func17, Tryz.ntmps17;go_wp2_with fail
  go_loopw [5] (fun i wr => ∃ k q : Nat, i = .int .i64 k ∧ k ≤ n ∧ Hid (xs.take k = ys.take k) ∧ Hid (wr = w.drewN q)) (fun i _ => n - (intOf i).toNat)
  case atStart => exact ⟨0, 0, rfl, by omega, rfl, rfl⟩
  case round =>
   obtain ⟨k, q, rfl, hk, hsame, hw⟩ := hrel;have hxl := HN.out;have hyl := HM.out
   by_cases hlt : k < n
   ·obtain ⟨b, off, rfl, -, hbw, hc⟩ := HA.out.open_ (k := k) (by simpa using (by omega : k < xs.length));obtain ⟨b', off', rfl, -, hbw', hc'⟩ := HA'.out.open_ (k := k) (by simpa using (by omega : k < ys.length));obtain ⟨x, hx⟩ : ∃ x, xs[k]? = some x := ⟨_, List.getElem?_eq_getElem (by omega)⟩;obtain ⟨y, hy⟩ : ∃ y, ys[k]? = some y := ⟨_, List.getElem?_eq_getElem (by omega)⟩;have hcx : wr.cell? ⟨b, off + k, none⟩ = some (.int .i64 x) := by rw [hw.out]; exact hc k _ (by simp [hx])
    have hcy : wr.cell? ⟨b', off' + k, none⟩ = some (.int .i64 y) := by rw [hw.out]; exact hc' k _ (by simp [hy])
    have hk0 : (0 : Int) ≤ (k : Int) := Int.natCast_nonneg _;have hk1 : (k : Int) < (n : Int) := by omega
    have HX := Hd hx;have HY := Hd hy;clear hx hy hc hc' hxl hyl;go_wp2_with fail
    go_quiet (fail)
    by_cases hxy : x = y
    ·have hb : (x != y) = false := by simp [hxy]
     have HXY := Hd hxy;clear hxy;go_wp2
     go_roundw
     case rel =>
      refine ⟨k + 1, q + nq, by go_num, by omega, (take_eq_of hsame.out HX.out HY.out).2 HXY.out, ?_⟩
      show _ = _
      rw [hw.out, World.drewN_drewN]
     case measure => simp [intOf]; omega
    ·have hb : (x != y) = true := by simp [hxy]
     have HXY := Hd hxy;clear hxy;go_wp2
     go_ret
     refine ⟨?_, q + nq, ?_⟩
     ·have : xs ≠ ys := fun e => HXY.out (by
       have h1 := HX.out;have h2 := HY.out;rw [e] at h1;rw [h1] at h2;exact Option.some.inj h2)
      simp [this]
     ·rw [hw.out, World.drewN_drewN]
   ·have hge : n ≤ k := by omega
    clear hxl hyl;go_wp2
    go_ret
    refine ⟨?_, q, hw.out.symm⟩;have h1 := hsame.out;have h2 := HN.out;have h3 := HM.out;rw [List.take_of_length_le (by omega), List.take_of_length_le (by omega)] at h1;simp [h1]
 ·have hb : ((n : Int) != (m : Int)) = true := by simp; omega
  have hne : xs ≠ ys := fun e => hlen (by rw [← HN.out, ← HM.out, e]);have HNE := Hd hne;clear hlen hne;go_enter Tryz.func17, Tryz.ntmps17;go_wp2
  go_ret
  exact ⟨by simp [HNE.out], 0, rfl⟩
end Go.Proofs.YthdofaoamljkfaaGreatDoor
