/- Parts. -/
import Derived.Test.YtojlaphklkomfaaDoorPairMakesCardK27
set_option maxRecDepth 10000
set_option maxHeartbeats 16000000
set_option linter.unusedVariables false
set_option linter.unusedSimpArgs false
namespace Go.Proofs.YtojlaphklkomfaaDoor
open Go.RowKit
open Go.Lib
theorem row_beside {w w' : World} {B : Nat} {A : Option Addr} {xs : List Value} {g : Nat} {t : TypeId} {cs : Array Value} (h : Row w B A xs) (hb : Blk w g t cs) (hne : ∀ u : Value, xs[0]? = some u → ∀ j : Nat, cs[j]? ≠ some u) (ho : Only [g] w w') : Row w' w'.heap.size A xs := by
 rcases h with rfl | ⟨b, off, rfl, h1, h2, hc⟩
 ·exact .inl rfl
 ·cases xs with
  | nil => exact .inl rfl
  | cons u xs =>
   have h0 := hc 0 u rfl;have hbg : b ≠ g := fun e => by
    subst e;rw [hb.at_] at h0;exact hne u rfl _ h0
   have := ho.size;exact .inr ⟨b, off, rfl, by omega, by omega, fun j v hv => (ho.cell (p := ⟨b, off + j, none⟩) (by show b < _; omega) (by simp [hbg])).trans (hc j v hv)⟩
theorem hat_past {w w' : World} {B : Nat} {A0 A1 A2 : Option Addr} {h : Hst} {g : Nat} {t : TypeId} {a0 a1 a2 : Option Addr} {k0 k1 k2 e0 e1 e2 : Nat} (hI : HAt w B A0 A1 A2 h) (hb : Blk w g t #[.slice a0 k0 e0, .slice a1 k1 e1, .slice a2 k2 e2]) (ho : Only [g] w w') : HAt w' w'.heap.size A0 A1 A2 h := by
 have key : ∀ (u : Value), (∀ a n c, u ≠ .slice a n c) → ∀ j : Nat, (#[Value.slice a0 k0 e0, .slice a1 k1 e1, .slice a2 k2 e2] : Array Value)[j]? ≠ some u := by
  intro u hu j hj
  match j with
  | 0 => simp at hj; exact hu _ _ _ hj.symm
  | 1 => simp at hj; exact hu _ _ _ hj.symm
  | 2 => simp at hj; exact hu _ _ _ hj.symm
  | j + 3 => simp at hj
 obtain ⟨r0, r1, ⟨xs, hx, r2, hxs⟩⟩ := hI;have ks : ∀ l : List ByteArray, ∀ u : Value, (strs l)[0]? = some u → ∀ a n c, u ≠ .slice a n c := by
  intro l u hu a n c e;subst e
  cases l <;> simp [strs] at hu
 refine ⟨row_beside r0 hb (fun u hu => key u (ks _ u hu)) ho, row_beside r1 hb (fun u hu => key u (ks _ u hu)) ho, ⟨xs, hx, row_beside r2 hb (fun u hu => key u ?_) ho, fun x hx => ⟨row_beside (hxs x hx).row hb (fun u hu => key u ?_) ho, (hxs x hx).le, (hxs x hx).cap⟩⟩⟩
 ·intro a n c e;subst e
  cases xs <;> simp [txC, TxA.c] at hu
 ·intro a n c e;subst e
  cases hxo : x.t.ops with
  | nil => rw [hxo] at hu; simp [opC] at hu
  | cons y l => rw [hxo] at hu; simp [opC, Op4.c] at hu
end Go.Proofs.YtojlaphklkomfaaDoor
namespace Go.Proofs.YtojlaphklkomfaaDoor
open Go.RowKit
open Go.Lib hiding intOf
attribute [local go_sem ↓] Go.wp_at_zero Go.wp_at_succ
def pairE (l : List Ev6) : Int := (followR l).2.2
def pairL (l : List Ev6) : Int := (followR l).2.1
def pairH (l : List Ev6) : Hst := if pairE l = 0 then histOf (followR l).1 else ⟨[], [], []⟩
theorem pair_line {l : List Ev6} (h : pairE l = 0) : pairL l = 0 := by
 unfold pairE pairL followR at *
 split
 ·rename_i hr
  rw [if_pos hr] at h;unfold endE at h ⊢;dsimp only at h ⊢
  split
  ·rename_i p hp
   rw [hp] at h
   cases h
  ·rfl
 ·rename_i hr
  rw [if_neg hr] at h;exact absurd h hr
set_option maxRecDepth 100000 in
theorem phist_any (A : Option Addr) (n c : Nat) (l : List Ev6) (w : World) (hn : l.length = n) (hnm : n ≤ 100000) (hA : Row w w.heap.size A (logC l)) (hz : ∀ x ∈ l, x.s.size ≤ 65537 ∧ x.y.size ≤ 65537) (hT : UTabs w) (hV : Verbs w) :
  Calls Tryd.prog 7 #[.slice A n c] w fun e w' => ∃ B0 B1 B2 d0 d1 d2, (e = .returned (.tuple #[.agg #[.slice B0 (pairH l).ss.length d0, .slice B1 (pairH l).ks.length d1, .slice B2 (pairH l).l.length d2], .int .i64 (pairL l), .int .i64 (pairE l)]) ∧ HAt w' w'.heap.size B0 B1 B2 (pairH l)) ∧ Only [] w w' := by
 have HR0 := Hd (Blk.made w 27 #[.slice none 0 0, .slice none 0 0, .slice none 0 0]);have HO1 := Hd ((Only.refl [] w).alloc (.cells #[.slice none 0 0, .slice none 0 0, .slice none 0 0] 27));have HFO := Hd (follow_any A n c l _ hn hnm (row_up (hA.only HO1.out (by simp))) hz (hT.only HO1.out) (hV.only HO1.out));have HT := Hd (fun w' (O : Only [] w w') => hT.only O);have HE : Hid (pairE l = (followR l).2.2) := Hd rfl;have HL : Hid (pairL l = (followR l).2.1) := Hd rfl;have HPL := Hd (@pair_line l);have HH : Hid (pairH l = if pairE l = 0 then histOf (followR l).1 else ⟨[], [], []⟩) := Hd rfl;rw [← HE.out, ← HL.out] at HFO;generalize pairE l = pe at *;generalize pairL l = pl at *;generalize pairH l = ph at *;generalize followR l = fr at *;obtain ⟨m, r⟩ := fr;dsimp only at HFO HH;clear hn hnm hA hz hT hV HE HL;go_enter Tryd.func7, Tryd.ntmps7;go_wp2_with fail
 generalize (w.alloc (.cells #[.slice none 0 0, .slice none 0 0, .slice none 0 0] 27)) = w1 at *;generalize hgr : w.heap.size = gr at *;refine (HFO.out).mono ?_;rintro e w2 ⟨gm, rfl, O2, hm2⟩;have HR2 := Hd (O2.blk HR0.out (by simp));have HO2 := Hd O2;have HM2 := Hd hm2;have hgr1 := HR0.out.lt;clear O2 hm2 HFO HR0
 by_cases he : pe = 0
 ·have hb : (pe != 0) = false := by simp [he]
  obtain ⟨V, xs, A0, A1, c0, c1, b, D, hmk, hmb⟩ := HM2.out (.inl he);have hpb := HH.out;rw [if_pos he] at hpb;have hpl := HPL.out he;have HPB := Hd hpb;have HPL2 := Hd hpl;have HEE := Hd he;have hge := mine_ge hmk;have hob : ∀ i ∈ opB4 xs, w1.heap.size ≤ i := fun i hi => hge i (by
   simp only [opB4, List.mem_flatMap] at hi;obtain ⟨x, hx, h⟩ := hi;rw [mine_mem];exact .inr (.inr (.inr ⟨x, hx, by unfold partB; rw [List.mem_append]; exact .inr h⟩)))
  have HOB := Hd hob;have HMH := Hd (mhist_any w1.heap.size gm m V xs A0 A1 c0 c1 b D w2 hmk hmb HO2.out.size (fun w' O => HT.out w' ((HO1.out.trans HO2.out).step O (fun i hi hl => by have := hob i hi; omega))));have hgm : Blk w2 gm 67 _ := hmk.blk;clear he hpb hpl hge hob hmk hmb HPL HH HM2;go_wp2_with fail
  refine (HMH.out).mono ?_;rintro e w3 ⟨B0, B1, B2, d0, d1, d2, ⟨rfl, hA3⟩, O3⟩;have hR3 : Blk w3 gr 27 #[.slice none 0 0, .slice none 0 0, .slice none 0 0] := O3.blk HR2.out (fun hm => by have := HOB.out _ hm; omega);have HR3 := Hd hR3;have HA3 := Hd hA3;have HO3 : Hid (Only [] w w3) := Hd ((HO1.out.trans HO2.out).step O3 (fun i hi hl => by have := HOB.out i hi; omega));rw [← HPB.out] at HA3;rw [← HPB.out];clear hR3 hA3 O3;go_wp2_with (refine wpList_store_blk rfl 27 (.tmp 2) (.tmp 20) rfl gr 27 _ #[.slice B0 ph.ss.length d0, .slice B1 ph.ks.length d1, .slice B2 ph.l.length d2] rfl rfl HR3.out rfl (by kernel_rfl) (by kernel_rfl) ?_; intro w9 b9 o9; have HB9 := Hd b9; have HN9 := Hd o9; clear b9 o9)
  refine bodyPost_ret (results_row3 Tryd.results7 _ _ gr 27 #[.slice B0 ph.ss.length d0, .slice B1 ph.ks.length d1, .slice B2 ph.l.length d2] _ rfl HB9.out Tryd.underlying27 rfl (by kernel_rfl)) rfl ?_;refine ⟨B0, B1, B2, d0, d1, d2, ⟨by rw [HPL2.out, HEE.out]; rfl, hat_past HA3.out HR3.out HN9.out⟩, HO3.out.step HN9.out (fun i hi hl => by simp at hi; omega)⟩
 ·have hb : (pe != 0) = true := by simpa using he
  have hpb := HH.out;rw [if_neg he] at hpb;clear he;subst hpb;go_wp2_with (refine wpList_store_blk rfl 27 (.tmp 2) (.tmp 16) rfl gr 27 _ #[.slice none 0 0, .slice none 0 0, .slice none 0 0] rfl rfl HR2.out rfl (by kernel_rfl) (by kernel_rfl) ?_; intro w9 b9 o9; have HB9 := Hd b9; have HN9 := Hd o9; clear b9 o9)
  refine bodyPost_ret (results_row3 Tryd.results7 _ _ gr 27 #[.slice none 0 0, .slice none 0 0, .slice none 0 0] _ rfl HB9.out Tryd.underlying27 rfl (by kernel_rfl)) rfl ?_;exact ⟨⟨none, none, none, ⟨0, 0, 0, rfl⟩, ⟨.inl rfl, .inl rfl, LRow.nil⟩⟩, (HO1.out.trans HO2.out).step HN9.out (fun i hi hl => by simp at hi; omega)⟩
theorem sameTexts_same (A A' : Option Addr) (n c d : Nat) (xs : List ByteArray) (w : World) (B B' : Nat) (hA : Row w B A (strs xs)) (hA' : Row w B' A' (strs xs)) (hn : xs.length = n) (hnm : n ≤ 1000000) :
  Calls Tryd.prog 10 #[.slice A n c, .slice A' n d] w fun e w' => e = .returned (.bool true) ∧ ∃ k, w.drewN k = w' := by
 have HA := Hd hA;have HA' := Hd hA';have HN := Hd hn;clear hA hA' hn;go_enter Tryd.func10, Tryd.ntmps10;go_wp2_with fail
 go_loopw [5] (fun i wr => ∃ k q : Nat, i = .int .i64 k ∧ k ≤ n ∧ Hid (wr = w.drewN q)) (fun i _ => n - (intOf i).toNat)
 case atStart => exact ⟨0, 0, rfl, by omega, rfl⟩
 case round =>
  obtain ⟨k, q, rfl, hk, hw⟩ := hrel
  by_cases hlt : k < n
  ·obtain ⟨b, off, rfl, -, hbw, hc⟩ := HA.out.open_ (k := k) (by rw [strs, List.length_map, HN.out]; exact hlt);obtain ⟨b', off', rfl, -, hbw', hc'⟩ := HA'.out.open_ (k := k) (by rw [strs, List.length_map, HN.out]; exact hlt);obtain ⟨x, hx⟩ : ∃ x, xs[k]? = some x := ⟨_, List.getElem?_eq_getElem (by rw [HN.out]; exact hlt)⟩;have hcx : wr.cell? ⟨b, off + k, none⟩ = some (.string x) := by rw [hw.out]; exact hc k _ (by rw [strs, List.getElem?_map, hx]; rfl)
   have hcy : wr.cell? ⟨b', off' + k, none⟩ = some (.string x) := by rw [hw.out]; exact hc' k _ (by rw [strs, List.getElem?_map, hx]; rfl)
   have hk0 : (0 : Int) ≤ (k : Int) := Int.natCast_nonneg _;have hk1 : (k : Int) < (n : Int) := by omega
   clear hx hc hc';go_wp2_with fail
   go_quiet (fail)
   go_wp2
   go_roundw
   case rel =>
    refine ⟨k + 1, q + nq, by go_num, by omega, ?_⟩
    show _ = _
    rw [hw.out, World.drewN_drewN]
   case measure => simp [intOf]; omega
  ·have hkn : k = n := by omega
   subst hkn;have hd : decide ((k : Int) < (k : Int)) = false := by simp
   go_wp2
   go_ret
   exact ⟨rfl, q, hw.out.symm⟩
def ex10 : List Ev6 := [⟨1, ⟨#[115]⟩, ⟨#[]⟩, 0, 0, 0⟩, ⟨2, ⟨#[115]⟩, ⟨#[120]⟩, 0, 0, 0⟩, ⟨4, ⟨#[115]⟩, ⟨#[]⟩, 0, 0, 0⟩]
theorem ex10_e : pairE ex10 = 0 := by kernel_rfl
theorem ex10_l : pairL ex10 = 0 := by kernel_rfl
theorem ex10_h : pairH ex10 = ⟨[⟨#[115]⟩], [⟨#[120]⟩], [⟨0, 1, [⟨false, 0, 0, 0⟩]⟩]⟩ := by kernel_rfl
theorem works10_any (w : World) (hT : UTabs w) (hV : Verbs w) :
  Calls Tryd.prog 13 #[] w fun e w' => e = .returned (.bool true) ∧ Only [] w w' := by
 have HP := Hd (phist_any (some ⟨w.heap.size, 0, none⟩) 3 3 ex10 (w.alloc (.cells (logC ex10).toArray 44)) rfl (by omega) (by have := row_lit w 44 (logC ex10).toArray; simpa using this) (fun x hx => by
  simp [ex10] at hx;rcases hx with rfl | rfl | rfl <;> exact ⟨by decide, by decide⟩) (hT.only ((Only.refl [] w).alloc _)) (hV.only ((Only.refl [] w).alloc _)))
 have HO1 := Hd ((Only.refl [] w).alloc (.cells (logC ex10).toArray 44));rw [ex10_e, ex10_l, ex10_h] at HP;have hlc : (logC ex10).toArray = #[.int .i64 1, .string ⟨#[115]⟩, .string ⟨#[]⟩, .int .i64 0, .int .i64 0, .int .i64 0, .int .i64 2, .string ⟨#[115]⟩, .string ⟨#[120]⟩, .int .i64 0, .int .i64 0, .int .i64 0, .int .i64 4, .string ⟨#[115]⟩, .string ⟨#[]⟩, .int .i64 0, .int .i64 0, .int .i64 0] := rfl;rw [hlc] at HP HO1;clear hT hV hlc;go_enter Tryd.func13, Tryd.ntmps13;go_wp2_with fail
 refine (HP.out).mono ?_;rintro e w2 ⟨B0, B1, B2, d0, d1, d2, ⟨rfl, hA⟩, O2⟩;have HA := Hd hA;have HO2 := Hd (HO1.out.trans O2);clear hA O2 HP HO1;go_upto_region 2 with (fail)
 have HO3 := Hd (HO2.out.alloc (.cells #[.slice B0 1 d0, .slice B1 1 d1, .slice B2 1 d2] 27));have HB3 := Hd (Blk.made w2 27 #[.slice B0 1 d0, .slice B1 1 d1, .slice B2 1 d2]);have HA3 := Hd (HA.out.only ((Only.refl [] w2).alloc (.cells #[.slice B0 1 d0, .slice B1 1 d1, .slice B2 1 d2] 27)) (by simp));generalize (w2.alloc (.cells #[.slice B0 1 d0, .slice B1 1 d1, .slice B2 1 d2] 27)) = w3 at *;generalize w2.heap.size = gh at *;have l3 := HB3.out.lt;have y0 := HB3.out.at_ 0;have y1 := HB3.out.at_ 1;have y2 := HB3.out.at_ 2;simp at y0 y1 y2;obtain ⟨b, off, A', cp, rfl, -, hbw, hTx, -⟩ := HA3.out.r2.at_ (k := 0) rfl;have t1 := hTx.c1;simp at t1;have HST := Hd (fun w' A c (O : Only [] w3 w') B hB => sameTexts_same B1 A 1 d1 c [⟨#[120]⟩] w' gh B (HA3.out.r1.only O (by simp)) hB rfl (by omega));have HL4 := Hd (row_lit w3 9 #[.string ⟨#[120]⟩]);clear hTx;go_wp2_with fail
 refine (HST.out _ _ _ ((Only.refl [] w3).alloc _) _ HL4.out).mono ?_;rintro e w4 ⟨rfl, q, rfl⟩;go_wp2
 go_ret
 exact ⟨rfl, (HO3.out.alloc _).drewN q⟩
def cnt (kind : Int) (l : List Ev6) : Nat := l.countP fun x => decide (x.k = kind)

end Go.Proofs.YtojlaphklkomfaaDoor
