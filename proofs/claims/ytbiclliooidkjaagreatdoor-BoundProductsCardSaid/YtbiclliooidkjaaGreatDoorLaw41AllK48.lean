/- Parts. -/
import Derived.Test.YtbiclliooidkjaaGreatDoorLaw41AllK47
import Derived.Test.YtbiclliooidkjaaGreatDoorLaw41AllK41
import Derived.Test.YtbiclliooidkjaaGreatDoorLaw41AllK35
import Derived.Handed
import Derived.Shelf.Vars
import Derived.HandedShaped
set_option maxRecDepth 10000
set_option maxHeartbeats 16000000
set_option linter.unusedVariables false
set_option linter.unusedSimpArgs false
namespace Go.Proofs.YtbiclliooidkjaaGreatDoor
open Go.RowKit
open Go.Lib
theorem row_beside {w w' : World} {B : Nat} {A : Option Addr} {xs : List Value} {g : Nat} {t : TypeId} {cs : Array Value} (h : Row w B A xs) (hb : Blk w g t cs) (hne : ∀ u : Value, xs[0]? = some u → ∀ j : Nat, cs[j]? ≠ some u) (ho : Only [g] w w') : Row w' w'.heap.size A xs := by
 rcases h with rfl | ⟨b, off, rfl, h1, h2, hc⟩
 ·exact .inl rfl
 ·cases xs with
  | nil => exact .inl rfl
  | cons u xs =>
   have h0 := hc 0 u rfl;have hbg : b ≠ g := fun e => by
    subst e;rw [hb.at_] at h0;exact hne u rfl _ h0
   have := ho.size;exact .inr ⟨b, off, rfl, by omega, by omega, fun j v hv => (ho.cell (p := ⟨b, off + j, none⟩) (by show b < _; omega) (by simp [hbg])).trans (hc j v hv)⟩
theorem hat_past {w w' : World} {B : Nat} {A0 A1 A2 : Option Addr} {h : Hst} {g : Nat} {t : TypeId} {a0 a1 a2 : Option Addr} {k0 k1 k2 e0 e1 e2 : Nat} (hI : HAt w B A0 A1 A2 h) (hb : Blk w g t #[.slice a0 k0 e0, .slice a1 k1 e1, .slice a2 k2 e2]) (ho : Only [g] w w') : HAt w' w'.heap.size A0 A1 A2 h := by
 have key : ∀ (u : Value), (∀ a n c, u ≠ .slice a n c) → ∀ j : Nat, (#[Value.slice a0 k0 e0, .slice a1 k1 e1, .slice a2 k2 e2] : Array Value)[j]? ≠ some u := by
  intro u hu j hj
  match j with
  | 0 => simp at hj; exact hu _ _ _ hj.symm
  | 1 => simp at hj; exact hu _ _ _ hj.symm
  | 2 => simp at hj; exact hu _ _ _ hj.symm
  | j + 3 => simp at hj
 obtain ⟨r0, r1, ⟨xs, hx, r2, hxs⟩⟩ := hI;have ks : ∀ l : List ByteArray, ∀ u : Value, (strs l)[0]? = some u → ∀ a n c, u ≠ .slice a n c := by
  intro l u hu a n c e;subst e
  cases l <;> simp [strs] at hu
 refine ⟨row_beside r0 hb (fun u hu => key u (ks _ u hu)) ho, row_beside r1 hb (fun u hu => key u (ks _ u hu)) ho, ⟨xs, hx, row_beside r2 hb (fun u hu => key u ?_) ho, fun x hx => ⟨row_beside (hxs x hx).row hb (fun u hu => key u ?_) ho, (hxs x hx).le, (hxs x hx).cap⟩⟩⟩
 ·intro a n c e;subst e
  cases xs <;> simp [txC, TxA.c] at hu
 ·intro a n c e;subst e
  cases hxo : x.t.ops with
  | nil => rw [hxo] at hu; simp [opC] at hu
  | cons y l => rw [hxo] at hu; simp [opC, Op4.c] at hu
end Go.Proofs.YtbiclliooidkjaaGreatDoor
namespace Go.Proofs.YtbiclliooidkjaaGreatDoor
open Go.RowKit
open Go.Lib hiding intOf
attribute [local go_sem ↓] Go.wp_at_zero Go.wp_at_succ
def pairE (l : List Ev6) : Int := (followR l).2.2
def pairL (l : List Ev6) : Int := (followR l).2.1
def pairH (l : List Ev6) : Hst := if pairE l = 0 then histOf (followR l).1 else ⟨[], [], []⟩
theorem pair_line {l : List Ev6} (h : pairE l = 0) : pairL l = 0 := by
 unfold pairE pairL followR at *
 split
 ·rename_i hr
  rw [if_pos hr] at h;unfold endE at h ⊢;dsimp only at h ⊢
  split
  ·rename_i p hp
   rw [hp] at h
   cases h
  ·rfl
 ·rename_i hr
  rw [if_neg hr] at h;exact absurd h hr
set_option maxRecDepth 100000 in
theorem phist_any (A : Option Addr) (n c : Nat) (l : List Ev6) (w : World) (hn : l.length = n) (hnm : n ≤ 100000) (hA : Row w w.heap.size A (logC l)) (hz : ∀ x ∈ l, x.s.size ≤ 65537 ∧ x.y.size ≤ 65537) (hT : UTabs w) (hV : Verbs w) :
  Calls Tryz.prog 38 #[.slice A n c] w fun e w' => ∃ B0 B1 B2 d0 d1 d2, (e = .returned (.tuple #[.agg #[.slice B0 (pairH l).ss.length d0, .slice B1 (pairH l).ks.length d1, .slice B2 (pairH l).l.length d2], .int .i64 (pairL l), .int .i64 (pairE l)]) ∧ HAt w' w'.heap.size B0 B1 B2 (pairH l)) ∧ Only [] w w' := by
 have HR0 := Hd (Blk.made w 25 #[.slice none 0 0, .slice none 0 0, .slice none 0 0]);have HO1 := Hd ((Only.refl [] w).alloc (.cells #[.slice none 0 0, .slice none 0 0, .slice none 0 0] 25));have HFO := Hd (follow_any A n c l _ hn hnm (row_up (hA.only HO1.out (by simp))) hz (hT.only HO1.out) (hV.only HO1.out));have HT := Hd (fun w' (O : Only [] w w') => hT.only O);have HE : Hid (pairE l = (followR l).2.2) := Hd rfl;have HL : Hid (pairL l = (followR l).2.1) := Hd rfl;have HPL := Hd (@pair_line l);have HH : Hid (pairH l = if pairE l = 0 then histOf (followR l).1 else ⟨[], [], []⟩) := Hd rfl;rw [← HE.out, ← HL.out] at HFO;generalize pairE l = pe at *;generalize pairL l = pl at *;generalize pairH l = ph at *;generalize followR l = fr at *;obtain ⟨m, r⟩ := fr;dsimp only at HFO HH;clear hn hnm hA hz hT hV HE HL;go_enter Tryz.func38, Tryz.ntmps38;go_wp2_with fail
 generalize (w.alloc (.cells #[.slice none 0 0, .slice none 0 0, .slice none 0 0] 25)) = w1 at *;generalize hgr : w.heap.size = gr at *;refine (HFO.out).mono ?_;rintro e w2 ⟨gm, rfl, O2, hm2⟩;have HR2 := Hd (O2.blk HR0.out (by simp));have HO2 := Hd O2;have HM2 := Hd hm2;have hgr1 := HR0.out.lt;clear O2 hm2 HFO HR0
 by_cases he : pe = 0
 ·have hb : (pe != 0) = false := by simp [he]
  obtain ⟨V, xs, A0, A1, c0, c1, b, D, hmk, hmb⟩ := HM2.out (.inl he);have hpb := HH.out;rw [if_pos he] at hpb;have hpl := HPL.out he;have HPB := Hd hpb;have HPL2 := Hd hpl;have HEE := Hd he;have hge := mine_ge hmk;have hob : ∀ i ∈ opB4 xs, w1.heap.size ≤ i := fun i hi => hge i (by
   simp only [opB4, List.mem_flatMap] at hi;obtain ⟨x, hx, h⟩ := hi;rw [mine_mem];exact .inr (.inr (.inr ⟨x, hx, by unfold partB; rw [List.mem_append]; exact .inr h⟩)))
  have HOB := Hd hob;have HMH := Hd (mhist_any w1.heap.size gm m V xs A0 A1 c0 c1 b D w2 hmk hmb HO2.out.size (fun w' O => HT.out w' ((HO1.out.trans HO2.out).step O (fun i hi hl => by have := hob i hi; omega))));have hgm : Blk w2 gm 133 _ := hmk.blk;clear he hpb hpl hge hob hmk hmb HPL HH HM2;go_wp2_with fail
  refine (HMH.out).mono ?_;rintro e w3 ⟨B0, B1, B2, d0, d1, d2, ⟨rfl, hA3⟩, O3⟩;have hR3 : Blk w3 gr 25 #[.slice none 0 0, .slice none 0 0, .slice none 0 0] := O3.blk HR2.out (fun hm => by have := HOB.out _ hm; omega);have HR3 := Hd hR3;have HA3 := Hd hA3;have HO3 : Hid (Only [] w w3) := Hd ((HO1.out.trans HO2.out).step O3 (fun i hi hl => by have := HOB.out i hi; omega));rw [← HPB.out] at HA3;rw [← HPB.out];clear hR3 hA3 O3;go_wp2_with (refine wpList_store_blk rfl 25 (.tmp 2) (.tmp 20) rfl gr 25 _ #[.slice B0 ph.ss.length d0, .slice B1 ph.ks.length d1, .slice B2 ph.l.length d2] rfl rfl HR3.out rfl (by kernel_rfl) (by kernel_rfl) ?_; intro w9 b9 o9; have HB9 := Hd b9; have HN9 := Hd o9; clear b9 o9)
  refine bodyPost_ret (results_row3 Tryz.results38 _ _ gr 25 #[.slice B0 ph.ss.length d0, .slice B1 ph.ks.length d1, .slice B2 ph.l.length d2] _ rfl HB9.out Tryz.underlying25 rfl (by kernel_rfl)) rfl ?_;refine ⟨B0, B1, B2, d0, d1, d2, ⟨by rw [HPL2.out, HEE.out]; rfl, hat_past HA3.out HR3.out HN9.out⟩, HO3.out.step HN9.out (fun i hi hl => by simp at hi; omega)⟩
 ·have hb : (pe != 0) = true := by simpa using he
  have hpb := HH.out;rw [if_neg he] at hpb;clear he;subst hpb;go_wp2_with (refine wpList_store_blk rfl 25 (.tmp 2) (.tmp 16) rfl gr 25 _ #[.slice none 0 0, .slice none 0 0, .slice none 0 0] rfl rfl HR2.out rfl (by kernel_rfl) (by kernel_rfl) ?_; intro w9 b9 o9; have HB9 := Hd b9; have HN9 := Hd o9; clear b9 o9)
  refine bodyPost_ret (results_row3 Tryz.results38 _ _ gr 25 #[.slice none 0 0, .slice none 0 0, .slice none 0 0] _ rfl HB9.out Tryz.underlying25 rfl (by kernel_rfl)) rfl ?_;exact ⟨⟨none, none, none, ⟨0, 0, 0, rfl⟩, ⟨.inl rfl, .inl rfl, LRow.nil⟩⟩, (HO1.out.trans HO2.out).step HN9.out (fun i hi hl => by simp at hi; omega)⟩
def showR (s : ByteArray) : Hst × Int × Int :=
 if (logParse s).2.2 = 0 then (pairH (logParse s).1, pairL (logParse s).1, pairE (logParse s).1) else (⟨[], [], []⟩, (logParse s).2.1, (logParse s).2.2)
theorem sparse_any (s : ByteArray) (w : World) (hs : s.size ≤ 65536) (hrow : ∀ x ∈ linesOf (by_ s), x.length ≤ 65535) (hln : (logParse s).1.length ≤ 1000) (hz : ∀ x ∈ (logParse s).1, x.s.size ≤ 65537 ∧ x.y.size ≤ 65537) (hT : UTabs w) (hM : MLen w) (hV : Verbs w) :
  Calls Tryz.prog 23 #[.string s] w fun e w' => ∃ B0 B1 B2 d0 d1 d2, (e = .returned (.tuple #[.agg #[.slice B0 (showR s).1.ss.length d0, .slice B1 (showR s).1.ks.length d1, .slice B2 (showR s).1.l.length d2], .int .i64 (showR s).2.1, .int .i64 (showR s).2.2]) ∧ HAt w' w'.heap.size B0 B1 B2 (showR s).1) ∧ Only [] w w' := by
 have HR0 := Hd (Blk.made w 25 #[.slice none 0 0, .slice none 0 0, .slice none 0 0]);have HO1 := Hd ((Only.refl [] w).alloc (.cells #[.slice none 0 0, .slice none 0 0, .slice none 0 0] 25));have HLP := Hd (logparse_any s _ hs hrow (hT.only HO1.out) (hM.only HO1.out) (hV.only HO1.out));have HPH := Hd (fun (A : Option Addr) (n c : Nat) w' (O : Only [] w w') (hn : (logParse s).1.length = n) hA => phist_any A n c (logParse s).1 w' hn (by omega) hA hz (hT.only O) (hV.only O));clear hs hrow hT hM hV hz;unfold showR;generalize logParse s = r at *;obtain ⟨l, at_, er⟩ := r;dsimp only at HLP HPH hln ⊢;have HN := Hd hln;clear hln
 by_cases he : er = 0
 ·subst he;rw [if_pos rfl];dsimp only
  revert HPH
  generalize pairH l = ph;generalize pairE l = pe;generalize pairL l = pl;intro HPH;go_enter Tryz.func23, Tryz.ntmps23;go_wp2_with fail
  generalize (w.alloc (.cells #[.slice none 0 0, .slice none 0 0, .slice none 0 0] 25)) = w1 at *;generalize hgr : w.heap.size = gr at *;refine (HLP.out).mono ?_;rintro e w2 ⟨O2, V, rfl, hown⟩;have HO2 := Hd (HO1.out.trans O2);have HR2 := Hd (O2.blk HR0.out (by simp));obtain ⟨A, c, rfl, -, -, -, hrow⟩ := own_row hown;have HP := Hd (HPH.out A _ c _ HO2.out rfl hrow);clear O2 hown hrow HPH HLP HR0;generalize l.length = n at *;go_wp2_with fail
  refine (HP.out).mono ?_;rintro e w3 ⟨B0, B1, B2, d0, d1, d2, ⟨rfl, hA3⟩, O3⟩;have HR3 := Hd (O3.blk HR2.out (by simp));have HA3 := Hd hA3;have HO3 := Hd (HO2.out.trans O3);clear O3 HP HO2 HR2 hA3;go_wp2_with (refine wpList_store_blk rfl 25 (.tmp 2) (.tmp 21) rfl gr 25 _ #[.slice B0 ph.ss.length d0, .slice B1 ph.ks.length d1, .slice B2 ph.l.length d2] rfl rfl HR3.out rfl (by kernel_rfl) (by kernel_rfl) ?_; intro w9 b9 o9; have HB9 := Hd b9; have HN9 := Hd o9; clear b9 o9)
  refine bodyPost_ret (results_row3 Tryz.results23 _ _ gr 25 #[.slice B0 ph.ss.length d0, .slice B1 ph.ks.length d1, .slice B2 ph.l.length d2] _ rfl HB9.out Tryz.underlying25 rfl (by kernel_rfl)) rfl ?_;exact ⟨B0, B1, B2, d0, d1, d2, ⟨rfl, hat_past HA3.out HR3.out HN9.out⟩, HO3.out.step HN9.out (fun i hi hl => by simp at hi; omega)⟩
 ·have hne : (er != 0) = true := by simpa using he
  rw [if_neg he];dsimp only;clear he;go_enter Tryz.func23, Tryz.ntmps23;go_wp2_with fail
  generalize (w.alloc (.cells #[.slice none 0 0, .slice none 0 0, .slice none 0 0] 25)) = w1 at *;generalize hgr : w.heap.size = gr at *;refine (HLP.out).mono ?_;rintro e w2 ⟨O2, V, rfl, -⟩;have HO2 := Hd (HO1.out.trans O2);have HR2 := Hd (O2.blk HR0.out (by simp));clear O2 HPH HLP HR0;go_wp2_with (refine wpList_store_blk rfl 25 (.tmp 2) (.tmp 16) rfl gr 25 _ #[.slice none 0 0, .slice none 0 0, .slice none 0 0] rfl rfl HR2.out rfl (by kernel_rfl) (by kernel_rfl) ?_; intro w9 b9 o9; have HB9 := Hd b9; have HN9 := Hd o9; clear b9 o9)
  refine bodyPost_ret (results_row3 Tryz.results23 _ _ gr 25 #[.slice none 0 0, .slice none 0 0, .slice none 0 0] _ rfl HB9.out Tryz.underlying25 rfl (by kernel_rfl)) rfl ?_;exact ⟨none, none, none, 0, 0, 0, ⟨rfl, ⟨.inl rfl, .inl rfl, LRow.nil⟩⟩, HO2.out.step HN9.out (fun i hi hl => by simp at hi; omega)⟩
def ex41 : ByteArray := ⟨#[98, 101, 103, 105, 110, 32, 115, 10, 105, 110, 102, 111, 32, 115]⟩
def hist41 : Hst := ⟨[⟨#[115]⟩], [], [⟨0, 3, []⟩]⟩
def evs41 : List Ev6 := [⟨1, ⟨#[115]⟩, ⟨#[]⟩, 0, 0, 1⟩, ⟨6, ⟨#[115]⟩, ⟨#[]⟩, 0, 0, 2⟩]
theorem ex41_log : logParse ex41 = (evs41, 0, 0) := by kernel_rfl
theorem ex41_rows : (linesOf (by_ ex41)).all (fun x => decide (x.length ≤ 65535)) = true := by kernel_rfl
theorem ex41_h : pairH evs41 = hist41 := by kernel_rfl
theorem ex41_e : pairE evs41 = 0 := by kernel_rfl
theorem ex41_l : pairL evs41 = 0 := by kernel_rfl
theorem ex41_show : showR ex41 = (hist41, 0, 0) := by
 unfold showR;rw [ex41_log];dsimp only;rw [if_pos rfl, ex41_h, ex41_e, ex41_l]
theorem ex41_bound : bndR hist41 1 = (8, 0) := by decide +kernel
theorem ex41_small : HSmall hist41 := ⟨fun x hx => by simp [hist41] at hx; subst hx; decide, fun x hx => (by cases hx), by decide, by decide, by decide, fun t ht => by simp [hist41] at ht; subst ht; decide⟩
theorem works41_any (w : World) (hT : UTabs w) (hM : MLen w) (hV : Verbs w) :
  Calls Tryz.prog 8 #[] w fun e w' => e = .returned (.bool true) ∧ Only [] w w' := by
 have HP := Hd (sparse_any ex41 w (by decide) (fun x hx => by simpa using List.all_eq_true.1 ex41_rows x hx) (by rw [ex41_log]; decide) (fun x hx => by
  rw [ex41_log] at hx;simp [evs41] at hx;rcases hx with rfl | rfl <;> exact ⟨by decide, by decide⟩) hT hM hV)
 have HBO := Hd (fun (A0 A1 A2 : Option Addr) (c0 c1 c2 B : Nat) w' (hA : HAt w' B A0 A1 A2 hist41) (O : Only [] w w') => bof_any A0 A1 A2 1 0 1 c0 c1 c2 B hist41 1 w' ⟨hA, rfl, rfl, rfl, ex41_small, hT.only O⟩);rw [ex41_show] at HP;rw [ex41_bound] at HBO;unfold ex41 at HP;unfold hval at HBO;clear hT hM hV;go_enter Tryz.func8, Tryz.ntmps8;go_wp2_with fail
 refine (HP.out).mono ?_;rintro e w2 ⟨B0, B1, B2, d0, d1, d2, ⟨rfl, hA⟩, O2⟩;have HA := Hd hA;have HO2 := Hd O2;clear hA O2 HP;rw [show hist41.ss.length = 1 from rfl, show hist41.ks.length = 0 from rfl, show hist41.l.length = 1 from rfl];go_upto_region 2 with (fail)
 have HO3 := Hd (HO2.out.alloc (.cells #[.slice B0 1 d0, .slice B1 0 d1, .slice B2 1 d2] 25));have HB3 := Hd (Blk.made w2 25 #[.slice B0 1 d0, .slice B1 0 d1, .slice B2 1 d2]);have HQ := Hd (HBO.out B0 B1 B2 d0 d1 d2 w2.heap.size _ (HA.out.only ((Only.refl [] w2).alloc (.cells #[.slice B0 1 d0, .slice B1 0 d1, .slice B2 1 d2] 25)) (by simp)) HO3.out);clear HA HO2 HBO;generalize (w2.alloc (.cells #[.slice B0 1 d0, .slice B1 0 d1, .slice B2 1 d2] 25)) = w3 at *;generalize hg2 : w2.heap.size = g2 at *;have lB := HB3.out.lt;have y0 := HB3.out.at_ 0;have y1 := HB3.out.at_ 1;have y2 := HB3.out.at_ 2;simp at y0 y1 y2;go_wp2_with fail
 refine (HQ.out).mono ?_;rintro e w4 ⟨rfl, O4⟩;have HO4 := Hd (HO3.out.trans O4);clear O4;go_wp2
 go_ret
 exact ⟨rfl, HO4.out⟩
theorem boundOf_walk (A0 A1 A2 : Option Addr) (c0 c1 c2 : Nat) (h : Hst) (y : Int) (w : World) (hg : HAt w w.heap.size A0 A1 A2 h) (hm0 : h.ss.length ≤ maxLen) (hm1 : h.ks.length ≤ maxLen) (hm2 : h.l.length ≤ maxLen)
  (hz0 : ∀ z ∈ h.ss, z.size ≤ maxLen) (hz1 : ∀ z ∈ h.ks, z.size ≤ maxLen) (hT : UTabs w) (hM : MLen w) (hV : Verbs w) :
  Calls Tryz.prog 3 #[hval A0 A1 A2 h.ss.length h.ks.length h.l.length c0 c1 c2, .int .i64 y] w fun e w' => e = .returned (.bool true) ∧ Only [] w w' := by
 unfold hval;have HW := Hd (fun w' (h : Only [] w w') => works41_any w' (hT.only h) (hM.only h) (hV.only h));have HF0 := Hd (fun w' (O : Only [] w w') => few_first A0 A1 A2 c0 c1 c2 h w' (hg.only O (by simp)).up hm0 hm1 hm2 hz0 hz1 (hT.only O));have HFE := Hd (few_few h);have HT := Hd hT;generalize fewH h = G at *;generalize h.ss.length = n0 at *;generalize h.ks.length = n1 at *;generalize h.l.length = n2 at *;generalize G.ss.length = m0 at *;generalize G.ks.length = m1 at *;generalize G.l.length = m2 at *;clear hg hm0 hm1 hm2 hz0 hz1 hT hM hV;have HBO := Hd (fun (D0 D1 D2 : Option Addr) (f0 f1 f2 B : Nat) w' (hI : HIn w' B D0 D1 D2 m0 m1 m2 G) => bof_any D0 D1 D2 m0 m1 m2 f0 f1 f2 B G y w' hI);have HRO := Hd (fun (D0 D1 D2 : Option Addr) (f0 f1 f2 B : Nat) w' (hI : HIn w' B D0 D1 D2 m0 m1 m2 G) => rbof_any D0 D1 D2 m0 m1 m2 f0 f1 f2 B G y w' hI);unfold hval at HBO HRO;generalize bndR G y = R at *;obtain ⟨ra, rb⟩ := R;dsimp only at HBO HRO;have HB1 := Hd (Blk.made w 25 #[.slice A0 n0 c0, .slice A1 n1 c1, .slice A2 n2 c2]);have HO1 := Hd ((Only.refl [] w).alloc (.cells #[.slice A0 n0 c0, .slice A1 n1 c1, .slice A2 n2 c2] 25));go_enter Tryz.func3, Tryz.ntmps3;go_wp2_with fail
 refine (HF0.out _ HO1.out).mono ?_;rintro e w2 ⟨B0, B1, B2, d0, d1, d2, ⟨rfl, hI⟩, O2⟩;have HI := Hd hI;have HB2 := Hd (O2.blk HB1.out (by simp));have HO2 := Hd (HO1.out.trans O2);clear hI O2 HB1 HO1 HF0;go_wp2_with (refine wpList_store_blk rfl 25 (.tmp 2) (.tmp 10) rfl w.heap.size 25 _ #[.slice B0 m0 d0, .slice B1 m1 d1, .slice B2 m2 d2] rfl rfl HB2.out rfl (by kernel_rfl) (by kernel_rfl) ?_; intro w3 hb3 o3; have HB3 := Hd hb3; have HO3 := Hd (HO2.out.step o3 (fun i hi hl => by simp at hi; omega)); have HI3 := Hd (HI.out.past HB2.out o3 (HT.out.only HO3.out)); have lB := HB3.out.lt; have y0 := HB3.out.at_ 0; have y1 := HB3.out.at_ 1; have y2 := HB3.out.at_ 2; simp at y0 y1 y2; clear hb3 o3; clear HI HB2 HO2)
 generalize hgg : w.heap.size = g at *;refine (few_in _ _ _ _ _ _ _ _ _ _ _ _ HI3.out HFE.out).mono ?_;rintro e w4 ⟨D0, D1, D2, f0, f1, f2, ⟨rfl, hI4⟩, O4⟩;have HO4 := Hd (HO3.out.trans O4);have HB4 := Hd (O4.blk HB3.out (by simp));have HI4 := Hd (HI3.out.same O4);have HJ4 := Hd hI4;clear O4 hI4 HO3 HB3 HI3 lB y0 y1 y2;go_wp2_with fail
 refine (HBO.out _ _ _ _ _ _ _ _ HJ4.out).mono ?_;rintro e w5 ⟨rfl, O5⟩;have HO5 := Hd (HO4.out.trans O5);have HB5 := Hd (O5.blk HB4.out (by simp));have HI5 := Hd (HI4.out.same O5);clear O5 HO4 HB4 HI4 HJ4;have lB := HB5.out.lt;have y0 := HB5.out.at_ 0;have y1 := HB5.out.at_ 1;have y2 := HB5.out.at_ 2;simp at y0 y1 y2;go_wp2_with fail
 refine (HRO.out _ _ _ _ _ _ _ _ HI5.out).mono ?_;rintro e w6 ⟨rfl, O6⟩;have HO6 := Hd (HO5.out.trans O6);clear O6 HO5 HB5 HI5 lB y0 y1 y2;have hb1 : (ra == ra) = true := by simp
 have hb2 : (rb == rb) = true := by simp
 go_wp2_with fail
 refine (HW.out _ HO6.out).mono ?_;rintro e w7 ⟨rfl, O7⟩;have HO7 := Hd (HO6.out.trans O7);clear O7;go_wp2
 go_ret
 exact ⟨rfl, HO7.out⟩
end Go.Proofs.YtbiclliooidkjaaGreatDoor
namespace Go.Proofs.YtbiclliooidkjaaGreatDoor
open Go.ChangeShapes Go.WideShapes Go.ChangeAt Go.RowKit
theorem handed_and_shaped {H : Type} {enc : TypeId × Value → H} {a : Assume} {C : Checked} {os : Os} {f : FuncId} {fn : Func} {s : ChangeSpec} {conds : List PathCond} {apart fresh handsOn again : Bool} {X : World → Array Value → Prop}
  (hX : ∀ (w w' : World) (args : Array Value), w.heap = w'.heap → X w args → X w' args)
  (own : ownKnob C.prog.godebug = none) (started : os.Started) (noInit : C.prog.inits.idxOf? f = none) (hfn : C.prog.funcs[f]? = some fn)
  (witness : ∃ (w : World) (tape : Tape) (i : Input), w.os = os ∧ (w.forCall tape i).Shaped C.prog ∧ i.vars = [] ∧ Input.okWide C.prog (w.forCall tape i) .any w.heap.size f i ∧
   ((s.pre enc C.prog fn conds apart (w.forCall tape i).memory i.args ∧ X (w.forCall tape i).memory i.args) ∧ sizedMet enc C.prog fn (OpenSpec.ofChange s) apart (w.forCall tape i).memory i.args) ∧ a.holds C.prog (lone (Frame.enter C.prog f i.args .normal) [] (w.forCall tape i)))
  (contract : ∀ (W : World) (base : Nat) (args : Array Value) (ds gs : List (DataW H)) (before : List MemPlace),
   (∀ (j : Nat) t v, fn.params[j]? = some t → args[j]? = some v → Value.okWide C.prog W .any base t v) →
   DataW.Whole enc C.prog fn.params.toList s.vars apart W args.toList ds gs before →
   W.ShapedOpen C.prog →
   (DataW.weightsEach C.prog (fn.params.toList ++ s.plain.varTypes C.prog) (ds ++ gs)).all (· ≤ reachBytes) = true → X W args →
   a.holds C.prog (lone (Frame.enter C.prog f args .normal) [] W) →
   Calls C.prog f args W fun e W' => ∃ v, e = .returned v ∧ s.post enc C.prog fn apart fresh handsOn again W args v W') :
  ReturnsInHanded a C os f .any (fun w args => (s.pre enc C.prog fn conds apart w args ∧ X w args) ∧ sizedMet enc C.prog fn (OpenSpec.ofChange s) apart w args) (s.post enc C.prog fn apart fresh handsOn again) := by
 refine returnsInHanded_of_calls own started noInit witness ?_;intro w tape i _ hsh _ hok hpre hholds;obtain ⟨_, _, _, fn', hfn', _, _, _, _, hval⟩ := hok;have e : fn' = fn := Option.some.inj (hfn'.symm.trans hfn);subst e;obtain ⟨⟨⟨ds, gs, before, hw, hc⟩, hx⟩, hz⟩ := hpre;have hw' := DataW.Whole.of_heap (w' := w.forCall tape i) (by rfl) hw;refine (contract (w.forCall tape i) w.heap.size i.args ds gs before hval hw' hsh (hz.weights hw) (hX _ _ _ (by rfl) hx) hholds).mono fun e W' ⟨v, he, hp⟩ => ?_;subst he;exact ChangeSpec.post_blind hp
theorem mlen_of_shaped {W : World} (h : W.ShapedOpen Tryz.prog) : MLen W :=
 Go.Proofs.cell_of_shapedOpen_int (zero := #[.int .i64 0]) (t := 3) h (of_decide_eq_true (by kernel_rfl)) (by kernel_rfl) rfl (by kernel_rfl) (by kernel_rfl) Tryz.underlying3
end Go.Proofs.YtbiclliooidkjaaGreatDoor
