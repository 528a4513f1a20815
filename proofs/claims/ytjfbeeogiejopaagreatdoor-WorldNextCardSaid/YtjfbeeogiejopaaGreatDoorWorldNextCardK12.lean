/- Parts. -/
import Derived.Test.YtjfbeeogiejopaaGreatDoorWorldNextCardK11
set_option maxRecDepth 10000
set_option maxHeartbeats 16000000
set_option linter.unusedVariables false
set_option linter.unusedSimpArgs false
namespace Go.Proofs.YtjfbeeogiejopaaGreatDoor
open Go.RowKit
open Go.Lib
theorem row_beside {w w' : World} {B : Nat} {A : Option Addr} {xs : List Value} {g : Nat} {t : TypeId} {cs : Array Value} (h : Row w B A xs) (hb : Blk w g t cs) (hne : ∀ u : Value, xs[0]? = some u → ∀ j : Nat, cs[j]? ≠ some u) (ho : Only [g] w w') : Row w' w'.heap.size A xs := by
 rcases h with rfl | ⟨b, off, rfl, h1, h2, hc⟩
 ·exact .inl rfl
 ·cases xs with
  | nil => exact .inl rfl
  | cons u xs =>
   have h0 := hc 0 u rfl;have hbg : b ≠ g := fun e => by
    subst e;rw [hb.at_] at h0;exact hne u rfl _ h0
   have := ho.size;exact .inr ⟨b, off, rfl, by omega, by omega, fun j v hv => (ho.cell (p := ⟨b, off + j, none⟩) (by show b < _; omega) (by simp [hbg])).trans (hc j v hv)⟩
theorem hat_past {w w' : World} {B : Nat} {A0 A1 A2 : Option Addr} {h : Hst} {g : Nat} {t : TypeId} {a0 a1 a2 : Option Addr} {k0 k1 k2 e0 e1 e2 : Nat} (hI : HAt w B A0 A1 A2 h) (hb : Blk w g t #[.slice a0 k0 e0, .slice a1 k1 e1, .slice a2 k2 e2]) (ho : Only [g] w w') : HAt w' w'.heap.size A0 A1 A2 h := by
 have key : ∀ (u : Value), (∀ a n c, u ≠ .slice a n c) → ∀ j : Nat, (#[Value.slice a0 k0 e0, .slice a1 k1 e1, .slice a2 k2 e2] : Array Value)[j]? ≠ some u := by
  intro u hu j hj
  match j with
  | 0 => simp at hj; exact hu _ _ _ hj.symm
  | 1 => simp at hj; exact hu _ _ _ hj.symm
  | 2 => simp at hj; exact hu _ _ _ hj.symm
  | j + 3 => simp at hj
 obtain ⟨r0, r1, ⟨xs, hx, r2, hxs⟩⟩ := hI;have ks : ∀ l : List ByteArray, ∀ u : Value, (strs l)[0]? = some u → ∀ a n c, u ≠ .slice a n c := by
  intro l u hu a n c e;subst e
  cases l <;> simp [strs] at hu
 refine ⟨row_beside r0 hb (fun u hu => key u (ks _ u hu)) ho, row_beside r1 hb (fun u hu => key u (ks _ u hu)) ho, ⟨xs, hx, row_beside r2 hb (fun u hu => key u ?_) ho, fun x hx => ⟨row_beside (hxs x hx).row hb (fun u hu => key u ?_) ho, (hxs x hx).le, (hxs x hx).cap⟩⟩⟩
 ·intro a n c e;subst e
  cases xs <;> simp [txC, TxA.c] at hu
 ·intro a n c e;subst e
  cases hxo : x.t.ops with
  | nil => rw [hxo] at hu; simp [opC] at hu
  | cons y l => rw [hxo] at hu; simp [opC, Op4.c] at hu
end Go.Proofs.YtjfbeeogiejopaaGreatDoor
namespace Go.Proofs.YtjfbeeogiejopaaGreatDoor
open Go.RowKit
open Go.Lib hiding intOf
attribute [local go_sem ↓] Go.wp_at_zero Go.wp_at_succ
def pairE (l : List Ev6) : Int := (followR l).2.2
def pairL (l : List Ev6) : Int := (followR l).2.1
def pairH (l : List Ev6) : Hst := if pairE l = 0 then histOf (followR l).1 else ⟨[], [], []⟩
theorem pair_line {l : List Ev6} (h : pairE l = 0) : pairL l = 0 := by
 unfold pairE pairL followR at *
 split
 ·rename_i hr
  rw [if_pos hr] at h;unfold endE at h ⊢;dsimp only at h ⊢
  split
  ·rename_i p hp
   rw [hp] at h
   cases h
  ·rfl
 ·rename_i hr
  rw [if_neg hr] at h;exact absurd h hr
set_option maxRecDepth 100000 in
theorem phist_any (A : Option Addr) (n c : Nat) (l : List Ev6) (w : World) (hn : l.length = n) (hnm : n ≤ 100000) (hA : Row w w.heap.size A (logC l)) (hz : ∀ x ∈ l, x.s.size ≤ 65537 ∧ x.y.size ≤ 65537) (hT : UTabs w) (hV : Verbs w) :
  Calls Tryz.prog 76 #[.slice A n c] w fun e w' => ∃ B0 B1 B2 d0 d1 d2, (e = .returned (.tuple #[.agg #[.slice B0 (pairH l).ss.length d0, .slice B1 (pairH l).ks.length d1, .slice B2 (pairH l).l.length d2], .int .i64 (pairL l), .int .i64 (pairE l)]) ∧ HAt w' w'.heap.size B0 B1 B2 (pairH l)) ∧ Only [] w w' := by
 have HR0 := Hd (Blk.made w 25 #[.slice none 0 0, .slice none 0 0, .slice none 0 0]);have HO1 := Hd ((Only.refl [] w).alloc (.cells #[.slice none 0 0, .slice none 0 0, .slice none 0 0] 25));have HFO := Hd (follow_any A n c l _ hn hnm (row_up (hA.only HO1.out (by simp))) hz (hT.only HO1.out) (hV.only HO1.out));have HT := Hd (fun w' (O : Only [] w w') => hT.only O);have HE : Hid (pairE l = (followR l).2.2) := Hd rfl;have HL : Hid (pairL l = (followR l).2.1) := Hd rfl;have HPL := Hd (@pair_line l);have HH : Hid (pairH l = if pairE l = 0 then histOf (followR l).1 else ⟨[], [], []⟩) := Hd rfl;rw [← HE.out, ← HL.out] at HFO;generalize pairE l = pe at *;generalize pairL l = pl at *;generalize pairH l = ph at *;generalize followR l = fr at *;obtain ⟨m, r⟩ := fr;dsimp only at HFO HH;clear hn hnm hA hz hT hV HE HL;go_enter Tryz.func76, Tryz.ntmps76;go_wp2_with fail
 generalize (w.alloc (.cells #[.slice none 0 0, .slice none 0 0, .slice none 0 0] 25)) = w1 at *;generalize hgr : w.heap.size = gr at *;refine (HFO.out).mono ?_;rintro e w2 ⟨gm, rfl, O2, hm2⟩;have HR2 := Hd (O2.blk HR0.out (by simp));have HO2 := Hd O2;have HM2 := Hd hm2;have hgr1 := HR0.out.lt;clear O2 hm2 HFO HR0
 by_cases he : pe = 0
 ·have hb : (pe != 0) = false := by simp [he]
  obtain ⟨V, xs, A0, A1, c0, c1, b, D, hmk, hmb⟩ := HM2.out (.inl he);have hpb := HH.out;rw [if_pos he] at hpb;have hpl := HPL.out he;have HPB := Hd hpb;have HPL2 := Hd hpl;have HEE := Hd he;have hge := mine_ge hmk;have hob : ∀ i ∈ opB4 xs, w1.heap.size ≤ i := fun i hi => hge i (by
   simp only [opB4, List.mem_flatMap] at hi;obtain ⟨x, hx, h⟩ := hi;rw [mine_mem];exact .inr (.inr (.inr ⟨x, hx, by unfold partB; rw [List.mem_append]; exact .inr h⟩)))
  have HOB := Hd hob;have HMH := Hd (mhist_any w1.heap.size gm m V xs A0 A1 c0 c1 b D w2 hmk hmb HO2.out.size (fun w' O => HT.out w' ((HO1.out.trans HO2.out).step O (fun i hi hl => by have := hob i hi; omega))));have hgm : Blk w2 gm 162 _ := hmk.blk;clear he hpb hpl hge hob hmk hmb HPL HH HM2;go_wp2_with fail
  refine (HMH.out).mono ?_;rintro e w3 ⟨B0, B1, B2, d0, d1, d2, ⟨rfl, hA3⟩, O3⟩;have hR3 : Blk w3 gr 25 #[.slice none 0 0, .slice none 0 0, .slice none 0 0] := O3.blk HR2.out (fun hm => by have := HOB.out _ hm; omega);have HR3 := Hd hR3;have HA3 := Hd hA3;have HO3 : Hid (Only [] w w3) := Hd ((HO1.out.trans HO2.out).step O3 (fun i hi hl => by have := HOB.out i hi; omega));rw [← HPB.out] at HA3;rw [← HPB.out];clear hR3 hA3 O3;go_wp2_with (refine wpList_store_blk rfl 25 (.tmp 2) (.tmp 20) rfl gr 25 _ #[.slice B0 ph.ss.length d0, .slice B1 ph.ks.length d1, .slice B2 ph.l.length d2] rfl rfl HR3.out rfl (by kernel_rfl) (by kernel_rfl) ?_; intro w9 b9 o9; have HB9 := Hd b9; have HN9 := Hd o9; clear b9 o9)
  refine bodyPost_ret (results_row3 Tryz.results76 _ _ gr 25 #[.slice B0 ph.ss.length d0, .slice B1 ph.ks.length d1, .slice B2 ph.l.length d2] _ rfl HB9.out Tryz.underlying25 rfl (by kernel_rfl)) rfl ?_;refine ⟨B0, B1, B2, d0, d1, d2, ⟨by rw [HPL2.out, HEE.out]; rfl, hat_past HA3.out HR3.out HN9.out⟩, HO3.out.step HN9.out (fun i hi hl => by simp at hi; omega)⟩
 ·have hb : (pe != 0) = true := by simpa using he
  have hpb := HH.out;rw [if_neg he] at hpb;clear he;subst hpb;go_wp2_with (refine wpList_store_blk rfl 25 (.tmp 2) (.tmp 16) rfl gr 25 _ #[.slice none 0 0, .slice none 0 0, .slice none 0 0] rfl rfl HR2.out rfl (by kernel_rfl) (by kernel_rfl) ?_; intro w9 b9 o9; have HB9 := Hd b9; have HN9 := Hd o9; clear b9 o9)
  refine bodyPost_ret (results_row3 Tryz.results76 _ _ gr 25 #[.slice none 0 0, .slice none 0 0, .slice none 0 0] _ rfl HB9.out Tryz.underlying25 rfl (by kernel_rfl)) rfl ?_;exact ⟨⟨none, none, none, ⟨0, 0, 0, rfl⟩, ⟨.inl rfl, .inl rfl, LRow.nil⟩⟩, (HO1.out.trans HO2.out).step HN9.out (fun i hi hl => by simp at hi; omega)⟩
def showR (s : ByteArray) : Hst × Int × Int :=
 if (logParse s).2.2 = 0 then (pairH (logParse s).1, pairL (logParse s).1, pairE (logParse s).1) else (⟨[], [], []⟩, (logParse s).2.1, (logParse s).2.2)
theorem sparse_any (s : ByteArray) (w : World) (hs : s.size ≤ 65536) (hrow : ∀ x ∈ linesOf (by_ s), x.length ≤ 65535) (hln : (logParse s).1.length ≤ 1000) (hz : ∀ x ∈ (logParse s).1, x.s.size ≤ 65537 ∧ x.y.size ≤ 65537) (hT : UTabs w) (hM : MLen w) (hV : Verbs w) :
  Calls Tryz.prog 45 #[.string s] w fun e w' => ∃ B0 B1 B2 d0 d1 d2, (e = .returned (.tuple #[.agg #[.slice B0 (showR s).1.ss.length d0, .slice B1 (showR s).1.ks.length d1, .slice B2 (showR s).1.l.length d2], .int .i64 (showR s).2.1, .int .i64 (showR s).2.2]) ∧ HAt w' w'.heap.size B0 B1 B2 (showR s).1) ∧ Only [] w w' := by
 have HR0 := Hd (Blk.made w 25 #[.slice none 0 0, .slice none 0 0, .slice none 0 0]);have HO1 := Hd ((Only.refl [] w).alloc (.cells #[.slice none 0 0, .slice none 0 0, .slice none 0 0] 25));have HLP := Hd (logparse_any s _ hs hrow (hT.only HO1.out) (hM.only HO1.out) (hV.only HO1.out));have HPH := Hd (fun (A : Option Addr) (n c : Nat) w' (O : Only [] w w') (hn : (logParse s).1.length = n) hA => phist_any A n c (logParse s).1 w' hn (by omega) hA hz (hT.only O) (hV.only O));clear hs hrow hT hM hV hz;unfold showR;generalize logParse s = r at *;obtain ⟨l, at_, er⟩ := r;dsimp only at HLP HPH hln ⊢;have HN := Hd hln;clear hln
 by_cases he : er = 0
 ·subst he;rw [if_pos rfl];dsimp only
  revert HPH
  generalize pairH l = ph;generalize pairE l = pe;generalize pairL l = pl;intro HPH;go_enter Tryz.func45, Tryz.ntmps45;go_wp2_with fail
  generalize (w.alloc (.cells #[.slice none 0 0, .slice none 0 0, .slice none 0 0] 25)) = w1 at *;generalize hgr : w.heap.size = gr at *;refine (HLP.out).mono ?_;rintro e w2 ⟨O2, V, rfl, hown⟩;have HO2 := Hd (HO1.out.trans O2);have HR2 := Hd (O2.blk HR0.out (by simp));obtain ⟨A, c, rfl, -, -, -, hrow⟩ := own_row hown;have HP := Hd (HPH.out A _ c _ HO2.out rfl hrow);clear O2 hown hrow HPH HLP HR0;generalize l.length = n at *;go_wp2_with fail
  refine (HP.out).mono ?_;rintro e w3 ⟨B0, B1, B2, d0, d1, d2, ⟨rfl, hA3⟩, O3⟩;have HR3 := Hd (O3.blk HR2.out (by simp));have HA3 := Hd hA3;have HO3 := Hd (HO2.out.trans O3);clear O3 HP HO2 HR2 hA3;go_wp2_with (refine wpList_store_blk rfl 25 (.tmp 2) (.tmp 21) rfl gr 25 _ #[.slice B0 ph.ss.length d0, .slice B1 ph.ks.length d1, .slice B2 ph.l.length d2] rfl rfl HR3.out rfl (by kernel_rfl) (by kernel_rfl) ?_; intro w9 b9 o9; have HB9 := Hd b9; have HN9 := Hd o9; clear b9 o9)
  refine bodyPost_ret (results_row3 Tryz.results45 _ _ gr 25 #[.slice B0 ph.ss.length d0, .slice B1 ph.ks.length d1, .slice B2 ph.l.length d2] _ rfl HB9.out Tryz.underlying25 rfl (by kernel_rfl)) rfl ?_;exact ⟨B0, B1, B2, d0, d1, d2, ⟨rfl, hat_past HA3.out HR3.out HN9.out⟩, HO3.out.step HN9.out (fun i hi hl => by simp at hi; omega)⟩
 ·have hne : (er != 0) = true := by simpa using he
  rw [if_neg he];dsimp only;clear he;go_enter Tryz.func45, Tryz.ntmps45;go_wp2_with fail
  generalize (w.alloc (.cells #[.slice none 0 0, .slice none 0 0, .slice none 0 0] 25)) = w1 at *;generalize hgr : w.heap.size = gr at *;refine (HLP.out).mono ?_;rintro e w2 ⟨O2, V, rfl, -⟩;have HO2 := Hd (HO1.out.trans O2);have HR2 := Hd (O2.blk HR0.out (by simp));clear O2 HPH HLP HR0;go_wp2_with (refine wpList_store_blk rfl 25 (.tmp 2) (.tmp 16) rfl gr 25 _ #[.slice none 0 0, .slice none 0 0, .slice none 0 0] rfl rfl HR2.out rfl (by kernel_rfl) (by kernel_rfl) ?_; intro w9 b9 o9; have HB9 := Hd b9; have HN9 := Hd o9; clear b9 o9)
  refine bodyPost_ret (results_row3 Tryz.results45 _ _ gr 25 #[.slice none 0 0, .slice none 0 0, .slice none 0 0] _ rfl HB9.out Tryz.underlying25 rfl (by kernel_rfl)) rfl ?_;exact ⟨none, none, none, 0, 0, 0, ⟨rfl, ⟨.inl rfl, .inl rfl, LRow.nil⟩⟩, HO2.out.step HN9.out (fun i hi hl => by simp at hi; omega)⟩
end Go.Proofs.YtjfbeeogiejopaaGreatDoor
namespace Go.Proofs.YtjfbeeogiejopaaGreatDoor
def hitO (key : Int) (o : Op4) : Bool := o.wr && decide (o.key = key)
def leftW (key : Int) (l : List Op4) : Option (Int × Int) := l.foldl (fun acc o => if hitO key o = true then some (o.vk, o.vn) else acc) none
def leftV (key : Int) (l : List Op4) : Int × Int := (leftW key l).getD (0, 0)
theorem leftW_snoc (key : Int) (l : List Op4) (o : Op4) : leftW key (l ++ [o]) = if hitO key o = true then some (o.vk, o.vn) else leftW key l := by
 unfold leftW;rw [List.foldl_append]
 rfl
theorem leftW_take {key : Int} {l : List Op4} {i : Nat} {o : Op4} (h : l[i]? = some o) : leftW key (l.take (i + 1)) = if hitO key o = true then some (o.vk, o.vn) else leftW key (l.take i) := by
 rw [List.take_add_one, h];exact leftW_snoc key _ o
theorem leftW_app (key : Int) (l : List Op4) : ∀ (m : List Op4), (∀ o ∈ m, hitO key o = false) → leftW key (l ++ m) = leftW key l := by
 intro m
 induction m generalizing l with
 | nil => intro _; rw [List.append_nil]
 | cons o m ih =>
  intro h;rw [show l ++ o :: m = (l ++ [o]) ++ m by simp, ih (l ++ [o]) (fun x hx => h x (List.mem_cons_of_mem _ hx)), leftW_snoc, h o List.mem_cons_self];simp
theorem leftW_miss {key : Int} {l : List Op4} (hr : ∀ x ∈ l, hitO key x = false) : leftW key l = none := by
 have := leftW_app key [] l hr
 rwa [List.nil_append] at this
def optV (o : Option (Int × Int)) : Value := .agg #[.int .i64 (o.getD (0, 0)).1, .int .i64 (o.getD (0, 0)).2]
def optT (o : Option (Int × Int)) : Value := .tuple #[optV o, .bool o.isSome]
open Go.RowKit
open Go.Lib hiding intOf
attribute [local go_sem ↓] Go.wp_at_zero Go.wp_at_succ
def idxI (l : List Int) (x : Int) : Int := match l.findIdx? (fun y => decide (x = y)) with | some i => (i : Int) | none => -1
theorem idxI_some {l : List Int} {x : Int} {k : Nat} (hk : l[k]? = some x) (hn : ∀ j y, j < k → l[j]? = some y → x ≠ y) : idxI l x = k := by
 unfold idxI;have : l.findIdx? (fun y => decide (x = y)) = some k := by
  rw [List.findIdx?_eq_some_iff_getElem];obtain ⟨h1, h2⟩ := List.getElem?_eq_some_iff.1 hk;refine ⟨h1, by rw [h2]; simp, fun j hj => ?_⟩;have := hn j _ hj (List.getElem?_eq_getElem (by omega))
  simpa using this
 rw [this]
theorem idxI_none {l : List Int} {x : Int} (hn : ∀ (j : Nat) y, l[j]? = some y → x ≠ y) : idxI l x = -1 := by
 unfold idxI;have : l.findIdx? (fun y => decide (x = y)) = none := by
  rw [List.findIdx?_eq_none_iff];intro y hy;obtain ⟨j, hj⟩ := List.mem_iff_getElem?.1 hy
  simpa using hn j y hj
 rw [this]
theorem idxI_ge (l : List Int) (x : Int) : decide (0 ≤ idxI l x) = decide (x ∈ l) := by
 unfold idxI
 cases h : l.findIdx? (fun y => decide (x = y)) with
 | none =>
  rw [List.findIdx?_eq_none_iff] at h;have : x ∉ l := fun hm => by simpa using h x hm
  simp [this]
 | some i =>
  rw [List.findIdx?_eq_some_iff_getElem] at h;obtain ⟨h1, h2, -⟩ := h;have : x ∈ l := by
   have e : x = l[i] := by simpa using h2
   rw [e];exact List.getElem_mem h1
  simp [this]
theorem indexI_any (A : Option Addr) (n c B : Nat) (zs : List Int) (x : Int) (w : World) (hn : zs.length = n) (hnm : n ≤ 1000000) (hA : Row w B A (zs.map (Value.int .i64))) :
  Calls Tryz.prog 125 #[.slice A n c, .int .i64 x] w fun e w' => e = .returned (.int .i64 (idxI zs x)) ∧ w = w' := by
 have HA := Hd hA;have HN := Hd hn;clear hA hn;go_enter Tryz.func125, Tryz.ntmps125;go_wp2_with fail
 go_loopw [8] (fun iv wr => ∃ k : Nat, iv = .int .i64 k ∧ k ≤ n ∧ Hid (∀ j y, j < k → zs[j]? = some y → x ≠ y) ∧ wr = w) (fun iv _ => n - (intOf iv).toNat)
 case atStart => exact ⟨0, rfl, by omega, Hd (fun j y h => by omega), rfl⟩
 case round =>
  obtain ⟨k, rfl, hk, hno, rfl⟩ := hrel
  by_cases hlt : k < n
  ·obtain ⟨b, off, rfl, -, hbw, hc⟩ := HA.out.open_ (k := k) (by rw [List.length_map, HN.out]; exact hlt);obtain ⟨y, hy⟩ : ∃ y, zs[k]? = some y := ⟨_, List.getElem?_eq_getElem (by rw [HN.out]; exact hlt)⟩;have hcy : wr.cell? ⟨b, off + k, none⟩ = some (.int .i64 y) := hc k _ (by rw [List.getElem?_map, hy]; rfl);have h01 : (k : Int) < (n : Int) := by omega
   have hk0 : (0 : Int) ≤ (k : Int) := Int.natCast_nonneg _;have hwk : IntKind.i64.wrap ((k : Int) + 1) = (k : Int) + 1 := IntWalk.i64_in _ (by omega);have HY := Hd hy;clear hc hy
   by_cases hxy : x = y
   ·subst hxy;go_wp2
    go_ret
    exact ⟨by rw [idxI_some HY.out hno.out]; rfl, rfl⟩
   ·have hb : (x == y) = false := by simpa using hxy
    have HXY := Hd hxy;clear hxy;go_wp2
    go_roundw
    case rel =>
     refine ⟨k + 1, by go_num, by omega, Hd (fun j y' hj hy' => ?_), trivial⟩
     by_cases h : j < k
     ·exact hno.out j y' h hy'
     ·obtain rfl : j = k := by omega
      rw [HY.out] at hy';obtain rfl := Option.some.inj hy';exact HXY.out
    case measure => simp [intOf]; omega
  ·have hkn : k = n := by omega
   subst hkn;have hd : decide ((k : Int) < (k : Int)) = false := by simp
   have H : Hid (idxI zs x = -1) := Hd (idxI_none fun j y hy => hno.out j y (by rw [← HN.out]; exact (List.getElem?_eq_some_iff.1 hy).1) hy);go_wp2
   go_ret
   exact ⟨by rw [H.out]; rfl, rfl⟩
theorem contI_any (A : Option Addr) (n c B : Nat) (zs : List Int) (x : Int) (w : World) (hn : zs.length = n) (hnm : n ≤ 1000000) (hA : Row w B A (zs.map (Value.int .i64))) :
  Calls Tryz.prog 105 #[.slice A n c, .int .i64 x] w fun e w' => e = .returned (.bool (decide (x ∈ zs))) ∧ w = w' := by
 have HI := Hd (indexI_any A n c B zs x w hn hnm hA);have HG := Hd (idxI_ge zs x);generalize idxI zs x = i at *;go_enter Tryz.func105, Tryz.ntmps105;go_wp2_with fail
 refine (HI.out).mono ?_;rintro e w1 ⟨rfl, rfl⟩;go_wp2
 go_ret
 exact ⟨by rw [← HG.out]; rfl, rfl⟩
def fateB (f : Int) : Bool := decide (1 ≤ f ∧ f ≤ 3)
theorem fate_any (f : Int) (w : World) : Calls Tryz.prog 104 #[.int .i64 f] w fun e w' => e = .returned (.bool (fateB f)) ∧ w = w' := by
 by_cases h1 : f = 1
 ·subst h1;go_enter Tryz.func104, Tryz.ntmps104;go_wp2
  go_ret
  exact ⟨rfl, rfl⟩
 ·have h1' : (f == 1) = false := by simpa using h1
  by_cases h2 : f = 2
  ·subst h2;go_enter Tryz.func104, Tryz.ntmps104;go_wp2
   go_ret
   exact ⟨rfl, rfl⟩
  ·have h2' : (f == 2) = false := by simpa using h2
   by_cases h3 : f = 3
   ·subst h3;go_enter Tryz.func104, Tryz.ntmps104;go_wp2
    go_ret
    exact ⟨rfl, rfl⟩
   ·have h3' : (f == 3) = false := by simpa using h3
    have HF : Hid (fateB f = false) := Hd (decide_eq_false (by omega));clear h1 h2 h3;go_enter Tryz.func104, Tryz.ntmps104;go_wp2
    go_ret
    exact ⟨by rw [HF.out]; rfl, rfl⟩
def namesB (l : List ByteArray) (m : Nat) : Bool := decide (l.length ≤ m) && tabB l
theorem names_any (A : Option Addr) (n c B m : Nat) (t : List ByteArray) (w : World) (hn : t.length = n) (hnm : n ≤ 1000000) (hz : ∀ z ∈ t, z.size ≤ 65537) (hA : Row w B A (strs t)) (hT : UTabs w) :
  Calls Tryz.prog 77 #[.slice A n c, .int .i64 (m : Int)] w fun e w' => e = .returned (.bool (namesB t m)) ∧ Only [] w w' := by
 have HI := Hd (istab_any A n c B t w hn (by omega) (fun z hz' => by have := hz z hz'; omega) hA hT);unfold namesB;rw [hn];generalize tabB t = b at *;clear hz hA hT hn
 by_cases hle : n ≤ m
 ·have h1 : decide ((n : Int) ≤ (m : Int)) = true := by simp; omega
  have h2 : decide (n ≤ m) = true := by simpa using hle
  go_enter Tryz.func77, Tryz.ntmps77;go_wp2_with fail
  refine (HI.out).mono ?_;rintro e w1 ⟨rfl, O1⟩;have HO := Hd O1;clear O1;go_wp2
  go_ret
  exact ⟨by simp [hle], HO.out⟩
 ·have h1 : decide ((n : Int) ≤ (m : Int)) = false := by simp; omega
  have h2 : decide (n ≤ m) = false := by simpa using hle
  go_enter Tryz.func77, Tryz.ntmps77;go_wp2
  go_ret
  exact ⟨by simp [hle], Only.refl _ _⟩
def txB (ns : Nat) (t : Tx) : Bool := decide (0 ≤ t.s ∧ t.s < ns) && (fateB t.f && decide (t.ops.length ≤ 20))
def cntL (m : Nat) (l : List Int) : List Int := (List.range m).map fun i : Nat => ((l.countP fun s => decide (s = (i : Int)) : Nat) : Int)
def cntC (m : Nat) (l : List Int) : Array Value := ((cntL m l).map (Value.int .i64)).toArray
theorem cntL_len (m : Nat) (l : List Int) : (cntL m l).length = m := by simp [cntL]
theorem cntC_size (m : Nat) (l : List Int) : (cntC m l).size = m := by simp [cntC, cntL]
theorem cntC_at (m : Nat) (l : List Int) (i : Nat) (hi : i < m) : (cntC m l)[i]? = some (.int .i64 ((l.countP fun s => decide (s = (i : Int)) : Nat) : Int)) := by
 simp [cntC, cntL, hi]
theorem cntC_snoc (m : Nat) (l : List Int) (i : Nat) (hi : i < m) : cntC m (l ++ [(i : Int)]) = (cntC m l).setIfInBounds i (.int .i64 (((l.countP fun s => decide (s = (i : Int)) : Nat) : Int) + 1)) := by
 refine Array.ext_getElem? fun j => ?_
 by_cases hj : j < m
 ·rw [cntC_at _ _ _ hj, Array.getElem?_setIfInBounds]
  by_cases hij : i = j
  ·subst hij;rw [if_pos rfl, if_pos (by rw [cntC_size]; exact hi)];simp
  ·rw [if_neg hij, cntC_at _ _ _ hj];have : ((i : Int) = (j : Int)) = False := by simp; omega
   simp [this]
 ·rw [Array.getElem?_eq_none (by rw [cntC_size]; omega), Array.getElem?_eq_none (by simp [cntC_size]; omega)]
theorem cntL_zero (m : Nat) (l : List Int) (n : Nat) (hn : n ≤ m) : decide ((0 : Int) ∈ (cntL m l).take n) = !((List.range n).all fun i : Nat => decide ((i : Int) ∈ l)) := by
 have e : (cntL m l).take n = cntL n l := by
  unfold cntL;rw [← List.map_take, List.take_range, Nat.min_eq_left hn]
 rw [e]
 by_cases h : ∀ i, i < n → ((i : Nat) : Int) ∈ l
 ·have h1 : ((List.range n).all fun i : Nat => decide ((i : Int) ∈ l)) = true := by simpa using h
  rw [h1];simp only [Bool.not_true, decide_eq_false_iff_not];intro hm;unfold cntL at hm;obtain ⟨i, hi, he⟩ := List.mem_map.1 hm;have hin := h i (List.mem_range.1 hi);have : 0 < l.countP fun s => decide (s = (i : Int)) := List.countP_pos_iff.2 ⟨_, hin, by simp⟩;omega
 ·have h1 : ((List.range n).all fun i : Nat => decide ((i : Int) ∈ l)) = false := by
   rw [List.all_eq_false];simp only [Classical.not_forall] at h;obtain ⟨i, hi, hm⟩ := h;exact ⟨i, List.mem_range.2 hi, by simpa using hm⟩
  rw [h1];simp only [Bool.not_false, decide_eq_true_eq];simp only [Classical.not_forall] at h;obtain ⟨i, hi, hm⟩ := h;refine List.mem_map.2 ⟨i, List.mem_range.2 hi, ?_⟩;have : l.countP (fun s => decide (s = (i : Int))) = 0 := by
   rw [List.countP_eq_zero];intro a ha hd;have : a = (i : Int) := by simpa using hd
   exact hm (this ▸ ha)
  rw [this]
  rfl
def useB (n : Nat) (l : List Int) : Bool := (List.range n).all fun i : Nat => decide ((i : Int) ∈ l)
def txsB (h : Hst) : Bool := decide (h.l.length ≤ 40) && (h.l.all (txB h.ss.length) && useB h.ss.length (h.l.map Tx.s))
theorem txs_no {h : Hst} {k : Nat} {t : Tx} (hk : h.l[k]? = some t) (hb : txB h.ss.length t = false) : txsB h = false := by
 unfold txsB;have : h.l.all (txB h.ss.length) = false := by
  rw [List.all_eq_false];exact ⟨t, List.mem_of_getElem? hk, by rw [hb]; simp⟩
 rw [this];simp
theorem takeTx_all {α : Type} {l : List α} {p : α → Bool} {k : Nat} {x : α} (h : (l.take k).all p = true) (hk : l[k]? = some x) (hx : p x = true) : (l.take (k + 1)).all p = true := by
 rw [List.take_add_one, hk, List.all_append, h]
 simpa using hx
theorem row_front {w : World} {g : Nat} {t : TypeId} {zs : List Int} (h : Blk w g t (zs.map (Value.int .i64)).toArray) (n : Nat) : Row w w.heap.size (some ⟨g, 0, none⟩) ((zs.take n).map (Value.int .i64)) :=
 .inr ⟨g, 0, rfl, h.lt, Nat.le_refl _, fun j u hu => by
  rw [Nat.zero_add, h.at_ j];rw [List.map_take, List.getElem?_take] at hu
  split at hu
  ·simpa using hu
  ·cases hu⟩
theorem txs_any (A0 A1 A2 : Option Addr) (n0 n1 n2 c0 c1 c2 B : Nat) (h : Hst) (w : World) (hg : HAt w B A0 A1 A2 h) (hn0 : h.ss.length = n0) (hn2 : h.l.length = n2) (h20 : n0 ≤ 20) (hM : n2 ≤ 1000) :
  Calls Tryz.prog 78 #[hval A0 A1 A2 n0 n1 n2 c0 c1 c2] w fun e w' => e = .returned (.bool (txsB h)) ∧ Only [] w w' := by
 unfold hval;have HFT := Hd (fun f w' => fate_any f w');have HG := Hd hg.r2;have HN0 := Hd hn0;have HN2 := Hd hn2;have HO := Hd ((Only.refl [] w).alloc (.cells #[.slice A0 n0 c0, .slice A1 n1 c1, .slice A2 n2 c2] 25));clear hg
 by_cases h40 : n2 ≤ 40
 ·have hd : decide ((40 : Int) < (n2 : Int)) = false := by simp; omega
  obtain ⟨r, hr⟩ : ∃ r, r = txsB h := ⟨_, rfl⟩;rw [← hr];have HR := Hd hr;have HB1 := Hd ((Blk.made w 25 #[.slice A0 n0 c0, .slice A1 n1 c1, .slice A2 n2 c2]).alloc (.cells (cntC 20 []) 136));have HU1 := Hd (Blk.made (w.alloc (.cells #[.slice A0 n0 c0, .slice A1 n1 c1, .slice A2 n2 c2] 25)) 136 (cntC 20 []));have HO1 := Hd (HO.out.alloc (.cells (cntC 20 []) 136));rw [World.size_alloc] at HU1;clear hr hn0 hn2 HO;go_enter Tryz.func78, Tryz.ntmps78;go_wp2_with fail
  go_loopw [13] (fun iv wr => ∃ k : Nat, iv = .int .i64 k ∧ k ≤ n2 ∧ Hid ((h.l.take k).all (txB n0) = true) ∧ Hid (Blk wr w.heap.size 25 #[.slice A0 n0 c0, .slice A1 n1 c1, .slice A2 n2 c2]) ∧ Hid (Blk wr (w.heap.size + 1) 136 (cntC 20 ((h.l.take k).map Tx.s))) ∧ Hid (Only [] w wr)) (fun iv _ => n2 - (intOf iv).toNat)
  case atStart => exact ⟨0, rfl, by omega, Hd (by simp), HB1, HU1, HO1⟩
  case round =>
   obtain ⟨k, rfl, hk, hall, hB, hU, hO⟩ := hrel;have hsz := hO.out.size
   by_cases hlt : k < n2
   ·obtain ⟨x, hx⟩ : ∃ x, h.l[k]? = some x := ⟨_, List.getElem?_eq_getElem (by rw [HN2.out]; exact hlt)⟩;obtain ⟨b, off, A', cp, rfl, -, hbw, hT, hOk⟩ := HG.out.at_ hx;obtain ⟨a0, a1, a2⟩ := hT.only hO.out hbw (by simp);have hln := Nat.le_trans hOk.le hOk.cap;unfold maxLen at hln;have HX := Hd hx;obtain ⟨s, f, ops⟩ := x;dsimp only at a0 a1 a2 hln;generalize hm : ops.length = m at *;have HMM := Hd hm;have h01 : (k : Int) < (n2 : Int) := by omega
    have hk0 : (0 : Int) ≤ (k : Int) := Int.natCast_nonneg _;have hwk : IntKind.i64.wrap ((k : Int) + 1) = (k : Int) + 1 := IntWalk.i64_in _ (by omega);have hbr : b < wr.heap.size := by omega
    clear hT hOk hx hm;go_upto_region 7 with (fail)
    have O2 : Only [] wr (wr.alloc (.cells #[.int .i64 s, .int .i64 f, .slice A' m cp] 46)) := (Only.refl [] wr).alloc _;have bT := Blk.made wr 46 #[.int .i64 s, .int .i64 f, .slice A' m cp];have HB2 := Hd (O2.blk hB.out (by simp));have HU2 := Hd (O2.blk hU.out (by simp));have HO2 := Hd (hO.out.trans O2);clear a0 a1 a2 O2 hB hU hO;generalize (wr.alloc (.cells #[.int .i64 s, .int .i64 f, .slice A' m cp] 46)) = w2 at *;generalize wr.heap.size = gt at *;have lT := bT.lt;have t0 := bT.at_ 0;have t1 := bT.at_ 1;have t2 := bT.at_ 2;have lB := HB2.out.lt;have b0 := HB2.out.at_ 0;have b2 := HB2.out.at_ 2;simp at t0 t1 t2 b0 b2;clear bT;have bad : txB n0 ⟨s, f, ops⟩ = false → Hid (r = false) := fun hb => Hd (by rw [HR.out]; exact txs_no HX.out (by rw [HN0.out]; exact hb));have hcase : (s < 0 ∧ txB n0 ⟨s, f, ops⟩ = false) ∨ (decide (s < 0) = false ∧ (n0 : Int) ≤ s ∧ txB n0 ⟨s, f, ops⟩ = false) ∨ (decide (s < 0) = false ∧ decide ((n0 : Int) ≤ s) = false ∧ fateB f = false ∧ txB n0 ⟨s, f, ops⟩ = false) ∨
      (decide (s < 0) = false ∧ decide ((n0 : Int) ≤ s) = false ∧ fateB f = true ∧ decide ((20 : Int) < (m : Int)) = true ∧ txB n0 ⟨s, f, ops⟩ = false) ∨
      ∃ j : Nat, s = (j : Int) ∧ j < n0 ∧ fateB f = true ∧ decide ((20 : Int) < (m : Int)) = false ∧ txB n0 ⟨s, f, ops⟩ = true := by
     unfold txB;dsimp only;rw [HMM.out]
     by_cases q1 : s < 0
     ·exact .inl ⟨q1, by rw [decide_eq_false (by omega)]; rfl⟩
     ·by_cases q2 : (n0 : Int) ≤ s
      ·exact .inr (.inl ⟨decide_eq_false q1, q2, by rw [decide_eq_false (by omega)]; rfl⟩)
      ·cases q3 : fateB f with
       | false => exact .inr (.inr (.inl ⟨decide_eq_false q1, decide_eq_false q2, rfl, by simp⟩))
       | true =>
        by_cases q4 : 20 < m
        ·exact .inr (.inr (.inr (.inl ⟨decide_eq_false q1, decide_eq_false q2, rfl, decide_eq_true (by omega), by rw [decide_eq_false (show ¬ m ≤ 20 by omega)]; simp⟩)))
        ·exact .inr (.inr (.inr (.inr ⟨s.toNat, by omega, by omega, rfl, decide_eq_false (by omega), by rw [decide_eq_true (show 0 ≤ s ∧ s < (n0 : Int) by omega), decide_eq_true (show m ≤ 20 by omega)]; rfl⟩)))
    rcases hcase with ⟨q1, q⟩ | ⟨q1, q2, q⟩ | ⟨q1, q2, q3, q⟩ | ⟨q1, q2, q3, q4, q⟩ | ⟨j, rfl, hj, q3, q4, q⟩
    ·obtain rfl := (bad q).out;clear bad q;go_wp2
     go_ret
     exact ⟨rfl, HO2.out⟩
    ·obtain rfl := (bad q).out;clear bad q;go_wp2
     go_ret
     exact ⟨rfl, HO2.out⟩
    ·obtain rfl := (bad q).out;have HF := Hd (HFT.out f w2);rw [q3] at HF;clear bad q q3;go_wp2_with fail
     refine (HF.out).mono ?_;rintro e w3 ⟨rfl, rfl⟩;go_wp2
     go_ret
     exact ⟨rfl, HO2.out⟩
    ·obtain rfl := (bad q).out;have HF := Hd (HFT.out f w2);rw [q3] at HF;clear bad q q3;go_wp2_with fail
     refine (HF.out).mono ?_;rintro e w3 ⟨rfl, rfl⟩;go_wp2
     go_ret
     exact ⟨rfl, HO2.out⟩
    ·have HF := Hd (HFT.out f w2);rw [q3] at HF;have q1 : decide ((j : Int) < 0) = false := by simp
     have q2 : decide ((n0 : Int) ≤ (j : Int)) = false := by simp; omega
     have q5 : (0 : Int) ≤ (j : Int) := by omega
     have q6 : (j : Int) < 20 := by omega
     have lU := HU2.out.lt;have uj := (HU2.out.at_ j).trans (cntC_at 20 _ j (by omega));have gj := HU2.out.free j;have hc : ((h.l.take k).map Tx.s).countP (fun s => decide (s = (j : Int))) ≤ 1000 := by
      have := List.countP_le_length (p := fun s => decide (s = (j : Int))) (l := (h.l.take k).map Tx.s);rw [List.length_map, List.length_take] at this;omega
     have HCS := Hd (cntC_snoc 20 ((h.l.take k).map Tx.s) j (by omega));have HTK : Hid ((h.l.take (k + 1)).map Tx.s = (h.l.take k).map Tx.s ++ [(j : Int)]) := Hd (by rw [List.take_add_one, HX.out]; simp);have HAL := Hd (takeTx_all hall.out HX.out q);generalize ((h.l.take k).map Tx.s).countP (fun s => decide (s = (j : Int))) = cj at *;have hwc : IntKind.i64.wrap ((cj : Int) + 1) = (cj : Int) + 1 := IntWalk.i64_in _ (by omega);clear bad q q3 hall;go_wp2_with fail
     refine (HF.out).mono ?_;rintro e w3 ⟨rfl, rfl⟩;go_wp2
     go_roundw
     case rel =>
      refine ⟨k + 1, by go_num, by omega, HAL, Hd (HB2.out.far (by simp only; omega) _), Hd ?_, Hd (HO2.out.put (fun h => by simp only at h; omega) _)⟩;rw [HTK.out, HCS.out];exact HU2.out.put j _
     case measure => simp [intOf]; omega
   ·have hkn : k = n2 := by omega
    subst hkn;have hd2 : decide ((k : Int) < (k : Int)) = false := by simp
    have hU1 := hU.out;have hA1 := hall.out;rw [List.take_of_length_le (by rw [HN2.out]; exact Nat.le_refl _)] at hU1 hA1;have hrow := row_front hU1 n0;have hcz := cntL_zero 20 (h.l.map Tx.s) n0 h20;have HCI := Hd (contI_any (some ⟨w.heap.size + 1, 0, none⟩) n0 20 _ ((cntL 20 (h.l.map Tx.s)).take n0) 0 wr (by rw [List.length_take, cntL_len]; omega) (by omega) hrow);rw [hcz] at HCI;have HRR : Hid (r = ((List.range n0).all fun i : Nat => decide ((i : Int) ∈ h.l.map Tx.s))) := Hd (by
     rw [HR.out];unfold txsB useB;rw [HN0.out, hA1, HN2.out, decide_eq_true h40]
     rfl)
    have lB := hB.out.lt;have b0 := hB.out.at_ 0;simp at b0;have lU := hU.out.lt;have q5 : (0 : Int) ≤ (n0 : Int) := by omega
    have q6 : (n0 : Int) ≤ 20 := by omega
    clear hU1 hA1 hrow hcz hall hU HR;generalize ((List.range n0).all fun i : Nat => decide ((i : Int) ∈ h.l.map Tx.s)) = q at *;go_wp2_with fail
    refine (HCI.out).mono ?_;rintro e w3 ⟨rfl, rfl⟩;go_wp2
    go_ret
    exact ⟨by rw [HRR.out]; simp, hO.out⟩
 ·have hd : decide ((40 : Int) < (n2 : Int)) = true := by simp; omega
  have hr : txsB h = false := by
   unfold txsB;rw [hn2, decide_eq_false h40]
   rfl
  rw [hr];go_enter Tryz.func78, Tryz.ntmps78;go_wp2
  go_ret
  exact ⟨rfl, HO.out⟩
end Go.Proofs.YtjfbeeogiejopaaGreatDoor
