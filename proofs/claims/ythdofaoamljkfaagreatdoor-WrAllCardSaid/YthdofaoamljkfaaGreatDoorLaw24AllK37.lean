/- Parts. -/
import Derived.Test.YthdofaoamljkfaaGreatDoorLaw24AllK36
set_option maxRecDepth 10000
set_option maxHeartbeats 16000000
set_option linter.unusedVariables false
set_option linter.unusedSimpArgs false
namespace Go.Proofs.YthdofaoamljkfaaGreatDoor
open Go.RowKit
open Go.Lib hiding intOf
attribute [local go_sem ↓] Go.wp_at_zero Go.wp_at_succ
theorem open_some {ps : List Pt} {s : ByteArray} {i : Nat} (h : openI ps s = some i) : ∃ p, ps[i]? = some p ∧ p.s = s ∧ p.f = 0 := by
 unfold openI at h;obtain ⟨hi, h1, -⟩ := List.findIdx?_eq_some_iff_getElem.1 h;simp at h1;exact ⟨ps[i], List.getElem?_eq_getElem hi, h1.1, h1.2⟩
theorem open_none {ps : List Pt} {s : ByteArray} (h : openI ps s = none) : ∀ p ∈ ps, ¬ (p.s = s ∧ p.f = 0) := by
 intro p hp ⟨h1, h2⟩;unfold openI at h;rw [List.findIdx?_eq_none_iff] at h;have := h p hp;simp [h1, h2] at this
theorem look_some {w : World} {b n : Nat} {D : DataW Unit} {ps : List Pt} {s : ByteArray} {i : Nat} (h : w.ownsMap Tryz.prog 9 (plainElem Tryz.prog 3) b n D) (ho : Opens D ps) (hi : openI ps s = some i) (hs : s.size ≤ maxLen) :
  (Instr.lookup 130 (.map (some b)) (.string s) true).run Tryz.prog w = .ok (.tuple #[.int .i64 (i : Int), .bool true]) w := by
 obtain ⟨v, ps', hrun, hv⟩ := h.look_ok law_str Tryz.underlying130 (by kernel_rfl : (zeroValue 3).run Tryz.prog w = .ok (.int .i64 0) w) (zd := .lit (.int .i64 0)) (zp := []) (plainElem_int Tryz.underlying3 (by decide)) (Go.WideMaps.keyOf_string_mk Tryz.underlying9 hs);obtain ⟨c, rfl, hc, -⟩ := plainElem_int_inv Tryz.underlying3 hv;obtain ⟨h1, h2⟩ := ho.there s i hi;have h3 := congrArg Prod.fst hc;rw [show (Lit.string s.data.toList) = kS s from rfl] at h3 hrun;rw [h2] at h3;rw [h1] at hrun;have : c = (i : Int) := by injection h3 with h3; injection h3 with _ h3; exact h3.symm
 rw [this] at hrun;exact hrun
theorem look_none {w : World} {b n : Nat} {D : DataW Unit} {ps : List Pt} {s : ByteArray} (h : w.ownsMap Tryz.prog 9 (plainElem Tryz.prog 3) b n D) (ho : Opens D ps) (hi : openI ps s = none) (hs : s.size ≤ maxLen) :
  (Instr.lookup 130 (.map (some b)) (.string s) true).run Tryz.prog w = .ok (.tuple #[.int .i64 0, .bool false]) w := by
 obtain ⟨v, ps', hrun, hv⟩ := h.look_ok law_str Tryz.underlying130 (by kernel_rfl : (zeroValue 3).run Tryz.prog w = .ok (.int .i64 0) w) (zd := .lit (.int .i64 0)) (zp := []) (plainElem_int Tryz.underlying3 (by decide)) (Go.WideMaps.keyOf_string_mk Tryz.underlying9 hs);obtain ⟨c, rfl, hc, -⟩ := plainElem_int_inv Tryz.underlying3 hv;have h1 := ho.none_ s hi;have h3 := congrArg Prod.fst hc;rw [show (Lit.string s.data.toList) = kS s from rfl] at h3 hrun;rw [Maps.atKey_of_not_has h1] at h3;rw [h1] at hrun;have : c = 0 := by injection h3 with h3; injection h3 with _ h3; exact h3.symm
 rw [this] at hrun;exact hrun
theorem opens_end {D : DataW Unit} {ps : List Pt} {i : Nat} {p : Pt} {f : Int} (h : Opens D ps) (hp : ps[i]? = some p) (hf : f ≠ 0) (hu : ∀ (i j : Nat) (p q : Pt), ps[i]? = some p → ps[j]? = some q → p.s = q.s → p.f = 0 → q.f = 0 → i = j) (hp0 : p.f = 0) : Opens (D.del (kS p.s)) (ps.set i { p with f := f }) := by
 have hil := (List.getElem?_eq_some_iff.1 hp).1;have e1 : openI (ps.set i { p with f := f }) p.s = none := by
  unfold openI;rw [List.findIdx?_eq_none_iff];intro q hq;rcases mem_set_at hq with rfl | ⟨j, hj, hq⟩
  ·simp [hf]
  ·by_cases hqs : q.s = p.s ∧ q.f = 0
   ·exact absurd (hu j i q p hq hp hqs.1 hqs.2 hp0) hj
   ·simpa using hqs
 have e2 : ∀ r, r ≠ p.s → openI (ps.set i { p with f := f }) r = openI ps r := fun r hr => by
  unfold openI;exact find_set hp _ (by simp [Ne.symm hr])
 have hkn : ∀ r, r ≠ p.s → kS r ≠ kS p.s := fun r hr e => hr (by
  unfold kS at e;injection e with e;generalize p.s = s at *;obtain ⟨⟨r⟩⟩ := r;obtain ⟨⟨s⟩⟩ := s
  simpa using e)
 refine ⟨fun r j hj => ?_, fun r hj => ?_⟩
 ·by_cases hr : r = p.s
  ·subst hr;rw [e1] at hj
   cases hj
  ·rw [e2 r hr] at hj;rw [Maps.has_del_other (hkn r hr)];exact ⟨(h.there r j hj).1, fun z => by rw [Maps.atKey_del_other (hkn r hr)]; exact (h.there r j hj).2 z⟩
 ·by_cases hr : r = p.s
  ·subst hr;exact Maps.has_del_same
  ·rw [e2 r hr] at hj;rw [Maps.has_del_other (hkn r hr)];exact h.none_ r hj
theorem mk_ended {w2 w6 : World} {base gm gv cv : Nat} {m : Mk} {xs : List PtA} {A0 A1 : Option Addr} {c0 c1 b i : Nat} {D : DataW Unit} {xi : PtA} {f : Int} (h : MkAt w2 base gm m (.slice (some ⟨gv, 0, none⟩) m.ps.length cv) xs A0 A1 c0 c1 b D)
  (hxi : xs[i]? = some xi) (hf : f ≠ 0) (hp0 : xi.p.f = 0) (hu : ∀ (i j : Nat) (p q : Pt), m.ps[i]? = some p → m.ps[j]? = some q → p.s = q.s → p.f = 0 → q.f = 0 → i = j) (ho : Only [gv, b] w2 w6)
  (hrow : w6.ownsRow base 136 5 (.slice (some ⟨gv, 0, none⟩) m.ps.length cv) m.ps.length (ptC (xs.set i { xi with p := { xi.p with f := f } })))
  (hmap : w6.ownsMap Tryz.prog 9 (plainElem Tryz.prog 3) b m.ps.length (D.del (kS xi.p.s))) :
  MkAt w6 base gm ⟨m.ps.set i { xi.p with f := f }, m.ss, m.ks⟩ (.slice (some ⟨gv, 0, none⟩) m.ps.length cv) (xs.set i { xi with p := { xi.p with f := f } }) A0 A1 c0 c1 b (D.del (kS xi.p.s)) := by
 have hmem := List.mem_of_getElem? hxi;have hpi : m.ps[i]? = some xi.p := by rw [← h.parts, List.getElem?_map, hxi]; rfl
 have hown : (Value.slice (some ⟨gv, 0, none⟩) m.ps.length cv).ownBlock = some gv := rfl;have hsub : ∀ j ∈ [gv, b], j ∈ mine gm b (.slice (some ⟨gv, 0, none⟩) m.ps.length cv) xs := fun j hj => by
  rw [mine_mem, hown];simp at hj ⊢;rcases hj with h | h
  ·exact .inr (.inr (.inl h))
  ·exact .inr (.inl h)
 have hfl : ∀ j, j ∈ mine gm b (.slice (some ⟨gv, 0, none⟩) m.ps.length cv) (xs.set i { xi with p := { xi.p with f := f } }) → j ∈ mine gm b (.slice (some ⟨gv, 0, none⟩) m.ps.length cv) xs := fun j hj => by
  rw [mine_mem] at hj ⊢;rcases hj with h | h | h | ⟨x, hx, h⟩
  ·exact .inl h
  ·exact .inr (.inl h)
  ·exact .inr (.inr (.inl h))
  ·rcases mem_set_at hx with rfl | ⟨k, hk, hx⟩
   ·exact .inr (.inr (.inr ⟨xi, hmem, h⟩))
   ·exact .inr (.inr (.inr ⟨x, List.mem_of_getElem? hx, h⟩))
 have hkeep : ∀ {t : TypeId} {sz n : Nat} {v : Value} {l : List Value}, w2.ownsRow base t sz v n l → t ≠ 136 → w6.ownsRow base t sz v n l := fun {t sz n v l} hr h1 => own_only hr ho (fun g hg hm => by
  simp at hm;rcases hm with rfl | rfl
  ·exact own_two hr h.row h1 _ hg (by rw [hown]; simp)
  ·exact map_not_own h.map hr (by rw [hg]; simp))
 refine ⟨ho.blk h.blk ?_, h.gmb, ?_, by simpa using hrow, ?_, ?_, ?_, ?_, ?_, ?_, h.n0, h.n1, ?_, ?_, by simpa using hmap, h.mapb, opens_end h.opens hpi hf hu hp0⟩
 ·simp;exact ⟨fun e => own_apart h.row h.blk (by decide) (by rw [hown, e]; simp), fun e => map_not_blk h.map h.blk e⟩
 ·rw [← h.parts, List.map_set]
 ·intro x hx;rcases mem_set_at hx with rfl | ⟨j, hj, hx⟩
  ·exact hkeep (h.keys xi hmem) (by decide)
  ·exact hkeep (h.keys x (List.mem_of_getElem? hx)) (by decide)
 ·intro x hx;rcases mem_set_at hx with rfl | ⟨j, hj, hx⟩
  ·exact hkeep (h.ops xi hmem) (by decide)
  ·exact hkeep (h.ops x (List.mem_of_getElem? hx)) (by decide)
 ·refine pw_set h.apK (fun j z hj hz => ?_);have key := pw_at (fun x y hxy a ha a' ha' => (hxy a' ha' a ha).symm) h.apK hxi hz (Ne.symm hj);exact ⟨key, fun a ha a' ha' => (key a' ha' a ha).symm⟩
 ·refine pw_set h.apO (fun j z hj hz => ?_);have key := pw_at (fun x y hxy a ha a' ha' => (hxy a' ha' a ha).symm) h.apO hxi hz (Ne.symm hj);exact ⟨key, fun a ha a' ha' => (key a' ha' a ha).symm⟩
 ·exact row_avoid h.t0 ho (fun hne a ha hm => h.f0 (strs_ne.1 hne) a ha (hsub _ hm))
 ·exact row_avoid h.t1 ho (fun hne a ha hm => h.f1 (strs_ne.1 hne) a ha (hsub _ hm))
 ·exact fun hne a ha hm => h.f0 hne a ha (hfl _ hm)
 ·exact fun hne a ha hm => h.f1 hne a ha (hfl _ hm)
theorem take_any (x : Ev6) (base gm : Nat) (m : Mk) (V : Value) (xs : List PtA) (A0 A1 : Option Addr) (c0 c1 b : Nat) (D : DataW Unit) (w : World) (h : MkAt w base gm m V xs A0 A1 c0 c1 b D) (hB : MkB m) (hs : x.s.size ≤ 65537) (hy : x.y.size ≤ 65537) (hbase : base ≤ w.heap.size) (hT : UTabs w) (hV : Verbs w) :
  Calls Tryz.prog 93 #[.pointer (some ⟨gm, 0, none⟩), .agg #[.int .i64 x.k, .string x.s, .string x.y, .int .i64 x.vk, .int .i64 x.vn, .int .i64 x.ln]] w fun e w' => e = .returned (.int .i64 (takeE m x)) ∧ Only (mine gm b V xs) w w' ∧
   (takeE m x = 0 → ∃ V' xs' A0' A1' c0' c1' D', MkAt w' base gm (takeM m x) V' xs' A0' A1' c0' c1' b D') := by
 obtain ⟨Ap, cp, hVe, -, -, -, -⟩ := own_row h.row;subst hVe;have HE := Hd (Blk.made w 104 #[.int .i64 x.k, .string x.s, .string x.y, .int .i64 x.vk, .int .i64 x.vn, .int .i64 x.ln]);have HO1 := Hd ((Only.refl [] w).alloc (.cells #[.int .i64 x.k, .string x.s, .string x.y, .int .i64 x.vk, .int .i64 x.vn, .int .i64 x.ln] 104));have HM1 := Hd (h.same HO1.out);have HEM := Hd (evmay_any x.k x.s x.y x.vk x.vn x.ln _ (by omega) (by omega) (hT.only HO1.out) (hV.only HO1.out));have hbase0 : base ≤ w.heap.size := hbase;have HBB := Hd hB;have HT := Hd (fun w' (O : Only [] w w') => hT.only O);have HS := Hd (And.intro hs hy);have e0 := HE.out.at_ 0;have e1 := HE.out.at_ 1;have e2 := HE.out.at_ 2;have e3 := HE.out.at_ 3;have e4 := HE.out.at_ 4;have e5 := HE.out.at_ 5;have le := HE.out.lt;simp at e0 e1 e2 e3 e4 e5;clear h hT hV hB hs hy;go_enter Tryz.func93, Tryz.ntmps93;go_wp2_with fail
 generalize (w.alloc (.cells #[.int .i64 x.k, .string x.s, .string x.y, .int .i64 x.vk, .int .i64 x.vn, .int .i64 x.ln] 104)) = w1 at *;generalize hga : w.heap.size = ga at *;refine (HEM.out).mono ?_;rintro e w2 ⟨rfl, O2⟩;have HM2 := Hd (HM1.out.same O2);have HE2 := Hd (O2.blk HE.out (by simp));have HO2 := Hd (HO1.out.trans O2);clear e0 e1 e2 e3 e4 e5 le O2 HM1 HE HO1 HEM
 cases hev : evOk x.k x.s x.y x.vk x.vn with
 | false =>
  have HX : Hid (takeE m x = 4) := Hd (by unfold takeE; rw [if_pos hev]);clear hev;go_wp2
  go_ret
  exact ⟨by rw [HX.out]; rfl, HO2.out.wide (fun i hi => by cases hi), fun e => by rw [HX.out] at e; cases e⟩
 | true =>
  have hsn : isName x.s = true := by
   unfold evOk at hev;simp only [Bool.and_eq_true] at hev;exact hev.1.2
  have HSN := Hd hsn;have HEV : Hid (¬ evOk x.k x.s x.y x.vk x.vn = false) := Hd (by rw [hev]; simp);clear hev hsn
  cases ho : openI m.ps x.s with
  | none =>
   have HOP := Hd ho;have HLK := Hd (fun w' (O : Only [] w2 w') => look_none (map_only HM2.out.map O (by simp)) HM2.out.opens ho (by have := HS.out.1; unfold maxLen; omega));clear ho;go_upto_region 3 with (fail)
   have RD0 := Hd fun wq (hSw : Only [] w2 wq) => aI ((hSw.blk HM2.out.blk (by simp)).lt) (aI ((hSw.blk HM2.out.blk (by simp)).at_ 3) (aI ((hSw.blk HE2.out (by simp)).lt) (aI ((hSw.blk HE2.out (by simp)).at_ 1) (HLK.out _ hSw))));refine rg1 [] [] w2 ?_;refine tQ 0 (h := tQ 1 (h := tQ 2 (h := trq 3 0 RD0 (h := tQ 4 (h := trq 5 0 RD0 (h := trq 6 0 RD0 (h := tQ 7 (h := tQ 8 (h := tQ 9 (h := tQ 10 (h := tQ 11 (h := ?_))))))))))));refine tdn ?_;have HNW := Hd ( ((Only.refl [] w2).drew));have HM3 := Hd (HM2.out.same HNW.out);have HE3 := Hd (HNW.out.blk HE2.out (by simp));have HO3 := Hd (HO2.out.trans HNW.out);clear HM2 HE2 HO2 HNW HLK;generalize w2.drew = w3 at *;have e0 := HE3.out.at_ 0;have e1 := HE3.out.at_ 1;have e2 := HE3.out.at_ 2;have e3 := HE3.out.at_ 3;have e4 := HE3.out.at_ 4;have e5 := HE3.out.at_ 5;have le := HE3.out.lt;simp at e0 e1 e2 e3 e4 e5
   by_cases hk : x.k = 1
   ·have hk1 : (x.k == 1) = true := by simp [hk]
    have HX : Hid (takeE m x = beginE m x ∧ takeM m x = beginM m x) := Hd (by
     unfold takeE takeM;rw [if_neg HEV.out, if_neg HEV.out, HOP.out];simp [hk])
    have HBG := Hd (begin_any x base gm m _ xs A0 A1 c0 c1 b D w3 HM3.out HBB.out HS.out.1 HSN.out HOP.out (by have := HO3.out.size; omega) (HT.out _ HO3.out));clear hk;go_wp2_with fail
    refine (HBG.out).mono ?_;rintro e w4 ⟨rfl, hb4, hm4⟩;have HR4 := Hd (And.intro hb4 hm4);clear hb4 hm4 e0 e1 e2 e3 e4 e5 le;go_wp2
    go_ret
    refine ⟨by rw [HX.out.1]; rfl, (HO3.out.wide (fun i hi => by cases hi)).trans HR4.out.1, fun e => ?_⟩;rw [HX.out.2];exact HR4.out.2 (by rw [← HX.out.1]; exact e)
   ·have hk1 : (x.k == 1) = false := by simp [hk]
    have HX : Hid (takeE m x = 10) := Hd (by
     unfold takeE;rw [if_neg HEV.out, HOP.out];simp [hk])
    clear hk;go_wp2
    go_ret
    exact ⟨by rw [HX.out]; rfl, HO3.out.wide (fun i hi => by cases hi), fun e => by rw [HX.out] at e; cases e⟩
  | some i =>
   have HOP := Hd ho;obtain ⟨p, hp, hps, hpf⟩ := open_some ho;have HP := Hd (And.intro hp (And.intro hps hpf));have HLK := Hd (fun w' (O : Only [] w2 w') => look_some (map_only HM2.out.map O (by simp)) HM2.out.opens ho (by have := HS.out.1; unfold maxLen; omega));have hil := (List.getElem?_eq_some_iff.1 hp).1;clear ho hp hps hpf;go_upto_region 3 with (fail)
   have RD0 := Hd fun wq (hSw : Only [] w2 wq) => aI ((hSw.blk HM2.out.blk (by simp)).lt) (aI ((hSw.blk HM2.out.blk (by simp)).at_ 3) (aI ((hSw.blk HE2.out (by simp)).lt) (aI ((hSw.blk HE2.out (by simp)).at_ 1) (HLK.out _ hSw))));refine rg1 [] [] w2 ?_;refine tQ 0 (h := tQ 1 (h := tQ 2 (h := trq 3 0 RD0 (h := tQ 4 (h := trq 5 0 RD0 (h := trq 6 0 RD0 (h := tQ 7 (h := tQ 8 (h := tQ 9 (h := tQ 10 (h := tQ 11 (h := ?_))))))))))));refine tdn ?_;have HNW := Hd ( ((Only.refl [] w2).drew));have HM3 := Hd (HM2.out.same HNW.out);have HE3 := Hd (HNW.out.blk HE2.out (by simp));have HO3 := Hd (HO2.out.trans HNW.out);clear HM2 HE2 HO2 HNW HLK;generalize w2.drew = w3 at *;have e0 := HE3.out.at_ 0;have e1 := HE3.out.at_ 1;have e2 := HE3.out.at_ 2;have e3 := HE3.out.at_ 3;have e4 := HE3.out.at_ 4;have e5 := HE3.out.at_ 5;have le := HE3.out.lt;simp at e0 e1 e2 e3 e4 e5
   by_cases hk : x.k = 1
   ·have hk1 : (x.k == 1) = true := by simp [hk]
    have HX : Hid (takeE m x = 9) := Hd (by
     unfold takeE;rw [if_neg HEV.out, HOP.out];simp [hk])
    clear hk;go_wp2
    go_ret
    exact ⟨by rw [HX.out]; rfl, HO3.out.wide (fun i hi => by cases hi), fun e => by rw [HX.out] at e; cases e⟩
   ·have hk1 : (x.k == 1) = false := by simp [hk]
    -- the parts' row is somewhere
    obtain ⟨gv, hAp⟩ : ∃ gv, Ap = some ⟨gv, 0, none⟩ := by
     obtain ⟨-, ⟨hn, h0⟩ | ⟨g, cap, cur, hv, -⟩⟩ := HM3.out.row
     ·omega
     ·injection hv with e;exact ⟨g, e⟩
    subst hAp;have hi0 : (0 : Int) ≤ (i : Int) := Int.natCast_nonneg _;have hi1 : (i : Int) < (m.ps.length : Int) := by omega
    by_cases hk2 : x.k = 2 ∨ x.k = 3
    ·have HX : Hid (takeE m x = addE m p x ∧ takeM m x = addM m i p x) := Hd (by
      unfold takeE takeM;rw [if_neg HEV.out, if_neg HEV.out, HOP.out];dsimp only;rw [if_neg hk, if_neg hk, if_pos hk2, HP.out.1];dsimp only;rw [if_pos hk2];exact ⟨rfl, rfl⟩)
     have HAD := Hd (fun w' (O : Only [] w3 w') => add_any x base gm gv cp i m p xs A0 A1 c0 c1 b D w' (HM3.out.same O) HBB.out HP.out.1 HS.out.2 (by have := HO3.out.size; have := O.size; omega) (HT.out _ (HO3.out.trans O)));clear hk;have hkk : (x.k == 2) = true ∨ ((x.k == 2) = false ∧ (x.k == 3) = true) := by
      by_cases h2 : x.k = 2
      ·exact .inl (by simp [h2])
      ·exact .inr ⟨by simp [h2], by simpa using hk2.resolve_left h2⟩
     clear hk2;rcases hkk with hq2 | ⟨hq2, hq3⟩
     ·go_upto_region 11 with (fail)
      clear e0 e1 e2 e3 e4 e5 le;refine rgo (F := [⟨[], [8], fun w' => Only [] w3 w'⟩, ⟨[], [6], fun w' => Only [] w3 w'⟩]) (timed_holds ((Only.refl [] w3).drew) (th1 ((Only.refl [] w3).drew))) ?_;refine tQ 0 (h := tQ 1 (h := tQ 2 (h := tQ 3 (h := ?_))));refine trd (i := 4) (v := ?_) 1 ?_ ?_;rotate_left
      ·(intro wq hSw; have hb := hSw.blk HM3.out.blk (by simp); have hlb := hb.lt; have y0 := hb.at_ 0; have he := hSw.blk HE3.out (by simp); have hle := he.lt; have v0 := he.at_ 0; have v1 := he.at_ 1; have v2 := he.at_ 2; have v3 := he.at_ 3; have v4 := he.at_ 4; have v5 := he.at_ 5; simp at y0 v0 v1 v2 v3 v4 v5; clear hb he; clear hSw; go_simp; try with_reducible rfl)
      (try simp only [tdz]);refine tQ 5 (h := ?_);refine trd (i := 7) (v := ?_) 0 ?_ ?_;rotate_left
      ·(intro wq hSw; have hb := hSw.blk HM3.out.blk (by simp); have hlb := hb.lt; have y0 := hb.at_ 0; have he := hSw.blk HE3.out (by simp); have hle := he.lt; have v0 := he.at_ 0; have v1 := he.at_ 1; have v2 := he.at_ 2; have v3 := he.at_ 3; have v4 := he.at_ 4; have v5 := he.at_ 5; simp at y0 v0 v1 v2 v3 v4 v5; clear hb he; clear hSw; go_simp; try with_reducible rfl)
      (try simp only [tdz]);refine tst (i := 6) fun K hK => ?_;go_simp;refine hK.out _ _ (timed_holds ((Only.refl [] w3).drew) (timed_over (by kernel_rfl) (timed_nil))) ?_;clear hK K;(try simp only [tdz]);refine tst (i := 8) fun K hK => ?_;go_simp;refine (HAD.out _ (Only.refl [] _).drew).mono ?_;rintro e w4 ⟨rfl, hb4, hm4⟩;refine hK.out _ _ (timed_over (by kernel_rfl) (timed_over (by kernel_rfl) (timed_nil))) ?_;clear hK K;(try simp only [tdz]);refine tQ 9 (h := ?_);refine tdn ?_;have HR4 := Hd (And.intro hb4 hm4);clear hb4 hm4;go_wp2
      go_ret
      refine ⟨by rw [HX.out.1]; rfl, ((HO3.out.drew).wide (fun i hi => by cases hi)).trans HR4.out.1, fun e => ?_⟩;rw [HX.out.2];exact HR4.out.2 (by rw [← HX.out.1]; exact e)
     ·go_upto_region 11 with (fail)
      clear e0 e1 e2 e3 e4 e5 le;refine rgo (F := [⟨[], [8], fun w' => Only [] w3 w'⟩, ⟨[], [6], fun w' => Only [] w3 w'⟩]) (timed_holds ((Only.refl [] w3).drew) (th1 ((Only.refl [] w3).drew))) ?_;refine tQ 0 (h := tQ 1 (h := tQ 2 (h := tQ 3 (h := ?_))));refine trd (i := 4) (v := ?_) 1 ?_ ?_;rotate_left
      ·(intro wq hSw; have hb := hSw.blk HM3.out.blk (by simp); have hlb := hb.lt; have y0 := hb.at_ 0; have he := hSw.blk HE3.out (by simp); have hle := he.lt; have v0 := he.at_ 0; have v1 := he.at_ 1; have v2 := he.at_ 2; have v3 := he.at_ 3; have v4 := he.at_ 4; have v5 := he.at_ 5; simp at y0 v0 v1 v2 v3 v4 v5; clear hb he; clear hSw; go_simp; try with_reducible rfl)
      (try simp only [tdz]);refine tQ 5 (h := ?_);refine trd (i := 7) (v := ?_) 0 ?_ ?_;rotate_left
      ·(intro wq hSw; have hb := hSw.blk HM3.out.blk (by simp); have hlb := hb.lt; have y0 := hb.at_ 0; have he := hSw.blk HE3.out (by simp); have hle := he.lt; have v0 := he.at_ 0; have v1 := he.at_ 1; have v2 := he.at_ 2; have v3 := he.at_ 3; have v4 := he.at_ 4; have v5 := he.at_ 5; simp at y0 v0 v1 v2 v3 v4 v5; clear hb he; clear hSw; go_simp; try with_reducible rfl)
      (try simp only [tdz]);refine tst (i := 6) fun K hK => ?_;go_simp;refine hK.out _ _ (timed_holds ((Only.refl [] w3).drew) (timed_over (by kernel_rfl) (timed_nil))) ?_;clear hK K;(try simp only [tdz]);refine tst (i := 8) fun K hK => ?_;go_simp;refine (HAD.out _ (Only.refl [] _).drew).mono ?_;rintro e w4 ⟨rfl, hb4, hm4⟩;refine hK.out _ _ (timed_over (by kernel_rfl) (timed_over (by kernel_rfl) (timed_nil))) ?_;clear hK K;(try simp only [tdz]);refine tQ 9 (h := ?_);refine tdn ?_;have HR4 := Hd (And.intro hb4 hm4);clear hb4 hm4;go_wp2
      go_ret
      refine ⟨by rw [HX.out.1]; rfl, ((HO3.out.drew).wide (fun i hi => by cases hi)).trans HR4.out.1, fun e => ?_⟩;rw [HX.out.2];exact HR4.out.2 (by rw [← HX.out.1]; exact e)
    ·have hq2 : (x.k == 2) = false := by simp; omega
     have hq3 : (x.k == 3) = false := by simp; omega
     have HX : Hid (takeE m x = 0 ∧ takeM m x = ⟨m.ps.set i { p with f := fateE x.k }, m.ss, m.ks⟩) := Hd (by
      unfold takeE takeM;rw [if_neg HEV.out, if_neg HEV.out, HOP.out];dsimp only;rw [if_neg hk, if_neg hk, if_neg hk2, HP.out.1];dsimp only;rw [if_neg hk2];exact ⟨rfl, rfl⟩)
     clear hk hk2;obtain ⟨xi, hxi, hxp⟩ : ∃ xi, xs[i]? = some xi ∧ xi.p = p := by
      have hp := HP.out.1;rw [← HM3.out.parts, List.getElem?_map] at hp
      cases hx : xs[i]? with
      | none => rw [hx] at hp; cases hp
      | some xi => rw [hx] at hp; exact ⟨xi, rfl, Option.some.inj hp⟩
     obtain ⟨pi, Ai, ci, Zi, di⟩ := xi;have hpe : p = pi := hxp.symm;subst hpe;have HXI := Hd hxi;have HG : Hid ((ptC xs)[i * 5 + 1]? = some (.int .i64 p.f)) := Hd (by
      rw [ptC_get xs i _ HXI.out 1 (by omega)]
      rfl)
     have hown : (Value.slice (some ⟨gv, 0, none⟩) m.ps.length cp).ownBlock = some gv := rfl;clear hxi hxp;have hgvm : gv ≠ gm := fun e => own_apart HM3.out.row HM3.out.blk (by decide) (by rw [hown, e]; simp);have hgve : gv ≠ ga := fun e => own_apart HM3.out.row HE3.out (by decide) (by rw [hown, e]; simp);have hgvb : gv ≠ b := fun e => map_not_own HM3.out.map HM3.out.row (by rw [hown, e]; simp);have hgeb : ga ≠ b := map_not_blk HM3.out.map HE3.out;have hgmb : gm ≠ b := map_not_blk HM3.out.map HM3.out.blk;go_upto_region 12 with (fail)
     clear e0 e1 e2 e3 e4 e5 le;refine rg1 [10] [] w3 ?_;refine tQ 0 (h := tQ 1 (h := tQ 2 (h := ?_)));refine trd (i := 3) (v := ?_) 0 ?_ ?_;rotate_left
     ·(intro wq hSw; have hb := hSw.blk HM3.out.blk (by simp); have hlb := hb.lt; have y0 := hb.at_ 0; have he := hSw.blk HE3.out (by simp); have hle := he.lt; have v0 := he.at_ 0; have v1 := he.at_ 1; have v2 := he.at_ 2; have v3 := he.at_ 3; have v4 := he.at_ 4; have v5 := he.at_ 5; simp at y0 v0 v1 v2 v3 v4 v5; clear hb he; clear hSw; go_simp; try with_reducible rfl)
     (try simp only [tdz]);refine tQ 4 (h := tQ 5 (h := ?_));refine trd (i := 6) (v := ?_) 0 ?_ ?_;rotate_left
     ·(intro wq hSw; have hb := hSw.blk HM3.out.blk (by simp); have hlb := hb.lt; have y0 := hb.at_ 0; have he := hSw.blk HE3.out (by simp); have hle := he.lt; have v0 := he.at_ 0; have v1 := he.at_ 1; have v2 := he.at_ 2; have v3 := he.at_ 3; have v4 := he.at_ 4; have v5 := he.at_ 5; simp at y0 v0 v1 v2 v3 v4 v5; clear hb he; clear hSw; go_simp; try with_reducible rfl)
     (try simp only [tdz]);refine tst (i := 7) fun K hK => ?_;go_simp;refine (pfate_any _ _).mono ?_;rintro e w4 ⟨rfl, rfl⟩;obtain ⟨cG, fG⟩ := own_cell (own_only HM3.out.row (Only.refl [] w3).drew (by simp)) hown HG.out;have lG := own_lt HM3.out.row (g := gv) (by rw [hown]; simp);simp at cG fG;refine kOut hK ((Only.refl [] w3).drew) (h := ?_);clear hK K;refine tQ 8 (h := tQ 9 (h := ?_));refine tst (i := 10) fun K hK => ?_;go_simp;refine hK.out _ _ (timed_over (by kernel_rfl) (timed_nil)) ?_;clear hK K;(try simp only [tdz]);refine tdn ?_;have ON4 : Only [gv] w3 (w3.setCell ⟨gv, i * 5 + 1, none⟩ (.int .i64 (fateE x.k))) := (Only.refl [gv] w3).put (p := ⟨gv, i * 5 + 1, none⟩) (by simp) _;have HP4 : Hid ((w3.setCell ⟨gv, i * 5 + 1, none⟩ (.int .i64 (fateE x.k))).drew.ownsRow base 136 5 (.slice (some ⟨gv, 0, none⟩) m.ps.length cp) m.ps.length (ptC (xs.set i ⟨{ p with f := fateE x.k }, Ai, ci, Zi, di⟩))) := Hd (by
      have := own_set HM3.out.row hown (j := i * 5 + 1) (by rw [ptC_len]; have := (List.getElem?_eq_some_iff.1 HXI.out).1; omega) (.int .i64 (fateE x.k));rw [ptC_set xs i 1 _ ⟨{ p with f := fateE x.k }, Ai, ci, Zi, di⟩ _ HXI.out (by omega) rfl] at this;exact own_only this ((Only.refl [] _).drew) (by simp))
     have HN4 := Hd ON4.drew;have HMP4 := Hd (map_only HM3.out.map HN4.out (by simp; omega));have HB4 := Hd (HN4.out.blk HM3.out.blk (by simp; omega));have HE4 := Hd (HN4.out.blk HE3.out (by simp; omega));clear ON4;generalize ((w3.setCell ⟨gv, i * 5 + 1, none⟩ (.int .i64 (fateE x.k))).drew) = w4 at *;go_upto_region 13 with (fail)
     have RD0 := Hd fun wq (hSw : Only [] w4 wq) => aI ((hSw.blk HB4.out (by simp)).lt) (aI ((hSw.blk HB4.out (by simp)).at_ 3) (aI ((hSw.blk HE4.out (by simp)).lt) ((hSw.blk HE4.out (by simp)).at_ 1)));refine rg1 [6] [] w4 ?_;refine tQ 0 (h := tQ 1 (h := tQ 2 (h := trq 3 0 RD0 (h := tQ 4 (h := trq 5 0 RD0 (h := ?_))))));refine tst (i := 6) fun K hK => ?_;refine wp_delete_own _ _ 130 9 rfl 3 law_str Tryz.underlying130 _ b m.ps.length D rfl HMP4.out.drew _ _ rfl (Go.WideMaps.keyOf_string_mk Tryz.underlying9 (by have := HS.out.1; unfold maxLen; omega)) ?_;intro w6 hown6 htu6;have HMP6 := Hd hown6;have HN6 : Hid (Only [b] w4 w6) := Hd (((Only.refl [b] w4).drew).trans (Only.of_grown (S := [b]) htu6.grown (fun g hg _ => by simp at hg ⊢; omega)));clear hown6 htu6;refine hK.out _ _ (timed_over (by kernel_rfl) (timed_nil)) ?_;clear hK K;(try simp only [tdz]);refine tdn ?_;have HS6 : Only [gv, b] w3 w6 := (HN4.out.wide (fun i hi _ => by simp at hi; simp [hi])).trans (HN6.out.wide (fun i hi _ => by simp at hi; simp [hi]));have HP6 := own_only HP4.out HN6.out (fun g hg hm => by simp at hm; subst hm; exact map_not_own HMP4.out HP4.out (by rw [hg]; simp));have hps := HP.out.2.1;have hff : fateE x.k ≠ 0 := by unfold fateE; split <;> (try split) <;> decide
     have HFIN := Hd (mk_ended (f := fateE x.k) HM3.out HXI.out hff HP.out.2.2 HBB.out.uni HS6 HP6 (by
      show w6.ownsMap _ _ _ b _ (D.del (kS p.s))
      rw [hps];exact HMP6.out))
     have hbel : Hid (Only (mine gm b (.slice (some ⟨gv, 0, none⟩) m.ps.length cp) xs) w w6) := Hd ((HO3.out.wide (fun i hi => by cases hi)).trans (HS6.wide (fun j hj _ => by
      rw [mine_mem, hown];simp at hj ⊢;rcases hj with h | h
      ·exact .inr (.inr (.inl h))
      ·exact .inr (.inl h))))
     clear HS6 HP6 hps hff;go_wp2
     go_ret
     exact ⟨by rw [HX.out.1]; rfl, hbel.out, fun _ => ⟨_, _, _, _, _, _, _, by rw [HX.out.2]; exact HFIN.out⟩⟩
end Go.Proofs.YthdofaoamljkfaaGreatDoor
