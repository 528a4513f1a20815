/- Parts. -/
import Derived.Test.YthdofaoamljkfaaGreatDoorLaw24AllK34
set_option maxRecDepth 10000
set_option maxHeartbeats 16000000
set_option linter.unusedVariables false
set_option linter.unusedSimpArgs false
namespace Go.Proofs.YthdofaoamljkfaaGreatDoor
open Go.RowKit
open Go.Lib hiding intOf
attribute [local go_sem ↓] Go.wp_at_zero Go.wp_at_succ
theorem info_part : (Tryz.prog.info? 136).map (fun i => (i.zero, i.size, i.bytes)) = some (some (.agg #[.string ⟨#[]⟩, .int .i64 0, .int .i64 0, .slice none 0 0, .slice none 0 0]), 5, 80) := by kernel_rfl
theorem law_str : Go.Maps.Keyed Tryz.prog 9 := Go.Maps.string_keyed Tryz.underlying9
theorem opens_begin {D : DataW Unit} {ps : List Pt} {s : ByteArray} {ln : Int} (h : Opens D ps) (hD : Maps.IsMap D) (hn : openI ps s = none) : Opens (D.put (kS s) (.lit (.int .i64 (ps.length : Int)))) (ps ++ [⟨s, 0, ln, [], []⟩]) := by
 have hk : WideAt.IsKeyLit (kS s) := by unfold kS; trivial
 have e1 : openI (ps ++ [⟨s, 0, ln, [], []⟩]) s = some ps.length := by
  unfold openI at hn ⊢;rw [List.findIdx?_append, hn];simp [List.findIdx?_cons]
 have e2 : ∀ r, r ≠ s → openI (ps ++ [⟨s, 0, ln, [], []⟩]) r = openI ps r := fun r hr => by
  unfold openI;rw [List.findIdx?_append];have : ([⟨s, 0, ln, [], []⟩] : List Pt).findIdx? (fun p => decide (p.s = r) && decide (p.f = 0)) = none := by simp [List.findIdx?_cons, Ne.symm hr]
  rw [this]
  cases List.findIdx? (fun p => decide (p.s = r) && decide (p.f = 0)) ps <;> rfl
 have hkn : ∀ r, r ≠ s → kS r ≠ kS s := fun r hr e => hr (by
  unfold kS at e;injection e with e;obtain ⟨⟨r⟩⟩ := r;obtain ⟨⟨s⟩⟩ := s
  simpa using e)
 refine ⟨fun r i hi => ?_, fun r hi => ?_⟩
 ·by_cases hr : r = s
  ·subst hr;rw [e1] at hi;obtain rfl := Option.some.inj hi;exact ⟨Maps.has_put_same hD hk _, fun z => Maps.atKey_put_same hD hk _ z⟩
  ·rw [e2 r hr] at hi;rw [Maps.has_put_other (hkn r hr)];exact ⟨(h.there r i hi).1, fun z => by rw [Maps.atKey_put_other (hkn r hr)]; exact (h.there r i hi).2 z⟩
 ·by_cases hr : r = s
  ·subst hr;rw [e1] at hi
   cases hi
  ·rw [e2 r hr] at hi;rw [Maps.has_put_other (hkn r hr)];exact h.none_ r hi
theorem wp_mapUpdate_own {H : Type} {P : Program} {o : Oper} {a : Act} {w : World} {K' : Act → World → Prop} {Q : Exit → Act → World → Prop} (m x v : Operand) (t : TypeId) (hop : o.op = Op.mapUpdate t m x v)
  (k e : TypeId) (K : Go.Maps.Keyed P k) (ht : P.underlying t = some (.map k e)) (R : Value → Option (DataW H × List MemPlace)) (b n : Nat) (D : DataW H)
  (hm : a.eval m = .map (some b)) (hown : w.ownsMap P k R b n D) (hn : n < maxLen) (key val : Value) (kl : Lit) (hx : a.eval x = key) (hv : a.eval v = val) (hkey : keyOf P k key = some kl)
  (d : DataW H) (ps : List MemPlace) (hval : R val = some (d, ps)) (hK : ∀ w', w'.ownsMap P k R b (n + 1) (D.put kl d) → w.grownBy w' (some b) → K' (a.put o.dst undef) w') : o.wp P a w K' Q := by
 obtain ⟨w', hrun, r1, r2⟩ := hown.update K ht hn hkey hval;unfold Oper.wp;simp [execOp, hop, hm, hx, hv, hrun, Result.andThen];exact hK w' r1 r2
theorem wp_delete_own {H : Type} {P : Program} {o : Oper} {a : Act} {w : World} {K' : Act → World → Prop} {Q : Exit → Act → World → Prop} (m x : Operand) (t k : TypeId) (hop : o.op = Op.call { callee := Callee.builtin Builtin.delete, args := #[m, x], argTypes := #[t, k] })
  (e : TypeId) (K : Go.Maps.Keyed P k) (ht : P.underlying t = some (.map k e)) (R : Value → Option (DataW H × List MemPlace)) (b n : Nat) (D : DataW H)
  (hm : a.eval m = .map (some b)) (hown : w.ownsMap P k R b n D) (key : Value) (kl : Lit) (hx : a.eval x = key) (hkey : keyOf P k key = some kl)
  (hK : ∀ w', w'.ownsMap P k R b n (D.del kl) → w.mapTurned w' b → K' (a.put o.dst (.tuple #[])) w') : o.wp P a w K' Q := by
 obtain ⟨w', hrun, r1, r2⟩ := hown.drop K ht hkey o.type;unfold Oper.wp;simp [execOp, hop, resolve, invoke, builtin, hm, hx, hrun, Result.andThen];exact hK w' r1 r2
theorem mk_begun {w2 w6 : World} {base gm : Nat} {m : Mk} {V V3 : Value} {xs : List PtA} {A0 A1 A' : Option Addr} {c0 c1 b k' c' H : Nat} {D : DataW Unit} {s : ByteArray} {ln : Int} (h : MkAt w2 base gm m V xs A0 A1 c0 c1 b D) (ho : Only (gm :: b :: V.ownBlock.toList) w2 w6)
  (hblk : Blk w6 gm 133 #[V3, .slice A' k' c', .slice A1 m.ks.length c1, .map (some b)]) (hrow : w6.ownsRow base 136 5 V3 (m.ps.length + 1) (ptC (xs ++ [⟨⟨s, 0, ln, [], []⟩, none, 0, none, 0⟩])))
  (hmap : w6.ownsMap Tryz.prog 9 (plainElem Tryz.prog 3) b (m.ps.length + 1) (D.put (kS s) (.lit (.int .i64 (m.ps.length : Int))))) (hat : V3.ownBlock = V.ownBlock ∨ ∃ g, V3.ownBlock = some g ∧ w2.heap.size ≤ g) (hk : (withB m.ss s).length = k')
  (hr : Row w2 w2.heap.size A' (strs (withB m.ss s))) (hor : (A' = A0 ∧ withB m.ss s = m.ss) ∨ ∀ a, A' = some a → H ≤ a.block) (hH : ∀ i ∈ mine gm b V xs, i < H) (hn : openI m.ps s = none) (hT : ∀ a, A1 = some a → m.ks ≠ [] → a.block < w2.heap.size) :
  MkAt w6 base gm ⟨m.ps ++ [⟨s, 0, ln, [], []⟩], withB m.ss s, m.ks⟩ V3 (xs ++ [⟨⟨s, 0, ln, [], []⟩, none, 0, none, 0⟩]) A' A1 c' c1 b (D.put (kS s) (.lit (.int .i64 (m.ps.length : Int)))) := by
 have hsub : ∀ i ∈ (gm :: b :: V.ownBlock.toList), i ∈ mine gm b V xs := fun i hi => by
  unfold mine;simp only [List.mem_cons, List.mem_append] at hi ⊢;rcases hi with h | h | h
  ·exact .inl h
  ·exact .inr (.inl h)
  ·exact .inr (.inr (.inl h))
 have hfl : ∀ i, i ∈ mine gm b V3 (xs ++ [⟨⟨s, 0, ln, [], []⟩, none, 0, none, 0⟩]) → i ∈ mine gm b V xs ∨ w2.heap.size ≤ i := fun i hi => by
  unfold mine at hi ⊢;simp only [List.mem_cons, List.mem_append, List.flatMap_append, List.flatMap_cons, List.flatMap_nil, Option.map_none, Option.toList_none, List.append_nil, List.not_mem_nil, or_false] at hi ⊢;rcases hi with h | h | h | h
  ·exact .inl (.inl h)
  ·exact .inl (.inr (.inl h))
  ·rcases hat with e | ⟨g, e, hg⟩
   ·rw [e] at h;exact .inl (.inr (.inr (.inl h)))
   ·rw [e] at h;simp at h;exact .inr (by omega)
  ·exact .inl (.inr (.inr (.inr h)))
 have hA' : withB m.ss s ≠ [] → ∀ a, A' = some a → a.block ∉ mine gm b V xs := fun hne a ha hm => by
  rcases hor with ⟨e, e2⟩ | hf
  ·rw [e2] at hne;exact h.f0 hne a (e ▸ ha) hm
  ·have := hf a ha;have := hH _ hm;omega
 have hkeep : ∀ {t : TypeId} {sz n : Nat} {v : Value} {l : List Value}, w2.ownsRow base t sz v n l → t ≠ 136 → t ≠ 133 → w6.ownsRow base t sz v n l := fun {t sz n v l} hr h1 h2 => own_only hr ho (fun g hg hm => by
  simp only [List.mem_cons] at hm;rcases hm with rfl | rfl | hm
  ·exact own_apart hr h.blk h2 (by rw [hg]; simp)
  ·exact map_not_own h.map hr (by rw [hg]; simp)
  ·exact own_two hr h.row h1 g hg hm)
 refine ⟨by rw [hk]; exact hblk, h.gmb, by rw [List.map_append, h.parts]; rfl, by simpa using hrow, ?_, ?_, ?_, ?_, ?_, ?_, ?_, ?_, ?_, ?_, by simpa using hmap, h.mapb, opens_begin h.opens h.map.isMap hn⟩
 ·intro x hx;rcases List.mem_append.1 hx with hx | hx
  ·exact hkeep (h.keys x hx) (by decide) (by decide)
  ·simp at hx;subst hx;exact World.ownsRow_nil _ _ _ _
 ·intro x hx;rcases List.mem_append.1 hx with hx | hx
  ·exact hkeep (h.ops x hx) (by decide) (by decide)
  ·simp at hx;subst hx;exact World.ownsRow_nil _ _ _ _
 ·rw [List.pairwise_append];exact ⟨h.apK, by simp, fun x hx y hy a ha a' ha' => by simp at hy; subst hy; cases ha'⟩
 ·rw [List.pairwise_append];exact ⟨h.apO, by simp, fun x hx y hy a ha a' ha' => by simp at hy; subst hy; cases ha'⟩
 ·exact row_avoid hr ho (fun hne a ha hm => hA' (strs_ne.1 hne) a ha (hsub _ hm))
 ·exact row_avoid h.t1 ho (fun hne a ha hm => h.f1 (strs_ne.1 hne) a ha (hsub _ hm))
 ·exact fun e => row_of_none hr e
 ·exact h.n1
 ·intro hne a ha hm;rcases hfl _ hm with hm | hm
  ·exact hA' hne a ha hm
  ·have := row_lt hr (strs_ne.2 hne) ha;omega
 ·intro hne a ha hm;rcases hfl _ hm with hm | hm
  ·exact h.f1 hne a ha hm
  ·have := hT a ha hne;omega
theorem begin_any (x : Ev6) (base gm : Nat) (m : Mk) (V : Value) (xs : List PtA) (A0 A1 : Option Addr) (c0 c1 b : Nat) (D : DataW Unit) (w : World) (h : MkAt w base gm m V xs A0 A1 c0 c1 b D) (hB : MkB m) (hs : x.s.size ≤ 65537) (hsn : isName x.s = true) (hopen : openI m.ps x.s = none) (hbase : base ≤ w.heap.size) (hT : UTabs w) :
  Calls Tryz.prog 108 #[.pointer (some ⟨gm, 0, none⟩), .agg #[.int .i64 x.k, .string x.s, .string x.y, .int .i64 x.vk, .int .i64 x.vn, .int .i64 x.ln]] w fun e w' => e = .returned (.int .i64 (beginE m x)) ∧ Only (mine gm b V xs) w w' ∧
   (beginE m x = 0 → ∃ V' xs' A0' A1' c0' c1' D', MkAt w' base gm (beginM m x) V' xs' A0' A1' c0' c1' b D') := by
 obtain ⟨Ap, cp, hV, -, -, -, -⟩ := own_row h.row;subst hV;obtain ⟨ia, hia, ha0, ha1, ha2⟩ := info_parts info_part;have HE := Hd (Blk.made w 104 #[.int .i64 x.k, .string x.s, .string x.y, .int .i64 x.vk, .int .i64 x.vn, .int .i64 x.ln]);have HO1 := Hd ((Only.refl [] w).alloc (.cells #[.int .i64 x.k, .string x.s, .string x.y, .int .i64 x.vk, .int .i64 x.vn, .int .i64 x.ln] 104));have HM1 := Hd (h.same HO1.out);have HW := Hd (fun w' (O : Only [] (w.alloc (.cells #[.int .i64 x.k, .string x.s, .string x.y, .int .i64 x.vk, .int .i64 x.vn, .int .i64 x.ln] 104)) w') => with_any A0 m.ss.length c0 _ m.ss x.s w' rfl (by have := hB.ns; omega) (fun z hz => by have := hB.zs z hz; omega) (by omega) (HM1.out.same O).t0 h.n0 (hT.only (HO1.out.trans O)));have HBB := Hd hB;have hnp := hB.np;have HOP := Hd hopen;have HEV := Hd (And.intro hs hsn);clear h hT hB hopen hs hsn;go_enter Tryz.func108, Tryz.ntmps108;go_upto_region 1 with (fail)
 generalize (w.alloc (.cells #[.int .i64 x.k, .string x.s, .string x.y, .int .i64 x.vk, .int .i64 x.vn, .int .i64 x.ln] 104)) = w1 at *;generalize hga : w.heap.size = ga at *;generalize hnn : m.ps.length = np at *;have HNN := Hd hnn;clear hnn;refine rg1 [] [] w1 ?_;refine tQ 0 (h := tQ 1 (h := tQ 2 (h := ?_)));refine trd (i := 3) (v := ?_) 0 ?_ ?_;rotate_left
 ·(intro wq hSw; have hb := hSw.blk HM1.out.blk (by simp); have hlb := hb.lt; have y1 := hb.at_ 1; have he := hSw.blk HE.out (by simp); have hle := he.lt; have v1 := he.at_ 1; simp at y1 v1; clear hSw; go_simp; try with_reducible rfl)
 (try simp only [tdz]);refine tQ 4 (h := ?_);refine trd (i := 5) (v := ?_) 0 ?_ ?_;rotate_left
 ·(intro wq hSw; have hb := hSw.blk HM1.out.blk (by simp); have hlb := hb.lt; have y1 := hb.at_ 1; have he := hSw.blk HE.out (by simp); have hle := he.lt; have v1 := he.at_ 1; simp at y1 v1; clear hSw; go_simp; try with_reducible rfl)
 (try simp only [tdz]);refine tst (i := 6) fun K hK => ?_;go_simp;refine (HW.out _ ((Only.refl [] _).drew)).mono ?_;rintro e w2 ⟨O2, A', k', c', rfl, hl, hr, hf⟩;have HWL := Hd (And.intro hl (And.intro hr hf));clear hl hr hf;refine kOut hK (((Only.refl [] w1).drew).trans O2) (h := ?_);clear hK K;refine tQ 7 (h := ?_);refine tdn ?_;have HNW := Hd ( (((Only.refl [] w1).drew).trans O2));have HM2 := Hd (HM1.out.same HNW.out);have HE2 := Hd (HNW.out.blk HE.out (by simp));have HO2 := Hd (HO1.out.trans HNW.out);have hb2 : Blk w2 gm 133 #[.slice Ap np cp, .slice A0 m.ss.length c0, .slice A1 m.ks.length c1, .map (some b)] := HM2.out.blk;have hlb := hb2.lt;have z0 := hb2.at_ 0;simp at z0;clear hb2;have HK := Hd (And.intro HWL.out.1 (And.intro HWL.out.2.1 HWL.out.2.2))
 by_cases hk1 : 20 < k'
 ·have d1 : decide ((20 : Int) < (k' : Int)) = true := decide_eq_true (by omega);have HX : Hid (beginE m x = 7) := Hd (by unfold beginE; rw [if_pos (.inl (by rw [HWL.out.1]; exact hk1))]);clear hk1;go_wp2
  go_ret
  exact ⟨by rw [HX.out]; rfl, HO2.out.wide (fun i hi => by cases hi), fun e => by rw [HX.out] at e; cases e⟩
 ·have d1 : decide ((20 : Int) < (k' : Int)) = false := decide_eq_false (by omega)
  by_cases hp1 : np = 40
  ·have d2 : ((np : Int) == 40) = true := by simp; omega
   have HX : Hid (beginE m x = 7) := Hd (by unfold beginE; rw [if_pos (.inr (by rw [HNN.out]; exact hp1))]);clear hp1 hk1;go_wp2
   go_ret
   exact ⟨by rw [HX.out]; rfl, HO2.out.wide (fun i hi => by cases hi), fun e => by rw [HX.out] at e; cases e⟩
  ·have d2 : ((np : Int) == 40) = false := by simp; omega
   have HX : Hid (beginE m x = 0 ∧ beginM m x = ⟨m.ps ++ [⟨x.s, 0, x.ln, [], []⟩], withB m.ss x.s, m.ks⟩) := Hd (by
    have : ¬ ((withB m.ss x.s).length > 20 ∨ m.ps.length = 40) := by rw [HWL.out.1, HNN.out]; omega
    unfold beginE beginM;rw [if_neg this, if_neg this];exact ⟨rfl, rfl⟩)
   have hnp2 : np < 40 := by omega
   clear hp1 hk1
   -- region 4
   have hb2 : Blk w2 gm 133 #[.slice Ap np cp, .slice A0 m.ss.length c0, .slice A1 m.ks.length c1, .map (some b)] := HM2.out.blk;have hf1 := hb2.free 1;have z1 := hb2.at_ 1;simp at z1;have HB3 := Hd (hb2.put 1 (.slice A' k' c'));have HN3 := Hd ((Only.refl [gm] w2).put (p := ⟨gm, 1, none⟩) (by simp) (.slice A' k' c'));clear hb2;have hge : gm ≠ ga := HM2.out.blk.apart HE2.out (by decide);have HE3 := Hd (HN3.out.blk HE2.out (by simp; omega));have hgb : gm ≠ b := map_not_blk HM2.out.map HM2.out.blk;have HMP : Hid ((w2.setCell ⟨gm, 1, none⟩ (.slice A' k' c')).ownsMap Tryz.prog 9 (plainElem Tryz.prog 3) b np D) := Hd (by
    have := map_only HM2.out.map HN3.out (by simp; omega)
    rwa [HNN.out] at this)
   go_upto_region 5 with (fail)
   clear z0 z1 hf1 hlb;generalize (w2.setCell ⟨gm, 1, none⟩ (.slice A' k' c')) = w3 at *;have RD0 := Hd fun wq (hSw : Only [] w3 wq) => aI ((hSw.blk HB3.out (by simp)).lt) (aI ((hSw.blk HB3.out (by simp)).at_ 0) (aI ((hSw.blk HB3.out (by simp)).at_ 3) (aI ((hSw.blk HE3.out (by simp)).lt) ((hSw.blk HE3.out (by simp)).at_ 1))));refine rg1 [11] [] w3 ?_;refine tQ 0 (h := tQ 1 (h := tQ 2 (h := trq 3 0 RD0 (h := tQ 4 (h := trq 5 0 RD0 (h := tQ 6 (h := tQ 7 (h := tQ 8 (h := trq 9 0 RD0 (h := ?_))))))))));refine tst (i := 10) fun K hK => ?_;go_simp;refine kOut hK ((Only.refl [] w3).drew) (h := ?_);clear hK K;refine tst (i := 11) fun K hK => ?_;refine wp_mapUpdate_own _ _ _ 130 rfl 9 3 law_str Tryz.underlying130 _ b np D rfl HMP.out.drew (by unfold maxLen; omega) _ _ _ rfl rfl (Go.WideMaps.keyOf_string_mk Tryz.underlying9 (by have := HEV.out.1; unfold maxLen; omega)) (.lit (.int .i64 (np : Int))) [] (plainElem_int Tryz.underlying3 (WalkArith.wf_i64 (by omega))) ?_;intro w4 hown4 hgr4;have HMP4 := Hd hown4;have HN4 : Hid (Only [b] w3 w4) := Hd (((Only.refl [b] w3).drew).trans (Only.of_grown (S := [b]) hgr4 (fun g hg _ => by simp at hg ⊢; omega)));clear hown4 hgr4;refine hK.out _ _ (timed_over (by kernel_rfl) (timed_nil)) ?_;clear hK K;(try simp only [tdz]);refine tdn ?_;have HB4 := Hd (HN4.out.blk HB3.out (by simp; omega));have hgb2 : ga ≠ b := map_not_blk HMP.out HE3.out;have HE4 := Hd (HN4.out.blk HE3.out (by simp; omega));have HROW4 : Hid (w4.ownsRow base 136 5 (.slice Ap np cp) np (ptC xs)) := Hd (by
    have r2 := HM2.out.row;rw [HNN.out] at r2;have r3 := own_only r2 HN3.out (fun g hg hm => by
     simp at hm;subst hm;exact own_apart r2 HM2.out.blk (by decide) (by rw [hg]; simp))
    exact own_only r3 HN4.out (fun g hg hm => by
     simp at hm;subst hm;exact map_not_own HMP.out r3 (by rw [hg]; simp)))
   have hsz4 : base ≤ w4.heap.size := by have := HN4.out.size; have := HN3.out.size; have := HO2.out.size; omega
   have hsz42 : w2.heap.size ≤ w4.heap.size := by have := HN4.out.size; have := HN3.out.size; omega
   have hptl : (ptC xs).length = np * 5 := by
    have := HM2.out.parts;rw [ptC_len, ← HNN.out, ← this, List.length_map]
   go_upto_region 6 with (fail)
   have RD0 := Hd fun wq (hSw : Only (Value.slice Ap np cp).ownBlock.toList w4 wq) => aI ((hSw.blk HB4.out (own_apart HROW4.out HB4.out (by decide))).lt) (aI ((hSw.blk HB4.out (own_apart HROW4.out HB4.out (by decide))).at_ 0) (aI ((hSw.blk HE4.out (own_apart HROW4.out HE4.out (by decide))).lt) (aI ((hSw.blk HE4.out (own_apart HROW4.out HE4.out (by decide))).at_ 1) (aI ((hSw.blk HE4.out (own_apart HROW4.out HE4.out (by decide))).at_ 4) ((hSw.blk HE4.out (own_apart HROW4.out HE4.out (by decide))).at_ 5)))));refine rgo (F := [⟨[], [14], fun w' => Only (Value.slice Ap np cp).ownBlock.toList w4 w'⟩]) (th1 ((Only.refl _ w4).drew)) ?_;refine tQ 0 (h := tQ 1 (h := tQ 2 (h := tQ 3 (h := trq 4 0 RD0 (h := tQ 5 (h := trq 6 0 RD0 (h := tQ 7 (h := trq 8 0 RD0 (h := tQ 9 (h := ?_))))))))));refine tst (i := 10) fun K hK => ?_;go_simp;have OA : Only [] w4 ((w4.alloc (.cells #[.string x.s, .int .i64 0, .int .i64 x.ln, .slice none 0 0, .slice none 0 0] 136)).drew) := ((Only.refl [] w4).alloc _).drew;refine kOut hK (((Only.refl _ w4).alloc _).drew) (h := ?_);clear hK K;refine tst (i := 11) fun K hK => ?_;refine step_append_row _ rfl (.tmp 43) (.tmp 49) 131 rfl base 136 ia _ 5 80 Tryz.underlying131 hia ha0 ha1 ha2 rfl (by omega) (.slice Ap np cp) np (ptC xs) (by rfl) (own_only HROW4.out OA (by simp)) (w4.heap.size + 1) (some ⟨w4.heap.size, 0, none⟩) 1 1 [.string x.s, .int .i64 0, .int .i64 x.ln, .slice none 0 0, .slice none 0 0] (by rfl) (by rfl) (by exact row_lit w4 136 #[.string x.s, .int .i64 0, .int .i64 x.ln, .slice none 0 0, .slice none 0 0]) (by intro u hu; simp at hu; rcases hu with rfl | rfl | rfl | rfl | rfl <;> rfl) (by unfold maxLen; omega) (by omega) (by have := OA.size; omega) ?_;intro v3 w5 hown3 hgrow hat;have HAT : Hid (v3.ownBlock = (Value.slice Ap np cp).ownBlock ∨ ∃ g, v3.ownBlock = some g ∧ w2.heap.size ≤ g) := Hd (hat.imp id (fun e => ⟨_, e, by simp; omega⟩));obtain ⟨A3, c3, e3, -, -, -, -⟩ := own_row hown3;subst e3;have HO5 : Hid (Only (Value.slice Ap np cp).ownBlock.toList w4 w5) := Hd (((Only.refl (Value.slice Ap np cp).ownBlock.toList w4).alloc (.cells #[.string x.s, .int .i64 0, .int .i64 x.ln, .slice none 0 0, .slice none 0 0] 136)).drew.step (only_grown hgrow) (fun j hj hl => hj));have HROW5 := Hd hown3;have bG := HO5.out.blk HB4.out (own_apart HROW4.out HB4.out (by decide));have HB5 := Hd bG;have lG := bG.lt;have cG := bG.at_ 0;have fG := bG.free 0;simp at cG;clear hgrow hat OA hown3 bG;refine kOut hK (HO5.out) (h := ?_);clear hK K;refine tQ 12 (h := tQ 13 (h := ?_));refine tst (i := 14) fun K hK => ?_;go_simp;refine hK.out _ _ (timed_over (by kernel_rfl) (timed_nil)) ?_;clear hK K;(try simp only [tdz]);refine tdn ?_;go_wp2
   go_ret
   have HN6 : Only (gm :: b :: (Value.slice Ap np cp).ownBlock.toList) w2 (w5.setCell ⟨gm, 0, none⟩ (.slice A3 (np + 1) c3)) :=
    (((HN3.out.wide (fun i hi _ => by simp at hi; simp [hi])).trans (HN4.out.wide (fun i hi _ => by simp at hi; simp [hi]))).trans (HO5.out.wide (fun i hi _ => by simp only [List.mem_cons]; exact .inr (.inr hi)))).put (fun _ => by simp) _
   have hnn := HNN.out;subst hnn;have hbelow : Only (mine gm b (.slice Ap m.ps.length cp) xs) w (w5.setCell ⟨gm, 0, none⟩ (.slice A3 (m.ps.length + 1) c3)) := (HO2.out.wide (fun i hi => by cases hi)).trans (HN6.wide (fun i hi _ => by
    unfold mine;simp only [List.mem_cons, List.mem_append] at hi ⊢;rcases hi with h | h | h
    ·exact .inl h
    ·exact .inr (.inl h)
    ·exact .inr (.inr (.inl h))))
   refine ⟨by rw [HX.out.1]; rfl, hbelow, fun _ => ⟨.slice A3 (m.ps.length + 1) c3, xs ++ [⟨⟨x.s, 0, x.ln, [], []⟩, none, 0, none, 0⟩], A', A1, c', c1, D.put (kS x.s) (.lit (.int .i64 (m.ps.length : Int))), ?_⟩⟩;rw [HX.out.2];refine mk_begun (k' := k') (H := w1.heap.size) HM2.out HN6 ?_ ?_ ?_ HAT.out HWL.out.1 HWL.out.2.1 HWL.out.2.2 (fun i hi => mine_lt HM1.out i hi) HOP.out (fun a ha hne => row_lt HM2.out.t1 (strs_ne.2 hne) ha)
   ·have := HB5.out.put 0 (.slice A3 (m.ps.length + 1) c3)
    simpa using this
   ·have h1 := own_only HROW5.out ((Only.refl [gm] w5).put (p := ⟨gm, 0, none⟩) (by simp) (.slice A3 (m.ps.length + 1) c3)) (fun g hg hm => by
     simp at hm;subst hm;exact own_apart HROW5.out HB5.out (by decide) (by rw [hg]; simp))
    rw [ptC_append];exact h1
   ·exact map_only (map_only HMP4.out HO5.out (map_not_own HMP4.out HROW4.out)) ((Only.refl [gm] w5).put (p := ⟨gm, 0, none⟩) (by simp) (.slice A3 (m.ps.length + 1) c3)) (by simp; omega)
end Go.Proofs.YthdofaoamljkfaaGreatDoor
namespace Go.Proofs.YthdofaoamljkfaaGreatDoor
open Go.RowKit
open Go.Lib hiding intOf
theorem pw_set {α : Type} {R : α → α → Prop} : ∀ {l : List α} {i : Nat} {y : α}, l.Pairwise R → (∀ j z, j ≠ i → l[j]? = some z → R y z ∧ R z y) → (l.set i y).Pairwise R
 | [], _, _, h, _ => by simp
 | a :: l, 0, y, h, hy => by
  rw [List.set_cons_zero, List.pairwise_cons];rw [List.pairwise_cons] at h;refine ⟨fun z hz => ?_, h.2⟩;obtain ⟨j, hj⟩ := List.mem_iff_getElem?.1 hz;exact (hy (j + 1) z (by omega) (by simpa using hj)).1
 | a :: l, i + 1, y, h, hy => by
  rw [List.set_cons_succ, List.pairwise_cons];rw [List.pairwise_cons] at h;refine ⟨fun z hz => ?_, pw_set h.2 (fun j z hj hz => hy (j + 1) z (by omega) (by simpa using hz))⟩;rcases List.mem_or_eq_of_mem_set hz with hz | rfl
  ·exact h.1 z hz
  ·exact (hy 0 a (by omega) rfl).2
theorem pw_at {α : Type} {R : α → α → Prop} (hs : ∀ x y, R x y → R y x) {l : List α} (h : l.Pairwise R) {i j : Nat} {x y : α} (hx : l[i]? = some x) (hy : l[j]? = some y) (hij : i ≠ j) : R x y := by
 obtain ⟨hi, rfl⟩ := List.getElem?_eq_some_iff.1 hx;obtain ⟨hj, rfl⟩ := List.getElem?_eq_some_iff.1 hy;rw [List.pairwise_iff_getElem] at h;rcases Nat.lt_or_gt_of_ne hij with h' | h'
 ·exact h i j hi hj h'
 ·exact hs _ _ (h j i hj hi h')
theorem mem_set_at {α : Type} {l : List α} {i : Nat} {y z : α} (hz : z ∈ l.set i y) : z = y ∨ ∃ j, j ≠ i ∧ l[j]? = some z := by
 obtain ⟨j, hj⟩ := List.mem_iff_getElem?.1 hz;rw [List.getElem?_set] at hj
 by_cases h : i = j
 ·rw [if_pos h] at hj
  split at hj
  ·exact .inl (Option.some.inj hj).symm
  ·cases hj
 ·rw [if_neg h] at hj;exact .inr ⟨j, Ne.symm h, hj⟩
theorem find_set {ps : List Pt} {i : Nat} {p q : Pt} (hp : ps[i]? = some p) (g : Pt → Bool) (hg : g q = g p) : (ps.set i q).findIdx? g = ps.findIdx? g := by
 induction ps generalizing i with
 | nil => rfl
 | cons a l ih =>
  cases i with
  | zero =>
   simp at hp;subst hp;rw [List.set_cons_zero, List.findIdx?_cons, List.findIdx?_cons, hg]
  | succ i => rw [List.set_cons_succ, List.findIdx?_cons, List.findIdx?_cons, ih (by simpa using hp)]
theorem opens_set {D : DataW Unit} {ps : List Pt} {i : Nat} {p q : Pt} (h : Opens D ps) (hp : ps[i]? = some p) (h1 : q.s = p.s) (h2 : q.f = p.f) : Opens D (ps.set i q) := by
 have e : ∀ s, openI (ps.set i q) s = openI ps s := fun s => find_set hp _ (by rw [h1, h2]);exact ⟨fun s j hj => h.there s j (by rw [← e]; exact hj), fun s hj => h.none_ s (by rw [← e]; exact hj)⟩
def partB (x : PtA) : List Nat := (x.A.map Addr.block).toList ++ (x.Z.map Addr.block).toList
theorem mine_mem {gm b : Nat} {V : Value} {xs : List PtA} {i : Nat} : i ∈ mine gm b V xs ↔ i = gm ∨ i = b ∨ i ∈ V.ownBlock.toList ∨ ∃ x ∈ xs, i ∈ partB x := by
 unfold mine partB;simp only [List.mem_cons, List.mem_append, List.mem_flatMap]
theorem part_own {A : Option Addr} {n c i : Nat} : i ∈ (A.map Addr.block).toList ↔ i ∈ (Value.slice A n c).ownBlock.toList := by cases A <;> simp [Value.ownBlock]
theorem mk_added {w2 w6 : World} {base gm : Nat} {m : Mk} {V : Value} {xs : List PtA} {A0 A1 A' : Option Addr} {c0 c1 b k' c' H i : Nat} {D : DataW Unit} {y : ByteArray} {xi xi' : PtA} {q : Pt} (h : MkAt w2 base gm m V xs A0 A1 c0 c1 b D)
  (hxi : xs[i]? = some xi) (hq : xi'.p = q) (hqs : q.s = xi.p.s) (hqf : q.f = xi.p.f) (ho : Only (gm :: (V.ownBlock.toList ++ partB xi)) w2 w6)
  (hblk : Blk w6 gm 133 #[V, .slice A0 m.ss.length c0, .slice A' k' c', .map (some b)]) (hrow : w6.ownsRow base 136 5 V m.ps.length (ptC (xs.set i xi')))
  (hkr : w6.ownsRow base 9 1 (.slice xi'.A xi'.p.ks.length xi'.c) xi'.p.ks.length (strs xi'.p.ks)) (hor : w6.ownsRow base 70 4 (.slice xi'.Z xi'.p.ops.length xi'.d) xi'.p.ops.length (opC xi'.p.ops))
  (hka : ∀ a, xi'.A = some a → (∃ a', xi.A = some a' ∧ a'.block = a.block) ∨ w2.heap.size ≤ a.block) (hoa : ∀ a, xi'.Z = some a → (∃ a', xi.Z = some a' ∧ a'.block = a.block) ∨ w2.heap.size ≤ a.block)
  (hk : (withB m.ks y).length = k') (hr : Row w2 w2.heap.size A' (strs (withB m.ks y))) (ht : (A' = A1 ∧ withB m.ks y = m.ks) ∨ ∀ a, A' = some a → H ≤ a.block) (hH : ∀ i ∈ mine gm b V xs, i < H) :
  MkAt w6 base gm ⟨m.ps.set i q, m.ss, withB m.ks y⟩ V (xs.set i xi') A0 A' c0 c' b D := by
 have hmem := List.mem_of_getElem? hxi;have hpi : m.ps[i]? = some xi.p := by rw [← h.parts, List.getElem?_map, hxi]; rfl
 have hsub : ∀ j ∈ (gm :: (V.ownBlock.toList ++ partB xi)), j ∈ mine gm b V xs := fun j hj => by
  rw [mine_mem];simp only [List.mem_cons, List.mem_append] at hj;rcases hj with h | h | h
  ·exact .inl h
  ·exact .inr (.inr (.inl h))
  ·exact .inr (.inr (.inr ⟨xi, hmem, h⟩))
 have hfl : ∀ j, j ∈ mine gm b V (xs.set i xi') → j ∈ mine gm b V xs ∨ w2.heap.size ≤ j := fun j hj => by
  rw [mine_mem] at hj ⊢;rcases hj with h | h | h | ⟨x, hx, h⟩
  ·exact .inl (.inl h)
  ·exact .inl (.inr (.inl h))
  ·exact .inl (.inr (.inr (.inl h)))
  ·rcases mem_set_at hx with rfl | ⟨k, hk, hx⟩
   ·unfold partB at h;rcases List.mem_append.1 h with h | h
    ·cases hA : x.A with
     | none => rw [hA] at h; cases h
     | some a =>
      rw [hA] at h;simp at h;subst h;rcases hka a hA with ⟨a', e1, e2⟩ | h'
      ·refine .inl (.inr (.inr (.inr ⟨xi, hmem, ?_⟩)));unfold partB;rw [e1, ← e2];simp
      ·exact .inr h'
    ·cases hA : x.Z with
     | none => rw [hA] at h; cases h
     | some a =>
      rw [hA] at h;simp at h;subst h;rcases hoa a hA with ⟨a', e1, e2⟩ | h'
      ·refine .inl (.inr (.inr (.inr ⟨xi, hmem, ?_⟩)));unfold partB;rw [e1, ← e2];simp
      ·exact .inr h'
   ·exact .inl (.inr (.inr (.inr ⟨x, List.mem_of_getElem? hx, h⟩)))
 have hA' : withB m.ks y ≠ [] → ∀ a, A' = some a → a.block ∉ mine gm b V xs := fun hne a ha hm => by
  rcases ht with ⟨e, e2⟩ | hf
  ·rw [e2] at hne;exact h.f1 hne a (e ▸ ha) hm
  ·have := hf a ha;have := hH _ hm;omega
 refine ⟨by rw [hk]; exact hblk, h.gmb, ?_, by simpa using hrow, ?_, ?_, ?_, ?_, ?_, ?_, ?_, ?_, ?_, ?_, ?_, h.mapb, opens_set h.opens hpi hqs hqf⟩
 ·rw [← h.parts, List.map_set, hq]
 ·intro x hx;rcases mem_set_at hx with rfl | ⟨j, hj, hx⟩
  ·exact hkr
  ·refine own_only (h.keys x (List.mem_of_getElem? hx)) ho (fun g hg hm => ?_);obtain ⟨a, ha, rfl⟩ := own_val.1 hg;have hkx := h.keys x (List.mem_of_getElem? hx);simp only [List.mem_cons, List.mem_append, partB] at hm;rcases hm with e | e | e | e
   ·exact own_apart hkx h.blk (by decide) (by rw [← e, hg]; simp)
   ·exact own_two hkx h.row (by decide) _ hg e
   ·cases hA : xi.A with
    | none => rw [hA] at e; cases e
    | some a' =>
     rw [hA] at e;simp at e;exact pw_at (fun x y hxy a ha a' ha' => (hxy a' ha' a ha).symm) h.apK hxi hx (Ne.symm hj) a' hA a ha e.symm
   ·exact own_two hkx (h.ops xi hmem) (by decide) _ hg (part_own.1 e)
 ·intro x hx;rcases mem_set_at hx with rfl | ⟨j, hj, hx⟩
  ·exact hor
  ·refine own_only (h.ops x (List.mem_of_getElem? hx)) ho (fun g hg hm => ?_);obtain ⟨a, ha, rfl⟩ := own_val.1 hg;have hkx := h.ops x (List.mem_of_getElem? hx);simp only [List.mem_cons, List.mem_append, partB] at hm;rcases hm with e | e | e | e
   ·exact own_apart hkx h.blk (by decide) (by rw [← e, hg]; simp)
   ·exact own_two hkx h.row (by decide) _ hg e
   ·exact own_two hkx (h.keys xi hmem) (by decide) _ hg (part_own.1 e)
   ·cases hA : xi.Z with
    | none => rw [hA] at e; cases e
    | some a' =>
     rw [hA] at e;simp at e;exact pw_at (fun x y hxy a ha a' ha' => (hxy a' ha' a ha).symm) h.apO hxi hx (Ne.symm hj) a' hA a ha e.symm
 ·refine pw_set h.apK (fun j z hj hz => ?_);have key : ∀ a, xi'.A = some a → ∀ a', z.A = some a' → a.block ≠ a'.block := fun a ha a' ha' => by
   rcases hka a ha with ⟨a2, e1, e2⟩ | h'
   ·rw [← e2];exact pw_at (fun x y hxy a ha a' ha' => (hxy a' ha' a ha).symm) h.apK hxi hz (Ne.symm hj) a2 e1 a' ha'
   ·have := own_lt (h.keys z (List.mem_of_getElem? hz)) (g := a'.block) (by rw [own_val.2 ⟨a', ha', rfl⟩]; simp);omega
  exact ⟨key, fun a ha a' ha' => (key a' ha' a ha).symm⟩
 ·refine pw_set h.apO (fun j z hj hz => ?_);have key : ∀ a, xi'.Z = some a → ∀ a', z.Z = some a' → a.block ≠ a'.block := fun a ha a' ha' => by
   rcases hoa a ha with ⟨a2, e1, e2⟩ | h'
   ·rw [← e2];exact pw_at (fun x y hxy a ha a' ha' => (hxy a' ha' a ha).symm) h.apO hxi hz (Ne.symm hj) a2 e1 a' ha'
   ·have := own_lt (h.ops z (List.mem_of_getElem? hz)) (g := a'.block) (by rw [own_val.2 ⟨a', ha', rfl⟩]; simp);omega
  exact ⟨key, fun a ha a' ha' => (key a' ha' a ha).symm⟩
 ·exact row_avoid h.t0 ho (fun hne a ha hm => h.f0 (strs_ne.1 hne) a ha (hsub _ hm))
 ·exact row_avoid hr ho (fun hne a ha hm => hA' (strs_ne.1 hne) a ha (hsub _ hm))
 ·exact h.n0
 ·exact fun e => row_of_none hr e
 ·intro hne a ha hm;rcases hfl _ hm with hm | hm
  ·exact h.f0 hne a ha hm
  ·have := row_lt h.t0 (strs_ne.2 hne) ha;omega
 ·intro hne a ha hm;rcases hfl _ hm with hm | hm
  ·exact hA' hne a ha hm
  ·have := row_lt hr (strs_ne.2 hne) ha;omega
 ·have hbm : b ∉ (gm :: (V.ownBlock.toList ++ partB xi)) := by
   simp only [List.mem_cons, List.mem_append, partB, not_or];exact ⟨(map_not_blk h.map h.blk).symm, map_not_own h.map h.row, fun e => map_not_own h.map (h.keys xi hmem) (part_own.1 e), fun e => map_not_own h.map (h.ops xi hmem) (part_own.1 e)⟩
  simpa using map_only h.map ho hbm
end Go.Proofs.YthdofaoamljkfaaGreatDoor
