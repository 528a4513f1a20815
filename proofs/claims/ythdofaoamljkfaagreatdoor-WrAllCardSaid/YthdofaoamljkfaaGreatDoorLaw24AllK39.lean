/- Parts. -/
import Derived.Test.YthdofaoamljkfaaGreatDoorLaw24AllK38
set_option maxRecDepth 10000
set_option maxHeartbeats 16000000
set_option linter.unusedVariables false
set_option linter.unusedSimpArgs false
namespace Go.Proofs.YthdofaoamljkfaaGreatDoor
open Go.RowKit
open Go.Lib hiding intOf
attribute [local go_sem ↓] Go.wp_at_zero Go.wp_at_succ
def keyed (m : Mk) (p : Pt) : List Op4 := List.zipWith (fun (o : Op4) k => { o with key := posB m.ks k }) p.ops p.ks
def txOf (m : Mk) (p : Pt) : Tx := ⟨max (posB m.ss p.s) 0, p.f, keyed m p⟩
def histOf (m : Mk) : Hst := ⟨m.ss, m.ks, m.ps.map (txOf m)⟩
theorem keyed_len (m : Mk) (p : Pt) (h : p.ks.length = p.ops.length) : (keyed m p).length = p.ops.length := by
 unfold keyed;rw [List.length_zipWith, h, Nat.min_self]
theorem keyed_at {m : Mk} {p : Pt} {i : Nat} {o : Op4} {k : ByteArray} (h1 : p.ops[i]? = some o) (h2 : p.ks[i]? = some k) : (keyed m p)[i]? = some { o with key := posB m.ks k } := by
 unfold keyed;rw [List.getElem?_zipWith, h1, h2]
theorem mix_set {α : Type} {a b : List α} {i : Nat} {x y : α} (ha : a[i]? = some x) (hb : b[i]? = some y) (hl : a.length = b.length) : (a.take i ++ b.drop i).set i x = a.take (i + 1) ++ b.drop (i + 1) := by
 obtain ⟨hi, rfl⟩ := List.getElem?_eq_some_iff.1 ha;obtain ⟨hj, rfl⟩ := List.getElem?_eq_some_iff.1 hb;have e : a.take (i + 1) = a.take i ++ [a[i]] := by rw [List.take_add_one, ha]; rfl
 rw [e, List.drop_eq_getElem_cons hj, List.set_append_right _ _ (by rw [List.length_take]; omega), List.length_take, Nat.min_eq_left (by omega), Nat.sub_self, List.set_cons_zero, List.append_assoc]
 rfl
theorem mix_at {α : Type} {a b : List α} {i : Nat} {y : α} (hb : b[i]? = some y) (hl : a.length = b.length) : (a.take i ++ b.drop i)[i]? = some y := by
 obtain ⟨hj, rfl⟩ := List.getElem?_eq_some_iff.1 hb;rw [List.getElem?_append_right (by rw [List.length_take]; omega), List.length_take, Nat.min_eq_left (by omega), Nat.sub_self, List.drop_eq_getElem_cons hj]
 rfl
theorem own_row_at5 {w : World} {base : Nat} {e : TypeId} {size n c : Nat} {A : Option Addr} {xs : List Value} (h : w.ownsRow base e size (.slice A n c) n xs) : Row w w.heap.size A xs := by
 obtain ⟨A', c', e1, h1, h2, -, h3⟩ := own_row h;injection e1 with ea eb ec;subst ea ec;exact h3
theorem own_row_at6 {w : World} {base : Nat} {e : TypeId} {size n c : Nat} {A : Option Addr} {xs : List Value} (h : w.ownsRow base e size (.slice A n c) n xs) : Row w w.heap.size A xs ∧ n ≤ c ∧ c ≤ maxLen := by
 obtain ⟨A', c', e1, h1, h2, -, h3⟩ := own_row h;injection e1 with ea eb ec;subst ea ec;exact ⟨h3, h1, h2⟩
theorem info_tx : (Tryz.prog.info? 47).map (fun i => (i.zero, i.size, i.bytes)) = some (some (.agg #[.int .i64 0, .int .i64 0, .slice none 0 0]), 3, 40) := by kernel_rfl
def opB4 (xs : List PtA) : List Nat := xs.flatMap fun x => (x.Z.map Addr.block).toList
set_option maxRecDepth 100000 in
theorem mhist_any (base gm : Nat) (m : Mk) (V : Value) (xs : List PtA) (A0 A1 : Option Addr) (c0 c1 b : Nat) (D : DataW Unit) (w : World) (h : MkAt w base gm m V xs A0 A1 c0 c1 b D) (hB : MkB m) (hbase : base ≤ w.heap.size) (hT : ∀ w', Only (opB4 xs) w w' → UTabs w') :
  Calls Tryz.prog 77 #[.pointer (some ⟨gm, 0, none⟩)] w fun e w' => ∃ B0 B1 B2 d0 d1 d2, (e = .returned (.agg #[.slice B0 (histOf m).ss.length d0, .slice B1 (histOf m).ks.length d1, .slice B2 (histOf m).l.length d2]) ∧ HAt w' w'.heap.size B0 B1 B2 (histOf m)) ∧ Only (opB4 xs) w w' := by
 obtain ⟨Ap, cp, hVe, -, -, -, hrow⟩ := own_row h.row;subst hVe;obtain ⟨it, hit, ht0, ht1, ht2⟩ := info_parts info_tx;have HM := Hd h;have HBB := Hd hB;have HROWP := Hd hrow;have HT := Hd hT;have hnp := hB.np;have hns := hB.ns;have hnk := hB.nk;have HXL : Hid (xs.length = m.ps.length) := Hd (by rw [← h.parts, List.length_map]);have HR0 := Hd (Blk.made w 25 #[.slice none 0 0, .slice none 0 0, .slice none 0 0]);have HO1 := Hd ((Only.refl [] w).alloc (.cells #[.slice none 0 0, .slice none 0 0, .slice none 0 0] 25));clear h hB hrow hT;go_enter Tryz.func77, Tryz.ntmps77;go_upto_region 1 with (fail)
 generalize (w.alloc (.cells #[.slice none 0 0, .slice none 0 0, .slice none 0 0] 25)) = w1 at *;generalize hgr : w.heap.size = gr at *;refine rg1 [10] [] w1 ?_;refine tQ 0 (h := tQ 1 (h := tQ 2 (h := ?_)));refine trd (i := 3) (v := ?_) 0 ?_ ?_;rotate_left
 ·(intro wq hSw; have hb := (HO1.out.trans hSw).blk HM.out.blk (by simp); have hlb := hb.lt; have y1 := hb.at_ 1; have y2 := hb.at_ 2; simp at y1 y2; clear hSw hb; go_simp; try with_reducible rfl)
 (try simp only [tdz]);refine tQ 4 (h := tQ 5 (h := tQ 6 (h := ?_)));refine trd (i := 7) (v := ?_) 0 ?_ ?_;rotate_left
 ·(intro wq hSw; have hb := (HO1.out.trans hSw).blk HM.out.blk (by simp); have hlb := hb.lt; have y1 := hb.at_ 1; have y2 := hb.at_ 2; simp at y1 y2; clear hSw hb; go_simp; try with_reducible rfl)
 (try simp only [tdz]);refine tQ 8 (h := ?_);refine tst (i := 9) fun K hK => ?_;go_simp;have OA : Only [] w1 ((w1.alloc (.cells #[.slice none 0 0, .slice none 0 0, .slice none 0 0] 25)).drew) := ((Only.refl [] w1).alloc _).drew;have BA : Blk ((w1.alloc (.cells #[.slice none 0 0, .slice none 0 0, .slice none 0 0] 25)).drew) w1.heap.size 25 #[.slice none 0 0, .slice none 0 0, .slice none 0 0] := Blk.made _ _ _;refine kOut hK (OA) (h := ?_);clear hK K;refine tst (i := 10) fun K hK => ?_;refine wp_store_blk 25 (.tmp 3) (.tmp 18) rfl w1.heap.size 25 _ #[.slice A0 m.ss.length c0, .slice A1 m.ks.length c1, .slice none 0 0] rfl rfl BA rfl (by kernel_rfl) (by kernel_rfl) ?_;intro w2 b2 o2;have HH2 := Hd b2;have HN2 : Hid (Only [] w1 w2) := Hd (OA.step o2 (fun i hi hl => by simp at hi; omega));clear b2 o2 OA BA;refine hK.out _ _ (timed_over (by kernel_rfl) (timed_nil)) ?_;clear hK K;(try simp only [tdz]);refine tdn ?_;have HR2 := Hd (HN2.out.blk HR0.out (by simp));have HO2 := Hd (HO1.out.trans HN2.out);have HM2 := Hd (HM.out.same HO2.out);have hgh : gr < w1.heap.size := HR0.out.lt;generalize hghe : w1.heap.size = gh at *;have hgh2 : gh < w2.heap.size := HH2.out.lt;have hsz2 : base ≤ w2.heap.size := by have := HO2.out.size; omega
 have hmz : ∀ i ∈ mine gm b (.slice Ap m.ps.length cp) xs, i < gr := fun i hi => by have := mine_lt HM.out i hi; omega
 have HMZ := Hd hmz;clear HR0 HN2 HO1 hmz;have hown0 : ∀ x ∈ xs, w2.ownsRow base 70 4 (.slice x.Z x.p.ops.length x.d) x.p.ops.length (opC x.p.ops) := HM2.out.ops;have HOP2 := Hd hown0;clear hown0;have hb := HM2.out.blk;have lb := hb.lt;have y0 := hb.at_ 0;simp at y0;clear hb;go_wp2_with fail
 clear lb y0
 go_loopw [24] (fun iv wr => ∃ (k : Nat) (VL : Value), iv = .int .i64 k ∧ k ≤ m.ps.length ∧ Hid (Blk wr gh 25 #[.slice A0 m.ss.length c0, .slice A1 m.ks.length c1, VL]) ∧ Hid (wr.ownsRow w2.heap.size 47 3 VL k (txC ((xs.take k).map fun x => ⟨txOf m x.p, x.Z, x.d⟩))) ∧
  Hid (∀ (j : Nat) x, xs[j]? = some x → wr.ownsRow base 70 4 (.slice x.Z x.p.ops.length x.d) x.p.ops.length (opC (if j < k then keyed m x.p else x.p.ops))) ∧ Hid (Only (gh :: opB4 xs) w2 wr)) (fun iv _ => m.ps.length - (intOf iv).toNat)
 case atStart => exact ⟨0, _, rfl, by omega, HH2, Hd (World.ownsRow_nil _ _ _ _), Hd (fun j x hx => by rw [if_neg (by omega)]; exact HOP2.out x (List.mem_of_getElem? hx)), Hd (Only.refl _ _)⟩
 case round =>
  obtain ⟨k, VL, rfl, hk, hH, hV, hOps, hO⟩ := hrel;clear HH2;obtain ⟨wo, hwo⟩ : ∃ wo : World, wo = wr := ⟨_, rfl⟩;subst hwo;have hown2w : w.heap.size ≤ w2.heap.size := HO2.out.size
  by_cases hlt : k < m.ps.length
  ·have h01 : (k : Int) < (m.ps.length : Int) := by omega
   have hk0 : (0 : Int) ≤ (k : Int) := Int.natCast_nonneg _;have hwk : IntKind.i64.wrap ((k : Int) + 1) = (k : Int) + 1 := IntWalk.i64_in _ (by omega);obtain ⟨xi, hxi⟩ : ∃ xi, xs[k]? = some xi := ⟨_, List.getElem?_eq_getElem (by rw [HXL.out]; exact hlt)⟩;have hpj : m.ps[k]? = some xi.p := by rw [← HM2.out.parts, List.getElem?_map, hxi]; rfl
   have hpb := HBB.out.no xi.p (List.mem_of_getElem? hpj);have hVo : (Value.slice Ap m.ps.length cp).ownBlock.toList ⊆ mine gm b (.slice Ap m.ps.length cp) xs := fun i hi => by rw [mine_mem]; exact .inr (.inr (.inl hi))
   have HPR : Hid (wo.ownsRow base 136 5 (.slice Ap m.ps.length cp) m.ps.length (ptC xs)) := Hd (own_only HM2.out.row hO.out (fun g hg hm => by
    simp only [List.mem_cons, opB4, List.mem_flatMap] at hm;rcases hm with rfl | ⟨x, hx, hm⟩
    ·have := HMZ.out g (hVo (by rw [hg]; simp));omega
    ·exact own_two HM2.out.row (HM2.out.ops x hx) (by decide) _ hg (part_own.1 hm)))
   obtain ⟨A9, c9, e9, -, -, -, hrow9⟩ := own_row HPR.out;obtain ⟨rfl, rfl⟩ : Ap = A9 ∧ cp = c9 := by injection e9 with h1 h2 h3; exact ⟨h1, h3⟩
   obtain ⟨bp, off, hAp, -, hbw, hc⟩ := hrow9.open_ (k := k * 5) (by rw [ptC_len, HXL.out]; omega);subst hAp;have g := ptC_get xs k xi hxi;have hcell : ∀ r u, r < 5 → xi.c5[r]? = some u → wo.cell? ⟨bp, off + k * 5 + r, none⟩ = some u := fun r u hr hu => by rw [Nat.add_assoc]; exact hc _ _ ((g r hr).trans hu)
   have a0 := hcell 0 _ (by omega) rfl;have a1 := hcell 1 _ (by omega) rfl;have a2 := hcell 2 _ (by omega) rfl;have a3 := hcell 3 (.slice xi.A xi.p.ops.length xi.c) (by omega) (by show some (Value.slice xi.A xi.p.ks.length xi.c) = _; rw [hpb.2.1]);have a4 := hcell 4 _ (by omega) rfl;simp only [Nat.add_zero] at a0;have HXI := Hd hxi;have HPJ := Hd hpj;have HPB := Hd hpb;have hno20 := hpb.1;have HKR : Hid (wo.ownsRow base 9 1 (.slice xi.A xi.p.ks.length xi.c) xi.p.ks.length (strs xi.p.ks)) := Hd (by
    have r1 := HM2.out.keys xi (List.mem_of_getElem? hxi);refine own_only r1 hO.out (fun g hg hm => ?_);simp only [List.mem_cons, opB4, List.mem_flatMap] at hm;rcases hm with rfl | ⟨x, hx, hm⟩
    ·have := HMZ.out g (by
      rw [mine_mem];exact .inr (.inr (.inr ⟨xi, List.mem_of_getElem? hxi, by unfold partB; rw [List.mem_append]; exact .inl (part_own.2 (by rw [hg]; simp))⟩)))
     omega
    ·exact own_two r1 (HM2.out.ops x hx) (by decide) _ hg (part_own.1 hm))
   have hsub0 : ∀ i ∈ gh :: opB4 xs, i = gh ∨ i ∈ mine gm b (.slice (some ⟨bp, off, none⟩) m.ps.length cp) xs := fun i hi => by
    simp only [List.mem_cons, opB4, List.mem_flatMap] at hi;rcases hi with h | ⟨x, hx, h⟩
    ·exact .inl h
    ·refine .inr ?_;rw [mine_mem];exact .inr (.inr (.inr ⟨x, hx, by unfold partB; rw [List.mem_append]; exact .inr h⟩))
   have HT0 : Hid (Row wo wo.heap.size A0 (strs m.ss)) := Hd (row_avoid HM2.out.t0 hO.out (fun hne a ha hm => by
    rcases hsub0 _ hm with e | e
    ·have := row_lt HM.out.t0 hne ha;omega
    ·exact HM.out.f0 (strs_ne.1 hne) a ha e))
   have HT1 : Hid (Row wo wo.heap.size A1 (strs m.ks)) := Hd (row_avoid HM2.out.t1 hO.out (fun hne a ha hm => by
    rcases hsub0 _ hm with e | e
    ·have := row_lt HM.out.t1 hne ha;omega
    ·exact HM.out.f1 (strs_ne.1 hne) a ha e))
   have HBK : Hid (Blk wo gm 133 #[.slice (some ⟨bp, off, none⟩) m.ps.length cp, .slice A0 m.ss.length c0, .slice A1 m.ks.length c1, .map (some b)]) := Hd (hO.out.blk HM2.out.blk (fun hm => by
    simp only [List.mem_cons, opB4, List.mem_flatMap] at hm;rcases hm with e | ⟨x, hx, hm⟩
    ·have := HMZ.out gm (by rw [mine_mem]; exact .inl rfl);omega
    ·exact own_apart (HM2.out.ops x hx) HM2.out.blk (by decide) (part_own.1 hm)))
   have HUT : Hid (∀ w', Only [] wo w' → UTabs w') := Hd (fun w' O => HT.out w' (((HO2.out.wide (fun i hi => by cases hi)).step hO.out (fun i hi hl => by
    simp only [List.mem_cons] at hi;rcases hi with rfl | hi
    ·omega
    ·exact hi)).trans (O.wide (fun i hi => by cases hi))))
   clear hcell hc g hxi hpj hpb hrow9 hsub0 hVo;go_upto_region 5 with (fail)
   have HG5 : Hid (Blk (wo.alloc (.cells #[.string xi.p.s, .int .i64 xi.p.f, .int .i64 xi.p.ln, .slice xi.A xi.p.ops.length xi.c, .slice xi.Z xi.p.ops.length xi.d] 136)) wo.heap.size 136 #[.string xi.p.s, .int .i64 xi.p.f, .int .i64 xi.p.ln, .slice xi.A xi.p.ops.length xi.c, .slice xi.Z xi.p.ops.length xi.d]) := Hd (Blk.made _ _ _);have HO5 := Hd ((Only.refl [] wo).alloc (.cells #[.string xi.p.s, .int .i64 xi.p.f, .int .i64 xi.p.ln, .slice xi.A xi.p.ops.length xi.c, .slice xi.Z xi.p.ops.length xi.d] 136));clear a0 a1 a2 a3 a4;generalize (wo.alloc (.cells #[.string xi.p.s, .int .i64 xi.p.f, .int .i64 xi.p.ln, .slice xi.A xi.p.ops.length xi.c, .slice xi.Z xi.p.ops.length xi.d] 136)) = w5 at *;obtain ⟨gp, hgp⟩ : ∃ gp, gp = wo.heap.size := ⟨_, rfl⟩;rw [← hgp] at HG5;rw [← hgp];have HGP := Hd hgp;clear hgp;have HFD := Hd (fun w' (O : Only [] w5 w') => find_any A0 m.ss.length c0 wo.heap.size m.ss xi.p.s w' rfl (by omega) (fun z hz => by have := HBB.out.zs z hz; omega) (HT0.out.only (HO5.out.trans O) (by simp)) (HUT.out _ (HO5.out.trans O)));have RD0 := Hd fun wq (hSw : Only [] w5 wq) => aI ((hSw.blk (HO5.out.blk HBK.out (by simp)) (by simp)).lt) (aI ((hSw.blk (HO5.out.blk HBK.out (by simp)) (by simp)).at_ 1) (aI ((hSw.blk HG5.out (by simp)).lt) ((hSw.blk HG5.out (by simp)).at_ 0)));refine rg1 [] [] w5 ?_;refine tQ 0 (h := tQ 1 (h := tQ 2 (h := trq 3 0 RD0 (h := tQ 4 (h := trq 5 0 RD0 (h := ?_))))));refine tst (i := 6) fun K hK => ?_;go_simp;refine (HFD.out _ (Only.refl [] _).drew).mono ?_;rintro e w6 ⟨rfl, O6⟩;refine kOut hK (((Only.refl [] w5).drew).trans O6) (h := ?_);clear hK K;refine tQ 7 (h := tQ 8 (h := tQ 9 (h := tQ 10 (h := tQ 11 (h := ?_)))));refine tdn ?_;have HNW := Hd ( (((Only.refl [] w5).drew).trans O6));have HO6 := Hd (HO5.out.trans HNW.out);have HG6 := Hd (HNW.out.blk HG5.out (by simp));have HMP := Hd (fun w' (O : Only [] w6 w') => map_new xi.A A1 xi.p.ops.length xi.c m.ks.length c1 xi.p.ks m.ks w' HPB.out.2.1 rfl (by omega) (by omega) (fun z hz => by have := HBB.out.zk z hz; omega) (row_up ((own_row_at5 HKR.out).only (HO6.out.trans O) (by simp))) (row_up (HT1.out.only (HO6.out.trans O) (by simp))) (HUT.out _ (HO6.out.trans O)));go_upto_region 6 with (fail)
   have RD0 := Hd fun wq (hSw : Only [] w6 wq) => aI ((hSw.blk (HO6.out.blk HBK.out (by simp)) (by simp)).lt) (aI ((hSw.blk (HO6.out.blk HBK.out (by simp)) (by simp)).at_ 2) (aI ((hSw.blk HG6.out (by simp)).lt) ((hSw.blk HG6.out (by simp)).at_ 3)));refine rg1 [] [] w6 ?_;refine tQ 0 (h := trq 1 0 RD0 (h := tQ 2 (h := tQ 3 (h := tQ 4 (h := trq 5 0 RD0 (h := tQ 8 (h := ?_)))))));refine tst (i := 6) fun K hK => ?_;go_simp;refine (HMP.out _ (Only.refl [] _).drew).mono ?_;rintro e w7 ⟨O7, gn, rfl, hnr, hng⟩;have HNUM := Hd (And.intro hnr hng);clear hnr hng;refine kOut hK (((Only.refl [] w6).drew).trans O7) (h := ?_);clear hK K;refine tQ 7 (h := ?_);refine tdn ?_;have HNX := Hd ( (((Only.refl [] w6).drew).trans O7));have HO7 := Hd (HO6.out.trans HNX.out);have HG7 := Hd (HNX.out.blk HG6.out (by simp));have hsz67 : w6.heap.size ≤ w7.heap.size := HNX.out.size;have hszo6 : wo.heap.size ≤ w6.heap.size := HO6.out.size;have HOR7 : Hid (w7.ownsRow base 70 4 (.slice xi.Z xi.p.ops.length xi.d) xi.p.ops.length (opC xi.p.ops)) := Hd (by
    have := hOps.out k xi HXI.out;rw [if_neg (by omega)] at this;exact own_only this HO7.out (by simp))
   have HKL := Hd (keyed_len m xi.p HPB.out.2.1);obtain ⟨no, hno⟩ : ∃ no, no = xi.p.ops.length := ⟨_, rfl⟩;rw [← hno] at HOR7 HKL hno20 HG7;have hng6 : w6.heap.size ≤ gn := HNUM.out.2;rw [← hno];have HNO := Hd hno;clear hno;go_wp2_with fail
   go_loopw [46] (fun iv wr => ∃ i : Nat, iv = .int .i64 i ∧ i ≤ no ∧ Hid (wr.ownsRow base 70 4 (.slice xi.Z no xi.d) no (opC ((keyed m xi.p).take i ++ xi.p.ops.drop i))) ∧ Hid (Only (Value.slice xi.Z no xi.d).ownBlock.toList w7 wr)) (fun iv _ => no - (intOf iv).toNat)
   case atStart => exact ⟨0, rfl, by omega, Hd (by simpa using HOR7.out), Hd (Only.refl _ _)⟩
   case round =>
    obtain ⟨i, rfl, hi, hR, hOi⟩ := hrel;obtain ⟨wi, hwi⟩ : ∃ wi : World, wi = wr := ⟨_, rfl⟩;subst hwi;have HGI := Hd (hOi.out.blk HG7.out (own_apart HOR7.out HG7.out (by decide)))
    by_cases hlt2 : i < no
    ·have h02 : (i : Int) < (no : Int) := by omega
     have hi0 : (0 : Int) ≤ (i : Int) := Int.natCast_nonneg _;have hwi : IntKind.i64.wrap ((i : Int) + 1) = (i : Int) + 1 := IntWalk.i64_in _ (by omega);obtain ⟨gz, hgz⟩ : ∃ gz, xi.Z = some ⟨gz, 0, none⟩ := by
      obtain ⟨-, ⟨hn, h0⟩ | ⟨g, cap, cur, hv, -⟩⟩ := HOR7.out
      ·omega
      ·injection hv with e;exact ⟨g, e⟩
     obtain ⟨o, ho⟩ : ∃ o, xi.p.ops[i]? = some o := ⟨_, List.getElem?_eq_getElem (by rw [← HNO.out]; exact hlt2)⟩;obtain ⟨ky, hky⟩ : ∃ ky, xi.p.ks[i]? = some ky := ⟨_, List.getElem?_eq_getElem (by rw [HPB.out.2.1, ← HNO.out]; exact hlt2)⟩;have hown : (Value.slice xi.Z no xi.d).ownBlock = some gz := by rw [hgz]; rfl
     have hkk := keyed_at (m := m) ho hky;have hll : (keyed m xi.p).length = xi.p.ops.length := by rw [HKL.out, HNO.out]
     have hL := mix_at (a := keyed m xi.p) ho hll;have g1 : (opC ((keyed m xi.p).take i ++ xi.p.ops.drop i))[i * 4 + 1]? = some (.int .i64 o.key) := by
      rw [opC_get _ i o hL 1 (by omega)]
      rfl
     obtain ⟨cG, fG⟩ := own_cell hR.out hown g1;have lG := own_lt hR.out (g := gz) (by rw [hown]; simp);have HR2 : Hid ((wi.setCell ⟨gz, i * 4 + 1, none⟩ (.int .i64 (posB m.ks ky))).ownsRow base 70 4 (.slice xi.Z no xi.d) no (opC ((keyed m xi.p).take (i + 1) ++ xi.p.ops.drop (i + 1)))) := Hd (by
      have h1 := own_set hR.out hown (j := i * 4 + 1) (by rw [opC_len, List.length_append, List.length_take, List.length_drop, hll, ← HNO.out]; omega) (.int .i64 (posB m.ks ky));have h2 : (opC ((keyed m xi.p).take i ++ xi.p.ops.drop i)).set (i * 4 + 1) (.int .i64 (posB m.ks ky)) = opC (((keyed m xi.p).take i ++ xi.p.ops.drop i).set i { o with key := posB m.ks ky }) := flat_set Op4.c 4 (fun _ => rfl) _ i 1 o _ _ hL (by omega) rfl;rw [h2, mix_set hkk ho hll] at h1;exact h1)
     have HO2i := Hd (hOi.out.put (p := ⟨gz, i * 4 + 1, none⟩) (fun _ => by rw [hown]; simp) (.int .i64 (posB m.ks ky)));have hgz7 : gz < w6.heap.size := by
      have hq := own_only (hOps.out k xi HXI.out) (Only.refl [] wo) (by simp);have := own_lt hq (g := gz) (by rw [own_val.2 ⟨_, hgz, rfl⟩]; simp);omega
     obtain ⟨b'', off'', e'', -, hbw2, hcn⟩ := HNUM.out.1.open_ (k := i) (by rw [List.length_map, mapB, List.length_map, HPB.out.2.1, ← HNO.out]; exact hlt2);obtain ⟨rfl, rfl⟩ : gn = b'' ∧ 0 = off'' := by
      have := Option.some.inj e'';exact ⟨congrArg Addr.block this, congrArg Addr.off this⟩
     have hcv : w7.cell? ⟨gn, i, none⟩ = some (.int .i64 (posB m.ks ky)) := by
      have := hcn i _ (by rw [List.getElem?_map, mapB, List.getElem?_map, hky]; rfl)
      rwa [Nat.zero_add] at this
     have hcvi := (hOi.out.cell (p := ⟨gn, i, none⟩) hbw2 (by rw [hown]; simp; omega)).trans hcv;have hgnl : gn < wi.heap.size := by have := hOi.out.size; omega
     have hbp := HGI.out.lt;have b4 := HGI.out.at_ 4;simp at b4;have HZ := Hd hgz;rw [hgz] at b4;clear hcn hcv e'' g1 hL hkk ho hky hll;generalize posB m.ks ky = kv at *;go_wp2
     go_roundw
     case rel => exact ⟨i + 1, by go_num, by omega, HR2, HO2i⟩
     case measure => simp [intOf]; omega
    ·have hin : i = no := by omega
     subst hin;have hd2 : decide ((i : Int) < (i : Int)) = false := by simp
     have hll : (keyed m xi.p).length = xi.p.ops.length := by rw [HKL.out, HNO.out]
     have HRK : Hid (wi.ownsRow base 70 4 (.slice xi.Z i xi.d) i (opC (keyed m xi.p))) := Hd (by
      have := hR.out
      rwa [List.take_of_length_le (by rw [HKL.out]; exact Nat.le_refl _), List.drop_of_length_le (by rw [← HNO.out]; exact Nat.le_refl _), List.append_nil] at this)
     have hO7i : Only (Value.slice xi.Z i xi.d).ownBlock.toList wo wi := (HO7.out.wide (fun i hi => by cases hi)).trans hOi.out;have HO7i := Hd hO7i;have hOR0 : wo.ownsRow base 70 4 (.slice xi.Z xi.p.ops.length xi.d) xi.p.ops.length (opC xi.p.ops) := by
      have := hOps.out k xi HXI.out
      rwa [if_neg (by omega)] at this
     rw [← HNO.out] at hOR0;have HHi := Hd (hO7i.blk hH.out (own_apart hOR0 hH.out (by decide)));have HVi := Hd (own_only hV.out hO7i (fun g hg hm => own_two hV.out hOR0 (by decide) g hg hm));have HXT : Hid (txC ((xs.take (k + 1)).map fun x => ⟨txOf m x.p, x.Z, x.d⟩) = txC ((xs.take k).map fun x => ⟨txOf m x.p, x.Z, x.d⟩) ++ [.int .i64 (max (posB m.ss xi.p.s) 0), .int .i64 xi.p.f, .slice xi.Z i xi.d]) := Hd (by
      rw [List.take_add_one, HXI.out, Option.toList_some, List.map_append, txC_append]
      congr 1
      show [Value.int .i64 (max (posB m.ss xi.p.s) 0), .int .i64 xi.p.f, .slice xi.Z (keyed m xi.p).length xi.d] = _
      rw [HKL.out])
     have lG := HHi.out.lt;have y2 := HHi.out.at_ 2;have lp := HGI.out.lt;have q1 := HGI.out.at_ 1;have q4 := HGI.out.at_ 4;simp at y2 q1 q4;have hwsz : w2.heap.size ≤ wi.heap.size := Nat.le_trans hO.out.size hO7i.size;have HOX : Hid (Only (gh :: opB4 xs) w2 wi) := Hd (hO.out.trans (hO7i.wide (fun g hg _ => by
      simp only [List.mem_cons, opB4, List.mem_flatMap];exact .inr ⟨xi, List.mem_of_getElem? HXI.out, part_own.2 hg⟩)))
     clear hR hll hO7i hOR0;generalize hmx : max (posB m.ss xi.p.s) 0 = sx at *;clear hmx;go_wp2_with (at_builtin; refine wpList_append_row _ rfl (.tmp 59) (.tmp 66) _ rfl w2.heap.size 47 it _ 3 40 Tryz.underlying23 hit ht0 ht1 ht2 rfl (by omega) VL k _ rfl (own_only HVi.out ((Only.refl [] _).alloc _) (by simp)) (wi.heap.size + 1) (some ⟨wi.heap.size, 0, none⟩) 1 1 [.int .i64 sx, .int .i64 xi.p.f, .slice xi.Z i xi.d] rfl rfl (row_lit wi 47 #[.int .i64 sx, .int .i64 xi.p.f, .slice xi.Z i xi.d]) (by intro u hu; simp at hu; rcases hu with rfl | rfl | rfl <;> rfl) (by unfold maxLen; omega) (by omega) (by simp; omega) ?_; intro v4 w8 hown4 hgrow hat; obtain ⟨A4, c4, e4, -, -, -, -⟩ := own_row hown4; subst e4; have HO8 : Hid (Only VL.ownBlock.toList wi w8) := Hd (((Only.refl VL.ownBlock.toList wi).alloc _).trans (only_grown hgrow)); have HV8 := Hd hown4; have bG := HO8.out.blk HHi.out (own_apart HVi.out HHi.out (by decide)); have HB8 := Hd bG; have lG8 := bG.lt; have cG := bG.at_ 2; have fG := bG.free 2; simp at cG; clear hgrow hat hown4 bG)
     have HN9 : Only [gh] w8 (w8.setCell ⟨gh, 2, none⟩ (.slice A4 (k + 1) c4)) := (Only.refl [gh] w8).put (p := ⟨gh, 2, none⟩) (by simp) _;have HB9 := HB8.out.put 2 (.slice A4 (k + 1) c4);have HV9 : (w8.setCell ⟨gh, 2, none⟩ (.slice A4 (k + 1) c4)).ownsRow w2.heap.size 47 3 (.slice A4 (k + 1) c4) (k + 1) (txC ((xs.take (k + 1)).map fun x => ⟨txOf m x.p, x.Z, x.d⟩)) := by
      rw [HXT.out];exact own_only HV8.out HN9 (fun g hg hm => by simp at hm; subst hm; exact own_apart HV8.out HB8.out (by decide) (by rw [hg]; simp))
     have HOP9 : ∀ (j : Nat) x, xs[j]? = some x → (w8.setCell ⟨gh, 2, none⟩ (.slice A4 (k + 1) c4)).ownsRow base 70 4 (.slice x.Z x.p.ops.length x.d) x.p.ops.length (opC (if j < k + 1 then keyed m x.p else x.p.ops)) := by
      intro j x hx;have hi : wi.ownsRow base 70 4 (.slice x.Z x.p.ops.length x.d) x.p.ops.length (opC (if j < k + 1 then keyed m x.p else x.p.ops)) := by
       by_cases hjk : j = k
       ·subst hjk;have hxx : xi = x := Option.some.inj (HXI.out.symm.trans hx);rw [if_pos (by omega), ← hxx, ← HNO.out];exact HRK.out
       ·have h1 := hOps.out j x hx;have e : (if j < k + 1 then keyed m x.p else x.p.ops) = (if j < k then keyed m x.p else x.p.ops) := by
         by_cases h : j < k
         ·rw [if_pos h, if_pos (by omega)]
         ·rw [if_neg h, if_neg (by omega)]
        rw [e];refine own_only h1 HO7i.out (fun g hg hm => ?_);obtain ⟨a, ha, rfl⟩ := own_val.1 hg;obtain ⟨a', ha', e'⟩ := own_val.1 (show (Value.slice xi.Z i xi.d).ownBlock = some a.block by simpa using hm);exact pw_at (fun x y hxy a ha a' ha' => (hxy a' ha' a ha).symm) HM.out.apO HXI.out hx (fun e => hjk e.symm) a' ha' a ha e'
      exact own_only (own_only hi HO8.out (fun g hg hm => own_two hi HVi.out (by decide) g hg hm)) HN9 (fun g hg hm => by simp at hm; subst hm; exact own_apart (own_only hi HO8.out (fun g hg hm => own_two hi HVi.out (by decide) g hg hm)) HB8.out (by decide) (by rw [hg]; simp))
     have HO9 : Only (gh :: opB4 xs) w2 (w8.setCell ⟨gh, 2, none⟩ (.slice A4 (k + 1) c4)) :=
      (HOX.out.step HO8.out (fun g hg hl => own_new HVi.out g hg hl)).trans (HN9.wide (fun g hg _ => by simp at hg; simp [hg]))
     have HF9 := Hd (And.intro HB9 (And.intro HV9 (And.intro HOP9 HO9)));clear HN9 HB9 HV9 HOP9 HO9 cG fG lG8 y2 q1 q4 lG lp;go_wp2
     go_roundw
     case rel => exact ⟨k + 1, _, by go_num, by omega, Hd (by simpa using HF9.out.1), Hd HF9.out.2.1, Hd HF9.out.2.2.1, Hd HF9.out.2.2.2⟩
     case measure => simp [intOf]; omega
  ·have hkn : k = m.ps.length := by omega
   subst hkn;have hd : decide ((m.ps.length : Int) < (m.ps.length : Int)) = false := by simp
   obtain ⟨AL, cL, eL, -, -, -, hrowL⟩ := own_row hV.out;subst eL;have hbh := hH.out;have lh := hbh.lt;have y0 := hbh.at_ 0;have y1 := hbh.at_ 1;have y2 := hbh.at_ 2;simp at y0 y1 y2;have hRw : Blk wo gr 25 #[.slice none 0 0, .slice none 0 0, .slice none 0 0] := hO.out.blk HR2.out (fun hm => by
    simp only [List.mem_cons, opB4, List.mem_flatMap] at hm;rcases hm with e | ⟨x, hx, hm⟩
    ·omega
    ·exact own_apart (HM2.out.ops x hx) HR2.out (by decide) (part_own.1 hm))
   have HRW := Hd hRw;clear hbh hRw;go_wp2_with (refine wpList_store_blk rfl 25 (.tmp 2) (.tmp 70) rfl gr 25 _ #[.slice A0 m.ss.length c0, .slice A1 m.ks.length c1, .slice AL m.ps.length cL] rfl rfl HRW.out rfl (by kernel_rfl) (by kernel_rfl) ?_; intro w9 b9 o9; have HB9 := Hd b9; have HN9 := Hd o9; clear b9 o9)
   refine bodyPost_ret (results_row1 Tryz.results77 _ _ gr 25 #[.slice A0 m.ss.length c0, .slice A1 m.ks.length c1, .slice AL m.ps.length cL] _ rfl HB9.out Tryz.underlying25 rfl (by kernel_rfl)) rfl ?_;have hel : (histOf m).l.length = m.ps.length := List.length_map ..;have hop9 : ∀ (j : Nat) x, xs[j]? = some x → Row w9 w9.heap.size x.Z (opC (keyed m x.p)) ∧ x.p.ops.length ≤ x.d ∧ x.d ≤ maxLen := fun j x hx => by
    have h1 := hOps.out j x hx;rw [if_pos (by have := (List.getElem?_eq_some_iff.1 hx).1; rw [HXL.out] at this; exact this)] at h1;obtain ⟨r1, r2, r3⟩ := own_row_at6 h1;refine ⟨row_avoid r1 HN9.out (fun _ a ha hm => ?_), r2, r3⟩;simp at hm;exact own_apart h1 HRW.out (by decide) (by rw [own_val.2 ⟨a, ha, rfl⟩, ← hm]; simp)
   have hsub0 : ∀ i ∈ gh :: opB4 xs, i = gh ∨ i ∈ mine gm b (.slice Ap m.ps.length cp) xs := fun i hi => by
    simp only [List.mem_cons, opB4, List.mem_flatMap] at hi;rcases hi with h | ⟨x, hx, h⟩
    ·exact .inl h
    ·refine .inr ?_;rw [mine_mem];exact .inr (.inr (.inr ⟨x, hx, by unfold partB; rw [List.mem_append]; exact .inr h⟩))
   have ht0 : Row w9 w9.heap.size A0 (strs m.ss) := row_avoid (row_avoid HM2.out.t0 hO.out (fun hne a ha hm => by
    rcases hsub0 _ hm with e | e
    ·have := row_lt HM.out.t0 hne ha;omega
    ·exact HM.out.f0 (strs_ne.1 hne) a ha e)) HN9.out (fun hne a ha hm => by
    have := row_lt HM.out.t0 hne ha;simp at hm;omega)
   have ht1 : Row w9 w9.heap.size A1 (strs m.ks) := row_avoid (row_avoid HM2.out.t1 hO.out (fun hne a ha hm => by
    rcases hsub0 _ hm with e | e
    ·have := row_lt HM.out.t1 hne ha;omega
    ·exact HM.out.f1 (strs_ne.1 hne) a ha e)) HN9.out (fun hne a ha hm => by
    have := row_lt HM.out.t1 hne ha;simp at hm;omega)
   have htk : xs.take m.ps.length = xs := List.take_of_length_le (by rw [HXL.out]; exact Nat.le_refl _);have hVb := hV.out;rw [htk] at hrowL hVb;have hrl : Row w9 w9.heap.size AL (txC (xs.map fun x => ⟨txOf m x.p, x.Z, x.d⟩)) := row_avoid hrowL HN9.out (fun _ a ha hm => by
    simp at hm;have := (hVb.lt a.block (own_val.2 ⟨a, ha, rfl⟩)).1;omega)
   refine ⟨A0, A1, AL, c0, c1, cL, ⟨by rw [hel]; rfl, ⟨ht0, ht1, xs.map fun x => ⟨txOf m x.p, x.Z, x.d⟩, ?_, hrl, ?_⟩⟩, ?_⟩
   ·show _ = m.ps.map (txOf m)
    rw [List.map_map, ← HM2.out.parts, List.map_map]
    rfl
   ·intro y hy;obtain ⟨x, hx, rfl⟩ := List.mem_map.1 hy;obtain ⟨j, hj⟩ := List.mem_iff_getElem?.1 hx;obtain ⟨r1, r2, r3⟩ := hop9 j x hj;have hpx : m.ps[j]? = some x.p := by rw [← HM2.out.parts, List.getElem?_map, hj]; rfl
    have hkl := keyed_len m x.p (HBB.out.no x.p (List.mem_of_getElem? hpx)).2.1;exact ⟨r1, by show (keyed m x.p).length ≤ x.d; omega, r3⟩
   ·refine ((HO2.out.wide (fun i hi => by cases hi)).step hO.out (fun i hi hl => by
     simp only [List.mem_cons] at hi;rcases hi with rfl | hi
     ·omega
     ·exact hi)).step HN9.out (fun i hi hl => by simp at hi; omega)
end Go.Proofs.YthdofaoamljkfaaGreatDoor
