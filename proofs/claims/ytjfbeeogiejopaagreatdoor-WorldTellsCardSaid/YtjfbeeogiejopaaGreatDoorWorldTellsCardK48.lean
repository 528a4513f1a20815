/- Law 16's short worlds. A history as a value that a call has returned. Worlds as they lie. Few keeps what numbers are. The document's values: SameList at the same values. -/
import Derived.Test.YtjfbeeogiejopaaGreatDoorWorldTellsCardK47
import Derived.Test.YtjfbeeogiejopaaGreatDoorWorldTellsCardK19
import Derived.Test.YtjfbeeogiejopaaGreatDoorWorldTellsCardK25
import Derived.Test.YtjfbeeogiejopaaGreatDoorWorldTellsCardK28
import Derived.Test.YtjfbeeogiejopaaGreatDoorWorldTellsCardK23
import Derived.Test.YtjfbeeogiejopaaGreatDoorWorldTellsCardK20
set_option maxRecDepth 10000
set_option maxHeartbeats 16000000
set_option linter.unusedVariables false
set_option linter.unusedSimpArgs false
namespace Go.Proofs.YtjfbeeogiejopaaGreatDoor
open Go.RowKit
open Go.Lib hiding intOf
attribute [local go_sem ↓] Go.wp_at_zero Go.wp_at_succ
theorem bslice_to (A : Option Addr) (len c m : Nat) (hm : m ≤ c) (W : World) : (Instr.slice 49 (.slice A len c) none (some (.int .i64 (m : Int))) none).run Tryz.prog W = .ok (.slice A m c) W := by
 rw [run_slice_h (P := Tryz.prog) W 49 A len c (by kernel_rfl) .i64 (m : Int) (by omega) (by omega)];have hs : (sizeOf (Tryz.prog.elem 49)).run Tryz.prog W = .ok 1 W := by kernel_rfl
 rw [hs];simp only [Result.andThen, sliced, Int.toNat_natCast, Nat.sub_zero];rw [own_addz (size := 1)]
theorem vslice_to (A : Option Addr) (len c m : Nat) (hm : m ≤ c) (W : World) : (Instr.slice 33 (.slice A len c) none (some (.int .i64 (m : Int))) none).run Tryz.prog W = .ok (.slice A m c) W := by
 rw [run_slice_h (P := Tryz.prog) W 33 A len c (by kernel_rfl) .i64 (m : Int) (by omega) (by omega)];have hs : (sizeOf (Tryz.prog.elem 33)).run Tryz.prog W = .ok 2 W := by kernel_rfl
 rw [hs];simp only [Result.andThen, sliced, Int.toNat_natCast, Nat.sub_zero];rw [own_addz (size := 2)]
theorem row_pref {w : World} {B : Nat} {A : Option Addr} {xs ys : List Value} (h : Row w B A xs) (hp : ∀ (j : Nat) (u : Value), ys[j]? = some u → xs[j]? = some u) (hl : xs = [] → ys = []) (hs : ys.length ≤ xs.length) : Row w B A ys := by
 rcases h with h | ⟨b, off, hA, hb, hs', hc⟩
 ·exact .inl (hl h)
 ·exact .inr ⟨b, off, hA, hb, hs', fun j u hu => hc j u (hp j u hu)⟩
attribute [-go_sem] Go.run_slice_l Go.run_slice_h Go.run_slice_any Go.run_slice_lh in
theorem fewworld_any (Ac Al : Option Addr) (nc nl cc cl Bc Bl : Nat) (x : Wld) (w : World) (hc : Row w Bc Ac (x.c.map Value.bool)) (hl : Row w Bl Al (edgeC x.l)) (hcl : x.c.length = nc) (hll : x.l.length = nl) (hnc : nc ≤ maxLen) (hnl : nl ≤ maxLen) (hcc : nc ≤ cc) (hcl' : nl ≤ cl) :
  Calls Tryz.prog 23 #[.agg #[.slice Ac nc cc, .slice Al nl cl]] w fun e w' => ∃ A1 A2 e1 e2, (e = .returned (.agg #[.slice A1 (fewW x).c.length e1, .slice A2 (fewW x).l.length e2]) ∧ w'.ownsRow w.heap.size 4 1 (.slice A1 (fewW x).c.length e1) (fewW x).c.length ((fewW x).c.map Value.bool) ∧ w'.ownsRow w.heap.size 38 2 (.slice A2 (fewW x).l.length e2) (fewW x).l.length (edgeC (fewW x).l)) ∧ Only [] w w' := by
 obtain ⟨ib, hib, hb0, hb1, hb2⟩ := info_parts info_bl;obtain ⟨iv, hiv, hv0, hv1, hv2⟩ := info_parts info_val;unfold maxLen at hnc hnl;obtain ⟨xc, xl⟩ := x;dsimp only at *;have HCR : Hid (Row w Bc Ac ((xc.take 50).map Value.bool)) := Hd (row_pref hc (fun j u hu => by
  rw [List.getElem?_map, List.getElem?_take] at hu;rw [List.getElem?_map]
  split at hu
  ·exact hu
  ·simp at hu) (fun h => by simp at h; simp [h]) (by simp; omega))
 have HLR : Hid (Row w Bl Al (edgeC (xl.take 50))) := Hd (row_pref hl (fun j u hu => by
  rw [edgeC_take, List.getElem?_take] at hu
  split at hu
  ·exact hu
  ·simp at hu) (fun h => by rw [edgeC_take, h]; simp) (by rw [edgeC_take, List.length_take]; omega))
 obtain ⟨mc, hmc⟩ : ∃ mc, (xc.take 50).length = mc := ⟨_, rfl⟩;obtain ⟨ml, hml⟩ : ∃ ml, (xl.take 50).length = ml := ⟨_, rfl⟩;have HMC := Hd hmc;have HML := Hd hml;rw [List.length_take, hcl] at hmc;rw [List.length_take, hll] at hml;have m1 : min (nc : Int) 50 = (mc : Int) := by omega
 have m2 : min (nl : Int) 50 = (ml : Int) := by omega
 have hsc := fun W => bslice_to Ac nc cc mc (by omega) W;have hsl := fun W => vslice_to Al nl cl ml (by omega) W;unfold fewW;dsimp only;rw [HMC.out, HML.out];have hmc50 : mc ≤ 50 := by omega
 have hml50 : ml ≤ 50 := by omega
 generalize xc.take 50 = yc at *;generalize xl.take 50 = yl at *;clear hc hl hcl hll hmc hml hcc hcl';have HO1 := Hd (((Only.refl [] w).alloc (.cells #[.slice Ac nc cc, .slice Al nl cl] 51)).alloc (.cells #[.slice none 0 0, .slice none 0 0] 51));have HW1 := Hd ((Blk.made w 51 #[.slice Ac nc cc, .slice Al nl cl]).alloc (.cells #[.slice none 0 0, .slice none 0 0] 51));have HR1 := Hd (Blk.made (w.alloc (.cells #[.slice Ac nc cc, .slice Al nl cl] 51)) 51 #[.slice none 0 0, .slice none 0 0]);simp only [World.size_alloc] at HR1;go_enter Tryz.func23, Tryz.ntmps23;go_upto_region 1 with (fail)
 generalize ((w.alloc (.cells #[.slice Ac nc cc, .slice Al nl cl] 51)).alloc (.cells #[.slice none 0 0, .slice none 0 0] 51)) = w1 at *;generalize hgr : w.heap.size + 1 = gr at *;generalize hgg : w.heap.size = g at *;have hg1 : g ≤ w1.heap.size := by have := HO1.out.size; omega
 have RD0 := Hd fun wq (hSw : Only [] w1 wq) => Bk2 (hSw.blk HW1.out (by simp));refine wp_region_noPanic ?_;refine wp_region_timed (F := [⟨[], [19], fun w' => Only [] w1 w'⟩]) (by kernel_rfl) (th1 ((Only.refl [] w1).drew)) ?_;have OW : Only [] w1 w1.drew := (Only.refl [] w1).drew;generalize hwz : w1.drew = wz at *;clear hwz;refine tp (i := 1) ?_;(try simp only [Act.put, tdy]);refine trd (i := 2) (v := ?_) 0 ?_ ?_;rotate_left
 ·(intro wq q; obtain ⟨lb_W, x0, x1⟩ := RD0.out wq q; simp at x0 x1; clear q; go_simp; try with_reducible rfl)
 (try simp only [Act.put, tdy]);refine tp (i := 3) ?_;(try simp only [Act.put, tdy]);refine trd (i := 4) (v := ?_) 0 ?_ ?_;rotate_left
 ·(intro wq q; obtain ⟨lb_W, x0, x1⟩ := RD0.out wq q; simp at x0 x1; clear q; go_simp; try with_reducible rfl)
 (try simp only [Act.put, tdy]);refine tp (i := 5) ?_;(try simp only [Act.put, tdy]);refine tp (i := 6) ?_;(try simp only [Act.put, tdy]);refine tp (i := 7) ?_;(try simp only [Act.put, tdy]);refine tp (i := 10) ?_;(try simp only [Act.put, tdy]);refine trd (i := 11) (v := ?_) 0 ?_ ?_;rotate_left
 ·(intro wq q; obtain ⟨lb_W, x0, x1⟩ := RD0.out wq q; simp at x0 x1; clear q; go_simp; try with_reducible rfl)
 (try simp only [Act.put, tdy]);refine tp (i := 12) ?_;(try simp only [Act.put, tdy]);refine trd (i := 13) (v := ?_) 0 ?_ ?_;rotate_left
 ·(intro wq q; obtain ⟨lb_W, x0, x1⟩ := RD0.out wq q; simp at x0 x1; clear q; go_simp; try with_reducible rfl)
 (try simp only [Act.put, tdy]);refine tp (i := 14) ?_;(try simp only [Act.put, tdy]);refine tp (i := 15) ?_;(try simp only [Act.put, tdy]);refine tp (i := 16) ?_;try simp only [Act.put, tdy]
 apply cut_4_0_2 (fun w g0 ca g4 cb Aa Ab => (Only [] w1 w) ∧ (w.ownsRow w1.heap.size 4 1 (.slice Aa mc ca) mc (yc.map Value.bool)) ∧ (w.ownsRow w1.heap.size 38 2 (.slice Ab ml cb) ml (edgeC yl)))
 intro HST0_8_9_17
 apply cut_3_0_1 (fun w g0 ca g4 Aa => (Only [] w1 w) ∧ (w.ownsRow w1.heap.size 4 1 (.slice Aa mc ca) mc (yc.map Value.bool)) ∧ (w.ownsRow w1.heap.size 38 2 (.slice (some ⟨g4, 0, none⟩) 0 0) 0 []))
 intro HST0_8_9
 apply cut_2_0 (fun w g0 g4 => (Only [] w1 w) ∧ (w.ownsRow w1.heap.size 4 1 (.slice (some ⟨g0, 0, none⟩) 0 0) 0 []) ∧ (w.ownsRow w1.heap.size 38 2 (.slice (some ⟨g4, 0, none⟩) 0 0) 0 []))
 intro HST0_9
 apply cut_2_0_1 (fun w g0 ca Aa => (Only [] w1 w) ∧ (w.ownsRow w1.heap.size 4 1 (.slice Aa mc ca) mc (yc.map Value.bool)))
 intro HST0_8
 apply cut_1_0 (fun w g4 => (Only [] w1 w) ∧ (w.ownsRow w1.heap.size 38 2 (.slice (some ⟨g4, 0, none⟩) 0 0) 0 []))
 intro HST9
 apply cut_1_0 (fun w g0 => (Only [] w1 w) ∧ (w.ownsRow w1.heap.size 4 1 (.slice (some ⟨g0, 0, none⟩) 0 0) 0 []))
 intro HST0
 ·skip;refine timed_forks (l := [0, 9]) (by kernel_rfl) (by simp) (fork_cons ⟨_, rfl, fun K hK => ?_⟩ (fork_cons ⟨_, rfl, fun K hK => ?_⟩ (fork_nil)))
  ·go_simp;have OS : Only [] wz (wz.alloc (.cells #[] 4)) := (Only.refl [] wz).alloc (.cells #[] 4);have hszn : w1.heap.size ≤ wz.heap.size := OW.size;have OLn : (wz.alloc (.cells #[] 4)).ownsRow w1.heap.size 4 1 (.slice (some ⟨wz.heap.size, 0, none⟩) 0 0) 0 [] := World.ownsRow_lit wz (e := 4) (size := 1) #[] 0 hszn (by unfold maxLen; omega) rfl;have OWn := OW.trans OS;generalize wz.alloc (.cells #[] 4) = wn at *;generalize wz.heap.size = g0 at *;refine hK.out _ _ (th1 (OWn)) ?_;clear hK K;(try simp only [Act.put, tdy]);exact HST0 wn g0 ⟨OWn, OLn⟩
  ·go_simp;have OS : Only [] wz (wz.alloc (.cells #[] 38)) := (Only.refl [] wz).alloc (.cells #[] 38);have hszn : w1.heap.size ≤ wz.heap.size := OW.size;have OLn : (wz.alloc (.cells #[] 38)).ownsRow w1.heap.size 38 2 (.slice (some ⟨wz.heap.size, 0, none⟩) 0 0) 0 [] := World.ownsRow_lit wz (e := 38) (size := 2) #[] 0 hszn (by unfold maxLen; omega) rfl;have OWn := OW.trans OS;generalize wz.alloc (.cells #[] 38) = wn at *;generalize wz.heap.size = g4 at *;refine hK.out _ _ (th1 (OWn)) ?_;clear hK K;(try simp only [Act.put, tdy]);exact HST9 wn g4 ⟨OWn, OLn⟩
 ·skip;intro wz g0 ⟨OW, OL0⟩;refine timed_forks (l := [8, 9]) (by kernel_rfl) (by simp) (fork_cons ⟨_, rfl, fun K hK => ?_⟩ (fork_cons ⟨_, rfl, fun K hK => ?_⟩ (fork_nil)))
  ·refine step_append_row _ rfl (.tmp 3) (.tmp 10) 49 rfl w1.heap.size 4 ib _ 1 1 Tryz.underlying49 hib hb0 hb1 hb2 rfl (by omega) _ 0 [] (by rfl) OL0 _ _ (mc) (cc) (yc.map Value.bool) (by rfl) (by rw [List.length_map, HMC.out, Nat.mul_one]) (HCR.out.only (HO1.out.trans OW) (by simp)) (fun u hu => by simp at hu; rcases hu with ⟨-, rfl⟩ | ⟨-, rfl⟩ <;> rfl) (by unfold maxLen; omega) (by omega) OW.size ?_;intro a wn OVn hgrow hat;have OG : Only (Value.slice (some ⟨g0, 0, none⟩) 0 0).ownBlock.toList wz wn := only_grown hgrow;have OWn : Only [] w1 wn := OW.step OG (fun i hi hl => by have := (OL0.lt i (by simpa using hi)).1; omega);rw [Nat.zero_add, List.nil_append] at OVn;obtain ⟨Aa, ca, rfl, -, -, -, -⟩ := own_row OVn;refine hK.out _ _ (th1 (OWn)) ?_;clear hK K;(try simp only [Act.put, tdy]);exact HST0_8 wn g0 ca Aa ⟨OWn, OVn⟩
  ·go_simp;have OS : Only [] wz (wz.alloc (.cells #[] 38)) := (Only.refl [] wz).alloc (.cells #[] 38);have hszn : w1.heap.size ≤ wz.heap.size := OW.size;have OLn : (wz.alloc (.cells #[] 38)).ownsRow w1.heap.size 38 2 (.slice (some ⟨wz.heap.size, 0, none⟩) 0 0) 0 [] := World.ownsRow_lit wz (e := 38) (size := 2) #[] 0 hszn (by unfold maxLen; omega) rfl;have OWn := OW.trans OS;have OL0n := own_only OL0 OS (by simp);generalize wz.alloc (.cells #[] 38) = wn at *;generalize wz.heap.size = g4 at *;refine hK.out _ _ (th1 (OWn)) ?_;clear hK K;(try simp only [Act.put, tdy]);exact HST0_9 wn g0 g4 ⟨OWn, OL0n, OLn⟩
 ·skip;intro wz g4 ⟨OW, OL9⟩;refine tst (i := 0) fun K hK => ?_;go_simp;have OS : Only [] wz (wz.alloc (.cells #[] 4)) := (Only.refl [] wz).alloc (.cells #[] 4);have hszn : w1.heap.size ≤ wz.heap.size := OW.size;have OLn : (wz.alloc (.cells #[] 4)).ownsRow w1.heap.size 4 1 (.slice (some ⟨wz.heap.size, 0, none⟩) 0 0) 0 [] := World.ownsRow_lit wz (e := 4) (size := 1) #[] 0 hszn (by unfold maxLen; omega) rfl;have OWn := OW.trans OS;have OL9n := own_only OL9 OS (by simp);generalize wz.alloc (.cells #[] 4) = wn at *;generalize wz.heap.size = g0 at *;refine hK.out _ _ (th1 (OWn)) ?_;clear hK K;(try simp only [Act.put, tdy]);exact HST0_9 wn g0 g4 ⟨OWn, OLn, OL9n⟩
 ·skip;intro wz g0 ca Aa ⟨OW, OV8⟩;refine tst (i := 9) fun K hK => ?_;go_simp;have OS : Only [] wz (wz.alloc (.cells #[] 38)) := (Only.refl [] wz).alloc (.cells #[] 38);have hszn : w1.heap.size ≤ wz.heap.size := OW.size;have OLn : (wz.alloc (.cells #[] 38)).ownsRow w1.heap.size 38 2 (.slice (some ⟨wz.heap.size, 0, none⟩) 0 0) 0 [] := World.ownsRow_lit wz (e := 38) (size := 2) #[] 0 hszn (by unfold maxLen; omega) rfl;have OWn := OW.trans OS;have OV8n := own_only OV8 OS (by simp);generalize wz.alloc (.cells #[] 38) = wn at *;generalize wz.heap.size = g4 at *;refine hK.out _ _ (th1 (OWn)) ?_;clear hK K;(try simp only [Act.put, tdy]);exact HST0_8_9 wn g0 ca g4 Aa ⟨OWn, OV8n, OLn⟩
 ·skip;intro wz g0 g4 ⟨OW, OL0, OL9⟩;refine tst (i := 8) fun K hK => ?_;refine step_append_row _ rfl (.tmp 3) (.tmp 10) 49 rfl w1.heap.size 4 ib _ 1 1 Tryz.underlying49 hib hb0 hb1 hb2 rfl (by omega) _ 0 [] (by rfl) OL0 _ _ (mc) (cc) (yc.map Value.bool) (by rfl) (by rw [List.length_map, HMC.out, Nat.mul_one]) (HCR.out.only (HO1.out.trans OW) (by simp)) (fun u hu => by simp at hu; rcases hu with ⟨-, rfl⟩ | ⟨-, rfl⟩ <;> rfl) (by unfold maxLen; omega) (by omega) OW.size ?_;intro a wn OVn hgrow hat;have OG : Only (Value.slice (some ⟨g0, 0, none⟩) 0 0).ownBlock.toList wz wn := only_grown hgrow;have OWn : Only [] w1 wn := OW.step OG (fun i hi hl => by have := (OL0.lt i (by simpa using hi)).1; omega);rw [Nat.zero_add, List.nil_append] at OVn;obtain ⟨Aa, ca, rfl, -, -, -, -⟩ := own_row OVn;have OL9n := own_only OL9 OG (own_two OL9 OL0 (by decide));refine hK.out _ _ (th1 (OWn)) ?_;clear hK K;(try simp only [Act.put, tdy]);exact HST0_8_9 wn g0 ca g4 Aa ⟨OWn, OVn, OL9n⟩
 ·skip;intro wz g0 ca g4 Aa ⟨OW, OV8, OL9⟩;refine tst (i := 17) fun K hK => ?_;refine step_append_row _ rfl (.tmp 12) (.tmp 19) 33 rfl w1.heap.size 38 iv _ 2 16 Tryz.underlying33 hiv hv0 hv1 hv2 rfl (by omega) _ 0 [] (by rfl) OL9 _ _ (ml) (cl) (edgeC yl) (by rfl) (by rw [edgeC_len, HML.out]) (HLR.out.only (HO1.out.trans OW) (by simp)) (one_edgeC _) (by unfold maxLen; omega) (by omega) OW.size ?_;intro b wn OVn hgrow hat;have OG : Only (Value.slice (some ⟨g4, 0, none⟩) 0 0).ownBlock.toList wz wn := only_grown hgrow;have OWn : Only [] w1 wn := OW.step OG (fun i hi hl => by have := (OL9.lt i (by simpa using hi)).1; omega);rw [Nat.zero_add, List.nil_append] at OVn;obtain ⟨Ab, cb, rfl, -, -, -, -⟩ := own_row OVn;have OV8n := own_only OV8 OG (own_two OV8 OL9 (by decide));refine hK.out _ _ (th1 (OWn)) ?_;clear hK K;(try simp only [Act.put, tdy]);refine tp (i := 18) ?_;(try simp only [Act.put, tdy]);exact HST0_8_9_17 wn g0 ca g4 cb Aa Ab ⟨OWn, OV8n, OVn⟩
 -- behind all of the crowd
 intro wz g0 ca g4 cb Aa Ab ⟨OW, OV8, OV17⟩;refine tst (i := 19) fun K hK => ?_;have hr1 := OW.blk HR1.out (by simp);refine wp_store_blk 51 (.tmp 2) (.tmp 21) rfl gr 51 _ #[.slice Aa mc ca, .slice Ab ml cb] rfl rfl hr1 rfl (by kernel_rfl) (by kernel_rfl) ?_;intro w9 b9 o9;have OZ := (HO1.out.trans OW).step o9 (fun i hi hl => by simp at hi; omega);skip;refine hK.out _ _ (timed_over (by kernel_rfl) (timed_nil)) ?_;clear hK K;(try simp only [Act.put, tdy]);refine timed_done (by kernel_rfl) ?_ _;refine NoPanic.normal ?_;have HU9 := Hd (own_low (owb OV8 hr1 o9) hg1);have HV9 := Hd (own_low (owb OV17 hr1 o9) hg1);have HB9 := Hd b9;have HO9 := Hd OZ;clear OV8 OV17 o9 b9 OZ OW hr1;go_wp2
 refine bodyPost_ret (results_row1 Tryz.results23 _ _ gr 51 #[.slice Aa mc ca, .slice Ab ml cb] _ rfl HB9.out Tryz.underlying51 rfl (by kernel_rfl)) rfl ?_;exact ⟨_, _, _, _, ⟨rfl, by rw [hgg]; exact HU9.out, by rw [hgg]; exact HV9.out⟩, HO9.out⟩
end Go.Proofs.YtjfbeeogiejopaaGreatDoor

set_option linter.unusedVariables false
set_option linter.unusedSimpArgs false
namespace Go.Proofs.YtjfbeeogiejopaaGreatDoor
def HAgg (w : World) (m0 m1 m2 : Nat) (G : Hst) (y : Value) : Prop := ∃ B D0 D1 D2 f0 f1 f2, y = .agg #[.slice D0 m0 f0, .slice D1 m1 f1, .slice D2 m2 f2] ∧ HIn w B D0 D1 D2 m0 m1 m2 G
theorem HAgg.same {w w' : World} {m0 m1 m2 : Nat} {G : Hst} {y : Value} (h : HAgg w m0 m1 m2 G y) (O : Only [] w w') : HAgg w' m0 m1 m2 G y := by
 obtain ⟨B, D0, D1, D2, f0, f1, f2, e, hI⟩ := h;exact ⟨B, D0, D1, D2, f0, f1, f2, e, hI.same O⟩
end Go.Proofs.YtjfbeeogiejopaaGreatDoor

set_option linter.unusedVariables false
set_option linter.unusedSimpArgs false
namespace Go.Proofs.YtjfbeeogiejopaaGreatDoor
open Go.RowKit
open Go.Lib hiding intOf
structure WldA where
 x : Wld
 A : Option Addr
 ca : Nat
 A' : Option Addr
 cb : Nat
structure WAt (w : World) (B : Nat) (y : WldA) : Prop where
 c : w.ownsRow B 4 1 (.slice y.A y.x.c.length y.ca) y.x.c.length (y.x.c.map Value.bool)
 l : w.ownsRow B 38 2 (.slice y.A' y.x.l.length y.cb) y.x.l.length (edgeC y.x.l)
theorem WAt.same {w w' : World} {B : Nat} {y : WldA} (h : WAt w B y) (o : Only [] w w') : WAt w' B y := ⟨own_only h.c o (by simp), own_only h.l o (by simp)⟩
theorem WAt.blkS {w w' : World} {B g : Nat} {y : WldA} {cs : Array Value} (h : WAt w B y) (hb : Blk w g 51 cs) (o : Only [g] w w') : WAt w' B y :=
 ⟨owb h.c hb o, owb h.l hb o⟩
theorem WAt.own {w w' : World} {B B' n : Nat} {y : WldA} {v : Value} {xs : List Value} (h : WAt w B y) (hv : w.ownsRow B' 51 2 v n xs) (o : Only v.ownBlock.toList w w') : WAt w' B y :=
 ⟨own_only h.c o (own_two h.c hv (by decide)), own_only h.l o (own_two h.l hv (by decide))⟩
def WAgg (w : World) (B : Nat) (x : Wld) (y : Value) : Prop := ∃ A c A' c', y = .agg #[.slice A x.c.length c, .slice A' x.l.length c'] ∧ WAt w B ⟨x, A, c, A', c'⟩
theorem WAgg.same {w w' : World} {B : Nat} {x : Wld} {y : Value} (h : WAgg w B x y) (o : Only [] w w') : WAgg w' B x y := by
 obtain ⟨A, c, A', c', e, hw⟩ := h;exact ⟨A, c, A', c', e, hw.same o⟩
theorem own_caps {w : World} {B : Nat} {e : TypeId} {size n c m : Nat} {A : Option Addr} {xs : List Value} (h : w.ownsRow B e size (.slice A n c) m xs) : n ≤ c ∧ c ≤ maxLen := by
 rcases h.2 with ⟨e, -⟩ | ⟨g1, cp1, cu1, e, -, -, h1, h2, -⟩
 ·injection e with e1 e2 e3;omega
 ·injection e with e1 e2 e3;omega
theorem WAt.low {w : World} {B B' : Nat} {y : WldA} (h : WAt w B y) (hb : B' ≤ B) : WAt w B' y := ⟨own_low h.c hb, own_low h.l hb⟩
theorem fewworld_agg (Ac Al : Option Addr) (nc nl cc cl Bc Bl : Nat) (x : Wld) (w : World) (hc : Row w Bc Ac (x.c.map Value.bool)) (hl : Row w Bl Al (edgeC x.l)) (hcl : x.c.length = nc) (hll : x.l.length = nl) (hnc : nc ≤ maxLen) (hnl : nl ≤ maxLen) (hcc : nc ≤ cc) (hcl' : nl ≤ cl) :
  Calls Tryz.prog 23 #[.agg #[.slice Ac nc cc, .slice Al nl cl]] w fun e w' => ∃ y, (e = .returned y ∧ WAgg w' w.heap.size (fewW x) y) ∧ Only [] w w' := by
 refine (fewworld_any Ac Al nc nl cc cl Bc Bl x w hc hl hcl hll hnc hnl hcc hcl').mono ?_;rintro e w' ⟨A1, A2, e1, e2, ⟨rfl, h1, h2⟩, O⟩;exact ⟨_, ⟨rfl, A1, e1, A2, e2, rfl, ⟨h1, h2⟩⟩, O⟩
theorem fewworld_in (B : Nat) (x : Wld) (y : Value) (w : World) (h : WAgg w B x y) (hf : fewW x = x) :
  Calls Tryz.prog 23 #[y] w fun e w' => ∃ y', (e = .returned y' ∧ WAgg w' w.heap.size x y') ∧ Only [] w w' := by
 obtain ⟨A, c, A', c', rfl, hw⟩ := h;have h1 := own_caps hw.c;have h2 := own_caps hw.l;have := fewworld_agg A A' x.c.length x.l.length c c' _ _ x w (own_row_at hw.c).1 (own_row_at hw.l).1 rfl rfl (Nat.le_trans h1.1 h1.2) (Nat.le_trans h2.1 h2.2) h1.1 h2.1;rw [hf] at this;exact this
theorem few16_agg (m0 m1 m2 : Nat) (G : Hst) (y : Value) (w : World) (h : HAgg w m0 m1 m2 G y) (hf : fewH G = G) (hc : cutH G = G) :
  Calls Tryz.prog 22 #[y] w fun e w' => ∃ y', (e = .returned y' ∧ HAgg w' m0 m1 m2 G y') ∧ Only [] w w' := by
 obtain ⟨B, D0, D1, D2, f0, f1, f2, rfl, hI⟩ := h;refine (few16_in D0 D1 D2 m0 m1 m2 f0 f1 f2 B G w hI hf hc).mono ?_;rintro e w' ⟨B0, B1, B2, d0, d1, d2, ⟨rfl, hI'⟩, O⟩;exact ⟨_, ⟨rfl, _, B0, B1, B2, d0, d1, d2, rfl, hI'⟩, O⟩
theorem HIn.pastW {w w' : World} {B : Nat} {A0 A1 A2 : Option Addr} {n0 n1 n2 : Nat} {h : Hst} {g : Nat} {t : TypeId} {a0 a1 : Option Addr} {k0 k1 e0 e1 : Nat} (hI : HIn w B A0 A1 A2 n0 n1 n2 h) (hb : Blk w g t #[.slice a0 k0 e0, .slice a1 k1 e1]) (ho : Only [g] w w') (hU : UTabs w') :
  HIn w' w'.heap.size A0 A1 A2 n0 n1 n2 h := by
 have key : ∀ (u : Value), (∀ a n c, u ≠ .slice a n c) → ∀ j : Nat, (#[Value.slice a0 k0 e0, .slice a1 k1 e1] : Array Value)[j]? ≠ some u := by
  intro u hu j hj
  match j with
  | 0 => simp at hj; exact hu _ _ _ hj.symm
  | 1 => simp at hj; exact hu _ _ _ hj.symm
  | j + 2 => simp at hj
 obtain ⟨⟨r0, r1, ⟨xs, hx, r2, hxs⟩⟩, q0, q1, q2, q3, -⟩ := hI;have ks : ∀ l : List ByteArray, ∀ u : Value, (strs l)[0]? = some u → ∀ a n c, u ≠ .slice a n c := by
  intro l u hu a n c e;subst e
  cases l <;> simp [strs] at hu
 refine ⟨⟨row_past r0 hb (fun u hu => key u (ks _ u hu)) ho, row_past r1 hb (fun u hu => key u (ks _ u hu)) ho, ⟨xs, hx, row_past r2 hb (fun u hu => key u ?_) ho, fun x hx => ⟨row_past (hxs x hx).row hb (fun u hu => key u ?_) ho, (hxs x hx).le, (hxs x hx).cap⟩⟩⟩, q0, q1, q2, q3, hU⟩
 ·intro a n c e;subst e
  cases xs <;> simp [txC, TxA.c] at hu
 ·intro a n c e;subst e
  cases hxo : x.t.ops with
  | nil => rw [hxo] at hu; simp [opC] at hu
  | cons y l => rw [hxo] at hu; simp [opC, Op4.c] at hu


/-! ### The program's answers of values that hold a history, or a world -/
section
variable {m0 m1 m2 : Nat} {G : Hst} {w : World} {y z : Value} {X : Wld} {Bz : Nat}
theorem wcommits_agg (hy : HAgg w m0 m1 m2 G y) (hz : WAgg w Bz X z) (hx : X.c.length ≤ 50 ∧ X.l.length ≤ 50) : Calls Tryz.prog 24 #[y, z] w fun e w' => ∃ V, (e = .returned V ∧ w'.ownsRow w.heap.size 4 1 V (comW G X).length ((comW G X).map Value.bool)) ∧ Only [] w w' := by
 obtain ⟨B, D0, D1, D2, f0, f1, f2, rfl, hi⟩ := hy;obtain ⟨A, c, A', c', rfl, hw⟩ := hz;exact wcommits_any D0 D1 D2 A A' m0 m1 m2 X.c.length X.l.length f0 f1 f2 c c' B _ _ G X w hi (own_row_at hw.c).1 (own_row_at hw.l).1 rfl rfl (by omega)
theorem wtries_agg (hy : HAgg w m0 m1 m2 G y) (hz : WAgg w Bz X z) (hI : HInt G) (hx : X.c.length ≤ 50 ∧ X.l.length ≤ 50) : Calls Tryz.prog 25 #[y, z] w fun e w' => ∃ V, (∃ xs : List SlA, e = .returned V ∧ xs.map (fun x => x.l) = triW G X ∧ w'.ownsRow w.heap.size 33 1 V (triW G X).length (xs.map slC) ∧ VVown w' w.heap.size xs) ∧ Only [] w w' := by
 obtain ⟨B, D0, D1, D2, f0, f1, f2, rfl, hi⟩ := hy;obtain ⟨A, c, A', c', rfl, hw⟩ := hz;exact wtriesof_any D0 D1 D2 A A' m0 m1 m2 X.c.length X.l.length f0 f1 f2 c c' B _ _ G X w hi (own_row_at hw.c).1 (own_row_at hw.l).1 rfl rfl (by omega) hI
theorem wmay_agg (hy : HAgg w m0 m1 m2 G y) (hz : WAgg w Bz X z) (hx : X.c.length ≤ 50 ∧ X.l.length ≤ 50) : Calls Tryz.prog 26 #[y, z] w fun e w' => e = .returned (.bool (mayW G X)) ∧ Only [] w w' := by
 obtain ⟨B, D0, D1, D2, f0, f1, f2, rfl, hi⟩ := hy;obtain ⟨A, c, A', c', rfl, hw⟩ := hz;exact wmay_any D0 D1 D2 A A' m0 m1 m2 X.c.length X.l.length f0 f1 f2 c c' B _ G X w hi (own_row_at hw.l).1 rfl rfl (by omega)
end
end Go.Proofs.YtjfbeeogiejopaaGreatDoor

set_option linter.unusedVariables false
set_option linter.unusedSimpArgs false
namespace Go.Proofs.YtjfbeeogiejopaaGreatDoor
theorem few_int {h : Hst} (hI : HInt h) : HInt (fewH h) := fun t ht x hx => by
 obtain ⟨u, hu, rfl⟩ := List.mem_map.1 ht;exact hI u (List.mem_of_mem_take hu) x (List.mem_of_mem_take hx)
end Go.Proofs.YtjfbeeogiejopaaGreatDoor

set_option linter.unusedVariables false
set_option linter.unusedSimpArgs false
namespace Go.Proofs.YtjfbeeogiejopaaGreatDoor
open Go.RowKit
theorem sameList_eq (A A' : Option Addr) (n c d : Nat) (l : List (Int × Int)) (w : World) (B B' : Nat) (hA : Row w B A (edgeC l)) (hA' : Row w B' A' (edgeC l)) (hn : l.length = n) (hnm : n ≤ 9223372036854775807) :
  Calls Tryz.prog 13 #[.slice A n c, .slice A' n d] w fun e w' => e = .returned (.bool true) ∧ ∃ k, w.drewN k = w' := by
 have HA := Hd hA;have HA' := Hd hA';have HN := Hd hn;clear hA hA' hn;go_enter Tryz.func13, Tryz.ntmps13;go_wp2_with fail
 go_loopw [5] (fun i wr => ∃ k q : Nat, i = .int .i64 k ∧ k ≤ n ∧ Hid (wr = w.drewN q)) (fun i _ => n - (intOf i).toNat)
 case atStart => exact ⟨0, 0, rfl, by omega, rfl⟩
 case round =>
  obtain ⟨k, q, rfl, hk, hw⟩ := hrel;have hxl := HN.out
  by_cases hlt : k < n
  ·obtain ⟨b, off, rfl, -, hbw, hc⟩ := HA.out.open_ (k := k * 2) (by rw [edgeC_len]; omega);obtain ⟨b', off', rfl, -, hbw', hc'⟩ := HA'.out.open_ (k := k * 2) (by rw [edgeC_len]; omega);obtain ⟨e, he⟩ : ∃ e, l[k]? = some e := ⟨_, List.getElem?_eq_getElem (by omega)⟩;obtain ⟨x, y⟩ := e;have hee := edgeC_get l k _ he;have hc0 : wr.cell? ⟨b, off + k * 2, none⟩ = some (.int .i64 x) := by rw [hw.out]; exact hc _ _ hee.1
   have hc1 : wr.cell? ⟨b, off + k * 2 + 1, none⟩ = some (.int .i64 y) := by rw [hw.out, Nat.add_assoc]; exact hc _ _ hee.2
   have hc2 : wr.cell? ⟨b', off' + k * 2, none⟩ = some (.int .i64 x) := by rw [hw.out]; exact hc' _ _ hee.1
   have hc3 : wr.cell? ⟨b', off' + k * 2 + 1, none⟩ = some (.int .i64 y) := by rw [hw.out, Nat.add_assoc]; exact hc' _ _ hee.2
   have hk0 : (0 : Int) ≤ (k : Int) := Int.natCast_nonneg _;have hk1 : (k : Int) < (n : Int) := by omega
   clear hc hc' hxl hee he;go_wp2_with fail
   go_quiet (fail)
   go_wp2
   go_roundw
   case rel =>
    refine ⟨k + 1, q + nq, by go_num, by omega, ?_⟩
    show _ = _
    rw [hw.out, World.drewN_drewN]
   case measure => simp [intOf]; omega
  ·have hge : n ≤ k := by omega
   clear hxl;go_wp2
   go_ret
   exact ⟨rfl, q, hw.out.symm⟩
end Go.Proofs.YtjfbeeogiejopaaGreatDoor
