/- Parts. -/
import Derived.Test.YtjfbeeogiejopaaGreatDoorWorldNextCardK30
import Derived.Handed
import Derived.Shelf.Vars
import Derived.HandedShaped
import Derived.LaidMore
import Derived.Lib.LaidIn
import Derived.Lib.LaidU8T
import Derived.Stop.Joined
import Derived.JoinedOf
set_option maxRecDepth 10000
set_option maxHeartbeats 16000000
set_option linter.unusedVariables false
set_option linter.unusedSimpArgs false
namespace Go.Proofs.YtjfbeeogiejopaaGreatDoor
open Go.RowKit
open Go.Lib hiding intOf
attribute [local go_sem ↓] Go.wp_at_zero Go.wp_at_succ
theorem bslice_to (A : Option Addr) (len c m : Nat) (hm : m ≤ c) (W : World) : (Instr.slice 49 (.slice A len c) none (some (.int .i64 (m : Int))) none).run Tryz.prog W = .ok (.slice A m c) W := by
 rw [run_slice_h (P := Tryz.prog) W 49 A len c (by kernel_rfl) .i64 (m : Int) (by omega) (by omega)];have hs : (sizeOf (Tryz.prog.elem 49)).run Tryz.prog W = .ok 1 W := by kernel_rfl
 rw [hs];simp only [Result.andThen, sliced, Int.toNat_natCast, Nat.sub_zero];rw [own_addz (size := 1)]
theorem vslice_to (A : Option Addr) (len c m : Nat) (hm : m ≤ c) (W : World) : (Instr.slice 33 (.slice A len c) none (some (.int .i64 (m : Int))) none).run Tryz.prog W = .ok (.slice A m c) W := by
 rw [run_slice_h (P := Tryz.prog) W 33 A len c (by kernel_rfl) .i64 (m : Int) (by omega) (by omega)];have hs : (sizeOf (Tryz.prog.elem 33)).run Tryz.prog W = .ok 2 W := by kernel_rfl
 rw [hs];simp only [Result.andThen, sliced, Int.toNat_natCast, Nat.sub_zero];rw [own_addz (size := 2)]
theorem row_pref {w : World} {B : Nat} {A : Option Addr} {xs ys : List Value} (h : Row w B A xs) (hp : ∀ (j : Nat) (u : Value), ys[j]? = some u → xs[j]? = some u) (hl : xs = [] → ys = []) (hs : ys.length ≤ xs.length) : Row w B A ys := by
 rcases h with h | ⟨b, off, hA, hb, hs', hc⟩
 ·exact .inl (hl h)
 ·exact .inr ⟨b, off, hA, hb, hs', fun j u hu => hc j u (hp j u hu)⟩
attribute [-go_sem] Go.run_slice_l Go.run_slice_h Go.run_slice_any Go.run_slice_lh in
theorem fewworld_any (Ac Al : Option Addr) (nc nl cc cl Bc Bl : Nat) (x : Wld) (w : World) (hc : Row w Bc Ac (x.c.map Value.bool)) (hl : Row w Bl Al (edgeC x.l)) (hcl : x.c.length = nc) (hll : x.l.length = nl) (hnc : nc ≤ maxLen) (hnl : nl ≤ maxLen) (hcc : nc ≤ cc) (hcl' : nl ≤ cl) :
  Calls Tryz.prog 23 #[.agg #[.slice Ac nc cc, .slice Al nl cl]] w fun e w' => ∃ A1 A2 e1 e2, (e = .returned (.agg #[.slice A1 (fewW x).c.length e1, .slice A2 (fewW x).l.length e2]) ∧ w'.ownsRow w.heap.size 4 1 (.slice A1 (fewW x).c.length e1) (fewW x).c.length ((fewW x).c.map Value.bool) ∧ w'.ownsRow w.heap.size 38 2 (.slice A2 (fewW x).l.length e2) (fewW x).l.length (edgeC (fewW x).l)) ∧ Only [] w w' := by
 obtain ⟨ib, hib, hb0, hb1, hb2⟩ := info_parts info_bl;obtain ⟨iv, hiv, hv0, hv1, hv2⟩ := info_parts info_val;unfold maxLen at hnc hnl;obtain ⟨xc, xl⟩ := x;dsimp only at *;have HCR : Hid (Row w Bc Ac ((xc.take 50).map Value.bool)) := Hd (row_pref hc (fun j u hu => by
  rw [List.getElem?_map, List.getElem?_take] at hu;rw [List.getElem?_map]
  split at hu
  ·exact hu
  ·simp at hu) (fun h => by simp at h; simp [h]) (by simp; omega))
 have HLR : Hid (Row w Bl Al (edgeC (xl.take 50))) := Hd (row_pref hl (fun j u hu => by
  rw [edgeC_take, List.getElem?_take] at hu
  split at hu
  ·exact hu
  ·simp at hu) (fun h => by rw [edgeC_take, h]; simp) (by rw [edgeC_take, List.length_take]; omega))
 obtain ⟨mc, hmc⟩ : ∃ mc, (xc.take 50).length = mc := ⟨_, rfl⟩;obtain ⟨ml, hml⟩ : ∃ ml, (xl.take 50).length = ml := ⟨_, rfl⟩;have HMC := Hd hmc;have HML := Hd hml;rw [List.length_take, hcl] at hmc;rw [List.length_take, hll] at hml;have m1 : min (nc : Int) 50 = (mc : Int) := by omega
 have m2 : min (nl : Int) 50 = (ml : Int) := by omega
 have hsc := fun W => bslice_to Ac nc cc mc (by omega) W;have hsl := fun W => vslice_to Al nl cl ml (by omega) W;unfold fewW;dsimp only;rw [HMC.out, HML.out];have hmc50 : mc ≤ 50 := by omega
 have hml50 : ml ≤ 50 := by omega
 generalize xc.take 50 = yc at *;generalize xl.take 50 = yl at *;clear hc hl hcl hll hmc hml hcc hcl';have HO1 := Hd (((Only.refl [] w).alloc (.cells #[.slice Ac nc cc, .slice Al nl cl] 51)).alloc (.cells #[.slice none 0 0, .slice none 0 0] 51));have HW1 := Hd ((Blk.made w 51 #[.slice Ac nc cc, .slice Al nl cl]).alloc (.cells #[.slice none 0 0, .slice none 0 0] 51));have HR1 := Hd (Blk.made (w.alloc (.cells #[.slice Ac nc cc, .slice Al nl cl] 51)) 51 #[.slice none 0 0, .slice none 0 0]);simp only [World.size_alloc] at HR1;go_enter Tryz.func23, Tryz.ntmps23;go_upto_region 1 with (fail)
 generalize ((w.alloc (.cells #[.slice Ac nc cc, .slice Al nl cl] 51)).alloc (.cells #[.slice none 0 0, .slice none 0 0] 51)) = w1 at *;generalize hgr : w.heap.size + 1 = gr at *;generalize hgg : w.heap.size = g at *;have hg1 : g ≤ w1.heap.size := by have := HO1.out.size; omega
 have RD0 := Hd fun wq (hSw : Only [] w1 wq) => Bk2 (hSw.blk HW1.out (by simp));refine rg1 [19] [] w1 ?_;have OW : Only [] w1 w1.drew := (Only.refl [] w1).drew;generalize hwz : w1.drew = wz at *;clear hwz;refine tQ 1 (h := trq 2 0 RD0 (h := tQ 3 (h := trq 4 0 RD0 (h := tQ 5 (h := tQ 6 (h := tQ 7 (h := tQ 10 (h := trq 11 0 RD0 (h := tQ 12 (h := trq 13 0 RD0 (h := tQ 14 (h := tQ 15 (h := tQ 16 (h := ?_))))))))))))))
 apply cut_4_0_2 (fun w g0 ca g4 cb Aa Ab => (Only [] w1 w) ∧ (w.ownsRow w1.heap.size 4 1 (.slice Aa mc ca) mc (yc.map Value.bool)) ∧ (w.ownsRow w1.heap.size 38 2 (.slice Ab ml cb) ml (edgeC yl)))
 intro HST0_8_9_17
 apply cut_3_0_1 (fun w g0 ca g4 Aa => (Only [] w1 w) ∧ (w.ownsRow w1.heap.size 4 1 (.slice Aa mc ca) mc (yc.map Value.bool)) ∧ (w.ownsRow w1.heap.size 38 2 (.slice (some ⟨g4, 0, none⟩) 0 0) 0 []))
 intro HST0_8_9
 apply cut_2_0 (fun w g0 g4 => (Only [] w1 w) ∧ (w.ownsRow w1.heap.size 4 1 (.slice (some ⟨g0, 0, none⟩) 0 0) 0 []) ∧ (w.ownsRow w1.heap.size 38 2 (.slice (some ⟨g4, 0, none⟩) 0 0) 0 []))
 intro HST0_9
 apply cut_2_0_1 (fun w g0 ca Aa => (Only [] w1 w) ∧ (w.ownsRow w1.heap.size 4 1 (.slice Aa mc ca) mc (yc.map Value.bool)))
 intro HST0_8
 apply cut_1_0 (fun w g4 => (Only [] w1 w) ∧ (w.ownsRow w1.heap.size 38 2 (.slice (some ⟨g4, 0, none⟩) 0 0) 0 []))
 intro HST9
 apply cut_1_0 (fun w g0 => (Only [] w1 w) ∧ (w.ownsRow w1.heap.size 4 1 (.slice (some ⟨g0, 0, none⟩) 0 0) 0 []))
 intro HST0
 ·refine timed_forks (l := [0, 9]) (by kernel_rfl) (by simp) (fork_cons ⟨_, rfl, fun K hK => ?_⟩ (fork_cons ⟨_, rfl, fun K hK => ?_⟩ (fork_nil)))
  ·go_simp;obtain ⟨OS, OWn, OLn⟩ := lit_go 4 1 OW;generalize wz.alloc (.cells #[] 4) = wn at *;generalize wz.heap.size = g0 at *;refine kOut hK (OWn) (h := ?_);clear hK K;exact HST0 wn g0 ⟨OWn, OLn⟩
  ·go_simp;obtain ⟨OS, OWn, OLn⟩ := lit_go 38 2 OW;generalize wz.alloc (.cells #[] 38) = wn at *;generalize wz.heap.size = g4 at *;refine kOut hK (OWn) (h := ?_);clear hK K;exact HST9 wn g4 ⟨OWn, OLn⟩
 ·intro wz g0 ⟨OW, OL0⟩;refine timed_forks (l := [8, 9]) (by kernel_rfl) (by simp) (fork_cons ⟨_, rfl, fun K hK => ?_⟩ (fork_cons ⟨_, rfl, fun K hK => ?_⟩ (fork_nil)))
  ·refine step_append_row _ rfl (.tmp 3) (.tmp 10) 49 rfl w1.heap.size 4 ib _ 1 1 Tryz.underlying49 hib hb0 hb1 hb2 rfl (by omega) _ 0 [] (by rfl) OL0 _ _ (mc) (cc) (yc.map Value.bool) (by rfl) (by rw [List.length_map, HMC.out, Nat.mul_one]) (HCR.out.only (HO1.out.trans OW) (by simp)) (fun u hu => by simp at hu; rcases hu with ⟨-, rfl⟩ | ⟨-, rfl⟩ <;> rfl) (by unfold maxLen; omega) (by omega) OW.size ?_;intro a wn OVn hgrow _;obtain ⟨OG, OWn, Aa, ca, rfl, OVm⟩ := app_go OL0 OW OVn hgrow;refine kOut hK (OWn) (h := ?_);clear hK K;exact HST0_8 wn g0 ca Aa ⟨OWn, OVm⟩
  ·go_simp;obtain ⟨OS, OWn, OLn⟩ := lit_go 38 2 OW;generalize wz.alloc (.cells #[] 38) = wn at *;generalize wz.heap.size = g4 at *;refine kOut hK (OWn) (h := ?_);clear hK K;exact HST0_9 wn g0 g4 ⟨OWn, own_only OL0 OS (by simp), OLn⟩
 ·intro wz g4 ⟨OW, OL9⟩;refine tst (i := 0) fun K hK => ?_;go_simp;obtain ⟨OS, OWn, OLn⟩ := lit_go 4 1 OW;generalize wz.alloc (.cells #[] 4) = wn at *;generalize wz.heap.size = g0 at *;refine kOut hK (OWn) (h := ?_);clear hK K;exact HST0_9 wn g0 g4 ⟨OWn, OLn, own_only OL9 OS (by simp)⟩
 ·intro wz g0 ca Aa ⟨OW, OV8⟩;refine tst (i := 9) fun K hK => ?_;go_simp;obtain ⟨OS, OWn, OLn⟩ := lit_go 38 2 OW;generalize wz.alloc (.cells #[] 38) = wn at *;generalize wz.heap.size = g4 at *;refine kOut hK (OWn) (h := ?_);clear hK K;exact HST0_8_9 wn g0 ca g4 Aa ⟨OWn, own_only OV8 OS (by simp), OLn⟩
 ·intro wz g0 g4 ⟨OW, OL0, OL9⟩;refine tst (i := 8) fun K hK => ?_;refine step_append_row _ rfl (.tmp 3) (.tmp 10) 49 rfl w1.heap.size 4 ib _ 1 1 Tryz.underlying49 hib hb0 hb1 hb2 rfl (by omega) _ 0 [] (by rfl) OL0 _ _ (mc) (cc) (yc.map Value.bool) (by rfl) (by rw [List.length_map, HMC.out, Nat.mul_one]) (HCR.out.only (HO1.out.trans OW) (by simp)) (fun u hu => by simp at hu; rcases hu with ⟨-, rfl⟩ | ⟨-, rfl⟩ <;> rfl) (by unfold maxLen; omega) (by omega) OW.size ?_;intro a wn OVn hgrow _;obtain ⟨OG, OWn, Aa, ca, rfl, OVm⟩ := app_go OL0 OW OVn hgrow;refine kOut hK (OWn) (h := ?_);clear hK K;exact HST0_8_9 wn g0 ca g4 Aa ⟨OWn, OVm, own_only OL9 OG (own_two OL9 OL0 (by decide))⟩
 ·intro wz g0 ca g4 Aa ⟨OW, OV8, OL9⟩;refine tst (i := 17) fun K hK => ?_;refine step_append_row _ rfl (.tmp 12) (.tmp 19) 33 rfl w1.heap.size 38 iv _ 2 16 Tryz.underlying33 hiv hv0 hv1 hv2 rfl (by omega) _ 0 [] (by rfl) OL9 _ _ (ml) (cl) (edgeC yl) (by rfl) (by rw [edgeC_len, HML.out]) (HLR.out.only (HO1.out.trans OW) (by simp)) (one_edgeC _) (by unfold maxLen; omega) (by omega) OW.size ?_;intro b wn OVn hgrow _;obtain ⟨OG, OWn, Ab, cb, rfl, OVm⟩ := app_go OL9 OW OVn hgrow;refine kOut hK (OWn) (h := ?_);clear hK K;refine tQ 18 (h := ?_);exact HST0_8_9_17 wn g0 ca g4 cb Aa Ab ⟨OWn, own_only OV8 OG (own_two OV8 OL9 (by decide)), OVm⟩
 -- behind all of the crowd
 intro wz g0 ca g4 cb Aa Ab ⟨OW, OV8, OV17⟩;refine tst (i := 19) fun K hK => ?_;have hr1 := OW.blk HR1.out (by simp);refine wp_store_blk 51 (.tmp 2) (.tmp 21) rfl gr 51 _ #[.slice Aa mc ca, .slice Ab ml cb] rfl rfl hr1 rfl (by kernel_rfl) (by kernel_rfl) ?_;intro w9 b9 o9;have OZ := (HO1.out.trans OW).step o9 (fun i hi hl => by simp at hi; omega);skip;refine hK.out _ _ (timed_over (by kernel_rfl) (timed_nil)) ?_;clear hK K;(try simp only [tdz]);refine tdn ?_;have HU9 := Hd (own_low (owb OV8 hr1 o9) hg1);have HV9 := Hd (own_low (owb OV17 hr1 o9) hg1);have HB9 := Hd b9;have HO9 := Hd OZ;clear OV8 OV17 o9 b9 OZ OW hr1;go_wp2
 refine bodyPost_ret (results_row1 Tryz.results23 _ _ gr 51 #[.slice Aa mc ca, .slice Ab ml cb] _ rfl HB9.out Tryz.underlying51 rfl (by kernel_rfl)) rfl ?_;exact ⟨_, _, _, _, ⟨rfl, by rw [hgg]; exact HU9.out, by rw [hgg]; exact HV9.out⟩, HO9.out⟩
end Go.Proofs.YtjfbeeogiejopaaGreatDoor
namespace Go.Proofs.YtjfbeeogiejopaaGreatDoor
def HAgg (w : World) (m0 m1 m2 : Nat) (G : Hst) (y : Value) : Prop := ∃ B D0 D1 D2 f0 f1 f2, y = .agg #[.slice D0 m0 f0, .slice D1 m1 f1, .slice D2 m2 f2] ∧ HIn w B D0 D1 D2 m0 m1 m2 G
theorem HAgg.same {w w' : World} {m0 m1 m2 : Nat} {G : Hst} {y : Value} (h : HAgg w m0 m1 m2 G y) (O : Only [] w w') : HAgg w' m0 m1 m2 G y := by
 obtain ⟨B, D0, D1, D2, f0, f1, f2, e, hI⟩ := h;exact ⟨B, D0, D1, D2, f0, f1, f2, e, hI.same O⟩
open Go.RowKit
open Go.Lib hiding intOf
structure WldA where
 x : Wld
 A : Option Addr
 ca : Nat
 A' : Option Addr
 cb : Nat
structure WAt (w : World) (B : Nat) (y : WldA) : Prop where
 c : w.ownsRow B 4 1 (.slice y.A y.x.c.length y.ca) y.x.c.length (y.x.c.map Value.bool)
 l : w.ownsRow B 38 2 (.slice y.A' y.x.l.length y.cb) y.x.l.length (edgeC y.x.l)
theorem WAt.same {w w' : World} {B : Nat} {y : WldA} (h : WAt w B y) (o : Only [] w w') : WAt w' B y := ⟨own_only h.c o (by simp), own_only h.l o (by simp)⟩
theorem WAt.blkS {w w' : World} {B g : Nat} {y : WldA} {cs : Array Value} (h : WAt w B y) (hb : Blk w g 51 cs) (o : Only [g] w w') : WAt w' B y :=
 ⟨owb h.c hb o, owb h.l hb o⟩
theorem WAt.own {w w' : World} {B B' n : Nat} {y : WldA} {v : Value} {xs : List Value} (h : WAt w B y) (hv : w.ownsRow B' 51 2 v n xs) (o : Only v.ownBlock.toList w w') : WAt w' B y :=
 ⟨own_only h.c o (own_two h.c hv (by decide)), own_only h.l o (own_two h.l hv (by decide))⟩
def WAgg (w : World) (B : Nat) (x : Wld) (y : Value) : Prop := ∃ A c A' c', y = .agg #[.slice A x.c.length c, .slice A' x.l.length c'] ∧ WAt w B ⟨x, A, c, A', c'⟩
theorem WAgg.same {w w' : World} {B : Nat} {x : Wld} {y : Value} (h : WAgg w B x y) (o : Only [] w w') : WAgg w' B x y := by
 obtain ⟨A, c, A', c', e, hw⟩ := h;exact ⟨A, c, A', c', e, hw.same o⟩
theorem own_caps {w : World} {B : Nat} {e : TypeId} {size n c m : Nat} {A : Option Addr} {xs : List Value} (h : w.ownsRow B e size (.slice A n c) m xs) : n ≤ c ∧ c ≤ maxLen := by
 rcases h.2 with ⟨e, -⟩ | ⟨g1, cp1, cu1, e, -, -, h1, h2, -⟩
 ·injection e with e1 e2 e3;omega
 ·injection e with e1 e2 e3;omega
theorem WAt.low {w : World} {B B' : Nat} {y : WldA} (h : WAt w B y) (hb : B' ≤ B) : WAt w B' y := ⟨own_low h.c hb, own_low h.l hb⟩
theorem fewworld_agg (Ac Al : Option Addr) (nc nl cc cl Bc Bl : Nat) (x : Wld) (w : World) (hc : Row w Bc Ac (x.c.map Value.bool)) (hl : Row w Bl Al (edgeC x.l)) (hcl : x.c.length = nc) (hll : x.l.length = nl) (hnc : nc ≤ maxLen) (hnl : nl ≤ maxLen) (hcc : nc ≤ cc) (hcl' : nl ≤ cl) :
  Calls Tryz.prog 23 #[.agg #[.slice Ac nc cc, .slice Al nl cl]] w fun e w' => ∃ y, (e = .returned y ∧ WAgg w' w.heap.size (fewW x) y) ∧ Only [] w w' := by
 refine (fewworld_any Ac Al nc nl cc cl Bc Bl x w hc hl hcl hll hnc hnl hcc hcl').mono ?_;rintro e w' ⟨A1, A2, e1, e2, ⟨rfl, h1, h2⟩, O⟩;exact ⟨_, ⟨rfl, A1, e1, A2, e2, rfl, ⟨h1, h2⟩⟩, O⟩
theorem fewworld_in (B : Nat) (x : Wld) (y : Value) (w : World) (h : WAgg w B x y) (hf : fewW x = x) :
  Calls Tryz.prog 23 #[y] w fun e w' => ∃ y', (e = .returned y' ∧ WAgg w' w.heap.size x y') ∧ Only [] w w' := by
 obtain ⟨A, c, A', c', rfl, hw⟩ := h;have h1 := own_caps hw.c;have h2 := own_caps hw.l;have := fewworld_agg A A' x.c.length x.l.length c c' _ _ x w (own_row_at hw.c).1 (own_row_at hw.l).1 rfl rfl (Nat.le_trans h1.1 h1.2) (Nat.le_trans h2.1 h2.2) h1.1 h2.1;rw [hf] at this;exact this
theorem few16_agg (m0 m1 m2 : Nat) (G : Hst) (y : Value) (w : World) (h : HAgg w m0 m1 m2 G y) (hf : fewH G = G) (hc : cutH G = G) :
  Calls Tryz.prog 22 #[y] w fun e w' => ∃ y', (e = .returned y' ∧ HAgg w' m0 m1 m2 G y') ∧ Only [] w w' := by
 obtain ⟨B, D0, D1, D2, f0, f1, f2, rfl, hI⟩ := h;refine (few16_in D0 D1 D2 m0 m1 m2 f0 f1 f2 B G w hI hf hc).mono ?_;rintro e w' ⟨B0, B1, B2, d0, d1, d2, ⟨rfl, hI'⟩, O⟩;exact ⟨_, ⟨rfl, _, B0, B1, B2, d0, d1, d2, rfl, hI'⟩, O⟩
theorem HIn.pastW {w w' : World} {B : Nat} {A0 A1 A2 : Option Addr} {n0 n1 n2 : Nat} {h : Hst} {g : Nat} {t : TypeId} {a0 a1 : Option Addr} {k0 k1 e0 e1 : Nat} (hI : HIn w B A0 A1 A2 n0 n1 n2 h) (hb : Blk w g t #[.slice a0 k0 e0, .slice a1 k1 e1]) (ho : Only [g] w w') (hU : UTabs w') :
  HIn w' w'.heap.size A0 A1 A2 n0 n1 n2 h := by
 have key : ∀ (u : Value), (∀ a n c, u ≠ .slice a n c) → ∀ j : Nat, (#[Value.slice a0 k0 e0, .slice a1 k1 e1] : Array Value)[j]? ≠ some u := by
  intro u hu j hj
  match j with
  | 0 => simp at hj; exact hu _ _ _ hj.symm
  | 1 => simp at hj; exact hu _ _ _ hj.symm
  | j + 2 => simp at hj
 obtain ⟨⟨r0, r1, ⟨xs, hx, r2, hxs⟩⟩, q0, q1, q2, q3, -⟩ := hI;have ks : ∀ l : List ByteArray, ∀ u : Value, (strs l)[0]? = some u → ∀ a n c, u ≠ .slice a n c := by
  intro l u hu a n c e;subst e
  cases l <;> simp [strs] at hu
 refine ⟨⟨row_past r0 hb (fun u hu => key u (ks _ u hu)) ho, row_past r1 hb (fun u hu => key u (ks _ u hu)) ho, ⟨xs, hx, row_past r2 hb (fun u hu => key u ?_) ho, fun x hx => ⟨row_past (hxs x hx).row hb (fun u hu => key u ?_) ho, (hxs x hx).le, (hxs x hx).cap⟩⟩⟩, q0, q1, q2, q3, hU⟩
 ·intro a n c e;subst e
  cases xs <;> simp [txC, TxA.c] at hu
 ·intro a n c e;subst e
  cases hxo : x.t.ops with
  | nil => rw [hxo] at hu; simp [opC] at hu
  | cons y l => rw [hxo] at hu; simp [opC, Op4.c] at hu


/-! ### The program's answers of values that hold a history, or a world -/
section
variable {m0 m1 m2 : Nat} {G : Hst} {w : World} {y z : Value} {X : Wld} {Bz : Nat}
theorem wfirst_agg (hy : HAgg w m0 m1 m2 G y) : Calls Tryz.prog 31 #[y] w fun e w' => ∃ V V', (e = .returned (.tuple #[.agg #[V, V'], .int .i64 (errH G)]) ∧ w'.ownsRow w.heap.size 4 1 V (firstWC G).length ((firstWC G).map Value.bool) ∧ w'.ownsRow w.heap.size 38 2 V' (firstWL G).length (edgeC (firstWL G))) ∧ Only [] w w' := by
 obtain ⟨B, D0, D1, D2, f0, f1, f2, rfl, hI⟩ := hy;exact wfirst_any D0 D1 D2 m0 m1 m2 f0 f1 f2 B G w hI
theorem wcount_agg (hy : HAgg w m0 m1 m2 G y) (hI : HInt G) : Calls Tryz.prog 35 #[y] w fun e w' => e = .returned (.int .i64 ((countW G : Nat) : Int)) ∧ Only [] w w' := by
 obtain ⟨B, D0, D1, D2, f0, f1, f2, rfl, hi⟩ := hy;exact wcount_any D0 D1 D2 m0 m1 m2 f0 f1 f2 B G w hi hI
theorem wnext_agg (hy : HAgg w m0 m1 m2 G y) (hz : WAgg w Bz X z) (hI : HInt G) (hx : X.c.length ≤ 50 ∧ X.l.length ≤ 50) : Calls Tryz.prog 32 #[y, z] w fun e w' => ∃ V V', (e = .returned (.tuple #[.agg #[V, V'], .bool (nextW G X).isSome]) ∧ w'.ownsRow w.heap.size 4 1 V ((nextW G X).getD ⟨[], []⟩).c.length (((nextW G X).getD ⟨[], []⟩).c.map Value.bool) ∧ w'.ownsRow w.heap.size 38 2 V' ((nextW G X).getD ⟨[], []⟩).l.length (edgeC ((nextW G X).getD ⟨[], []⟩).l)) ∧ Only [] w w' := by
 obtain ⟨B, D0, D1, D2, f0, f1, f2, rfl, hi⟩ := hy;obtain ⟨A, c, A', c', rfl, hw⟩ := hz;exact wnext_any D0 D1 D2 A A' m0 m1 m2 X.c.length X.l.length f0 f1 f2 c c' B _ _ G X w hi hI (own_row_at hw.c).1 (own_row_at hw.l).1 rfl rfl (by omega) (by omega) (own_nil0 hw.c) (own_nil0 hw.l)
end
end Go.Proofs.YtjfbeeogiejopaaGreatDoor
namespace Go.Proofs.YtjfbeeogiejopaaGreatDoor
theorem few_int {h : Hst} (hI : HInt h) : HInt (fewH h) := fun t ht x hx => by
 obtain ⟨u, hu, rfl⟩ := List.mem_map.1 ht;exact hI u (List.mem_of_mem_take hu) x (List.mem_of_mem_take hx)
open Go.RowKit
open Go.Lib hiding intOf
attribute [local go_sem ↓] Go.wp_at_zero Go.wp_at_succ
theorem firstWC_no {h : Hst} (hm : mayH h = false) : (firstWC h).length = 0 ∧ (firstWL h).length = 0 ∧ countW h = 0 := by
 unfold firstWC firstWL countW;rw [hm];simp
theorem eqW_self (x : Wld) : eqW x x = true := eqW_iff.2 rfl
theorem nextW_bd (h : Hst) (x : Wld) (hx : x.c.length ≤ 50 ∧ x.l.length ≤ 50) : ((nextW h x).getD ⟨[], []⟩).c.length ≤ 100000 ∧ ((nextW h x).getD ⟨[], []⟩).l.length ≤ 100000 := by
 by_cases hc : mayW h x = true ∧ isB (allT h x.c) x.l = true
 ·have hm := mayW_inv hc.1;have hL := lostX_len (may_ops hm.1).1 (may_ops hm.1).2.1
  cases hu : upL (0, 0) (allT h x.c) x.l with
  | some l' =>
   rw [nextW_c hc.1 hc.2 hu];have := upL_len hu (by rw [allT_len]; exact hm.2.2.1.symm);dsimp only [Option.getD_some];omega
  | none =>
   rw [nextW_d hc.1 hc.2 hu]
   cases hv : upL false (List.replicate x.c.length twoB) x.c with
   | none => simp
   | some c' =>
    have := upL_len hv (by simp);have h2 := firstL_len h c';simp only [Option.map_some, Option.getD_some];omega
 ·have : nextW h x = none := by unfold nextW; rw [if_neg hc]
  rw [this];simp
theorem worldNext_walk (A0 A1 A2 Ac Al : Option Addr) (c0 c1 c2 cc cl : Nat) (h : Hst) (x : Wld) (w : World) (hg : HAt w w.heap.size A0 A1 A2 h) (hm0 : h.ss.length ≤ maxLen) (hm1 : h.ks.length ≤ maxLen) (hm2 : h.l.length ≤ maxLen)
  (hz0 : ∀ z ∈ h.ss, z.size ≤ maxLen) (hz1 : ∀ z ∈ h.ks, z.size ≤ maxLen) (hI : HInt h) (hca : x.c.length ≤ cc) (hcb : cc ≤ maxLen) (hda : x.l.length ≤ cl) (hdb : cl ≤ maxLen) (hrc : Row w w.heap.size Ac (x.c.map Value.bool)) (hrl : Row w w.heap.size Al (edgeC x.l)) (hT : UTabs w) (hM : MLen w) (hV : Verbs w) :
  Calls Tryz.prog 7 #[hval A0 A1 A2 h.ss.length h.ks.length h.l.length c0 c1 c2, .agg #[.slice Ac x.c.length cc, .slice Al x.l.length cl]] w fun e w' => e = .returned (.bool true) ∧ Only [] w w' := by
 unfold hval;have HW := Hd (fun w' (h : Only [] w w') => works16_any w' (hT.only h) (hM.only h) (hV.only h));have HF0 := Hd (fun w' (O : Only [] w w') => few16_first A0 A1 A2 c0 c1 c2 h w' (hg.only O (by simp)).up hm0 hm1 hm2 hz0 hz1 (hT.only O));have HFW0 := Hd (fun w' (O : Only [] w w') => fewworld_agg Ac Al _ _ cc cl _ _ x w' (hrc.only O (by simp)) (hrl.only O (by simp)) rfl rfl (Nat.le_trans hca hcb) (Nat.le_trans hda hdb) hca hda);have HIG : HInt (few16 h) := cutH_int (few_int hI);have HBD := Hd (fun hm => few16_bd (h := h) hm);have HFE := Hd (few16_few h);have HFC := Hd (few16_cut h);have HXE := Hd (fewW_few x);have HT := Hd hT;have HXB : Hid ((fewW x).c.length ≤ 50 ∧ (fewW x).l.length ≤ 50) := Hd (by unfold fewW; dsimp only; rw [List.length_take, List.length_take]; omega);have HNB2 := Hd (nextW_bd (few16 h) (fewW x) (by unfold fewW; dsimp only; rw [List.length_take, List.length_take]; omega));generalize few16 h = G at *;generalize fewW x = X at *;generalize h.ss.length = n0 at *;generalize h.ks.length = n1 at *;generalize h.l.length = n2 at *;generalize x.c.length = nc at *;generalize x.l.length = nl at *;generalize G.ss.length = m0 at *;generalize G.ks.length = m1 at *;generalize G.l.length = m2 at *;have HFI := Hd (fun (y : Value) w' (hy : HAgg w' m0 m1 m2 G y) => wfirst_agg hy);have HCN := Hd (fun (y : Value) w' (hy : HAgg w' m0 m1 m2 G y) => wcount_agg hy HIG);have HNX := Hd (fun (y z : Value) (Bz : Nat) w' (hy : HAgg w' m0 m1 m2 G y) (hz : WAgg w' Bz X z) => wnext_agg hy hz HIG HXB.out);have HFA := Hd (fun (y : Value) w' (hy : HAgg w' m0 m1 m2 G y) => few16_agg m0 m1 m2 G y w' hy HFE.out HFC.out);have HWA := Hd (fun (y : Value) (B : Nat) w' (hy : WAgg w' B X y) => fewworld_in B X y w' hy HXE.out);have HMY := Hd (fun (D0 D1 D2 : Option Addr) (f0 f1 f2 B : Nat) w' (hI : HIn w' B D0 D1 D2 m0 m1 m2 G) => refmay_any D0 D1 D2 m0 m1 m2 f0 f1 f2 B G w' hI);have HRN := Hd (fun (A A' : Option Addr) (c c' Bc Bl : Nat) (D0 D1 D2 : Option Addr) (f0 f1 f2 B : Nat) w' (hI : HIn w' B D0 D1 D2 m0 m1 m2 G) (hc : Row w' Bc A (X.c.map Value.bool)) (hl : Row w' Bl A' (edgeC X.l)) => rnext16_any D0 D1 D2 A A' m0 m1 m2 X.c.length X.l.length f0 f1 f2 c c' B Bc Bl G X w' hI hc hl rfl rfl (by have := HXB.out; omega));have HRF := Hd (fun (D0 D1 D2 : Option Addr) (f0 f1 f2 B : Nat) w' (hI : HIn w' B D0 D1 D2 m0 m1 m2 G) (hm : mayH G = true) => rfirst16_any D0 D1 D2 m0 m1 m2 f0 f1 f2 B G w' hI hm);have HRC := Hd (fun (D0 D1 D2 : Option Addr) (f0 f1 f2 B : Nat) w' (hI : HIn w' B D0 D1 D2 m0 m1 m2 G) (hm : mayH G = true) => rcount16_any D0 D1 D2 m0 m1 m2 f0 f1 f2 B G w' hI hm (HBD.out hm).1);clear hg hm0 hm1 hm2 hz0 hz1 hT hM hV hI HIG hca hcb hda hdb hrc hrl;unfold hval at HMY HRN HRF HRC;have HO1 := Hd (((Only.refl [] w).alloc (.cells #[.slice A0 n0 c0, .slice A1 n1 c1, .slice A2 n2 c2] 25)).alloc (.cells #[.slice Ac nc cc, .slice Al nl cl] 51));have HB1 := Hd ((Blk.made w 25 #[.slice A0 n0 c0, .slice A1 n1 c1, .slice A2 n2 c2]).alloc (.cells #[.slice Ac nc cc, .slice Al nl cl] 51));have HW1 := Hd (Blk.made (w.alloc (.cells #[.slice A0 n0 c0, .slice A1 n1 c1, .slice A2 n2 c2] 25)) 51 #[.slice Ac nc cc, .slice Al nl cl]);simp only [World.size_alloc] at HW1;go_enter Tryz.func7, Tryz.ntmps7;go_upto_region 1 with (fail)
 generalize ((w.alloc (.cells #[.slice A0 n0 c0, .slice A1 n1 c1, .slice A2 n2 c2] 25)).alloc (.cells #[.slice Ac nc cc, .slice Al nl cl] 51)) = w1 at *;generalize hgw : w.heap.size + 1 = gw at *;generalize hgg : w.heap.size = g at *;refine rgo (F := [⟨[], [4], fun w' => Only [] w1 w'⟩, ⟨[], [5], fun w' => Only [g] w1 w'⟩]) (timed_holds ((Only.refl [] w1).drew) (th1 ((Only.refl [g] w1).drew))) ?_;have OW : Only [] w1 w1.drew := (Only.refl [] w1).drew;generalize w1.drew = wz at *;refine trd (i := 0) (v := ?_) 0 ?_ ?_;rotate_left
 ·(intro wq hSw; obtain ⟨lb_H, y0, y1, y2⟩ := Bk3 (hSw.blk HB1.out (by simp)); simp at y0 y1 y2; clear hSw; go_simp; try with_reducible rfl)
 (try simp only [tdz]);refine trd (i := 2) (v := ?_) 1 ?_ ?_;rotate_left
 ·(intro wq hSw; obtain ⟨lb_W, x0, x1⟩ := Bk2 (hSw.blk HW1.out (by simp; omega)); simp at x0 x1; clear hSw; go_simp; try with_reducible rfl)
 (try simp only [tdz]);refine tst (i := 1) fun K hK => ?_;go_simp;refine (HF0.out _ (HO1.out.trans OW)).mono ?_;rintro e w2 ⟨B0, B1, B2, d0, d1, d2, ⟨rfl, hI⟩, O2⟩;have OW1 := OW.trans O2;clear O2;refine hK.out _ _ (timed_holds (OW1) (th1 (OW1.wide (fun i hi => by cases hi)))) ?_;clear hK K;(try simp only [tdz]);refine tst (i := 3) fun K hK => ?_;go_simp;refine (HFW0.out _ (HO1.out.trans OW1)).mono ?_;rintro e w3 ⟨yw, ⟨rfl, hwa⟩, O3⟩;obtain ⟨A3, e3, A4, e4, rfl, hw3⟩ := hwa;have OW2 := OW1.trans O3;have hI3 := hI.same O3;have hb3 := OW2.blk HB1.out (by simp);have hx3 := OW2.blk HW1.out (by simp);have HO3 := Hd (HO1.out.trans OW2);have hg2 : g ≤ w2.heap.size := by have := (HO1.out.trans OW1).size; omega
 have hw3g := hw3.low hg2;clear O3;refine hK.out _ _ (timed_holds (OW2) (th1 (OW2.wide (fun i hi => by cases hi)))) ?_;clear hK K;(try simp only [tdz]);refine tst (i := 4) fun K hK => ?_;refine wp_store_blk 25 (.tmp 2) (.tmp 13) rfl g 25 _ #[.slice B0 m0 d0, .slice B1 m1 d1, .slice B2 m2 d2] rfl rfl hb3 rfl (by kernel_rfl) (by kernel_rfl) ?_;intro w4 b4 o4;have HB4 := Hd b4;have hO4 := HO3.out.step o4 (fun i hi hl => by simp at hi; omega);have hI4 := hI3.past hb3 o4 (HT.out.only hO4);have hx4 := o4.blk hx3 (by simp; omega);have hw4 : WAt w4 g ⟨X, A3, e3, A4, e4⟩ := ⟨owb hw3g.c hb3 o4, owb hw3g.l hb3 o4⟩;have OQ := (OW2.wide (T := [g]) (fun i hi => by cases hi)).trans o4;refine hK.out _ _ (timed_over (by kernel_rfl) (th1 (OQ))) ?_;clear hK K;(try simp only [tdz]);refine tst (i := 5) fun K hK => ?_;refine wp_store_blk 51 (.tmp 3) (.tmp 15) rfl gw 51 _ #[.slice A3 X.c.length e3, .slice A4 X.l.length e4] rfl rfl hx4 rfl (by kernel_rfl) (by kernel_rfl) ?_;intro w5 b5 o5;have HW5 := Hd b5;have HO5 := Hd (hO4.step o5 (fun i hi hl => by simp at hi; omega));have HI5 := Hd (hI4.pastW hx4 o5 (HT.out.only HO5.out));have HB5 := Hd (o5.blk HB4.out (by simp; omega));have HX5 := Hd (hw4.blkS hx4 o5);refine hK.out _ _ (timed_over (by kernel_rfl) (timed_over (by kernel_rfl) (timed_nil))) ?_;clear hK K;(try simp only [tdz]);refine tdn ?_;clear OW OW1 OW2 hI hI3 hI4 hO4 hb3 hx3 hx4 hw3 hw3g hw4 o4 o5 b4 b5 HB4 HO3 OQ HB1 HW1 HO1 HF0 HFW0 hg2;have HH5 : Hid (HAgg w5 m0 m1 m2 G (.agg #[.slice B0 m0 d0, .slice B1 m1 d1, .slice B2 m2 d2])) := Hd ⟨_, B0, B1, B2, d0, d1, d2, rfl, HI5.out⟩;have HZ5 : Hid (WAgg w5 g X (.agg #[.slice A3 X.c.length e3, .slice A4 X.l.length e4])) := Hd ⟨A3, e3, A4, e4, rfl, HX5.out⟩;have hg5 : g ≤ w5.heap.size := by have := HO5.out.size; omega
 have lHB_ := HB5.out.lt;have y0 := HB5.out.at_ 0;have y1 := HB5.out.at_ 1;have y2 := HB5.out.at_ 2;simp at y0 y1 y2;go_wp2_with fail
 refine (HFA.out _ _ HH5.out).mono ?_;rintro e w6 ⟨yh, ⟨rfl, hyh⟩, O6⟩;clear lHB_ y0 y1 y2;have HO6 := Hd (HO5.out.trans O6);have HB6 := Hd (O6.blk HB5.out (by simp));have HW6 := Hd (O6.blk HW5.out (by simp));have HI6 := Hd (HI5.out.same O6);have HX6 := Hd (HX5.out.same O6);have HH6 := Hd (HH5.out.same O6);have HZ6 := Hd (HZ5.out.same O6);clear HO5 HB5 HW5 HI5 HX5 HH5 HZ5;clear O6;have HFI6 := Hd (HFI.out yh w6 hyh);have hg6 : g ≤ w6.heap.size := by have := HO6.out.size; omega
 clear hyh;go_wp2_with fail
 refine (HFI6.out).mono ?_;rintro e w7 ⟨V, V2, ⟨rfl, hv, hv2⟩, O7⟩;obtain ⟨AV, cV, rfl, -, -, -, -⟩ := own_row hv;obtain ⟨AX, cX, rfl, -, -, -, -⟩ := own_row hv2;have HA7 : Hid (WAt w7 g ⟨⟨firstWC G, firstWL G⟩, AV, cV, AX, cX⟩) := Hd ⟨own_low hv hg6, own_low hv2 hg6⟩;have HO7 := Hd (HO6.out.trans O7);have HB7 := Hd (O7.blk HB6.out (by simp));have HW7 := Hd (O7.blk HW6.out (by simp));have HI7 := Hd (HI6.out.same O7);have HX7 := Hd (HX6.out.same O7);have HH7 := Hd (HH6.out.same O7);have HZ7 := Hd (HZ6.out.same O7);clear HO6 HB6 HW6 HI6 HX6 HH6 HZ6;clear O7 hv hv2 HFI6 HFI hg5 hg6;generalize hna : (firstWC G).length = na at *;generalize hnb : (firstWL G).length = nb at *;have HNA := Hd hna;have HNB := Hd hnb;clear hna hnb;go_upto_region 3 with (fail)
 have HQ8 := Hd (Blk.made w7 51 #[.slice AV na cV, .slice AX nb cX]);have O8 : Only [] w7 (w7.alloc (.cells #[.slice AV na cV, .slice AX nb cX] 51)) := (Only.refl [] w7).alloc _;have HO8 := Hd (HO7.out.trans O8);have HB8 := Hd (O8.blk HB7.out (by simp));have HW8 := Hd (O8.blk HW7.out (by simp));have HI8 := Hd (HI7.out.same O8);have HX8 := Hd (HX7.out.same O8);have HH8 := Hd (HH7.out.same O8);have HZ8 := Hd (HZ7.out.same O8);have HA8 := Hd (HA7.out.same O8);clear HO7 HB7 HW7 HI7 HX7 HH7 HZ7 HA7;clear O8;generalize (w7.alloc (.cells #[.slice AV na cV, .slice AX nb cX] 51)) = w8 at *;generalize w7.heap.size = gq at *;have RD0 := Hd fun wq (hSw : Only [] w8 wq) => aI (Bk3 (hSw.blk HB8.out (by simp))) (Bk2 (hSw.blk HW8.out (by simp)));refine rg1 [] [] w8 ?_;have OW : Only [] w8 w8.drew := (Only.refl [] w8).drew;generalize hwz : w8.drew = wz at *;clear hwz;refine trq 0 0 RD0 (h := trq 2 0 RD0 (h := ?_))
 apply cut_1_4 (fun w gv yh yw yp yq => (Only [] w8 w) ∧ (HAgg w m0 m1 m2 G yh) ∧ (WAgg w w8.heap.size X yw) ∧ (w.ownsRow w8.heap.size 4 1 yp ((nextW G X).getD ⟨[], []⟩).c.length (((nextW G X).getD ⟨[], []⟩).c.map Value.bool)) ∧ (w.ownsRow w8.heap.size 38 2 yq ((nextW G X).getD ⟨[], []⟩).l.length (edgeC ((nextW G X).getD ⟨[], []⟩).l)) ∧ (Blk w gv 51 #[.slice none 0 0, .slice none 0 0]) ∧ (w8.heap.size ≤ gv))
 intro HST1_3_4_8
 apply cut_1_2 (fun w gv yh yw => (Only [] w8 w) ∧ (HAgg w m0 m1 m2 G yh) ∧ (WAgg w w8.heap.size X yw) ∧ (Blk w gv 51 #[.slice none 0 0, .slice none 0 0]) ∧ (w8.heap.size ≤ gv))
 intro HST1_3_8
 apply cut_0_4 (fun w yh yw yp yq => (Only [] w8 w) ∧ (HAgg w m0 m1 m2 G yh) ∧ (WAgg w w8.heap.size X yw) ∧ (w.ownsRow w8.heap.size 4 1 yp ((nextW G X).getD ⟨[], []⟩).c.length (((nextW G X).getD ⟨[], []⟩).c.map Value.bool)) ∧ (w.ownsRow w8.heap.size 38 2 yq ((nextW G X).getD ⟨[], []⟩).l.length (edgeC ((nextW G X).getD ⟨[], []⟩).l)))
 intro HST1_3_4
 apply cut_1_1 (fun w gv yh => (Only [] w8 w) ∧ (HAgg w m0 m1 m2 G yh) ∧ (Blk w gv 51 #[.slice none 0 0, .slice none 0 0]) ∧ (w8.heap.size ≤ gv))
 intro HST1_8
 apply cut_0_2 (fun w yh yw => (Only [] w8 w) ∧ (HAgg w m0 m1 m2 G yh) ∧ (WAgg w w8.heap.size X yw))
 intro HST1_3
 apply cut_1_0 (fun w gv => (Only [] w8 w) ∧ (Blk w gv 51 #[.slice none 0 0, .slice none 0 0]) ∧ (w8.heap.size ≤ gv))
 intro HST8
 apply cut_0_1 (fun w yh => (Only [] w8 w) ∧ (HAgg w m0 m1 m2 G yh))
 intro HST1
 ·refine timed_forks (l := [1, 8]) (by kernel_rfl) (by simp) (fork_cons ⟨_, rfl, fun K hK => ?_⟩ (fork_cons ⟨_, rfl, fun K hK => ?_⟩ (fork_nil)))
  ·go_simp;refine (HFA.out _ _ (HH8.out.same OW)).mono ?_;rintro e wa ⟨yh, ⟨rfl, HYH⟩, Oa⟩;have OS := Oa;have OWn := OW.trans OS;refine kOut hK (OWn) (h := ?_);clear hK K;exact HST1 wa yh ⟨OWn, HYH⟩
  ·go_simp;obtain ⟨OS, OWn, BLn, hszn⟩ := made_go 51 (#[.slice none 0 0, .slice none 0 0]) OW;generalize wz.alloc (.cells #[.slice none 0 0, .slice none 0 0] 51) = wn at *;generalize wz.heap.size = gv at *;refine kOut hK (OWn) (h := ?_);clear hK K;exact HST8 wn gv ⟨OWn, BLn, hszn⟩
 ·intro wz yh ⟨OW, HYH⟩;refine timed_forks (l := [3, 8]) (by kernel_rfl) (by simp) (fork_cons ⟨_, rfl, fun K hK => ?_⟩ (fork_cons ⟨_, rfl, fun K hK => ?_⟩ (fork_nil)))
  ·go_simp;refine (HWA.out _ _ _ (HZ8.out.same OW)).mono ?_;rintro e wa ⟨yw, ⟨rfl, HYW0⟩, Oa⟩;have HYW : WAgg wa w8.heap.size X yw := by
    obtain ⟨a1, a2, a3, a4, e, hw⟩ := HYW0;exact ⟨a1, a2, a3, a4, e, hw.low OW.size⟩
   have OS := Oa;have OWn := OW.trans OS;refine kOut hK (OWn) (h := ?_);clear hK K;exact HST1_3 wa yh yw ⟨OWn, HYH.same OS, HYW⟩
  ·go_simp;obtain ⟨OS, OWn, BLn, hszn⟩ := made_go 51 (#[.slice none 0 0, .slice none 0 0]) OW;generalize wz.alloc (.cells #[.slice none 0 0, .slice none 0 0] 51) = wn at *;generalize wz.heap.size = gv at *;refine kOut hK (OWn) (h := ?_);clear hK K;exact HST1_8 wn gv yh ⟨OWn, HYH.same OS, BLn, hszn⟩
 ·intro wz gv ⟨OW, BL8, GE8⟩;refine tst (i := 1) fun K hK => ?_;go_simp;refine (HFA.out _ _ (HH8.out.same OW)).mono ?_;rintro e wa ⟨yh, ⟨rfl, HYH⟩, Oa⟩;have OS := Oa;have OWn := OW.trans OS;refine kOut hK (OWn) (h := ?_);clear hK K;exact HST1_8 wa gv yh ⟨OWn, HYH, OS.blk BL8 (by simp), GE8⟩
 ·intro wz yh yw ⟨OW, HYH, HYW⟩;refine timed_forks (l := [4, 8]) (by kernel_rfl) (by simp) (fork_cons ⟨_, rfl, fun K hK => ?_⟩ (fork_cons ⟨_, rfl, fun K hK => ?_⟩ (fork_nil)))
  ·go_simp;refine (HNX.out yh yw _ _ HYH HYW).mono ?_;rintro e wa ⟨yp, yq, ⟨rfl, hp0, hq0⟩, Oa⟩;have HYP := own_low hp0 OW.size;have HYQ := own_low hq0 OW.size;have OS := Oa;have OWn := OW.trans OS;refine kOut hK (OWn) (h := ?_);clear hK K;refine tQ 5 (h := tQ 6 (h := tQ 7 (h := ?_)));exact HST1_3_4 wa yh yw yp yq ⟨OWn, HYH.same OS, HYW.same OS, HYP, HYQ⟩
  ·go_simp;obtain ⟨OS, OWn, BLn, hszn⟩ := made_go 51 (#[.slice none 0 0, .slice none 0 0]) OW;generalize wz.alloc (.cells #[.slice none 0 0, .slice none 0 0] 51) = wn at *;generalize wz.heap.size = gv at *;refine kOut hK (OWn) (h := ?_);clear hK K;exact HST1_3_8 wn gv yh yw ⟨OWn, HYH.same OS, HYW.same OS, BLn, hszn⟩
 ·intro wz gv yh ⟨OW, HYH, BL8, GE8⟩;refine tst (i := 3) fun K hK => ?_;go_simp;refine (HWA.out _ _ _ (HZ8.out.same OW)).mono ?_;rintro e wa ⟨yw, ⟨rfl, HYW0⟩, Oa⟩;have HYW : WAgg wa w8.heap.size X yw := by
   obtain ⟨a1, a2, a3, a4, e, hw⟩ := HYW0;exact ⟨a1, a2, a3, a4, e, hw.low OW.size⟩
  have OS := Oa;have OWn := OW.trans OS;refine kOut hK (OWn) (h := ?_);clear hK K;exact HST1_3_8 wa gv yh yw ⟨OWn, HYH.same OS, HYW, OS.blk BL8 (by simp), GE8⟩
 ·intro wz yh yw yp yq ⟨OW, HYH, HYW, HYP, HYQ⟩;refine tst (i := 8) fun K hK => ?_;go_simp;obtain ⟨OS, OWn, BLn, hszn⟩ := made_go 51 (#[.slice none 0 0, .slice none 0 0]) OW;generalize wz.alloc (.cells #[.slice none 0 0, .slice none 0 0] 51) = wn at *;generalize wz.heap.size = gv at *;refine kOut hK (OWn) (h := ?_);clear hK K;exact HST1_3_4_8 wn gv yh yw yp yq ⟨OWn, HYH.same OS, HYW.same OS, own_only HYP OS (by simp), own_only HYQ OS (by simp), BLn, hszn⟩
 ·intro wz gv yh yw ⟨OW, HYH, HYW, BL8, GE8⟩;refine tst (i := 4) fun K hK => ?_;go_simp;refine (HNX.out yh yw _ _ HYH HYW).mono ?_;rintro e wa ⟨yp, yq, ⟨rfl, hp0, hq0⟩, Oa⟩;have HYP := own_low hp0 OW.size;have HYQ := own_low hq0 OW.size;have OS := Oa;have OWn := OW.trans OS;refine kOut hK (OWn) (h := ?_);clear hK K;refine tQ 5 (h := tQ 6 (h := tQ 7 (h := ?_)));exact HST1_3_4_8 wa gv yh yw yp yq ⟨OWn, HYH.same OS, HYW.same OS, HYP, HYQ, OS.blk BL8 (by simp), GE8⟩
 -- behind all of the crowd
 intro wz gv yh yw yp yq ⟨OW, HYH, HYW, HYP, HYQ, BL8, GE8⟩;refine tst (i := 9) fun K hK => ?_;obtain ⟨AP, cP, rfl, -, -, -, -⟩ := own_row HYP;obtain ⟨AR, cR, rfl, -, -, -, -⟩ := own_row HYQ;refine wp_store_blk 51 (.tmp 7) (.tmp 28) rfl gv 51 _ #[.slice AP ((nextW G X).getD ⟨[], []⟩).c.length cP, .slice AR ((nextW G X).getD ⟨[], []⟩).l.length cR] rfl rfl BL8 rfl (by kernel_rfl) (by kernel_rfl) ?_;intro w9 b9 o9;have OW9 := OW.step o9 (fun i hi hl => by simp at hi; omega);refine kOut hK (OW9) (h := ?_);clear hK K;refine tQ 10 (h := ?_);refine tdn ?_;have HGV9 := Hd b9;have HBB9 : Hid (WAt w9 g ⟨(nextW G X).getD ⟨[], []⟩, AP, cP, AR, cR⟩) := Hd ⟨own_low (owb HYP BL8 o9) (by have := HO8.out.size; omega), own_low (owb HYQ BL8 o9) (by have := HO8.out.size; omega)⟩;have HO9 := Hd (HO8.out.trans OW9);have HB9 := Hd (OW9.blk HB8.out (by simp));have HW9 := Hd (OW9.blk HW8.out (by simp));have HI9 := Hd (HI8.out.same OW9);have HX9 := Hd (HX8.out.same OW9);have HH9 := Hd (HH8.out.same OW9);have HZ9 := Hd (HZ8.out.same OW9);have HA9 := Hd (HA8.out.same OW9);have HQ9 := Hd (OW9.blk HQ8.out (by simp));clear HO8 HB8 HW8 HI8 HX8 HH8 HZ8 HA8 HQ8;clear OW OW9 o9 b9 HYP HYQ BL8 GE8 HYH HYW HNX HWA;generalize (nextW G X).getD ⟨[], []⟩ = NX at *;generalize (nextW G X).isSome = bs at *;have HRN9 := Hd (HRN.out A3 A4 e3 e4 _ _ B0 B1 B2 d0 d1 d2 _ w9 HI9.out (own_row_at HX9.out.c).1 (own_row_at HX9.out.l).1);try dsimp only at HRN9
 have hg9 : g ≤ w9.heap.size := by have := HO9.out.size; omega
 have lHB_ := HB9.out.lt;have y0 := HB9.out.at_ 0;have y1 := HB9.out.at_ 1;have y2 := HB9.out.at_ 2;have lHW_ := HW9.out.lt;have x0 := HW9.out.at_ 0;have x1 := HW9.out.at_ 1;simp at y0 y1 y2 x0 x1;go_wp2_with fail
 refine (HRN9.out).mono ?_;rintro e w10 ⟨V, V2, ⟨rfl, hv, hv2⟩, O10⟩;clear lHB_ lHW_ y0 y1 y2 x0 x1;obtain ⟨AM, cM, rfl, -, -, -, -⟩ := own_row hv;obtain ⟨AN, cN, rfl, -, -, -, -⟩ := own_row hv2;have HM10 : Hid (WAt w10 g ⟨NX, AM, cM, AN, cN⟩) := Hd ⟨own_low hv hg9, own_low hv2 hg9⟩;have HO10 := Hd (HO9.out.trans O10);have HB10 := Hd (O10.blk HB9.out (by simp));have HW10 := Hd (O10.blk HW9.out (by simp));have HI10 := Hd (HI9.out.same O10);have HX10 := Hd (HX9.out.same O10);have HH10 := Hd (HH9.out.same O10);have HZ10 := Hd (HZ9.out.same O10);have HA10 := Hd (HA9.out.same O10);have HQ10 := Hd (O10.blk HQ9.out (by simp));have HBB10 := Hd (HBB9.out.same O10);have HGV10 := Hd (O10.blk HGV9.out (by simp));clear HO9 HB9 HW9 HI9 HX9 HH9 HZ9 HA9 HQ9 HBB9 HGV9;clear O10 hv hv2 HRN9 HRN hg9;go_upto_region 5 with (fail)
 have HC11 := Hd (Blk.made w10 51 #[.slice AM NX.c.length cM, .slice AN NX.l.length cN]);have O11 : Only [] w10 (w10.alloc (.cells #[.slice AM NX.c.length cM, .slice AN NX.l.length cN] 51)) := (Only.refl [] w10).alloc _;have HO11 := Hd (HO10.out.trans O11);have HB11 := Hd (O11.blk HB10.out (by simp));have HW11 := Hd (O11.blk HW10.out (by simp));have HI11 := Hd (HI10.out.same O11);have HX11 := Hd (HX10.out.same O11);have HH11 := Hd (HH10.out.same O11);have HZ11 := Hd (HZ10.out.same O11);have HA11 := Hd (HA10.out.same O11);have HQ11 := Hd (O11.blk HQ10.out (by simp));have HBB11 := Hd (HBB10.out.same O11);have HGV11 := Hd (O11.blk HGV10.out (by simp));have HM11 := Hd (HM10.out.same O11);clear HO10 HB10 HW10 HI10 HX10 HH10 HZ10 HA10 HQ10 HBB10 HGV10 HM10;clear O11;generalize (w10.alloc (.cells #[.slice AM NX.c.length cM, .slice AN NX.l.length cN] 51)) = w11 at *;generalize w10.heap.size = gc at *;have HSM := Hd (rsame16_any AP AR AM AN _ _ _ _ cP cR cM cN _ _ _ _ NX NX w11 (own_row_at HBB11.out.c).1 (own_row_at HBB11.out.l).1 (own_row_at HM11.out.c).1 (own_row_at HM11.out.l).1 rfl rfl rfl rfl HNB2.out.1 HNB2.out.2);rw [eqW_self] at HSM;try dsimp only at HSM
 have hbb : (bs != bs) = false := by cases bs <;> rfl
 have lHGV_ := HGV11.out.lt;have z0 := HGV11.out.at_ 0;have z1 := HGV11.out.at_ 1;have lHC_ := HC11.out.lt;have u0 := HC11.out.at_ 0;have u1 := HC11.out.at_ 1;simp at z0 z1 u0 u1;go_wp2_with fail
 refine (HSM.out).mono ?_;rintro e w12 ⟨rfl, O12⟩;clear lHGV_ lHC_ z0 z1 u0 u1;have HO12 := Hd (HO11.out.trans O12);have HB12 := Hd (O12.blk HB11.out (by simp));have HW12 := Hd (O12.blk HW11.out (by simp));have HI12 := Hd (HI11.out.same O12);have HX12 := Hd (HX11.out.same O12);have HH12 := Hd (HH11.out.same O12);have HZ12 := Hd (HZ11.out.same O12);have HA12 := Hd (HA11.out.same O12);have HQ12 := Hd (O12.blk HQ11.out (by simp));have HBB12 := Hd (HBB11.out.same O12);have HGV12 := Hd (O12.blk HGV11.out (by simp));have HM12 := Hd (HM11.out.same O12);have HC12 := Hd (O12.blk HC11.out (by simp));clear HO11 HB11 HW11 HI11 HX11 HH11 HZ11 HA11 HQ11 HBB11 HGV11 HM11 HC11;clear O12 HSM;go_upto_region 7 with (fail)
 clear hbb HBB12 HM12 HGV12 HC12 HNB2;have lHB_ := HB12.out.lt;have y0 := HB12.out.at_ 0;have y1 := HB12.out.at_ 1;have y2 := HB12.out.at_ 2;simp at y0 y1 y2;go_wp2_with fail
 refine (HMY.out B0 B1 B2 d0 d1 d2 _ _ HI12.out).mono ?_;rintro e w13 ⟨rfl, O13⟩;clear lHB_ y0 y1 y2;have HO13 := Hd (HO12.out.trans O13);have HB13 := Hd (O13.blk HB12.out (by simp));have HW13 := Hd (O13.blk HW12.out (by simp));have HI13 := Hd (HI12.out.same O13);have HX13 := Hd (HX12.out.same O13);have HH13 := Hd (HH12.out.same O13);have HZ13 := Hd (HZ12.out.same O13);have HA13 := Hd (HA12.out.same O13);have HQ13 := Hd (O13.blk HQ12.out (by simp));clear HO12 HB12 HW12 HI12 HX12 HH12 HZ12 HA12 HQ12;clear O13 HMY
 cases hm : mayH G with
 | false =>
  rw [errH_not hm];obtain ⟨q1, q2, q3⟩ := firstWC_no hm;rw [HNA.out] at q1;rw [HNB.out] at q2;subst q1 q2;rw [q3] at HCN;clear hm q3 HRF HRC HNA HNB;have lHB_ := HB13.out.lt;have y0 := HB13.out.at_ 0;have y1 := HB13.out.at_ 1;have y2 := HB13.out.at_ 2;have lHQ_ := HQ13.out.lt;have x0 := HQ13.out.at_ 0;have x1 := HQ13.out.at_ 1;simp at y0 y1 y2 x0 x1;go_wp2_with fail
  refine (HFA.out _ _ HH13.out).mono ?_;rintro e w14 ⟨yh, ⟨rfl, hyh⟩, O14⟩;clear lHB_ lHQ_ y0 y1 y2 x0 x1;have HO14 := Hd (HO13.out.trans O14);have HB14 := Hd (O14.blk HB13.out (by simp));have HW14 := Hd (O14.blk HW13.out (by simp));have HI14 := Hd (HI13.out.same O14);have HX14 := Hd (HX13.out.same O14);have HH14 := Hd (HH13.out.same O14);have HZ14 := Hd (HZ13.out.same O14);have HA14 := Hd (HA13.out.same O14);have HQ14 := Hd (O14.blk HQ13.out (by simp));clear HO13 HB13 HW13 HI13 HX13 HH13 HZ13 HA13 HQ13;clear O14;go_wp2_with fail
  refine (HCN.out yh _ hyh).mono ?_;rintro e w15 ⟨rfl, O15⟩;have HO15 := Hd (HO14.out.trans O15);have HB15 := Hd (O15.blk HB14.out (by simp));have HW15 := Hd (O15.blk HW14.out (by simp));have HI15 := Hd (HI14.out.same O15);have HX15 := Hd (HX14.out.same O15);have HH15 := Hd (HH14.out.same O15);have HZ15 := Hd (HZ14.out.same O15);have HA15 := Hd (HA14.out.same O15);have HQ15 := Hd (O15.blk HQ14.out (by simp));clear HO14 HB14 HW14 HI14 HX14 HH14 HZ14 HA14 HQ14;clear O15 hyh;go_wp2_with fail
  refine (HW.out _ HO15.out).mono ?_;rintro e w16 ⟨rfl, O16⟩;have HO16 := Hd (HO15.out.trans O16);go_wp2
  go_ret
  exact ⟨rfl, HO16.out⟩
 | true =>
  rw [errH_yes hm];have HRF1 := Hd (fun w' (O : Only [] w13 w') => HRF.out B0 B1 B2 d0 d1 d2 _ w' (HI13.out.same O) hm);have HRC1 := Hd (fun w' (O : Only [] w13 w') => HRC.out B0 B1 B2 d0 d1 d2 _ w' (HI13.out.same O) hm);have HFB : Hid ((firstWC G).length ≤ 100000 ∧ (firstWL G).length ≤ 100000) := Hd (by
   unfold firstWC firstWL;rw [if_pos hm, if_pos hm, List.length_replicate, firstL_len];have := HBD.out hm;omega)
  have HSM := Hd (fun (A A' : Option Addr) (c c' : Nat) w' (O : Only [] w13 w') (hw : WAt w' g ⟨⟨firstWC G, firstWL G⟩, A, c, A', c'⟩) => rsame16_any AV AX A A' _ _ _ _ cV cX c c' _ _ _ _ ⟨firstWC G, firstWL G⟩ ⟨firstWC G, firstWL G⟩ w' ((own_row_at HA13.out.c).1.only O (by simp)) ((own_row_at HA13.out.l).1.only O (by simp)) (own_row_at hw.c).1 (own_row_at hw.l).1 rfl rfl rfl rfl HFB.out.1 HFB.out.2);rw [eqW_self] at HSM;dsimp only at HSM;rw [HNA.out, HNB.out] at HSM;have hg13 : g ≤ w13.heap.size := by have := HO13.out.size; omega
  generalize countW G = N at *;clear hm HRF HRC HFB HBD;go_upto_region 10 with (fail)
  have RD0 := Hd fun wq (hSw : Only [] w13 wq) => aI (Bk3 (hSw.blk HB13.out (by simp))) (Bk2 (hSw.blk HQ13.out (by simp)));refine rg1 [] [] w13 ?_;have OW : Only [] w13 w13.drew := (Only.refl [] w13).drew;generalize w13.drew = wz at *;refine tQ 0 (h := tQ 1 (h := tQ 2 (h := trq 3 0 RD0 (h := trq 4 0 RD0 (h := ?_)))));refine tst (i := 5) fun K hK => ?_;go_simp;refine (HRF1.out _ OW).mono ?_;rintro e wa ⟨V, V2, ⟨rfl, hv, hv2⟩, Oa⟩;obtain ⟨AP2, cP2, rfl, -, -, -, -⟩ := own_row hv;obtain ⟨AR2, cR2, rfl, -, -, -, -⟩ := own_row hv2;have OW1 := OW.trans Oa;have hgz : g ≤ wz.heap.size := by have := OW.size; omega
  have hwa : WAt wa g ⟨⟨firstWC G, firstWL G⟩, AP2, cP2, AR2, cR2⟩ := ⟨by dsimp only; rw [HNA.out]; exact own_low hv hgz, by dsimp only; rw [HNB.out]; exact own_low hv2 hgz⟩;clear Oa;refine kOut hK (OW1) (h := ?_);clear hK K;refine tst (i := 6) fun K hK => ?_;go_simp;refine (HSM.out AP2 AR2 cP2 cR2 _ OW1 hwa).mono ?_;rintro e wb ⟨rfl, Ob⟩;have OW2 := OW1.trans Ob;clear Ob;refine kOut hK (OW2) (h := ?_);clear hK K;refine tQ 7 (h := tQ 8 (h := trq 9 0 RD0 (h := trq 12 0 RD0 (h := ?_))));refine tst (i := 10) fun K hK => ?_;go_simp;refine (HFA.out _ _ (HH13.out.same OW2)).mono ?_;rintro e wc ⟨yh, ⟨rfl, hyh⟩, Oc⟩;have OW3 := OW2.trans Oc;clear Oc;refine kOut hK (OW3) (h := ?_);clear hK K;refine tst (i := 11) fun K hK => ?_;go_simp;refine (HCN.out yh _ hyh).mono ?_;rintro e wd ⟨rfl, Od⟩;have OW4 := OW3.trans Od;clear Od;refine kOut hK (OW4) (h := ?_);clear hK K;refine tst (i := 13) fun K hK => ?_;go_simp;refine (HRC1.out _ OW4).mono ?_;rintro e we ⟨rfl, Oe⟩;have OW5 := OW4.trans Oe;clear Oe;refine kOut hK (OW5) (h := ?_);clear hK K;refine tQ 14 (h := tQ 15 (h := tQ 16 (h := ?_)));refine tst (i := 17) fun K hK => ?_;go_simp;refine (HW.out _ (HO13.out.trans OW5)).mono ?_;rintro e wf ⟨rfl, Of⟩;have OW6 := OW5.trans Of;clear Of;refine kOut hK (OW6) (h := ?_);clear hK K;refine tQ 18 (h := tQ 19 (h := ?_));refine tdn ?_;have HO16 := Hd (HO13.out.trans OW6);go_wp2
  go_ret
  exact ⟨rfl, HO16.out⟩
end Go.Proofs.YtjfbeeogiejopaaGreatDoor
namespace Go.Proofs.YtjfbeeogiejopaaGreatDoor
open Go.RowKit Go.ChangeShapes Go.WideShapes Go.ChangeAt Go.Joins Go.Deep
section
variable {H : Type} {enc : TypeId × Value → H} {P : Program} {w : World}
theorem open_world {r : Reach} {b0 : Nat} {t tb teb tvs tv ti tj : TypeId} {f0 f1 g0 g1 : Field} {v : Value} {d : DataW H} {p : List MemPlace}
  (hs : P.underlying t = some (.struct #[f0, f1])) (hC : P.cellsOf t = 2) (htb : P.underlying tb = some (.slice teb)) (heb : P.underlying teb = some .bool) (ceb : P.cellsOf teb = 1) (ctb : P.cellsOf tb = 1)
  (htv : P.underlying tvs = some (.slice tv)) (hvs : P.underlying tv = some (.struct #[g0, g1])) (cv : P.cellsOf tv = 2) (ctv : P.cellsOf tvs = 1) (hi : P.underlying ti = some (.int .i64)) (hj : P.underlying tj = some (.int .i64)) (ci : P.cellsOf ti = 1) (cj : P.cellsOf tj = 1)
  (e0 : f0.type = tb ∧ f0.offset = 0) (e1 : f1.type = tvs ∧ f1.offset = 1) (q0 : g0.type = ti ∧ g0.offset = 0) (q1 : g1.type = tj ∧ g1.offset = 1)
  (hv : Value.okWide P w r b0 t v) (h : DataW.Trod enc P w 0 (fun _ => true) true t v d p) :
  ∃ (A A' : Option Addr) (c c' : Nat) (x : Wld), v = .agg #[.slice A x.c.length c, .slice A' x.l.length c'] ∧ x.c.length ≤ c ∧ c ≤ maxLen ∧ x.l.length ≤ c' ∧ c' ≤ maxLen ∧ Row w w.heap.size A (x.c.map Value.bool) ∧ Row w w.heap.size A' (edgeC x.l) := by
 obtain ⟨cs, rfl, hsz⟩ := okWide_struct hs hv;obtain ⟨fuel, hf0⟩ := h;have bool1 : ∀ fuel' cs' x', DataW.trod enc P w 0 (fun _ => true) true fuel' teb cs' = some x' → ∃ y : Bool, True ∧ cs' = [.bool y] := fun fuel' cs' x' h => by
  obtain ⟨b, a0, -⟩ := DataW.trod_bool heb h;exact ⟨b, trivial, a0⟩
 have val1 : ∀ fuel' cs' x', DataW.trod enc P w 0 (fun _ => true) true fuel' tv cs' = some x' → ∃ y : V2, True ∧ cs' = [.int .i64 y.1, .int .i64 y.2] := fun fuel' cs' x' h => by
  obtain ⟨y0, y1, m, -, hlen, g3, g4⟩ := trod_struct2 hvs h;rw [cv] at hlen;rw [q0.1, q0.2, ci] at g3;rw [q1.1, q1.2, cj] at g4
  match cs', hlen with
  | [u0, u1], _ =>
   obtain ⟨z0, a0, -, -⟩ := DataW.trod_int hi (by simpa using g3);obtain ⟨z1, a1, -, -⟩ := DataW.trod_int hj (by simpa using g4);simp at a0 a1;subst a0 a1;exact ⟨(z0, z1), trivial, rfl⟩
 obtain ⟨xs, n, _, hxx, hl, hlen, hf⟩ := DataW.trod_struct hs hf0;rw [hC] at hl;have hcells : (Value.agg cs).cells.toList = cs.toList := by simp [Value.cells]
 rw [hcells] at hl hf
 match hcs : cs.toList, hl with
 | [c0, c1], _ =>
  rw [hcs] at hf;have h0 := hf 0 f0 rfl;have h1 := hf 1 f1 rfl;rw [e0.1, e0.2, ctb] at h0;rw [e1.1, e1.2, ctv] at h1
  match xs, hlen with
  | [y0, y1], _ =>
   obtain ⟨A0, n0, d0, z0, a0, l0, m0', hn0, hz0, r0⟩ := row_of (fun b : Bool => [Value.bool b]) 1 (fun _ => rfl) (by omega) (fun _ => True) htb ceb bool1 (by simpa using h0);obtain ⟨A1, n1, d1, z1, a1, l1, m1', hn1, hz1, r1⟩ := row_of (fun v : V2 => [Value.int .i64 v.1, Value.int .i64 v.2]) 2 (fun _ => rfl) (by omega) (fun _ => True) htv cv val1 (by simpa using h1);simp at a0 a1;subst a0 a1;have fs : ∀ l : List Bool, l.flatMap (fun b => [Value.bool b]) = l.map Value.bool := fun l => by
    induction l with
    | nil => rfl
    | cons x l ih => rw [List.flatMap_cons, ih]; rfl
   rw [fs] at r0;refine ⟨A0, A1, d0, d1, ⟨z0, z1⟩, ?_, by rw [hn0]; exact l0, m0', by rw [hn1]; exact l1, m1', r0, r1⟩;have e : cs = #[.slice A0 n0 d0, .slice A1 n1 d1] := by
    apply Array.toList_inj.1
    rw [hcs]
   dsimp only;rw [e, hn0, hn1]
end
end Go.Proofs.YtjfbeeogiejopaaGreatDoor
namespace Go.Proofs.YtjfbeeogiejopaaGreatDoor
open Go.ChangeShapes Go.WideShapes Go.ChangeAt Go.RowKit
theorem handed_and_shaped {H : Type} {enc : TypeId × Value → H} {a : Assume} {C : Checked} {os : Os} {f : FuncId} {fn : Func} {s : ChangeSpec} {conds : List PathCond} {apart fresh handsOn again : Bool} {X : World → Array Value → Prop}
  (hX : ∀ (w w' : World) (args : Array Value), w.heap = w'.heap → X w args → X w' args)
  (own : ownKnob C.prog.godebug = none) (started : os.Started) (noInit : C.prog.inits.idxOf? f = none) (hfn : C.prog.funcs[f]? = some fn)
  (witness : ∃ (w : World) (tape : Tape) (i : Input), w.os = os ∧ (w.forCall tape i).Shaped C.prog ∧ i.vars = [] ∧ Input.okWide C.prog (w.forCall tape i) .any w.heap.size f i ∧
   ((s.pre enc C.prog fn conds apart (w.forCall tape i).memory i.args ∧ X (w.forCall tape i).memory i.args) ∧ sizedMet enc C.prog fn (OpenSpec.ofChange s) apart (w.forCall tape i).memory i.args) ∧ a.holds C.prog (lone (Frame.enter C.prog f i.args .normal) [] (w.forCall tape i)))
  (contract : ∀ (W : World) (base : Nat) (args : Array Value) (ds gs : List (DataW H)) (before : List MemPlace),
   (∀ (j : Nat) t v, fn.params[j]? = some t → args[j]? = some v → Value.okWide C.prog W .any base t v) →
   DataW.Whole enc C.prog fn.params.toList s.vars apart W args.toList ds gs before →
   W.ShapedOpen C.prog →
   (DataW.weightsEach C.prog (fn.params.toList ++ s.plain.varTypes C.prog) (ds ++ gs)).all (· ≤ reachBytes) = true → X W args →
   a.holds C.prog (lone (Frame.enter C.prog f args .normal) [] W) →
   Calls C.prog f args W fun e W' => ∃ v, e = .returned v ∧ s.post enc C.prog fn apart fresh handsOn again W args v W') :
  ReturnsInHanded a C os f .any (fun w args => (s.pre enc C.prog fn conds apart w args ∧ X w args) ∧ sizedMet enc C.prog fn (OpenSpec.ofChange s) apart w args) (s.post enc C.prog fn apart fresh handsOn again) := by
 refine returnsInHanded_of_calls own started noInit witness ?_;intro w tape i _ hsh _ hok hpre hholds;obtain ⟨_, _, _, fn', hfn', _, _, _, _, hval⟩ := hok;have e : fn' = fn := Option.some.inj (hfn'.symm.trans hfn);subst e;obtain ⟨⟨⟨ds, gs, before, hw, hc⟩, hx⟩, hz⟩ := hpre;have hw' := DataW.Whole.of_heap (w' := w.forCall tape i) (by rfl) hw;refine (contract (w.forCall tape i) w.heap.size i.args ds gs before hval hw' hsh (hz.weights hw) (hX _ _ _ (by rfl) hx) hholds).mono fun e W' ⟨v, he, hp⟩ => ?_;subst he;exact ChangeSpec.post_blind hp
theorem mlen_of_shaped {W : World} (h : W.ShapedOpen Tryz.prog) : MLen W :=
 Go.Proofs.cell_of_shapedOpen_int (zero := #[.int .i64 0]) (t := 3) h (of_decide_eq_true (by kernel_rfl)) (by kernel_rfl) rfl (by kernel_rfl) (by kernel_rfl) Tryz.underlying3
def laidL : List (String × DataW Unit) := [("unicode/utf8.acceptRanges", Rows.laid_unicode_utf8_acceptRanges), ("deemster/event.verbs", Rows.laid_deemster_event_verbs), ("unicode/utf8.first", Rows.laid_unicode_utf8_first)]
set_option maxRecDepth 100000 in
theorem laid_accept : (Rows.laid_unicode_utf8_acceptRanges : DataW Unit) = Lib.acceptData := by rfl
set_option maxRecDepth 100000 in
theorem laid_first : Rows.laid_unicode_utf8_first = Lib.firstData := by kernel_rfl
def verbD : List (Int × List UInt8 × Bool) := [(1, [98, 101, 103, 105, 110], false), (2, [114, 101, 97, 100], true), (3, [119, 114, 105, 116, 101], true), (4, [111, 107], false), (5, [102, 97, 105, 108], false), (6, [105, 110, 102, 111], false)]
def verbW (x : Int × List UInt8 × Bool) : DataW Unit := .agg [.lit (.int .i64 x.1), .lit (.string x.2.1), .lit (.bool x.2.2)]
theorem laid_verbs : (Rows.laid_deemster_event_verbs : DataW Unit) = .agg (verbD.map verbW) := by rfl
set_option maxRecDepth 100000 in
theorem tabs_of_laid {W : World} (h : laidMetH Tryz.prog laidL W) : UTabs W := by
 rw [MakeChecks.laidMetH_plain _ _ _ (by kernel_rfl)] at h;unfold laidL at h;rw [laid_accept, laid_first] at h;exact utf8Tabs_of_readsT (U8Types.of196 Tryz.laysValid) ⟨by kernel_rfl, by kernel_rfl, by kernel_rfl, by kernel_rfl, by kernel_rfl, by kernel_rfl, by kernel_rfl⟩ (Lib.laidMet.reads h (.tail _ (.tail _ (.head _)))) (Lib.laidMet.reads h (.head _))
set_option maxRecDepth 100000 in
theorem verb_reads {W : World} {fuel : Nat} {cs : List Value} {x : Int × List UInt8 × Bool} {q : List MemPlace} (h : DataW.trod (fun _ => ()) Tryz.prog W 0 (fun _ => true) false fuel 151 cs = some (verbW x, q)) :
  cs = [.int .i64 x.1, .string ⟨x.2.1.toArray⟩, .bool x.2.2] := by
 obtain ⟨y0, y1, y2, n, hx, hl, h0, h1, h2⟩ := Go.Deep.trod_struct3 Tryz.underlying151 h;rw [show Tryz.prog.cellsOf 151 = 3 by kernel_rfl] at hl
 match cs, hl with
 | [c0, c1, c2], _ =>
  have k0 : Tryz.prog.cellsOf 3 = 1 := by kernel_rfl
  have k1 : Tryz.prog.cellsOf 9 = 1 := by kernel_rfl
  have k2 : Tryz.prog.cellsOf 4 = 1 := by kernel_rfl
  dsimp only at h0 h1 h2;rw [k0] at h0;rw [k1] at h1;rw [k2] at h2;obtain ⟨a, e0, f0, -⟩ := DataW.trod_int Tryz.underlying3 (by simpa using h0);obtain ⟨s, e1, f1, -⟩ := DataW.trod_string Tryz.underlying9 (by simpa using h1);obtain ⟨b, e2, f2⟩ := DataW.trod_bool Tryz.underlying4 (by simpa using h2);simp at e0 e1 e2;subst e0 e1 e2 f0 f1 f2;obtain ⟨x0, x1, x2⟩ := x;simp [verbW] at hx;obtain ⟨⟨rfl, rfl, rfl⟩, -⟩ := hx
  rfl
set_option maxRecDepth 100000 in
theorem verbs_of_laid {W : World} (h : laidMetH Tryz.prog laidL W) : Verbs W := by
 rw [MakeChecks.laidMetH_plain _ _ _ (by kernel_rfl)] at h;unfold laidL at h;rw [laid_verbs] at h;obtain ⟨g, t, cs, fuel, p, hg, hty, hvar, hd⟩ := Lib.laidMet.reads h (.tail _ (.head _));obtain rfl := Option.some.inj ((show Tryz.prog.globalNamed "deemster/event.verbs" = some 2 by kernel_rfl).symm.trans hg);obtain rfl := Option.some.inj ((show (Tryz.prog.globals[2]?).map (·.type) = some 196 by kernel_rfl).symm.trans hty);have key : ∀ (j : Nat) (x : Int × List UInt8 × Bool), j < 6 → verbD[j]? = some x → W.cell? ⟨2, j * 3, none⟩ = some (.int .i64 x.1) ∧ W.cell? ⟨2, j * 3 + 1, none⟩ = some (.string ⟨x.2.1.toArray⟩) ∧ W.cell? ⟨2, j * 3 + 2, none⟩ = some (.bool x.2.2) := by
  intro j x hj hx;obtain ⟨fuel', d, q, hdi, he⟩ := Lib.array_elem Tryz.underlying196 hd j hj;rw [List.getElem?_map, hx] at hdi;simp only [Option.map_some, Option.some.injEq] at hdi;subst hdi;rw [show Tryz.prog.cellsOf 151 = 3 by kernel_rfl] at he;have hcs := verb_reads he;have e0 := congrArg (·[0]?) hcs;have e1 := congrArg (·[1]?) hcs;have e2 := congrArg (·[2]?) hcs;simp only [List.getElem?_take, List.getElem?_drop] at e0 e1 e2;refine ⟨?_, ?_, ?_⟩
  ·rw [World.var?_cell hg hvar (j * 3), ← Array.getElem?_toList]
   simpa using e0
  ·rw [World.var?_cell hg hvar (j * 3 + 1), ← Array.getElem?_toList]
   simpa using e1
  ·rw [World.var?_cell hg hvar (j * 3 + 2), ← Array.getElem?_toList]
   simpa using e2
 have k0 := key 0 _ (by omega) rfl;have k1 := key 1 _ (by omega) rfl;have k2 := key 2 _ (by omega) rfl;have k3 := key 3 _ (by omega) rfl;have k4 := key 4 _ (by omega) rfl;have k5 := key 5 _ (by omega) rfl;refine ⟨World.block_lt_of_cell? W _ k0.1, fun i u hu => ?_⟩;have hi : i < 18 := by
  have := (List.getElem?_eq_some_iff.1 hu).1;exact this
 have hc : i = 0 ∨ i = 1 ∨ i = 2 ∨ i = 3 ∨ i = 4 ∨ i = 5 ∨ i = 6 ∨ i = 7 ∨ i = 8 ∨ i = 9 ∨ i = 10 ∨ i = 11 ∨ i = 12 ∨ i = 13 ∨ i = 14 ∨ i = 15 ∨ i = 16 ∨ i = 17 := by omega
 rcases hc with rfl | rfl | rfl | rfl | rfl | rfl | rfl | rfl | rfl | rfl | rfl | rfl | rfl | rfl | rfl | rfl | rfl | rfl
 ·obtain rfl := Option.some.inj hu;exact k0.1
 ·obtain rfl := Option.some.inj hu;exact k0.2.1
 ·obtain rfl := Option.some.inj hu;exact k0.2.2
 ·obtain rfl := Option.some.inj hu;exact k1.1
 ·obtain rfl := Option.some.inj hu;exact k1.2.1
 ·obtain rfl := Option.some.inj hu;exact k1.2.2
 ·obtain rfl := Option.some.inj hu;exact k2.1
 ·obtain rfl := Option.some.inj hu;exact k2.2.1
 ·obtain rfl := Option.some.inj hu;exact k2.2.2
 ·obtain rfl := Option.some.inj hu;exact k3.1
 ·obtain rfl := Option.some.inj hu;exact k3.2.1
 ·obtain rfl := Option.some.inj hu;exact k3.2.2
 ·obtain rfl := Option.some.inj hu;exact k4.1
 ·obtain rfl := Option.some.inj hu;exact k4.2.1
 ·obtain rfl := Option.some.inj hu;exact k4.2.2
 ·obtain rfl := Option.some.inj hu;exact k5.1
 ·obtain rfl := Option.some.inj hu;exact k5.2.1
 ·obtain rfl := Option.some.inj hu;exact k5.2.2
end Go.Proofs.YtjfbeeogiejopaaGreatDoor
