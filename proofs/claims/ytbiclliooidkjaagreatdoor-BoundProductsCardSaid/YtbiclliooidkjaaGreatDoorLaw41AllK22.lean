/- Parts. -/
import Derived.Test.YtbiclliooidkjaaGreatDoorLaw41AllK21
import Derived.Laws.BitsAllLaws
import Derived.Laws.CopyRow
import Derived.Laws.CopyOwn
set_option maxRecDepth 10000
set_option maxHeartbeats 16000000
set_option linter.unusedVariables false
set_option linter.unusedSimpArgs false
namespace Go.Proofs.YtbiclliooidkjaaGreatDoor
open Go.RowKit
def intsF (n : Nat) (f : Nat → Int) : Array Value := ((List.range n).map fun i : Nat => Value.int .i64 (f i)).toArray
theorem intsF_size (n : Nat) (f : Nat → Int) : (intsF n f).size = n := by simp [intsF]
theorem intsF_at {n i : Nat} (f : Nat → Int) (h : i < n) : (intsF n f)[i]? = some (.int .i64 (f i)) := by simp [intsF, h]
theorem intsF_congr {n : Nat} {f g : Nat → Int} (h : ∀ i, i < n → f i = g i) : intsF n f = intsF n g := by
 unfold intsF
 congr 1
 exact List.map_congr_left fun i hi => by rw [h i (List.mem_range.1 hi)]
theorem made_ints (n : Nat) : madeCells #[.int .i64 0] n = intsF n fun _ => 0 := by
 apply Array.ext_getElem?
 intro j
 by_cases hj : j < n <;> simp [madeCells, intsF, Nat.mod_one, hj]
theorem make_ints (n : Nat) (hn : n ≤ 1000000) (w : World) : (Instr.makeSlice 32 (.int .i64 (n : Int)) (.int .i64 (n : Int))).run Tryz.prog w = .ok (.slice (some ⟨w.heap.size, 0, none⟩) n n) (w.alloc (.cells (intsF n fun _ => 0) 3)) := by
 obtain ⟨i0, hi, hz0, hz1, hz2⟩ := info_parts info_int;have := run_make (P := Tryz.prog) w 32 3 i0 _ Tryz.underlying32 hi hz0 .i64 .i64 (n : Int) (n : Int) (by omega) (by omega) (by rw [hz2]; omega) (by omega);rw [hz1] at this;simp only [Int.toNat_natCast, Nat.mul_one] at this;rw [← made_ints];exact this
end Go.Proofs.YtbiclliooidkjaaGreatDoor
namespace Go.Proofs.YtbiclliooidkjaaGreatDoor
section
variable {P : Program} {ops : Array Oper} {Q : Exit → Act → World → Prop} {md : Region.Mode} {S : Array Bool → World → Prop}
end
open Go.RowKit
section
variable {P : Program} {ops : Array Oper} {Q : Exit → Act → World → Prop} {md : Region.Mode} {S : Array Bool → World → Prop}
theorem timed_forks {l : List Nat} {fuel : Nat} {listed : Array Bool} {a : Act} {w : World} (hr : Region.ready md ops listed = l) (hl : l ≠ [])
  (h : ∀ k ∈ l, ∃ ok, ops[k]? = some ok ∧ ∀ K' : Act → World → Prop, Shut (∀ a w, S (listed.setIfInBounds k true) w → (S (listed.setIfInBounds k true) w → wpAnyT P md ops Q S fuel (listed.setIfInBounds k true) a w) → K' a w) →
   if Region.wanted ok (yielded ops a.tmps) = true then Oper.wp P ok a w K' Q else K' (a.put ok.dst undef) w) : S listed w → wpAnyT P md ops Q S (fuel + 1) listed a w := by
 intro _;refine ⟨fun h0 => (by rw [hr] at h0; exact absurd h0 hl), fun k hk => ?_⟩;rw [hr] at hk;obtain ⟨ok, ho, hs⟩ := h k hk;exact wpOp_step ho (fun K' hK => hs K' (fun a w hS hW => hK a w ⟨hS, hW hS⟩))
end
section
variable {G : Prop}
theorem cut_0_0 (F : World → Prop) {L : World → Prop} (h1 : (∀ (w : World), F w  → L w ) → G) (h2 : ∀ (w : World), F w  → L w ) : G := h1 h2
theorem cut_1_0 (F : World → Nat → Prop) {L : World → Nat → Prop} (h1 : (∀ (w : World) (g0 : Nat), F w g0  → L w g0 ) → G) (h2 : ∀ (w : World) (g0 : Nat), F w g0  → L w g0 ) : G := h1 h2
end
theorem fork_cons {p : Nat → Prop} {k : Nat} {l : List Nat} (h : p k) (r : ∀ j ∈ l, p j) : ∀ j ∈ k :: l, p j := List.forall_mem_cons.2 ⟨h, r⟩
theorem fork_nil {p : Nat → Prop} : ∀ j ∈ ([] : List Nat), p j := fun _ h => by cases h

open Go.Lib hiding intOf
attribute [local go_sem ↓] Go.wp_at_zero Go.wp_at_succ
theorem and_mask {k : Nat} (h : k < 4294967296) : bits .and .u64 (k : Int) 4294967295 = (k : Int) := by
 rw [show (4294967295 : Int) = ((4294967295 : Nat) : Int) from rfl, u64_and_nat k 4294967295 (by omega) (by decide)];rw [show (4294967295 : Nat) = 2 ^ 32 - 1 from rfl, Nat.and_two_pow_sub_one_of_lt_two_pow (by omega)]
theorem and_mask1 : bits .and .u64 (1 : Int) 4294967295 = 1 := by kernel_rfl
theorem and_mask0 : bits .and .u64 (0 : Int) 4294967295 = 0 := by kernel_rfl
theorem mul64_one (k : Nat) (hk : k ≤ 1000000) (w : World) : Calls Tryz.prog 49 #[.int .u64 1, .int .u64 (k : Int)] w fun e w' => e = .returned (.tuple #[.int .u64 0, .int .u64 (k : Int)]) ∧ w = w' := by
 have h1 := and_mask1;have h2 := and_mask0;have h3 := and_mask (k := k) (by omega);have h4 : (k : Int) / 4294967296 = 0 := by omega
 have h5 : IntKind.u64.wrap (k : Int) = (k : Int) := IntWalk.u64_in _ (by omega);have h6 : (k : Int) / 2 ^ 32 = 0 := by omega
 have h7 : IntKind.u64.wrap (1 * (k : Int)) = (k : Int) := by rw [Int.one_mul]; exact h5
 go_enter Tryz.func49, Tryz.ntmps49;go_wp2
 go_ret2
 exact ⟨rfl, rfl⟩
theorem mul_one (k : Nat) (hk : k ≤ 1000000) (w : World) : Calls Tryz.prog 31 #[.int .u64 1, .int .u64 (k : Int)] w fun e w' => e = .returned (.tuple #[.int .u64 0, .int .u64 (k : Int)]) ∧ w = w' := by
 have HM := Hd (mul64_one k hk w);go_enter Tryz.func31, Tryz.ntmps31;go_wp2_with fail
 refine (HM.out).mono ?_;rintro e w1 ⟨rfl, rfl⟩;go_wp2
 go_ret2
 exact ⟨rfl, rfl⟩
def firstF (x : Int) (m : Nat) : Nat → Int := fun i => if i < m then x else 0
theorem intsF_list (n : Nat) (f : Nat → Int) : (intsF n f).toList = (List.range n).map fun i => Value.int .i64 (f i) := by simp [intsF]
theorem splice_first {k m q : Nat} (x : Int) (h : m + q ≤ k) : Go.splice (intsF k (firstF x m)).toList m (List.replicate q (.int .i64 x)) = (intsF k (firstF x (m + q))).toList := by
 unfold Go.splice;rw [intsF_list, intsF_list]
 apply List.ext_getElem?
 intro i;simp only [List.length_replicate]
 by_cases h1 : i < m
 ·rw [List.getElem?_append_left (by simp; omega), List.getElem?_take_of_lt h1];rw [List.getElem?_map, List.getElem?_map, List.getElem?_range (by omega)];simp [firstF, h1, show i < m + q by omega]
 ·rw [List.getElem?_append_right (by simp; omega)];simp only [List.length_take, List.length_map, List.length_range, show min m k = m by omega]
  by_cases h2 : i < m + q
  ·rw [List.getElem?_append_left (by simp; omega), List.getElem?_replicate, if_pos (by omega), List.getElem?_map, List.getElem?_range (by omega)];simp [firstF, h2]
  ·rw [List.getElem?_append_right (by simp; omega)];simp only [List.length_replicate, List.getElem?_drop];rw [show m + q + (i - m - q) = i by omega, List.getElem?_map, List.getElem?_map]
   by_cases h3 : i < k
   ·rw [List.getElem?_range h3];simp [firstF, h1, h2]
   ·rw [List.getElem?_eq_none (by simp; omega)]
    rfl
theorem islice_lo (g n k : Nat) (h : n < k) (W : World) : (Instr.slice 32 (.slice (some ⟨g, 0, none⟩) k k) (some (.int .i64 (n : Int))) none none).run Tryz.prog W = .ok (.slice (some ⟨g, n, none⟩) (k - n) (k - n)) W := by
 rw [run_slice_l (P := Tryz.prog) W 32 (some ⟨g, 0, none⟩) k k (by kernel_rfl) .i64 (n : Int) (by omega) (by omega)];have hs : (sizeOf (Tryz.prog.elem 32)).run Tryz.prog W = .ok 1 W := by kernel_rfl
 rw [hs];have hc : ¬ k = n := by omega
 by_cases h0 : n = 0
 ·subst h0;simp [Result.andThen, sliced, Addr.add]
 ·simp [Result.andThen, sliced, Addr.add, hc, h0];try omega
theorem islice_hi (g n k : Nat) (h : n ≤ k) (W : World) : (Instr.slice 32 (.slice (some ⟨g, 0, none⟩) k k) none (some (.int .i64 (n : Int))) none).run Tryz.prog W = .ok (.slice (some ⟨g, 0, none⟩) n k) W := by
 rw [run_slice_h (P := Tryz.prog) W 32 (some ⟨g, 0, none⟩) k k (by kernel_rfl) .i64 (n : Int) (by omega) (by omega)];have hs : (sizeOf (Tryz.prog.elem 32)).run Tryz.prog W = .ok 1 W := by kernel_rfl
 rw [hs];simp [Result.andThen, sliced, Addr.add]
theorem one_src {w : World} {b off q : Nat} {x : Int} {v : Value} {j : Nat} (hx : w.cell? ⟨b, off + 0, none⟩ = some (.int .i64 x)) (hq : q ≤ 1) (hj : (List.replicate q (Value.int .i64 x))[j]? = some v) : w.cell? ((⟨b, off, none⟩ : Addr).add j) = some v := by
 rw [List.getElem?_replicate] at hj
 split at hj
 ·rename_i h
  injection hj with hj;subst hj;obtain rfl : j = 0 := by omega
  exact hx
 ·cases hj
theorem rep_src {w : World} {g k m p : Nat} {x : Int} {v : Value} {j : Nat} (hB : Blk w g 3 (intsF k (firstF x m))) (hp : p ≤ m) (hm : m ≤ k) (hj : (List.replicate p (Value.int .i64 x))[j]? = some v) : w.cell? ((⟨g, 0, none⟩ : Addr).add j) = some v := by
 rw [List.getElem?_replicate] at hj
 split at hj
 ·rename_i h
  injection hj with hj;subst hj;have e : (⟨g, 0, none⟩ : Addr).add j = ⟨g, j, none⟩ := by
   unfold Addr.add
   split
   ·rename_i h; subst h; rfl
   ·simp
  rw [e, hB.at_ j, intsF_at _ (by omega)];simp [firstF, show j < m by omega]
 ·cases hj
set_option maxRecDepth 100000 in
attribute [-go_sem] Go.run_slice_l Go.run_slice_h Go.run_slice_any Go.run_slice_lh in
theorem repeat_any (x : Int) (A : Option Addr) (c B k : Nat) (w : World) (hg : Row w B A [.int .i64 x]) (hk : k ≤ 1000000) :
  Calls Tryz.prog 14 #[.slice A 1 c, .int .i64 (k : Int)] w fun e w' => ∃ V, (e = .returned V ∧ w'.ownsRow w.heap.size 3 1 V k (List.replicate k (.int .i64 x))) ∧ Only [] w w' := by
 have HM := Hd (mul_one k hk w);have hmk := make_ints k hk w;obtain ⟨b, off, rfl, hbB, hbw, hc⟩ := hg.open_ (k := 0) (by simp);have HX0 := Hd (hc 0 _ rfl);have hd1 : decide ((k : Int) < 0) = false := by simp
 have hd2 : decide ((9223372036854775807 : Int) < (k : Int)) = false := by simp; omega
 have hwu : IntKind.u64.wrap (k : Int) = (k : Int) := IntWalk.u64_in _ (by omega);have hwi : IntKind.i64.wrap (k : Int) = (k : Int) := IntWalk.i64_in _ (by omega);have hwi2 : wrap64 (k : Int) = (k : Int) := by unfold wrap64; omega
 have HB0 := Hd (Blk.made w 3 (intsF k fun _ => 0));have HO0 := Hd ((Only.refl [] w).alloc (.cells (intsF k fun _ => 0) 3));have hbs : b < w.heap.size := hbw;clear hg hc;go_enter Tryz.func14, Tryz.ntmps14;go_wp2_with fail
 refine (HM.out).mono ?_;rintro e w1 ⟨rfl, rfl⟩;go_upto_region 7 with (fail)
 generalize hgg : w.heap.size = g at *;have HGG := Hd hgg;have hsz : (Tryz.prog.info? 3).map (·.size) = some 1 := by kernel_rfl
 obtain ⟨q, hq⟩ : ∃ q, q = min 1 k := ⟨_, rfl⟩;have HQ := Hd hq;have HF0 : Hid ((intsF k fun _ => 0) = intsF k (firstF x 0)) := Hd (intsF_congr fun i _ => by unfold firstF; rw [if_neg (by omega)]);have HSP : Hid (Go.splice (intsF k (firstF x 0)).toList 0 (List.replicate q (Value.int .i64 x)) = (intsF k (firstF x q)).toList) := Hd (by have h1 := splice_first (k := k) (m := 0) (q := q) x (by omega); rwa [Nat.zero_add] at h1);clear hq;have HXO := Hd ((HO0.out.cell (p := ⟨b, off + 0, none⟩) (show b < w.heap.size by have := HGG.out; omega) (by simp)).trans HX0.out);have hgo : g < (w.alloc (.cells (intsF k fun _ => 0) 3)).heap.size := HB0.out.lt;clear HX0;generalize (w.alloc (.cells (intsF k fun _ => 0) 3)) = w2 at *;rw [HF0.out] at HB0;refine wp_region_lit ?_;refine wpList_plain rfl (fun K hK => ?_);go_simp;refine hK _ _ ?_;clear hK K;refine wpList_plain rfl (fun K hK => ?_);go_simp;refine hK _ _ ?_;clear hK K;refine wpList_copy_splice rfl (.tmp 31) (.tmp 32) 32 32 rfl 3 Tryz.underlying32 hsz (some ⟨g, 0, none⟩) (some ⟨b, off, none⟩) k k 1 c rfl rfl g 0 (intsF k (firstF x 0)).toList 3 (by rw [Array.toArray_toList]; exact HB0.out) (List.replicate q (.int .i64 x)) (by rw [List.length_replicate, HQ.out]) (fun _ => ⟨rfl, ⟨b, off, none⟩, rfl, fun j v hj => one_src HXO.out (by have := HQ.out; omega) hj⟩) (by rw [List.length_replicate, Array.length_toList, intsF_size]; have := HQ.out; omega) (by intro u hu; rw [List.eq_of_mem_replicate hu]; rfl) w.heap.size w (HO0.out.below (Nat.le_refl _) (by simp)) (by have := HGG.out; omega) ?_;intro w3 hg3 hb3;have HB3 : Hid (Blk w3 g 3 (intsF k (firstF x q))) := Hd (by have := hg3.out; rw [HSP.out, Array.toArray_toList] at this; exact this);have HO3 := Hd (Only.of_below hb3 []);have hq1 : q ≤ k := by have := HQ.out; omega
 have hq2 : 1 ≤ k → 1 ≤ q := fun h => by have := HQ.out; omega
 clear hg3 hb3 HB0 HO0 HSP HXO;simp only [List.length_replicate];go_wp2_with fail
 go_loopw [8] (fun nv wr => ∃ m : Nat, nv = .int .i64 m ∧ m ≤ k ∧ (1 ≤ k → 1 ≤ m) ∧ Hid (Blk wr g 3 (intsF k (firstF x m))) ∧ Hid (Only [] w wr)) (fun nv _ => k - (intOf nv).toNat)
 case atStart => exact ⟨q, by first | rfl | simp [goInt], hq1, hq2, HB3, HO3⟩
 case round =>
  obtain ⟨m, rfl, hm, hm1, hB, hO⟩ := hrel
  by_cases hlt : m < k
  ·have h01 : (m : Int) < (k : Int) := by omega
   have hm0 : (0 : Int) ≤ (m : Int) := Int.natCast_nonneg _;obtain ⟨p, hp⟩ : ∃ p, p = min m (k - m) := ⟨_, rfl⟩;have hp1 : 1 ≤ p := by have := hm1 (by omega); omega
   have hp2 : m + p ≤ k := by omega
   have HPQ := Hd hp;have hwp : IntKind.i64.wrap ((m : Int) + (p : Int)) = (m : Int) + (p : Int) := IntWalk.i64_in _ (by omega);have HSL := Hd (islice_lo g m k hlt);have HSH := Hd (islice_hi g m k hm);have hsl := HSL.out;have hsh := HSH.out;have HSP := Hd (splice_first (k := k) (m := m) (q := p) x hp2);clear hp;go_wp2_with fail
   refine rg1 [7] [] wr ?_;have OW : Only [] wr wr.drew := (Only.refl [] wr).drew;generalize wr.drew = wz at *;refine tQ 0 (h := tQ 1 (h := tQ 2 (h := tQ 3 (h := tQ 4 (h := tQ 5 (h := tQ 6 (h := ?_)))))));refine tst (i := 7) fun K hK => ?_;refine step_copy_splice rfl (.tmp 41) (.tmp 44) 32 32 rfl 3 Tryz.underlying32 hsz (some ⟨g, m, none⟩) (some ⟨g, 0, none⟩) (k - m) (k - m) m k rfl rfl g m (intsF k (firstF x m)).toList 3 (by rw [Array.toArray_toList]; exact OW.blk hB.out (by simp)) (List.replicate p (.int .i64 x)) (by rw [List.length_replicate, HPQ.out]) (fun _ => ⟨rfl, ⟨g, 0, none⟩, rfl, fun j v hj => rep_src (OW.blk hB.out (by simp)) (by have := HPQ.out; omega) hm hj⟩) (by rw [List.length_replicate, Array.length_toList, intsF_size]; omega) (by intro u hu; rw [List.eq_of_mem_replicate hu]; rfl) w.heap.size w ((hO.out.trans OW).below (Nat.le_refl _) (by simp)) (by have := HGG.out; omega) ?_;intro w4 hg4 hb4;simp only [List.length_replicate];refine hK.out _ _ (timed_over (by kernel_rfl) (timed_nil)) ?_;clear hK K;(try simp only [tdz]);refine tQ 8 (h := tQ 9 (h := ?_));refine tdn ?_;have HB4 : Hid (Blk w4 g 3 (intsF k (firstF x (m + p)))) := Hd (by have := hg4.out; rw [HSP.out, Array.toArray_toList] at this; exact this);have HO4 := Hd (Only.of_below hb4 []);clear hg4 hb4 OW hB hO HSP hsl hsh;go_wp2
   go_roundw
   case rel => exact ⟨m + p, by go_num, by omega, fun _ => by omega, HB4, HO4⟩
   case measure => simp [intOf]; omega
  ·obtain rfl : m = k := by omega
   have hd : decide ((m : Int) < (m : Int)) = false := by simp
   have HV : Hid (wr.ownsRow w.heap.size 3 1 (.slice (some ⟨g, 0, none⟩) m m) m (List.replicate m (.int .i64 x))) := Hd (by
    refine ⟨by simp, .inr ⟨g, m, intsF m (firstF x m), rfl, by have := HGG.out; omega, hB.out, Nat.le_refl _, by unfold maxLen; omega, by rw [intsF_size]; omega, ?_⟩⟩;rw [Nat.mul_one, intsF_list]
    apply List.ext_getElem?
    intro i;rw [List.getElem?_take, List.getElem?_map, List.getElem?_replicate]
    by_cases hi : i < m
    ·rw [if_pos hi, if_pos hi, List.getElem?_range hi];simp [firstF, hi]
    ·rw [if_neg hi, if_neg hi])
   clear hB;go_wp2
   go_ret
   first | exact ⟨_, ⟨rfl, HV.out⟩, hO.out⟩ | exact ⟨⟨_, rfl, HV.out⟩, hO.out⟩
end Go.Proofs.YtbiclliooidkjaaGreatDoor
namespace Go.Proofs.YtbiclliooidkjaaGreatDoor
def HAgg (w : World) (m0 m1 m2 : Nat) (G : Hst) (y : Value) : Prop := ∃ B D0 D1 D2 f0 f1 f2, y = .agg #[.slice D0 m0 f0, .slice D1 m1 f1, .slice D2 m2 f2] ∧ HIn w B D0 D1 D2 m0 m1 m2 G
theorem HAgg.same {w w' : World} {m0 m1 m2 : Nat} {G : Hst} {y : Value} (h : HAgg w m0 m1 m2 G y) (O : Only [] w w') : HAgg w' m0 m1 m2 G y := by
 obtain ⟨B, D0, D1, D2, f0, f1, f2, e, hI⟩ := h;exact ⟨B, D0, D1, D2, f0, f1, f2, e, hI.same O⟩
open Go.RowKit
open Go.Lib hiding intOf
attribute [local go_sem ↓] Go.wp_at_zero Go.wp_at_succ
def readsO (l : List Op4) : Nat := (l.filter fun o => !o.wr).length
theorem readsO_take {l : List Op4} {k : Nat} {x : Op4} (h : l[k]? = some x) : readsO (l.take (k + 1)) = readsO (l.take k) + if x.wr = true then 0 else 1 := by
 unfold readsO;rw [List.take_add_one, h, List.filter_append, List.length_append]
 cases hx : x.wr <;> simp [hx]
theorem readsN_take {l : List Tx} {k : Nat} {x : Tx} (h : l[k]? = some x) : readsN (l.take (k + 1)) = readsN (l.take k) + readsO x.ops := by
 unfold readsN;rw [List.take_add_one, h, List.map_append, List.sum_append];simp [readsT, readsO]
theorem readsO_le (l : List Op4) : readsO l ≤ l.length := List.length_filter_le _ _
theorem breads_any (A0 A1 A2 : Option Addr) (n0 n1 n2 c0 c1 c2 B : Nat) (h : Hst) (w : World) (hg : HIn w B A0 A1 A2 n0 n1 n2 h) :
  Calls Tryz.prog 17 #[hval A0 A1 A2 n0 n1 n2 c0 c1 c2] w fun e w' => e = .returned (.int .i64 ((readsN h.l : Nat) : Int)) ∧ Only [] w w' := by
 unfold hval;have HG := Hd hg.at_.r2;have HN2 := Hd hg.n2;have HNO := Hd hg.sm.no;have hM : n2 ≤ 1000 := by have := hg.sm.nl; rw [hg.n2] at this; exact this
 have HRN := Hd (fun k => readsN_le (h.l.take k) (fun t ht => HNO.out t (List.mem_of_mem_take ht)));have HO := Hd ((Only.refl [] w).alloc (.cells #[.slice A0 n0 c0, .slice A1 n1 c1, .slice A2 n2 c2] 25));have HB := Hd (Blk.made w 25 #[.slice A0 n0 c0, .slice A1 n1 c1, .slice A2 n2 c2]);clear hg;go_enter Tryz.func17, Tryz.ntmps17;go_upto_region 2 with (fail)
 generalize (w.alloc (.cells #[.slice A0 n0 c0, .slice A1 n1 c1, .slice A2 n2 c2] 25)) = w1 at *;generalize w.heap.size = gh at *;have lB := HB.out.lt;have b2 := HB.out.at_ 2;simp at b2;go_wp2_with fail
 clear lB b2
 go_loopw [3, 11] (fun nv iv wr => ∃ k : Nat, iv = .int .i64 k ∧ k ≤ n2 ∧ nv = .int .i64 ((readsN (h.l.take k) : Nat) : Int) ∧ Hid (Only [] w wr)) (fun _ iv _ => n2 - (intOf iv).toNat)
 case atStart => exact ⟨0, rfl, by omega, rfl, HO⟩
 case round =>
  obtain ⟨k, rfl, hk, rfl, hO⟩ := hrel;clear HO
  by_cases hlt : k < n2
  ·obtain ⟨x, hx⟩ : ∃ x, h.l[k]? = some x := ⟨_, List.getElem?_eq_getElem (by rw [HN2.out]; exact hlt)⟩;obtain ⟨b, off, A', cp, rfl, -, hbw, hT, hOk⟩ := HG.out.at_ hx;obtain ⟨a0, a1, a2⟩ := hT.only hO.out hbw (by simp);have HPT := Hd (readsN_take hx);have hm1 := HNO.out x (List.mem_of_getElem? hx);have HROW := Hd hOk.row;have hrn := HRN.out k;rw [List.length_take] at hrn;have hbr : b < wr.heap.size := Nat.lt_of_lt_of_le hbw hO.out.size;obtain ⟨s, f, ops⟩ := x;dsimp only at a0 a1 a2 HPT hm1 HROW;generalize hm : ops.length = m at *;have HMM := Hd hm;generalize readsN (h.l.take k) = R at *;have h01 : (k : Int) < (n2 : Int) := by omega
   have hk0 : (0 : Int) ≤ (k : Int) := Int.natCast_nonneg _;have hwk : IntKind.i64.wrap ((k : Int) + 1) = (k : Int) + 1 := IntWalk.i64_in _ (by omega);clear hT hOk hx hm;go_upto_region 5 with (fail)
   have HB5 := Hd (Blk.made wr 39 #[.int .i64 s, .int .i64 f, .slice A' m cp]);have HO5 := Hd (hO.out.alloc (.cells #[.int .i64 s, .int .i64 f, .slice A' m cp] 39));clear a0 a1 a2 hO;generalize (wr.alloc (.cells #[.int .i64 s, .int .i64 f, .slice A' m cp] 39)) = w5 at *;generalize wr.heap.size = gt at *;have lB := HB5.out.lt;have b2 := HB5.out.at_ 2;simp at b2;go_wp2_with fail
   clear lB b2 HB5
   go_loopw [3, 18] (fun nv iv wr => ∃ j : Nat, iv = .int .i64 j ∧ j ≤ m ∧ nv = .int .i64 ((R + readsO (ops.take j) : Nat) : Int) ∧ Hid (Only [] w wr)) (fun _ iv _ => m - (intOf iv).toNat)
   case atStart => exact ⟨0, rfl, by omega, by simp [readsO], HO5⟩
   case round =>
    obtain ⟨j, rfl, hj, rfl, hO⟩ := hrel;clear HO5
    by_cases hlt2 : j < m
    ·obtain ⟨y, hy⟩ : ∃ y, ops[j]? = some y := ⟨_, List.getElem?_eq_getElem (by rw [HMM.out]; exact hlt2)⟩;obtain ⟨b', off', rfl, -, hbw', hP⟩ := row_op HROW.out hy;obtain ⟨p0, p1, p2, p3⟩ := hP.only hO.out hbw' (by simp);have HTT := Hd (readsO_take hy);have hrl := readsO_le (ops.take j);rw [List.length_take] at hrl;have hbr' : b' < wr.heap.size := Nat.lt_of_lt_of_le hbw' hO.out.size;obtain ⟨yw, yk, yv, yn⟩ := y;dsimp only at p0 p1 p2 p3 HTT;generalize readsO (ops.take j) = q at *;have h02 : (j : Int) < (m : Int) := by omega
     have hj0 : (0 : Int) ≤ (j : Int) := Int.natCast_nonneg _;have hwj : IntKind.i64.wrap ((j : Int) + 1) = (j : Int) + 1 := IntWalk.i64_in _ (by omega);have hwq : IntKind.i64.wrap ((R : Int) + (q : Int) + 1) = (R : Int) + (q : Int) + 1 := IntWalk.i64_in _ (by omega);have HO6 := Hd (hO.out.alloc (.cells #[.bool yw, .int .i64 yk, .int .i64 yv, .int .i64 yn] 50));clear hP hy hO
     cases yw with
     | true =>
      have HE : Hid (readsO (ops.take (j + 1)) = q) := Hd (by rw [HTT.out]; simp);clear HTT;go_wp2
      go_roundw
      case rel => exact ⟨j + 1, by go_num, by omega, by rw [HE.out], HO6⟩
      case measure => simp [intOf]; omega
     | false =>
      have HE : Hid (readsO (ops.take (j + 1)) = q + 1) := Hd (by rw [HTT.out]; simp);clear HTT;go_wp2
      go_roundw
      case rel => exact ⟨j + 1, by go_num, by omega, by rw [HE.out]; first | done | rfl | (congr 1; omega), HO6⟩
      case measure => simp [intOf]; omega
    ·obtain rfl : j = m := by omega
     have hd3 : decide ((j : Int) < (j : Int)) = false := by simp
     have HE : Hid (R + readsO (ops.take j) = readsN (h.l.take (k + 1))) := Hd (by rw [HPT.out, show ops.take j = ops from List.take_of_length_le (by rw [HMM.out]; exact Nat.le_refl _)]);go_wp2
     go_roundw
     case rel => exact ⟨k + 1, by go_num, by omega, by rw [HE.out], hO⟩
     case measure => simp [intOf]; omega
  ·obtain rfl : k = n2 := by omega
   have hd : decide ((k : Int) < (k : Int)) = false := by simp
   have HE : Hid (h.l.take k = h.l) := Hd (List.take_of_length_le (by rw [HN2.out]; exact Nat.le_refl _));go_wp2
   go_ret
   exact ⟨by rw [HE.out]; rfl, hO.out⟩
theorem power_any (V : Value) (n : Nat) (xs : List Int) (x : Int) (m : Nat) (w0 w : World) (hV : w.ownsRow w0.heap.size 3 1 V n (xs.map (Value.int .i64))) (hO : Only [] w0 w) (hn : n ≤ 3000000) (hm : m ≤ 1000000) :
  Calls Tryz.prog 20 #[V, .int .i64 x, .int .i64 (m : Int)] w fun e w' => ∃ V', (e = .returned V' ∧ w'.ownsRow w0.heap.size 3 1 V' (n + m) ((xs ++ List.replicate m x).map (Value.int .i64))) ∧ Only [] w0 w' := by
 obtain ⟨i0, hi, hz0, hz1, hz2⟩ := info_parts info_int;obtain ⟨A, c, rfl, -, -, -, -⟩ := own_row hV;have HV0 := Hd hV;have HO0 := Hd hO;clear hV hO;go_enter Tryz.func20, Tryz.ntmps20;go_wp2_with fail
 go_loopw [0, 7] (fun v iv wr => ∃ k : Nat, iv = .int .i64 k ∧ k ≤ m ∧ Hid (wr.ownsRow w0.heap.size 3 1 v (n + k) ((xs ++ List.replicate k x).map (Value.int .i64))) ∧ Hid (Only [] w0 wr)) (fun _ iv _ => m - (intOf iv).toNat)
 case atStart => exact ⟨0, rfl, by omega, Hd (by simpa using HV0.out), HO0⟩
 case round =>
  obtain ⟨k, rfl, hk, hV, hO⟩ := hrel;obtain ⟨A3, c3, rfl, -, -, -, -⟩ := own_row hV.out;have hsz := hO.out.size
  by_cases hlt : k < m
  ·have h01 : (k : Int) < (m : Int) := by omega
   have hk0 : (0 : Int) ≤ (k : Int) := Int.natCast_nonneg _;have hwk : IntKind.i64.wrap ((k : Int) + 1) = (k : Int) + 1 := IntWalk.i64_in _ (by omega);go_wp2_with (
    at_builtin
    refine wpList_append_row _ rfl (.tmp 13) (.tmp 15) _ rfl w0.heap.size 3 i0 _ 1 8 Tryz.underlying32 hi hz0 hz1 hz2 rfl (by omega) _ (n + k) ((xs ++ List.replicate k x).map (Value.int .i64)) (by rfl) (own_only hV.out ((Only.refl [] wr).alloc _) (by simp)) (wr.heap.size + 1) (some ⟨wr.heap.size, 0, none⟩) 1 1 [.int .i64 x] (by rfl) (by rfl) (row_lit wr 3 #[.int .i64 x]) (by intro u hu; simp at hu; subst hu; rfl) (by unfold maxLen; omega) (by omega) (by simp; omega) ?_;intro v4 w4 hown4 hgrow4 hat4;have HV4 := Hd hown4;have HO4 := Hd ((hO.out.alloc (.cells #[.int .i64 x] 3)).step (only_grown hgrow4) (fun i hi hl => by have := (hV.out.lt i (by simpa using hi)).1; omega));clear hown4 hgrow4 hat4)
   have HV5 : Hid (w4.ownsRow w0.heap.size 3 1 v4 (n + (k + 1)) ((xs ++ List.replicate (k + 1) x).map (Value.int .i64))) := Hd (by
    have := HV4.out;rw [show (xs ++ List.replicate (k + 1) x).map (Value.int .i64) = (xs ++ List.replicate k x).map (Value.int .i64) ++ [.int .i64 x] by rw [List.replicate_succ', ← List.append_assoc, List.map_append]; rfl];exact this)
   clear HV4 hV hO;go_wp2
   go_roundw
   case rel => exact ⟨k + 1, by go_num, by omega, HV5, HO4⟩
   case measure => simp [intOf]; omega
  ·obtain rfl : k = m := by omega
   have hd : decide ((k : Int) < (k : Int)) = false := by simp
   go_wp2
   go_ret
   first | exact ⟨_, ⟨rfl, hV.out⟩, hO.out⟩ | exact ⟨⟨_, rfl, hV.out⟩, hO.out⟩

theorem hinfos_any (A0 A1 A2 : Option Addr) (n0 n1 n2 c0 c1 c2 B : Nat) (h : Hst) (w : World) (hg : HIn w B A0 A1 A2 n0 n1 n2 h) :
  Calls Tryz.prog 15 #[hval A0 A1 A2 n0 n1 n2 c0 c1 c2] w fun e w' => ∃ A c, (e = .returned (.slice A (infL h).length c) ∧ Row w' w'.heap.size A ((infL h).map (Value.int .i64))) ∧ Only [] w w' := by
 have HM := Hd (fun w' (O : Only [] w w') => hmay_any A0 A1 A2 n0 n1 n2 c0 c1 c2 B h w' (hg.same O));have hM : n2 ≤ 1000 := by
  have := hg.sm.nl;rw [hg.n2] at this;exact this
 have HX := Hd (fun w' (O : Only [] w w') => kinfos_any A0 A1 A2 n0 n1 n2 c0 c1 c2 B h w' (hg.same O).at_.r2 hg.n2 hM);unfold infL;unfold hval at HM HX ⊢;clear hg;have O1 : Only [] w (w.alloc (.cells #[.slice A0 n0 c0, .slice A1 n1 c1, .slice A2 n2 c2] 25)) := (Only.refl [] w).alloc _;have HB1 := Hd (Blk.made w 25 #[.slice A0 n0 c0, .slice A1 n1 c1, .slice A2 n2 c2]);have HF := Hd (HM.out _ O1);have HO1 := Hd O1;clear O1
 cases hm : mayH h with
 | false =>
  rw [mayH_errn hm] at HF;clear hm;go_enter Tryz.func15, Tryz.ntmps15;go_wp2_with fail
  refine (HF.out).mono ?_;rintro e w2 ⟨rfl, O2⟩;have HO2 := Hd (HO1.out.trans O2);clear O2;go_wp2
  go_ret
  exact ⟨⟨none, ⟨0, rfl⟩, .inl rfl⟩, HO2.out⟩
 | true =>
  rw [mayH_err hm] at HF;clear hm;rw [if_pos rfl];go_enter Tryz.func15, Tryz.ntmps15;go_wp2_with fail
  refine (HF.out).mono ?_;rintro e w2 ⟨rfl, O2⟩;have HO2 := Hd (HO1.out.trans O2);have b2 := O2.blk HB1.out (by simp);clear O2;have HW := Hd (HX.out w2 HO2.out);have l2 := b2.lt;have y0 := b2.at_ 0;have y1 := b2.at_ 1;have y2 := b2.at_ 2;simp at y0 y1 y2;clear b2;go_wp2_with fail
  refine (HW.out).mono ?_;rintro e w3 ⟨A, c, ⟨rfl, hR⟩, O3⟩;have HO3 := Hd (HO2.out.trans O3);have HR := Hd hR;clear O3 hR;go_wp2
  go_ret
  first | exact ⟨_, _, ⟨rfl, HR.out⟩, HO3.out⟩ | exact ⟨⟨_, ⟨_, rfl⟩, HR.out⟩, HO3.out⟩
theorem hlost_any (A0 A1 A2 : Option Addr) (n0 n1 n2 c0 c1 c2 B : Nat) (h : Hst) (w : World) (hg : HIn w B A0 A1 A2 n0 n1 n2 h) :
  Calls Tryz.prog 16 #[hval A0 A1 A2 n0 n1 n2 c0 c1 c2] w fun e w' => ∃ A c, (e = .returned (.slice A (losL h).length c) ∧ Row w' w'.heap.size A (placeC (losL h))) ∧ Only [] w w' := by
 have HM := Hd (fun w' (O : Only [] w w') => hmay_any A0 A1 A2 n0 n1 n2 c0 c1 c2 B h w' (hg.same O));have hM : n2 ≤ 1000 := by
  have := hg.sm.nl;rw [hg.n2] at this;exact this
 have HX := Hd (fun w' (O : Only [] w w') => klost_any A0 A1 A2 n0 n1 n2 c0 c1 c2 B h w' (hg.same O).at_.r2 hg.n2 hM hg.sm.no);unfold losL;unfold hval at HM HX ⊢;clear hg;have O1 : Only [] w (w.alloc (.cells #[.slice A0 n0 c0, .slice A1 n1 c1, .slice A2 n2 c2] 25)) := (Only.refl [] w).alloc _;have HB1 := Hd (Blk.made w 25 #[.slice A0 n0 c0, .slice A1 n1 c1, .slice A2 n2 c2]);have HF := Hd (HM.out _ O1);have HO1 := Hd O1;clear O1
 cases hm : mayH h with
 | false =>
  rw [mayH_errn hm] at HF;clear hm;go_enter Tryz.func16, Tryz.ntmps16;go_wp2_with fail
  refine (HF.out).mono ?_;rintro e w2 ⟨rfl, O2⟩;have HO2 := Hd (HO1.out.trans O2);clear O2;go_wp2
  go_ret
  exact ⟨⟨none, ⟨0, rfl⟩, .inl rfl⟩, HO2.out⟩
 | true =>
  rw [mayH_err hm] at HF;clear hm;rw [if_pos rfl];go_enter Tryz.func16, Tryz.ntmps16;go_wp2_with fail
  refine (HF.out).mono ?_;rintro e w2 ⟨rfl, O2⟩;have HO2 := Hd (HO1.out.trans O2);have b2 := O2.blk HB1.out (by simp);clear O2;have HW := Hd (HX.out w2 HO2.out);have l2 := b2.lt;have y0 := b2.at_ 0;have y1 := b2.at_ 1;have y2 := b2.at_ 2;simp at y0 y1 y2;clear b2;go_wp2_with fail
  refine (HW.out).mono ?_;rintro e w3 ⟨V, ⟨rfl, hV⟩, O3⟩;obtain ⟨A, c, rfl, -, -, -, hR⟩ := own_row hV;clear hV;have HO3 := Hd (HO2.out.trans O3);have HR := Hd hR;clear O3 hR;go_wp2
  go_ret
  first | exact ⟨_, _, ⟨rfl, HR.out⟩, HO3.out⟩ | exact ⟨⟨_, ⟨_, rfl⟩, HR.out⟩, HO3.out⟩
end Go.Proofs.YtbiclliooidkjaaGreatDoor
