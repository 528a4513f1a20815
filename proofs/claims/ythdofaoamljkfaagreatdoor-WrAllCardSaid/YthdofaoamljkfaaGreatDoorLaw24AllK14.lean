/- Parts. -/
import Derived.Test.YthdofaoamljkfaaGreatDoorLaw24AllK13
import Derived.StillTailTactics
set_option maxRecDepth 10000
set_option maxHeartbeats 16000000
set_option linter.unusedVariables false
set_option linter.unusedSimpArgs false
namespace Go.Proofs.YthdofaoamljkfaaGreatDoor
open Go.RowKit
open Go.Lib hiding intOf
attribute [local go_sem ↓] Go.wp_at_zero Go.wp_at_succ
theorem info_str : (Tryz.prog.info? 9).map (fun i => (i.zero, i.size, i.bytes)) = some (some (.string ⟨#[]⟩), 1, 16) := by kernel_rfl
theorem info_op : (Tryz.prog.info? 70).map (fun i => (i.zero, i.size, i.bytes)) = some (some (.agg #[.bool false, .int .i64 0, .int .i64 0, .int .i64 0]), 4, 32) := by kernel_rfl
theorem info_txn : (Tryz.prog.info? 47).map (fun i => (i.zero, i.size, i.bytes)) = some (some (.agg #[.int .i64 0, .int .i64 0, .slice none 0 0]), 3, 40) := by kernel_rfl
theorem own_row_at {w : World} {base : Nat} {e : TypeId} {size n c : Nat} {A : Option Addr} {xs : List Value} (h : w.ownsRow base e size (.slice A n c) n xs) : Row w w.heap.size A xs ∧ n ≤ c ∧ c ≤ maxLen := by
 obtain ⟨A', c', e1, h1, h2, -, h3⟩ := own_row h;injection e1 with ea eb ec;subst ea ec;exact ⟨h3, h1, h2⟩
theorem own_addz {size : Nat} {A : Option Addr} {c : Nat} : (if c = 0 then A else A.map (·.add (0 * size))) = A := by
 split
 ·rfl
 ·cases A with
  | none => rfl
  | some a => simp [Addr.add]
theorem oslice_to (A : Option Addr) (len c m : Nat) (hm : m ≤ c) (W : World) : (Instr.slice 45 (.slice A len c) none (some (.int .i64 (m : Int))) none).run Tryz.prog W = .ok (.slice A m c) W := by
 rw [run_slice_h (P := Tryz.prog) W 45 A len c (by kernel_rfl) .i64 (m : Int) (by omega) (by omega)];have hs : (sizeOf (Tryz.prog.elem 45)).run Tryz.prog W = .ok 4 W := by kernel_rfl
 rw [hs];simp only [Result.andThen, sliced, Int.toNat_natCast, Nat.sub_zero];rw [own_addz (size := 4)]
attribute [-go_sem] Go.run_slice_l Go.run_slice_h Go.run_slice_any Go.run_slice_lh in
theorem few11_any (A0 A1 A2 : Option Addr) (n0 n1 n2 c0 c1 c2 B : Nat) (h : Hst) (w : World) (hg : HAt w B A0 A1 A2 h) (hn0 : h.ss.length = n0) (hn1 : h.ks.length = n1) (hn2 : h.l.length = n2) (hm0 : n0 ≤ 9223372036854775807) (hm1 : n1 ≤ 9223372036854775807) (hm2 : n2 ≤ 9223372036854775807)
  (hz0 : ∀ z ∈ h.ss, z.size ≤ 9223372036854775807) (hz1 : ∀ z ∈ h.ks, z.size ≤ 9223372036854775807) :
  Calls Tryz.prog 6 #[hval A0 A1 A2 n0 n1 n2 c0 c1 c2] w fun e w' => ∃ A0' A1' A2' c0' c1' c2', (e = .returned (hval A0' A1' A2' (fewH h).ss.length (fewH h).ks.length (fewH h).l.length c0' c1' c2') ∧ HAt w' w'.heap.size A0' A1' A2' (fewH h)) ∧ Only [] w w' := by
 unfold hval;have HG := Hd hg;have HN0 := Hd hn0;have HN1 := Hd hn1;have HN2 := Hd hn2;have HZ0 := Hd hz0;have HZ1 := Hd hz1;obtain ⟨is, his, hs0, hs1, hs2⟩ := info_parts info_str;clear hg hn0 hn1 hn2 hz0 hz1;have b0 := ((Blk.made w 25 #[.slice A0 n0 c0, .slice A1 n1 c1, .slice A2 n2 c2]).alloc (.cells #[.slice none 0 0, .slice none 0 0, .slice none 0 0] 25)).alloc (.cells #[.slice none 0 0, .slice none 0 0, .slice none 0 0] 25);have b1 := (Blk.made (w.alloc (.cells #[.slice A0 n0 c0, .slice A1 n1 c1, .slice A2 n2 c2] 25)) 25 #[.slice none 0 0, .slice none 0 0, .slice none 0 0]).alloc (.cells #[.slice none 0 0, .slice none 0 0, .slice none 0 0] 25);have b2 := Blk.made ((w.alloc (.cells #[.slice A0 n0 c0, .slice A1 n1 c1, .slice A2 n2 c2] 25)).alloc (.cells #[.slice none 0 0, .slice none 0 0, .slice none 0 0] 25)) 25 #[.slice none 0 0, .slice none 0 0, .slice none 0 0];have o0 : Only [] w (((w.alloc (.cells #[.slice A0 n0 c0, .slice A1 n1 c1, .slice A2 n2 c2] 25)).alloc (.cells #[.slice none 0 0, .slice none 0 0, .slice none 0 0] 25)).alloc (.cells #[.slice none 0 0, .slice none 0 0, .slice none 0 0] 25)) := (((Only.refl [] w).alloc _).alloc _).alloc _;simp only [World.size_alloc] at b1 b2;have hszz : (((w.alloc (.cells #[.slice A0 n0 c0, .slice A1 n1 c1, .slice A2 n2 c2] 25)).alloc (.cells #[.slice none 0 0, .slice none 0 0, .slice none 0 0] 25)).alloc (.cells #[.slice none 0 0, .slice none 0 0, .slice none 0 0] 25)).heap.size = w.heap.size + 3 := by simp
 go_enter Tryz.func6, Tryz.ntmps6
 go_upto_block 0 with fail
 generalize (((w.alloc (.cells #[.slice A0 n0 c0, .slice A1 n1 c1, .slice A2 n2 c2] 25)).alloc (.cells #[.slice none 0 0, .slice none 0 0, .slice none 0 0] 25)).alloc (.cells #[.slice none 0 0, .slice none 0 0, .slice none 0 0] 25)) = wz at *;generalize hgr : w.heap.size + 1 + 1 = g2 at *;generalize hgq : w.heap.size + 1 = g1 at *;generalize hgp : w.heap.size = g0 at *;have HBH0 := Hd b0;have HBR0 := Hd b1;have HBO0 := Hd b2;have HO0 := Hd o0;clear b0 b1 b2 o0;go_cut [4] (fun s wx => ∃ A' c', Hid (Blk wx g2 25 #[(.slice A' (((h.ss.take 25).map short11)).length c'), .slice none 0 0, .slice none 0 0]) ∧ Hid (wx.ownsRow wz.heap.size 9 1 (.slice A' (((h.ss.take 25).map short11)).length c') (((h.ss.take 25).map short11)).length (strs ((h.ss.take 25).map short11))) ∧ Hid (Only [g2] wz wx))
 case first =>
  go_wp2_with fail
  go_loopw [4] (fun iv wr => ∃ (k : Nat) (V : Value), iv = .int .i64 k ∧ k ≤ n0 ∧ k ≤ 25 ∧ Hid (Blk wr g2 25 #[V, .slice none 0 0, .slice none 0 0]) ∧ Hid (wr.ownsRow wz.heap.size 9 1 V k (strs ((h.ss.take k).map short11))) ∧ Hid (Only [g2] wz wr)) (fun iv _ => n0 - (intOf iv).toNat)
  case atStart => exact ⟨0, .slice none 0 0, rfl, by omega, by omega, HBO0, Hd ⟨rfl, .inl ⟨rfl, rfl⟩⟩, Hd (Only.refl _ _)⟩
  case round =>
   obtain ⟨k, V, rfl, hk, hk2, hBO, hV, hO⟩ := hrel;have hsz := hO.out.size;have hBH : Hid (Blk wr g0 25 #[.slice A0 n0 c0, .slice A1 n1 c1, .slice A2 n2 c2]) := Hd (hO.out.blk HBH0.out (by simp; omega));have lH := hBH.out.lt;have yH := hBH.out.at_ 0;simp at yH
   by_cases hlt : k < n0 ∧ k < 25
   ·obtain ⟨hlt1, hlt2⟩ := hlt;have h01 : (k : Int) < (n0 : Int) := by omega
    have h02 : (k : Int) < 25 := by omega
    have hk0 : (0 : Int) ≤ (k : Int) := Int.natCast_nonneg _;have hwk : IntKind.i64.wrap ((k : Int) + 1) = (k : Int) + 1 := IntWalk.i64_in _ (by omega);obtain ⟨x, hx⟩ : ∃ x, h.ss[k]? = some x := ⟨_, List.getElem?_eq_getElem (by rw [HN0.out]; exact hlt1)⟩;obtain ⟨b, off, rfl, -, hbw, hcell⟩ := HG.out.r0.open_ (k := k) (by rw [strs, List.length_map, HN0.out]; exact hlt1);have hls := HZ0.out x (List.mem_of_getElem? hx);have hbz : b < wz.heap.size := by have := HO0.out.size; omega
    have HCK : Hid (wr.cell? ⟨b, off + k, none⟩ = some (.string x)) := Hd (((HO0.out.step hO.out (fun i hi hl => by simp at hi; omega)).cell (p := ⟨b, off + k, none⟩) hbw (by simp)).trans (hcell k _ (by rw [strs, List.getElem?_map, hx]; rfl)));have hbr : b < wr.heap.size := by omega
    obtain ⟨q, hq⟩ : ∃ q, q = min x.size 100 := ⟨_, rfl⟩;have hmin : min (x.size : Int) 100 = (q : Int) := by omega
    have hq1 : (0 : Int) ≤ (q : Int) := Int.natCast_nonneg _;have hq2 : (q : Int) ≤ (x.size : Int) := by omega
    have HTK : Hid (strs ((h.ss.take (k + 1)).map short11) = strs ((h.ss.take k).map short11) ++ [.string (x.extract 0 q)]) := Hd (by rw [List.take_add_one, hx, hq]; simp [strs, short11]);have hlen : (strs ((h.ss.take k).map short11)).length = k := by rw [strs, List.length_map, List.length_map, List.length_take, HN0.out]; omega
    clear hcell hx hq;go_upto_region 5 with (fail)
    clear yH lH;have RD0 := Hd fun wq (hSw : Only V.ownBlock.toList wr wq) => aI ((hSw.blk hBO.out (own_apart hV.out hBO.out (by decide))).lt) (aI ((hSw.blk hBH.out (own_apart hV.out hBH.out (by decide))).lt) (aI ((hSw.blk hBO.out (own_apart hV.out hBO.out (by decide))).at_ 0) (aI ((hSw.blk hBH.out (own_apart hV.out hBH.out (by decide))).at_ 0) ((hSw.cell (p := ⟨b, off + k, none⟩) hbr (own_off hV.out hbz)).trans HCK.out))));refine rg1 [18] V.ownBlock.toList wr ?_;refine tQ 0 (h := trq 1 0 RD0 (h := tQ 2 (h := trq 3 0 RD0 (h := tQ 4 (h := tQ 5 (h := trq 6 0 RD0 (h := tQ 7 (h := trq 8 0 RD0 (h := tQ 9 (h := tQ 10 (h := trq 11 0 RD0 (h := tQ 12 (h := tQ 13 (h := tQ 14 (h := ?_)))))))))))))));refine tst (i := 15) fun K hK => ?_;go_simp;have OA : Only [] wr ((wr.alloc (.cells #[.string (x.extract 0 q)] 9)).drew) := ((Only.refl [] wr).alloc _).drew;refine kOut hK (((Only.refl _ wr).alloc _).drew) (h := ?_);clear hK K;refine tst (i := 16) fun K hK => ?_;refine step_append_row _ rfl (.tmp 21) (.tmp 35) 22 rfl wz.heap.size 9 is _ 1 16 Tryz.underlying22 his hs0 hs1 hs2 rfl (by omega) V k (strs ((h.ss.take k).map short11)) (by rfl) (own_only hV.out OA (by simp)) (wr.heap.size + 1) (some ⟨wr.heap.size, 0, none⟩) 1 1 [.string (x.extract 0 q)] (by rfl) (by rfl) (by exact row_lit wr 9 #[.string (x.extract 0 q)]) (by intro u hu; simp at hu; subst hu; rfl) (by unfold maxLen; omega) (by omega) (by have := OA.size; omega) ?_;intro v3 w4 hown3 hgrow hat;obtain ⟨A3, c3, e3, -, -, -, -⟩ := own_row hown3;subst e3;have O4 : Only V.ownBlock.toList wr w4 := ((Only.refl V.ownBlock.toList wr).alloc (.cells #[.string (x.extract 0 q)] 9)).drew.step (only_grown hgrow) (fun j hj hl => hj);have bG := O4.blk hBO.out (own_apart hV.out hBO.out (by decide));have lG := bG.lt;have cG := bG.at_ 0;have fG := bG.free 0;simp at cG;clear hgrow hat OA;refine kOut hK (O4) (h := ?_);clear hK K;refine tQ 17 (h := ?_);refine tst (i := 18) fun K hK => ?_;go_simp;refine hK.out _ _ (timed_over (by kernel_rfl) (timed_nil)) ?_;clear hK K;(try simp only [tdz]);refine tdn ?_;have HB5 := Hd (bG.put 0 (.slice A3 (k + 1) c3));have O5 : Only [g2] w4 (w4.setCell ⟨g2, 0, none⟩ (.slice A3 (k + 1) c3)) := (Only.refl [g2] w4).put (fun _ => by simp) (.slice A3 (k + 1) c3);have HV5 := Hd (own_only hown3 O5 (fun g hg hm => by simp at hm; subst hm; exact own_apart hown3 bG (by decide) (by rw [hg]; simp)));have HO5 := Hd ((hO.out.step O4 (fun i hi hl => by have := own_new hV.out (S := [g2]) i hi hl; exact this)).trans O5);clear bG O5 hown3 O4 cG lG fG;go_wp2
    go_roundw
    case rel => exact ⟨k + 1, .slice A3 (k + 1) c3, by go_num, by omega, by omega, by simpa using HB5, Hd (by rw [HTK.out]; exact HV5.out), HO5⟩
    case measure => simp [intOf]; omega
   ·have hguard : (decide ((k : Int) < (n0 : Int)) = false ∧ decide (k < n0) = false) ∨ ((k : Int) < (n0 : Int) ∧ decide ((k : Int) < 25) = false ∧ decide (k < 25) = false) := by
     by_cases h : k < n0
     ·right
      exact ⟨by omega, decide_eq_false (by omega), decide_eq_false (by omega)⟩
     ·left
      exact ⟨decide_eq_false (by omega), decide_eq_false (by omega)⟩
    have hall : (h.ss.take k).map short11 = (h.ss.take 25).map short11 := by
     congr 1
     rcases Nat.lt_or_ge k n0 with h | h
     ·have : k = 25 := by omega
      rw [this]
     ·rw [List.take_of_length_le (by rw [HN0.out]; omega), List.take_of_length_le (by rw [HN0.out]; omega)]
    have hV2 := hV.out;rw [hall] at hV2;have hkl : k = ((h.ss.take 25).map short11).length := by rw [← hall, List.length_map, List.length_take, HN0.out]; omega
    rw [hkl] at hV2;obtain ⟨A', c', rfl, -, -, -, -⟩ := own_row hV2;have HR2 := Hd hV2;clear hlt hV2 hV hall hkl;rcases hguard with ⟨h1, h2⟩ | ⟨h1, h2, h3⟩
    all_goals
     go_wp2_with fail
     go_meet
     exact ⟨A', c', hBO, HR2, hO⟩
 case rest =>
  obtain ⟨wa, hwa⟩ : ∃ wa, wa = wc := ⟨_, rfl⟩;subst hwa;obtain ⟨A0', c0', HBO1, HR0, HOa⟩ := hcut;have hsa := HOa.out.size;have HO1 := Hd (HO0.out.step HOa.out (fun i hi hl => by simp at hi; omega));have HBH1 := Hd (HOa.out.blk HBH0.out (by simp; omega));have HBR1 := Hd (HOa.out.blk HBR0.out (by simp; omega));clear HBO0 HBH0 HBR0 HO0 HOa
  go_upto_block 2 with fail
  go_cut [5] (fun s wx => ∃ A' c', Hid (Blk wx g2 25 #[(.slice A0' ((h.ss.take 25).map short11).length c0'), (.slice A' (((h.ks.take 45).map short11)).length c'), .slice none 0 0]) ∧ Hid (wx.ownsRow wa.heap.size 9 1 (.slice A' (((h.ks.take 45).map short11)).length c') (((h.ks.take 45).map short11)).length (strs ((h.ks.take 45).map short11))) ∧ Hid (Only [g2] wa wx))
  case first =>
   go_wp2_with fail
   go_loopw [5] (fun iv wr => ∃ (k : Nat) (V : Value), iv = .int .i64 k ∧ k ≤ n1 ∧ k ≤ 45 ∧ Hid (Blk wr g2 25 #[(.slice A0' ((h.ss.take 25).map short11).length c0'), V, .slice none 0 0]) ∧ Hid (wr.ownsRow wa.heap.size 9 1 V k (strs ((h.ks.take k).map short11))) ∧ Hid (Only [g2] wa wr)) (fun iv _ => n1 - (intOf iv).toNat)
   case atStart => exact ⟨0, .slice none 0 0, rfl, by omega, by omega, HBO1, Hd ⟨rfl, .inl ⟨rfl, rfl⟩⟩, Hd (Only.refl _ _)⟩
   case round =>
    obtain ⟨k, V, rfl, hk, hk2, hBO, hV, hO⟩ := hrel;have hsz := hO.out.size;have hBH : Hid (Blk wr g0 25 #[.slice A0 n0 c0, .slice A1 n1 c1, .slice A2 n2 c2]) := Hd (hO.out.blk HBH1.out (by simp; omega));have lH := hBH.out.lt;have yH := hBH.out.at_ 1;simp at yH
    by_cases hlt : k < n1 ∧ k < 45
    ·obtain ⟨hlt1, hlt2⟩ := hlt;have h01 : (k : Int) < (n1 : Int) := by omega
     have h02 : (k : Int) < 45 := by omega
     have hk0 : (0 : Int) ≤ (k : Int) := Int.natCast_nonneg _;have hwk : IntKind.i64.wrap ((k : Int) + 1) = (k : Int) + 1 := IntWalk.i64_in _ (by omega);obtain ⟨x, hx⟩ : ∃ x, h.ks[k]? = some x := ⟨_, List.getElem?_eq_getElem (by rw [HN1.out]; exact hlt1)⟩;obtain ⟨b, off, rfl, -, hbw, hcell⟩ := HG.out.r1.open_ (k := k) (by rw [strs, List.length_map, HN1.out]; exact hlt1);have hls := HZ1.out x (List.mem_of_getElem? hx);have hbz : b < wa.heap.size := by have := HO1.out.size; omega
     have HCK : Hid (wr.cell? ⟨b, off + k, none⟩ = some (.string x)) := Hd (((HO1.out.step hO.out (fun i hi hl => by simp at hi; omega)).cell (p := ⟨b, off + k, none⟩) hbw (by simp)).trans (hcell k _ (by rw [strs, List.getElem?_map, hx]; rfl)));have hbr : b < wr.heap.size := by omega
     obtain ⟨q, hq⟩ : ∃ q, q = min x.size 100 := ⟨_, rfl⟩;have hmin : min (x.size : Int) 100 = (q : Int) := by omega
     have hq1 : (0 : Int) ≤ (q : Int) := Int.natCast_nonneg _;have hq2 : (q : Int) ≤ (x.size : Int) := by omega
     have HTK : Hid (strs ((h.ks.take (k + 1)).map short11) = strs ((h.ks.take k).map short11) ++ [.string (x.extract 0 q)]) := Hd (by rw [List.take_add_one, hx, hq]; simp [strs, short11]);have hlen : (strs ((h.ks.take k).map short11)).length = k := by rw [strs, List.length_map, List.length_map, List.length_take, HN1.out]; omega
     clear hcell hx hq;go_upto_region 9 with (fail)
     clear yH lH;have RD0 := Hd fun wq (hSw : Only V.ownBlock.toList wr wq) => aI ((hSw.blk hBO.out (own_apart hV.out hBO.out (by decide))).lt) (aI ((hSw.blk hBH.out (own_apart hV.out hBH.out (by decide))).lt) (aI ((hSw.blk hBO.out (own_apart hV.out hBO.out (by decide))).at_ 1) (aI ((hSw.blk hBH.out (own_apart hV.out hBH.out (by decide))).at_ 1) ((hSw.cell (p := ⟨b, off + k, none⟩) hbr (own_off hV.out hbz)).trans HCK.out))));refine rg1 [18] V.ownBlock.toList wr ?_;refine tQ 0 (h := trq 1 0 RD0 (h := tQ 2 (h := trq 3 0 RD0 (h := tQ 4 (h := tQ 5 (h := trq 6 0 RD0 (h := tQ 7 (h := trq 8 0 RD0 (h := tQ 9 (h := tQ 10 (h := trq 11 0 RD0 (h := tQ 12 (h := tQ 13 (h := tQ 14 (h := ?_)))))))))))))));refine tst (i := 15) fun K hK => ?_;go_simp;have OA : Only [] wr ((wr.alloc (.cells #[.string (x.extract 0 q)] 9)).drew) := ((Only.refl [] wr).alloc _).drew;refine kOut hK (((Only.refl _ wr).alloc _).drew) (h := ?_);clear hK K;refine tst (i := 16) fun K hK => ?_;refine step_append_row _ rfl (.tmp 50) (.tmp 64) 22 rfl wa.heap.size 9 is _ 1 16 Tryz.underlying22 his hs0 hs1 hs2 rfl (by omega) V k (strs ((h.ks.take k).map short11)) (by rfl) (own_only hV.out OA (by simp)) (wr.heap.size + 1) (some ⟨wr.heap.size, 0, none⟩) 1 1 [.string (x.extract 0 q)] (by rfl) (by rfl) (by exact row_lit wr 9 #[.string (x.extract 0 q)]) (by intro u hu; simp at hu; subst hu; rfl) (by unfold maxLen; omega) (by omega) (by have := OA.size; omega) ?_;intro v3 w4 hown3 hgrow hat;obtain ⟨A3, c3, e3, -, -, -, -⟩ := own_row hown3;subst e3;have O4 : Only V.ownBlock.toList wr w4 := ((Only.refl V.ownBlock.toList wr).alloc (.cells #[.string (x.extract 0 q)] 9)).drew.step (only_grown hgrow) (fun j hj hl => hj);have bG := O4.blk hBO.out (own_apart hV.out hBO.out (by decide));have lG := bG.lt;have cG := bG.at_ 1;have fG := bG.free 1;simp at cG;clear hgrow hat OA;refine kOut hK (O4) (h := ?_);clear hK K;refine tQ 17 (h := ?_);refine tst (i := 18) fun K hK => ?_;go_simp;refine hK.out _ _ (timed_over (by kernel_rfl) (timed_nil)) ?_;clear hK K;(try simp only [tdz]);refine tdn ?_;have HB5 := Hd (bG.put 1 (.slice A3 (k + 1) c3));have O5 : Only [g2] w4 (w4.setCell ⟨g2, 1, none⟩ (.slice A3 (k + 1) c3)) := (Only.refl [g2] w4).put (fun _ => by simp) (.slice A3 (k + 1) c3);have HV5 := Hd (own_only hown3 O5 (fun g hg hm => by simp at hm; subst hm; exact own_apart hown3 bG (by decide) (by rw [hg]; simp)));have HO5 := Hd ((hO.out.step O4 (fun i hi hl => by have := own_new hV.out (S := [g2]) i hi hl; exact this)).trans O5);clear bG O5 hown3 O4 cG lG fG;go_wp2
     go_roundw
     case rel => exact ⟨k + 1, .slice A3 (k + 1) c3, by go_num, by omega, by omega, by simpa using HB5, Hd (by rw [HTK.out]; exact HV5.out), HO5⟩
     case measure => simp [intOf]; omega
    ·have hguard : (decide ((k : Int) < (n1 : Int)) = false ∧ decide (k < n1) = false) ∨ ((k : Int) < (n1 : Int) ∧ decide ((k : Int) < 45) = false ∧ decide (k < 45) = false) := by
      by_cases h : k < n1
      ·right
       exact ⟨by omega, decide_eq_false (by omega), decide_eq_false (by omega)⟩
      ·left
       exact ⟨decide_eq_false (by omega), decide_eq_false (by omega)⟩
     have hall : (h.ks.take k).map short11 = (h.ks.take 45).map short11 := by
      congr 1
      rcases Nat.lt_or_ge k n1 with h | h
      ·have : k = 45 := by omega
       rw [this]
      ·rw [List.take_of_length_le (by rw [HN1.out]; omega), List.take_of_length_le (by rw [HN1.out]; omega)]
     have hV2 := hV.out;rw [hall] at hV2;have hkl : k = ((h.ks.take 45).map short11).length := by rw [← hall, List.length_map, List.length_take, HN1.out]; omega
     rw [hkl] at hV2;obtain ⟨A', c', rfl, -, -, -, -⟩ := own_row hV2;have HR2 := Hd hV2;clear hlt hV2 hV hall hkl;rcases hguard with ⟨h1, h2⟩ | ⟨h1, h2, h3⟩
     all_goals
      go_wp2_with fail
      go_meet
      exact ⟨A', c', hBO, HR2, hO⟩
  case rest =>
   obtain ⟨wb, hwb⟩ : ∃ wb, wb = wc := ⟨_, rfl⟩;subst hwb;obtain ⟨A1', c1', HBO2, HR1, HOb⟩ := hcut;have hsb := HOb.out.size;have HO2 := Hd (HO1.out.step HOb.out (fun i hi hl => by simp at hi; omega));have HBH2 := Hd (HOb.out.blk HBH1.out (by simp; omega));have HBR2 := Hd (HOb.out.blk HBR1.out (by simp; omega));have HR0b := Hd (own_only HR0.out HOb.out (fun g hg hm => by simp at hm; subst hm; exact own_apart HR0.out HBO1.out (by decide) (by rw [hg]; simp)));have HLb := Hd (fun (k : Nat) (t : Tx) (hk : h.l[k]? = some t) => HG.out.r2.at_ hk);obtain ⟨io, hio, ho0, ho1, ho2⟩ := info_parts info_op;obtain ⟨ix, hix, hx0, hx1, hx2⟩ := info_parts info_txn;clear HBO1 HBH1 HBR1 HO1 HOb HR0;generalize hm0 : ((h.ss.take 25).map short11).length = m0 at *;generalize hm1 : ((h.ks.take 45).map short11).length = m1 at *
   go_upto_block 4 with fail
   go_cut [6] (fun s wx => ∃ A' c' xs, Hid (Blk wx g2 25 #[.slice A0' m0 c0', .slice A1' m1 c1', .slice A' ((h.l.take 45).map fewTx).length c']) ∧ Hid (wx.ownsRow wb.heap.size 47 3 (.slice A' ((h.l.take 45).map fewTx).length c') ((h.l.take 45).map fewTx).length (txC xs)) ∧ Hid (xs.map TxA.t = (h.l.take 45).map fewTx) ∧
     Hid (∀ x ∈ xs, wx.ownsRow wb.heap.size 70 4 (.slice x.A x.t.ops.length x.cp) x.t.ops.length (opC x.t.ops)) ∧ Hid (Only [g2] wb wx))
   case first =>
    go_wp2_with fail
    go_loopw [6] (fun iv wr => ∃ (k : Nat) (V : Value) (xs : List TxA), iv = .int .i64 k ∧ k ≤ n2 ∧ k ≤ 45 ∧ Hid (Blk wr g2 25 #[.slice A0' m0 c0', .slice A1' m1 c1', V]) ∧ Hid (wr.ownsRow wb.heap.size 47 3 V k (txC xs)) ∧ Hid (xs.map TxA.t = (h.l.take k).map fewTx) ∧
     Hid (∀ x ∈ xs, wr.ownsRow wb.heap.size 70 4 (.slice x.A x.t.ops.length x.cp) x.t.ops.length (opC x.t.ops)) ∧ Hid (Only [g2] wb wr)) (fun iv _ => n2 - (intOf iv).toNat)
    case atStart => exact ⟨0, .slice none 0 0, [], rfl, by omega, by omega, HBO2, Hd ⟨rfl, .inl ⟨rfl, rfl⟩⟩, Hd rfl, Hd (fun x hx => by cases hx), Hd (Only.refl _ _)⟩
    case round =>
     obtain ⟨k, V, xs, rfl, hk, hk2, hBO, hV, hXS, hOP, hO⟩ := hrel;have hsz := hO.out.size;have hBH : Hid (Blk wr g0 25 #[.slice A0 n0 c0, .slice A1 n1 c1, .slice A2 n2 c2]) := Hd (hO.out.blk HBH2.out (by simp; omega));have lH := hBH.out.lt;have yH := hBH.out.at_ 2;simp at yH
     by_cases hlt : k < n2 ∧ k < 45
     ·obtain ⟨hlt1, hlt2⟩ := hlt;have h01 : (k : Int) < (n2 : Int) := by omega
      have h02 : (k : Int) < 45 := by omega
      have hk0 : (0 : Int) ≤ (k : Int) := Int.natCast_nonneg _;have hwk : IntKind.i64.wrap ((k : Int) + 1) = (k : Int) + 1 := IntWalk.i64_in _ (by omega);obtain ⟨x, hx⟩ : ∃ x, h.l[k]? = some x := ⟨_, List.getElem?_eq_getElem (by rw [HN2.out]; exact hlt1)⟩;obtain ⟨b, off, A', cp, rfl, -, hbw, hT, hOk⟩ := HLb.out k x hx;have OWR : Only [] w wr := HO2.out.step hO.out (fun i hi hl => by simp at hi; omega);obtain ⟨a0, a1, a2⟩ := hT.only OWR hbw (by simp);have hbr : b < wr.heap.size := by have := OWR.size; omega
      have HROW := Hd (hOk.row.only OWR (fun _ h => by cases h));have hle := hOk.le;have hcap := hOk.cap;unfold maxLen at hcap;have HTK : Hid ((h.l.take (k + 1)).map fewTx = (h.l.take k).map fewTx ++ [fewTx x]) := Hd (by rw [List.take_add_one, hx]; simp);obtain ⟨s, f, ops⟩ := x;dsimp only at a0 a1 a2 hle HROW;generalize hm : ops.length = m at *;have HMM := Hd hm;obtain ⟨q, hq⟩ : ∃ q, q = min m 25 := ⟨_, rfl⟩;have hmin : min (m : Int) 25 = (q : Int) := by omega
      have hq1 : (0 : Int) ≤ (q : Int) := Int.natCast_nonneg _;have hq2 : (q : Int) ≤ (m : Int) := by omega
      have hq3 : (q : Int) ≤ (cp : Int) := by omega
      have HTQ := Hd hq;clear hT hOk hx hm hq OWR;go_upto_region 14 with (fail)
      have O2 : Only [] wr (wr.alloc (.cells #[.int .i64 s, .int .i64 f, .slice A' m cp] 47)) := (Only.refl [] wr).alloc _;have bT := Blk.made wr 47 #[.int .i64 s, .int .i64 f, .slice A' m cp];have hszt : wr.heap.size < (wr.alloc (.cells #[.int .i64 s, .int .i64 f, .slice A' m cp] 47)).heap.size := by simp
      clear a0 a1 a2;generalize (wr.alloc (.cells #[.int .i64 s, .int .i64 f, .slice A' m cp] 47)) = w2 at *;generalize hgt : wr.heap.size = gt at *;have lT := bT.lt;have t2 := bT.at_ 2;have f2 := bT.free 2;simp at t2;have hsl : ∀ W, (Instr.slice 45 (.slice A' m cp) none (some (.int .i64 (q : Int))) none).run Tryz.prog W = .ok (.slice A' q cp) W := fun W => oslice_to A' m cp q (by omega) W;have HLT : Hid ((w2.alloc (.cells #[] 70)).ownsRow w2.heap.size 70 4 (.slice (some ⟨w2.heap.size, 0, none⟩) 0 0) 0 []) := Hd (World.ownsRow_lit w2 #[] 0 (Nat.le_refl _) (by unfold maxLen; omega) rfl);have HRQ : Hid (Row (w2.alloc (.cells #[] 70)) B A' (opC (ops.take q))) := Hd (by
       rw [opC_take];exact ((HROW.out.only (O2.alloc _) (fun _ h => by cases h)).take _))
      have hlq : (ops.take q).length = q := by rw [List.length_take, HMM.out]; omega
      have hlq4 : (opC (ops.take q)).length = q * 4 := by rw [opC_len, hlq]
      have HBT := Hd bT;clear bT;go_upto_region 15 with (
       at_builtin
       refine wpList_append_row _ rfl (.tmp 83) (.tmp 90) _ rfl w2.heap.size 70 io _ 4 32 Tryz.underlying45 hio ho0 ho1 ho2 rfl (by omega) _ 0 [] rfl HLT.out _ A' q cp (opC (ops.take q)) (by rfl) hlq4 HRQ.out (one_opC _) (by unfold maxLen; omega) (by omega) (by simp) ?_;intro v4 w4 hown4 hgrow4 hat4;have O4 : Only [] w2 w4 := ((Only.refl [] w2).alloc (.cells #[] 70)).step (only_grown hgrow4) (own_new HLT.out);have hown4' : w4.ownsRow w2.heap.size 70 4 v4 q (opC (ops.take q)) := by simpa using hown4
       obtain ⟨A4, c4, e4, -, -, -, -⟩ := own_row hown4';subst e4;have bT4 := O4.blk HBT.out (by simp);have lT4 := bT4.lt;have fT4 := bT4.free 2;have tT4 := bT4.at_ 2;simp at tT4;have HOW4 := Hd hown4';have HBT4 := Hd bT4;have HO4 := Hd O4;clear hown4 hgrow4 hat4 O4 hown4' bT4)
      have OW : Only [] wr w4 := O2.trans HO4.out;have O5 : Only [gt] w4 (w4.setCell ⟨gt, 2, none⟩ (.slice A4 q c4)) := (Only.refl [gt] w4).put (fun _ => by simp) _;have bT5 := HBT4.out.put 2 (.slice A4 q c4);have bG5 := O5.blk (OW.blk hBO.out (by simp)) (by simp; omega);have bH5 := O5.blk (OW.blk hBH.out (by simp)) (by simp; omega);have hV5 := own_only (own_only hV.out OW (fun _ _ h => by cases h)) O5 (fun g hg hm => by
       simp at hm;have := own_lt hV.out (g := g) (by rw [hg]; simp);omega)
      have HOP5 : Hid (∀ x ∈ xs, (w4.setCell ⟨gt, 2, none⟩ (.slice A4 q c4)).ownsRow wb.heap.size 70 4 (.slice x.A x.t.ops.length x.cp) x.t.ops.length (opC x.t.ops)) := Hd (fun x hx => own_only (own_only (hOP.out x hx) OW (fun _ _ h => by cases h)) O5 (fun g hg hm => by
       simp at hm;have := own_lt (hOP.out x hx) (g := g) (by rw [hg]; simp);omega))
      have HNW5 := Hd (own_only HOW4.out O5 (fun g hg hm => by simp at hm; subst hm; exact own_apart HOW4.out HBT4.out (by decide) (by rw [hg]; simp)));have HO5 := Hd ((hO.out.trans (OW.wide (fun i hi hl => by cases hi))).step O5 (fun i hi hl => by simp at hi; omega));have hs5 := HO5.out.size;have hw2 : wb.heap.size ≤ w2.heap.size := by omega
      clear OW O5 hV hOP hO hBO hBH HBT4 HOW4 HO4 HBT HRQ HLT tT4 fT4 lT4 yH lH O2 hsl t2 f2 lT;generalize (w4.setCell ⟨gt, 2, none⟩ (.slice A4 q c4)) = w5 at *;have lT := bT5.lt;have t0 := bT5.at_ 0;have t1 := bT5.at_ 1;have t2 := bT5.at_ 2;have lG := bG5.lt;have d2 := bG5.at_ 2;simp at t0 t1 t2 d2;have HV5 := Hd hV5;have HBG5 := Hd bG5;have hxl : xs.length = k := by
       have := congrArg List.length hXS.out;rw [List.length_map, List.length_map, List.length_take, HN2.out] at this;omega
      clear bT5 hV5 bG5 bH5;go_wp2_with (
       at_builtin
       refine wpList_append_row _ rfl (.tmp 94) (.tmp 96) _ rfl wb.heap.size 47 ix _ 3 40 Tryz.underlying23 hix hx0 hx1 hx2 rfl (by omega) V k (txC xs) (by rfl) (own_only HV5.out ((Only.refl [] w5).alloc _) (by simp)) (w5.heap.size + 1) (some ⟨w5.heap.size, 0, none⟩) 1 1 [.int .i64 s, .int .i64 f, .slice A4 q c4] (by rfl) (by rfl) (row_lit w5 47 #[.int .i64 s, .int .i64 f, .slice A4 q c4]) (by intro u hu; simp at hu; rcases hu with rfl | rfl | rfl <;> rfl) (by unfold maxLen; omega) (by omega) (by simp; omega) ?_;intro v6 w6 hown6 hgrow6 hat6;have O6 : Only V.ownBlock.toList w5 w6 := ((Only.refl V.ownBlock.toList w5).alloc (.cells #[.int .i64 s, .int .i64 f, .slice A4 q c4] 47)).step (only_grown hgrow6) (fun j hj hl => hj);obtain ⟨A6, c6, e6, -, -, -, -⟩ := own_row hown6;subst e6;have bG6 := O6.blk HBG5.out (own_apart HV5.out HBG5.out (by decide));have lG6 := bG6.lt;have fG6 := bG6.free 2;have dG6 := bG6.at_ 2;simp at dG6;have HOW6 := Hd hown6;have HBG6 := Hd bG6;have HO6 := Hd O6;clear hown6 hgrow6 hat6 O6 bG6)
      have O7 : Only [g2] w6 (w6.setCell ⟨g2, 2, none⟩ (.slice A6 (k + 1) c6)) := (Only.refl [g2] w6).put (fun _ => by simp) _;have HB7 := Hd (HBG6.out.put 2 (.slice A6 (k + 1) c6));have HV7 := Hd (own_only HOW6.out O7 (fun g hg hm => by simp at hm; subst hm; exact own_apart HOW6.out HBG6.out (by decide) (by rw [hg]; simp)));have up7 : ∀ {v : Value} {n : Nat} {c : List Value}, w5.ownsRow wb.heap.size 70 4 v n c → (w6.setCell ⟨g2, 2, none⟩ (.slice A6 (k + 1) c6)).ownsRow wb.heap.size 70 4 v n c := fun {v n c} hv => by
       have h6 := own_only hv HO6.out (own_two hv HV5.out (by decide));exact own_only h6 O7 (fun g hg hm => by simp at hm; subst hm; exact own_apart h6 HBG6.out (by decide) (by rw [hg]; simp))
      have HXS7 : Hid ((xs ++ [(⟨⟨s, f, ops.take q⟩, A4, c4⟩ : TxA)]).map TxA.t = (h.l.take (k + 1)).map fewTx) := Hd (by
       rw [List.map_append, hXS.out, HTK.out]
       congr 1
       unfold fewTx;dsimp only [List.map_cons, List.map_nil]
       congr 2
       rw [HTQ.out];rcases Nat.le_total m 25 with h | h
       ·rw [Nat.min_eq_left h, List.take_of_length_le (by rw [HMM.out]; exact Nat.le_refl _), List.take_of_length_le (by rw [HMM.out]; exact h)]
        rfl
       ·rw [Nat.min_eq_right h]
        rfl)
      have HOP7 : Hid (∀ x ∈ xs ++ [(⟨⟨s, f, ops.take q⟩, A4, c4⟩ : TxA)], (w6.setCell ⟨g2, 2, none⟩ (.slice A6 (k + 1) c6)).ownsRow wb.heap.size 70 4 (.slice x.A x.t.ops.length x.cp) x.t.ops.length (opC x.t.ops)) := Hd (fun x hx => by
       rcases List.mem_append.1 hx with hx | hx
       ·exact up7 (HOP5.out x hx)
       ·simp at hx;subst hx;dsimp only;rw [hlq];exact up7 (own_lower HNW5.out hw2))
      have HVV7 : Hid ((w6.setCell ⟨g2, 2, none⟩ (.slice A6 (k + 1) c6)).ownsRow wb.heap.size 47 3 (.slice A6 (k + 1) c6) (k + 1) (txC (xs ++ [(⟨⟨s, f, ops.take q⟩, A4, c4⟩ : TxA)]))) := Hd (by
       have := HV7.out;rw [txC_append]
       simpa [txC, TxA.c, hlq] using this)
      have HO7 := Hd ((HO5.out.step HO6.out (own_new HV5.out)).trans O7);clear O7 up7;go_wp2
      go_roundw
      case rel => exact ⟨k + 1, .slice A6 (k + 1) c6, _, by go_num, by omega, by omega, by simpa using HB7, HVV7, HXS7, HOP7, HO7⟩
      case measure => simp [intOf]; omega
     ·have hguard : (decide ((k : Int) < (n2 : Int)) = false ∧ decide (k < n2) = false) ∨ ((k : Int) < (n2 : Int) ∧ decide ((k : Int) < 45) = false ∧ decide (k < 45) = false) := by
       by_cases h : k < n2
       ·right
        exact ⟨by omega, decide_eq_false (by omega), decide_eq_false (by omega)⟩
       ·left
        exact ⟨decide_eq_false (by omega), decide_eq_false (by omega)⟩
      have hall : (h.l.take k).map fewTx = (h.l.take 45).map fewTx := by
       congr 1
       rcases Nat.lt_or_ge k n2 with h | h
       ·have : k = 45 := by omega
        rw [this]
       ·rw [List.take_of_length_le (by rw [HN2.out]; omega), List.take_of_length_le (by rw [HN2.out]; omega)]
      have hV2 := hV.out;have hX2 := hXS.out;rw [hall] at hX2;have hkl : k = ((h.l.take 45).map fewTx).length := by rw [← hall, List.length_map, List.length_take, HN2.out]; omega
      rw [hkl] at hV2;obtain ⟨A', c', rfl, -, -, -, -⟩ := own_row hV2;have HR2 := Hd hV2;have HX2 := Hd hX2;clear hlt hV2 hV hall hkl hX2 hXS;rcases hguard with ⟨h1, h2⟩ | ⟨h1, h2, h3⟩
      all_goals
       go_wp2_with fail
       go_meet
       exact ⟨A', c', xs, hBO, HR2, HX2, hOP, hO⟩
   case rest =>
    obtain ⟨wd, hwd⟩ : ∃ wd, wd = wc := ⟨_, rfl⟩;subst hwd;obtain ⟨A2', c2', xs, HBO3, HR2, HXS, HOPS, HOd⟩ := hcut;generalize hm2 : ((h.l.take 45).map fewTx).length = m2 at *;have hbR := HOd.out.blk HBR2.out (by simp; omega);have HR0d := Hd (own_only HR0b.out HOd.out (fun g hg hm => by simp at hm; subst hm; exact own_apart HR0b.out HBO2.out (by decide) (by rw [hg]; simp)));have HR1d := Hd (own_only HR1.out HOd.out (fun g hg hm => by simp at hm; subst hm; exact own_apart HR1.out HBO2.out (by decide) (by rw [hg]; simp)));have HOW := Hd (HO2.out.step HOd.out (fun i hi hl => by simp at hi; omega));have lO := HBO3.out.lt;have d0 := HBO3.out.at_ 0;have d1 := HBO3.out.at_ 1;have d2 := HBO3.out.at_ 2;simp at d0 d1 d2;have lR := hbR.lt;have f0 := hbR.free 0;have f1 := hbR.free 1;have f2 := hbR.free 2;have HBR := Hd hbR;clear hbR HR0b HR1 HBR2 HBH2 HBO2 HO2 HOd;go_upto_region 16 with (fail)
    refine wp_region_lit ?_;refine wpList_load_mid rfl 25 (.tmp 3) rfl g2 0 rfl (#[.slice A0' m0 c0', .slice A1' m1 c1', .slice A2' m2 c2'] : Array Value).toList _ HBO3.out.range Tryz.underlying25 rfl (by kernel_rfl) ?_;refine wpList_store_mid rfl 25 (.tmp 2) (.tmp 99) rfl g1 0 #[.slice A0' m0 c0', .slice A1' m1 c1', .slice A2' m2 c2'] rfl rfl HBR.out.there (by kernel_rfl) (by kernel_rfl) ?_;go_wp2
    refine bodyPost_ret (results_row1 Tryz.results6 _ _ g1 25 #[.slice A0' m0 c0', .slice A1' m1 c1', .slice A2' m2 c2'] _ rfl (HBR.out.putAll _ rfl) Tryz.underlying25 rfl (by kernel_rfl)) rfl ?_;have OS : Only [g1] wd (wd.setCells g1 0 (#[.slice A0' m0 c0', .slice A1' m1 c1', .slice A2' m2 c2'] : Array Value).toList) := (Only.refl [g1] wd).putAll (fun _ => by simp) _;have upS : ∀ {base : Nat} {e : TypeId} {size n : Nat} {v : Value} {c : List Value}, wd.ownsRow base e size v n c → e ≠ 25 → (wd.setCells g1 0 (#[.slice A0' m0 c0', .slice A1' m1 c1', .slice A2' m2 c2'] : Array Value).toList).ownsRow base e size v n c := fun {base e size n v c} hv hne =>
     own_only hv OS (fun g hg hm => by simp at hm; subst hm; exact own_apart hv HBR.out hne (by rw [hg]; simp))
    have hF0 : (fewH h).ss.length = m0 := hm0;have hF1 : (fewH h).ks.length = m1 := hm1;have hF2 : (fewH h).l.length = m2 := hm2;refine ⟨A0', A1', A2', c0', c1', c2', ⟨by rw [hF0, hF1, hF2], ⟨(own_row_at (upS HR0d.out (by decide))).1, (own_row_at (upS HR1d.out (by decide))).1, xs, HXS.out, (own_row_at (upS HR2.out (by decide))).1, fun x hx => ?_⟩⟩, HOW.out.step OS (fun i hi hl => by simp at hi; omega)⟩;have hx1 := own_row_at (upS (HOPS.out x hx) (by decide));exact ⟨hx1.1, hx1.2.1, hx1.2.2⟩
end Go.Proofs.YthdofaoamljkfaaGreatDoor
