/- Parts. -/
import Derived.Test.YtojlaphklkomfaaDoorPairMakesCardK33
import Derived.Test.YtojlaphklkomfaaDoorPairMakesCardK35
import Derived.Lib.QuietBelow
set_option maxRecDepth 10000
set_option maxHeartbeats 16000000
set_option linter.unusedVariables false
set_option linter.unusedSimpArgs false
namespace Go.Proofs.YtojlaphklkomfaaDoor
open Go.RowKit
open Go.Lib hiding intOf
attribute [local go_sem ↓] Go.wp_at_zero Go.wp_at_succ
theorem own_base {w : World} {base base' : Nat} {e : TypeId} {size : Nat} {v : Value} {n : Nat} {xs : List Value} (h : w.ownsRow base e size v n xs) (hb : base' ≤ base) : w.ownsRow base' e size v n xs := by
 obtain ⟨hl, hv⟩ := h;refine ⟨hl, ?_⟩;rcases hv with h | ⟨g, cap, cur, h1, h2, h3⟩
 ·exact .inl h
 ·exact .inr ⟨g, cap, cur, h1, by omega, h3⟩
theorem ahead_at {out : List ByteArray} {l : ByteArray} {k : Nat} (h1 : ∀ j, j < k → ∀ y, out[j]? = some y → lessB y l = true) (h2 : k ≤ out.length) (h3 : ∀ y, out[k]? = some y → lessB y l = false) : k = aheadOf out l := by
 have hl := ahead_le out l;obtain ⟨e1, e2⟩ := ahead_split out l;rcases Nat.lt_trichotomy k (aheadOf out l) with h | h | h
 ·exfalso
  have hlt : k < out.length := by omega
  have hm : out[k] ∈ out.take (aheadOf out l) := List.mem_iff_getElem.2 ⟨k, by rw [List.length_take]; omega, by rw [List.getElem_take]⟩;rw [e1] at hm;have := take_all (p := fun y => lessB y l) out _ hm;rw [h3 _ (List.getElem?_eq_getElem hlt)] at this
  cases this
 ·exact h
 ·exfalso
  have hlt : aheadOf out l < out.length := by omega
  cases hd : out.drop (aheadOf out l) with
  | nil =>
   have := congrArg List.length hd;rw [List.length_drop, List.length_nil] at this;omega
  | cons z t =>
   have hz : lessB z l = false := drop_head (p := fun y => lessB y l) (by rw [← e2]; exact hd);have hzz : out[aheadOf out l]? = some z := by
    have : (out.drop (aheadOf out l))[0]? = some z := by rw [hd]; rfl
    rwa [List.getElem?_drop, Nat.add_zero] at this
   have := h1 _ h z hzz;rw [hz] at this
   cases this
theorem rless_below (y l : ByteArray) (w : World) (h1 : y.size ≤ 65537) (h2 : l.size ≤ 65537) :
  Calls Tryd.prog 29 #[.string y, .string l] w fun e w' => e = .returned (.bool (lessB y l)) ∧ Below w.heap.size w w' :=
 (rless_any y l w h1 h2).mono fun e w' ⟨he, ho⟩ => ⟨he, ho.below (Nat.le_refl _) (by simp)⟩
set_option maxRecDepth 20000 in
theorem rsorted_any (A : Option Addr) (n c B : Nat) (zs : List ByteArray) (w : World) (hn : zs.length = n) (hN : n ≤ 1000) (hz : ∀ z ∈ zs, z.size ≤ 65537) (hA : Row w B A (strs zs)) :
  Calls Tryd.prog 18 #[.slice A n c] w fun e w' => Only [] w w' ∧ ∃ V, e = .returned V ∧ w'.ownsRow w.heap.size 9 1 V (sortB zs).length (strs (sortB zs)) := by
 obtain ⟨i0, hi, hz0, hz1, hz2⟩ := info_parts tinfo_string;have HIS := Hd (fun k z w' (hz' : zs[k]? = some z) => ris_any z w' (hz z (List.mem_of_getElem? hz')));have HLS := Hd (fun k z y w' (hz' : zs[k]? = some z) (hy : y ∈ zs) => rless_below y z w' (hz y hy) (hz z (List.mem_of_getElem? hz')));have HN := Hd hn;have HROW := Hd hA;have hmem := fun k => (fold_names (zs.take k) [] names_nil).2;have HMEM := Hd (fun k y (h : y ∈ (zs.take k).foldl insB []) => List.mem_of_mem_take ((((hmem k y).1 h).resolve_left (by simp)).1));clear hz hn hA hmem;go_enter Tryd.func18, Tryd.ntmps18;go_wp2_with fail
 go_loopw [3, 4] (fun V iv wr => ∃ (k m g cap : Nat) (out : List ByteArray), iv = .int .i64 k ∧ V = .slice (some ⟨g, 0, none⟩) m cap ∧ k ≤ n ∧ m ≤ k ∧ m ≤ cap ∧ Hid (out.length = m) ∧ Hid (out = (zs.take k).foldl insB []) ∧ Hid (wr.ownsRow w.heap.size 9 1 (.slice (some ⟨g, 0, none⟩) m cap) m (strs out)) ∧ Hid (Only [] w wr)) (fun _ iv _ => n - (intOf iv).toNat)
 case atStart => exact ⟨0, 0, w.heap.size, 0, [], rfl, rfl, by omega, by omega, by omega, Hd rfl, Hd rfl, Hd (World.ownsRow_lit w #[] 0 (Nat.le_refl _) (by unfold maxLen; omega) rfl), Hd ((Only.refl [] w).alloc _)⟩
 case round =>
  obtain ⟨k, m, g, cap, out, rfl, rfl, hk, hm, hmc, HM, HOUT, HOWN, HO⟩ := hrel;obtain ⟨wo, hwo⟩ : ∃ wo : World, wo = wr := ⟨_, rfl⟩;subst hwo
  by_cases hlt : k < n
  ·have h01 : (k : Int) < (n : Int) := by omega
   have hk0 : (0 : Int) ≤ (k : Int) := Int.natCast_nonneg _;have hwk : IntKind.i64.wrap ((k : Int) + 1) = (k : Int) + 1 := IntWalk.i64_in _ (by omega);obtain ⟨bz, oz, rfl, hbB, hbw, hcell⟩ := HROW.out.open_ (k := k) (by rw [strs, List.length_map, HN.out]; exact hlt);obtain ⟨l, hl⟩ : ∃ l, zs[k]? = some l := ⟨_, List.getElem?_eq_getElem (by rw [HN.out]; exact hlt)⟩;have hcl0 := hcell k _ (by rw [strs, List.getElem?_map, hl]; rfl);have hck : wo.cell? ⟨bz, oz + k, none⟩ = some (.string l) := (HO.out.cell (p := ⟨bz, oz + k, none⟩) hbw (by simp)).trans hcl0;have HCL0 := Hd hcl0;have HIS1 := Hd (HIS.out k l wo hl);have HLS1 := Hd (fun y w' (hy : y ∈ out) => HLS.out k l y w' hl (HMEM.out k y (by rw [← HOUT.out]; exact hy)));have HSTEP : Hid ((zs.take (k + 1)).foldl insB [] = insB out l) := Hd (by
    rw [List.take_add_one, hl, List.foldl_append, ← HOUT.out]
    rfl)
   have hwsz := HO.out.size;obtain ⟨v, hv⟩ : ∃ v, v = isName l := ⟨_, rfl⟩;rw [← hv] at HIS1;have HV := Hd hv;clear hcell hl hv hcl0
   cases v with
   | false =>
    have HST2 : Hid (out = (zs.take (k + 1)).foldl insB []) := Hd (by rw [HSTEP.out]; unfold insB; rw [if_neg (by rw [← HV.out]; simp)]);go_wp2_with fail
    refine (HIS1.out).mono ?_;rintro e w2 ⟨rfl, hO2⟩;have HOWN2 := Hd (own_only HOWN.out hO2 (by simp));have HO2 := Hd (HO.out.trans hO2);clear hO2;go_wp2
    go_roundw
    case rel => exact ⟨k + 1, m, g, cap, out, by go_num, rfl, by omega, by omega, by omega, HM, HST2, HOWN2, HO2⟩
    case measure => simp [intOf]; omega
   | true =>
    go_wp2_with fail
    refine (HIS1.out).mono ?_;rintro e w2 ⟨rfl, hO2⟩;have HOWN2 := Hd (own_only HOWN.out hO2 (by simp));have HO2 := Hd (HO.out.trans hO2);have hw2 := HO2.out.size;obtain ⟨A0, c0, hA0, -, -, -, hrow2⟩ := own_row HOWN2.out;obtain ⟨h1, h2⟩ : A0 = some ⟨g, 0, none⟩ ∧ cap = c0 := by
     injection hA0 with h1 h2 h3;exact ⟨h1.symm, h3⟩
    subst h1;subst h2;have HX2 := Hd hrow2;clear hO2 hrow2 hA0 HOWN HO hck;go_wp2_with fail
    go_loopw [5] (fun av wi => ∃ (at_ : Nat), av = .int .i64 at_ ∧ at_ ≤ m ∧ Hid (∀ j, j < at_ → ∀ y, out[j]? = some y → lessB y l = true) ∧ Hid (Only [] w2 wi)) (fun av _ => m - (intOf av).toNat)
    case atStart => exact ⟨0, rfl, by omega, Hd (fun j hj => by omega), Hd (Only.refl [] w2)⟩
    case round =>
     obtain ⟨at_, rfl, hat0, HLT, HOI⟩ := hrel;obtain ⟨wi, hwi⟩ : ∃ wi : World, wi = wr := ⟨_, rfl⟩;subst hwi;have hat1 : (0 : Int) ≤ (at_ : Int) := Int.natCast_nonneg _;have hcl : wi.cell? ⟨bz, oz + k, none⟩ = some (.string l) := ((HO2.out.trans HOI.out).cell (p := ⟨bz, oz + k, none⟩) hbw (by simp)).trans HCL0.out;obtain ⟨bb, hbb⟩ : ∃ bb : Bool, (at_ < m → ∃ y, out[at_]? = some y ∧ bb = lessB y l) ∧ (¬ at_ < m → bb = false) := by
      by_cases h : at_ < m
      ·exact ⟨lessB (out[at_]'(by rw [HM.out]; exact h)) l, fun _ => ⟨_, List.getElem?_eq_getElem (by rw [HM.out]; exact h), rfl⟩, fun h' => absurd h h'⟩
      ·exact ⟨false, fun h' => absurd h' h, fun _ => rfl⟩
     have HBB := Hd hbb;clear hbb;go_upto_region 7 with fail
     go_cut [34] (fun v wx => v = .bool bb ∧ Hid (Only [] wi wx))
     case first =>
      by_cases hlm : at_ < m
      ·obtain ⟨y, hy, hby⟩ := HBB.out.1 hlm;subst hby;have hlm1 : decide ((at_ : Int) < (m : Int)) = true := decide_eq_true (by omega);have hlm2 : decide (at_ < m) = true := decide_eq_true hlm;have hlm3 : (at_ : Int) < (m : Int) := by omega
       obtain ⟨g', o', hgo, -, hgw, hgc⟩ := (HX2.out.only HOI.out (by simp)).open_ (k := at_) (by rw [strs, List.length_map, HM.out]; exact hlm);obtain ⟨rfl, rfl⟩ : g = g' ∧ 0 = o' := by
        have := Option.some.inj hgo;exact ⟨congrArg Addr.block this, congrArg Addr.off this⟩
       have hyc : wi.cell? ⟨g, at_, none⟩ = some (.string y) := by
        have := hgc at_ _ (by rw [strs, List.getElem?_map, hy]; rfl)
        rwa [Nat.zero_add] at this
       have c1 := cell_regrown hyc;have c2 := cell_regrown hcl;have HL2 := Hd (fun w' => HLS1.out y w' (List.mem_of_getElem? hy));clear hgc hgo hy hyc hcl;refine wp_region_quiet_below (by kernel_rfl) (by kernel_rfl) ?_
       repeat (quiet_step (exact Calls.regrown_of (HL2.out _)))
       refine wpQuiet_nil ?_;intro _ hw';obtain ⟨⟨dq, osq⟩, hw''⟩ := hw';subst hw'';have HNW := Hd (Only.of_below (below_regrown wi dq osq) []);clear c1 c2;generalize Go.Sort.grow (redrawn wi dq) osq = w7 at *;go_wp2
       go_meet
       exact ⟨rfl, HNW⟩
      ·have hlm1 : decide ((at_ : Int) < (m : Int)) = false := decide_eq_false (by omega);have hlm2 : decide (at_ < m) = false := decide_eq_false hlm;have hbf := HBB.out.2 hlm;subst hbf
       go_quiet (fail)
       have HNW := Hd ((Only.refl [] wi).drewN nq);generalize wi.drewN nq = w7 at *;go_wp2
       go_meet
       exact ⟨rfl, HNW⟩
     case rest =>
      obtain ⟨rfl, HC1⟩ := hcut;have HO7 := Hd (HOI.out.trans HC1.out)
      cases bb with
      | true =>
       have hlm : at_ < m := by
        by_cases h : at_ < m
        ·exact h
        ·have := HBB.out.2 h
         cases this
       have HLT2 : Hid (∀ j, j < at_ + 1 → ∀ y, out[j]? = some y → lessB y l = true) := Hd (fun j hj y hy => by
        by_cases h : j < at_
        ·exact HLT.out j h y hy
        ·obtain rfl : j = at_ := by omega
         obtain ⟨y', hy', hb⟩ := HBB.out.1 hlm;rw [hy] at hy';obtain rfl := Option.some.inj hy';exact hb.symm)
       have hwa : IntKind.i64.wrap ((at_ : Int) + 1) = (at_ : Int) + 1 := IntWalk.i64_in _ (by omega);clear HBB HLT hcl;go_wp2
       go_roundw
       case rel => exact ⟨at_ + 1, by go_num, by omega, HLT2, HO7⟩
       case measure => simp [intOf]; omega
      | false =>
       have HAT : Hid (at_ = aheadOf out l) := Hd (ahead_at HLT.out (by rw [HM.out]; exact hat0) (fun y hy => by
        have hlm : at_ < m := by rw [← HM.out]; exact (List.getElem?_eq_some_iff.1 hy).1
        obtain ⟨y', hy', hb⟩ := HBB.out.1 hlm;rw [hy] at hy';obtain rfl := Option.some.inj hy';exact hb.symm))
       have HO9 := Hd (HO2.out.trans HO7.out);have hcl9 : wc.cell? ⟨bz, oz + k, none⟩ = some (.string l) := (HO9.out.cell (p := ⟨bz, oz + k, none⟩) hbw (by simp)).trans HCL0.out;have HX9 := Hd (HX2.out.only HO7.out (by simp));have HOWN9 := Hd (own_only HOWN2.out HO7.out (by simp));obtain ⟨th, hth⟩ : ∃ th, th = decide (out[at_]? = some l) := ⟨_, rfl⟩;have HTH := Hd hth;obtain ⟨w9, hw9⟩ : ∃ w9 : World, w9 = wc := ⟨_, rfl⟩;subst hw9;clear HBB HLT hcl hth HC1 HO7;go_upto_region 9 with fail
       go_cut [6] (fun v wx => v = .bool th ∧ Hid (Only [] w9 wx))
       case first =>
        by_cases hlm : at_ < m
        ·obtain ⟨y, hy⟩ : ∃ y, out[at_]? = some y := ⟨_, List.getElem?_eq_getElem (by rw [HM.out]; exact hlm)⟩;have hlm1 : decide ((at_ : Int) < (m : Int)) = true := decide_eq_true (by omega);have hlm2 : decide (at_ < m) = true := decide_eq_true hlm;have hlm3 : (at_ : Int) < (m : Int) := by omega
         obtain ⟨g', o', hgo, -, hgw, hgc⟩ := HX9.out.open_ (k := at_) (by rw [strs, List.length_map, HM.out]; exact hlm);obtain ⟨rfl, rfl⟩ : g = g' ∧ 0 = o' := by
          have := Option.some.inj hgo;exact ⟨congrArg Addr.block this, congrArg Addr.off this⟩
         have hyc : w9.cell? ⟨g, at_, none⟩ = some (.string y) := by
          have := hgc at_ _ (by rw [strs, List.getElem?_map, hy]; rfl)
          rwa [Nat.zero_add] at this
         have hyl : (y.toList == l.toList) = th := by
          rw [HTH.out, hy]
          by_cases e : y = l
          ·subst e;simp
          ·have h1 : (y.toList == l.toList) = false := text_ne (l := l.toList) (by
            rw [Lib.toList_data];exact fun e2 => e (e2.trans (by_inj List.toList_toArray)))
           rw [h1];simp [e]
         clear hgc hgo hy
         go_quiet (fail)
         have HNW := Hd ((Only.refl [] w9).drewN nq);generalize w9.drewN nq = w7 at *;go_wp2
         go_meet
         first | exact ⟨rfl, HNW⟩ | exact ⟨by rw [hyl], HNW⟩
        ·have hlm1 : decide ((at_ : Int) < (m : Int)) = false := decide_eq_false (by omega);have hlm2 : decide (at_ < m) = false := decide_eq_false hlm;have htf : th = false := by
          rw [HTH.out, List.getElem?_eq_none (by rw [HM.out]; omega)];simp
         subst htf
         go_quiet (fail)
         have HNW := Hd ((Only.refl [] w9).drewN nq);generalize w9.drewN nq = w7 at *;go_wp2
         go_meet
         exact ⟨rfl, HNW⟩
       case rest =>
        obtain ⟨rfl, HC9⟩ := hcut;obtain ⟨wr, hwr⟩ : ∃ wr : World, wr = wc := ⟨_, rfl⟩;subst hwr;have HOR := Hd (HO9.out.trans HC9.out);have HOWNR := Hd (own_only HOWN9.out HC9.out (by simp));have hwsr := HOR.out.size
        cases th with
        | true =>
         have hst : (zs.take (k + 1)).foldl insB [] = out := by
          rw [HSTEP.out];unfold insB;rw [if_pos HV.out.symm, ← HAT.out, if_pos (of_decide_eq_true HTH.out.symm)]
         have HST2 : Hid (out = (zs.take (k + 1)).foldl insB []) := Hd hst.symm;clear hst;go_wp2
         go_roundw
         case rel => exact ⟨k + 1, m, g, cap, out, by go_num, rfl, by omega, by omega, by omega, HM, HST2, HOWNR, HOR⟩
         case measure => simp [intOf]; omega
        | false =>
         have hst : (zs.take (k + 1)).foldl insB [] = out.take at_ ++ l :: out.drop at_ := by
          rw [HSTEP.out];unfold insB;rw [if_pos HV.out.symm, ← HAT.out, if_neg (of_decide_eq_false HTH.out.symm)]
         have HST2 := Hd hst.symm;have hcl := (HOR.out.cell (p := ⟨bz, oz + k, none⟩) hbw (by simp)).trans HCL0.out;have HCL := Hd hcl;have hbz : bz < wr.heap.size := by omega
         have HX := Hd (row_up (HX9.out.only HC9.out (by simp)));have HXD : Hid (∀ wz, Only [] wr wz → Row wz wr.heap.size (if cap = at_ then some ⟨g, 0, none⟩ else some ⟨g, at_, none⟩) ((strs out).drop at_)) := Hd (fun wz ho => by
          have h := (HX.out.only ho (by simp)).drop at_;rw [Nat.zero_add] at h
          split
          ·exact .inl (List.drop_of_length_le (by rw [strs, List.length_map, HM.out]; omega))
          ·exact h)
         have hb1 : (at_ : Int) ≤ (cap : Int) := by omega
         have hb2 : (at_ : Int) ≤ (m : Int) := by omega
         have hb3 : (m : Int) ≤ (cap : Int) := by omega
         have hmz : (0 : Int) ≤ (m : Int) := Int.natCast_nonneg _;clear hst hcl hcl9;go_wp2_with fail
         refine rg1 [] [] wr ?_;have OW : Only [] wr wr.drew := (Only.refl [] wr).drew;have hsz := OW.size;generalize hww : wr.drew = wz at *;clear hww;refine tQ 1 (h := tQ 2 (h := tQ 3 (h := tQ 5 (h := tQ 6 (h := tQ 7 (h := ?_))))));refine trd (i := 8) (v := ?_) 0 ?_ ?_;rotate_left
         ·(intro wq hSw; have hcl := (hSw.cell (p := ⟨bz, oz + k, none⟩) hbz (by simp)).trans HCL.out; clear hSw; go_simp; try with_reducible rfl)
         (try simp only [tdz]);refine tQ 11 (h := tQ 12 (h := tQ 13 (h := ?_)));refine timed_fork (i := 0) (j := 9) (by kernel_rfl) rfl rfl (fun K hK => ?_) (fun K hK => ?_)
         ·go_simp;have OV0 : (wz.alloc (.cells #[] 9)).ownsRow wr.heap.size 9 1 (.slice (some ⟨wz.heap.size, 0, none⟩) 0 0) 0 [] := World.ownsRow_lit wz #[] 0 (by omega) (by unfold maxLen; omega) rfl;have OW1 := OW.alloc (.cells #[] 9);refine hK.out _ _ (th1 (OW1)) ?_;clear hK K OW hsz;generalize wz.alloc (.cells #[] 9) = w1 at *;generalize wz.heap.size = p0 at *;clear wz;obtain ⟨wz, hwz⟩ : ∃ wz : World, wz = w1 := ⟨_, rfl⟩;subst hwz;have OW := OW1;clear OW1;have hsz := OW.size;(try simp only [tdz]);refine timed_fork (i := 4) (j := 9) (by kernel_rfl) rfl rfl (fun K hK => ?_) (fun K hK => ?_)
          ·refine step_append_row _ rfl (.tmp 54) (.tmp 57) 24 rfl wr.heap.size 9 i0 _ 1 16 Tryd.underlying24 hi hz0 hz1 hz2 rfl (by omega) _ 0 ([]) (by rfl) (OV0) _ _ _ _ (strs (out.take at_)) (by rfl) (by rw [strs, List.length_map, List.length_take, HM.out]; omega) (by rw [show strs (out.take at_) = (strs out).take at_ from List.map_take]; exact (HX.out.only OW (by simp)).take at_) (by intro u hu; first | (obtain ⟨y, -, rfl⟩ := List.mem_map.1 hu; rfl) | (simp at hu; subst hu; rfl)) (by unfold maxLen; omega) (by omega) (by omega) ?_;intro v3 w4 hown3 hgrow hat;have OW1 : Only [] wr w4 := OW.step (only_grown hgrow) (own_new OV0);have OV4 : w4.ownsRow wr.heap.size 9 1 v3 at_ (strs (out.take at_)) := by rw [Nat.zero_add, List.nil_append] at hown3; exact hown3
           refine hK.out _ _ (th1 (OW1)) ?_;clear hK K OW hsz hown3 hgrow hat OV0;clear wz;obtain ⟨wz, hwz⟩ : ∃ wz : World, wz = w4 := ⟨_, rfl⟩;subst hwz;have OW := OW1;clear OW1;have hsz := OW.size;obtain ⟨v4, hv4⟩ : ∃ v4, v4 = v3 := ⟨_, rfl⟩;subst hv4;(try simp only [tdz]);refine tst (i := 9) fun K hK => ?_;go_simp;have BL1 := Blk.made wz 9 #[.string l];have OW1 := OW.alloc (.cells #[.string l] 9);have OV41 := own_only OV4 ((Only.refl [] wz).alloc (.cells #[.string l] 9)) (by simp);refine hK.out _ _ (th1 (OW1)) ?_;clear hK K OW hsz OV4;generalize wz.alloc (.cells #[.string l] 9) = w1 at *;generalize wz.heap.size = p9 at *;clear wz;obtain ⟨wz, hwz⟩ : ∃ wz : World, wz = w1 := ⟨_, rfl⟩;subst hwz;have OW := OW1;clear OW1;have hsz := OW.size;have BL := BL1;clear BL1;have OV4 := OV41;clear OV41;(try simp only [tdz]);refine tst (i := 10) fun K hK => ?_;refine step_append_row _ rfl (.tmp 58) (.tmp 63) 24 rfl wr.heap.size 9 i0 _ 1 16 Tryd.underlying24 hi hz0 hz1 hz2 rfl (by omega) _ at_ (strs (out.take at_)) (by rfl) (OV4) _ _ 1 1 ([.string l]) (by rfl) (by rfl) (BL.row) (by intro u hu; first | (obtain ⟨y, -, rfl⟩ := List.mem_map.1 hu; rfl) | (simp at hu; subst hu; rfl)) (by unfold maxLen; omega) (by omega) (by omega) ?_;intro v3 w4 hown3 hgrow hat;have OV1 : w4.ownsRow wr.heap.size 9 1 v3 (at_ + 1) (strs (out.take at_ ++ [l])) := by rw [show strs (out.take at_ ++ [l]) = strs (out.take at_) ++ [.string l] by simp [strs]]; exact hown3
           have OW1 : Only [] wr w4 := OW.step (only_grown hgrow) (own_new OV4);refine hK.out _ _ (th1 (OW1)) ?_;clear hK K OW hsz hown3 hgrow hat OV4 BL;clear wz;obtain ⟨wz, hwz⟩ : ∃ wz : World, wz = w4 := ⟨_, rfl⟩;subst hwz;have OW := OW1;clear OW1;have hsz := OW.size;obtain ⟨v6, hv6⟩ : ∃ v6, v6 = v3 := ⟨_, rfl⟩;subst hv6;(try simp only [tdz]);refine tst (i := 14) fun K hK => ?_;refine step_append_row _ rfl (.tmp 64) (.tmp 67) 24 rfl wr.heap.size 9 i0 _ 1 16 Tryd.underlying24 hi hz0 hz1 hz2 rfl (by omega) _ (at_ + 1) (strs (out.take at_ ++ [l])) (by rfl) (OV1) _ _ _ _ (strs (out.drop at_)) (by rfl) (by rw [strs, List.length_map, List.length_drop, HM.out]; first | omega | (simp; omega)) (by rw [show strs (out.drop at_) = (strs out).drop at_ from List.map_drop]; exact HXD.out wz OW) (by intro u hu; first | (obtain ⟨y, -, rfl⟩ := List.mem_map.1 hu; rfl) | (simp at hu; subst hu; rfl)) (by unfold maxLen; omega) (by omega) (by omega) ?_;intro v3 w4 hown3 hgrow hat;have OW1 : Only [] wr w4 := OW.step (only_grown hgrow) (own_new OV1);refine kOut hK (OW1) (h := ?_);clear hK K;refine tQ 15 (h := ?_);refine tdn ?_;have OV : w4.ownsRow w.heap.size 9 1 v3 (m + 1) (strs ((zs.take (k + 1)).foldl insB [])) := by
            have h := own_base hown3 hwsr;rw [show at_ + 1 + (m - at_) = m + 1 by omega, show strs (out.take at_ ++ [l]) ++ strs (out.drop at_) = strs (out.take at_ ++ l :: out.drop at_) by simp [strs]] at h;rw [← HST2.out];exact h
           have HL := Hd (show ((zs.take (k + 1)).foldl insB []).length = m + 1 by rw [← HST2.out, List.length_append, List.length_cons, List.length_take, List.length_drop, HM.out]; omega);have HOZ := Hd (HOR.out.trans OW1);have HOV := Hd OV;obtain ⟨hl0, hv⟩ := OV;rcases hv with ⟨-, h0⟩ | ⟨g', cap', cur', hv, -, -, hnc, -, -, -⟩
           ·exact absurd h0 (by omega)
           subst hv;clear OW1 hown3 hgrow hat HST2 hl0;go_wp2
           go_roundw
           case rel => exact ⟨k + 1, m + 1, g', cap', _, by go_num, rfl, by omega, by omega, hnc, HL, Hd rfl, HOV, HOZ⟩
           case measure => simp [intOf]; omega
          ·go_simp;have BL1 := Blk.made wz 9 #[.string l];have OW1 := OW.alloc (.cells #[.string l] 9);have OV01 := own_only OV0 ((Only.refl [] wz).alloc (.cells #[.string l] 9)) (by simp);have hne : wz.heap.size ≠ p0 := by have := (OV0.lt p0 rfl).2; omega
           refine hK.out _ _ (th1 (OW1)) ?_;clear hK K OW hsz OV0;generalize wz.alloc (.cells #[.string l] 9) = w1 at *;generalize wz.heap.size = p9 at *;clear wz;obtain ⟨wz, hwz⟩ : ∃ wz : World, wz = w1 := ⟨_, rfl⟩;subst hwz;have OW := OW1;clear OW1;have hsz := OW.size;have BL := BL1;clear BL1;have OV0 := OV01;clear OV01;(try simp only [tdz]);refine tst (i := 4) fun K hK => ?_;refine step_append_row _ rfl (.tmp 54) (.tmp 57) 24 rfl wr.heap.size 9 i0 _ 1 16 Tryd.underlying24 hi hz0 hz1 hz2 rfl (by omega) _ 0 ([]) (by rfl) (OV0) _ _ _ _ (strs (out.take at_)) (by rfl) (by rw [strs, List.length_map, List.length_take, HM.out]; omega) (by rw [show strs (out.take at_) = (strs out).take at_ from List.map_take]; exact (HX.out.only OW (by simp)).take at_) (by intro u hu; first | (obtain ⟨y, -, rfl⟩ := List.mem_map.1 hu; rfl) | (simp at hu; subst hu; rfl)) (by unfold maxLen; omega) (by omega) (by omega) ?_;intro v3 w4 hown3 hgrow hat;have OW1 : Only [] wr w4 := OW.step (only_grown hgrow) (own_new OV0);have OV4 : w4.ownsRow wr.heap.size 9 1 v3 at_ (strs (out.take at_)) := by rw [Nat.zero_add, List.nil_append] at hown3; exact hown3
           have BL1 : Blk w4 p9 9 #[.string l] := (only_grown hgrow).blk BL (fun hc => hne (by simp [Value.ownBlock] at hc; omega));refine hK.out _ _ (th1 (OW1)) ?_;clear hK K OW hsz hown3 hgrow hat OV0 BL hne;clear wz;obtain ⟨wz, hwz⟩ : ∃ wz : World, wz = w4 := ⟨_, rfl⟩;subst hwz;have OW := OW1;clear OW1;have hsz := OW.size;have BL := BL1;clear BL1;obtain ⟨v4, hv4⟩ : ∃ v4, v4 = v3 := ⟨_, rfl⟩;subst hv4;(try simp only [tdz]);refine tst (i := 10) fun K hK => ?_;refine step_append_row _ rfl (.tmp 58) (.tmp 63) 24 rfl wr.heap.size 9 i0 _ 1 16 Tryd.underlying24 hi hz0 hz1 hz2 rfl (by omega) _ at_ (strs (out.take at_)) (by rfl) (OV4) _ _ 1 1 ([.string l]) (by rfl) (by rfl) (BL.row) (by intro u hu; first | (obtain ⟨y, -, rfl⟩ := List.mem_map.1 hu; rfl) | (simp at hu; subst hu; rfl)) (by unfold maxLen; omega) (by omega) (by omega) ?_;intro v3 w4 hown3 hgrow hat;have OV1 : w4.ownsRow wr.heap.size 9 1 v3 (at_ + 1) (strs (out.take at_ ++ [l])) := by rw [show strs (out.take at_ ++ [l]) = strs (out.take at_) ++ [.string l] by simp [strs]]; exact hown3
           have OW1 : Only [] wr w4 := OW.step (only_grown hgrow) (own_new OV4);refine hK.out _ _ (th1 (OW1)) ?_;clear hK K OW hsz hown3 hgrow hat OV4 BL;clear wz;obtain ⟨wz, hwz⟩ : ∃ wz : World, wz = w4 := ⟨_, rfl⟩;subst hwz;have OW := OW1;clear OW1;have hsz := OW.size;obtain ⟨v6, hv6⟩ : ∃ v6, v6 = v3 := ⟨_, rfl⟩;subst hv6;(try simp only [tdz]);refine tst (i := 14) fun K hK => ?_;refine step_append_row _ rfl (.tmp 64) (.tmp 67) 24 rfl wr.heap.size 9 i0 _ 1 16 Tryd.underlying24 hi hz0 hz1 hz2 rfl (by omega) _ (at_ + 1) (strs (out.take at_ ++ [l])) (by rfl) (OV1) _ _ _ _ (strs (out.drop at_)) (by rfl) (by rw [strs, List.length_map, List.length_drop, HM.out]; first | omega | (simp; omega)) (by rw [show strs (out.drop at_) = (strs out).drop at_ from List.map_drop]; exact HXD.out wz OW) (by intro u hu; first | (obtain ⟨y, -, rfl⟩ := List.mem_map.1 hu; rfl) | (simp at hu; subst hu; rfl)) (by unfold maxLen; omega) (by omega) (by omega) ?_;intro v3 w4 hown3 hgrow hat;have OW1 : Only [] wr w4 := OW.step (only_grown hgrow) (own_new OV1);refine kOut hK (OW1) (h := ?_);clear hK K;refine tQ 15 (h := ?_);refine tdn ?_;have OV : w4.ownsRow w.heap.size 9 1 v3 (m + 1) (strs ((zs.take (k + 1)).foldl insB [])) := by
            have h := own_base hown3 hwsr;rw [show at_ + 1 + (m - at_) = m + 1 by omega, show strs (out.take at_ ++ [l]) ++ strs (out.drop at_) = strs (out.take at_ ++ l :: out.drop at_) by simp [strs]] at h;rw [← HST2.out];exact h
           have HL := Hd (show ((zs.take (k + 1)).foldl insB []).length = m + 1 by rw [← HST2.out, List.length_append, List.length_cons, List.length_take, List.length_drop, HM.out]; omega);have HOZ := Hd (HOR.out.trans OW1);have HOV := Hd OV;obtain ⟨hl0, hv⟩ := OV;rcases hv with ⟨-, h0⟩ | ⟨g', cap', cur', hv, -, -, hnc, -, -, -⟩
           ·exact absurd h0 (by omega)
           subst hv;clear OW1 hown3 hgrow hat HST2 hl0;go_wp2
           go_roundw
           case rel => exact ⟨k + 1, m + 1, g', cap', _, by go_num, rfl, by omega, by omega, hnc, HL, Hd rfl, HOV, HOZ⟩
           case measure => simp [intOf]; omega
         ·go_simp;have BL1 := Blk.made wz 9 #[.string l];have OW1 := OW.alloc (.cells #[.string l] 9);refine hK.out _ _ (th1 (OW1)) ?_;clear hK K OW hsz;generalize wz.alloc (.cells #[.string l] 9) = w1 at *;generalize wz.heap.size = p9 at *;clear wz;obtain ⟨wz, hwz⟩ : ∃ wz : World, wz = w1 := ⟨_, rfl⟩;subst hwz;have OW := OW1;clear OW1;have hsz := OW.size;have BL := BL1;clear BL1;(try simp only [tdz]);refine tst (i := 0) fun K hK => ?_;go_simp;have OV0 : (wz.alloc (.cells #[] 9)).ownsRow wr.heap.size 9 1 (.slice (some ⟨wz.heap.size, 0, none⟩) 0 0) 0 [] := World.ownsRow_lit wz #[] 0 (by omega) (by unfold maxLen; omega) rfl;have OW1 := OW.alloc (.cells #[] 9);have BL1 := BL.alloc (.cells #[] 9);have hne : p9 ≠ wz.heap.size := by have := BL.lt; omega
          refine hK.out _ _ (th1 (OW1)) ?_;clear hK K OW hsz BL;generalize wz.alloc (.cells #[] 9) = w1 at *;generalize wz.heap.size = p0 at *;clear wz;obtain ⟨wz, hwz⟩ : ∃ wz : World, wz = w1 := ⟨_, rfl⟩;subst hwz;have OW := OW1;clear OW1;have hsz := OW.size;have BL := BL1;clear BL1;(try simp only [tdz]);refine tst (i := 4) fun K hK => ?_;refine step_append_row _ rfl (.tmp 54) (.tmp 57) 24 rfl wr.heap.size 9 i0 _ 1 16 Tryd.underlying24 hi hz0 hz1 hz2 rfl (by omega) _ 0 ([]) (by rfl) (OV0) _ _ _ _ (strs (out.take at_)) (by rfl) (by rw [strs, List.length_map, List.length_take, HM.out]; omega) (by rw [show strs (out.take at_) = (strs out).take at_ from List.map_take]; exact (HX.out.only OW (by simp)).take at_) (by intro u hu; first | (obtain ⟨y, -, rfl⟩ := List.mem_map.1 hu; rfl) | (simp at hu; subst hu; rfl)) (by unfold maxLen; omega) (by omega) (by omega) ?_;intro v3 w4 hown3 hgrow hat;have OW1 : Only [] wr w4 := OW.step (only_grown hgrow) (own_new OV0);have OV4 : w4.ownsRow wr.heap.size 9 1 v3 at_ (strs (out.take at_)) := by rw [Nat.zero_add, List.nil_append] at hown3; exact hown3
          have BL1 : Blk w4 p9 9 #[.string l] := (only_grown hgrow).blk BL (fun hc => hne (by simp [Value.ownBlock] at hc; omega));refine hK.out _ _ (th1 (OW1)) ?_;clear hK K OW hsz hown3 hgrow hat OV0 BL hne;clear wz;obtain ⟨wz, hwz⟩ : ∃ wz : World, wz = w4 := ⟨_, rfl⟩;subst hwz;have OW := OW1;clear OW1;have hsz := OW.size;have BL := BL1;clear BL1;obtain ⟨v4, hv4⟩ : ∃ v4, v4 = v3 := ⟨_, rfl⟩;subst hv4;(try simp only [tdz]);refine tst (i := 10) fun K hK => ?_;refine step_append_row _ rfl (.tmp 58) (.tmp 63) 24 rfl wr.heap.size 9 i0 _ 1 16 Tryd.underlying24 hi hz0 hz1 hz2 rfl (by omega) _ at_ (strs (out.take at_)) (by rfl) (OV4) _ _ 1 1 ([.string l]) (by rfl) (by rfl) (BL.row) (by intro u hu; first | (obtain ⟨y, -, rfl⟩ := List.mem_map.1 hu; rfl) | (simp at hu; subst hu; rfl)) (by unfold maxLen; omega) (by omega) (by omega) ?_;intro v3 w4 hown3 hgrow hat;have OV1 : w4.ownsRow wr.heap.size 9 1 v3 (at_ + 1) (strs (out.take at_ ++ [l])) := by rw [show strs (out.take at_ ++ [l]) = strs (out.take at_) ++ [.string l] by simp [strs]]; exact hown3
          have OW1 : Only [] wr w4 := OW.step (only_grown hgrow) (own_new OV4);refine hK.out _ _ (th1 (OW1)) ?_;clear hK K OW hsz hown3 hgrow hat OV4 BL;clear wz;obtain ⟨wz, hwz⟩ : ∃ wz : World, wz = w4 := ⟨_, rfl⟩;subst hwz;have OW := OW1;clear OW1;have hsz := OW.size;obtain ⟨v6, hv6⟩ : ∃ v6, v6 = v3 := ⟨_, rfl⟩;subst hv6;(try simp only [tdz]);refine tst (i := 14) fun K hK => ?_;refine step_append_row _ rfl (.tmp 64) (.tmp 67) 24 rfl wr.heap.size 9 i0 _ 1 16 Tryd.underlying24 hi hz0 hz1 hz2 rfl (by omega) _ (at_ + 1) (strs (out.take at_ ++ [l])) (by rfl) (OV1) _ _ _ _ (strs (out.drop at_)) (by rfl) (by rw [strs, List.length_map, List.length_drop, HM.out]; first | omega | (simp; omega)) (by rw [show strs (out.drop at_) = (strs out).drop at_ from List.map_drop]; exact HXD.out wz OW) (by intro u hu; first | (obtain ⟨y, -, rfl⟩ := List.mem_map.1 hu; rfl) | (simp at hu; subst hu; rfl)) (by unfold maxLen; omega) (by omega) (by omega) ?_;intro v3 w4 hown3 hgrow hat;have OW1 : Only [] wr w4 := OW.step (only_grown hgrow) (own_new OV1);refine kOut hK (OW1) (h := ?_);clear hK K;refine tQ 15 (h := ?_);refine tdn ?_;have OV : w4.ownsRow w.heap.size 9 1 v3 (m + 1) (strs ((zs.take (k + 1)).foldl insB [])) := by
           have h := own_base hown3 hwsr;rw [show at_ + 1 + (m - at_) = m + 1 by omega, show strs (out.take at_ ++ [l]) ++ strs (out.drop at_) = strs (out.take at_ ++ l :: out.drop at_) by simp [strs]] at h;rw [← HST2.out];exact h
          have HL := Hd (show ((zs.take (k + 1)).foldl insB []).length = m + 1 by rw [← HST2.out, List.length_append, List.length_cons, List.length_take, List.length_drop, HM.out]; omega);have HOZ := Hd (HOR.out.trans OW1);have HOV := Hd OV;obtain ⟨hl0, hv⟩ := OV;rcases hv with ⟨-, h0⟩ | ⟨g', cap', cur', hv, -, -, hnc, -, -, -⟩
          ·exact absurd h0 (by omega)
          subst hv;clear OW1 hown3 hgrow hat HST2 hl0;go_wp2
          go_roundw
          case rel => exact ⟨k + 1, m + 1, g', cap', _, by go_num, rfl, by omega, by omega, hnc, HL, Hd rfl, HOV, HOZ⟩
          case measure => simp [intOf]; omega
  ·have hkn : k = n := by omega
   subst hkn;have hd : decide ((k : Int) < (k : Int)) = false := by simp
   have HALL : Hid (out = sortB zs) := Hd (by
    rw [HOUT.out, List.take_of_length_le (by rw [HN.out]; exact Nat.le_refl _)]
    rfl)
   go_wp2
   go_ret
   exact ⟨HO.out, _, rfl, by rw [← HALL.out, HM.out]; exact HOWN.out⟩
end Go.Proofs.YtojlaphklkomfaaDoor
