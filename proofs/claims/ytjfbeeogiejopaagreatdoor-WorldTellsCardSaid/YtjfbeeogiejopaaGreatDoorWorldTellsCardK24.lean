/- slices.Compact at values: the walk. value.Sorted: what Compact leaves of values in order; SortFunc and Compact at no slice. value.Sorted: the walk. A region that draws its order: several operations may come up next; what comes behind some of them is shown once, in whatever order they came up. -/
import Derived.Test.YtjfbeeogiejopaaGreatDoorWorldTellsCardK23
import Derived.Test.YtjfbeeogiejopaaGreatDoorWorldTellsCardK2
import Derived.Test.YtjfbeeogiejopaaGreatDoorWorldTellsCardK6
set_option maxRecDepth 10000
set_option maxHeartbeats 16000000
set_option linter.unusedVariables false
set_option linter.unusedSimpArgs false
namespace Go.Proofs.YtjfbeeogiejopaaGreatDoor
open Go.RowKit Go.Sort
open Go.Lib hiding intOf
attribute [local go_sem ↓] Go.wp_at_zero Go.wp_at_succ
theorem putRowK_below {B : Nat} {a w : World} {g : Nat} (q : Nat) (d : Array (Int × Int)) (hg : B ≤ g) (h : Below B a w) : Below B a (putRowK encP 2 (Sort.ahead w q) g 0 d) := by
 refine ⟨h.os, h.tape, h.output, ?_, fun j hj => ?_⟩
 ·have := h.size;rw [size_putRowK];exact this
 ·show (w.heap.modify g _)[j]? = _
  rw [Array.getElem?_modify, if_neg (by omega)];exact h.block j hj
theorem HasBlk.putRowK {w : World} {g : Nat} {t : TypeId} {n : Nat} (h : HasBlk w g t n) (q : Nat) (d : Array (Int × Int)) : HasBlk (putRowK encP 2 (Sort.ahead w q) g 0 d) g t n :=
 h.modify (Go.Sort.putCells id 0 (Go.Sort.flatK encP 2 d)) (fun cs => by simp [Go.Sort.putCells]) rfl
theorem setCells_below {B b : Nat} {a : World} (hb : B ≤ b) : ∀ (vs : List Value) (o : Nat) (w : World), Below B a w → Below B a (w.setCells b o vs)
 | [], _, _, h => h
 | v :: vs, o, w, h => by
  refine setCells_below hb vs (o + 1) _ ⟨h.os, h.tape, h.output, by simpa [World.setCell] using h.size, fun k hk => ?_⟩;rw [Below.heap_setCell w _ v k (by show k ≠ b; omega)];exact h.block k hk
theorem row_of_low {w : World} {g : Nat} (l : List (Int × Int)) (hg : g < w.heap.size) (h : ∀ j, j < l.length → w.cell? ⟨g, j * 2, none⟩ = some (.int .i64 (l[j]!).1) ∧ w.cell? ⟨g, j * 2 + 1, none⟩ = some (.int .i64 (l[j]!).2)) : Row w w.heap.size (some ⟨g, 0, none⟩) (edgeC l) := by
 refine .inr ⟨g, 0, rfl, hg, Nat.le_refl _, fun t u hu => ?_⟩;have ht : t < l.length * 2 := by rw [← edgeC_len]; exact (List.getElem?_eq_some_iff.1 hu).1
 have hj : t / 2 < l.length := by omega
 obtain ⟨h0, h1⟩ := h (t / 2) hj;have hE := edgeC_get l (t / 2) (l[t / 2]!) (by rw [List.getElem?_eq_getElem hj, getElem!_pos l (t / 2) hj]);rw [Nat.zero_add];rcases Nat.mod_two_eq_zero_or_one t with h2 | h2
 ·have e : t / 2 * 2 = t := by omega
  rw [e] at h0 hE;rw [h0];rw [hE.1] at hu;exact hu
 ·have e : t / 2 * 2 + 1 = t := by omega
  rw [e] at h1 hE;rw [h1];rw [hE.2] at hu;exact hu
theorem vcompact_own (w0 w : World) (g cap n : Nat) (d : Array (Int × Int)) (hl : d.size = n) (hN : n ≤ 1000) (hcap : n ≤ cap) (hH : HoldsK encP 2 w g 0 d) (hg : w0.heap.size ≤ g) (hlt : g < w.heap.size) (h0 : Below w0.heap.size w0 w) :
  Calls Tryz.prog 97 #[.slice (some ⟨g, 0, none⟩) n cap] w fun e w' => e = .returned (.slice (some ⟨g, 0, none⟩) (compactUpTo d n).length cap) ∧ Below w0.heap.size w0 w' ∧ Row w' w'.heap.size (some ⟨g, 0, none⟩) (edgeC (compactUpTo d n)) ∧ ∀ t k, HasBlk w g t k → HasBlk w' g t k := by
 have HH := Hd hH;have HB := Hd (fun q dk => putRowK_below (B := w0.heap.size) (a := w0) (w := w) (g := g) q dk hg h0);have hsame : ∀ q, (∀ j, j < n → keeps d j = true) → compactUpTo d n = d.toList ∧ Below w0.heap.size w0 (w.drewN q) ∧ Row (w.drewN q) (w.drewN q).heap.size (some ⟨g, 0, none⟩) (edgeC d.toList) := by
  intro q hall;refine ⟨by rw [compactUpTo_all d _ hall, ← hl, range_map_get], ⟨h0.os, h0.tape, h0.output, h0.size, h0.block⟩, row_of_low d.toList hlt fun j hj => ?_⟩;have hj' : j < d.size := by simpa using hj
  have h := cellsP hH hj';rw [getElem!_pos d j hj'] at h;rw [getElem!_pos d.toList j hj];exact ⟨h.1, h.2.1⟩
 have HS := Hd hsame;have HL := Hd hl;clear hH hsame h0 hl
 by_cases h2 : n < 2
 ·have hd1 : decide ((n : Int) < 2) = true := by simp; omega
  have hd2 : (n : Int) < 2 := by omega
  go_enter Tryz.func97, Tryz.ntmps97;go_wp2
  go_ret
  obtain ⟨e1, e2, e3⟩ := HS.out 0 (fun j hj => keeps_lt_one d j (by omega));rw [e1];exact ⟨by rw [Array.length_toList, HL.out]; rfl, e2, e3, fun t k hb => hb⟩
 ·have hd1 : decide ((n : Int) < 2) = false := by simp; omega
  have hd2 : ¬ (n : Int) < 2 := by omega
  go_enter Tryz.func97, Tryz.ntmps97;go_wp2_with fail
  go_loopw [3] (fun s3 wr => ∃ k q : Nat, 1 ≤ k ∧ k ≤ n ∧ s3 = .int .i64 k ∧ Hid (wr = w.drewN q) ∧ Hid (∀ j, j < k → keeps d j = true)) (fun s3 _ => n - (intOf s3).toNat)
  case atStart => exact ⟨1, 0, Nat.le_refl _, by omega, rfl, rfl, keeps_lt_one d⟩
  case round =>
   obtain ⟨k, q, hk1, hk, rfl, hw, hall⟩ := hrel
   by_cases hlt1 : k < n
   ·obtain ⟨c0, c1, -, -⟩ := cellsP HH.out (i := k) (by rw [HL.out]; exact hlt1);obtain ⟨p0, p1, -, -⟩ := cellsP HH.out (i := k - 1) (by rw [HL.out]; omega);obtain ⟨x, hx⟩ : ∃ x, x = d[k]! := ⟨_, rfl⟩;obtain ⟨y, hy⟩ : ∃ y, y = d[k - 1]! := ⟨_, rfl⟩;rw [← hx] at c0 c1;rw [← hy] at p0 p1;have HX := Hd hx;have HY := Hd hy;clear hx hy;obtain ⟨x0, x1⟩ := x;obtain ⟨y0, y1⟩ := y;dsimp only at c0 c1 p0 p1;have c0' : wr.cell? ⟨g, k * 2, none⟩ = some (.int .i64 x0) := by rw [hw.out]; exact c0
    have c1' : wr.cell? ⟨g, k * 2 + 1, none⟩ = some (.int .i64 x1) := by rw [hw.out]; exact c1
    have p0' : wr.cell? ⟨g, (k - 1) * 2, none⟩ = some (.int .i64 y0) := by rw [hw.out]; exact p0
    have p1' : wr.cell? ⟨g, (k - 1) * 2 + 1, none⟩ = some (.int .i64 y1) := by rw [hw.out]; exact p1
    clear c0 c1 p0 p1;have hk0 : (0 : Int) ≤ (k : Int) := Int.natCast_nonneg _;have hkn : (k : Int) < (n : Int) := by omega
    by_cases hdup : x0 = y0 ∧ x1 = y1
    ·obtain ⟨rfl, rfl⟩ := hdup;go_wp2_with fail
     go_quiet (fail)
     go_wp2
     clear c0' c1' p0' p1';obtain ⟨wo, hwo⟩ : ∃ wo : World, wo = wr := ⟨_, rfl⟩;subst hwo
     go_loopw [3, 5] (fun s3 s5 wi => ∃ (kk k2 q2 : Nat) (dk : Array (Int × Int)), s3 = .int .i64 kk ∧ s5 = .int .i64 k2 ∧ 1 ≤ k2 ∧ k + k2 ≤ n ∧ Hid (wi = putRowK encP 2 (Sort.ahead w q2) g 0 dk) ∧ Hid (CompInv d (k + k2) kk dk)) (fun _ s5 _ => n - (intOf s5).toNat)
     case atStart =>
      refine ⟨k, 1, q + nq, d, rfl, rfl, Nat.le_refl _, by omega, ?_, CompInv.start hall.out (keeps_neg (by omega) (by rw [← HX.out, ← HY.out]))⟩
      show wo.drewN nq = _
      rw [putRowK_self encP 2 (Sort.ahead w (q + nq)) g 0 d (holdsK_ahead encP 2 w (q + nq) g 0 d HH.out), hw.out];exact World.drewN_drewN w q nq
     case round =>
      obtain ⟨kk, k2, q2, dk, rfl, rfl, h21, hle, hwi, hI⟩ := hrel;have hkk := hI.out.lt;have hds := hI.out.size;rw [HL.out] at hds;have hHk : HoldsK encP 2 wr g 0 dk := by rw [hwi.out]; exact holdsK_putRowK encP 2 _ g 0 d dk (holdsK_ahead encP 2 w q2 g 0 d HH.out) hI.out.size
      by_cases hlt2 : k + k2 < n
      ·obtain ⟨m0, m1, -, -⟩ := cellsP hHk (i := k + k2) (by omega);obtain ⟨r0, r1, -, -⟩ := cellsP hHk (i := k + k2 - 1) (by omega);obtain ⟨s0, s1, f0, f1⟩ := cellsP hHk (i := kk) (by omega);rw [hI.out.high (k + k2) (by omega), show (k + k2) * 2 = k * 2 + k2 * 2 by omega] at m0 m1;rw [hI.out.high (k + k2 - 1) (by omega), show (k + k2 - 1) * 2 = k * 2 + (k2 - 1) * 2 by omega] at r0 r1;clear hHk;obtain ⟨u, hu⟩ : ∃ u, u = d[k + k2]! := ⟨_, rfl⟩;obtain ⟨v, hv⟩ : ∃ v, v = d[k + k2 - 1]! := ⟨_, rfl⟩;rw [← hu] at m0 m1;rw [← hv] at r0 r1;generalize dk[kk]! = old at s0 s1;have HU := Hd hu;have HV := Hd hv;clear hu hv;obtain ⟨u0, u1⟩ := u;obtain ⟨v0, v1⟩ := v;dsimp only at m0 m1 r0 r1;have hkk0 : (0 : Int) ≤ (kk : Int) := Int.natCast_nonneg _;have hkkn : (kk : Int) < (n : Int) := by omega
       have hk20 : (0 : Int) ≤ (k2 : Int) := Int.natCast_nonneg _;have hk2n : (k2 : Int) < ((n - k : Nat) : Int) := by omega
       have hk2b : k2 ≤ 1000 := by omega
       have hwk : IntKind.i64.wrap ((k2 : Int) - 1) = (k2 : Int) - 1 := IntWalk.i64_in _ (by omega);have hm1 : (0 : Int) ≤ (k2 : Int) - 1 := by omega
       have hm2 : (k2 : Int) - 1 < ((n - k : Nat) : Int) := by omega
       have hm3 : ((k2 : Int) - 1).toNat = k2 - 1 := by omega
       have hm4 : k2 ≤ n - k := by omega
       have hm5 : (k2 : Int) ≤ ((n - k : Nat) : Int) := by omega
       have hm6 : (1 : Int) ≤ (k2 : Int) := by omega
       have hm7 : k2 - 1 < n - k := by omega
       have hm8 : k2 < n - k := by omega
       by_cases huv : u0 = v0 ∧ u1 = v1
       ·obtain ⟨rfl, rfl⟩ := huv;go_wp2_with fail
        go_quiet (fail)
        go_wp2
        go_roundw
        case rel =>
         refine ⟨kk, k2 + 1, q2 + nq, dk, rfl, by go_num, by omega, by omega, ?_, hI.out.skip (keeps_neg (by omega) (by rw [← HU.out, ← HV.out]))⟩
         show wr.drewN nq = _
         rw [hwi.out, putRowK_drewN]
        case measure => simp [intOf]; omega
       ·have hcase : (u0 == v0) = false ∨ ((u0 == v0) = true ∧ (u1 == v1) = false) := by
         by_cases e0 : u0 = v0
         ·exact .inr ⟨by simp [e0], by simp; exact fun e1 => huv ⟨e0, e1⟩⟩
         ·exact .inl (by simp [e0])
        have HNE := Hd huv;clear huv;rcases hcase with hb0 | ⟨hb0, hb1⟩
        all_goals
         go_wp2_with fail
         go_quiet (fail)
         go_wp2
         go_roundw
         case rel =>
          refine ⟨kk + 1, k2 + 1, q2 + nq, dk.setIfInBounds kk (u0, u1), by go_num, by go_num, by omega, by omega, ?_, ?_⟩
          ·exact store_worldP (wr := wr.drewN nq) (by omega) (by rw [hwi.out, putRowK_drewN]) (u0, u1)
          ·have h := hI.out.keep (by rw [HL.out]; omega) (keeps_pos (by rw [← HU.out, ← HV.out]; intro h; exact HNE.out ⟨congrArg Prod.fst h, congrArg Prod.snd h⟩));rw [← HU.out] at h;exact h
         case measure => simp [intOf]; omega
      ·have hend : k + k2 = n := by omega
       have hcl := fun ty => run_clear2 (P := Tryz.prog) wr 33 38 ty (.agg #[.int .i64 0, .int .i64 0]) (.int .i64 0) (.int .i64 0) Tryz.underlying33 (fun _ => by kernel_rfl) rfl rfl rfl g (kk * 2) (n - kk) (cap - kk) (by omega)
        (fun j hj => by
         have h := (hHk (kk * 2 + j) (by rw [size_flatK]; omega)).1;rw [Nat.zero_add] at h;rw [h]; rfl)
        (fun j hj => by
         have h := (hHk (kk * 2 + j) (by rw [size_flatK]; omega)).2;rw [Nat.zero_add] at h;exact h)
       have HHK := Hd hHk;clear hHk;generalize (Builtin.zeroCells (Value.agg #[.int .i64 0, .int .i64 0]).cells (n - kk)).toList = vs at hcl;have hcl1 := fun ty => (hcl ty).1;clear hcl;have hkk0 : (0 : Int) ≤ (kk : Int) := Int.natCast_nonneg _;have hkkn : (kk : Int) ≤ (n : Int) := by omega
       have hkkc : kk ≤ cap := by omega
       go_wp2
       go_ret
       have hI2 := hI.out;rw [hend] at hI2;have hlen := hI2.len;refine ⟨by rw [hlen]; rfl, setCells_below hg vs _ _ (by rw [hwi.out]; exact HB.out q2 dk), ?_, fun t k hb => HasBlk.setCells (by rw [hwi.out]; exact hb.putRowK q2 dk) _ _⟩;have hgw : g < (wr.setCells g (kk * 2) vs).heap.size := by
        rw [size_setCells, hwi.out, size_putRowK];exact hlt
       refine row_of_low _ hgw fun j hj => ?_;rw [hlen] at hj;have hc := cellsP HHK.out (i := j) (by omega);have hlow := hI2.low j hj;have e : (compactUpTo d n)[j]! = dk[j]! := by rw [List.getElem!_eq_getElem?_getD, hlow]; rfl
       rw [e];rw [World.cell?_setCells_out g vs (kk * 2) wr ⟨g, j * 2, none⟩ (fun _ _ => .inl (by show j * 2 < kk * 2; omega)), World.cell?_setCells_out g vs (kk * 2) wr ⟨g, j * 2 + 1, none⟩ (fun _ _ => .inl (by show j * 2 + 1 < kk * 2; omega))];exact ⟨hc.1, hc.2.1⟩
    ·have hcase : (x0 == y0) = false ∨ ((x0 == y0) = true ∧ (x1 == y1) = false) := by
      by_cases e0 : x0 = y0
      ·exact .inr ⟨by simp [e0], by simp; exact fun e1 => hdup ⟨e0, e1⟩⟩
      ·exact .inl (by simp [e0])
     have HNE := Hd hdup;clear hdup;rcases hcase with hb0 | ⟨hb0, hb1⟩
     all_goals
      go_wp2_with fail
      go_quiet (fail)
      go_wp2
      go_roundw
      case rel =>
       refine ⟨k + 1, q + nq, by omega, by omega, by go_num, by show _ = _; rw [hw.out, World.drewN_drewN], fun j hj => ?_⟩
       by_cases e : j = k
       ·subst e;exact keeps_pos (by rw [← HX.out, ← HY.out]; intro h; exact HNE.out ⟨congrArg Prod.fst h, congrArg Prod.snd h⟩)
       ·exact hall.out j (by omega)
      case measure => simp [intOf]; omega
   ·have hkn : k = n := by omega
    subst hkn;go_wp2
    go_ret
    obtain ⟨e1, e2, e3⟩ := HS.out q hall.out;rw [e1, hw.out];exact ⟨by rw [Array.length_toList, HL.out]; rfl, e2, e3, fun t k hb => hb⟩
end Go.Proofs.YtjfbeeogiejopaaGreatDoor

set_option linter.unusedVariables false
set_option linter.unusedSimpArgs false
namespace Go.Proofs.YtjfbeeogiejopaaGreatDoor
open Go.RowKit
open Go.Lib hiding intOf
attribute [local go_sem ↓] Go.wp_at_zero Go.wp_at_succ
theorem compactV_rise (zs : List (Int × Int)) (hn : ∀ z ∈ zs, mayP z = true) (hs : zs.Pairwise fun a b => lessV b a = false) : ∀ k, k ≤ zs.length →
  ((compactUpTo zs.toArray k).Pairwise fun a b => lessV a b = true) ∧ ∀ y, y ∈ compactUpTo zs.toArray k ↔ y ∈ zs.take k := by
 have hg : ∀ j, (h : j < zs.length) → zs.toArray[j]! = zs[j] := fun j h => by
  rw [getElem!_pos zs.toArray j (by simpa using h)]
  rfl
 intro k
 induction k with
 | zero => intro _; exact ⟨by simp [compactUpTo], fun y => by simp [compactUpTo]⟩
 | succ k ih =>
  intro hk;obtain ⟨ih1, ih2⟩ := ih (by omega);have hlt : k < zs.length := by omega
  have htk : zs.take (k + 1) = zs.take k ++ [zs[k]] := by rw [List.take_add_one, List.getElem?_eq_getElem hlt]; rfl
  rw [compactUpTo_succ]
  by_cases hkp : keeps zs.toArray k = true
  ·rw [if_pos hkp, hg k hlt];refine ⟨List.pairwise_append.2 ⟨ih1, List.pairwise_singleton _ _, fun a ha b hb => ?_⟩, fun y => by rw [List.mem_append, ih2, htk, List.mem_append]⟩;rw [List.mem_singleton] at hb;subst hb;have ha2 := (ih2 a).1 ha;obtain ⟨j, hj, e⟩ := List.mem_iff_getElem.1 ha2;rw [List.getElem_take] at e;rw [List.length_take] at hj;have hjk : j < k := by omega
   unfold keeps at hkp;have hkp := of_decide_eq_true hkp;have hk1 : 0 < k := by omega
   have hne : zs[k] ≠ zs[k - 1]'(by omega) := by
    rcases hkp with h | h
    ·omega
    ·rw [hg k hlt, hg (k - 1) (by omega)] at h;exact h
   have hS := List.pairwise_iff_getElem.1 hs;have hlast : lessV (zs[k - 1]'(by omega)) zs[k] = true := by
    cases hc : lessV (zs[k - 1]'(by omega)) zs[k] with
    | true => rfl
    | false => exact absurd (lessV_total (hn _ (List.getElem_mem _)) (hn _ (List.getElem_mem _)) hc (hS (k - 1) k (by omega) hlt (by omega))).symm hne
   by_cases hj1 : j = k - 1
   ·subst hj1;rw [← e];exact hlast
   ·have h1 := hS j (k - 1) (by omega) (by omega) (by omega);rw [← e]
    cases hc : lessV (zs[j]'(by omega)) (zs[k - 1]'(by omega)) with
    | true => exact lessV_trans hc hlast
    | false =>
     have e2 := lessV_total (hn _ (List.getElem_mem _)) (hn _ (List.getElem_mem _)) hc h1;rw [e2];exact hlast
  ·have hkf : keeps zs.toArray k = false := by simpa using hkp
   rw [if_neg hkp, List.append_nil];refine ⟨ih1, fun y => ?_⟩;rw [ih2, htk, List.mem_append, List.mem_singleton];refine ⟨.inl, ?_⟩;rintro (h | rfl)
   ·exact h
   ·unfold keeps at hkf;have hkf := of_decide_eq_false hkf;have hk1 : k ≠ 0 := fun h => hkf (.inl h);have he : zs[k] = zs[k - 1]'(by omega) := by
     have := Classical.not_not.1 (fun h => hkf (.inr h));rw [hg k hlt, hg (k - 1) (by omega)] at this;exact this
    rw [he];exact List.mem_iff_getElem.2 ⟨k - 1, by rw [List.length_take]; omega, by rw [List.getElem_take]⟩
theorem compactV_sort (l bs : List (Int × Int)) (hn : ∀ b ∈ bs, mayP b = true) (hs : bs.Pairwise fun a b => lessV b a = false) (hm : ∀ y, y ∈ bs ↔ y ∈ l ∧ mayP y = true) :
  compactUpTo bs.toArray bs.length = sortV l := by
 have h := compactV_rise bs hn hs bs.length (Nat.le_refl _);refine sortV_unique h.1 fun y => ?_;rw [← hm, h.2, List.take_length]
theorem vins_none (fv : Value) (w : World) :
  Calls Tryz.prog 127 #[.slice none 0 0, .int .i64 0, .int .i64 0, fv] w fun e w' => e = .returned (.tuple #[]) ∧ w = w' := by
 go_enter Tryz.func127, Tryz.ntmps127;go_wp2
 refine wp_loop_rounds 1 ?_;rw [rounds_succ];go_wp2
 go_end0
 exact ⟨rfl, rfl⟩
theorem vpdq_none (lim : Int) (fv : Value) (w : World) :
  Calls Tryz.prog 111 #[.slice none 0 0, .int .i64 0, .int .i64 0, .int .i64 lim, fv] w fun e w' => e = .returned (.tuple #[]) ∧ w = w' := by
 have HI := Hd (fun w' => vins_none fv w');go_enter Tryz.func111, Tryz.ntmps111;go_wp2
 refine wp_loop_rounds 1 ?_;rw [rounds_succ];go_wp2_with fail
 refine (HI.out _).mono ?_;rintro e w' ⟨rfl, rfl⟩;go_wp2
 (try simp only [Exit.inBlock, Exit.then]); refine bodyPost_ret (results_none rfl _ _ _) rfl ?_
 exact ⟨rfl, rfl⟩
theorem vlen_none (w : World) : Calls Tryz.prog 112 #[.int .u64 0] w fun e w' => e = .returned (.int .i64 0) ∧ w' = w :=
 Any.bits_Len (SlLaysF0.n15.bits (P := Tryz.prog) (ρ := Tryz.laysSortZ_ren) { Tryz.laysSortZ with }) 0 w (by omega) (by omega)
theorem vsortf_none (fv : Value) (w : World) :
  Calls Tryz.prog 95 #[.slice none 0 0, fv] w fun e w' => e = .returned (.tuple #[]) ∧ w = w' := by
 have HP := Hd (fun w' => vpdq_none 0 fv w');have HL := Hd (fun w' => vlen_none w');have hw : IntKind.u64.wrap 0 = 0 := by rfl
 go_enter Tryz.func95, Tryz.ntmps95;go_wp2_with fail
 refine (HL.out _).mono ?_;rintro e w' ⟨rfl, rfl⟩;go_wp2_with fail
 refine (HP.out _).mono ?_;rintro e w' ⟨rfl, rfl⟩;go_wp2
 go_end0
 exact ⟨rfl, rfl⟩
theorem vcompact_none (w : World) : Calls Tryz.prog 97 #[.slice none 0 0] w fun e w' => e = .returned (.slice none 0 0) ∧ w = w' := by
 go_enter Tryz.func97, Tryz.ntmps97;go_wp2
 go_ret
 exact ⟨rfl, rfl⟩
end Go.Proofs.YtjfbeeogiejopaaGreatDoor

set_option linter.unusedVariables false
set_option linter.unusedSimpArgs false
namespace Go.Proofs.YtjfbeeogiejopaaGreatDoor
open Go.RowKit
open Go.Lib hiding intOf
attribute [local go_sem ↓] Go.wp_at_zero Go.wp_at_succ
theorem vinfo : (Tryz.prog.info? 38).map (fun i => (i.zero, i.size, i.bytes)) = some (some (.agg #[.int .i64 0, .int .i64 0]), 2, 16) := by kernel_rfl
theorem row_take {w : World} {B g n : Nat} {t : TypeId} {cs : Array Value} {xs : List Value} (hb : Blk w g t cs) (hr : Row w B (some ⟨g, 0, none⟩) xs) (hl : xs.length = n) (hn : n ≤ cs.size) : cs.toList.take n = xs := by
 refine List.ext_getElem? fun j => ?_;rw [List.getElem?_take]
 by_cases hj : j < n
 ·rw [if_pos hj, Array.getElem?_toList];obtain ⟨u, hu⟩ : ∃ u, xs[j]? = some u := ⟨_, List.getElem?_eq_getElem (by omega)⟩;obtain ⟨b, o, e, -, -, hc⟩ := hr.open_ (k := j) (by omega)
  cases e
  have := hc j u hu;rw [Nat.zero_add, hb.at_] at this;rw [this, hu]
 ·rw [if_neg hj, List.getElem?_eq_none (by omega)]
theorem compactUpTo_len (d : Array (Int × Int)) (k : Nat) : (compactUpTo d k).length ≤ k := by
 unfold compactUpTo;rw [List.length_map];exact Nat.le_trans (List.length_filter_le _ _) (by simp)
theorem vsorted_own (A : Option Addr) (n c B : Nat) (zs : List (Int × Int)) (w : World) (hn : zs.length = n) (hN : n ≤ 1000) (hA : Row w B A (edgeC zs)) :
  Calls Tryz.prog 72 #[.slice A n c] w fun e w' => Only [] w w' ∧ ∃ V, e = .returned V ∧ w'.ownsRow w.heap.size 38 2 V (sortV zs).length (edgeC (sortV zs)) := by
 obtain ⟨i0, hi, hz0, hz1, hz2⟩ := info_parts vinfo;have HMY := Hd (fun (z : Int × Int) w' => (may_anyV z.1 z.2 w'));have HN := Hd hn;have HROW := Hd hA;clear hn hA;go_enter Tryz.func72, Tryz.ntmps72;go_wp2_with fail
 go_loopw [3, 8] (fun V iv wr => ∃ (k m : Nat), iv = .int .i64 k ∧ k ≤ n ∧ m ≤ k ∧ Hid (((zs.take k).filter mayP).length = m) ∧ Hid (wr.ownsRow w.heap.size 38 2 V m (edgeC ((zs.take k).filter mayP))) ∧ Hid (Only [] w wr)) (fun _ iv _ => n - (intOf iv).toNat)
 case atStart => exact ⟨0, 0, rfl, by omega, by omega, Hd rfl, Hd ⟨rfl, .inl ⟨rfl, rfl⟩⟩, Hd (Only.refl [] w)⟩
 case round =>
  obtain ⟨k, m, rfl, hk, hm, HM, HOWN, HO⟩ := hrel
  by_cases hlt : k < n
  ·have h01 : (k : Int) < (n : Int) := by omega
   have hk0 : (0 : Int) ≤ (k : Int) := Int.natCast_nonneg _;have hwk : IntKind.i64.wrap ((k : Int) + 1) = (k : Int) + 1 := IntWalk.i64_in _ (by omega);obtain ⟨b, off, rfl, hbB, hbw, hcell⟩ := HROW.out.open_ (k := k * 2) (by rw [edgeC_len, HN.out]; omega);obtain ⟨l, hl⟩ : ∃ l, zs[k]? = some l := ⟨_, List.getElem?_eq_getElem (by rw [HN.out]; exact hlt)⟩;have hee := edgeC_get zs k l hl;have hck0 : wr.cell? ⟨b, off + k * 2, none⟩ = some (.int .i64 l.1) := (HO.out.cell (p := ⟨b, off + k * 2, none⟩) hbw (by simp)).trans (hcell _ _ hee.1);have hck1 : wr.cell? ⟨b, off + k * 2 + 1, none⟩ = some (.int .i64 l.2) := by rw [Nat.add_assoc]; exact (HO.out.cell (p := ⟨b, off + (k * 2 + 1), none⟩) hbw (by simp)).trans (hcell _ _ hee.2)
   have HI := Hd (fun w' => HMY.out l w');have hwsz := HO.out.size;obtain ⟨v, hv⟩ : ∃ v, v = mayP l := ⟨_, rfl⟩;have hv2 : v = mayB l.1 l.2 := hv;rw [← hv2] at HI;have HV := Hd hv;have HLK := Hd hl;clear hcell hl hv hv2 hee;obtain ⟨x, y⟩ := l;dsimp only at hck0 hck1 HI
   cases v with
   | true =>
    have HTK : Hid ((zs.take (k + 1)).filter mayP = (zs.take k).filter mayP ++ [(x, y)]) := Hd (by
     rw [List.take_add_one, HLK.out, List.filter_append]
     congr 1
     simp [HV.out.symm])
    have hlen : (edgeC ((zs.take k).filter mayP)).length = m * 2 := by rw [edgeC_len, HM.out]
    go_wp2_with fail
    refine (HI.out _).mono ?_;rintro e w2 ⟨rfl, hX2⟩;have bV := hX2.blk (made2 wr 38 x y) (by simp);have hO2 := ((Only.refl [] wr).alloc (.cells #[.int .i64 x, .int .i64 y] 38)).trans hX2.only;have HOWN2 := Hd (own_only HOWN.out hO2 (by simp));have HO2 := Hd (HO.out.trans hO2);have hw2 := hO2.size;have lV := bV.lt;have v0 := bV.at_ 0;have v1 := bV.at_ 1;simp at v0 v1;clear hO2 hX2 bV;go_wp2_with (at_builtin; refine wpList_append_row _ rfl (.tmp 14) (.tmp 16) _ rfl w.heap.size 38 i0 _ 2 16 Tryz.underlying33 hi hz0 hz1 hz2 rfl (by omega) _ m (edgeC ((zs.take k).filter mayP)) rfl (own_only HOWN2.out ((Only.refl [] _).alloc _) (by simp)) (w2.heap.size + 1) (some ⟨w2.heap.size, 0, none⟩) 1 1 [.int .i64 x, .int .i64 y] (by rfl) (by rfl) (row_lit w2 38 #[.int .i64 x, .int .i64 y]) (by intro u hu; simp at hu; rcases hu with rfl | rfl <;> rfl) (by unfold maxLen; omega) (by omega) (by simp; omega) ?_; intro v3 w3 hown3 hgrow hat)
    have REL : w3.ownsRow w.heap.size 38 2 v3 (m + 1) (edgeC ((zs.take (k + 1)).filter mayP)) ∧ Only [] w w3 ∧ ((zs.take (k + 1)).filter mayP).length = m + 1 := by
     refine ⟨?_, (HO2.out.alloc _).step (only_grown hgrow) (own_new HOWN2.out), ?_⟩
     ·rw [HTK.out, edgeC_append];exact hown3
     ·rw [HTK.out, List.length_append, HM.out]
      rfl
    have HREL := Hd REL;clear REL hown3 hgrow hat hlen;go_wp2
    go_roundw
    case rel => exact ⟨k + 1, m + 1, by go_num, by omega, by omega, Hd HREL.out.2.2, Hd HREL.out.1, Hd HREL.out.2.1⟩
    case measure => simp [intOf]; omega
   | false =>
    go_wp2_with fail
    refine (HI.out _).mono ?_;rintro e w2 ⟨rfl, hX2⟩;have hO2 := ((Only.refl [] wr).alloc (.cells #[.int .i64 x, .int .i64 y] 38)).trans hX2.only;have HOWN2 := Hd (own_only HOWN.out hO2 (by simp));have HO2 := Hd (HO.out.trans hO2);have HTK2 : Hid ((zs.take (k + 1)).filter mayP = (zs.take k).filter mayP) := Hd (by
     rw [List.take_add_one, HLK.out, List.filter_append];simp [HV.out.symm])
    clear hO2 hX2;go_wp2
    go_roundw
    case rel => exact ⟨k + 1, m, by go_num, by omega, by omega, Hd (by rw [HTK2.out]; exact HM.out), Hd (by rw [HTK2.out]; exact HOWN2.out), HO2⟩
    case measure => simp [intOf]; omega
  ·have hkn : k = n := by omega
   subst hkn;have hd : decide ((k : Int) < (k : Int)) = false := by simp
   have HALL : Hid ((zs.take k).filter mayP = zs.filter mayP) := Hd (by rw [List.take_of_length_le (by rw [HN.out]; exact Nat.le_refl _)]);have HFM : Hid (∀ y, y ∈ (zs.take k).filter mayP ↔ y ∈ zs ∧ mayP y = true) := Hd (fun y => by rw [HALL.out, List.mem_filter]);generalize (zs.take k).filter mayP = fair at *;obtain ⟨hl0, hv⟩ := HOWN.out;rcases hv with ⟨hv, hm0⟩ | ⟨g, cap, cur, hv, hbase, hg, hnc, hcm, hsz, ht⟩
   ·subst hv;subst hm0;have hfe : fair = [] := List.eq_nil_of_length_eq_zero HM.out;subst hfe;have HS := Hd (fun w' => vsortf_none (.func (.func 96) #[] #[]) w');have HC := Hd (fun w' => vcompact_none w');have HE : Hid (sortV zs = []) := Hd (by
     have := (sortV_vals zs).2
     cases hs : sortV zs with
     | nil => rfl
     | cons y t =>
      rw [hs] at this;have h1 := (HFM.out y).2 ((this y).1 (List.mem_cons_self ..))
      cases h1)
    clear hl0 HOWN;go_wp2_with fail
    refine (HS.out _).mono ?_;rintro e w5 ⟨rfl, rfl⟩;go_wp2_with fail
    refine (HC.out _).mono ?_;rintro e w6 ⟨rfl, rfl⟩;go_wp2
    go_ret
    exact ⟨HO.out, .slice none 0 0, rfl, by rw [HE.out]; exact ⟨rfl, .inl ⟨rfl, rfl⟩⟩⟩
   ·subst hv;have h0 : Below w.heap.size w wr := HO.out.below (Nat.le_refl _) (by simp);have HS := Hd (vsortf_own w wr g cap m cur fair HM.out (fun b hb => ((HFM.out b).1 hb).2) (by omega) hg ht hbase h0);have HHB := Hd (show HasBlk wr g 38 (cap * 2) from ⟨cur, hg, hsz⟩);have HBASE := Hd (show w.heap.size ≤ g ∧ cap ≤ maxLen ∧ fair.length ≤ cap from ⟨hbase, hcm, by rw [HM.out]; exact hnc⟩);have HC := Hd (fun w' (bs : List (Int × Int)) (hl : bs.length = m) hH hlt h0' => vcompact_own w w' g cap m bs.toArray (by simpa using hl) (by omega) hnc hH hbase hlt h0');clear hl0 HOWN hg ht hbase hsz h0 hnc hcm;go_wp2_with fail
    refine (HS.out).mono ?_;rintro e w5 ⟨rfl, hb5, hg5, hk5, bs, hbl, hbp, hbs, hbc⟩;have HHB5 := Hd (hk5 _ _ HHB.out);clear hk5 HHB;have hH : Go.Sort.HoldsK encP 2 w5 g 0 bs.toArray := by
     intro t ht2;have ht3 : t < m * 2 := by simpa [hbl] using ht2
     have hj : t / 2 < m := by omega
     obtain ⟨q0, q1, q2, q3⟩ := hbc (t / 2) hj;have hgj : bs.toArray[t / 2]! = bs.getD (t / 2) (0, 0) := by
      rw [getElem!_pos bs.toArray (t / 2) (by simpa [hbl] using hj), List.getD_eq_getElem?_getD, List.getElem?_eq_getElem (by omega)]
      rfl
     show w5.cell? ⟨g, 0 + t, none⟩ = some ((Go.Sort.flatK encP 2 bs.toArray)[t]!) ∧ _
     rw [Go.Sort.get_flatK _ _ _ _ (by simpa [hbl] using ht3), hgj, Nat.zero_add];rcases Nat.mod_two_eq_zero_or_one t with h2 | h2
     ·rw [h2];have e : t / 2 * 2 = t := by omega
      rw [e] at q0 q2;exact ⟨q0, q2⟩
     ·rw [h2];have e : t / 2 * 2 + 1 = t := by omega
      rw [e] at q1 q3;exact ⟨q1, q3⟩
    have HC5 := HC.out w5 bs hbl hH hg5 hb5;have HCL := Hd (show (compactUpTo bs.toArray bs.length).length ≤ cap from Nat.le_trans (compactUpTo_len _ _) (by rw [hbl, ← HM.out]; exact HBASE.out.2.2));have hcs := compactV_sort zs bs (fun b hb => ((HFM.out b).1 (hbp.mem_iff.1 hb)).2) hbs (fun y => by rw [hbp.mem_iff, HFM.out]);rw [hbl] at hcs;rw [hbl, hcs] at HCL;rw [hcs] at HC5;have HC6 := Hd HC5;clear hb5 hg5 hbl hbp hbs hbc hH HC5 hcs HC;go_wp2_with fail
    refine (HC6.out).mono ?_;rintro e w6 ⟨rfl, hb6, hrow, hk6⟩;have HHB6 := Hd (hk6 _ _ HHB5.out);clear hk6 HHB5;have HB6 := Hd hb6;have HR6 := Hd hrow;clear hb6 hrow;go_wp2
    go_ret
    obtain ⟨cs6, hb6, hs6⟩ := HHB6.out;exact ⟨Only.of_below HB6.out [], _, rfl, by rw [edgeC_len], .inr ⟨g, cap, cs6, rfl, HBASE.out.1, hb6, HCL.out, HBASE.out.2.1, hs6, row_take hb6 HR6.out (by rw [edgeC_len]) (by rw [hs6]; exact Nat.mul_le_mul_right 2 HCL.out)⟩⟩
end Go.Proofs.YtjfbeeogiejopaaGreatDoor

set_option linter.unusedVariables false
set_option linter.unusedSimpArgs false
namespace Go.Proofs.YtjfbeeogiejopaaGreatDoor
open Go.RowKit
section
variable {P : Program} {ops : Array Oper} {Q : Exit → Act → World → Prop} {md : Region.Mode} {S : Array Bool → World → Prop}
theorem timed_forks {l : List Nat} {fuel : Nat} {listed : Array Bool} {a : Act} {w : World} (hr : Region.ready md ops listed = l) (hl : l ≠ [])
  (h : ∀ k ∈ l, ∃ ok, ops[k]? = some ok ∧ ∀ K' : Act → World → Prop, Shut (∀ a w, S (listed.setIfInBounds k true) w → (S (listed.setIfInBounds k true) w → wpAnyT P md ops Q S fuel (listed.setIfInBounds k true) a w) → K' a w) →
   if Region.wanted ok (yielded ops a.tmps) = true then Oper.wp P ok a w K' Q else K' (a.put ok.dst undef) w) : S listed w → wpAnyT P md ops Q S (fuel + 1) listed a w := by
 intro _;refine ⟨fun h0 => (by rw [hr] at h0; exact absurd h0 hl), fun k hk => ?_⟩;rw [hr] at hk;obtain ⟨ok, ho, hs⟩ := h k hk;exact wpOp_step ho (fun K' hK => hs K' (fun a w hS hW => hK a w ⟨hS, hW hS⟩))
end
section
variable {G : Prop}
theorem cut_0_0 (F : World → Prop) {L : World → Prop} (h1 : (∀ (w : World), F w  → L w ) → G) (h2 : ∀ (w : World), F w  → L w ) : G := h1 h2
theorem cut_0_1 (F : World → Value → Prop) {L : World → Value → Prop} (h1 : (∀ (w : World) (y0 : Value), F w y0 → L w y0) → G) (h2 : ∀ (w : World) (y0 : Value), F w y0 → L w y0) : G := h1 h2
theorem cut_1_0 (F : World → Nat → Prop) {L : World → Nat → Prop} (h1 : (∀ (w : World) (g0 : Nat), F w g0  → L w g0 ) → G) (h2 : ∀ (w : World) (g0 : Nat), F w g0  → L w g0 ) : G := h1 h2
theorem cut_1_1 (F : World → Nat → Value → Prop) {L : World → Nat → Value → Prop} (h1 : (∀ (w : World) (g0 : Nat) (y0 : Value), F w g0 y0 → L w g0 y0) → G) (h2 : ∀ (w : World) (g0 : Nat) (y0 : Value), F w g0 y0 → L w g0 y0) : G := h1 h2
theorem cut_2_0 (F : World → Nat → Nat → Prop) {L : World → Nat → Nat → Prop} (h1 : (∀ (w : World) (g0 g1 : Nat), F w g0 g1  → L w g0 g1 ) → G) (h2 : ∀ (w : World) (g0 g1 : Nat), F w g0 g1  → L w g0 g1 ) : G := h1 h2
theorem cut_2_0_1 (F : World → Nat → Nat → Option Addr → Prop) {L : World → Nat → Nat → Option Addr → Prop} (h1 : (∀ (w : World) (g0 g1 : Nat) (z0 : Option Addr), F w g0 g1 z0 → L w g0 g1 z0) → G) (h2 : ∀ (w : World) (g0 g1 : Nat) (z0 : Option Addr), F w g0 g1 z0 → L w g0 g1 z0) : G := h1 h2
theorem cut_3_0_1 (F : World → Nat → Nat → Nat → Option Addr → Prop) {L : World → Nat → Nat → Nat → Option Addr → Prop} (h1 : (∀ (w : World) (g0 g1 g2 : Nat) (z0 : Option Addr), F w g0 g1 g2 z0 → L w g0 g1 g2 z0) → G) (h2 : ∀ (w : World) (g0 g1 g2 : Nat) (z0 : Option Addr), F w g0 g1 g2 z0 → L w g0 g1 g2 z0) : G := h1 h2
theorem cut_4_0_2 (F : World → Nat → Nat → Nat → Nat → Option Addr → Option Addr → Prop) {L : World → Nat → Nat → Nat → Nat → Option Addr → Option Addr → Prop} (h1 : (∀ (w : World) (g0 g1 g2 g3 : Nat) (z0 z1 : Option Addr), F w g0 g1 g2 g3 z0 z1 → L w g0 g1 g2 g3 z0 z1) → G) (h2 : ∀ (w : World) (g0 g1 g2 g3 : Nat) (z0 z1 : Option Addr), F w g0 g1 g2 g3 z0 z1 → L w g0 g1 g2 g3 z0 z1) : G := h1 h2
end
theorem fork_cons {p : Nat → Prop} {k : Nat} {l : List Nat} (h : p k) (r : ∀ j ∈ l, p j) : ∀ j ∈ k :: l, p j := List.forall_mem_cons.2 ⟨h, r⟩
theorem fork_nil {p : Nat → Prop} : ∀ j ∈ ([] : List Nat), p j := fun _ h => by cases h
end Go.Proofs.YtjfbeeogiejopaaGreatDoor
