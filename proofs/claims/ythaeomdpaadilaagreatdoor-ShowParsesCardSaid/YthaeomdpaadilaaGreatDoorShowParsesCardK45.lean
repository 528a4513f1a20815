/- Contracts of the package show: kind, end, Events. -/
import Derived.Test.YthaeomdpaadilaaGreatDoorShowParsesCardK42
import Derived.Test.YthaeomdpaadilaaGreatDoorShowParsesCardK44
set_option linter.unusedVariables false
set_option linter.unusedSimpArgs false
namespace Go.Proofs.YthaeomdpaadilaaGreatDoor
open Go.RowKit
open Go.Lib hiding intOf
attribute [local go_sem ↓] Go.wp_at_zero Go.wp_at_succ
theorem skind_any (x : Op4) (w : World) :
  Calls Tryz.prog 19 #[.agg #[.bool x.wr, .int .i64 x.key, .int .i64 x.vk, .int .i64 x.vn]] w fun e w' => e = .returned (.int .i64 (kindO x)) ∧ Only [] w w' := by
 obtain ⟨wr, key, vk, vn⟩ := x
 cases wr
 all_goals
  go_enter Tryz.func19, Tryz.ntmps19
  go_wp2
  go_ret
  first
  | exact ⟨rfl, Only.refl _ _⟩
  | exact ⟨rfl, (Only.refl _ _).alloc _⟩
theorem send_any (f : Int) (w : World) :
  Calls Tryz.prog 20 #[.int .i64 f] w fun e w' => e = .returned (.int .i64 (endK f)) ∧ Only [] w w' := by
 unfold endK
 by_cases h1 : f = 1
 ·subst h1
  go_enter Tryz.func20, Tryz.ntmps20
  go_wp2
  go_ret
  exact ⟨rfl, Only.refl _ _⟩
 ·have h1' : (f == 1) = false := by simpa using h1
  rw [if_neg h1]
  by_cases h2 : f = 2
  ·subst h2
   go_enter Tryz.func20, Tryz.ntmps20
   go_wp2
   go_ret
   exact ⟨rfl, Only.refl _ _⟩
  ·have h2' : (f == 2) = false := by simpa using h2
   rw [if_neg h2]
   clear h1 h2
   go_enter Tryz.func20, Tryz.ntmps20
   go_wp2
   go_ret
   exact ⟨rfl, Only.refl _ _⟩
/-- The world while events are added: the list's variable, its row, the history's own box. -/
structure SSt (w0 w : World) (Bl gh : Nat) (H : Array Value) (V : Value) (acc : List Ev6) : Prop where
 bl : Blk w Bl 27 #[V]
 own : w.ownsRow w0.heap.size 47 6 V acc.length (logC acc)
 only : Only [] w0 w
 gh : Blk w gh 25 H
 ge : w0.heap.size ≤ Bl
theorem SSt.keep {w0 w w' : World} {Bl gh : Nat} {H : Array Value} {V : Value} {acc : List Ev6} (h : SSt w0 w Bl gh H V acc) (O : Only [] w w') : SSt w0 w' Bl gh H V acc :=
 ⟨O.blk h.bl (by simp), own_only h.own O (by simp), h.only.trans O, O.blk h.gh (by simp), h.ge⟩
theorem SSt.apart {w0 w : World} {Bl gh g : Nat} {H cs : Array Value} {V : Value} {acc : List Ev6} {t : TypeId} (h : SSt w0 w Bl gh H V acc) (hb : Blk w g t cs) (h1 : t ≠ 47) (h2 : t ≠ 27) : g ∉ Bl :: V.ownBlock.toList := by
 intro hm
 rcases List.mem_cons.1 hm with rfl | hm
 ·exact absurd rfl (hb.apart h.bl h2)
 ·exact own_apart h.own hb (fun e => h1 e.symm) hm
theorem SSt.low {w0 w : World} {Bl gh : Nat} {H : Array Value} {V : Value} {acc : List Ev6} (h : SSt w0 w Bl gh H V acc) : ∀ i ∈ Bl :: V.ownBlock.toList, w0.heap.size ≤ i := by
 intro i hm
 rcases List.mem_cons.1 hm with rfl | hm
 ·exact h.ge
 ·have := own_new h.own (S := []) i hm
  exact Nat.le_of_not_lt fun hl => by cases this hl
theorem sadd_st (k vk vn ln : Int) (s y : ByteArray) (w0 w : World) (Bl gh : Nat) (H : Array Value) (V : Value) (acc : List Ev6) (h : SSt w0 w Bl gh H V acc) (hl : acc.length ≤ 1000000) :
  Calls Tryz.prog 18 #[.agg #[.int .i64 k, .string s, .string y, .int .i64 vk, .int .i64 vn, .int .i64 ln], .pointer (some ⟨Bl, 0, none⟩)] w fun e w' => e = .returned (.tuple #[]) ∧
   ∃ V', SSt w0 w' Bl gh H V' (adE acc k s y vk vn) ∧ Only (Bl :: V.ownBlock.toList) w w' := by
 refine (sadd_any k vk vn ln s y Bl w0.heap.size V acc w h.bl h.own h.only.size hl).mono ?_
 rintro e w' ⟨rfl, V', hb, hown, O⟩
 refine ⟨rfl, V', ⟨hb, ?_, h.only.step O (fun i hm hl => ?_), O.blk h.gh (h.apart h.gh (by decide) (by decide)), h.ge⟩, O⟩
 ·rw [adE_len]
  exact hown
 ·have := h.low i hm
  omega
set_option maxRecDepth 10000 in
set_option maxHeartbeats 4000000 in
theorem sevents_any (A0 A1 A2 : Option Addr) (n0 n1 n2 c0 c1 c2 B : Nat) (h : Hst) (w : World) (hg : HIn w B A0 A1 A2 n0 n1 n2 h) :
  Calls Tryz.prog 7 #[hval A0 A1 A2 n0 n1 n2 c0 c1 c2] w fun e w' => ∃ V n, e = .returned (.tuple #[V, .int .i64 (errH h)]) ∧ Only [] w w' ∧ n = (if errH h = 0 then evsH h else []).length ∧
   w'.ownsRow w.heap.size 47 6 V n (logC (if errH h = 0 then evsH h else [])) := by
 have HI := Lib.hid hg
 have HM := Lib.hid (fun w' (O : Only [] w w') => hmay_any A0 A1 A2 n0 n1 n2 c0 c1 c2 B h w' (hg.same O))
 unfold hval at HM ⊢
 clear hg
 by_cases he : errH h = 0
 ·obtain ⟨hl40, hops⟩ := may_len he
  rw [if_pos he]
  rw [he] at HM ⊢
  have HO0 := Lib.hid ((Only.refl [] w).alloc (.cells #[.slice A0 n0 c0, .slice A1 n1 c1, .slice A2 n2 c2] 25))
  have HB0 := Lib.hid (Blk.made w 25 #[.slice A0 n0 c0, .slice A1 n1 c1, .slice A2 n2 c2])
  have HE := Lib.hid he
  have HOPS := Lib.hid hops
  clear he hops
  go_enter Tryz.func7, Tryz.ntmps7
  go_wp2_with fail
  refine (HM.out _ HO0.out).mono ?_
  rintro e w1 ⟨rfl, O1⟩
  have HB1 := Lib.hid (O1.blk HB0.out (by simp))
  have HO1 := Lib.hid (HO0.out.trans O1)
  have hsz1 := O1.size
  rw [World.size_alloc] at hsz1
  have l1 := HB1.out.lt
  have b2 := HB1.out.at_ 2
  simp at b2
  clear O1 HB0 HO0 HM
  have hS2 : SSt w (w1.alloc (.cells #[.slice none 0 0] 27)) w1.heap.size w.heap.size #[.slice A0 n0 c0, .slice A1 n1 c1, .slice A2 n2 c2] (.slice none 0 0) ((h.l.take 0).foldl (addT h.ss h.ks) []) :=
   ⟨Blk.made _ _ _, ⟨rfl, .inl ⟨rfl, rfl⟩⟩, HO1.out.alloc _, HB1.out.alloc _, by omega⟩
  have HS2 := Lib.hid hS2
  have hbl : w1.heap.size + 1 = (w1.alloc (.cells #[.slice none 0 0] 27)).heap.size := by rw [World.size_alloc]
  clear hS2
  go_wp2_with fail
  clear l1 b2
  generalize (w1.alloc (.cells #[.slice none 0 0] 27)) = w2 at *
  generalize w1.heap.size = Bl at *
  have HN2 := Lib.hid HI.out.n2
  have hn40 : n2 ≤ 40 := by rw [← HN2.out]; exact hl40
  clear hl40
  go_loopw [21] (fun iv wr => ∃ (k : Nat) (V : Value), iv = .int .i64 k ∧ k ≤ n2 ∧ Hid (SSt w wr Bl w.heap.size #[.slice A0 n0 c0, .slice A1 n1 c1, .slice A2 n2 c2] V ((h.l.take k).foldl (addT h.ss h.ks) []))) (fun iv _ => n2 - (intOf iv).toNat)
  case atStart => exact ⟨0, _, rfl, by omega, HS2⟩
  case round =>
   obtain ⟨k, V, rfl, hk, hS⟩ := hrel
   by_cases hlt : k < n2
   ·have h01 : (k : Int) < (n2 : Int) := by omega
    have hk0 : (0 : Int) ≤ (k : Int) := Int.natCast_nonneg _
    have hwk : IntKind.i64.wrap ((k : Int) + 1) = (k : Int) + 1 := IntWalk.i64_in _ (by omega)
    obtain ⟨t, ht⟩ : ∃ t, h.l[k]? = some t := ⟨_, List.getElem?_eq_getElem (by rw [HN2.out]; exact hlt)⟩
    have hmem := List.mem_of_getElem? ht
    obtain ⟨j, hj, hjl⟩ := may_ses HE.out hmem
    have hm20 := HOPS.out t hmem
    have HKEY := Lib.hid (fun (x : Op4) (hx : x ∈ t.ops) => may_key HE.out hmem hx)
    obtain ⟨s0, hs0⟩ : ∃ s0, h.ss[j]? = some s0 := ⟨_, List.getElem?_eq_getElem hjl⟩
    have HFT := Lib.hid (fold_take (f := addT h.ss h.ks) (a := []) ht)
    have hlen := fold_len h.ss h.ks (h.l.take k) (fun x hx => HOPS.out x (List.mem_of_mem_take hx)) []
    rw [List.length_take] at hlen
    have hlen2 : ((h.l.take k).foldl (addT h.ss h.ks) []).length ≤ 880 := by
     have := Nat.min_le_left k h.l.length
     simp at hlen
     omega
    have HADT : Hid (addT h.ss h.ks ((h.l.take k).foldl (addT h.ss h.ks) []) t = adE (t.ops.foldl (addO h.ks s0) (adE ((h.l.take k).foldl (addT h.ss h.ks) []) 1 s0 ⟨#[]⟩ 0 0)) (endK t.f) s0 ⟨#[]⟩ 0 0) := Lib.hid (by
     unfold addT
     rw [hj, nth_at hs0])
    rw [HADT.out] at HFT
    generalize (h.l.take k).foldl (addT h.ss h.ks) [] = acc at *
    have HAL := Lib.hid hlen2
    obtain ⟨b, off, A', cp, hA2, hbB, hbw, hTA, hTO⟩ := HI.out.up.at_.r2.at_ ht
    obtain ⟨a0, a1, a2⟩ := hTA.only hS.out.only hbw (by simp)
    have hbr : b < wr.heap.size := Nat.lt_of_lt_of_le hbw hS.out.only.size
    have hcap := Nat.le_trans hTO.le hTO.cap
    unfold maxLen at hcap
    have HTO := Lib.hid hTO
    obtain ⟨ts, tf, ops⟩ := t
    dsimp only at a0 a1 a2 hj hm20 HTO HKEY HFT hcap
    subst hj hA2
    generalize hmm : ops.length = m at *
    have HMM := Lib.hid hmm
    clear ht hmem hlen hlen2 HADT hTA hTO hmm
    go_upto_region 9 with (fail)
    have bT := Blk.made wr 43 #[.int .i64 (j : Int), .int .i64 tf, .slice A' m cp]
    have hS3 := hS.out.keep (((Only.refl [] wr).alloc (.cells #[.int .i64 (j : Int), .int .i64 tf, .slice A' m cp] 43)))
    clear a0 a1 a2 hS
    generalize (wr.alloc (.cells #[.int .i64 (j : Int), .int .i64 tf, .slice A' m cp] 43)) = w3 at *
    generalize wr.heap.size = gt at *
    have HS3 := Lib.hid hS3
    have lT := bT.lt
    have t0 := bT.at_ 0
    have t1 := bT.at_ 1
    have t2 := bT.at_ 2
    have lH := hS3.gh.lt
    have b0 := hS3.gh.at_ 0
    obtain ⟨bs, offs, rfl, hbs1, hbs2, hcs⟩ := HI.out.up.at_.r0.open_ (k := j) (by rw [strs, List.length_map]; exact hjl)
    have s1 : w3.cell? ⟨bs, offs + j, none⟩ = some (.string s0) := (hS3.only.cell (p := ⟨bs, offs + j, none⟩) hbs2 (by simp)).trans (hcs j _ (by rw [strs, List.getElem?_map, hs0]; rfl))
    have lS : bs < w3.heap.size := Nat.lt_of_lt_of_le hbs2 hS3.only.size
    have hn0 := HI.out.n0
    rw [hn0] at hjl
    have hj0 : (0 : Int) ≤ (j : Int) := Int.natCast_nonneg _
    have hj1 : (j : Int) < (n0 : Int) := by omega
    have HBT := Lib.hid bT
    simp at t0 t1 t2 b0
    clear hS3 bT hcs hs0
    go_wp2_with fail
    refine (sadd_st 1 0 0 0 s0 ⟨#[]⟩ w w3 Bl w.heap.size _ V acc HS3.out (by have := HAL.out; omega)).mono ?_
    rintro e w4 ⟨rfl, V4, hS4, O4⟩
    have hBT4 := O4.blk HBT.out (HS3.out.apart HBT.out (by decide) (by decide))
    clear t0 t1 t2 b0 lT lH s1 lS O4 hbr
    have HS4 := Lib.hid hS4
    have HBT4 := Lib.hid hBT4
    have l4 := hBT4.lt
    have t2 := hBT4.at_ 2
    simp at t2
    have hal1 : (adE acc 1 s0 ⟨#[]⟩ 0 0).length ≤ 881 := by have := HAL.out; rw [adE_len]; omega
    clear hS4 hBT4 HS3 HBT
    generalize adE acc 1 s0 ⟨#[]⟩ 0 0 = acc1 at *
    have HAL1 := Lib.hid hal1
    clear hal1
    obtain ⟨wo, hwo⟩ : ∃ wo : World, wo = wr := ⟨_, rfl⟩
    subst hwo
    go_wp2_with fail
    clear t2 l4
    go_loopw [38] (fun iv wr => ∃ (q : Nat) (V : Value), iv = .int .i64 q ∧ q ≤ m ∧ Hid (SSt w wr Bl w.heap.size #[.slice (some ⟨bs, offs, none⟩) n0 c0, .slice A1 n1 c1, .slice (some ⟨b, off, none⟩) n2 c2] V ((ops.take q).foldl (addO h.ks s0) acc1)) ∧ Hid (Blk wr gt 43 #[.int .i64 (j : Int), .int .i64 tf, .slice A' m cp])) (fun iv _ => m - (intOf iv).toNat)
    case atStart => exact ⟨0, _, rfl, by omega, HS4, HBT4⟩
    case round =>
     obtain ⟨q, V5, rfl, hq, hS5, hB5⟩ := hrel
     by_cases hlq : q < m
     ·have h02 : (q : Int) < (m : Int) := by omega
      have hq0 : (0 : Int) ≤ (q : Int) := Int.natCast_nonneg _
      have hwq : IntKind.i64.wrap ((q : Int) + 1) = (q : Int) + 1 := IntWalk.i64_in _ (by omega)
      obtain ⟨x, hx⟩ : ∃ x, ops[q]? = some x := ⟨_, List.getElem?_eq_getElem (by rw [HMM.out]; exact hlq)⟩
      obtain ⟨i, hi, hil⟩ := HKEY.out x (List.mem_of_getElem? hx)
      obtain ⟨y, hy⟩ : ∃ y, h.ks[i]? = some y := ⟨_, List.getElem?_eq_getElem hil⟩
      have HFO := Lib.hid (fold_take (f := addO h.ks s0) (a := acc1) hx)
      have hlo := addO_len h.ks s0 (ops.take q) acc1
      rw [List.length_take] at hlo
      have hlo2 : ((ops.take q).foldl (addO h.ks s0) acc1).length ≤ 1000 := by
       have := HAL1.out
       have := Nat.min_le_left q ops.length
       omega
      have HAO : Hid (addO h.ks s0 ((ops.take q).foldl (addO h.ks s0) acc1) x = adE ((ops.take q).foldl (addO h.ks s0) acc1) (kindO x) s0 y x.vk x.vn) := Lib.hid (by
       unfold addO
       rw [hi, nth_at hy])
      rw [HAO.out] at HFO
      generalize (ops.take q).foldl (addO h.ks s0) acc1 = ac at *
      have HLO := Lib.hid hlo2
      obtain ⟨bo, offo, e1, hbo1, hbo2, hOA⟩ := row_op HTO.out.row hx
      obtain ⟨p0, p1, p2, p3⟩ := hOA.only hS5.out.only hbo2 (by simp)
      have hbo3 : bo < wr.heap.size := Nat.lt_of_lt_of_le hbo2 hS5.out.only.size
      dsimp only at e1
      subst e1
      obtain ⟨xw, xk, xvk, xvn⟩ := x
      dsimp only at p0 p1 p2 p3 hi
      subst hi
      clear hx hlo hlo2 HAO hOA
      go_upto_region 14 with (fail)
      have bP := Blk.made wr 50 #[.bool xw, .int .i64 (i : Int), .int .i64 xvk, .int .i64 xvn]
      have O6 : Only [] wr (wr.alloc (.cells #[.bool xw, .int .i64 (i : Int), .int .i64 xvk, .int .i64 xvn] 50)) := (Only.refl [] wr).alloc _
      have hS6 := hS5.out.keep O6
      have HB6 := Lib.hid (O6.blk hB5.out (by simp))
      clear p0 p1 p2 p3 hS5 hB5 O6
      generalize (wr.alloc (.cells #[.bool xw, .int .i64 (i : Int), .int .i64 xvk, .int .i64 xvn] 50)) = w6 at *
      generalize wr.heap.size = gp at *
      have HS6 := Lib.hid hS6
      have HP6 := Lib.hid bP
      have HKC : Hid (∃ bk offk, A1 = some ⟨bk, offk, none⟩ ∧ ∀ w', Only (Bl :: V5.ownBlock.toList) w6 w' → w'.cell? ⟨bk, offk + i, none⟩ = some (.string y) ∧ bk < w'.heap.size) := Lib.hid (by
       obtain ⟨bk, offk, e2, hbk1, hbk2, hck⟩ := HI.out.up.at_.r1.open_ (k := i) (by rw [strs, List.length_map]; exact hil)
       refine ⟨bk, offk, e2, fun w' O => ⟨?_, ?_⟩⟩
       ·exact (O.cell (p := ⟨bk, offk + i, none⟩) (Nat.lt_of_lt_of_le hbk2 HS6.out.only.size) (fun hm => absurd hbk2 (Nat.not_lt.2 (HS6.out.low _ hm)))).trans ((HS6.out.only.cell (p := ⟨bk, offk + i, none⟩) hbk2 (by simp)).trans (hck i _ (by rw [strs, List.getElem?_map, hy]; rfl)))
       ·exact Nat.lt_of_lt_of_le hbk2 (Nat.le_trans HS6.out.only.size O.size))
      obtain ⟨bk, offk, e2, hkd⟩ := HKC.out
      have HKD := Lib.hid hkd
      clear hkd HKC
      subst e2
      have hn1 := HI.out.n1
      rw [hn1] at hil
      have hi0 : (0 : Int) ≤ (i : Int) := Int.natCast_nonneg _
      have hi1 : (i : Int) < (n1 : Int) := by omega
      clear hS6 bP hy
      refine wp_region_noPanic ?_
      refine wp_region_timed (F := [⟨[], [], fun w' => Only (Bl :: V5.ownBlock.toList) w6 w'⟩]) (by kernel_rfl) (timed_holds ((Only.refl (Bl :: V5.ownBlock.toList) w6).drew) (timed_nil)) ?_
      refine timed_pure (i := 0) (v := ?_) rfl (by kernel_rfl) (by kernel_rfl) (by kernel_rfl) (fun _ _ _ h => h) (by kernel_rfl) (by kernel_rfl) ?_ ?_
      rotate_left
      ·(intro w; go_simp; try with_reducible rfl)
      try simp only [Act.put, tdy]
      refine timed_read (i := 1) (v := ?_) 0 rfl (by kernel_rfl) (by kernel_rfl) (by kernel_rfl) (fun _ _ _ h => h) (by kernel_rfl) (by kernel_rfl) rfl (by kernel_rfl) ?_ ?_
      rotate_left
      ·(intro wq hSw; (try dsimp only at hSw); have hh := hSw.blk HS6.out.gh (HS6.out.apart HS6.out.gh (by decide) (by decide)); have lh := hh.lt; have b1 := hh.at_ 1; have hp := hSw.blk HP6.out (HS6.out.apart HP6.out (by decide) (by decide)); have lp := hp.lt; have p0 := hp.at_ 0; have p1 := hp.at_ 1; have p2 := hp.at_ 2; have p3 := hp.at_ 3; obtain ⟨k1, k2⟩ := HKD.out _ hSw; simp at b1 p0 p1 p2 p3; clear hh hp; clear hSw; go_simp; try with_reducible rfl)
      try simp only [Act.put, tdy]
      refine timed_pure (i := 3) (v := ?_) rfl (by kernel_rfl) (by kernel_rfl) (by kernel_rfl) (fun _ _ _ h => h) (by kernel_rfl) (by kernel_rfl) ?_ ?_
      rotate_left
      ·(intro w; go_simp; try with_reducible rfl)
      try simp only [Act.put, tdy]
      refine timed_pure (i := 4) (v := ?_) rfl (by kernel_rfl) (by kernel_rfl) (by kernel_rfl) (fun _ _ _ h => h) (by kernel_rfl) (by kernel_rfl) ?_ ?_
      rotate_left
      ·(intro w; go_simp; try with_reducible rfl)
      try simp only [Act.put, tdy]
      refine timed_read (i := 5) (v := ?_) 0 rfl (by kernel_rfl) (by kernel_rfl) (by kernel_rfl) (fun _ _ _ h => h) (by kernel_rfl) (by kernel_rfl) rfl (by kernel_rfl) ?_ ?_
      rotate_left
      ·(intro wq hSw; (try dsimp only at hSw); have hh := hSw.blk HS6.out.gh (HS6.out.apart HS6.out.gh (by decide) (by decide)); have lh := hh.lt; have b1 := hh.at_ 1; have hp := hSw.blk HP6.out (HS6.out.apart HP6.out (by decide) (by decide)); have lp := hp.lt; have p0 := hp.at_ 0; have p1 := hp.at_ 1; have p2 := hp.at_ 2; have p3 := hp.at_ 3; obtain ⟨k1, k2⟩ := HKD.out _ hSw; simp at b1 p0 p1 p2 p3; clear hh hp; clear hSw; go_simp; try with_reducible rfl)
      try simp only [Act.put, tdy]
      refine timed_pure (i := 6) (v := ?_) rfl (by kernel_rfl) (by kernel_rfl) (by kernel_rfl) (fun _ _ _ h => h) (by kernel_rfl) (by kernel_rfl) ?_ ?_
      rotate_left
      ·(intro w; go_simp; try with_reducible rfl)
      try simp only [Act.put, tdy]
      refine timed_read (i := 7) (v := ?_) 0 rfl (by kernel_rfl) (by kernel_rfl) (by kernel_rfl) (fun _ _ _ h => h) (by kernel_rfl) (by kernel_rfl) rfl (by kernel_rfl) ?_ ?_
      rotate_left
      ·(intro wq hSw; (try dsimp only at hSw); have hh := hSw.blk HS6.out.gh (HS6.out.apart HS6.out.gh (by decide) (by decide)); have lh := hh.lt; have b1 := hh.at_ 1; have hp := hSw.blk HP6.out (HS6.out.apart HP6.out (by decide) (by decide)); have lp := hp.lt; have p0 := hp.at_ 0; have p1 := hp.at_ 1; have p2 := hp.at_ 2; have p3 := hp.at_ 3; obtain ⟨k1, k2⟩ := HKD.out _ hSw; simp at b1 p0 p1 p2 p3; clear hh hp; clear hSw; go_simp; try with_reducible rfl)
      try simp only [Act.put, tdy]
      refine timed_pure (i := 8) (v := ?_) rfl (by kernel_rfl) (by kernel_rfl) (by kernel_rfl) (fun _ _ _ h => h) (by kernel_rfl) (by kernel_rfl) ?_ ?_
      rotate_left
      ·(intro w; go_simp; try with_reducible rfl)
      try simp only [Act.put, tdy]
      refine timed_read (i := 9) (v := ?_) 0 rfl (by kernel_rfl) (by kernel_rfl) (by kernel_rfl) (fun _ _ _ h => h) (by kernel_rfl) (by kernel_rfl) rfl (by kernel_rfl) ?_ ?_
      rotate_left
      ·(intro wq hSw; (try dsimp only at hSw); have hh := hSw.blk HS6.out.gh (HS6.out.apart HS6.out.gh (by decide) (by decide)); have lh := hh.lt; have b1 := hh.at_ 1; have hp := hSw.blk HP6.out (HS6.out.apart HP6.out (by decide) (by decide)); have lp := hp.lt; have p0 := hp.at_ 0; have p1 := hp.at_ 1; have p2 := hp.at_ 2; have p3 := hp.at_ 3; obtain ⟨k1, k2⟩ := HKD.out _ hSw; simp at b1 p0 p1 p2 p3; clear hh hp; clear hSw; go_simp; try with_reducible rfl)
      try simp only [Act.put, tdy]
      refine timed_pure (i := 10) (v := ?_) rfl (by kernel_rfl) (by kernel_rfl) (by kernel_rfl) (fun _ _ _ h => h) (by kernel_rfl) (by kernel_rfl) ?_ ?_
      rotate_left
      ·(intro w; go_simp; try with_reducible rfl)
      try simp only [Act.put, tdy]
      refine timed_read (i := 11) (v := ?_) 0 rfl (by kernel_rfl) (by kernel_rfl) (by kernel_rfl) (fun _ _ _ h => h) (by kernel_rfl) (by kernel_rfl) rfl (by kernel_rfl) ?_ ?_
      rotate_left
      ·(intro wq hSw; (try dsimp only at hSw); have hh := hSw.blk HS6.out.gh (HS6.out.apart HS6.out.gh (by decide) (by decide)); have lh := hh.lt; have b1 := hh.at_ 1; have hp := hSw.blk HP6.out (HS6.out.apart HP6.out (by decide) (by decide)); have lp := hp.lt; have p0 := hp.at_ 0; have p1 := hp.at_ 1; have p2 := hp.at_ 2; have p3 := hp.at_ 3; obtain ⟨k1, k2⟩ := HKD.out _ hSw; simp at b1 p0 p1 p2 p3; clear hh hp; clear hSw; go_simp; try with_reducible rfl)
      try simp only [Act.put, tdy]
      refine timed_step (i := 2) (by kernel_rfl) rfl (fun K hK => ?_)
      go_simp
      refine (skind_any ⟨xw, (i : Int), xvk, xvn⟩ _).mono ?_
      rintro e w7 ⟨rfl, O7⟩
      have HS7 := Lib.hid (HS6.out.keep (((Only.refl [] w6).drew).trans O7))
      have O7 := O7.wide (T := (Bl :: V5.ownBlock.toList)) (fun i hi => by cases hi)
      refine hK.out _ _ (timed_holds (((Only.refl (Bl :: V5.ownBlock.toList) w6).drew).trans O7) (timed_nil)) ?_
      clear hK K
      try simp only [Act.put, tdy]
      refine timed_pure (i := 12) (v := ?_) rfl (by kernel_rfl) (by kernel_rfl) (by kernel_rfl) (fun _ _ _ h => h) (by kernel_rfl) (by kernel_rfl) ?_ ?_
      rotate_left
      ·(intro w; go_simp; try with_reducible rfl)
      try simp only [Act.put, tdy]
      refine timed_step (i := 13) (by kernel_rfl) rfl (fun K hK => ?_)
      go_simp
      refine (sadd_st _ xvk xvn 0 s0 y w w7 Bl w.heap.size _ V5 ac HS7.out (by have := HLO.out; omega)).mono ?_
      rintro e w8 ⟨rfl, V8, hS8, O8⟩
      have HS8 := Lib.hid hS8
      clear hS8
      refine hK.out _ _ (timed_holds ((((Only.refl (Bl :: V5.ownBlock.toList) w6).drew).trans O7).trans O8) (timed_nil)) ?_
      clear hK K
      try simp only [Act.put, tdy]
      refine timed_done (by kernel_rfl) ?_ _
      refine NoPanic.normal ?_
      have HNW := Lib.hid ( ((((Only.refl (Bl :: V5.ownBlock.toList) w6).drew).trans O7).trans O8))
      go_wp2
      go_roundw
      case rel => exact ⟨q + 1, V8, by go_num, by omega, Lib.hid (by rw [HFO.out]; exact HS8.out), Lib.hid (HNW.out.blk HB6.out (HS6.out.apart HB6.out (by decide) (by decide)))⟩
      case measure => simp [intOf]; omega
     ·have hqm : q = m := by omega
      subst hqm
      have hd : decide ((q : Int) < (q : Int)) = false := by simp
      have hfo : (ops.take q).foldl (addO h.ks s0) acc1 = ops.foldl (addO h.ks s0) acc1 := by rw [← HMM.out, List.take_length]
      rw [hfo] at hS5
      have hla := addO_len h.ks s0 ops acc1
      have HLA : Hid ((ops.foldl (addO h.ks s0) acc1).length ≤ 1000) := Lib.hid (by have := HAL1.out; have := HMM.out; omega)
      clear hla hfo
      generalize ops.foldl (addO h.ks s0) acc1 = ac2 at *
      have l5 := hB5.out.lt
      have t1 := hB5.out.at_ 1
      simp at t1
      go_wp2_with fail
      refine (send_any tf wr).mono ?_
      rintro e w7 ⟨rfl, O7⟩
      have HS7 := Lib.hid (hS5.out.keep O7)
      clear l5 t1 O7 hS5 hB5
      go_wp2_with fail
      refine (sadd_st (endK tf) 0 0 0 s0 ⟨#[]⟩ w w7 Bl w.heap.size _ V5 ac2 HS7.out (by have := HLA.out; omega)).mono ?_
      rintro e w8 ⟨rfl, V8, hS8, -⟩
      have HS8 := Lib.hid hS8
      clear hS8
      go_wp2
      go_roundw
      case rel => exact ⟨k + 1, V8, by go_num, by omega, Lib.hid (by rw [HFT.out]; exact HS8.out)⟩
      case measure => simp [intOf]; omega
   ·have hkn : k = n2 := by omega
    subst hkn
    have hd : decide ((k : Int) < (k : Int)) = false := by simp
    have hfo : (h.l.take k).foldl (addT h.ss h.ks) [] = evsH h := by rw [← HN2.out, List.take_length]; rfl
    rw [hfo] at hS
    obtain ⟨Av, cv, rfl, -⟩ := own_row hS.out.own
    have lB := hS.out.bl.lt
    have cB := hS.out.bl.at_ 0
    simp at cB
    clear hfo
    go_wp2
    go_ret2
    exact ⟨_, _, rfl, hS.out.only, rfl, hS.out.own⟩
 ·have hne : (errH h != 0) = true := by simpa using he
  have HO0 := Lib.hid ((Only.refl [] w).alloc (.cells #[.slice A0 n0 c0, .slice A1 n1 c1, .slice A2 n2 c2] 25))
  rw [if_neg he]
  generalize errH h = er at *
  clear he
  go_enter Tryz.func7, Tryz.ntmps7
  go_wp2_with fail
  refine (HM.out _ HO0.out).mono ?_
  rintro e w1 ⟨rfl, O1⟩
  have HO1 := Lib.hid (HO0.out.trans O1)
  clear O1 HM HO0
  go_wp2
  go_ret2
  exact ⟨_, _, rfl, HO1.out, rfl, rfl, .inl ⟨rfl, rfl⟩⟩
end Go.Proofs.YthaeomdpaadilaaGreatDoor
