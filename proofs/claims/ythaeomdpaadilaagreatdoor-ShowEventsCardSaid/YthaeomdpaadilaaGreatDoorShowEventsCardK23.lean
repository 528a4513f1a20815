/- The document's events of a history (ref12): draft. -/
import Derived.Test.YthaeomdpaadilaaGreatDoorShowEventsCardK10
import Derived.Test.YthaeomdpaadilaaGreatDoorShowEventsCardK18
import Derived.Test.YthaeomdpaadilaaGreatDoorShowEventsCardK21
import Derived.Test.YthaeomdpaadilaaGreatDoorShowEventsCardK19
import Derived.Test.YthaeomdpaadilaaGreatDoorShowEventsCardK22
set_option linter.unusedVariables false
set_option linter.unusedSimpArgs false
namespace Go.Proofs.YthaeomdpaadilaaGreatDoor
open Go.RowKit
open Go.Lib hiding intOf
attribute [local go_sem ↓] Go.wp_at_zero Go.wp_at_succ

theorem end_fate {f : Int} (h : fateB f = true) : 3 + f = endK f := by
  unfold fateB at h
  unfold endK
  have h1 := of_decide_eq_true h
  have h2 : f = 1 ∨ f = 2 ∨ f = 3 := by omega
  rcases h2 with rfl | rfl | rfl <;> rfl
theorem may_fate {h : Hst} (he : errH h = 0) {t : Tx} (ht : t ∈ h.l) : fateB t.f = true := by
  have h1 := and2 (may_parts he).2.2.1
  have h2 := and2 h1.2
  have h3 := List.all_eq_true.1 h2.1 t ht
  unfold txB at h3
  exact (and2 (and2 h3).2).1
/-- The first lines are set. -/
def linedTo (l : List Ev6) (j : Nat) : List Ev6 := l.mapIdx fun i x => if i < j then { x with ln := (i : Int) + 1 } else x
theorem linedTo_zero (l : List Ev6) : linedTo l 0 = l := by
  unfold linedTo
  apply List.ext_getElem?
  intro i
  rw [List.getElem?_mapIdx]
  cases l[i]? <;> simp
theorem linedTo_len (l : List Ev6) (j : Nat) : (linedTo l j).length = l.length := by simp [linedTo]
theorem linedTo_all (l : List Ev6) : linedTo l l.length = lined l := by
  unfold linedTo lined
  apply List.ext_getElem?
  intro i
  rw [List.getElem?_mapIdx, List.getElem?_mapIdx]
  cases h : l[i]? with
  | none => rfl
  | some x =>
    have := (List.getElem?_eq_some_iff.1 h).1
    simp [this]
theorem linedTo_succ {l : List Ev6} {j : Nat} {x : Ev6} (hx : (linedTo l j)[j]? = some x) : (linedTo l j).set j { x with ln := (j : Int) + 1 } = linedTo l (j + 1) := by
  apply List.ext_getElem?
  intro i
  have hl := (List.getElem?_eq_some_iff.1 hx).1
  unfold linedTo at *
  rw [List.getElem?_mapIdx] at hx
  rw [List.getElem?_set, List.getElem?_mapIdx, List.getElem?_mapIdx]
  by_cases hij : j = i
  · subst hij
    rw [if_pos rfl, if_pos hl]
    cases h : l[j]? with
    | none => rw [h] at hx; cases hx
    | some y => rw [h] at hx; simp at hx; subst hx; simp
  · rw [if_neg hij]
    cases h : l[i]? with
    | none => rfl
    | some y =>
      simp only [Option.map_some, Option.some.injEq]
      by_cases h2 : i < j
      · rw [if_pos h2, if_pos (by omega)]
      · rw [if_neg h2, if_neg (by omega)]
theorem logC_line (l : List Ev6) (j : Nat) (x : Ev6) (v : Int) (hx : l[j]? = some x) : (logC l).set (j * 6 + 5) (.int .i64 v) = logC (l.set j { x with ln := v }) := flat_set _ 6 (fun _ => rfl) l j 5 x _ _ hx (by omega) rfl
/-- The world while events are appended: the row, the history's own box. -/
structure RSt (w0 w : World) (gh : Nat) (H : Array Value) (V : Value) (acc : List Ev6) : Prop where
  own : w.ownsRow w0.heap.size 47 6 V acc.length (logC acc)
  only : Only [] w0 w
  gh : Blk w gh 25 H
theorem RSt.keep {w0 w w' : World} {gh : Nat} {H : Array Value} {V : Value} {acc : List Ev6} (h : RSt w0 w gh H V acc) (O : Only [] w w') : RSt w0 w' gh H V acc :=
  ⟨own_only h.own O (by simp), h.only.trans O, O.blk h.gh (by simp)⟩
theorem RSt.grown {w0 w w' : World} {gh : Nat} {H : Array Value} {V V' : Value} {acc : List Ev6} {k vk vn : Int} {s y : ByteArray} (h : RSt w0 w gh H V acc) (hown : w'.ownsRow w0.heap.size 47 6 V' (acc.length + 1) (logC acc ++ [.int .i64 k, .string s, .string y, .int .i64 vk, .int .i64 vn, .int .i64 0]))
    (hg : w.grownBy w' V.ownBlock) : RSt w0 w' gh H V' (adZ acc k s y vk vn) := by
  refine ⟨?_, h.only.step (only_grown hg) (fun i hm hl => ?_), (only_grown hg).blk h.gh (own_apart h.own h.gh (by decide))⟩
  · unfold adZ
    rw [List.length_append, logC_snoc]
    exact hown
  · have := own_new h.own (S := []) i hm
    exact this hl
theorem RSt.apart {w0 w : World} {gh g : Nat} {H cs : Array Value} {V : Value} {acc : List Ev6} {t : TypeId} (h : RSt w0 w gh H V acc) (hb : Blk w g t cs) (h1 : t ≠ 47) : g ∉ V.ownBlock.toList :=
  own_apart h.own hb (fun e => h1 e.symm)

set_option maxRecDepth 10000 in
set_option maxHeartbeats 4000000 in
theorem revents_any (A0 A1 A2 : Option Addr) (n0 n1 n2 c0 c1 c2 B : Nat) (h : Hst) (w : World) (hg : HIn w B A0 A1 A2 n0 n1 n2 h) :
    Calls Tryz.prog 8 #[hval A0 A1 A2 n0 n1 n2 c0 c1 c2] w fun e w' => ∃ V n, e = .returned (.tuple #[V, .int .i64 (errH h)]) ∧ Only [] w w' ∧ n = (if errH h = 0 then evsH h else []).length ∧
      w'.ownsRow w.heap.size 47 6 V n (logC (if errH h = 0 then evsH h else [])) := by
  obtain ⟨ie, hie, he0, he1, he2⟩ := info_parts info_event
  have HI := Lib.hid hg
  have HM := Lib.hid (fun w' (O : Only [] w w') => refmay_any A0 A1 A2 n0 n1 n2 c0 c1 c2 B h w' (hg.same O))
  unfold hval at HM ⊢
  clear hg
  have HO0 := Lib.hid ((Only.refl [] w).alloc (.cells #[.slice A0 n0 c0, .slice A1 n1 c1, .slice A2 n2 c2] 25))
  have HB0 := Lib.hid (Blk.made w 25 #[.slice A0 n0 c0, .slice A1 n1 c1, .slice A2 n2 c2])
  by_cases he : errH h = 0
  · obtain ⟨hl40, hops⟩ := may_len he
    rw [if_pos he]
    rw [he] at HM ⊢
    have HE := Lib.hid he
    have HOPS := Lib.hid hops
    clear he hops
    go_enter Tryz.func8, Tryz.ntmps8
    go_wp2_with fail
    refine (HM.out _ HO0.out).mono ?_
    rintro e w1 ⟨rfl, O1⟩
    have HB1 := Lib.hid (O1.blk HB0.out (by simp))
    have HO1 := Lib.hid (HO0.out.trans O1)
    have hsz1 := O1.size
    rw [World.size_alloc] at hsz1
    clear O1 HB0 HO0 HM
    go_upto_region 5 with (fail)
    have hS2 : RSt w (w1.alloc (.cells #[] 47)) w.heap.size #[.slice A0 n0 c0, .slice A1 n1 c1, .slice A2 n2 c2] (.slice (some ⟨w1.heap.size, 0, none⟩) 0 0) ((h.l.take 0).foldl (zdT h.ss h.ks) []) :=
      ⟨own_lower (World.ownsRow_lit w1 (e := 47) (size := 6) #[] 0 (Nat.le_refl _) (by unfold maxLen; omega) rfl) (by omega), HO1.out.alloc _, HB1.out.alloc _⟩
    have HS2 := Lib.hid hS2
    clear hS2
    generalize (w1.alloc (.cells #[] 47)) = w2 at *
    have HN2 := Lib.hid HI.out.n2
    have hn40 : n2 ≤ 40 := by rw [← HN2.out]; exact hl40
    clear hl40
    go_wp2_with fail
    go_loopw [5, 6] (fun V iv wr => ∃ (k : Nat), iv = .int .i64 k ∧ k ≤ n2 ∧ Hid (RSt w wr w.heap.size #[.slice A0 n0 c0, .slice A1 n1 c1, .slice A2 n2 c2] V ((h.l.take k).foldl (zdT h.ss h.ks) []))) (fun _ iv _ => n2 - (intOf iv).toNat)
    case atStart => exact ⟨0, rfl, by omega, HS2⟩
    case round =>
      obtain ⟨k, rfl, hk, hS⟩ := hrel
      obtain ⟨A5, c5, rfl, -⟩ := own_row hS.out.own
      have lH := hS.out.gh.lt
      have b2 := hS.out.gh.at_ 2
      simp at b2
      by_cases hlt : k < n2
      · have h01 : (k : Int) < (n2 : Int) := by omega
        have hk0 : (0 : Int) ≤ (k : Int) := Int.natCast_nonneg _
        have hwk : IntKind.i64.wrap ((k : Int) + 1) = (k : Int) + 1 := IntWalk.i64_in _ (by omega)
        obtain ⟨t, ht⟩ : ∃ t, h.l[k]? = some t := ⟨_, List.getElem?_eq_getElem (by rw [HN2.out]; exact hlt)⟩
        have hmem := List.mem_of_getElem? ht
        obtain ⟨j, hj, hjl⟩ := may_ses HE.out hmem
        have hm20 := HOPS.out t hmem
        have HKEY := Lib.hid (fun (x : Op4) (hx : x ∈ t.ops) => may_key HE.out hmem hx)
        have HFT2 := Lib.hid (may_fate HE.out hmem)
        obtain ⟨s0, hs0⟩ : ∃ s0, h.ss[j]? = some s0 := ⟨_, List.getElem?_eq_getElem hjl⟩
        have HFT := Lib.hid (fold_take (f := zdT h.ss h.ks) (a := []) ht)
        have hlen := fold_len h.ss h.ks (h.l.take k) (fun x hx => HOPS.out x (List.mem_of_mem_take hx)) []
        have hlz := congrArg List.length (lined_txs h.ss h.ks (h.l.take k) [])
        rw [lined_len] at hlz
        have hlen2 : ((h.l.take k).foldl (zdT h.ss h.ks) []).length ≤ 880 := by
          have := Nat.min_le_left k h.l.length
          rw [hlz]
          rw [List.length_take] at hlen
          simp [lined] at hlen ⊢
          omega
        have HADT : Hid (zdT h.ss h.ks ((h.l.take k).foldl (zdT h.ss h.ks) []) t = adZ (t.ops.foldl (zdO h.ks s0) (adZ ((h.l.take k).foldl (zdT h.ss h.ks) []) 1 s0 ⟨#[]⟩ 0 0)) (endK t.f) s0 ⟨#[]⟩ 0 0) := Lib.hid (by
          unfold zdT
          rw [hj, nth_at hs0])
        rw [HADT.out] at HFT
        clear hlz hlen
        generalize (h.l.take k).foldl (zdT h.ss h.ks) [] = acc at *
        have HAL := Lib.hid hlen2
        obtain ⟨b, off, A', cp, hA2, hbB, hbw, hTA, hTO⟩ := HI.out.up.at_.r2.at_ ht
        obtain ⟨a0, a1, a2⟩ := hTA.only hS.out.only hbw (by simp)
        have hbr : b < wr.heap.size := Nat.lt_of_lt_of_le hbw hS.out.only.size
        have hcap := Nat.le_trans hTO.le hTO.cap
        unfold maxLen at hcap
        have HTO := Lib.hid hTO
        obtain ⟨ts, tf, ops⟩ := t
        dsimp only at a0 a1 a2 hj hm20 HTO HKEY HFT HFT2 hcap
        subst hj hA2
        generalize hmm : ops.length = m at *
        have HMM := Lib.hid hmm
        clear ht hmem hlen2 HADT hTA hTO hmm
        go_upto_region 9 with (fail)
        have bT := Blk.made wr 43 #[.int .i64 (j : Int), .int .i64 tf, .slice A' m cp]
        have hS3 := hS.out.keep (((Only.refl [] wr).alloc (.cells #[.int .i64 (j : Int), .int .i64 tf, .slice A' m cp] 43)))
        clear a0 a1 a2 hS lH b2
        generalize (wr.alloc (.cells #[.int .i64 (j : Int), .int .i64 tf, .slice A' m cp] 43)) = w3 at *
        generalize wr.heap.size = gt at *
        have HS3 := Lib.hid hS3
        have lT := bT.lt
        have t0 := bT.at_ 0
        have lH := hS3.gh.lt
        have b0 := hS3.gh.at_ 0
        obtain ⟨bs, offs, rfl, hbs1, hbs2, hcs⟩ := HI.out.up.at_.r0.open_ (k := j) (by rw [strs, List.length_map]; exact hjl)
        have s1 : w3.cell? ⟨bs, offs + j, none⟩ = some (.string s0) := (hS3.only.cell (p := ⟨bs, offs + j, none⟩) hbs2 (by simp)).trans (hcs j _ (by rw [strs, List.getElem?_map, hs0]; rfl))
        have lS : bs < w3.heap.size := Nat.lt_of_lt_of_le hbs2 hS3.only.size
        have hn0 := HI.out.n0
        rw [hn0] at hjl
        have hj0 : (0 : Int) ≤ (j : Int) := Int.natCast_nonneg _
        have hj1 : (j : Int) < (n0 : Int) := by omega
        have HBT := Lib.hid bT
        have hgw : w.heap.size ≤ w3.heap.size := hS3.only.size
        simp at t0 b0
        clear hS3 bT hcs hs0
        go_wp2_with (at_builtin; refine wpList_append_row _ rfl (.tmp 37) (.tmp 40) _ rfl w.heap.size 47 ie _ 6 64 Tryz.underlying27 hie he0 he1 he2 rfl (by omega) _ _ _ rfl (own_only HS3.out.own ((Only.refl [] _).alloc _) (by simp)) (w3.heap.size + 1) (some ⟨w3.heap.size, 0, none⟩) 1 1 [.int .i64 1, .string s0, .string ⟨#[]⟩, .int .i64 0, .int .i64 0, .int .i64 0] rfl rfl (row_lit w3 47 #[.int .i64 1, .string s0, .string ⟨#[]⟩, .int .i64 0, .int .i64 0, .int .i64 0]) (by simp [Value.oneCell']) (by have := HAL.out; unfold maxLen; omega) (by have := HAL.out; omega) (by first | omega | (rw [World.size_alloc]; omega) | (simp; omega)) ?_; intro v4 w4 hown4 hgrow4 hat4; obtain ⟨A4, c4, e4, -, -, -, -⟩ := own_row hown4; subst e4; have HS4 := Lib.hid ((HS3.out.keep ((Only.refl [] w3).alloc _)).grown hown4 hgrow4); have HBT4 := Lib.hid ((only_grown hgrow4).blk (HBT.out.alloc _) (HS3.out.apart HBT.out (by decide))); clear hown4 hgrow4 hat4)
        have hal1 : (adZ acc 1 s0 ⟨#[]⟩ 0 0).length = acc.length + 1 := by simp [adZ]
        clear t0 b0 lT lH s1 lS hbr
        have l4 := HBT4.out.lt
        have t2 := HBT4.out.at_ 2
        simp at t2
        generalize adZ acc 1 s0 ⟨#[]⟩ 0 0 = acc1 at *
        have HAL1 := Lib.hid hal1
        rw [← hal1]
        rw [← hal1] at HS4
        clear hal1
        obtain ⟨wo, hwo⟩ : ∃ wo : World, wo = wr := ⟨_, rfl⟩
        subst hwo
        go_loopw [5, 9] (fun V iv wr => ∃ (q : Nat), iv = .int .i64 q ∧ q ≤ m ∧ Hid (RSt w wr w.heap.size #[.slice (some ⟨bs, offs, none⟩) n0 c0, .slice A1 n1 c1, .slice (some ⟨b, off, none⟩) n2 c2] V ((ops.take q).foldl (zdO h.ks s0) acc1)) ∧ Hid (Blk wr gt 43 #[.int .i64 (j : Int), .int .i64 tf, .slice A' m cp])) (fun _ iv _ => m - (intOf iv).toNat)
        case atStart => exact ⟨0, rfl, by omega, HS4, HBT4⟩
        case round =>
          obtain ⟨q, rfl, hq, hS5, hB5⟩ := hrel
          obtain ⟨A6, c6, rfl, -⟩ := own_row hS5.out.own
          clear l4 t2
          have l4 := hB5.out.lt
          have t2 := hB5.out.at_ 2
          simp at t2
          by_cases hlq : q < m
          · have h02 : (q : Int) < (m : Int) := by omega
            have hq0 : (0 : Int) ≤ (q : Int) := Int.natCast_nonneg _
            have hwq : IntKind.i64.wrap ((q : Int) + 1) = (q : Int) + 1 := IntWalk.i64_in _ (by omega)
            obtain ⟨x, hx⟩ : ∃ x, ops[q]? = some x := ⟨_, List.getElem?_eq_getElem (by rw [HMM.out]; exact hlq)⟩
            obtain ⟨i, hi, hil⟩ := HKEY.out x (List.mem_of_getElem? hx)
            obtain ⟨y, hy⟩ : ∃ y, h.ks[i]? = some y := ⟨_, List.getElem?_eq_getElem hil⟩
            have HFO := Lib.hid (fold_take (f := zdO h.ks s0) (a := acc1) hx)
            have hlo := congrArg List.length (lined_ops h.ks s0 (ops.take q) acc1)
            rw [lined_len, addO_len, lined_len, List.length_take] at hlo
            have hlo2 : ((ops.take q).foldl (zdO h.ks s0) acc1).length ≤ 1000 := by
              have := HAL1.out
              have := HAL.out
              have := Nat.min_le_left q ops.length
              omega
            have HAO : Hid (zdO h.ks s0 ((ops.take q).foldl (zdO h.ks s0) acc1) x = adZ ((ops.take q).foldl (zdO h.ks s0) acc1) (kindO x) s0 y x.vk x.vn) := Lib.hid (by
              unfold zdO
              rw [hi, nth_at hy])
            rw [HAO.out] at HFO
            clear hlo
            generalize (ops.take q).foldl (zdO h.ks s0) acc1 = ac at *
            have HLO := Lib.hid hlo2
            obtain ⟨bo, offo, e1, hbo1, hbo2, hOA⟩ := row_op HTO.out.row hx
            obtain ⟨p0, p1, p2, p3⟩ := hOA.only hS5.out.only hbo2 (by simp)
            have hbo3 : bo < wr.heap.size := Nat.lt_of_lt_of_le hbo2 hS5.out.only.size
            dsimp only at e1
            subst e1
            obtain ⟨xw, xk, xvk, xvn⟩ := x
            dsimp only at p0 p1 p2 p3 hi
            subst hi
            clear hx hlo2 HAO hOA
            go_upto_region 15 with (fail)
            have bP := Blk.made wr 50 #[.bool xw, .int .i64 (i : Int), .int .i64 xvk, .int .i64 xvn]
            have O6 : Only [] wr (wr.alloc (.cells #[.bool xw, .int .i64 (i : Int), .int .i64 xvk, .int .i64 xvn] 50)) := (Only.refl [] wr).alloc _
            have hS6 := hS5.out.keep O6
            have HB6 := Lib.hid (O6.blk hB5.out (by simp))
            clear p0 p1 p2 p3 hS5 hB5 O6 l4 t2
            generalize (wr.alloc (.cells #[.bool xw, .int .i64 (i : Int), .int .i64 xvk, .int .i64 xvn] 50)) = w6 at *
            generalize wr.heap.size = gp at *
            have HS6 := Lib.hid hS6
            have lP := bP.lt
            have p0 := bP.at_ 0
            have p1 := bP.at_ 1
            have p2 := bP.at_ 2
            have p3 := bP.at_ 3
            have lH := hS6.gh.lt
            have b1 := hS6.gh.at_ 1
            simp at p0 p1 p2 p3 b1
            obtain ⟨bk, offk, rfl, hbk1, hbk2, hck⟩ := HI.out.up.at_.r1.open_ (k := i) (by rw [strs, List.length_map]; exact hil)
            have k1 : w6.cell? ⟨bk, offk + i, none⟩ = some (.string y) := (hS6.only.cell (p := ⟨bk, offk + i, none⟩) hbk2 (by simp)).trans (hck i _ (by rw [strs, List.getElem?_map, hy]; rfl))
            have k2 : bk < w6.heap.size := Nat.lt_of_lt_of_le hbk2 hS6.only.size
            have hgw6 : w.heap.size ≤ w6.heap.size := hS6.only.size
            have hn1 := HI.out.n1
            rw [hn1] at hil
            have hi0 : (0 : Int) ≤ (i : Int) := Int.natCast_nonneg _
            have hi1 : (i : Int) < (n1 : Int) := by omega
            have HP6 := Lib.hid bP
            have K1 := Lib.hid k1
            have K2 := Lib.hid k2
            clear hS6 bP hy hck k1 k2 b1 p0 p1 p2 p3 lP lH
            refine wp_region_noPanic ?_
            refine wp_region_timed (F := [⟨[], [], fun w' => Only [] w6 w'⟩]) (by kernel_rfl) (timed_holds ((Only.refl [] w6).drew) (timed_nil)) ?_
            refine timed_pure (i := 0) (v := ?_) rfl (by kernel_rfl) (by kernel_rfl) (by kernel_rfl) (fun _ _ _ h => h) (by kernel_rfl) (by kernel_rfl) ?_ ?_
            rotate_left
            · (intro w; go_simp; try with_reducible rfl)
            try simp only [Act.put, List.getElem_toArray, List.getElem_cons_zero, List.getElem_cons_succ, List.setIfInBounds_toArray, List.set_cons_zero, List.set_cons_succ]
            refine timed_pure (i := 1) (v := ?_) rfl (by kernel_rfl) (by kernel_rfl) (by kernel_rfl) (fun _ _ _ h => h) (by kernel_rfl) (by kernel_rfl) ?_ ?_
            rotate_left
            · (intro w; go_simp; try with_reducible rfl)
            try simp only [Act.put, List.getElem_toArray, List.getElem_cons_zero, List.getElem_cons_succ, List.setIfInBounds_toArray, List.set_cons_zero, List.set_cons_succ]
            refine timed_read (i := 2) (v := ?_) 0 rfl (by kernel_rfl) (by kernel_rfl) (by kernel_rfl) (fun _ _ _ h => h) (by kernel_rfl) (by kernel_rfl) rfl (by kernel_rfl) ?_ ?_
            rotate_left
            · (intro wq hSw; (try dsimp only at hSw); have hh := hSw.blk HS6.out.gh (by simp); have lh := hh.lt; have b1 := hh.at_ 1; have hp := hSw.blk HP6.out (by simp); have lp := hp.lt; have p0 := hp.at_ 0; have p1 := hp.at_ 1; have p2 := hp.at_ 2; have p3 := hp.at_ 3; have k1 := (hSw.cell (p := ⟨bk, offk + i, none⟩) K2.out (by simp)).trans K1.out; have k2 := Nat.lt_of_lt_of_le K2.out hSw.size; simp at b1 p0 p1 p2 p3; clear hh hp; clear hSw; go_simp; try with_reducible rfl)
            try simp only [Act.put, List.getElem_toArray, List.getElem_cons_zero, List.getElem_cons_succ, List.setIfInBounds_toArray, List.set_cons_zero, List.set_cons_succ]
            refine timed_pure (i := 3) (v := ?_) rfl (by kernel_rfl) (by kernel_rfl) (by kernel_rfl) (fun _ _ _ h => h) (by kernel_rfl) (by kernel_rfl) ?_ ?_
            rotate_left
            · (intro w; go_simp; try with_reducible rfl)
            try simp only [Act.put, List.getElem_toArray, List.getElem_cons_zero, List.getElem_cons_succ, List.setIfInBounds_toArray, List.set_cons_zero, List.set_cons_succ]
            refine timed_read (i := 4) (v := ?_) 0 rfl (by kernel_rfl) (by kernel_rfl) (by kernel_rfl) (fun _ _ _ h => h) (by kernel_rfl) (by kernel_rfl) rfl (by kernel_rfl) ?_ ?_
            rotate_left
            · (intro wq hSw; (try dsimp only at hSw); have hh := hSw.blk HS6.out.gh (by simp); have lh := hh.lt; have b1 := hh.at_ 1; have hp := hSw.blk HP6.out (by simp); have lp := hp.lt; have p0 := hp.at_ 0; have p1 := hp.at_ 1; have p2 := hp.at_ 2; have p3 := hp.at_ 3; have k1 := (hSw.cell (p := ⟨bk, offk + i, none⟩) K2.out (by simp)).trans K1.out; have k2 := Nat.lt_of_lt_of_le K2.out hSw.size; simp at b1 p0 p1 p2 p3; clear hh hp; clear hSw; go_simp; try with_reducible rfl)
            try simp only [Act.put, List.getElem_toArray, List.getElem_cons_zero, List.getElem_cons_succ, List.setIfInBounds_toArray, List.set_cons_zero, List.set_cons_succ]
            refine timed_pure (i := 5) (v := ?_) rfl (by kernel_rfl) (by kernel_rfl) (by kernel_rfl) (fun _ _ _ h => h) (by kernel_rfl) (by kernel_rfl) ?_ ?_
            rotate_left
            · (intro w; go_simp; try with_reducible rfl)
            try simp only [Act.put, List.getElem_toArray, List.getElem_cons_zero, List.getElem_cons_succ, List.setIfInBounds_toArray, List.set_cons_zero, List.set_cons_succ]
            refine timed_read (i := 6) (v := ?_) 0 rfl (by kernel_rfl) (by kernel_rfl) (by kernel_rfl) (fun _ _ _ h => h) (by kernel_rfl) (by kernel_rfl) rfl (by kernel_rfl) ?_ ?_
            rotate_left
            · (intro wq hSw; (try dsimp only at hSw); have hh := hSw.blk HS6.out.gh (by simp); have lh := hh.lt; have b1 := hh.at_ 1; have hp := hSw.blk HP6.out (by simp); have lp := hp.lt; have p0 := hp.at_ 0; have p1 := hp.at_ 1; have p2 := hp.at_ 2; have p3 := hp.at_ 3; have k1 := (hSw.cell (p := ⟨bk, offk + i, none⟩) K2.out (by simp)).trans K1.out; have k2 := Nat.lt_of_lt_of_le K2.out hSw.size; simp at b1 p0 p1 p2 p3; clear hh hp; clear hSw; go_simp; try with_reducible rfl)
            try simp only [Act.put, List.getElem_toArray, List.getElem_cons_zero, List.getElem_cons_succ, List.setIfInBounds_toArray, List.set_cons_zero, List.set_cons_succ]
            refine timed_pure (i := 7) (v := ?_) rfl (by kernel_rfl) (by kernel_rfl) (by kernel_rfl) (fun _ _ _ h => h) (by kernel_rfl) (by kernel_rfl) ?_ ?_
            rotate_left
            · (intro w; go_simp; try with_reducible rfl)
            try simp only [Act.put, List.getElem_toArray, List.getElem_cons_zero, List.getElem_cons_succ, List.setIfInBounds_toArray, List.set_cons_zero, List.set_cons_succ]
            refine timed_read (i := 8) (v := ?_) 0 rfl (by kernel_rfl) (by kernel_rfl) (by kernel_rfl) (fun _ _ _ h => h) (by kernel_rfl) (by kernel_rfl) rfl (by kernel_rfl) ?_ ?_
            rotate_left
            · (intro wq hSw; (try dsimp only at hSw); have hh := hSw.blk HS6.out.gh (by simp); have lh := hh.lt; have b1 := hh.at_ 1; have hp := hSw.blk HP6.out (by simp); have lp := hp.lt; have p0 := hp.at_ 0; have p1 := hp.at_ 1; have p2 := hp.at_ 2; have p3 := hp.at_ 3; have k1 := (hSw.cell (p := ⟨bk, offk + i, none⟩) K2.out (by simp)).trans K1.out; have k2 := Nat.lt_of_lt_of_le K2.out hSw.size; simp at b1 p0 p1 p2 p3; clear hh hp; clear hSw; go_simp; try with_reducible rfl)
            try simp only [Act.put, List.getElem_toArray, List.getElem_cons_zero, List.getElem_cons_succ, List.setIfInBounds_toArray, List.set_cons_zero, List.set_cons_succ]
            refine timed_pure (i := 9) (v := ?_) rfl (by kernel_rfl) (by kernel_rfl) (by kernel_rfl) (fun _ _ _ h => h) (by kernel_rfl) (by kernel_rfl) ?_ ?_
            rotate_left
            · (intro w; go_simp; try with_reducible rfl)
            try simp only [Act.put, List.getElem_toArray, List.getElem_cons_zero, List.getElem_cons_succ, List.setIfInBounds_toArray, List.set_cons_zero, List.set_cons_succ]
            refine timed_step (i := 10) (by kernel_rfl) rfl (fun K hK => ?_)
            go_simp
            refine hK.out _ _ (timed_holds (((Only.refl [] w6).drew).alloc _) (timed_nil)) ?_
            clear hK K
            try simp only [Act.put, List.getElem_toArray, List.getElem_cons_zero, List.getElem_cons_succ, List.setIfInBounds_toArray, List.set_cons_zero, List.set_cons_succ]
            refine timed_step (i := 11) (by kernel_rfl) rfl (fun K hK => ?_)
            go_simp
            refine hK.out _ _ (timed_holds (((Only.refl [] w6).drew).alloc _) (timed_nil)) ?_
            clear hK K
            try simp only [Act.put, List.getElem_toArray, List.getElem_cons_zero, List.getElem_cons_succ, List.setIfInBounds_toArray, List.set_cons_zero, List.set_cons_succ]
            refine timed_done (by kernel_rfl) ?_ _
            refine NoPanic.normal ?_
            have hO7 : Only [] w6 (w6.alloc (.cells #[.int .i64 2, .string s0, .string y, .int .i64 xvk, .int .i64 xvn, .int .i64 0] 47)).drew := ((Only.refl [] w6).alloc _).drew
            have hE7 : Blk (w6.alloc (.cells #[.int .i64 2, .string s0, .string y, .int .i64 xvk, .int .i64 xvn, .int .i64 0] 47)).drew w6.heap.size 47 #[.int .i64 2, .string s0, .string y, .int .i64 xvk, .int .i64 xvn, .int .i64 0] := Blk.made w6 _ _
            have HO7 := Lib.hid hO7
            have HE7 := Lib.hid hE7
            have HP7 := Lib.hid (hO7.blk HP6.out (by simp))
            generalize (w6.alloc (.cells #[.int .i64 2, .string s0, .string y, .int .i64 xvk, .int .i64 xvn, .int .i64 0] 47)).drew = w7 at *
            clear hO7 hE7
            have p0 := HP7.out.at_ 0
            have lP := HP7.out.lt
            have lE := HE7.out.lt
            have e0 := HE7.out.at_ 0
            have fE := HE7.out.free 0
            simp at p0 e0
            clear HP7
            cases xw with
            | true =>
              go_upto_region 18 with (fail)
              have bE8 : Blk (w7.setCell ⟨w6.heap.size, 0, none⟩ (.int .i64 3)) w6.heap.size 47 #[.int .i64 3, .string s0, .string y, .int .i64 xvk, .int .i64 xvn, .int .i64 0] := by
                have := HE7.out.put 0 (.int .i64 3); simpa using this
              have O8 : Only [] w6 (w7.setCell ⟨w6.heap.size, 0, none⟩ (.int .i64 3)) := HO7.out.put (fun h => by simp at h) _
              generalize (w7.setCell ⟨w6.heap.size, 0, none⟩ (.int .i64 3)) = w8 at *
              have HS8a := Lib.hid (HS6.out.keep O8)
              have HB8a := Lib.hid (O8.blk HB6.out (by simp))
              have hgw8 : w.heap.size ≤ w8.heap.size := Nat.le_trans hgw6 O8.size
              clear p0 lP lE e0 fE O8 HE7 HO7
              refine wp_region_lit ?_
              refine wpList_plain rfl (fun K hK => ?_)
              go_simp
              refine hK _ _ ?_
              clear hK K
              refine wpList_load_mid rfl 47 (.tmp 11) rfl w6.heap.size 0 rfl (#[.int .i64 3, .string s0, .string y, .int .i64 xvk, .int .i64 xvn, .int .i64 0] : Array Value).toList _ bE8.range Tryz.underlying47 rfl (by kernel_rfl) ?_
              clear bE8
              go_wp2_with (at_builtin; refine wpList_append_row _ rfl (.tmp 67) (.tmp 69) _ rfl w.heap.size 47 ie _ 6 64 Tryz.underlying27 hie he0 he1 he2 rfl (by omega) _ _ _ rfl (own_only HS8a.out.own ((Only.refl [] _).alloc _) (by simp)) (w8.heap.size + 1) (some ⟨w8.heap.size, 0, none⟩) 1 1 [.int .i64 3, .string s0, .string y, .int .i64 xvk, .int .i64 xvn, .int .i64 0] rfl rfl (row_lit w8 47 #[.int .i64 3, .string s0, .string y, .int .i64 xvk, .int .i64 xvn, .int .i64 0]) (by simp [Value.oneCell']) (by have := HLO.out; unfold maxLen; omega) (by have := HLO.out; omega) (by first | omega | (rw [World.size_alloc]; omega) | (simp; omega)) ?_; intro v9 w9 hown9 hgrow9 hat9; obtain ⟨A9, c9, e9, -, -, -, -⟩ := own_row hown9; subst e9; have HS9 := Lib.hid ((HS8a.out.keep ((Only.refl [] w8).alloc _)).grown hown9 hgrow9); have HB9 := Lib.hid ((only_grown hgrow9).blk (HB8a.out.alloc _) (HS8a.out.apart HB8a.out (by decide))); clear hown9 hgrow9 hat9)
              go_roundw
              case rel => exact ⟨q + 1, by go_num, by omega, Lib.hid (by rw [HFO.out]; exact HS9.out), HB9⟩
              case measure => simp [intOf]; omega
            | false =>
              go_upto_region 18 with (fail)
              have bE8 : Blk w7 w6.heap.size 47 #[.int .i64 2, .string s0, .string y, .int .i64 xvk, .int .i64 xvn, .int .i64 0] := by
                exact HE7.out
              have O8 : Only [] w6 w7 := HO7.out
              generalize w7 = w8 at *
              have HS8a := Lib.hid (HS6.out.keep O8)
              have HB8a := Lib.hid (O8.blk HB6.out (by simp))
              have hgw8 : w.heap.size ≤ w8.heap.size := Nat.le_trans hgw6 O8.size
              clear p0 lP lE e0 fE O8 HE7 HO7
              refine wp_region_lit ?_
              refine wpList_plain rfl (fun K hK => ?_)
              go_simp
              refine hK _ _ ?_
              clear hK K
              refine wpList_load_mid rfl 47 (.tmp 11) rfl w6.heap.size 0 rfl (#[.int .i64 2, .string s0, .string y, .int .i64 xvk, .int .i64 xvn, .int .i64 0] : Array Value).toList _ bE8.range Tryz.underlying47 rfl (by kernel_rfl) ?_
              clear bE8
              go_wp2_with (at_builtin; refine wpList_append_row _ rfl (.tmp 67) (.tmp 69) _ rfl w.heap.size 47 ie _ 6 64 Tryz.underlying27 hie he0 he1 he2 rfl (by omega) _ _ _ rfl (own_only HS8a.out.own ((Only.refl [] _).alloc _) (by simp)) (w8.heap.size + 1) (some ⟨w8.heap.size, 0, none⟩) 1 1 [.int .i64 2, .string s0, .string y, .int .i64 xvk, .int .i64 xvn, .int .i64 0] rfl rfl (row_lit w8 47 #[.int .i64 2, .string s0, .string y, .int .i64 xvk, .int .i64 xvn, .int .i64 0]) (by simp [Value.oneCell']) (by have := HLO.out; unfold maxLen; omega) (by have := HLO.out; omega) (by first | omega | (rw [World.size_alloc]; omega) | (simp; omega)) ?_; intro v9 w9 hown9 hgrow9 hat9; obtain ⟨A9, c9, e9, -, -, -, -⟩ := own_row hown9; subst e9; have HS9 := Lib.hid ((HS8a.out.keep ((Only.refl [] w8).alloc _)).grown hown9 hgrow9); have HB9 := Lib.hid ((only_grown hgrow9).blk (HB8a.out.alloc _) (HS8a.out.apart HB8a.out (by decide))); clear hown9 hgrow9 hat9)
              go_roundw
              case rel => exact ⟨q + 1, by go_num, by omega, Lib.hid (by rw [HFO.out]; exact HS9.out), HB9⟩
              case measure => simp [intOf]; omega
          · have hqm : q = m := by omega
            subst hqm
            have hd : decide ((q : Int) < (q : Int)) = false := by simp
            have hfo : (ops.take q).foldl (zdO h.ks s0) acc1 = ops.foldl (zdO h.ks s0) acc1 := by rw [← HMM.out, List.take_length]
            rw [hfo] at hS5 ⊢
            have hlo := congrArg List.length (lined_ops h.ks s0 ops acc1)
            rw [lined_len, addO_len, lined_len] at hlo
            have HLA : Hid ((ops.foldl (zdO h.ks s0) acc1).length ≤ 1000) := Lib.hid (by have := HAL1.out; have := HAL.out; have := HMM.out; omega)
            clear hlo hfo
            generalize ops.foldl (zdO h.ks s0) acc1 = ac2 at *
            have t1 := hB5.out.at_ 1
            simp at t1
            obtain ⟨kf, hkf⟩ : ∃ kf, kf = endK tf := ⟨_, rfl⟩
            have hw3 : IntKind.i64.wrap (3 + tf) = kf := by rw [end_fate HFT2.out, ← hkf]; exact IntWalk.i64_in _ (by rw [hkf]; unfold endK; split <;> (try split) <;> omega)
            rw [← hkf] at HFT
            clear hkf
            have hgw9 : w.heap.size ≤ wr.heap.size := hS5.out.only.size
            go_wp2_with (at_builtin; refine wpList_append_row _ rfl (.tmp 71) (.tmp 77) _ rfl w.heap.size 47 ie _ 6 64 Tryz.underlying27 hie he0 he1 he2 rfl (by omega) _ _ _ rfl (own_only hS5.out.own ((Only.refl [] _).alloc _) (by simp)) (wr.heap.size + 1) (some ⟨wr.heap.size, 0, none⟩) 1 1 [.int .i64 kf, .string s0, .string ⟨#[]⟩, .int .i64 0, .int .i64 0, .int .i64 0] rfl rfl (row_lit wr 47 #[.int .i64 kf, .string s0, .string ⟨#[]⟩, .int .i64 0, .int .i64 0, .int .i64 0]) (by simp [Value.oneCell']) (by have := HLA.out; unfold maxLen; omega) (by have := HLA.out; omega) (by first | omega | (rw [World.size_alloc]; omega) | (simp; omega)) ?_; intro v9 w9 hown9 hgrow9 hat9; obtain ⟨A9, c9, e9, -, -, -, -⟩ := own_row hown9; subst e9; have HS9 := Lib.hid ((hS5.out.keep ((Only.refl [] wr).alloc _)).grown hown9 hgrow9); clear hown9 hgrow9 hat9)
            go_roundw
            case rel => exact ⟨k + 1, by go_num, by omega, Lib.hid (by rw [HFT.out]; exact HS9.out)⟩
            case measure => simp [intOf]; omega
      · have hkn : k = n2 := by omega
        subst hkn
        have hd : decide ((k : Int) < (k : Int)) = false := by simp
        have hfo : (h.l.take k).foldl (zdT h.ss h.ks) [] = evsZ h := by rw [← HN2.out, List.take_length]; rfl
        rw [hfo] at hS
        have HOPL := fold_len h.ss h.ks h.l (fun x hx => HOPS.out x hx) []
        have HZL : Hid ((evsZ h).length ≤ 1000) := Lib.hid (by
          rw [evsZ_len]
          have e : evsH h = h.l.foldl (addT h.ss h.ks) [] := rfl
          rw [e]
          have := HN2.out
          simp at HOPL
          omega)
        have HEL := Lib.hid (evs_lined h)
        rw [hfo]
        clear hfo HOPL
        generalize evsZ h = zs at *
        have hzl := HZL.out
        have HOW := Lib.hid hS.out.own
        have HOO := Lib.hid hS.out.only
        clear hS
        obtain ⟨wo, hwo⟩ : ∃ wo : World, wo = wr := ⟨_, rfl⟩
        subst hwo
        go_wp2_with fail
        go_loopw [12] (fun iv wr => ∃ (j : Nat), iv = .int .i64 j ∧ j ≤ zs.length ∧ Hid (wr.ownsRow w.heap.size 47 6 (.slice A5 zs.length c5) zs.length (logC (linedTo zs j))) ∧ Hid (Only [] w wr)) (fun iv _ => zs.length - (intOf iv).toNat)
        case atStart => exact ⟨0, rfl, by omega, Lib.hid (by rw [linedTo_zero]; exact HOW.out), HOO⟩
        case round =>
          obtain ⟨j, rfl, hj, hOw, hO⟩ := hrel
          by_cases hlj : j < zs.length
          · have h02 : (j : Int) < (zs.length : Int) := by omega
            have hj0 : (0 : Int) ≤ (j : Int) := Int.natCast_nonneg _
            have hwj : IntKind.i64.wrap ((j : Int) + 1) = (j : Int) + 1 := IntWalk.i64_in _ (by omega)
            obtain ⟨x, hx⟩ : ∃ x, (linedTo zs j)[j]? = some x := ⟨_, List.getElem?_eq_getElem (by rw [linedTo_len]; exact hlj)⟩
            obtain ⟨g, hg⟩ : ∃ g, A5 = some ⟨g, 0, none⟩ := by
              rcases hOw.out.2 with ⟨e, -⟩ | ⟨g, cap, cur, e, -⟩
              · injection e with e1 e2
                omega
              · injection e with e1 e2
                exact ⟨g, e1⟩
            subst hg
            obtain ⟨c5', f5⟩ := own_cell hOw.out rfl (j := j * 6 + 5) (u := .int .i64 x.ln) (by rw [logC_get _ j x hx 5 (by omega)]; rfl)
            have lg := own_lt hOw.out (g := g) (by simp [Value.ownBlock])
            have HNX : Hid ((wr.setCell ⟨g, j * 6 + 5, none⟩ (.int .i64 ((j : Int) + 1))).ownsRow w.heap.size 47 6 (.slice (some ⟨g, 0, none⟩) zs.length c5) zs.length (logC (linedTo zs (j + 1)))) := Lib.hid (by
              have := own_set hOw.out rfl (j := j * 6 + 5) (by rw [logC_len, linedTo_len]; omega) (.int .i64 ((j : Int) + 1))
              rwa [logC_line _ j x _ hx, linedTo_succ hx] at this)
            have HNO : Hid (Only [] w (wr.setCell ⟨g, j * 6 + 5, none⟩ (.int .i64 ((j : Int) + 1)))) := Lib.hid (hO.out.put (fun h => by
              have := (hOw.out.lt g rfl).1
              simp only at h
              omega) _)
            clear hx hOw
            go_wp2
            go_roundw
            case rel => exact ⟨j + 1, by go_num, by omega, HNX, HNO⟩
            case measure => simp [intOf]; omega
          · have hjm : j = zs.length := by omega
            subst hjm
            have hd2 : decide ((zs.length : Int) < (zs.length : Int)) = false := by simp
            rw [linedTo_all] at hOw
            go_wp2
            go_ret2
            exact ⟨_, _, rfl, hO.out, by rw [HEL.out, lined_len], by rw [HEL.out]; exact hOw.out⟩
  · have hne : (errH h != 0) = true := by simpa using he
    rw [if_neg he]
    generalize errH h = er at *
    clear he
    go_enter Tryz.func8, Tryz.ntmps8
    go_wp2_with fail
    refine (HM.out _ HO0.out).mono ?_
    rintro e w1 ⟨rfl, O1⟩
    have HO1 := Lib.hid (HO0.out.trans O1)
    clear O1 HM HO0
    go_wp2
    go_ret2
    exact ⟨_, _, rfl, HO1.out, rfl, rfl, .inl ⟨rfl, rfl⟩⟩
end Go.Proofs.YthaeomdpaadilaaGreatDoor
