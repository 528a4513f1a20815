/- Parts. -/
import Derived.Test.YtbiclliooidkjaaGreatDoorLaw41AllK25
set_option maxRecDepth 10000
set_option maxHeartbeats 16000000
set_option linter.unusedVariables false
set_option linter.unusedSimpArgs false
namespace Go.Proofs.YtbiclliooidkjaaGreatDoor
open Go.RowKit
open Go.Lib hiding intOf
attribute [local go_sem ↓] Go.wp_at_zero Go.wp_at_succ
theorem rraw14_any (A0 A1 A2 : Option Addr) (n0 n1 n2 c0 c1 c2 B : Nat) (h : Hst) (w : World) (hg : HIn w B A0 A1 A2 n0 n1 n2 h) (hm : mayH h = true) :
    Calls Tryz.prog 35 #[hval A0 A1 A2 n0 n1 n2 c0 c1 c2] w fun e w' => ∃ B0 B1 B2 d0 d1 d2, (e = .returned (.agg #[.slice B0 (keptH notLost h).ss.length d0, .slice B1 (keptH notLost h).ks.length d1, .slice B2 (keptH notLost h).l.length d2]) ∧ HNew w.heap.size w' B0 B1 B2 (keptH notLost h)) ∧ Only [] w w' := by
  have HI := Hd hg
  unfold hval
  have O1 : Only [] w ((w.alloc (.cells #[.slice A0 n0 c0, .slice A1 n1 c1, .slice A2 n2 c2] 25)).alloc (.cells zeroH 25)) := ((Only.refl [] w).alloc _).alloc _
  have HO1 := Hd O1
  have HB1 := Hd ((Blk.made w 25 #[.slice A0 n0 c0, .slice A1 n1 c1, .slice A2 n2 c2]).alloc (.cells zeroH 25))
  have HR1 := Hd (Blk.made (w.alloc (.cells #[.slice A0 n0 c0, .slice A1 n1 c1, .slice A2 n2 c2] 25)) 25 zeroH)
  simp only [World.size_alloc] at HR1
  clear hg O1
  unfold zeroH at HO1 HB1 HR1
  have HMY := Hd hm
  have hn0 : n0 ≤ 1000 := by rw [← HI.out.n0]; exact HI.out.sm.ns
  have hn1 : n1 ≤ 1000 := by rw [← HI.out.n1]; exact HI.out.sm.nk
  have hn2 : n2 ≤ 1000 := by rw [← HI.out.n2]; exact HI.out.sm.nl
  clear hm
  obtain ⟨is0, his, hs0, hs1, hs2⟩ := info_parts info_str
  go_enter Tryz.func35, Tryz.ntmps35
  go_upto_region 1 with (fail)
  generalize ((w.alloc (.cells #[.slice A0 n0 c0, .slice A1 n1 c1, .slice A2 n2 c2] 25)).alloc (.cells #[.slice none 0 0, .slice none 0 0, .slice none 0 0] 25)) = w1 at *
  generalize hg1 : w.heap.size + 1 = g1 at *
  have hlq : (strs h.ss).length = n0 * 1 := by rw [strs, List.length_map, HI.out.n0]; omega
  have HONE : Hid (∀ u ∈ strs h.ss, u.oneCell' = true) := Hd (by intro u hu; simp [strs] at hu; obtain ⟨x, -, rfl⟩ := hu; rfl)
  have HRQ := Hd (fun w' (O : Only [] w1 w') => HI.out.at_.r0.only (HO1.out.trans O) (fun _ h => by cases h))
  have hw1 : w.heap.size ≤ w1.heap.size := HO1.out.size
  have hsz1 : g1 < w1.heap.size := HR1.out.lt
  have HLT : Hid ((w1.alloc (.cells #[] 9)).ownsRow w.heap.size 9 1 (.slice (some ⟨w1.heap.size, 0, none⟩) 0 0) 0 []) := Hd (World.ownsRow_lit w1 #[] 0 (by have := HO1.out.size; omega) (by unfold maxLen; omega) rfl)
  have lB := HB1.out.lt
  have y0 := HB1.out.at_ 0
  simp at y0
  go_upto_region 1 with (fail)
  refine wp_region_lit ?_
  refine wpList_plain rfl (fun K hK => ?_)
  go_simp
  refine hK _ _ ?_
  clear hK K
  refine wpList_plain rfl (fun K hK => ?_)
  go_simp
  refine hK _ _ ?_
  clear hK K
  refine wpList_plain rfl (fun K hK => ?_)
  go_simp
  refine hK _ _ ?_
  clear hK K
  refine wpList_append_row _ rfl (.tmp 14) (.tmp 16) _ rfl w.heap.size 9 is0 _ 1 16 Tryz.underlying22 his hs0 hs1 hs2 rfl (by omega) (.slice (some ⟨w1.heap.size, 0, none⟩) 0 0) 0 [] rfl HLT.out _ A0 n0 c0 (strs h.ss) rfl hlq (HRQ.out _ ((Only.refl [] w1).alloc _)) HONE.out (by unfold maxLen; omega) (by omega) (by simp; omega) ?_
  intro v3 w3 hown3 hgrow3 hat3
  have hown4 : w3.ownsRow w.heap.size 9 1 v3 n0 (strs h.ss) := by simpa using hown3
  obtain ⟨AS, cS, rfl, -, -, -, -⟩ := own_row hown4
  have HO3 : Hid (Only [] w1 w3) := Hd (((Only.refl [] w1).alloc (.cells #[] 9)).step (only_grown hgrow3) (fun i hi hl => by
    have h2 : i = w1.heap.size := by simpa [Value.ownBlock] using hi
    omega))
  have HV3 := Hd hown4
  clear hown3 hgrow3 hat3 hown4 HLT lB y0 HRQ HONE hlq
  go_upto_region 2 with (fail)
  have HX := Hd ((Only.refl [] w3).alloc (.cells #[.slice AS n0 cS, .slice none 0 0, .slice none 0 0] 25))
  have HG4 := Hd (Blk.made w3 25 #[.slice AS n0 cS, .slice none 0 0, .slice none 0 0])
  have HO4 := Hd (HO1.out.trans (HO3.out.trans HX.out))
  have HB4 := Hd ((HO3.out.trans HX.out).blk HB1.out (by simp))
  have HR4 := Hd ((HO3.out.trans HX.out).blk HR1.out (by simp))
  have HV4 := Hd (own_only HV3.out HX.out (by simp))
  have hszG : g1 < w3.heap.size := by have := HO3.out.size; omega
  clear HX HO3 HV3 HB1 HR1 HO1
  generalize (w3.alloc (.cells #[.slice AS n0 cS, .slice none 0 0, .slice none 0 0] 25)) = w4 at *
  generalize hgG : w3.heap.size = gG at *
  go_upto_region 3 with (fail)
  have hgG4 : gG < w4.heap.size := HG4.out.lt
  have HK0 : Hid (RK w (w4.alloc (.cells #[] 3)) #[.slice A0 n0 c0, .slice A1 n1 c1, .slice A2 n2 c2] w.heap.size g1 gG #[.slice AS n0 cS, .slice none 0 0, .slice none 0 0] [rI (.slice (some ⟨w4.heap.size, 0, none⟩) 0 0) (toL h.l 0), rS (.slice AS n0 cS) h.ss, rS (.slice none 0 0) (keptK notLost h.l (h.ks.take 0))]) := Hd (by
    have OA := (Only.refl [] w4).alloc (.cells #[] 3)
    have hlit : (w4.alloc (.cells #[] 3)).ownsRow w.heap.size 3 1 (.slice (some ⟨w4.heap.size, 0, none⟩) 0 0) 0 [] := World.ownsRow_lit w4 (e := 3) (size := 1) #[] 0 (by omega) (by unfold maxLen; omega) rfl
    have hv := own_only HV4.out OA (by simp)
    exact
    { bh := OA.blk HB4.out (by simp)
      br := OA.blk HR4.out (by simp)
      bg := OA.blk HG4.out (by simp)
      rows := ⟨fun i r hr => by
          rcases i with _ | _ | _ | i
          · simp at hr; subst hr
            exact hlit
          · simp at hr; subst hr
            unfold rS OR.ok
            dsimp only
            rw [HI.out.n0]
            exact hv
          · simp at hr; subst hr
            exact World.ownsRow_nil _ _ _ _
          · simp at hr, fun i j r s hr hs hij g hg => by
          rcases i with _ | _ | _ | i <;> rcases j with _ | _ | _ | j <;> simp at hr hs hij <;> subst hr hs
          · intro e
            have h1 := own_lt HV4.out (g := g) (by simpa [rS] using e)
            simp [rI, Value.ownBlock] at hg
            omega
          · intro e; simp [rS, Value.ownBlock] at e
          · intro e
            have h1 := own_lt HV4.out (g := g) (by simpa [rS] using hg)
            simp [rI, Value.ownBlock] at e
            omega
          · intro e; simp [rS, Value.ownBlock] at e
          · simp [rS, Value.ownBlock] at hg
          · simp [rS, Value.ownBlock] at hg⟩
      o := HO4.out.trans OA
      d01 := by omega
      d1G := by omega
      base := Nat.le_refl _
      ty := fun r hr => by
        simp at hr
        rcases hr with rfl | rfl | rfl
        · show 3 ≠ 25; decide
        · show 9 ≠ 25; decide
        · show 9 ≠ 25; decide })
  generalize hVT : Value.slice (some ⟨w4.heap.size, 0, none⟩) 0 0 = VT0 at *
  generalize (w4.alloc (.cells #[] 3)) = w5 at *
  clear HG4 HO4 HB4 HR4 HV4 hVT hgG4 hszG hgG hsz1 hw1
  obtain ⟨ii0, hii, hi0, hi1, hi2⟩ := info_parts info_int
  have HNO := Hd HI.out.sm.no
  have HLN := Hd HI.out.n2
  have HKN := Hd HI.out.n1
  have HIL := Hd HI.out.at_.r2
  have HIK := Hd HI.out.at_.r1
  go_wp2_with fail
  go_loopw [4, 5] (fun VT kv wr => ∃ (k : Nat) (V1 : Value), kv = .int .i64 k ∧ k ≤ n1 ∧ Hid (RK w wr #[.slice A0 n0 c0, .slice A1 n1 c1, .slice A2 n2 c2] w.heap.size g1 gG #[.slice AS n0 cS, V1, .slice none 0 0] [rI VT (toL h.l k), rS (.slice AS n0 cS) h.ss, rS V1 (keptK notLost h.l (h.ks.take k))])) (fun _ kv _ => n1 - (intOf kv).toNat)
  case atStart => exact ⟨0, _, rfl, by omega, HK0⟩
  case round =>
    obtain ⟨k, V1, rfl, hk, hK⟩ := hrel
    clear HK0
    have lB := hK.out.bh.lt
    have y1 := hK.out.bh.at_ 1
    have y2 := hK.out.bh.at_ 2
    simp at y1 y2
    by_cases hlt : k < n1
    · obtain ⟨z, hz⟩ : ∃ z, h.ks[k]? = some z := ⟨_, List.getElem?_eq_getElem (by rw [HKN.out]; exact hlt)⟩
      have HKT := Hd (keptK_take (p := notLost) (l := h.l) hz)
      have HKL := Hd (keptK_len notLost h.l h.ks k (by rw [HKN.out]; exact hk))
      have hkle := numK_le notLost h.l k
      have HZ := Hd hz
      have h01 : (k : Int) < (n1 : Int) := by omega
      have hk0 : (0 : Int) ≤ (k : Int) := Int.natCast_nonneg _
      have hwk : IntKind.i64.wrap ((k : Int) + 1) = (k : Int) + 1 := IntWalk.i64_in _ (by omega)
      clear hz
      obtain ⟨wk, hwk'⟩ : ∃ wo : World, wo = wr := ⟨_, rfl⟩
      subst hwk'
      have HKK := Hd hK.out
      clear hK lB y1 y2
      have HOk := Hd HKK.out.o
      have lB := HKK.out.bh.lt
      have y1 := HKK.out.bh.at_ 1
      simp at y1
      go_wp2_with fail
      clear lB y1
      go_loopw [6, 7] (fun uv iv wr => ∃ i : Nat, iv = .int .i64 i ∧ i ≤ n2 ∧ uv = .bool (usedK notLost (h.l.take i) (k : Int)) ∧ Hid (Only [] wk wr)) (fun _ iv _ => n2 - (intOf iv).toNat)
      case atStart => exact ⟨0, rfl, by omega, rfl, Hd (Only.refl [] wk)⟩
      case round =>
        obtain ⟨i, rfl, hi, rfl, hO⟩ := hrel
        have hKi := HKK.out.same hO.out
        have lB := hKi.bh.lt
        have y2 := hKi.bh.at_ 2
        simp at y2
        have HKI := Hd hKi
        clear hKi
        by_cases hlt2 : i < n2
        · obtain ⟨t, ht⟩ : ∃ t, h.l[i]? = some t := ⟨_, List.getElem?_eq_getElem (by rw [HLN.out]; exact hlt2)⟩
          obtain ⟨bt, ot, AT, cpt, rfl, hbtB, hbtw, hTA, hOk⟩ := HIL.out.at_ ht
          have hno := HNO.out t (List.mem_of_getElem? ht)
          have HUT := Hd (used_take (p := notLost) ht (k : Int))
          have HROW := Hd hOk.row
          have HTA := Hd hTA
          have h02 : (i : Int) < (n2 : Int) := by omega
          have hi0 : (0 : Int) ≤ (i : Int) := Int.natCast_nonneg _
          have hwi : IntKind.i64.wrap ((i : Int) + 1) = (i : Int) + 1 := IntWalk.i64_in _ (by omega)
          obtain ⟨ts, tf, ops⟩ := t
          dsimp only at hno HROW
          unfold txUse at HUT
          dsimp only at HUT
          generalize hmm : ops.length = m at *
          have HMM := Hd hmm
          clear ht hOk hTA hmm
          obtain ⟨wi, hwi'⟩ : ∃ wo : World, wo = wr := ⟨_, rfl⟩
          subst hwi'
          generalize usedK notLost (h.l.take i) (k : Int) = ub at *
          go_wp2_with fail
          clear lB y2
          go_loopw [6, 8] (fun uv jv wr => ∃ j : Nat, jv = .int .i64 j ∧ j ≤ m ∧ uv = .bool (ub || (ops.take j).any (opUse notLost (k : Int))) ∧ Hid (Only [] wi wr)) (fun _ jv _ => m - (intOf jv).toNat)
          case atStart => exact ⟨0, rfl, by omega, by simp, Hd (Only.refl [] wi)⟩
          case round =>
            obtain ⟨j, rfl, hj, rfl, hO2⟩ := hrel
            have HKJ := Hd (HKI.out.same hO2.out)
            have lB := HKJ.out.bh.lt
            have y2 := HKJ.out.bh.at_ 2
            simp at y2
            obtain ⟨a0, a1, a2⟩ := HTA.out.only HKJ.out.o hbtw (by simp)
            have hbtr : bt < wr.heap.size := Nat.lt_of_lt_of_le hbtw HKJ.out.o.size
            dsimp only at a0 a1 a2
            rw [HMM.out] at a2
            by_cases hlt3 : j < m
            · obtain ⟨y, hy⟩ : ∃ y, ops[j]? = some y := ⟨_, List.getElem?_eq_getElem (by rw [HMM.out]; exact hlt3)⟩
              obtain ⟨bo, oo, rfl, hboB, hbo, hP⟩ := row_op (HROW.out.only HKJ.out.o (by simp)) hy
              obtain ⟨p0, p1, p2, p3⟩ := hP
              obtain ⟨yw, yk, yv, yn⟩ := y
              dsimp only at p0 p1 p2 p3
              have HUJ : Hid ((ops.take (j + 1)).any (opUse notLost (k : Int)) = ((ops.take j).any (opUse notLost (k : Int)) || (decide (yk = (k : Int)) && !decide (yv = 2)))) := Hd (use_take (p := notLost) hy (k : Int))
              generalize (ops.take j).any (opUse notLost (k : Int)) = vb at *
              have h03 : (j : Int) < (m : Int) := by omega
              have hj0 : (0 : Int) ≤ (j : Int) := Int.natCast_nonneg _
              have hwj : IntKind.i64.wrap ((j : Int) + 1) = (j : Int) + 1 := IntWalk.i64_in _ (by omega)
              clear hy
              go_upto_region 14 with (fail)
              have HX := Hd ((Only.refl [] wr).alloc (.cells #[.bool yw, .int .i64 yk, .int .i64 yv, .int .i64 yn] 50))
              have HP9 := Hd (Blk.made wr 50 #[.bool yw, .int .i64 yk, .int .i64 yv, .int .i64 yn])
              have HO9 := Hd (hO2.out.trans HX.out)
              clear HX hO2 lB y2 a0 a1 a2 p0 p1 p2 p3 hbo hbtr
              generalize (wr.alloc (.cells #[.bool yw, .int .i64 yk, .int .i64 yv, .int .i64 yn] 50)) = w9 at *
              generalize wr.heap.size = g9 at *
              have l9 := HP9.out.lt
              have p1 := HP9.out.at_ 1
              have p2 := HP9.out.at_ 2
              simp at p1 p2
              clear HKJ
              have HFIN : Hid (∀ b : Bool, b = (ub || (vb || (decide (yk = (k : Int)) && !decide (yv = 2)))) → Value.bool b = .bool (ub || (ops.take (j + 1)).any (opUse notLost (k : Int)))) := Hd (fun b hb => by rw [HUJ.out, hb])
              cases ub with
              | true =>
                go_wp2
                go_roundw
                case rel => first | exact ⟨j + 1, by go_num, by omega, HFIN.out _ rfl, HO9⟩ | exact ⟨_, ⟨j + 1, by go_num, by omega, HFIN.out _ rfl, HO9⟩, rfl⟩
                case measure => simp [intOf]; omega
              | false =>
                cases vb with
                | true =>
                  go_wp2
                  go_roundw
                  case rel => first | exact ⟨j + 1, by go_num, by omega, HFIN.out _ rfl, HO9⟩ | exact ⟨_, ⟨j + 1, by go_num, by omega, HFIN.out _ rfl, HO9⟩, rfl⟩
                  case measure => simp [intOf]; omega
                | false =>
                  by_cases h1 : yk = (k : Int)
                  · have hd1 : (yk == (k : Int)) = true := by simpa using h1
                    by_cases h2 : yv = 2
                    · have hd2 : (yv != 2) = false := by simp [h2]
                      have HF2 := Hd (HFIN.out false (by simp [h2]))
                      clear HFIN h1 h2
                      go_wp2
                      go_roundw
                      case rel => first | exact ⟨j + 1, by go_num, by omega, HF2.out, HO9⟩ | exact ⟨_, ⟨j + 1, by go_num, by omega, HF2.out, HO9⟩, rfl⟩
                      case measure => simp [intOf]; omega
                    · have hd2 : (yv != 2) = true := by simp [h2]
                      have HF2 := Hd (HFIN.out true (by simp [h2, h1]))
                      clear HFIN h1 h2
                      go_wp2
                      go_roundw
                      case rel => first | exact ⟨j + 1, by go_num, by omega, HF2.out, HO9⟩ | exact ⟨_, ⟨j + 1, by go_num, by omega, HF2.out, HO9⟩, rfl⟩
                      case measure => simp [intOf]; omega
                  · have hd1 : (yk == (k : Int)) = false := by simpa using h1
                    have HF2 := Hd (HFIN.out false (by simp [h1]))
                    clear HFIN h1
                    go_wp2
                    go_roundw
                    case rel => first | exact ⟨j + 1, by go_num, by omega, HF2.out, HO9⟩ | exact ⟨_, ⟨j + 1, by go_num, by omega, HF2.out, HO9⟩, rfl⟩
                    case measure => simp [intOf]; omega
            · have hjm : j = m := by omega
              subst hjm
              have hd3 : decide ((j : Int) < (j : Int)) = false := by simp
              have HFB : Hid (Value.bool (ub || (ops.take j).any (opUse notLost (k : Int))) = .bool (usedK notLost (h.l.take (i + 1)) (k : Int))) := Hd (by
                rw [HUT.out, List.take_of_length_le (by rw [HMM.out]; exact Nat.le_refl _)])
              have HO9 := Hd (hO.out.trans hO2.out)
              go_wp2
              go_roundw
              case rel => first | exact ⟨i + 1, by go_num, by omega, HFB.out, HO9⟩ | exact ⟨_, ⟨i + 1, by go_num, by omega, HFB.out, HO9⟩, rfl⟩
              case measure => simp [intOf]; omega
        · have hin : i = n2 := by omega
          subst hin
          have hd2 : decide ((i : Int) < (i : Int)) = false := by simp
          have HUE : Hid (usedK notLost (h.l.take i) (k : Int) = usedK notLost h.l (k : Int)) := Hd (by rw [List.take_of_length_le (by rw [HLN.out]; exact Nat.le_refl _)])
          rw [HUE.out]
          have lG := HKI.out.bg.lt
          have z1 := HKI.out.bg.at_ 1
          simp at z1
          obtain ⟨A5, c5, hV1, -, -, -, -⟩ := own_row (HKI.out.rows.all 2 _ rfl)
          have hV1' : V1 = .slice A5 (keptK notLost h.l (h.ks.take k)).length c5 := hV1
          subst hV1'
          clear hV1
          have HTE : Hid (toL h.l (k + 1) = toL h.l k ++ [(numK notLost h.l k : Int)]) := Hd (toL_succ h.l k)
          have htl : (toL h.l k).length = k := by simp [toL]
          have HVT : Hid (wr.ownsRow w.heap.size 3 1 u4 k ((toL h.l k).map (Value.int .i64))) := Hd (by
            have h9 := HKI.out.rows.all 0 _ rfl
            unfold OR.ok rI at h9
            dsimp only at h9
            rwa [htl] at h9)
          have hszr : w.heap.size ≤ wr.heap.size := HKI.out.o.size
          have hkl := HKL.out
          go_upto_region 16 with (at_builtin; refine wpList_append_row _ rfl (.tmp 67) (.tmp 71) _ rfl w.heap.size 3 ii0 _ 1 8 Tryz.underlying32 hii hi0 hi1 hi2 rfl (by omega) u4 k ((toL h.l k).map (Value.int .i64)) rfl (own_only HVT.out ((Only.refl [] _).alloc _) (by simp)) (wr.heap.size + 1) (some ⟨wr.heap.size, 0, none⟩) 1 1 [.int .i64 (numK notLost h.l k : Int)] rfl rfl (row_lit wr 3 #[.int .i64 (numK notLost h.l k : Int)]) (by intro u hu; simp at hu; subst hu; rfl) (by unfold maxLen; omega) (by omega) (by simp; omega) ?_; intro v7 w7 hown7 hgrow7 hat7; have hgr : World.grownBy (wr.alloc (.cells #[.int .i64 (numK notLost h.l k : Int)] 3)) w7 u4.ownBlock := hgrow7; have HK7 := Hd ((HKI.out.same ((Only.refl [] wr).alloc (.cells #[.int .i64 (numK notLost h.l k : Int)] 3))).grow (i := 0) rfl hgr hown7 hat7); clear hown7 hgrow7 hat7 hgr lG z1 lB y2)
          have HK8 : Hid (RK w w7 #[.slice A0 n0 c0, .slice A1 n1 c1, .slice A2 i c2] w.heap.size g1 gG #[.slice AS n0 cS, .slice A5 (keptK notLost h.l (h.ks.take k)).length c5, .slice none 0 0] [rI v7 (toL h.l (k + 1)), rS (.slice AS n0 cS) h.ss, rS (.slice A5 (keptK notLost h.l (h.ks.take k)).length c5) (keptK notLost h.l (h.ks.take k))]) := Hd (by
            have h9 := HK7.out
            have e : rI v7 (toL h.l (k + 1)) = ⟨3, 1, v7, k + 1, (toL h.l k).map (Value.int .i64) ++ [.int .i64 (numK notLost h.l k : Int)]⟩ := by
              unfold rI
              rw [HTE.out, List.length_append, htl, List.map_append]
              rfl
            rw [e]
            exact h9)
          clear HK7 HKI HVT HKK HOk hO
          cases hu : usedK notLost h.l (k : Int) with
          | false =>
            have HE : Hid (keptK notLost h.l (h.ks.take (k + 1)) = keptK notLost h.l (h.ks.take k)) := Hd (by rw [HKT.out, hu]; simp)
            clear hu HUE
            have HKR := Hd HK8.out
            rw [← HE.out] at HKR
            go_wp2
            go_roundw
            case rel => first | exact ⟨k + 1, _, by go_num, by omega, HKR⟩ | exact ⟨_, ⟨k + 1, _, by go_num, by omega, HKR⟩, rfl⟩
            case measure => simp [intOf]; omega
          | true =>
            have HE : Hid (keptK notLost h.l (h.ks.take (k + 1)) = keptK notLost h.l (h.ks.take k) ++ [z]) := Hd (by rw [HKT.out, hu]; simp)
            clear hu HUE
            have hszr7 : w.heap.size ≤ w7.heap.size := HK8.out.o.size
            obtain ⟨bk, ok_, rfl, hbkB, hbkw, hck⟩ := HIK.out.open_ (k := k) (by rw [strs, List.length_map, HKN.out]; exact hlt)
            have hck0 := hck k _ (by rw [strs, List.getElem?_map, HZ.out]; rfl)
            have HCZ : Hid (w7.cell? ⟨bk, ok_ + k, none⟩ = some (.string z)) := Hd ((HK8.out.o.cell (p := ⟨bk, ok_ + k, none⟩) hbkw (by simp)).trans hck0)
            have hbk7 : bk < w7.heap.size := Nat.lt_of_lt_of_le hbkw HK8.out.o.size
            clear hck hck0
            go_upto_region 17 with (fail)
            generalize hkk : keptK notLost h.l (h.ks.take k) = kk at *
            have HKK2 := Hd hkk
            have hkl2 : kk.length ≤ 1000 := by rw [hkl]; omega
            clear hkk hkl
            have HV8 : Hid (w7.ownsRow w.heap.size 9 1 (.slice A5 kk.length c5) kk.length (strs kk)) := Hd (HK8.out.rows.all 2 _ rfl)
            have RD0 := Hd fun wq (hSw : Only (Value.slice A5 kk.length c5).ownBlock.toList w7 wq) => aI ((hSw.blk HK8.out.bg (own_apart HV8.out HK8.out.bg (by decide))).lt) (aI ((hSw.blk HK8.out.bh (own_apart HV8.out HK8.out.bh (by decide))).lt) (aI ((hSw.blk HK8.out.bg (own_apart HV8.out HK8.out.bg (by decide))).at_ 1) (aI ((hSw.blk HK8.out.bh (own_apart HV8.out HK8.out.bh (by decide))).at_ 1) ((hSw.cell (p := ⟨bk, ok_ + k, none⟩) hbk7 (own_off HV8.out hbkw)).trans HCZ.out))))
            refine rgo (F := [⟨[], [10], fun w' => Only (Value.slice A5 kk.length c5).ownBlock.toList w7 w'⟩]) (th1 ((Only.refl _ w7).drew)) ?_
            refine tQ 0 (h := trq 1 0 RD0 (h := tQ 2 (h := trq 3 0 RD0 (h := tQ 4 (h := tQ 5 (h := trq 6 0 RD0 (h := ?_)))))))
            refine tst (i := 7) fun K hK => ?_
            go_simp
            have OA : Only [] w7 ((w7.alloc (.cells #[.string z] 9)).drew) := ((Only.refl [] w7).alloc _).drew
            refine kOut hK (((Only.refl _ w7).alloc _).drew) (h := ?_)
            clear hK K
            refine tst (i := 8) fun K hK => ?_
            refine step_append_row _ rfl (.tmp 75) (.tmp 81) 22 rfl w.heap.size 9 is0 _ 1 16 Tryz.underlying22 his hs0 hs1 hs2 rfl (by omega) (Value.slice A5 kk.length c5) kk.length (strs kk) (by rfl) (own_only HV8.out OA (by simp)) (w7.heap.size + 1) (some ⟨w7.heap.size, 0, none⟩) 1 1 [.string z] (by rfl) (by rfl) (by exact row_lit w7 9 #[.string z]) (by intro u hu; simp at hu; subst hu; rfl) (by unfold maxLen; omega) (by omega) (by have := OA.size; omega) ?_
            intro v4 w4 hown4 hgrow4 hat4
            obtain ⟨A4, c4, e4, -, -, -, -⟩ := own_row hown4
            subst e4
            have O4 : Only (Value.slice A5 kk.length c5).ownBlock.toList w7 w4 := ((Only.refl (Value.slice A5 kk.length c5).ownBlock.toList w7).alloc (.cells #[.string z] 9)).drew.step (only_grown hgrow4) (fun j hj hl => hj)
            have HK9 := Hd ((HK8.out.same OA).grow (i := 2) rfl hgrow4 hown4 hat4)
            have lG := HK9.out.bg.lt
            have z1 := HK9.out.bg.at_ 1
            have f1 := HK9.out.bg.free 1
            simp at z1
            clear OA
            refine kOut hK (O4) (h := ?_)
            clear hK K
            refine tQ 9 (h := ?_)
            refine tst (i := 10) fun K hK => ?_
            go_simp
            refine hK.out _ _ (timed_over (by kernel_rfl) (timed_nil)) ?_
            clear hK K
            try simp only [tdz]
            refine tdn ?_
            have HKA : Hid (RK w (w4.setCell ⟨gG, 1, none⟩ (.slice A4 (kk.length + 1) c4)) #[.slice A0 n0 c0, .slice (some ⟨bk, ok_, none⟩) n1 c1, .slice A2 i c2] w.heap.size g1 gG #[.slice AS n0 cS, .slice A4 (kk.length + 1) c4, .slice none 0 0] [rI v7 (toL h.l (k + 1)), rS (.slice AS n0 cS) h.ss, rS (.slice A4 (kk.length + 1) c4) (keptK notLost h.l (h.ks.take (k + 1)))]) := Hd (by
              have h9 := HK9.out.setG 1 (.slice A4 (kk.length + 1) c4)
              rw [HE.out]
              have e : rS (.slice A4 (kk.length + 1) c4) (kk ++ [z]) = ⟨9, 1, .slice A4 (kk.length + 1) c4, kk.length + 1, strs kk ++ [.string z]⟩ := by simp [rS, strs]
              rw [e]
              exact h9)
            clear HK9 lG z1 f1
            go_wp2
            go_roundw
            case rel => first | exact ⟨k + 1, _, by go_num, by omega, HKA⟩ | exact ⟨_, ⟨k + 1, _, by go_num, by omega, HKA⟩, rfl⟩
            case measure => simp [intOf]; omega
    · have hkn : k = n1 := by omega
      subst hkn
      have hd2 : decide ((k : Int) < (k : Int)) = false := by simp
      obtain ⟨it, hit, ht0, ht1, ht2⟩ := info_parts info_txn
      obtain ⟨io, hio, ho0, ho1, ho2⟩ := info_parts info_op
      have HK2 : Hid (RK w wr #[.slice A0 n0 c0, .slice A1 k c1, .slice A2 n2 c2] w.heap.size g1 gG #[.slice AS n0 cS, V1, .slice none 0 0] ([rI u4 (toL h.l k), rS (.slice AS n0 cS) h.ss, rS V1 (keptK notLost h.l h.ks), rT (.slice none 0 0) []] ++ ([] : List TxA).map eRow)) := Hd (by
        have h9 := hK.out
        rw [List.take_of_length_le (by rw [HKN.out]; exact Nat.le_refl _)] at h9
        exact h9.push (r' := rT (.slice none 0 0) []) (World.ownsRow_nil _ _ _ _) rfl (by show 39 ≠ 25; decide))
      have hlE : (toL h.l k).length = k := by simp [toL]
      have HTG := Hd (fun (i : Nat) (h9 : i < k) => toL_get h.l h9)
      generalize toL h.l k = TL at *
      generalize u4 = VT at *
      obtain ⟨AT2, cT2, hVT', -, -, -, hRT⟩ := own_row (HK2.out.rows.all 0 _ rfl)
      have hVT2 : VT = .slice AT2 k cT2 := by rw [← hlE]; exact hVT'
      subst hVT2
      have hRT0 : Hid (Row wr wr.heap.size AT2 (TL.map (Value.int .i64))) := Hd hRT
      clear hK hVT' hRT
      go_wp2_with fail
      clear lB y1 y2
      go_loopw [10] (fun qv wr => ∃ (q : Nat) (V2 : Value) (xs : List TxA), qv = .int .i64 q ∧ q ≤ n2 ∧ Hid (xs.map TxA.t = (h.l.take q).map (keptT notLost h.l)) ∧ Hid (∀ x ∈ xs, x.t.ops.length ≤ x.cp ∧ x.cp ≤ maxLen) ∧ Hid (RK w wr #[.slice A0 n0 c0, .slice A1 k c1, .slice A2 n2 c2] w.heap.size g1 gG #[.slice AS n0 cS, V1, V2] ([rI (.slice AT2 k cT2) TL, rS (.slice AS n0 cS) h.ss, rS V1 (keptK notLost h.l h.ks), rT V2 xs] ++ xs.map eRow))) (fun qv _ => n2 - (intOf qv).toNat)
      case atStart => exact ⟨0, _, [], rfl, by omega, Hd rfl, Hd (by simp), HK2⟩
      case round =>
        obtain ⟨q, V2, xs, rfl, hq, hxs, hcp, hK⟩ := hrel
        clear HK2
        have hxl : xs.length = q := by
          have := congrArg List.length hxs.out
          simp at this
          rw [this, HLN.out, Nat.min_eq_left hq]
        have lB := hK.out.bh.lt
        have y2 := hK.out.bh.at_ 2
        simp at y2
        by_cases hlt : q < n2
        · obtain ⟨t, ht⟩ : ∃ t, h.l[q]? = some t := ⟨_, List.getElem?_eq_getElem (by rw [HLN.out]; exact hlt)⟩
          obtain ⟨bt, ot, AT, cpt, rfl, hbtB, hbtw, hTA, hOk⟩ := HIL.out.at_ ht
          obtain ⟨a0, a1, a2⟩ := hTA.only hK.out.o hbtw (by simp)
          have hbtr : bt < wr.heap.size := Nat.lt_of_lt_of_le hbtw hK.out.o.size
          have hno := HNO.out t (List.mem_of_getElem? ht)
          have HTQ := Hd ht
          have HROW := Hd hOk.row
          have HTA := Hd hTA
          have h01 : (q : Int) < (n2 : Int) := by omega
          have hq0 : (0 : Int) ≤ (q : Int) := Int.natCast_nonneg _
          have hwq : IntKind.i64.wrap ((q : Int) + 1) = (q : Int) + 1 := IntWalk.i64_in _ (by omega)
          have HMK := Hd (may_keysN HMY.out (List.mem_of_getElem? ht))
          obtain ⟨ts, tf, ops⟩ := t
          dsimp only at a0 a1 a2 hno HROW HMK HTA
          generalize hmm : ops.length = m at *
          have HMM := Hd hmm
          clear ht hOk hTA hmm
          go_upto_region 21 with (fail)
          clear a0 a1 a2 lB y2
          refine rg1 [] [] wr ?_
          have OW : Only [] wr wr.drew := (Only.refl [] wr).drew
          have HGV9 : wr.heap.size ≤ wr.drew.heap.size := OW.size
          generalize hwz : wr.drew = wz at *
          clear hwz
          refine tQ 0 (h := ?_)
          refine trd (i := 1) (v := ?_) 0 ?_ ?_
          rotate_left
          · (intro wq hSw; obtain ⟨lb_H, y2⟩ := Bk1 (hSw.blk hK.out.bh (by simp)) 2; simp at y2; obtain ⟨a0, a1, -⟩ := (HTA.out.only (hK.out.o.trans hSw) hbtw (by simp)); have hbq : bt < wq.heap.size := Nat.lt_of_lt_of_le hbtr hSw.size; dsimp only at a0 a1; clear hSw; go_simp; try with_reducible rfl)
          try simp only [tdz]
          refine tQ 2 (h := tQ 3 (h := tQ 4 (h := ?_)))
          refine trd (i := 5) (v := ?_) 0 ?_ ?_
          rotate_left
          · (intro wq hSw; obtain ⟨lb_H, y2⟩ := Bk1 (hSw.blk hK.out.bh (by simp)) 2; simp at y2; obtain ⟨a0, a1, -⟩ := (HTA.out.only (hK.out.o.trans hSw) hbtw (by simp)); have hbq : bt < wq.heap.size := Nat.lt_of_lt_of_le hbtr hSw.size; dsimp only at a0 a1; clear hSw; go_simp; try with_reducible rfl)
          try simp only [tdz]
          refine tQ 6 (h := ?_)
          refine trd (i := 7) (v := ?_) 0 ?_ ?_
          rotate_left
          · (intro wq hSw; obtain ⟨lb_H, y2⟩ := Bk1 (hSw.blk hK.out.bh (by simp)) 2; simp at y2; obtain ⟨a0, a1, -⟩ := (HTA.out.only (hK.out.o.trans hSw) hbtw (by simp)); have hbq : bt < wq.heap.size := Nat.lt_of_lt_of_le hbtr hSw.size; dsimp only at a0 a1; clear hSw; go_simp; try with_reducible rfl)
          try simp only [tdz]
          refine tQ 8 (h := tQ 9 (h := tQ 10 (h := ?_)))
          refine trd (i := 11) (v := ?_) 0 ?_ ?_
          rotate_left
          · (intro wq hSw; obtain ⟨lb_H, y2⟩ := Bk1 (hSw.blk hK.out.bh (by simp)) 2; simp at y2; obtain ⟨a0, a1, -⟩ := (HTA.out.only (hK.out.o.trans hSw) hbtw (by simp)); have hbq : bt < wq.heap.size := Nat.lt_of_lt_of_le hbtr hSw.size; dsimp only at a0 a1; clear hSw; go_simp; try with_reducible rfl)
          try simp only [tdz]
          refine tQ 12 (h := ?_)
          refine tst (i := 13) fun K hK => ?_
          go_simp
          have BL8 := Blk.made wz 39 #[.int .i64 0, .int .i64 0, .slice none 0 0]
          have OW1 := OW.alloc (.cells #[.int .i64 0, .int .i64 0, .slice none 0 0] 39)
          generalize wz.alloc (.cells #[.int .i64 0, .int .i64 0, .slice none 0 0] 39) = w8 at *
          generalize wz.heap.size = g8 at *
          refine kOut hK (OW1) (h := ?_)
          clear hK K
          refine tst (i := 14) fun K hK => ?_
          refine wp_store_blk 39 (.tmp 11) (.tmp 103) rfl g8 39 _ #[.int .i64 ts, .int .i64 tf, .slice none 0 0] rfl rfl BL8 rfl (by kernel_rfl) (by kernel_rfl) ?_
          intro w9 b9 o9
          have HG9 := Hd b9
          have OW9 := OW1.step o9 (fun i hi hl => by simp at hi; omega)
          clear o9 b9
          refine kOut hK (OW9) (h := ?_)
          clear hK K
          refine tdn ?_
          have HW9 := Hd OW9
          clear OW OW1 BL8 OW9
          have HK5 := Hd ((hK.out.same HW9.out).push (r' := ⟨50, 4, .slice none 0 0, (keptO notLost h.l (ops.take 0)).length, opC (keptO notLost h.l (ops.take 0))⟩) (World.ownsRow_nil _ _ _ _) rfl (by show 50 ≠ 25; decide))
          have HQ5 : Hid (∀ r ∈ ([rI (.slice AT2 k cT2) TL, rS (.slice AS n0 cS) h.ss, rS V1 (keptK notLost h.l h.ks), rT V2 xs] ++ xs.map eRow), r.e = 39 → r.v.ownBlock ≠ some g8) := Hd (fun r hr _ he => by
            obtain ⟨i, hi⟩ := List.mem_iff_getElem?.1 hr
            have := hK.out.out (base' := 0) g8 (ownB_mem.2 ⟨i, r, hi, he⟩)
            omega)
          have hszw8 : w.heap.size ≤ g8 := by have := hK.out.o.size; omega
          clear hK HW9
          go_wp2_with fail
          go_loopw [12] (fun jv wr => ∃ (j : Nat) (V : Value), jv = .int .i64 j ∧ j ≤ m ∧ Hid (RK w wr #[.slice A0 n0 c0, .slice A1 k c1, .slice (some ⟨bt, ot, none⟩) n2 c2] w.heap.size g1 gG #[.slice AS n0 cS, V1, V2] (([rI (.slice AT2 k cT2) TL, rS (.slice AS n0 cS) h.ss, rS V1 (keptK notLost h.l h.ks), rT V2 xs] ++ xs.map eRow) ++ [⟨50, 4, V, (keptO notLost h.l (ops.take j)).length, opC (keptO notLost h.l (ops.take j))⟩])) ∧ Hid (Blk wr g8 39 #[.int .i64 ts, .int .i64 tf, V])) (fun jv _ => m - (intOf jv).toNat)
          case atStart => exact ⟨0, _, rfl, by omega, HK5, HG9⟩
          case round =>
            obtain ⟨j, V, rfl, hj, hK, hT⟩ := hrel
            clear HK5 HG9
            have lB := hK.out.bh.lt
            have y2 := hK.out.bh.at_ 2
            simp at y2
            obtain ⟨a0, a1, a2⟩ := HTA.out.only hK.out.o hbtw (by simp)
            have hbtr : bt < wr.heap.size := Nat.lt_of_lt_of_le hbtw hK.out.o.size
            dsimp only at a0 a1 a2
            rw [HMM.out] at a2
            by_cases hlt2 : j < m
            · obtain ⟨y, hy⟩ : ∃ y, ops[j]? = some y := ⟨_, List.getElem?_eq_getElem (by rw [HMM.out]; exact hlt2)⟩
              obtain ⟨bo, oo, rfl, hboB, hbo, hP⟩ := row_op (HROW.out.only hK.out.o (by simp)) hy
              obtain ⟨p0, p1, p2, p3⟩ := hP
              have HOT := Hd (keptO_take (p := notLost) (l := h.l) hy)
              have hol := keptO_len notLost h.l (ops.take j)
              rw [List.length_take] at hol
              have hky := HMK.out y (List.mem_of_getElem? hy)
              have HUS := Hd (fun hp => used_of (p := notLost) (List.mem_of_getElem? HTQ.out) (o := y) (List.mem_of_getElem? hy) hp)
              obtain ⟨yw, yk, yv, yn⟩ := y
              dsimp only at p0 p1 p2 p3 hky
              obtain ⟨kk, rfl⟩ : ∃ kk : Nat, yk = kk := ⟨yk.toNat, by omega⟩
              have h02 : (j : Int) < (m : Int) := by omega
              have hj0 : (0 : Int) ≤ (j : Int) := Int.natCast_nonneg _
              have hwj : IntKind.i64.wrap ((j : Int) + 1) = (j : Int) + 1 := IntWalk.i64_in _ (by omega)
              clear hy
              go_upto_region 26 with (fail)
              have HX := Hd ((Only.refl [] wr).alloc (.cells #[.bool yw, .int .i64 (kk : Int), .int .i64 yv, .int .i64 yn] 50))
              have HP6 := Hd (Blk.made wr 50 #[.bool yw, .int .i64 (kk : Int), .int .i64 yv, .int .i64 yn])
              have HK6 := Hd (hK.out.same HX.out)
              have HT6 := Hd (HX.out.blk hT.out (by simp))
              have HGE : Hid (∀ g ∈ ownB (([rI (.slice AT2 k cT2) TL, rS (.slice AS n0 cS) h.ss, rS V1 (keptK notLost h.l h.ks), rT V2 xs] ++ xs.map eRow) ++ [⟨50, 4, V, (keptO notLost h.l (ops.take j)).length, opC (keptO notLost h.l (ops.take j))⟩]), g < wr.heap.size) := Hd (fun g hg => hK.out.out (base' := 0) g hg)
              have HGB : Hid (w.heap.size ≤ wr.heap.size) := Hd hK.out.o.size
              clear HX hK hT p0 p1 p2 p3 hbo lB y2 a0 a1 a2 hbtr
              generalize (wr.alloc (.cells #[.bool yw, .int .i64 (kk : Int), .int .i64 yv, .int .i64 yn] 50)) = w6 at *
              generalize wr.heap.size = g13 at *
              have l13 := HP6.out.lt
              have x1 := HP6.out.at_ 1
              have x2 := HP6.out.at_ 2
              simp at x1 x2
              by_cases hv : yv = 2
              · have hv1 : (yv != 2) = false := by simp [hv]
                have HE : Hid (keptO notLost h.l (ops.take (j + 1)) = keptO notLost h.l (ops.take j)) := Hd (by rw [HOT.out]; simp [notLost, hv])
                have HKR := Hd HK6.out
                rw [← HE.out] at HKR
                clear hv HK6
                go_wp2
                go_roundw
                case rel => first | exact ⟨j + 1, V, by go_num, by omega, HKR, HT6⟩ | exact ⟨_, ⟨j + 1, V, by go_num, by omega, HKR, HT6⟩, rfl⟩
                case measure => simp [intOf]; omega
              · have hv1 : (yv != 2) = true := by simp [hv]
                have HE : Hid (keptO notLost h.l (ops.take (j + 1)) = keptO notLost h.l (ops.take j) ++ [⟨yw, (numK notLost h.l kk : Int), yv, yn⟩]) := Hd (by rw [HOT.out]; simp [keyTo, notLost, hv])
                clear hv
                have hkk1 : kk < k := by have := HKN.out; omega
                have hTLk := HTG.out kk hkk1
                obtain ⟨bT, oT, hAT, -, hbT, hcT⟩ := hRT0.out.open_ (k := kk) (by rw [List.length_map, hlE]; exact hkk1)
                subst hAT
                have HRT6 : Hid (Row w6 w6.heap.size (some ⟨bT, oT, none⟩) (TL.map (Value.int .i64))) := Hd (by
                  have h9 := HK6.out.rows.all 0 _ rfl
                  unfold OR.ok rI at h9
                  dsimp only at h9
                  rw [hlE] at h9
                  exact (own_row_at h9).1)
                obtain ⟨bT', oT', hAT', -, hbT6, hcT6⟩ := HRT6.out.open_ (k := kk) (by rw [List.length_map, hlE]; exact hkk1)
                injection hAT' with hAT'
                injection hAT' with e1 e2 _
                subst e1 e2
                have hc6 : w6.cell? ⟨bT, oT + kk, none⟩ = some (.int .i64 (numK notLost h.l kk : Int)) := hcT6 kk _ (by rw [List.getElem?_map, hTLk]; rfl)
                have hkk2 : (kk : Int) < (k : Int) := by omega
                have hkk0 : (0 : Int) ≤ (kk : Int) := Int.natCast_nonneg _
                have f1 := HP6.out.free 1
                clear hcT hcT6 hbT
                go_upto_region 28 with (fail)
                have HK8 := Hd (HK6.out.setFree HP6.out (by decide) (fun hm => by have := HGE.out g13 hm; omega) HGB.out 1 (.int .i64 (numK notLost h.l kk : Int)))
                have HT8 := Hd (HT6.out.far (p := ⟨g13, 1, none⟩) (HT6.out.apart HP6.out (by decide)) (.int .i64 (numK notLost h.l kk : Int)))
                have HP8 := Hd (HP6.out.put 1 (.int .i64 (numK notLost h.l kk : Int)))
                clear HK6 HT6 HP6 l13 x1 x2 f1 hc6 HRT6
                generalize (w6.setCell ⟨g13, 1, none⟩ (.int .i64 (numK notLost h.l kk : Int))) = w8 at *
                have l13 := HP8.out.lt
                have x0 := HP8.out.at_ 0
                have x1 := HP8.out.at_ 1
                have x2 := HP8.out.at_ 2
                have x3 := HP8.out.at_ 3
                have l8 := HT8.out.lt
                have q2 := HT8.out.at_ 2
                simp at x0 x1 x2 x3 q2
                have HV8 : Hid (w8.ownsRow w.heap.size 50 4 V (keptO notLost h.l (ops.take j)).length (opC (keptO notLost h.l (ops.take j)))) := Hd HK8.out.last
                have hsz8 : w.heap.size ≤ w8.heap.size := HK8.out.o.size
                go_upto_region 28 with (fail)
                refine wp_region_lit ?_
                refine wpList_plain rfl (fun K hK => ?_)
                go_simp
                refine hK _ _ ?_
                clear hK K
                refine wpList_plain rfl (fun K hK => ?_)
                go_simp
                refine hK _ _ ?_
                clear hK K
                refine wpList_plain rfl (fun K hK => ?_)
                go_simp
                refine hK _ _ ?_
                clear hK K
                refine wpList_plain rfl (fun K hK => ?_)
                go_simp
                refine hK _ _ ?_
                clear hK K
                refine wpList_append_row _ rfl (.tmp 135) (.tmp 137) _ rfl w.heap.size 50 io _ 4 32 Tryz.underlying37 hio ho0 ho1 ho2 rfl (by omega) V _ _ rfl (own_only HV8.out ((Only.refl [] _).alloc _) (by simp)) (w8.heap.size + 1) (some ⟨w8.heap.size, 0, none⟩) 1 1 [.bool yw, .int .i64 (numK notLost h.l kk : Int), .int .i64 yv, .int .i64 yn] rfl rfl (row_lit w8 50 #[.bool yw, .int .i64 (numK notLost h.l kk : Int), .int .i64 yv, .int .i64 yn]) (by intro u hu; simp at hu; rcases hu with rfl | rfl | rfl | rfl <;> rfl) (by unfold maxLen; omega) (by omega) (by simp; omega) ?_
                intro v9 w9 hown9 hgrow9 hat9
                obtain ⟨A9, c9, rfl, -, -, -, -⟩ := own_row hown9
                have hgr : World.grownBy (w8.alloc (.cells #[.bool yw, .int .i64 (numK notLost h.l kk : Int), .int .i64 yv, .int .i64 yn] 50)) w9 V.ownBlock := hgrow9
                have HK9 := Hd ((HK8.out.same ((Only.refl [] w8).alloc (.cells #[.bool yw, .int .i64 (numK notLost h.l kk : Int), .int .i64 yv, .int .i64 yn] 50))).growLast hgr hown9 hat9)
                have HT9 := Hd ((only_grown hgr).blk (HT8.out.alloc (.cells #[.bool yw, .int .i64 (numK notLost h.l kk : Int), .int .i64 yv, .int .i64 yn] 50)) (own_apart HV8.out HT8.out (by decide)))
                have l9 := HT9.out.lt
                have q9 := HT9.out.at_ 2
                have f9 := HT9.out.free 2
                simp at q9
                clear hown9 hgrow9 hat9 hgr l13 x0 x1 x2 x3 l8 q2
                go_wp2
                have HK10 : Hid (RK w (w9.setCell ⟨g8, 2, none⟩ (.slice A9 ((keptO notLost h.l (ops.take j)).length + 1) c9)) #[.slice A0 n0 c0, .slice A1 k c1, .slice (some ⟨bt, ot, none⟩) n2 c2] w.heap.size g1 gG #[.slice AS n0 cS, V1, V2] (([rI (.slice (some ⟨bT, oT, none⟩) k cT2) TL, rS (.slice AS n0 cS) h.ss, rS V1 (keptK notLost h.l h.ks), rT V2 xs] ++ (xs).map eRow) ++ [⟨50, 4, .slice A9 ((keptO notLost h.l (ops.take j)).length + 1) c9, (keptO notLost h.l (ops.take (j + 1))).length, opC (keptO notLost h.l (ops.take (j + 1)))⟩])) := Hd (by
                  rw [HE.out, List.length_append, opC_append]
                  refine HK9.out.setFree HT9.out (by decide) (HK9.out.free_of HT9.out (fun r hr he => ?_)) hszw8 2 (.slice A9 ((keptO notLost h.l (ops.take j)).length + 1) c9)
                  rcases List.mem_append.1 hr with h1 | h1
                  · exact HQ5.out r h1 he
                  · simp at h1
                    subst h1
                    exact absurd he (show ¬ 50 = 39 by decide))
                have HT10 : Hid (Blk (w9.setCell ⟨g8, 2, none⟩ (.slice A9 ((keptO notLost h.l (ops.take j)).length + 1) c9)) g8 39 #[.int .i64 ts, .int .i64 tf, (.slice A9 ((keptO notLost h.l (ops.take j)).length + 1) c9)]) := Hd (HT9.out.put 2 (.slice A9 ((keptO notLost h.l (ops.take j)).length + 1) c9))
                go_roundw
                case rel => first | exact ⟨j + 1, .slice A9 ((keptO notLost h.l (ops.take j)).length + 1) c9, by go_num, by omega, HK10, HT10⟩ | exact ⟨_, ⟨j + 1, .slice A9 ((keptO notLost h.l (ops.take j)).length + 1) c9, by go_num, by omega, HK10, HT10⟩, rfl⟩
                case measure => simp [intOf]; omega
            · have hjm : j = m := by omega
              subst hjm
              have hd4 : decide ((j : Int) < (j : Int)) = false := by simp
              have hopt : ops.take j = ops := List.take_of_length_le (by rw [HMM.out]; exact Nat.le_refl _)
              have hKL := hK.out
              rw [hopt] at hKL
              have HKL2 := Hd hKL
              clear hKL
              generalize hko : keptO notLost h.l ops = ko at *
              obtain ⟨Ao, co, hu13, hlo1, hlo2, -, -⟩ := own_row HKL2.out.last
              have hu13' : V = .slice Ao ko.length co := hu13
              subst hu13'
              have hlo1' : ko.length ≤ co := hlo1
              obtain ⟨A2t, c2t, hV2, -, -, -, -⟩ := own_row (HKL2.out.rows.all 3 (rT V2 xs) rfl)
              have hV2' : V2 = .slice A2t q c2t := by rw [← hxl]; exact hV2
              subst hV2'
              have HVT : Hid (wr.ownsRow w.heap.size 39 3 (.slice A2t q c2t) q (txC xs)) := Hd (by
                have h9 := HKL2.out.rows.all 3 (rT (.slice A2t q c2t) xs) rfl
                unfold OR.ok rT at h9
                dsimp only at h9
                rwa [hxl] at h9)
              have hszr : w.heap.size ≤ wr.heap.size := HKL2.out.o.size
              have lG := HKL2.out.bg.lt
              have z2 := HKL2.out.bg.at_ 2
              have l12 := hT.out.lt
              have x0 := hT.out.at_ 0
              have x1 := hT.out.at_ 1
              have x2 := hT.out.at_ 2
              simp at z2 x0 x1 x2
              have HKO : Hid (keptO notLost h.l ops = ko) := Hd hko
              clear hu13 hV2 hlo1 hK hT hko hopt
              go_upto_region 29 with (fail)
              refine wp_region_lit ?_
              refine wpList_plain rfl (fun K hK => ?_)
              go_simp
              refine hK _ _ ?_
              clear hK K
              refine wpList_plain rfl (fun K hK => ?_)
              go_simp
              refine hK _ _ ?_
              clear hK K
              refine wpList_plain rfl (fun K hK => ?_)
              go_simp
              refine hK _ _ ?_
              clear hK K
              refine wpList_plain rfl (fun K hK => ?_)
              go_simp
              refine hK _ _ ?_
              clear hK K
              refine wpList_append_row _ rfl (.tmp 141) (.tmp 143) _ rfl w.heap.size 39 it _ 3 40 Tryz.underlying23 hit ht0 ht1 ht2 rfl (by omega) (.slice A2t q c2t) q (txC xs) rfl (own_only HVT.out ((Only.refl [] _).alloc _) (by simp)) (wr.heap.size + 1) (some ⟨wr.heap.size, 0, none⟩) 1 1 [.int .i64 ts, .int .i64 tf, .slice Ao ko.length co] rfl rfl (row_lit wr 39 #[.int .i64 ts, .int .i64 tf, .slice Ao ko.length co]) (by intro u hu; simp at hu; rcases hu with rfl | rfl | rfl <;> rfl) (by unfold maxLen; omega) (by omega) (by simp; omega) ?_
              intro v9 w9 hown9 hgrow9 hat9
              obtain ⟨A9, c9, rfl, -, -, -, -⟩ := own_row hown9
              have hgr : World.grownBy (wr.alloc (.cells #[.int .i64 ts, .int .i64 tf, .slice Ao ko.length co] 39)) w9 (Value.slice A2t q c2t).ownBlock := hgrow9
              have hKQ := HKL2.out.same ((Only.refl [] wr).alloc (.cells #[.int .i64 ts, .int .i64 tf, .slice Ao ko.length co] 39))
              have HK9 := Hd (hKQ.grow (i := 3) rfl hgr hown9 hat9)
              have lG9 := HK9.out.bg.lt
              have z9 := HK9.out.bg.at_ 2
              have f9 := HK9.out.bg.free 2
              simp at z9
              clear hown9 hgrow9 hat9 hgr hKQ lG z2 l12 x0 x1 x2
              have HXN : Hid ((xs ++ [(⟨⟨ts, tf, ko⟩, Ao, co⟩ : TxA)]).map TxA.t = (h.l.take (q + 1)).map (keptT notLost h.l)) := Hd (by
                rw [List.map_append, hxs.out, List.take_add_one, HTQ.out, List.map_append]
                simp [keptT, HKO.out])
              have HCN : Hid (∀ x ∈ xs ++ [(⟨⟨ts, tf, ko⟩, Ao, co⟩ : TxA)], x.t.ops.length ≤ x.cp ∧ x.cp ≤ maxLen) := Hd (fun x hx => by
                rcases List.mem_append.1 hx with h1 | h1
                · exact hcp.out x h1
                · simp at h1
                  subst h1
                  exact ⟨hlo1', hlo2⟩)
              have HK10 : Hid (RK w (w9.setCell ⟨gG, 2, none⟩ (.slice A9 (q + 1) c9)) #[.slice A0 n0 c0, .slice A1 k c1, .slice (some ⟨bt, ot, none⟩) n2 c2] w.heap.size g1 gG #[.slice AS n0 cS, V1, .slice A9 (q + 1) c9] ([rI (.slice AT2 k cT2) TL, rS (.slice AS n0 cS) h.ss, rS V1 (keptK notLost h.l h.ks), rT (.slice A9 (q + 1) c9) (xs ++ [(⟨⟨ts, tf, ko⟩, Ao, co⟩ : TxA)])] ++ (xs ++ [(⟨⟨ts, tf, ko⟩, Ao, co⟩ : TxA)]).map eRow)) := Hd (by
                have h9 := HK9.out.setG 2 (.slice A9 (q + 1) c9)
                have e : rT (.slice A9 (q + 1) c9) (xs ++ [(⟨⟨ts, tf, ko⟩, Ao, co⟩ : TxA)]) = ⟨39, 3, .slice A9 (q + 1) c9, q + 1, txC xs ++ [.int .i64 ts, .int .i64 tf, .slice Ao ko.length co]⟩ := by simp [rT, txC, TxA.c, hxl]
                rw [e, List.map_append]
                exact h9)
              clear HKL2
              go_wp2
              go_roundw
              case rel => first | exact ⟨q + 1, _, _, by go_num, by omega, HXN, HCN, HK10⟩ | exact ⟨_, ⟨q + 1, _, _, by go_num, by omega, HXN, HCN, HK10⟩, rfl⟩ | exact ⟨_, _, ⟨q + 1, _, _, by go_num, by omega, HXN, HCN, HK10⟩, rfl, rfl⟩ | exact ⟨_, _, _, ⟨q + 1, _, _, by go_num, by omega, HXN, HCN, HK10⟩, rfl, rfl, rfl⟩ | exact ⟨_, _, _, _, ⟨q + 1, _, _, by go_num, by omega, HXN, HCN, HK10⟩, rfl, rfl, rfl, rfl⟩
              case measure => simp [intOf]; omega
        · have hqn : q = n2 := by omega
          subst hqn
          have hd3 : decide ((q : Int) < (q : Int)) = false := by simp
          have HXE : Hid (xs.map TxA.t = h.l.map (keptT notLost h.l)) := Hd (by rw [hxs.out, List.take_of_length_le (by rw [HLN.out]; exact Nat.le_refl _)])
          have lG := hK.out.bg.lt
          have x0 := hK.out.bg.at_ 0
          have x1 := hK.out.bg.at_ 1
          have x2 := hK.out.bg.at_ 2
          simp at x0 x1 x2
          obtain ⟨Ak, ck, hVk, -, -, -, -⟩ := own_row (hK.out.rows.all 2 _ rfl)
          have hVk' : V1 = .slice Ak (keptK notLost h.l h.ks).length ck := hVk
          subst hVk'
          obtain ⟨At, ct, hVt, -, -, -, -⟩ := own_row (hK.out.rows.all 3 (rT V2 xs) rfl)
          have hVt' : V2 = .slice At q ct := by rw [← hxl]; exact hVt
          subst hVt'
          have HR := Hd hK.out.br
          have HCP := hcp
          clear hVk hVt hcp hxs
          go_wp2_with (refine wpList_store_blk rfl 25 (.tmp 2) (.tmp 146) rfl g1 25 _ #[.slice AS n0 cS, .slice Ak (keptK notLost h.l h.ks).length ck, .slice At q ct] rfl rfl HR.out rfl (by kernel_rfl) (by kernel_rfl) ?_; intro w9 b9 o9; have HB9 := Hd b9; have HN9 := Hd o9; clear b9 o9)
          have HD : HNew w.heap.size w9 AS Ak At (keptH notLost h) := fun S w' hS O => by
            have hR := hK.out.rowsR HN9.out
            have h9 := rows_done (hR.tail.only O (fun g hg hm => by
              have h1 := (hR.tail.ge g hg).1
              have h2 := hS g hm
              omega)) HCP.out
            rw [HXE.out] at h9
            exact h9
          have e1 : (keptH notLost h).ss.length = n0 := HI.out.n0
          have e2 : (keptH notLost h).l.length = q := by
            have := congrArg List.length HXE.out
            rw [← hxl]
            simpa [keptH] using this.symm
          refine bodyPost_ret (results_row1 Tryz.results35 _ _ g1 25 #[.slice AS n0 cS, .slice Ak (keptK notLost h.l h.ks).length ck, .slice At q ct] _ rfl HB9.out Tryz.underlying25 rfl (by kernel_rfl)) rfl ?_
          have O9 : Only [] w w9 := hK.out.o.step HN9.out (fun i hi hl => by
            have h1 := hK.out.base
            have h2 := hK.out.d01
            simp at hi
            omega)
          refine ⟨AS, Ak, At, cS, ck, ct, ⟨?_, HD⟩, O9⟩
          rw [e1, e2]
          rfl
end Go.Proofs.YtbiclliooidkjaaGreatDoor
