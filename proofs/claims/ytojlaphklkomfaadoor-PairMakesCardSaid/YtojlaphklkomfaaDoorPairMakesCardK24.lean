/- Parts. -/
import Derived.Test.YtojlaphklkomfaaDoorPairMakesCardK23
set_option maxRecDepth 10000
set_option maxHeartbeats 16000000
set_option linter.unusedVariables false
set_option linter.unusedSimpArgs false
namespace Go.Proofs.YtojlaphklkomfaaDoor
open Go.RowKit
open Go.Lib hiding intOf
attribute [local go_sem ↓] Go.wp_at_zero Go.wp_at_succ
theorem endE_hit {m : Mk} {k : Nat} {p : Pt} (hp : m.ps[k]? = some p) (hf : p.f = 0) (hno : ∀ j q, j < k → m.ps[j]? = some q → q.f ≠ 0) : endE m = (p.ln, 12) := by
 unfold endE;have : m.ps.find? (fun p => decide (p.f = 0)) = some p := by
  obtain ⟨hk, rfl⟩ := List.getElem?_eq_some_iff.1 hp;rw [List.find?_eq_some_iff_getElem];refine ⟨by simp [hf], k, hk, rfl, fun j hj => ?_⟩
  simpa using hno j _ hj (List.getElem?_eq_getElem (by omega))
 rw [this]
theorem endE_miss {m : Mk} (hno : ∀ (j : Nat) q, m.ps[j]? = some q → q.f ≠ 0) : endE m = (0, 0) := by
 unfold endE;have : m.ps.find? (fun p => decide (p.f = 0)) = none := by
  rw [List.find?_eq_none];intro q hq;obtain ⟨j, hj⟩ := List.mem_iff_getElem?.1 hq
  simpa using hno j q hj
 rw [this]
theorem drop_at {α : Type} {l : List α} {k : Nat} {x : α} (h : l[k]? = some x) : l.drop k = x :: l.drop (k + 1) := by
 obtain ⟨hk, rfl⟩ := List.getElem?_eq_some_iff.1 h;exact List.drop_eq_getElem_cons hk
set_option maxRecDepth 100000 in
theorem follow_any (A : Option Addr) (n c : Nat) (l : List Ev6) (w : World) (hn : l.length = n) (hnm : n ≤ 100000) (hA : Row w w.heap.size A (logC l)) (hz : ∀ x ∈ l, x.s.size ≤ 65537 ∧ x.y.size ≤ 65537) (hT : UTabs w) (hV : Verbs w) :
    Calls Tryd.prog 15 #[.slice A n c] w fun e w' => ∃ gm, e = .returned (.tuple #[.pointer (some ⟨gm, 0, none⟩), .int .i64 (followR l).2.1, .int .i64 (followR l).2.2]) ∧ Only [] w w' ∧
      ((followR l).2.2 = 0 ∨ (followR l).2.2 = 12 → ∃ V xs A0 A1 c0 c1 b D, MkAt w' w.heap.size gm (followR l).1 V xs A0 A1 c0 c1 b D ∧ MkB (followR l).1) := by
  have hmm := @run_makeMap Tryd.prog
  have HT := Hd (fun w' (O : Only [] w w') => hT.only O)
  have HV := Hd (fun w' (O : Only [] w w') => hV.only O)
  have HN := Hd hn
  have HROW := Hd hA
  have HZ := Hd hz
  clear hn hA hz hT hV
  go_enter Tryd.func15, Tryd.ntmps15
  go_upto_region 2 with (fail)
  have hbm : Blk ((w.alloc (.map #[] 0)).alloc (.cells #[.slice none 0 0, .slice none 0 0, .slice none 0 0, .map (some w.heap.size)] 67)) (w.heap.size + 1) 67 #[.slice none 0 0, .slice none 0 0, .slice none 0 0, .map (some w.heap.size)] := by
    have := Blk.made (w.alloc (.map #[] 0)) 67 #[.slice none 0 0, .slice none 0 0, .slice none 0 0, .map (some w.heap.size)]
    simpa using this
  have HM1 : Hid (MkAt ((w.alloc (.map #[] 0)).alloc (.cells #[.slice none 0 0, .slice none 0 0, .slice none 0 0, .map (some w.heap.size)] 67)) w.heap.size (w.heap.size + 1) mk0 (.slice none 0 0) [] none none 0 0 w.heap.size (.map [])) := Lib.hid
    { blk := hbm, gmb := by omega, parts := rfl, row := World.ownsRow_nil _ _ _ _, keys := by simp, ops := by simp, apK := List.Pairwise.nil, apO := List.Pairwise.nil, t0 := .inl rfl, t1 := .inl rfl, n0 := fun _ => rfl, n1 := fun _ => rfl, f0 := fun h => absurd rfl h, f1 := fun h => absurd rfl h,
      map := (World.ownsMap_made w _ _ _).alloc _, mapb := Nat.le_refl _, opens := ⟨fun s i h => by simp [openI, mk0] at h, fun s _ => rfl⟩ }
  have HO1 := Hd (((Only.refl [] w).alloc (.map #[] 0)).alloc (.cells #[.slice none 0 0, .slice none 0 0, .slice none 0 0, .map (some w.heap.size)] 67))
  generalize ((w.alloc (.map #[] 0)).alloc (.cells #[.slice none 0 0, .slice none 0 0, .slice none 0 0, .map (some w.heap.size)] 67)) = w1 at *
  clear hbm
  generalize hgm : w.heap.size + 1 = gm at *
  generalize hgb : w.heap.size = base at *
  have HGB := Hd hgb
  clear hgm hgb
  go_wp2_with fail
  go_loopw [16] (fun iv wr => ∃ (k : Nat) (m : Mk) (V : Value) (xs : List PtA) (A0 A1 : Option Addr) (c0 c1 b : Nat) (D : DataW Unit), iv = .int .i64 k ∧ k ≤ n ∧ Hid (runM mk0 l = runM m (l.drop k)) ∧ Hid (MkAt wr base gm m V xs A0 A1 c0 c1 b D) ∧ Hid (MkB m) ∧ Hid (Only [] w wr)) (fun iv _ => n - (intOf iv).toNat)
  case atStart => exact ⟨0, mk0, _, _, _, _, _, _, _, _, rfl, by omega, Hd (by rw [List.drop_zero]), HM1, Hd mkb_0, HO1⟩
  case round =>
    obtain ⟨k, m, V, xs, A0, A1, c0, c1, b, D, rfl, hk, hR, hM, hB, hO⟩ := hrel
    clear HM1 HO1
    by_cases hlt : k < n
    · have h01 : (k : Int) < (n : Int) := by omega
      have hk0 : (0 : Int) ≤ (k : Int) := Int.natCast_nonneg _
      have hwk : IntKind.i64.wrap ((k : Int) + 1) = (k : Int) + 1 := IntWalk.i64_in _ (by omega)
      obtain ⟨x, hx⟩ : ∃ x, l[k]? = some x := ⟨_, List.getElem?_eq_getElem (by rw [HN.out]; exact hlt)⟩
      have hzx := HZ.out x (List.mem_of_getElem? hx)
      have HDR := Hd (drop_at hx)
      obtain ⟨b', off, rfl, -, hbw, h1⟩ := row_ev HROW.out hx
      obtain ⟨a0, a1, a2, a3, a4, a5⟩ := h1.only hO.out hbw (by simp)
      have hbr : b' < wr.heap.size := by have := hO.out.size; omega
      clear hx h1 hmm
      go_upto_region 5 with (fail)
      have hge : Hid (Blk (wr.alloc (.cells #[.int .i64 x.k, .string x.s, .string x.y, .int .i64 x.vk, .int .i64 x.vn, .int .i64 x.ln] 44)) wr.heap.size 44 #[.int .i64 x.k, .string x.s, .string x.y, .int .i64 x.vk, .int .i64 x.vn, .int .i64 x.ln]) := Hd (Blk.made _ _ _)
      have HO2 := Hd (hO.out.alloc (.cells #[.int .i64 x.k, .string x.s, .string x.y, .int .i64 x.vk, .int .i64 x.vn, .int .i64 x.ln] 44))
      have HM2 := Hd (hM.out.same ((Only.refl [] wr).alloc (.cells #[.int .i64 x.k, .string x.s, .string x.y, .int .i64 x.vk, .int .i64 x.vn, .int .i64 x.ln] 44)))
      have HML := Hd (mine_lt hM.out)
      clear a0 a1 a2 a3 a4 a5 hM
      generalize (wr.alloc (.cells #[.int .i64 x.k, .string x.s, .string x.y, .int .i64 x.vk, .int .i64 x.vn, .int .i64 x.ln] 44)) = w2 at *
      generalize wr.heap.size = ge at *
      have e0 := hge.out.at_ 0
      have e1 := hge.out.at_ 1
      have e2 := hge.out.at_ 2
      have e3 := hge.out.at_ 3
      have e4 := hge.out.at_ 4
      have e5 := hge.out.at_ 5
      have le := hge.out.lt
      simp at e0 e1 e2 e3 e4 e5
      have HTK := Hd (take_any x base gm m V xs A0 A1 c0 c1 b D w2 HM2.out hB.out hzx.1 hzx.2 (by rw [← HGB.out]; exact HO2.out.size) (HT.out _ HO2.out) (HV.out _ HO2.out))
      by_cases he : takeE m x = 0
      · have HE := Hd he
        clear he
        go_wp2_with fail
        refine (HTK.out).mono ?_
        rintro e w3 ⟨rfl, hb3, hm3⟩
        rw [HE.out]
        have HO3 := Hd (HO2.out.step hb3 (fun i hi hl => by have := mine_ge HM2.out i hi; have := HGB.out; omega))
        obtain ⟨V', xs', A0', A1', c0', c1', D', hmk⟩ := hm3 HE.out
        have HM3 := Hd hmk
        have HR3 : Hid (runM mk0 l = runM (takeM m x) (l.drop (k + 1))) := Hd (by rw [hR.out, HDR.out, run_step HE.out])
        have HB3 := Hd (mkb_take hB.out hzx.1 hzx.2 HE.out)
        clear hb3 hm3 hmk e0 e1 e2 e3 e4 e5 le
        go_wp2
        go_roundw
        case rel => exact ⟨k + 1, _, _, _, _, _, _, _, _, _, by go_num, by omega, HR3, HM3, HB3, HO3⟩
        case measure => simp [intOf]; omega
      · have HE := Hd he
        have hne : (takeE m x != 0) = true := by simpa using he
        have HRR : Hid (followR l = (m, x.ln, takeE m x)) := Hd (by
          have h1 : runM mk0 l = (m, x.ln, takeE m x) := by rw [hR.out, HDR.out, run_stop he]
          unfold followR
          rw [h1]
          dsimp only
          rw [if_neg he])
        have HC := Hd (takeE_cases m x)
        generalize htt : takeE m x = tt at *
        clear htt he
        go_wp2_with fail
        refine (HTK.out).mono ?_
        rintro e w3 ⟨rfl, hb3, -⟩
        have HO3 := Hd (HO2.out.step hb3 (fun i hi hl => by have := mine_ge HM2.out i hi; have := HGB.out; omega))
        have he3 := hb3.blk hge.out (fun hm => by have := HML.out _ hm; omega)
        clear hb3 e0 e1 e2 e3 e4 e5 le
        have e4 := he3.at_ 4
        have e5 := he3.at_ 5
        have le := he3.lt
        simp at e4 e5
        clear he3
        go_wp2_with fail
        go_quiet (fail)
        have HO4 := Hd (HO3.out.drewN nq)
        generalize w3.drewN nq = w4 at *
        go_wp2
        go_ret3
        refine ⟨gm, by rw [HRR.out]; rfl, HO4.out, fun h => ?_⟩
        rw [HRR.out] at h
        have := HC.out
        have := HE.out
        dsimp only at h
        omega
    · have hkn : k = n := by omega
      subst hkn
      have hd : decide ((k : Int) < (k : Int)) = false := by simp
      have HRR : Hid (followR l = (m, endE m)) := Hd (by
        have h1 : runM mk0 l = (m, 0, 0) := by rw [hR.out, List.drop_of_length_le (by rw [HN.out]; exact Nat.le_refl _)]; rfl
        unfold followR
        rw [h1]
        rfl)
      obtain ⟨Ap, cp, hVe, -, -, -, hrow⟩ := own_row hM.out.row
      subst hVe
      have HROWP := Hd hrow
      have hnp := hB.out.np
      have hb := hM.out.blk
      have lb := hb.lt
      have y0 := hb.at_ 0
      simp at y0
      clear hrow hb hmm hR
      obtain ⟨wo, hwo⟩ : ∃ wo : World, wo = wr := ⟨_, rfl⟩
      subst hwo
      have HXL : Hid (xs.length = m.ps.length) := Hd (by rw [← hM.out.parts, List.length_map])
      go_wp2_with fail
      clear lb y0
      go_loopw [35] (fun iv wr => ∃ j : Nat, iv = .int .i64 j ∧ j ≤ m.ps.length ∧ Hid (∀ (i : Nat) q, i < j → m.ps[i]? = some q → q.f ≠ 0) ∧ Hid (Only [] wo wr)) (fun iv _ => m.ps.length - (intOf iv).toNat)
      case atStart => exact ⟨0, rfl, by omega, Hd (fun i q h => by omega), Hd (Only.refl [] wo)⟩
      case round =>
        obtain ⟨j, rfl, hj, hNO, hOj⟩ := hrel
        by_cases hlt2 : j < m.ps.length
        · have h01 : (j : Int) < (m.ps.length : Int) := by omega
          have hj0 : (0 : Int) ≤ (j : Int) := Int.natCast_nonneg _
          have hwj : IntKind.i64.wrap ((j : Int) + 1) = (j : Int) + 1 := IntWalk.i64_in _ (by omega)
          obtain ⟨xi, hxi⟩ : ∃ xi, xs[j]? = some xi := ⟨_, List.getElem?_eq_getElem (by rw [HXL.out]; exact hlt2)⟩
          have hpj : m.ps[j]? = some xi.p := by rw [← hM.out.parts, List.getElem?_map, hxi]; rfl
          obtain ⟨bp, off, rfl, -, hbw, hc⟩ := HROWP.out.open_ (k := j * 5) (by rw [ptC_len, HXL.out]; omega)
          have g := ptC_get xs j xi hxi
          have hcell : ∀ r u, r < 5 → xi.c5[r]? = some u → wr.cell? ⟨bp, off + j * 5 + r, none⟩ = some u := fun r u hr hu => (hOj.out.cell (p := ⟨bp, off + j * 5 + r, none⟩) hbw (by simp)).trans (by rw [Nat.add_assoc]; exact hc _ _ ((g r hr).trans hu))
          have a0 := hcell 0 _ (by omega) rfl
          have a1 := hcell 1 _ (by omega) rfl
          have a2 := hcell 2 _ (by omega) rfl
          have a3 := hcell 3 _ (by omega) rfl
          have a4 := hcell 4 _ (by omega) rfl
          simp only [Nat.add_zero] at a0
          have hbr : bp < wr.heap.size := by have := hOj.out.size; omega
          have HPJ := Hd hpj
          clear hcell hc g hxi hpj
          obtain ⟨⟨ps, pf, pl, pk, po⟩, Ai, ci, Zi, di⟩ := xi
          dsimp only at a0 a1 a2 a3 a4 HPJ
          by_cases hf : pf = 0
          · subst hf
            have HEN := Hd (endE_hit HPJ.out rfl (fun i q hi hq => hNO.out i q hi hq))
            go_wp2_with fail
            go_quiet (fail)
            have HO4 := Hd ((hOj.out.alloc (.cells #[.string ps, .int .i64 0, .int .i64 pl, .slice Ai pk.length ci, .slice Zi po.length di] 69)).drewN nq)
            generalize (wr.alloc (.cells #[.string ps, .int .i64 0, .int .i64 pl, .slice Ai pk.length ci, .slice Zi po.length di] 69)).drewN nq = w4 at *
            go_wp2
            go_ret3
            refine ⟨gm, by rw [HRR.out, HEN.out]; rfl, hO.out.trans HO4.out, fun _ => ?_⟩
            rw [HRR.out, HGB.out]
            exact ⟨_, _, _, _, _, _, _, _, hM.out.same HO4.out, hB.out⟩
          · have hne : (pf == 0) = false := by simpa using hf
            have HNO2 : Hid (∀ (i : Nat) q, i < j + 1 → m.ps[i]? = some q → q.f ≠ 0) := Hd (fun i q hi hq => by
              by_cases h : i < j
              · exact hNO.out i q h hq
              · obtain rfl : i = j := by omega
                rw [HPJ.out] at hq
                obtain rfl := Option.some.inj hq
                exact hf)
            clear hf
            go_wp2
            go_roundw
            case rel => exact ⟨j + 1, by go_num, by omega, HNO2, Hd (hOj.out.alloc _)⟩
            case measure => simp [intOf]; omega
        · have hjn : j = m.ps.length := by omega
          subst hjn
          have hd2 : decide ((m.ps.length : Int) < (m.ps.length : Int)) = false := by simp
          have HEN := Hd (endE_miss (m := m) (fun i q hq => hNO.out i q (List.getElem?_eq_some_iff.1 hq).1 hq))
          go_wp2
          go_ret3
          refine ⟨gm, by rw [HRR.out, HEN.out]; rfl, hO.out.trans hOj.out, fun _ => ?_⟩
          rw [HRR.out, HGB.out]
          exact ⟨_, _, _, _, _, _, _, _, hM.out.same hOj.out, hB.out⟩
end Go.Proofs.YtojlaphklkomfaaDoor
