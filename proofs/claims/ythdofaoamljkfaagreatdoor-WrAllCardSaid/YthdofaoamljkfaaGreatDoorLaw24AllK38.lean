/- Parts. -/
import Derived.Test.YthdofaoamljkfaaGreatDoorLaw24AllK37
set_option maxRecDepth 10000
set_option maxHeartbeats 16000000
set_option linter.unusedVariables false
set_option linter.unusedSimpArgs false
namespace Go.Proofs.YthdofaoamljkfaaGreatDoor
open Go.RowKit
open Go.Lib hiding intOf
def mk0 : Mk := ⟨[], [], []⟩
def runM : Mk → List Ev6 → Mk × Int × Int
 | m, [] => (m, 0, 0)
 | m, a :: l => if takeE m a = 0 then runM (takeM m a) l else (m, a.ln, takeE m a)
def endE (m : Mk) : Int × Int := match m.ps.find? (fun p => decide (p.f = 0)) with | some p => (p.ln, 12) | none => (0, 0)
def followR (l : List Ev6) : Mk × Int × Int := if (runM mk0 l).2.2 = 0 then ((runM mk0 l).1, endE (runM mk0 l).1) else runM mk0 l
theorem with_mem {t : List ByteArray} {s z : ByteArray} (h : z ∈ withB t s) : z ∈ t ∨ z = s := by
 unfold withB at h
 split at h
 ·exact .inl h
 ·have := ((sortB_names (t ++ [s])).2 z).1 h
  simpa using this.1
theorem takeE_cases (m : Mk) (a : Ev6) : takeE m a = 0 ∨ takeE m a = 4 ∨ takeE m a = 7 ∨ takeE m a = 9 ∨ takeE m a = 10 := by
 unfold takeE
 split
 ·simp
 ·split
  ·split
   ·simp
   ·split
    ·split
     ·unfold addE
      split <;> simp
     ·simp
    ·simp
  ·split
   ·unfold beginE
    split <;> simp
   ·simp
theorem set_mem {ps : List Pt} {i j : Nat} {q p : Pt} (h : (ps.set i q)[j]? = some p) : (j = i ∧ p = q) ∨ (j ≠ i ∧ ps[j]? = some p) := by
 rw [List.getElem?_set] at h
 by_cases hij : i = j
 ·rw [if_pos hij] at h
  split at h
  ·exact .inl ⟨hij.symm, (Option.some.inj h).symm⟩
  ·cases h
 ·rw [if_neg hij] at h;exact .inr ⟨Ne.symm hij, h⟩
theorem mkb_take {m : Mk} {a : Ev6} (h : MkB m) (hs : a.s.size ≤ 65537) (hy : a.y.size ≤ 65537) (he : takeE m a = 0) : MkB (takeM m a) := by
 unfold takeE at he;unfold takeM
 split
 ·exact h
 ·rename_i hev
  rw [if_neg hev] at he
  cases ho : openI m.ps a.s with
  | none =>
   rw [ho] at he;dsimp only at he ⊢
   by_cases hk : a.k = 1
   ·rw [if_pos hk] at he ⊢;unfold beginE at he;unfold beginM
    by_cases hc : (withB m.ss a.s).length > 20 ∨ m.ps.length = 40
    ·rw [if_pos hc] at he
     cases he
    ·rw [if_neg hc];refine ⟨fun z hz => ?_, h.zk, by simp; have := h.np; omega, (by show (withB m.ss a.s).length ≤ 20; omega), h.nk, ?_, ?_⟩
     ·rcases with_mem hz with hz | rfl
      ·exact h.zs z hz
      ·exact hs
     ·intro i j p q hp hq hpq hp0 hq0;have hnew : ∀ (k : Nat) (r : Pt), (m.ps ++ [⟨a.s, 0, a.ln, [], []⟩])[k]? = some r → m.ps[k]? = some r ∨ (k = m.ps.length ∧ r = ⟨a.s, 0, a.ln, [], []⟩) := fun k r hr => by
       rcases Nat.lt_or_ge k m.ps.length with hlt | hge
       ·rw [List.getElem?_append_left hlt] at hr;exact .inl hr
       ·rw [List.getElem?_append_right hge] at hr
        cases hd : k - m.ps.length with
        | zero => rw [hd] at hr; simp at hr; exact .inr ⟨by omega, hr.symm⟩
        | succ n => rw [hd] at hr; simp at hr
      have hno := open_none ho;rcases hnew i p hp with hp | ⟨rfl, rfl⟩
      ·rcases hnew j q hq with hq | ⟨rfl, rfl⟩
       ·exact h.uni i j p q hp hq hpq hp0 hq0
       ·exact absurd ⟨hpq, hp0⟩ (hno p (List.mem_of_getElem? hp))
      ·rcases hnew j q hq with hq | ⟨rfl, rfl⟩
       ·exact absurd ⟨hpq.symm, hq0⟩ (hno q (List.mem_of_getElem? hq))
       ·rfl
     ·intro p hp;rcases List.mem_append.1 hp with hp | hp
      ·exact h.no p hp
      ·simp at hp;subst hp;exact ⟨by simp, rfl, hs, by simp⟩
   ·rw [if_neg hk] at he
    cases he
  | some i =>
   rw [ho] at he;obtain ⟨p, hp, hps, hpf⟩ := open_some ho;dsimp only at he ⊢
   by_cases hk : a.k = 1
   ·rw [if_pos hk] at he
    cases he
   ·rw [if_neg hk] at he ⊢;rw [hp] at he ⊢;dsimp only at he ⊢;have hpm := h.no p (List.mem_of_getElem? hp)
    by_cases hk2 : a.k = 2 ∨ a.k = 3
    ·rw [if_pos hk2] at he ⊢;unfold addE at he;unfold addM
     by_cases hc : p.ops.length = 20 ∨ (withB m.ks a.y).length > 40
     ·rw [if_pos hc] at he
      cases he
     ·rw [if_neg hc];refine ⟨h.zs, fun z hz => ?_, by simp; exact h.np, h.ns, (by show (withB m.ks a.y).length ≤ 40; omega), ?_, ?_⟩
      ·rcases with_mem hz with hz | rfl
       ·exact h.zk z hz
       ·exact hy
      ·intro j k q r hq hr hqr hq0 hr0;have hb : ∀ (j : Nat) (q : Pt), (m.ps.set i (addP p a))[j]? = some q → ∃ q', m.ps[j]? = some q' ∧ q'.s = q.s ∧ q'.f = q.f := fun j q hq => by
        rcases set_mem hq with ⟨rfl, rfl⟩ | ⟨_, hq⟩
        ·exact ⟨p, hp, rfl, rfl⟩
        ·exact ⟨q, hq, rfl, rfl⟩
       obtain ⟨q', h1, h2, h3⟩ := hb j q hq;obtain ⟨r', h4, h5, h6⟩ := hb k r hr;exact h.uni j k q' r' h1 h4 (by rw [h2, h5]; exact hqr) (by rw [h3]; exact hq0) (by rw [h6]; exact hr0)
      ·intro q hq;rcases mem_set_at hq with rfl | ⟨j, -, hq⟩
       ·refine ⟨by unfold addP; simp; omega, by unfold addP; simp; exact hpm.2.1, hpm.2.2.1, fun z hz => ?_⟩;rcases List.mem_append.1 hz with hz | hz
        ·exact hpm.2.2.2 z hz
        ·simp at hz;subst hz;exact hy
       ·exact h.no q (List.mem_of_getElem? hq)
    ·rw [if_neg hk2];refine ⟨h.zs, h.zk, by simp; exact h.np, h.ns, h.nk, ?_, ?_⟩
     ·intro j k q r hq hr hqr hq0 hr0;have hff : fateE a.k ≠ 0 := by unfold fateE; split <;> (try split) <;> decide
      rcases set_mem hq with ⟨rfl, rfl⟩ | ⟨_, hq⟩
      ·exact absurd hq0 hff
      ·rcases set_mem hr with ⟨rfl, rfl⟩ | ⟨_, hr⟩
       ·exact absurd hr0 hff
       ·exact h.uni j k q r hq hr hqr hq0 hr0
     ·intro q hq;rcases mem_set_at hq with rfl | ⟨j, -, hq⟩
      ·exact hpm
      ·exact h.no q (List.mem_of_getElem? hq)
theorem mkb_0 : MkB mk0 := ⟨by simp [mk0], by simp [mk0], by simp [mk0], by simp [mk0], by simp [mk0], by simp [mk0], by simp [mk0]⟩
theorem run_step {m : Mk} {a : Ev6} {l : List Ev6} (h : takeE m a = 0) : runM m (a :: l) = runM (takeM m a) l := by
 show (if takeE m a = 0 then _ else _) = _
 rw [if_pos h]
theorem run_stop {m : Mk} {a : Ev6} {l : List Ev6} (h : takeE m a ≠ 0) : runM m (a :: l) = (m, a.ln, takeE m a) := by
 show (if takeE m a = 0 then _ else _) = _
 rw [if_neg h]
attribute [local go_sem ↓] Go.wp_at_zero Go.wp_at_succ
theorem endE_hit {m : Mk} {k : Nat} {p : Pt} (hp : m.ps[k]? = some p) (hf : p.f = 0) (hno : ∀ j q, j < k → m.ps[j]? = some q → q.f ≠ 0) : endE m = (p.ln, 12) := by
 unfold endE;have : m.ps.find? (fun p => decide (p.f = 0)) = some p := by
  obtain ⟨hk, rfl⟩ := List.getElem?_eq_some_iff.1 hp;rw [List.find?_eq_some_iff_getElem];refine ⟨by simp [hf], k, hk, rfl, fun j hj => ?_⟩
  simpa using hno j _ hj (List.getElem?_eq_getElem (by omega))
 rw [this]
theorem endE_miss {m : Mk} (hno : ∀ (j : Nat) q, m.ps[j]? = some q → q.f ≠ 0) : endE m = (0, 0) := by
 unfold endE;have : m.ps.find? (fun p => decide (p.f = 0)) = none := by
  rw [List.find?_eq_none];intro q hq;obtain ⟨j, hj⟩ := List.mem_iff_getElem?.1 hq
  simpa using hno j q hj
 rw [this]
theorem drop_at {α : Type} {l : List α} {k : Nat} {x : α} (h : l[k]? = some x) : l.drop k = x :: l.drop (k + 1) := by
 obtain ⟨hk, rfl⟩ := List.getElem?_eq_some_iff.1 h;exact List.drop_eq_getElem_cons hk
set_option maxRecDepth 100000 in
theorem follow_any (A : Option Addr) (n c : Nat) (l : List Ev6) (w : World) (hn : l.length = n) (hnm : n ≤ 100000) (hA : Row w w.heap.size A (logC l)) (hz : ∀ x ∈ l, x.s.size ≤ 65537 ∧ x.y.size ≤ 65537) (hT : UTabs w) (hV : Verbs w) :
    Calls Tryz.prog 76 #[.slice A n c] w fun e w' => ∃ gm, e = .returned (.tuple #[.pointer (some ⟨gm, 0, none⟩), .int .i64 (followR l).2.1, .int .i64 (followR l).2.2]) ∧ Only [] w w' ∧
      ((followR l).2.2 = 0 ∨ (followR l).2.2 = 12 → ∃ V xs A0 A1 c0 c1 b D, MkAt w' w.heap.size gm (followR l).1 V xs A0 A1 c0 c1 b D ∧ MkB (followR l).1) := by
  have hmm := @run_makeMap Tryz.prog
  have HT := Hd (fun w' (O : Only [] w w') => hT.only O)
  have HV := Hd (fun w' (O : Only [] w w') => hV.only O)
  have HN := Hd hn
  have HROW := Hd hA
  have HZ := Hd hz
  clear hn hA hz hT hV
  go_enter Tryz.func76, Tryz.ntmps76
  go_upto_region 2 with (fail)
  have hbm : Blk ((w.alloc (.map #[] 0)).alloc (.cells #[.slice none 0 0, .slice none 0 0, .slice none 0 0, .map (some w.heap.size)] 133)) (w.heap.size + 1) 133 #[.slice none 0 0, .slice none 0 0, .slice none 0 0, .map (some w.heap.size)] := by
    have := Blk.made (w.alloc (.map #[] 0)) 133 #[.slice none 0 0, .slice none 0 0, .slice none 0 0, .map (some w.heap.size)]
    simpa using this
  have HM1 : Hid (MkAt ((w.alloc (.map #[] 0)).alloc (.cells #[.slice none 0 0, .slice none 0 0, .slice none 0 0, .map (some w.heap.size)] 133)) w.heap.size (w.heap.size + 1) mk0 (.slice none 0 0) [] none none 0 0 w.heap.size (.map [])) := Lib.hid
    { blk := hbm, gmb := by omega, parts := rfl, row := World.ownsRow_nil _ _ _ _, keys := by simp, ops := by simp, apK := List.Pairwise.nil, apO := List.Pairwise.nil, t0 := .inl rfl, t1 := .inl rfl, n0 := fun _ => rfl, n1 := fun _ => rfl, f0 := fun h => absurd rfl h, f1 := fun h => absurd rfl h,
      map := (World.ownsMap_made w _ _ _).alloc _, mapb := Nat.le_refl _, opens := ⟨fun s i h => by simp [openI, mk0] at h, fun s _ => rfl⟩ }
  have HO1 := Hd (((Only.refl [] w).alloc (.map #[] 0)).alloc (.cells #[.slice none 0 0, .slice none 0 0, .slice none 0 0, .map (some w.heap.size)] 133))
  generalize ((w.alloc (.map #[] 0)).alloc (.cells #[.slice none 0 0, .slice none 0 0, .slice none 0 0, .map (some w.heap.size)] 133)) = w1 at *
  clear hbm
  generalize hgm : w.heap.size + 1 = gm at *
  generalize hgb : w.heap.size = base at *
  have HGB := Hd hgb
  clear hgm hgb
  go_wp2_with fail
  go_loopw [16] (fun iv wr => ∃ (k : Nat) (m : Mk) (V : Value) (xs : List PtA) (A0 A1 : Option Addr) (c0 c1 b : Nat) (D : DataW Unit), iv = .int .i64 k ∧ k ≤ n ∧ Hid (runM mk0 l = runM m (l.drop k)) ∧ Hid (MkAt wr base gm m V xs A0 A1 c0 c1 b D) ∧ Hid (MkB m) ∧ Hid (Only [] w wr)) (fun iv _ => n - (intOf iv).toNat)
  case atStart => exact ⟨0, mk0, _, _, _, _, _, _, _, _, rfl, by omega, Hd (by rw [List.drop_zero]), HM1, Hd mkb_0, HO1⟩
  case round =>
    obtain ⟨k, m, V, xs, A0, A1, c0, c1, b, D, rfl, hk, hR, hM, hB, hO⟩ := hrel
    clear HM1 HO1
    by_cases hlt : k < n
    · have h01 : (k : Int) < (n : Int) := by omega
      have hk0 : (0 : Int) ≤ (k : Int) := Int.natCast_nonneg _
      have hwk : IntKind.i64.wrap ((k : Int) + 1) = (k : Int) + 1 := IntWalk.i64_in _ (by omega)
      obtain ⟨x, hx⟩ : ∃ x, l[k]? = some x := ⟨_, List.getElem?_eq_getElem (by rw [HN.out]; exact hlt)⟩
      have hzx := HZ.out x (List.mem_of_getElem? hx)
      have HDR := Hd (drop_at hx)
      obtain ⟨b', off, rfl, -, hbw, h1⟩ := row_ev HROW.out hx
      obtain ⟨a0, a1, a2, a3, a4, a5⟩ := h1.only hO.out hbw (by simp)
      have hbr : b' < wr.heap.size := by have := hO.out.size; omega
      clear hx h1 hmm
      go_upto_region 5 with (fail)
      have hge : Hid (Blk (wr.alloc (.cells #[.int .i64 x.k, .string x.s, .string x.y, .int .i64 x.vk, .int .i64 x.vn, .int .i64 x.ln] 104)) wr.heap.size 104 #[.int .i64 x.k, .string x.s, .string x.y, .int .i64 x.vk, .int .i64 x.vn, .int .i64 x.ln]) := Hd (Blk.made _ _ _)
      have HO2 := Hd (hO.out.alloc (.cells #[.int .i64 x.k, .string x.s, .string x.y, .int .i64 x.vk, .int .i64 x.vn, .int .i64 x.ln] 104))
      have HM2 := Hd (hM.out.same ((Only.refl [] wr).alloc (.cells #[.int .i64 x.k, .string x.s, .string x.y, .int .i64 x.vk, .int .i64 x.vn, .int .i64 x.ln] 104)))
      have HML := Hd (mine_lt hM.out)
      clear a0 a1 a2 a3 a4 a5 hM
      generalize (wr.alloc (.cells #[.int .i64 x.k, .string x.s, .string x.y, .int .i64 x.vk, .int .i64 x.vn, .int .i64 x.ln] 104)) = w2 at *
      generalize wr.heap.size = ge at *
      have e0 := hge.out.at_ 0
      have e1 := hge.out.at_ 1
      have e2 := hge.out.at_ 2
      have e3 := hge.out.at_ 3
      have e4 := hge.out.at_ 4
      have e5 := hge.out.at_ 5
      have le := hge.out.lt
      simp at e0 e1 e2 e3 e4 e5
      have HTK := Hd (take_any x base gm m V xs A0 A1 c0 c1 b D w2 HM2.out hB.out hzx.1 hzx.2 (by rw [← HGB.out]; exact HO2.out.size) (HT.out _ HO2.out) (HV.out _ HO2.out))
      by_cases he : takeE m x = 0
      · have HE := Hd he
        clear he
        go_wp2_with fail
        refine (HTK.out).mono ?_
        rintro e w3 ⟨rfl, hb3, hm3⟩
        rw [HE.out]
        have HO3 := Hd (HO2.out.step hb3 (fun i hi hl => by have := mine_ge HM2.out i hi; have := HGB.out; omega))
        obtain ⟨V', xs', A0', A1', c0', c1', D', hmk⟩ := hm3 HE.out
        have HM3 := Hd hmk
        have HR3 : Hid (runM mk0 l = runM (takeM m x) (l.drop (k + 1))) := Hd (by rw [hR.out, HDR.out, run_step HE.out])
        have HB3 := Hd (mkb_take hB.out hzx.1 hzx.2 HE.out)
        clear hb3 hm3 hmk e0 e1 e2 e3 e4 e5 le
        go_wp2
        go_roundw
        case rel => exact ⟨k + 1, _, _, _, _, _, _, _, _, _, by go_num, by omega, HR3, HM3, HB3, HO3⟩
        case measure => simp [intOf]; omega
      · have HE := Hd he
        have hne : (takeE m x != 0) = true := by simpa using he
        have HRR : Hid (followR l = (m, x.ln, takeE m x)) := Hd (by
          have h1 : runM mk0 l = (m, x.ln, takeE m x) := by rw [hR.out, HDR.out, run_stop he]
          unfold followR
          rw [h1]
          dsimp only
          rw [if_neg he])
        have HC := Hd (takeE_cases m x)
        generalize htt : takeE m x = tt at *
        clear htt he
        go_wp2_with fail
        refine (HTK.out).mono ?_
        rintro e w3 ⟨rfl, hb3, -⟩
        have HO3 := Hd (HO2.out.step hb3 (fun i hi hl => by have := mine_ge HM2.out i hi; have := HGB.out; omega))
        have he3 := hb3.blk hge.out (fun hm => by have := HML.out _ hm; omega)
        clear hb3 e0 e1 e2 e3 e4 e5 le
        have e4 := he3.at_ 4
        have e5 := he3.at_ 5
        have le := he3.lt
        simp at e4 e5
        clear he3
        go_wp2_with fail
        go_quiet (fail)
        have HO4 := Hd (HO3.out.drewN nq)
        generalize w3.drewN nq = w4 at *
        go_wp2
        go_ret3
        refine ⟨gm, by rw [HRR.out]; rfl, HO4.out, fun h => ?_⟩
        rw [HRR.out] at h
        have := HC.out
        have := HE.out
        dsimp only at h
        omega
    · have hkn : k = n := by omega
      subst hkn
      have hd : decide ((k : Int) < (k : Int)) = false := by simp
      have HRR : Hid (followR l = (m, endE m)) := Hd (by
        have h1 : runM mk0 l = (m, 0, 0) := by rw [hR.out, List.drop_of_length_le (by rw [HN.out]; exact Nat.le_refl _)]; rfl
        unfold followR
        rw [h1]
        rfl)
      obtain ⟨Ap, cp, hVe, -, -, -, hrow⟩ := own_row hM.out.row
      subst hVe
      have HROWP := Hd hrow
      have hnp := hB.out.np
      have hb := hM.out.blk
      have lb := hb.lt
      have y0 := hb.at_ 0
      simp at y0
      clear hrow hb hmm hR
      obtain ⟨wo, hwo⟩ : ∃ wo : World, wo = wr := ⟨_, rfl⟩
      subst hwo
      have HXL : Hid (xs.length = m.ps.length) := Hd (by rw [← hM.out.parts, List.length_map])
      go_wp2_with fail
      clear lb y0
      go_loopw [35] (fun iv wr => ∃ j : Nat, iv = .int .i64 j ∧ j ≤ m.ps.length ∧ Hid (∀ (i : Nat) q, i < j → m.ps[i]? = some q → q.f ≠ 0) ∧ Hid (Only [] wo wr)) (fun iv _ => m.ps.length - (intOf iv).toNat)
      case atStart => exact ⟨0, rfl, by omega, Hd (fun i q h => by omega), Hd (Only.refl [] wo)⟩
      case round =>
        obtain ⟨j, rfl, hj, hNO, hOj⟩ := hrel
        by_cases hlt2 : j < m.ps.length
        · have h01 : (j : Int) < (m.ps.length : Int) := by omega
          have hj0 : (0 : Int) ≤ (j : Int) := Int.natCast_nonneg _
          have hwj : IntKind.i64.wrap ((j : Int) + 1) = (j : Int) + 1 := IntWalk.i64_in _ (by omega)
          obtain ⟨xi, hxi⟩ : ∃ xi, xs[j]? = some xi := ⟨_, List.getElem?_eq_getElem (by rw [HXL.out]; exact hlt2)⟩
          have hpj : m.ps[j]? = some xi.p := by rw [← hM.out.parts, List.getElem?_map, hxi]; rfl
          obtain ⟨bp, off, rfl, -, hbw, hc⟩ := HROWP.out.open_ (k := j * 5) (by rw [ptC_len, HXL.out]; omega)
          have g := ptC_get xs j xi hxi
          have hcell : ∀ r u, r < 5 → xi.c5[r]? = some u → wr.cell? ⟨bp, off + j * 5 + r, none⟩ = some u := fun r u hr hu => (hOj.out.cell (p := ⟨bp, off + j * 5 + r, none⟩) hbw (by simp)).trans (by rw [Nat.add_assoc]; exact hc _ _ ((g r hr).trans hu))
          have a0 := hcell 0 _ (by omega) rfl
          have a1 := hcell 1 _ (by omega) rfl
          have a2 := hcell 2 _ (by omega) rfl
          have a3 := hcell 3 _ (by omega) rfl
          have a4 := hcell 4 _ (by omega) rfl
          simp only [Nat.add_zero] at a0
          have hbr : bp < wr.heap.size := by have := hOj.out.size; omega
          have HPJ := Hd hpj
          clear hcell hc g hxi hpj
          obtain ⟨⟨ps, pf, pl, pk, po⟩, Ai, ci, Zi, di⟩ := xi
          dsimp only at a0 a1 a2 a3 a4 HPJ
          by_cases hf : pf = 0
          · subst hf
            have HEN := Hd (endE_hit HPJ.out rfl (fun i q hi hq => hNO.out i q hi hq))
            go_wp2_with fail
            go_quiet (fail)
            have HO4 := Hd ((hOj.out.alloc (.cells #[.string ps, .int .i64 0, .int .i64 pl, .slice Ai pk.length ci, .slice Zi po.length di] 136)).drewN nq)
            generalize (wr.alloc (.cells #[.string ps, .int .i64 0, .int .i64 pl, .slice Ai pk.length ci, .slice Zi po.length di] 136)).drewN nq = w4 at *
            go_wp2
            go_ret3
            refine ⟨gm, by rw [HRR.out, HEN.out]; rfl, hO.out.trans HO4.out, fun _ => ?_⟩
            rw [HRR.out, HGB.out]
            exact ⟨_, _, _, _, _, _, _, _, hM.out.same HO4.out, hB.out⟩
          · have hne : (pf == 0) = false := by simpa using hf
            have HNO2 : Hid (∀ (i : Nat) q, i < j + 1 → m.ps[i]? = some q → q.f ≠ 0) := Hd (fun i q hi hq => by
              by_cases h : i < j
              · exact hNO.out i q h hq
              · obtain rfl : i = j := by omega
                rw [HPJ.out] at hq
                obtain rfl := Option.some.inj hq
                exact hf)
            clear hf
            go_wp2
            go_roundw
            case rel => exact ⟨j + 1, by go_num, by omega, HNO2, Hd (hOj.out.alloc _)⟩
            case measure => simp [intOf]; omega
        · have hjn : j = m.ps.length := by omega
          subst hjn
          have hd2 : decide ((m.ps.length : Int) < (m.ps.length : Int)) = false := by simp
          have HEN := Hd (endE_miss (m := m) (fun i q hq => hNO.out i q (List.getElem?_eq_some_iff.1 hq).1 hq))
          go_wp2
          go_ret3
          refine ⟨gm, by rw [HRR.out, HEN.out]; rfl, hO.out.trans hOj.out, fun _ => ?_⟩
          rw [HRR.out, HGB.out]
          exact ⟨_, _, _, _, _, _, _, _, hM.out.same hOj.out, hB.out⟩
def mapB (t l : List ByteArray) : List Int := l.map (posB t)
theorem map_new (A A' : Option Addr) (n c m d : Nat) (l t : List ByteArray) (w : World) (hn : l.length = n) (hm : t.length = m) (hN : n ≤ 1000) (hmm : m ≤ 1000) (hz : ∀ z ∈ t, z.size ≤ 9223372036854775807) (hA : Row w w.heap.size A (strs l)) (hA' : Row w w.heap.size A' (strs t)) (hT : UTabs w) :
  Calls Tryz.prog 95 #[.slice A n c, .slice A' m d] w fun e w' => Only [] w w' ∧ ∃ g, e = .returned (.slice (some ⟨g, 0, none⟩) n n) ∧ Row w' w'.heap.size (some ⟨g, 0, none⟩) ((mapB t l).map (Value.int .i64)) ∧ w.heap.size ≤ g := by
 have hmk := fun W => run_make_row' (P := Tryz.prog) 26 3 (.int .i64 0) 8 Tryz.underlying26 info_int rfl .i64 .i64 n (by omega) (by omega) W;have HI := Hd (istab_any A' m d _ t w hm (by omega) hz hA' hT);have HF := Hd (fun s w' (h : Only [] w w') => find_low A' m d _ t s w' hm (by omega) (hA'.only h (by simp)));have HPE : Hid (∀ s, posB t s = if tabB t = true then idxOfS t s else -1) := Hd (fun s => rfl);have HIG := Hd (fun s => (idx_ge t s).1);obtain ⟨v, hv⟩ : ∃ v, v = tabB t := ⟨_, rfl⟩;rw [← hv] at HI HPE;have HN := Hd hn;have HROW := Hd hA;clear hn hm hz hA hA' hT hv;go_enter Tryz.func95, Tryz.ntmps95;go_wp2_with fail
 refine (HI.out).mono ?_;rintro e w1 ⟨rfl, hO1⟩;have HO1 := Hd hO1;have hw1 := hO1.size;clear hO1;have HB1 := Hd (Blk.made w1 3 (madeCells #[.int .i64 0] n));have hms : (madeCells #[Value.int .i64 0] n).size = n := by simp [madeCells]
 go_wp2_with fail
 go_loopw [18] (fun iv wr => ∃ (k : Nat) (cs : Array Value), iv = .int .i64 k ∧ k ≤ n ∧ Hid (Blk wr w1.heap.size 3 cs) ∧ Hid (cs.size = n) ∧ Hid (∀ j, j < k → ∀ x, l[j]? = some x → cs[j]? = some (.int .i64 (posB t x))) ∧ Hid (Only [w1.heap.size] w1 wr)) (fun iv _ => n - (intOf iv).toNat)
 case atStart => exact ⟨0, _, rfl, by omega, HB1, Hd hms, Hd (fun j h => by omega), Hd (((Only.refl [] w1).alloc _).wide (fun i hi => by cases hi))⟩
 case round =>
  obtain ⟨k, cs, rfl, hk, HB, HSZ, HCS, HO⟩ := hrel
  by_cases hlt : k < n
  ·have h01 : (k : Int) < (n : Int) := by omega
   have hk0 : (0 : Int) ≤ (k : Int) := Int.natCast_nonneg _;have hwk : IntKind.i64.wrap ((k : Int) + 1) = (k : Int) + 1 := IntWalk.i64_in _ (by omega);obtain ⟨b, off, rfl, hbB, hbw, hcell⟩ := HROW.out.open_ (k := k) (by rw [strs, List.length_map, HN.out]; exact hlt);obtain ⟨x, hx⟩ : ∃ x, l[k]? = some x := ⟨_, List.getElem?_eq_getElem (by rw [HN.out]; exact hlt)⟩;have hck : wr.cell? ⟨b, off + k, none⟩ = some (.string x) := (HO.out.cell (p := ⟨b, off + k, none⟩) (by show b < w1.heap.size; omega) (by show b ∉ [w1.heap.size]; simp; omega)).trans ((HO1.out.cell (p := ⟨b, off + k, none⟩) hbw (by simp)).trans (hcell k _ (by rw [strs, List.getElem?_map, hx]; rfl)));have f1 := HB.out.free k;obtain ⟨old, hold⟩ : ∃ old, cs[k]? = some old := ⟨_, Array.getElem?_eq_getElem (by rw [HSZ.out]; exact hlt)⟩;have c1 : wr.cell? ⟨w1.heap.size, k, none⟩ = some old := by rw [HB.out.at_]; exact hold
   have HXK := Hd hx;have HBP := Hd (HB.out.put k (.int .i64 (-1)));have HOP := Hd (HO.out.put (p := ⟨w1.heap.size, k, none⟩) (by simp) (.int .i64 (-1)));have hx2 := HPE.out x;have hig := HIG.out x;have HF1 := Hd (HF.out x (wr.setCell ⟨w1.heap.size, k, none⟩ (.int .i64 (-1))) (HO1.out.step HOP.out (fun i hi hl => by simp at hi; omega)));have hsz3 : (cs.setIfInBounds k (.int .i64 (-1))).size = n := by rw [Array.size_setIfInBounds, HSZ.out]
   have HCELL : Hid (∀ (z : Int) (cs' : Array Value), cs'.size = n → cs'[k]? = some (.int .i64 z) → (∀ j, j < k → cs'[j]? = cs[j]?) → z = posB t x → ∀ j, j < k + 1 → ∀ y, l[j]? = some y → cs'[j]? = some (.int .i64 (posB t y))) := Hd (fun z cs' _ h1 h2 h3 j hj y hy => by
    by_cases h : j < k
    ·rw [h2 j h];exact HCS.out j h y hy
    ·obtain rfl : j = k := by omega
     rw [HXK.out] at hy;obtain rfl := Option.some.inj hy;rw [h1, h3])
   clear hcell hx hold;generalize idxOfS t x = z at *;have hk1' : (k : Int) < (n : Int) := h01;have f2 := HBP.out.free k;obtain ⟨old2, hold2⟩ : ∃ old2, (cs.setIfInBounds k (.int .i64 (-1)))[k]? = some old2 := ⟨_, Array.getElem?_eq_getElem (by rw [hsz3]; exact hlt)⟩;have c2 : (wr.setCell ⟨w1.heap.size, k, none⟩ (.int .i64 (-1))).cell? ⟨w1.heap.size, k, none⟩ = some old2 := by rw [HBP.out.at_]; exact hold2
   have hset1 : (cs.setIfInBounds k (.int .i64 (-1)))[k]? = some (.int .i64 (-1)) := by rw [Array.getElem?_setIfInBounds, if_pos rfl, if_pos (by rw [HSZ.out]; exact hlt)]
   have hoth1 : ∀ j, j < k → (cs.setIfInBounds k (.int .i64 (-1)))[j]? = cs[j]? := fun j hj => by rw [Array.getElem?_setIfInBounds, if_neg (by omega)]
   have HS1 := Hd hset1;have HT1 := Hd hoth1;have HZ3 := Hd hsz3;clear hold2 hset1 hoth1 hsz3
   by_cases hgo : v = true ∧ 0 ≤ z
   ·obtain ⟨hv1, hz1'⟩ := hgo;subst hv1;have hmx : max z 0 = z := by omega
    have hd : decide (0 ≤ z) = true := decide_eq_true hz1';rw [hmx, hd] at HF1;have hpx : z = posB t x := by rw [hx2, if_pos rfl]
    have HPX := Hd hpx;have HBQ := Hd (HBP.out.put k (.int .i64 z));have HOQ := Hd (HOP.out.put (p := ⟨w1.heap.size, k, none⟩) (by simp) (.int .i64 z));have hset2 : ((cs.setIfInBounds k (.int .i64 (-1))).setIfInBounds k (.int .i64 z))[k]? = some (.int .i64 z) := by rw [Array.getElem?_setIfInBounds, if_pos rfl, if_pos (by rw [HZ3.out]; exact hlt)]
    have hoth2 : ∀ j, j < k → ((cs.setIfInBounds k (.int .i64 (-1))).setIfInBounds k (.int .i64 z))[j]? = cs[j]? := fun j hj => by rw [Array.getElem?_setIfInBounds, if_neg (by omega), HT1.out j hj]
    have hsz4 : ((cs.setIfInBounds k (.int .i64 (-1))).setIfInBounds k (.int .i64 z)).size = n := by rw [Array.size_setIfInBounds, HZ3.out]
    have HCS2 := Hd (HCELL.out z _ hsz4 hset2 hoth2 HPX.out);have HZ4 := Hd hsz4;clear hset2 hoth2 hsz4 hpx hx2;go_wp2_with fail
    refine (HF1.out).mono ?_;rintro e w3 ⟨rfl, rfl⟩;go_wp2
    go_roundw
    case rel => exact ⟨k + 1, _, by go_num, by omega, HBQ, HZ4, HCS2, HOQ⟩
    case measure => simp [intOf]; omega
   ·have hpx : (-1 : Int) = posB t x := by
     rw [hx2]
     split
     ·rename_i h
      have : ¬ 0 ≤ z := fun h0 => hgo ⟨h, h0⟩;omega
     ·rfl
    have HPX := Hd hpx;have HCS2 := Hd (HCELL.out (-1) _ HZ3.out HS1.out HT1.out HPX.out);have hguard : (v = false) ∨ (v = true ∧ decide (0 ≤ z) = false) := by
     cases v with
     | false => exact .inl rfl
     | true => exact .inr ⟨rfl, decide_eq_false (fun h0 => hgo ⟨rfl, h0⟩)⟩
    clear hgo hpx hx2;rcases hguard with rfl | ⟨rfl, hd⟩
    ·go_wp2_with fail
     refine (HF1.out).mono ?_;rintro e w3 ⟨rfl, rfl⟩;go_wp2
     go_roundw
     case rel => exact ⟨k + 1, _, by go_num, by omega, HBP, HZ3, HCS2, HOP⟩
     case measure => simp [intOf]; omega
    ·rw [hd] at HF1;go_wp2_with fail
     refine (HF1.out).mono ?_;rintro e w3 ⟨rfl, rfl⟩;go_wp2
     go_roundw
     case rel => exact ⟨k + 1, _, by go_num, by omega, HBP, HZ3, HCS2, HOP⟩
     case measure => simp [intOf]; omega
  ·have hkn : k = n := by omega
   subst hkn;have hd : decide ((k : Int) < (k : Int)) = false := by simp
   have HOF := Hd (HO1.out.step HO.out (T := [w1.heap.size]) (fun i hi hl => by simp at hi; omega) : Only [] w wr);go_wp2
   go_ret
   refine ⟨HOF.out, w1.heap.size, rfl, .inr ⟨w1.heap.size, 0, rfl, HB.out.lt, Nat.le_refl _, fun j u hu => ?_⟩, HO1.out.size⟩;rw [Nat.zero_add, HB.out.at_];rw [List.getElem?_map, mapB, List.getElem?_map] at hu
   cases hx : l[j]? with
   | none => rw [hx] at hu; cases hu
   | some x =>
    rw [hx] at hu;obtain rfl := Option.some.inj hu;exact HCS.out j (by rw [← HN.out]; exact (List.getElem?_eq_some_iff.1 hx).1) x hx
end Go.Proofs.YthdofaoamljkfaaGreatDoor
