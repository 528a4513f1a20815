/- Parts. -/
import Derived.Test.YtbiclliooidkjaaGreatDoorLaw41AllK17
set_option maxRecDepth 10000
set_option maxHeartbeats 16000000
set_option linter.unusedVariables false
set_option linter.unusedSimpArgs false
namespace Go.Proofs.YtbiclliooidkjaaGreatDoor
open Go.RowKit
open Go.Lib hiding intOf
attribute [local go_sem ↓] Go.wp_at_zero Go.wp_at_succ
theorem law_int : Go.Maps.Keyed Tryz.prog 3 := Go.Maps.int_keyed Tryz.underlying3
theorem nums_put {p : Op4 → Bool} {l : List Tx} {D : DataW Unit} {i : Nat} (h : Nums p l D i) : Nums p l (D.put (.int .i64 (i : Int)) (.lit (.int .i64 (numK p l i : Int)))) (i + 1) where
 im := h.im.put _ _
 at_ := fun j hj hu => by
  by_cases hji : j = i
  ·subst hji;exact Maps.atKey_put_same h.im (by trivial) _ _
  ·rw [Maps.atKey_put_other (fun e => hji (by injection e with _ e; omega))];exact h.at_ j (by omega) hu
theorem nums_skip {p : Op4 → Bool} {l : List Tx} {D : DataW Unit} {i : Nat} (h : Nums p l D i) (hu : usedK p l (i : Int) = false) : Nums p l D (i + 1) where
 im := h.im
 at_ := fun j hj hu' => by
  by_cases hji : j = i
  ·subst hji; rw [hu] at hu'; cases hu'
  ·exact h.at_ j (by omega) hu'
theorem may_keysN {h : Hst} (hm : mayH h = true) {t : Tx} (ht : t ∈ h.l) : ∀ o ∈ t.ops, 0 ≤ o.key ∧ o.key < (h.ks.length : Int) := by
 unfold mayH opsB at hm;simp only [Bool.and_eq_true] at hm;obtain ⟨-, -, -, ho, -⟩ := hm;intro o hop;have h1 := List.all_eq_true.1 (List.all_eq_true.1 ho t ht) o hop;unfold opB at h1;simp only [Bool.and_eq_true, decide_eq_true_eq] at h1;exact h1.1
def rS (V : Value) (zs : List ByteArray) : OR := ⟨9, 1, V, zs.length, strs zs⟩
def rT (V : Value) (xs : List TxA) : OR := ⟨39, 3, V, xs.length, txC xs⟩
def eRow (x : TxA) : OR := ⟨50, 4, .slice x.A x.t.ops.length x.cp, x.t.ops.length, opC x.t.ops⟩
def eraR (p : Op4 → Bool) (h : Hst) : Hst × Int := if mayH h = true then (keptH p h, 0) else (⟨[], [], []⟩, 4)
theorem EK.rowsR {w0 w w' : World} {k : FuncId} {hc cs : Array Value} {g0 g1 g2 gG b nn : Nat} {L : List OR} {D : DataW Unit} (h : EK w0 w k hc g0 g1 g2 gG b cs L nn D) (O : Only [g2] w w') : ORs w' w0.heap.size L :=
 h.rows.only O (fun g hg hm => by
  simp at hm;subst hm;obtain ⟨i, r, hi, hr⟩ := ownB_mem.1 hg;exact own_apart (h.rows.all i r hi) h.br (h.ty r (List.mem_of_getElem? hi)).1 (by simp [hr]))
def HNew (n : Nat) (w : World) (A0 A1 A2 : Option Addr) (h : Hst) : Prop := ∀ (S : List Nat) (w' : World), (∀ i ∈ S, i < n) → Only S w w' → HAt w' w'.heap.size A0 A1 A2 h
theorem HNew.at_ {n : Nat} {w : World} {A0 A1 A2 : Option Addr} {h : Hst} (g : HNew n w A0 A1 A2 h) : HAt w w.heap.size A0 A1 A2 h := g [] w (by simp) (Only.refl [] w)
theorem HNew.step {n m : Nat} {S : List Nat} {w w' : World} {A0 A1 A2 : Option Addr} {h : Hst} (g : HNew n w A0 A1 A2 h) (O : Only S w w') (hS : ∀ i ∈ S, i < n) (hm : m ≤ n) : HNew m w' A0 A1 A2 h := fun T w'' hT k =>
 g (S ++ T) w'' (fun i hi => by
  rcases List.mem_append.1 hi with h1 | h1
  ·exact hS i h1
  ·have := hT i h1; omega) ((O.wide (T := S ++ T) (fun i hi _ => List.mem_append.2 (.inl hi))).step k (fun i hi _ => List.mem_append.2 (.inr hi)))
theorem rows_done {w : World} {base : Nat} {AS Ak At : Option Addr} {ns nk nt cS ck ct : Nat} {ss ks : List ByteArray} {xs : List TxA}
  (R : ORs w base ([rS (.slice AS ns cS) ss, rS (.slice Ak nk ck) ks, rT (.slice At nt ct) xs] ++ xs.map eRow)) (hcp : ∀ x ∈ xs, x.t.ops.length ≤ x.cp ∧ x.cp ≤ maxLen) :
  HAt w w.heap.size AS Ak At ⟨ss, ks, xs.map TxA.t⟩ := by
 obtain ⟨a0, b0, e0, -, -, -, r0⟩ := own_row (R.all 0 _ rfl);obtain ⟨a1, b1, e1, -, -, -, r1⟩ := own_row (R.all 1 _ rfl);obtain ⟨a2, b2, e2, -, -, -, r2⟩ := own_row (R.all 2 _ rfl);obtain rfl : AS = a0 := by
  have : Value.slice AS ns cS = .slice a0 ss.length b0 := e0;injection this
 obtain rfl : Ak = a1 := by
  have : Value.slice Ak nk ck = .slice a1 ks.length b1 := e1;injection this
 obtain rfl : At = a2 := by
  have : Value.slice At nt ct = .slice a2 xs.length b2 := e2;injection this
 refine ⟨r0, r1, xs, rfl, r2, fun x hx => ?_⟩;obtain ⟨i, hi⟩ := List.mem_iff_getElem?.1 hx;obtain ⟨a3, b3, e3, -, -, -, r3⟩ := own_row (R.all (3 + i) (eRow x) (by
  rw [List.getElem?_append_right (by simp)];simp [hi]))
 obtain ⟨h1, h2⟩ := hcp x hx;refine ⟨?_, h1, h2⟩;have e4 : Value.slice x.A x.t.ops.length x.cp = .slice a3 x.t.ops.length b3 := e3;injection e4 with e5;rw [e5];exact r3
theorem keeping_any (k : FuncId) (p : Op4 → Bool) (hS : Stays k p) (A0 A1 A2 : Option Addr) (n0 n1 n2 c0 c1 c2 B : Nat) (h : Hst) (w : World) (hg : HIn w B A0 A1 A2 n0 n1 n2 h) (hnone : A0 = none → n0 = 0) :
    Calls Tryz.prog 27 #[hval A0 A1 A2 n0 n1 n2 c0 c1 c2, .func (.func k) #[] #[]] w fun e w' => ∃ B0 B1 B2 d0 d1 d2, (e = .returned (.tuple #[.agg #[.slice B0 (eraR p h).1.ss.length d0, .slice B1 (eraR p h).1.ks.length d1, .slice B2 (eraR p h).1.l.length d2], .int .i64 (eraR p h).2]) ∧ HNew w.heap.size w' B0 B1 B2 (eraR p h).1) ∧ Only [] w w' := by
  have HM := Hd (fun w' (O : Only [] w w') => hmay_any A0 A1 A2 n0 n1 n2 c0 c1 c2 B h w' (hg.same O))
  have HI := Hd hg
  have HNZ := Hd hnone
  unfold hval at HM ⊢
  have O1 : Only [] w (((w.alloc (.cells #[.slice A0 n0 c0, .slice A1 n1 c1, .slice A2 n2 c2] 25)).alloc (.cells (fnC k) 58)).alloc (.cells zeroH 25)) := (((Only.refl [] w).alloc _).alloc _).alloc _
  have HF := Hd (HM.out _ O1)
  have HO1 := Hd O1
  have HB1 := Hd (((Blk.made w 25 #[.slice A0 n0 c0, .slice A1 n1 c1, .slice A2 n2 c2]).alloc (.cells (fnC k) 58)).alloc (.cells zeroH 25))
  have HG1 := Hd ((Blk.made (w.alloc (.cells #[.slice A0 n0 c0, .slice A1 n1 c1, .slice A2 n2 c2] 25)) 58 (fnC k)).alloc (.cells zeroH 25))
  have HR1 := Hd (Blk.made ((w.alloc (.cells #[.slice A0 n0 c0, .slice A1 n1 c1, .slice A2 n2 c2] 25)).alloc (.cells (fnC k) 58)) 25 zeroH)
  simp only [World.size_alloc] at HG1 HR1
  clear hg O1 HM hnone
  unfold fnC zeroH at HF HO1 HB1 HG1 HR1
  unfold eraR
  cases hm : mayH h with
  | false =>
    rw [errH_not hm] at HF
    rw [if_neg (by decide)]
    clear hm HI hS HNZ
    go_enter Tryz.func27, Tryz.ntmps27
    go_wp2_with fail
    generalize hgr : w.heap.size + 1 + 1 = gr at *
    refine (HF.out).mono ?_
    rintro e w2 ⟨rfl, O2⟩
    have HO2 := Hd (HO1.out.trans O2)
    have HR2 := Hd (O2.blk HR1.out (by simp))
    clear O2 HF
    go_wp2_with (refine wpList_store_blk rfl 25 (.tmp 4) (.tmp 20) rfl gr 25 _ #[.slice none 0 0, .slice none 0 0, .slice none 0 0] rfl rfl HR2.out rfl (by kernel_rfl) (by kernel_rfl) ?_; intro w9 b9 o9; have HB9 := Hd b9; have HN9 := Hd o9; clear b9 o9)
    refine bodyPost_ret (results_row2 Tryz.results27 _ _ gr 25 #[.slice none 0 0, .slice none 0 0, .slice none 0 0] _ rfl HB9.out Tryz.underlying25 rfl (by kernel_rfl)) rfl ?_
    exact ⟨none, none, none, 0, 0, 0, ⟨rfl, fun S w' hS O => ⟨.inl rfl, .inl rfl, LRow.nil⟩⟩, HO2.out.step HN9.out (fun i hi hl => by simp at hi; omega)⟩
  | true =>
    rw [errH_yes hm] at HF
    rw [if_pos rfl]
    have HMY := Hd hm
    have hn0 : n0 ≤ 1000 := by rw [← HI.out.n0]; exact HI.out.sm.ns
    have hn1 : n1 ≤ 1000 := by rw [← HI.out.n1]; exact HI.out.sm.nk
    have hn2 : n2 ≤ 1000 := by rw [← HI.out.n2]; exact HI.out.sm.nl
    clear hm
    go_enter Tryz.func27, Tryz.ntmps27
    go_wp2_with fail
    refine (HF.out).mono ?_
    rintro e w2 ⟨rfl, O2⟩
    have HO2 := Hd (HO1.out.trans O2)
    have HB2 := Hd (O2.blk HB1.out (by simp))
    have HG2 := Hd (O2.blk HG1.out (by simp))
    have HR2 := Hd (O2.blk HR1.out (by simp))
    have hsz2 := O2.size
    simp at hsz2
    clear O2 HF HO1 HB1 HG1 HR1
    have lB := HB2.out.lt
    have y0 := HB2.out.at_ 0
    simp at y0
    go_wp2_with fail
    refine (clone_any A0 n0 c0 B h.ss w2 HI.out.n0 hn0 (HI.out.same HO2.out).at_.r0 (fun e => ⟨HNZ.out e, rfl⟩)).mono ?_
    rintro e w3 ⟨O3, V3, rfl, hV3⟩
    have HO3 := Hd (HO2.out.trans O3)
    have HB3 := Hd (O3.blk HB2.out (by simp))
    have HG3 := Hd (O3.blk HG2.out (by simp))
    have HR3 := Hd (O3.blk HR2.out (by simp))
    have HV3 := Hd (own_lower hV3 (by have := HO2.out.size; omega : w.heap.size ≤ w2.heap.size))
    have hsz3 := O3.size
    obtain ⟨AS, cS, rfl, -, -, -, -⟩ := own_row hV3
    clear O3 HO2 HB2 HG2 HR2 lB y0 hV3
    have hmm := @run_makeMap Tryz.prog
    go_upto_region 6 with (fail)
    generalize hg1 : w.heap.size + 1 = g1 at *
    generalize hg2 : g1 + 1 = g2 at *
    generalize hgG : w3.heap.size = gG at *
    generalize hbm : gG + 1 = bm at *
    have HK0 : Hid (EK w ((w3.alloc (.cells #[.slice AS n0 cS, .slice none 0 0, .slice none 0 0] 25)).alloc (.map #[] 0)) k #[.slice A0 n0 c0, .slice A1 n1 c1, .slice A2 n2 c2] w.heap.size g1 g2 gG bm #[.slice AS n0 cS, .slice none 0 0, .slice none 0 0] [rS (.slice AS n0 cS) h.ss, rS (.slice none 0 0) []] 0 (.map [])) := Hd (by
      have OA := ((Only.refl [] w3).alloc (.cells #[.slice AS n0 cS, .slice none 0 0, .slice none 0 0] 25)).alloc (.map #[] 0)
      have hmade := World.ownsMap_made (H := Unit) (w3.alloc (.cells #[.slice AS n0 cS, .slice none 0 0, .slice none 0 0] 25)) Tryz.prog 3 (plainElem Tryz.prog 3)
      rw [World.size_alloc, hgG, hbm] at hmade
      have hsz := HO3.out.size
      exact
      { bh := OA.blk HB3.out (by simp)
        bf := OA.blk HG3.out (by simp)
        br := OA.blk HR3.out (by simp)
        bg := by rw [← hgG]; exact (Blk.made w3 25 #[.slice AS n0 cS, .slice none 0 0, .slice none 0 0]).alloc _
        rows := ⟨fun i r hr => by
            rcases i with _ | _ | i
            · simp at hr; subst hr
              have := own_only HV3.out OA (by simp)
              rw [← HI.out.n0] at this
              unfold rS OR.ok
              dsimp only
              rw [← HI.out.n0]
              exact this
            · simp at hr; subst hr
              exact World.ownsRow_nil _ _ _ _
            · simp at hr, fun i j r s hr hs hij g hg => by
            rcases i with _ | _ | i <;> rcases j with _ | _ | j <;> simp at hr hs hij
            · subst hr hs; intro e; simp [rS, Value.ownBlock] at e
            · subst hr hs; simp [rS, Value.ownBlock] at hg⟩
        map := hmade
        o := HO3.out.trans OA
        d01 := by omega
        d12 := by omega
        d2G := by omega
        base := Nat.le_refl _
        bb := by omega
        ty := fun r hr => by
          simp at hr
          rcases hr with rfl | rfl <;> exact ⟨by show 9 ≠ 25; decide, by show 9 ≠ 58; decide⟩ })
    have HN0 : Hid (Nums p h.l (.map []) 0) := Hd ⟨Maps.isMap_empty, fun j hj => by omega⟩
    clear hmm HB3 HG3 HR3 HV3 HO3 hgG hsz2 hsz3
    generalize ((w3.alloc (.cells #[.slice AS n0 cS, .slice none 0 0, .slice none 0 0] 25)).alloc (.map #[] 0)) = w4 at *
    have lB := HK0.out.bh.lt
    have y1 := HK0.out.bh.at_ 1
    simp at y1
    obtain ⟨is0, his, hs0, hs1, hs2⟩ := info_parts info_str
    have HSS := Hd hS
    have HNO := Hd HI.out.sm.no
    have HLN := Hd HI.out.n2
    have HIL := Hd HI.out.at_.r2
    have HKN := Hd HI.out.n1
    have HIQ := Hd (fun w' (O : Only [] w w') => (HI.out.same O).at_)
    go_wp2_with fail
    go_loopw [30] (fun iv wr => ∃ (i nn : Nat) (D : DataW Unit) (V1 : Value), iv = .int .i64 i ∧ i ≤ n1 ∧ nn ≤ i ∧ Hid (EK w wr k #[.slice A0 n0 c0, .slice A1 n1 c1, .slice A2 n2 c2] w.heap.size g1 g2 gG bm #[.slice AS n0 cS, V1, .slice none 0 0] [rS (.slice AS n0 cS) h.ss, rS V1 (keptK p h.l (h.ks.take i))] nn D) ∧ Hid (Nums p h.l D i)) (fun iv _ => n1 - (intOf iv).toNat)
    case atStart => exact ⟨0, 0, _, _, rfl, by omega, by omega, HK0, HN0⟩
    case round =>
      obtain ⟨i, nn, D, V1, rfl, hi, hnn, hK, hN⟩ := hrel
      clear HK0 HN0 y1 lB
      by_cases hlt : i < n1
      · obtain ⟨z, hz⟩ : ∃ z, h.ks[i]? = some z := ⟨_, List.getElem?_eq_getElem (by rw [HKN.out]; exact hlt)⟩
        have hat := HIQ.out wr hK.out.o
        obtain ⟨bl, off, rfl, hblB, hbw, hcz⟩ := hat.r1.open_ (k := i) (by rw [strs, List.length_map, HKN.out]; exact hlt)
        have hz1 : wr.cell? ⟨bl, off + i, none⟩ = some (.string z) := hcz i _ (by rw [strs, List.getElem?_map, hz]; rfl)
        have HKT := Hd (keptK_take (p := p) (l := h.l) hz)
        have HKL := Hd (keptK_len p h.l h.ks i (by rw [HKN.out]; exact hi))
        have hkle := numK_le p h.l i
        obtain ⟨A5, c5, hV1, -, -, -, -⟩ := own_row (hK.out.rows.all 1 _ rfl)
        have hV1' : V1 = .slice A5 (keptK p h.l (h.ks.take i)).length c5 := hV1
        subst hV1'
        clear hV1
        have h01 : (i : Int) < (n1 : Int) := by omega
        have hi0 : (0 : Int) ≤ (i : Int) := Int.natCast_nonneg _
        have hwi : IntKind.i64.wrap ((i : Int) + 1) = (i : Int) + 1 := IntWalk.i64_in _ (by omega)
        clear hcz hat hz
        go_upto_region 9 with (fail)
        have HX := Hd ((Only.refl [] wr).alloc (.cells #[.int .i64 (i : Int)] 3))
        have HC9 := Hd (Blk.made wr 3 #[.int .i64 (i : Int)])
        have HK5 := Hd (hK.out.same HX.out)
        have HU5 := Hd (uses_any k p HSS.out wr.heap.size g1 (i : Int) A0 (some ⟨bl, off, none⟩) A2 n0 n1 n2 c0 c1 c2 B h.l _ ⟨HC9.out.at_ 0, HK5.out.bf.at_ 0, HC9.out.lt, HK5.out.bf.lt⟩ (HIQ.out _ HK5.out.o).r2 HLN.out hn2 HNO.out)
        clear HX hz1 hbw
        generalize hg9 : wr.heap.size = g9 at *
        generalize (wr.alloc (.cells #[.int .i64 (i : Int)] 3)) = w5 at *
        have lB := HK5.out.bh.lt
        have y0 := HK5.out.bh.at_ 0
        have y1 := HK5.out.bh.at_ 1
        have y2 := HK5.out.bh.at_ 2
        simp at y0 y1 y2
        go_wp2_with fail
        refine (HU5.out).mono ?_
        rintro e w6 ⟨rfl, O6⟩
        have HK6 := Hd (HK5.out.same O6)
        have HC6 := Hd (O6.blk HC9.out (by simp))
        have hsz6 := O6.size
        clear O6 HU5 lB y0 y1 y2 HK5 HC9 hK
        have lG := HK6.out.bg.lt
        have z1 := HK6.out.bg.at_ 1
        have l9 := HC6.out.lt
        have q9 := HC6.out.at_ 0
        simp at z1 q9
        cases hu : usedK p h.l (i : Int) with
        | false =>
          have HE : Hid (keptK p h.l (h.ks.take (i + 1)) = keptK p h.l (h.ks.take i)) := Hd (by rw [HKT.out, hu]; simp)
          have HN6 := Hd (nums_skip hN.out hu)
          clear hu
          go_wp2
          go_roundw
          case rel => first | exact ⟨i + 1, nn, D, _, by go_num, by omega, by omega, Hd (by rw [HE.out]; exact HK6.out), HN6⟩ | exact ⟨_, _, ⟨i + 1, nn, D, _, by go_num, by omega, by omega, Hd (by rw [HE.out]; exact HK6.out), HN6⟩, rfl, rfl⟩
          case measure => simp [intOf]; omega
        | true =>
          have HE : Hid (keptK p h.l (h.ks.take (i + 1)) = keptK p h.l (h.ks.take i) ++ [z]) := Hd (by rw [HKT.out, hu]; simp)
          clear hu
          have hwf : (Lit.int .i64 (i : Int)).wf = true := WalkArith.wf_i64 (by omega)
          have hwf2 : (Lit.int .i64 (numK p h.l i : Int)).wf = true := WalkArith.wf_i64 (by omega)
          go_upto_region 11 with (at_mapUpdate; refine wpList_mapUpdate_own _ rfl _ _ _ 76 rfl 3 3 law_int Tryz.underlying76 (plainElem Tryz.prog 3) bm nn D rfl HK6.out.map (by unfold maxLen; omega) _ _ (.int .i64 (i : Int)) rfl rfl (Maps.keyOf_int_mk Tryz.underlying3 hwf) (.lit (.int .i64 (numK p h.l i : Int))) [] (by rw [HKL.out]; exact plainElem_int Tryz.underlying3 hwf2) ?_; intro w7 hown7 hgrow7)
          have HN7 := Hd (nums_put hN.out)
          have HK7 := Hd (HK6.out.mapped hown7 hgrow7)
          have HV7 : Hid (w7.ownsRow w.heap.size 9 1 (.slice A5 (keptK p h.l (h.ks.take i)).length c5) (keptK p h.l (h.ks.take i)).length (strs (keptK p h.l (h.ks.take i)))) := Hd (HK7.out.rows.all 1 _ rfl)
          have hsz7 : w.heap.size ≤ w7.heap.size := HK7.out.o.size
          clear hown7 hgrow7 HK6 HC6 lG z1 l9 q9 hN hwf hwf2
          have lG := HK7.out.bg.lt
          have z1 := HK7.out.bg.at_ 1
          simp at z1
          have hle7 : (keptK p h.l (h.ks.take i)).length ≤ 1000 := by rw [HKL.out]; omega
          have HKC : Hid (h.ks.take i = h.ks.take i) := Hd rfl
          generalize hkk : keptK p h.l (h.ks.take i) = kk at *
          go_wp2_with (at_builtin; refine wpList_append_row _ rfl (.tmp 44) (.tmp 46) _ rfl w.heap.size 9 is0 _ 1 16 Tryz.underlying22 his hs0 hs1 hs2 rfl (by omega) _ _ _ rfl (own_only HV7.out ((Only.refl [] _).alloc _) (by simp)) (w7.heap.size + 1) (some ⟨w7.heap.size, 0, none⟩) 1 1 [.string z] rfl rfl (row_lit w7 9 #[.string z]) (by intro u hu; simp at hu; subst hu; rfl) (by unfold maxLen; omega) (by omega) (by simp; omega) ?_; intro v8 w8 hown8 hgrow8 hat8; have hgr : World.grownBy (w7.alloc (.cells #[.string z] 9)) w8 (Value.slice A5 kk.length c5).ownBlock := hgrow8; obtain ⟨A8, c8, rfl, -, -, -, -⟩ := own_row hown8; have HK8 := Hd ((HK7.out.same ((Only.refl [] w7).alloc (.cells #[.string z] 9))).grow (i := 1) rfl hgr hown8 hat8); clear hown8 hgrow8 hat8 hgr lG z1; have lG := HK8.out.bg.lt; have z1 := HK8.out.bg.at_ 1; have f1 := HK8.out.bg.free 1; simp at z1)
          have HK9 : Hid (EK w (w8.setCell ⟨gG, 1, none⟩ (.slice A8 (kk.length + 1) c8)) k #[.slice A0 n0 c0, .slice (some ⟨bl, off, none⟩) n1 c1, .slice A2 n2 c2] w.heap.size g1 g2 gG bm #[.slice AS n0 cS, .slice A8 (kk.length + 1) c8, .slice none 0 0] [rS (.slice AS n0 cS) h.ss, rS (.slice A8 (kk.length + 1) c8) (keptK p h.l (h.ks.take (i + 1)))] (nn + 1) (D.put (.int .i64 (i : Int)) (.lit (.int .i64 (numK p h.l i : Int))))) := Hd (by
            have h9 := HK8.out.setG 1 (.slice A8 (kk.length + 1) c8)
            rw [HE.out]
            have e : rS (.slice A8 (kk.length + 1) c8) (kk ++ [z]) = ⟨9, 1, .slice A8 (kk.length + 1) c8, kk.length + 1, strs kk ++ [.string z]⟩ := by simp [rS, strs]
            rw [e]
            exact h9)
          go_roundw
          case rel => first | exact ⟨i + 1, nn + 1, _, _, by go_num, by omega, by omega, HK9, HN7⟩ | exact ⟨_, ⟨i + 1, nn + 1, _, _, by go_num, by omega, by omega, HK9, HN7⟩, rfl⟩ | exact ⟨_, _, ⟨i + 1, nn + 1, _, _, by go_num, by omega, by omega, HK9, HN7⟩, rfl, rfl⟩
          case measure => simp [intOf]; omega
      · have hin : i = n1 := by omega
        subst hin
        have hd2 : decide ((i : Int) < (i : Int)) = false := by simp
        have HKE : Hid (EK w wr k #[.slice A0 n0 c0, .slice A1 i c1, .slice A2 n2 c2] w.heap.size g1 g2 gG bm #[.slice AS n0 cS, V1, .slice none 0 0] [rS (.slice AS n0 cS) h.ss, rS V1 (keptK p h.l h.ks)] nn D) := Hd (by
          have h9 := hK.out
          rwa [List.take_of_length_le (by rw [HKN.out]; exact Nat.le_refl _)] at h9)
        clear hK
        have lB := HKE.out.bh.lt
        have y2 := HKE.out.bh.at_ 2
        simp at y2
        obtain ⟨it, hit, ht0, ht1, ht2⟩ := info_parts info_txn
        obtain ⟨io, hio, ho0, ho1, ho2⟩ := info_parts info_op
        have HK2 : Hid (EK w wr k #[.slice A0 n0 c0, .slice A1 i c1, .slice A2 n2 c2] w.heap.size g1 g2 gG bm #[.slice AS n0 cS, V1, .slice none 0 0] ([rS (.slice AS n0 cS) h.ss, rS V1 (keptK p h.l h.ks), rT (.slice none 0 0) []] ++ ([] : List TxA).map eRow) nn D) := Hd (HKE.out.push (r' := rT (.slice none 0 0) []) (World.ownsRow_nil _ _ _ _) rfl ⟨by show 39 ≠ 25; decide, by show 39 ≠ 58; decide⟩)
        go_wp2_with fail
        go_loopw [53] (fun iv wr => ∃ (q : Nat) (V2 : Value) (xs : List TxA), iv = .int .i64 q ∧ q ≤ n2 ∧ Hid (xs.map TxA.t = (h.l.take q).map (keptT p h.l)) ∧ Hid (∀ x ∈ xs, x.t.ops.length ≤ x.cp ∧ x.cp ≤ maxLen) ∧ Hid (EK w wr k #[.slice A0 n0 c0, .slice A1 i c1, .slice A2 n2 c2] w.heap.size g1 g2 gG bm #[.slice AS n0 cS, V1, V2] ([rS (.slice AS n0 cS) h.ss, rS V1 (keptK p h.l h.ks), rT V2 xs] ++ xs.map eRow) nn D)) (fun iv _ => n2 - (intOf iv).toNat)
        case atStart => exact ⟨0, _, [], rfl, by omega, Hd rfl, Hd (by simp), HK2⟩
        case round =>
          obtain ⟨q, V2, xs, rfl, hq, hxs, hcp, hK⟩ := hrel
          clear HK2 HKE y2 lB
          have hxl : xs.length = q := by
            have := congrArg List.length hxs.out
            simp at this
            rw [this, HLN.out, Nat.min_eq_left hq]
          by_cases hlt : q < n2
          · obtain ⟨t, ht⟩ : ∃ t, h.l[q]? = some t := ⟨_, List.getElem?_eq_getElem (by rw [HLN.out]; exact hlt)⟩
            obtain ⟨bt, ot, AT, cpt, rfl, hbtB, hbtw, hTA, hOk⟩ := HIL.out.at_ ht
            obtain ⟨a0, a1, a2⟩ := hTA.only hK.out.o hbtw (by simp)
            have hbtr : bt < wr.heap.size := Nat.lt_of_lt_of_le hbtw hK.out.o.size
            have hno := HNO.out t (List.mem_of_getElem? ht)
            have HTQ := Hd ht
            have HROW := Hd hOk.row
            have h01 : (q : Int) < (n2 : Int) := by omega
            have hq0 : (0 : Int) ≤ (q : Int) := Int.natCast_nonneg _
            have hwq : IntKind.i64.wrap ((q : Int) + 1) = (q : Int) + 1 := IntWalk.i64_in _ (by omega)
            have HMK := Hd (may_keysN HMY.out (List.mem_of_getElem? ht))
            obtain ⟨ts, tf, ops⟩ := t
            dsimp only at a0 a1 a2 hno HROW HMK
            generalize hmm : ops.length = m at *
            clear ht hOk hTA
            go_upto_region 18 with (fail)
            have HX := Hd ((Only.refl [] wr).alloc (.cells #[.int .i64 ts, .int .i64 tf, .slice AT m cpt] 39))
            have HT5 := Hd (Blk.made wr 39 #[.int .i64 ts, .int .i64 tf, .slice AT m cpt])
            have HK5 := Hd ((hK.out.same HX.out).push (r' := ⟨50, 4, .slice none 0 0, (keptO p h.l (ops.take 0)).length, opC (keptO p h.l (ops.take 0))⟩) (World.ownsRow_nil _ _ _ _) rfl ⟨by show 50 ≠ 25; decide, by show 50 ≠ 58; decide⟩)
            clear HX hK a0 a1 a2 hbtw hbtr
            generalize (wr.alloc (.cells #[.int .i64 ts, .int .i64 tf, .slice AT m cpt] 39)) = w5 at *
            generalize wr.heap.size = g12 at *
            go_loopw [13, 60] (fun V jv wr => ∃ j : Nat, jv = .int .i64 j ∧ j ≤ m ∧ Hid (EK w wr k #[.slice A0 n0 c0, .slice A1 i c1, .slice (some ⟨bt, ot, none⟩) n2 c2] w.heap.size g1 g2 gG bm #[.slice AS n0 cS, V1, V2] (([rS (.slice AS n0 cS) h.ss, rS V1 (keptK p h.l h.ks), rT V2 xs] ++ xs.map eRow) ++ [⟨50, 4, V, (keptO p h.l (ops.take j)).length, opC (keptO p h.l (ops.take j))⟩]) nn D) ∧ Hid (Blk wr g12 39 #[.int .i64 ts, .int .i64 tf, .slice AT m cpt])) (fun _ jv _ => m - (intOf jv).toNat)
            case atStart => exact ⟨0, rfl, by omega, HK5, HT5⟩
            case round =>
              obtain ⟨j, rfl, hj, hK, hT⟩ := hrel
              clear HK5 HT5
              by_cases hlt2 : j < m
              · obtain ⟨y, hy⟩ : ∃ y, ops[j]? = some y := ⟨_, List.getElem?_eq_getElem (by rw [hmm]; exact hlt2)⟩
                obtain ⟨bo, oo, rfl, hboB, hbo, hP⟩ := row_op (HROW.out.only hK.out.o (by simp)) hy
                obtain ⟨p0, p1, p2, p3⟩ := hP
                have HOT := Hd (keptO_take (p := p) (l := h.l) hy)
                have hol := keptO_len p h.l (ops.take j)
                rw [List.length_take] at hol
                have hky := HMK.out y (List.mem_of_getElem? hy)
                have HUS := Hd (fun hp => used_of (p := p) (List.mem_of_getElem? HTQ.out) (o := y) (List.mem_of_getElem? hy) hp)
                obtain ⟨yw, yk, yv, yn⟩ := y
                dsimp only at p0 p1 p2 p3 hky
                obtain ⟨kk, rfl⟩ : ∃ kk : Nat, yk = kk := ⟨yk.toNat, by omega⟩
                have h02 : (j : Int) < (m : Int) := by omega
                have hj0 : (0 : Int) ≤ (j : Int) := Int.natCast_nonneg _
                have hwj : IntKind.i64.wrap ((j : Int) + 1) = (j : Int) + 1 := IntWalk.i64_in _ (by omega)
                clear hy
                go_upto_region 20 with (fail)
                have HX := Hd ((Only.refl [] wr).alloc (.cells #[.bool yw, .int .i64 (kk : Int), .int .i64 yv, .int .i64 yn] 50))
                have HP6 := Hd (Blk.made wr 50 #[.bool yw, .int .i64 (kk : Int), .int .i64 yv, .int .i64 yn])
                have HK6 := Hd (hK.out.same HX.out)
                have HT6 := Hd (HX.out.blk hT.out (by simp))
                have hK' := hK.out
                clear HX hK hT p0 p1 p2 p3 hbo
                generalize (wr.alloc (.cells #[.bool yw, .int .i64 (kk : Int), .int .i64 yv, .int .i64 yn] 50)) = w6 at *
                have HGE : Hid (∀ g ∈ ownB (([rS (.slice AS n0 cS) h.ss, rS V1 (keptK p h.l h.ks), rT V2 xs] ++ xs.map eRow) ++ [⟨50, 4, u13, (keptO p h.l (ops.take j)).length, opC (keptO p h.l (ops.take j))⟩]), g < wr.heap.size) := Hd (fun g hg => (hK'.rows.ge g hg).2)
                have HGB : Hid (w.heap.size ≤ wr.heap.size) := Hd hK'.o.size
                clear hK'
                generalize wr.heap.size = g15 at *
                obtain ⟨py, hpy⟩ : ∃ py, py = p ⟨yw, (kk : Int), yv, yn⟩ := ⟨_, rfl⟩
                have HPY := Hd hpy
                clear hpy
                go_cut [66] (fun z wx => z = .bool py ∧ Hid (Only [] w6 wx))
                case first =>
                  have hf := HK6.out.bf.at_ 0
                  have lf := HK6.out.bf.lt
                  have l15 := HP6.out.lt
                  have x0 := HP6.out.at_ 0
                  have x1 := HP6.out.at_ 1
                  have x2 := HP6.out.at_ 2
                  have x3 := HP6.out.at_ 3
                  simp [fnC] at hf x0 x1 x2 x3
                  have HSO := Hd (stays_of ⟨yw, (kk : Int), yv, yn⟩ w6)
                  have HSB := Hd (stays_by ⟨yw, (kk : Int), yv, yn⟩ w6)
                  dsimp only at HSO HSB
                  rcases HSS.out with ⟨hk', hp'⟩ | ⟨hk', hp'⟩
                  · have hpy' : py = !decide (yv = 2) := by rw [HPY.out, hp']; rfl
                    subst hpy'
                    rw [hk'] at hf
                    clear HPY hp' hk'
                    generalize (!decide (yv = 2)) = bb at *
                    go_wp2_with fail
                    refine (HSO.out).mono ?_
                    rintro e w7 ⟨rfl, O7⟩
                    have HO7 := Hd O7
                    clear O7
                    go_wp2
                    go_meet
                    exact ⟨rfl, HO7⟩
                  · have hpy' : py = true := by rw [HPY.out, hp']; rfl
                    subst hpy'
                    rw [hk'] at hf
                    clear HPY hp' hk'
                    go_wp2_with fail
                    refine (HSB.out).mono ?_
                    rintro e w7 ⟨rfl, O7⟩
                    have HO7 := Hd O7
                    clear O7
                    go_wp2
                    go_meet
                    exact ⟨rfl, HO7⟩
                case rest =>
                  obtain ⟨rfl, HCX⟩ := hcut
                  obtain ⟨w7, hw7⟩ : ∃ w7 : World, w7 = wc := ⟨_, rfl⟩
                  subst hw7
                  have HK7 := Hd (HK6.out.same HCX.out)
                  have HT7 := Hd (HCX.out.blk HT6.out (by simp))
                  have HP7 := Hd (HCX.out.blk HP6.out (by simp))
                  clear HCX HK6 HT6 HP6
                  cases py with
                  | false =>
                    have HE : Hid (keptO p h.l (ops.take (j + 1)) = keptO p h.l (ops.take j)) := Hd (by rw [HOT.out, ← HPY.out]; simp)
                    go_wp2
                    go_roundw
                    case rel => first | exact ⟨j + 1, by go_num, by omega, Hd (by rw [HE.out]; exact HK7.out), HT7⟩ | exact ⟨_, ⟨j + 1, by go_num, by omega, Hd (by rw [HE.out]; exact HK7.out), HT7⟩, rfl⟩
                    case measure => simp [intOf]; omega
                  | true =>
                    have HE : Hid (keptO p h.l (ops.take (j + 1)) = keptO p h.l (ops.take j) ++ [⟨yw, (numK p h.l kk : Int), yv, yn⟩]) := Hd (by rw [HOT.out, ← HPY.out]; simp [keyTo])
                    have hkn : usedK p h.l (kk : Int) = true := HUS.out HPY.out.symm
                    have hki : kk < i := by have := HKN.out; omega
                    have hnum := hN.out.at_ kk hki hkn
                    have hwf : (Lit.int .i64 (kk : Int)).wf = true := WalkArith.wf_i64 (by omega)
                    have l15 := HP7.out.lt
                    have x0 := HP7.out.at_ 0
                    have x1 := HP7.out.at_ 1
                    have x2 := HP7.out.at_ 2
                    have x3 := HP7.out.at_ 3
                    have f1 := HP7.out.free 1
                    simp at x0 x1 x2 x3
                    go_upto_region 22 with (at_lookup; refine wpList_lookup_own_int _ rfl _ _ 76 rfl 3 3 .i64 law_int Tryz.underlying76 Tryz.underlying3 (by kernel_rfl) bm nn D rfl HK7.out.map _ (.int .i64 (kk : Int)) rfl (Maps.keyOf_int_mk Tryz.underlying3 hwf) ?_; intro cv hat hwc; have hcv : cv = (numK p h.l kk : Int) := (by rw [hnum] at hat; injection hat with hat; injection hat with _ hat; exact hat.symm); subst hcv; clear hat hwc)
                    have HK8 := Hd (HK7.out.setFree HP7.out ⟨by decide, by decide⟩ (fun hm => by have := HGE.out g15 hm; omega) HGB.out 1 (.int .i64 (numK p h.l kk : Int)))
                    have HT8 := Hd (HT7.out.far (p := ⟨g15, 1, none⟩) (HT7.out.apart HP7.out (by decide)) (.int .i64 (numK p h.l kk : Int)))
                    have HP8 := Hd (HP7.out.put 1 (.int .i64 (numK p h.l kk : Int)))
                    clear HK7 HT7 HP7 l15 x0 x1 x2 x3 f1 hnum
                    generalize (w7.setCell ⟨g15, 1, none⟩ (.int .i64 (numK p h.l kk : Int))) = w8 at *
                    have l15 := HP8.out.lt
                    have x0 := HP8.out.at_ 0
                    have x1 := HP8.out.at_ 1
                    have x2 := HP8.out.at_ 2
                    have x3 := HP8.out.at_ 3
                    simp at x0 x1 x2 x3
                    have HV8 : Hid (w8.ownsRow w.heap.size 50 4 u13 (keptO p h.l (ops.take j)).length (opC (keptO p h.l (ops.take j)))) := Hd HK8.out.last
                    have hsz8 : w.heap.size ≤ w8.heap.size := HK8.out.o.size
                    go_wp2_with (at_builtin; refine wpList_append_row _ rfl (.tmp 72) (.tmp 74) _ rfl w.heap.size 50 io _ 4 32 Tryz.underlying37 hio ho0 ho1 ho2 rfl (by omega) _ _ _ rfl (own_only HV8.out ((Only.refl [] _).alloc _) (by simp)) (w8.heap.size + 1) (some ⟨w8.heap.size, 0, none⟩) 1 1 [.bool yw, .int .i64 (numK p h.l kk : Int), .int .i64 yv, .int .i64 yn] rfl rfl (row_lit w8 50 #[.bool yw, .int .i64 (numK p h.l kk : Int), .int .i64 yv, .int .i64 yn]) (by intro u hu; simp at hu; rcases hu with rfl | rfl | rfl | rfl <;> rfl) (by unfold maxLen; omega) (by omega) (by simp; omega) ?_; intro v9 w9 hown9 hgrow9 hat9)
                    have hgr : World.grownBy (w8.alloc (.cells #[.bool yw, .int .i64 (numK p h.l kk : Int), .int .i64 yv, .int .i64 yn] 50)) w9 u13.ownBlock := hgrow9
                    have HK9 := Hd ((HK8.out.same ((Only.refl [] w8).alloc (.cells #[.bool yw, .int .i64 (numK p h.l kk : Int), .int .i64 yv, .int .i64 yn] 50))).growLast hgr hown9 hat9)
                    have HT9 := Hd ((only_grown hgr).blk (HT8.out.alloc (.cells #[.bool yw, .int .i64 (numK p h.l kk : Int), .int .i64 yv, .int .i64 yn] 50)) (own_apart (own_only HV8.out ((Only.refl [] w8).alloc (.cells #[.bool yw, .int .i64 (numK p h.l kk : Int), .int .i64 yv, .int .i64 yn] 50)) (by simp)) (HT8.out.alloc (.cells #[.bool yw, .int .i64 (numK p h.l kk : Int), .int .i64 yv, .int .i64 yn] 50)) (by decide)))
                    clear hown9 hgrow9 hat9 hgr l15 x0 x1 x2 x3
                    go_wp2
                    go_roundw
                    have HKR : Hid (EK w w9 k #[.slice A0 n0 c0, .slice A1 i c1, .slice (some ⟨bt, ot, none⟩) n2 c2] w.heap.size g1 g2 gG bm #[.slice AS n0 cS, V1, V2] (([rS (.slice AS n0 cS) h.ss, rS V1 (keptK p h.l h.ks), rT V2 xs] ++ xs.map eRow) ++ [⟨50, 4, v9, (keptO p h.l (ops.take (j + 1))).length, opC (keptO p h.l (ops.take (j + 1)))⟩]) nn D) := Hd (by
                      rw [HE.out, List.length_append, opC_append]
                      exact HK9.out)
                    case rel => first | exact ⟨j + 1, by go_num, by omega, HKR, HT9⟩ | exact ⟨_, ⟨j + 1, by go_num, by omega, HKR, HT9⟩, rfl⟩
                    case measure => simp [intOf]; omega
              · have hjm : j = m := by omega
                subst hjm
                have hd4 : decide ((j : Int) < (j : Int)) = false := by simp
                have hopt : ops.take j = ops := List.take_of_length_le (by rw [hmm]; exact Nat.le_refl _)
                have hKL := hK.out
                rw [hopt] at hKL
                have HKL2 := Hd hKL
                clear hKL
                generalize hko : keptO p h.l ops = ko at *
                obtain ⟨Ao, co, hu13, hlo1, hlo2, -, -⟩ := own_row HKL2.out.last
                have hu13' : u13 = .slice Ao ko.length co := hu13
                subst hu13'
                have hlo1' : ko.length ≤ co := hlo1
                obtain ⟨A2t, c2t, hV2, -, -, -, -⟩ := own_row (HKL2.out.rows.all 2 (rT V2 xs) rfl)
                have hV2' : V2 = .slice A2t q c2t := by rw [← hxl]; exact hV2
                subst hV2'
                have HVT : Hid (wr.ownsRow w.heap.size 39 3 (.slice A2t q c2t) q (txC xs)) := Hd (by
                  have h9 := HKL2.out.rows.all 2 (rT (.slice A2t q c2t) xs) rfl
                  unfold OR.ok rT at h9
                  dsimp only at h9
                  rwa [hxl] at h9)
                have hszr : w.heap.size ≤ wr.heap.size := HKL2.out.o.size
                have lG := HKL2.out.bg.lt
                have z2 := HKL2.out.bg.at_ 2
                have l12 := hT.out.lt
                have x0 := hT.out.at_ 0
                have x1 := hT.out.at_ 1
                simp at z2 x0 x1
                have HKO : Hid (keptO p h.l ops = ko) := Hd hko
                clear hu13 hV2 hlo1 hK hT hko hopt
                go_wp2_with (at_builtin; refine wpList_append_row _ rfl (.tmp 78) (.tmp 85) _ rfl w.heap.size 39 it _ 3 40 Tryz.underlying23 hit ht0 ht1 ht2 rfl (by omega) _ _ _ rfl (own_only HVT.out ((Only.refl [] _).alloc _) (by simp)) (wr.heap.size + 1) (some ⟨wr.heap.size, 0, none⟩) 1 1 [.int .i64 ts, .int .i64 tf, .slice Ao ko.length co] rfl rfl (row_lit wr 39 #[.int .i64 ts, .int .i64 tf, .slice Ao ko.length co]) (by intro u hu; simp at hu; rcases hu with rfl | rfl | rfl <;> rfl) (by unfold maxLen; omega) (by omega) (by simp; omega) ?_; intro v9 w9 hown9 hgrow9 hat9; have hgr : World.grownBy (wr.alloc (.cells #[.int .i64 ts, .int .i64 tf, .slice Ao ko.length co] 39)) w9 (Value.slice A2t q c2t).ownBlock := hgrow9; obtain ⟨A9, c9, rfl, -, -, -, -⟩ := own_row hown9; have HK9 := Hd ((HKL2.out.same ((Only.refl [] wr).alloc (.cells #[.int .i64 ts, .int .i64 tf, .slice Ao ko.length co] 39))).grow (i := 2) rfl hgr hown9 hat9); clear hown9 hgrow9 hat9 hgr lG z2 l12 x0 x1; have lG := HK9.out.bg.lt; have z2 := HK9.out.bg.at_ 2; have f2 := HK9.out.bg.free 2; simp at z2)
                have HXN : Hid ((xs ++ [(⟨⟨ts, tf, ko⟩, Ao, co⟩ : TxA)]).map TxA.t = (h.l.take (q + 1)).map (keptT p h.l)) := Hd (by
                  rw [List.map_append, hxs.out, List.take_add_one, HTQ.out, List.map_append]
                  simp [keptT, HKO.out])
                have HCN : Hid (∀ x ∈ xs ++ [(⟨⟨ts, tf, ko⟩, Ao, co⟩ : TxA)], x.t.ops.length ≤ x.cp ∧ x.cp ≤ maxLen) := Hd (fun x hx => by
                  rcases List.mem_append.1 hx with h1 | h1
                  · exact hcp.out x h1
                  · simp at h1
                    subst h1
                    exact ⟨hlo1', hlo2⟩)
                have HK10 : Hid (EK w (w9.setCell ⟨gG, 2, none⟩ (.slice A9 (q + 1) c9)) k #[.slice A0 n0 c0, .slice A1 i c1, .slice (some ⟨bt, ot, none⟩) n2 c2] w.heap.size g1 g2 gG bm #[.slice AS n0 cS, V1, .slice A9 (q + 1) c9] ([rS (.slice AS n0 cS) h.ss, rS V1 (keptK p h.l h.ks), rT (.slice A9 (q + 1) c9) (xs ++ [(⟨⟨ts, tf, ko⟩, Ao, co⟩ : TxA)])] ++ (xs ++ [(⟨⟨ts, tf, ko⟩, Ao, co⟩ : TxA)]).map eRow) nn D) := Hd (by
                  have h9 := HK9.out.setG 2 (.slice A9 (q + 1) c9)
                  have e : rT (.slice A9 (q + 1) c9) (xs ++ [(⟨⟨ts, tf, ko⟩, Ao, co⟩ : TxA)]) = ⟨39, 3, .slice A9 (q + 1) c9, q + 1, txC xs ++ [.int .i64 ts, .int .i64 tf, .slice Ao ko.length co]⟩ := by simp [rT, txC, TxA.c, hxl]
                  rw [e, List.map_append]
                  exact h9)
                clear HK9 HKL2
                go_roundw
                case rel => first | exact ⟨q + 1, _, _, by go_num, by omega, HXN, HCN, HK10⟩ | exact ⟨_, ⟨q + 1, _, _, by go_num, by omega, HXN, HCN, HK10⟩, rfl⟩ | exact ⟨_, _, ⟨q + 1, _, _, by go_num, by omega, HXN, HCN, HK10⟩, rfl, rfl⟩
                case measure => simp [intOf]; omega
          · have hqn : q = n2 := by omega
            subst hqn
            have hd3 : decide ((q : Int) < (q : Int)) = false := by simp
            have HXE : Hid (xs.map TxA.t = h.l.map (keptT p h.l)) := Hd (by rw [hxs.out, List.take_of_length_le (by rw [HLN.out]; exact Nat.le_refl _)])
            have lG := hK.out.bg.lt
            have x0 := hK.out.bg.at_ 0
            have x1 := hK.out.bg.at_ 1
            have x2 := hK.out.bg.at_ 2
            simp at x0 x1 x2
            obtain ⟨Ak, ck, hVk, -, -, -, -⟩ := own_row (hK.out.rows.all 1 _ rfl)
            have hVk' : V1 = .slice Ak (keptK p h.l h.ks).length ck := hVk
            subst hVk'
            obtain ⟨At, ct, hVt, -, -, -, -⟩ := own_row (hK.out.rows.all 2 (rT V2 xs) rfl)
            have hVt' : V2 = .slice At q ct := by rw [← hxl]; exact hVt
            subst hVt'
            have HR := Hd hK.out.br
            have HCP := hcp
            clear hVk hVt hcp hxs
            go_wp2_with (refine wpList_store_blk rfl 25 (.tmp 4) (.tmp 89) rfl g2 25 _ #[.slice AS n0 cS, .slice Ak (keptK p h.l h.ks).length ck, .slice At q ct] rfl rfl HR.out rfl (by kernel_rfl) (by kernel_rfl) ?_; intro w9 b9 o9; have HB9 := Hd b9; have HN9 := Hd o9; clear b9 o9)
            have HD : HNew w.heap.size w9 AS Ak At (keptH p h) := fun S w' hS O => by
              have hR := hK.out.rowsR HN9.out
              have h9 := rows_done (hR.only O (fun g hg hm => by
                have h1 := (hR.ge g hg).1
                have h2 := hS g hm
                omega)) HCP.out
              rw [HXE.out] at h9
              exact h9
            have e1 : (keptH p h).ss.length = n0 := HI.out.n0
            have e2 : (keptH p h).l.length = q := by
              have := congrArg List.length HXE.out
              rw [← hxl]
              simpa [keptH] using this.symm
            refine bodyPost_ret (results_row2 Tryz.results27 _ _ g2 25 #[.slice AS n0 cS, .slice Ak (keptK p h.l h.ks).length ck, .slice At q ct] _ rfl HB9.out Tryz.underlying25 rfl (by kernel_rfl)) rfl ?_
            have O9 : Only [] w w9 := hK.out.o.step HN9.out (fun i hi hl => by
              have h1 := hK.out.base
              have h2 := hK.out.d01
              have h3 := hK.out.d12
              simp at hi
              omega)
            refine ⟨AS, Ak, At, cS, ck, ct, ⟨?_, HD⟩, O9⟩
            dsimp only
            rw [e1, e2]
            rfl
theorem hnone_of {w : World} {B n0 n1 n2 : Nat} {A0 A1 A2 : Option Addr} {h : Hst} (hg : HIn w B A0 A1 A2 n0 n1 n2 h) : A0 = none → n0 = 0 := by
 rintro rfl;rcases hg.at_.r0 with h1 | ⟨b, off, h1, _⟩
 ·have := congrArg List.length h1;rw [← hg.n0]
  simpa [strs] using this
 ·cases h1
end Go.Proofs.YtbiclliooidkjaaGreatDoor
