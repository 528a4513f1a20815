/- Parts. -/
import Derived.Test.YtlemjgjpglmphaaDoorPartOfCardK38
import Derived.Test.YtlemjgjpglmphaaDoorPartOfCardK39
set_option maxRecDepth 10000
set_option maxHeartbeats 16000000
set_option linter.unusedVariables false
set_option linter.unusedSimpArgs false
namespace Go.Proofs.YtlemjgjpglmphaaDoor
open Go.RowKit
attribute [local go_sem ↓] Go.wp_at_zero Go.wp_at_succ
def natsL (L : List Int) : List Nat := L.map Int.toNat
theorem intsN_nats {L : List Int} (h : ∀ z ∈ L, 0 ≤ z) : intsN (natsL L) = L.map (Value.int .i64) := by
 unfold intsN natsL;rw [List.map_map];refine List.map_congr_left fun z hz => ?_;have := h z hz
 show Value.int .i64 ((z.toNat : Nat) : Int) = _
 rw [Int.toNat_of_nonneg this]
theorem mem_nats {L : List Int} (h : ∀ z ∈ L, 0 ≤ z) (m : Nat) : m ∈ natsL L ↔ (m : Int) ∈ L := by
 unfold natsL;rw [List.mem_map]
 constructor
 ·rintro ⟨z, hz, rfl⟩
  rwa [Int.toNat_of_nonneg (h z hz)]
 ·exact fun hm => ⟨(m : Int), hm, by simp⟩
theorem parts_gr (n p : Nat) (l : List (Int × Int)) (fp : List Nat) (w : World) (hn : n ≤ 500) (hg : Gr w p n (ofS n l).1 (ofS n l).2.1 (ofS n l).2.2 fp) (hgd : l.all (goodE n) = true) (hT : Tab w) (h00 : 0 < w.heap.size) :
  Calls Tryd.prog 17 #[.pointer (some ⟨p, 0, none⟩)] w fun e w' => ∃ (qs : List LP) (A : Option Addr) (c : Nat), (e = .returned (.slice A qs.length c) ∧ w'.ownsRow w.heap.size 29 1 (.slice A qs.length c) qs.length (qs.map LP.v) ∧ (∀ x ∈ qs, x.Ok w' w.heap.size) ∧ qs.map LP.L = partsL n l) ∧ Only [] w w' := by
 have wf := wf_good hgd;have hs : ∀ e, e ∈ (ofS n l).2.2 ↔ e ∈ l := fun e => by rw [(rel_of hn l).2]; exact mem_rof hgd e
 have hT' : ∀ w', Only [] w w' → Tab w' ∧ 0 < w'.heap.size := fun w' O => ⟨hT.only h00 O (by simp), Nat.lt_of_lt_of_le h00 O.size⟩;refine parts_any n p l (fun i => natsL (nextL n (ofS n l).2.2 (i : Int))) (fun i => natsL (backL n (ofS n l).2.2 (i : Int))) w hn wf ?_ ?_ ?_ ?_ ?_ ?_ ?_ ?_ ?_
 ·intro i hi z hz;rw [mem_nats (fun z hz => (nextL_range z hz).1)] at hz;have := (nextL_range _ hz).2;omega
 ·intro i hi;unfold natsL;rw [List.length_map];exact nextL_len _ _ _
 ·intro i hi m;rw [mem_nats (fun z hz => (nextL_range z hz).1), ← ed_iff, ← next_ed wf hs, decide_eq_true_iff]
 ·intro i hi z hz;rw [mem_nats (fun z hz => (backL_range z hz).1)] at hz;have := (backL_range _ hz).2;omega
 ·intro i hi;unfold natsL;rw [List.length_map];exact backL_len _ _ _
 ·intro i hi m;rw [mem_nats (fun z hz => (backL_range z hz).1), ← ed_iff, ← back_ed wf hs, decide_eq_true_iff]
 ·intro w' O;obtain ⟨A1, A2, A3, c1, c2, c3, po, qi, g⟩ := hg.only O (by simp);have h0 := g.blk.at_ 0;have h1 := g.blk.at_ 1;simp at h0 h1;exact glen_yes p A1 n c1 w' h0 h1
 ·intro i w' hi O;have := gnext_some p n (ofS n l).1 (ofS n l).2.1 (ofS n l).2.2 fp i w' (hg.only O (by simp)) hi (hT' w' O).1 (hT' w' O).2;rw [rel_next (rel_of hn l).1 hn i hi] at this;have e : (natsL (nextL n (ofS n l).2.2 (i : Int))).length = (nextL n (ofS n l).2.2 (i : Int)).length := by simp [natsL]
  rw [e, intsN_nats (fun z hz => (nextL_range z hz).1)];exact this
 ·intro i w' hi O;have := gback_some p n (ofS n l).1 (ofS n l).2.1 (ofS n l).2.2 fp i w' (hg.only O (by simp)) hi (hT' w' O).1 (hT' w' O).2;rw [rel_back (rel_of hn l).1 hn i hi] at this;have e : (natsL (backL n (ofS n l).2.2 (i : Int))).length = (backL n (ofS n l).2.2 (i : Int)).length := by simp [natsL]
  rw [e, intsN_nats (fun z hz => (backL_range z hz).1)];exact this
def partR (n : Int) (l : List (Int × Int)) : List (List Int) × Int := if mayL n l = true then (partsL n.toNat l, 0) else ([], 2)
theorem pof_any (n : Int) (A : Option Addr) (m c : Nat) (l : List (Int × Int)) (w : World) (hr : Row w w.heap.size A (edgeC l)) (hl : l.length = m) (hm : m ≤ 1000) (hT : Tab w) (h00 : 0 < w.heap.size) :
  Calls Tryd.prog 8 #[.int .i64 n, .slice A m c] w fun e w' => ∃ (qs : List LP) (A' : Option Addr) (c' : Nat), (e = .returned (.tuple #[.slice A' qs.length c', .int .i64 (partR n l).2]) ∧ w'.ownsRow w.heap.size 29 1 (.slice A' qs.length c') qs.length (qs.map LP.v) ∧ (∀ x ∈ qs, x.Ok w' w.heap.size) ∧ qs.map LP.L = (partR n l).1) ∧ Only [] w w' := by
 have bad : mayL n l = false → partR n l = ([], 2) := fun h => by unfold partR; rw [h]; rfl
 by_cases hn : n < 0 ∨ 500 < n
 ·have hb : mayL n l = false := by unfold mayL; rw [decide_eq_false (by omega)]; rfl
  rw [bad hb];have HG := Hd (gof_no n A m c w hn);clear bad hb hr hn;go_enter Tryd.func8, Tryd.ntmps8;go_wp2_with fail
  refine (HG.out).mono ?_;rintro e w1 ⟨rfl, rfl⟩;go_wp2
  exact bodyPost_ret (v := .tuple #[.slice none 0 0, .int .i64 2]) (by simp [results, Tryd.results8, go_sem]) rfl ⟨[], none, 0, ⟨rfl, World.ownsRow_nil _ _ _ _, by simp, rfl⟩, Only.refl [] _⟩
 ·obtain ⟨q, rfl⟩ : ∃ q : Nat, n = q := ⟨n.toNat, by omega⟩;have hq : q ≤ 500 := by omega
  have HG := Hd (gof_any q A m c l w hq hr hl hm);have HT := Hd hT;have hmy : mayL (q : Int) l = l.all (goodE q) := by unfold mayL; rw [decide_eq_true (by omega), Bool.true_and, Int.toNat_natCast]
  clear hr hn hT hl
  cases hgd : l.all (goodE q) with
  | false =>
   rw [bad (by rw [hmy]; exact hgd)];have HGD := Hd hgd;clear hgd hmy bad;go_enter Tryd.func8, Tryd.ntmps8;go_wp2_with fail
   refine (HG.out).mono ?_;rintro e w1 ⟨O1, ⟨-, rfl⟩ | ⟨hgd, -, -⟩⟩
   ·have HO1 := Hd O1;clear HG O1;go_wp2
    exact bodyPost_ret (v := .tuple #[.slice none 0 0, .int .i64 2]) (by simp [results, Tryd.results8, go_sem]) rfl ⟨[], none, 0, ⟨rfl, World.ownsRow_nil _ _ _ _, by simp, rfl⟩, HO1.out⟩
   ·rw [HGD.out] at hgd
    cases hgd
  | true =>
   have hres : partR (q : Int) l = (partsL q l, 0) := by unfold partR; rw [hmy, hgd, if_pos rfl, Int.toNat_natCast]
   rw [hres];dsimp only;have HGD := Hd hgd;clear hres hgd hmy bad;go_enter Tryd.func8, Tryd.ntmps8;go_wp2_with fail
   refine (HG.out).mono ?_;rintro e w1 ⟨O1, ⟨hgd, -⟩ | ⟨-, rfl, fp, hGr, hfp⟩⟩
   ·rw [HGD.out] at hgd
    cases hgd
   have HO1 := Hd O1;have HP := Hd (parts_gr q w.heap.size l fp w1 hq hGr HGD.out (HT.out.only h00 O1 (by simp)) (Nat.lt_of_lt_of_le h00 O1.size));have hs1 := O1.size;clear HG hGr hfp O1 HGD HT;go_wp2_with fail
   refine (HP.out).mono ?_;rintro e w2 ⟨qs, A', c', ⟨rfl, h1, h2, h3⟩, O2⟩;have H1 := Hd (own_lower h1 hs1);have H2 := Hd (fun (x : LP) (hx : x ∈ qs) => (⟨own_lower (h2 x hx).1 hs1, (h2 x hx).2.1, (h2 x hx).2.2⟩ : x.Ok w2 w.heap.size));have H3 := Hd h3;have HO2 := Hd (HO1.out.trans O2);clear h1 h2 h3 O2 HP;go_wp2
   exact bodyPost_ret (v := .tuple #[.slice A' qs.length c', .int .i64 0]) (by simp [results, Tryd.results8, go_sem]) rfl ⟨qs, A', c', ⟨rfl, H1.out, H2.out, H3.out⟩, HO2.out⟩
end Go.Proofs.YtlemjgjpglmphaaDoor
