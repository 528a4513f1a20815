/- Parts. -/
import Derived.Test.YtlnlppabeddclaaDoorLaw23AllK17
set_option maxRecDepth 10000
set_option maxHeartbeats 16000000
set_option linter.unusedVariables false
set_option linter.unusedSimpArgs false
namespace Go.Proofs.YtlnlppabeddclaaDoor
open Go.RowKit
attribute [local go_sem ↓] Go.wp_at_zero Go.wp_at_succ
def goodE (n : Nat) (e : Int × Int) : Bool := ndN n e.1 && ndN n e.2
def put3 (n : Nat) (s : List (List Nat) × List (List Nat) × List (Int × Int)) (e : Int × Int) : List (List Nat) × List (List Nat) × List (Int × Int) :=
 (pO n s.1 e.1 e.2, pI n s.1 s.2.1 e.1 e.2, pH n s.1 s.2.2 e.1 e.2)
def ofS (n : Nat) (l : List (Int × Int)) : List (List Nat) × List (List Nat) × List (Int × Int) := l.foldl (put3 n) (List.replicate n noW, List.replicate n noW, [])
theorem ofS_succ (n : Nat) (l : List (Int × Int)) (j : Nat) (e : Int × Int) (h : l[j]? = some e) : ofS n (l.take (j + 1)) = put3 n (ofS n (l.take j)) e := by
 unfold ofS;rw [List.take_add_one, h, List.foldl_append]
 rfl
theorem pH_len (n : Nat) (O : List (List Nat)) (h : List (Int × Int)) (a b : Int) : (pH n O h a b).length ≤ h.length + 1 := by
 unfold pH
 split <;> simp
theorem ofS_len (n : Nat) (l : List (Int × Int)) : (ofS n l).2.2.length ≤ l.length := by
 have : ∀ (l : List (Int × Int)) s, (l.foldl (put3 n) s).2.2.length ≤ s.2.2.length + l.length := by
  intro l
  induction l with
  | nil => intro s; simp
  | cons e l ih =>
   intro s;rw [List.foldl_cons];have := ih (put3 n s e);have h2 := pH_len n s.1 s.2.2 e.1 e.2;simp only [put3, List.length_cons] at this ⊢;omega
 have := this l (List.replicate n noW, List.replicate n noW, [])
 simpa [ofS] using this
theorem gnew_no (n : Int) (w : World) (hn : n < 0 ∨ 500 < n) :
  Calls Tryd.prog 31 #[.int .i64 n] w fun e w' => e = .returned (.tuple #[.pointer none, .int .i64 2]) ∧ w = w' := by
 by_cases h0 : n < 0
 ·clear hn;go_enter Tryd.func31, Tryd.ntmps31;go_wp2
  exact bodyPost_ret (v := .tuple #[.pointer none, .int .i64 2]) (by simp [results, Tryd.results31, go_sem]) rfl ⟨rfl, rfl⟩
 ·have h1 : 0 ≤ n := by omega
  have h2 : 500 < n := by omega
  have hd : decide (n < 0) = false := by simp; omega
  have hd2 : decide (500 < n) = true := by simp; omega
  clear hn h0;go_enter Tryd.func31, Tryd.ntmps31;go_wp2
  exact bodyPost_ret (v := .tuple #[.pointer none, .int .i64 2]) (by simp [results, Tryd.results31, go_sem]) rfl ⟨rfl, rfl⟩
theorem gof_no (n : Int) (A : Option Addr) (m c : Nat) (w : World) (hn : n < 0 ∨ 500 < n) :
  Calls Tryd.prog 19 #[.int .i64 n, .slice A m c] w fun e w' => e = .returned (.tuple #[.pointer none, .int .i64 2]) ∧ w = w' := by
 have HN := Hd (gnew_no n w hn);clear hn;go_enter Tryd.func19, Tryd.ntmps19;go_wp2_with fail
 refine (HN.out).mono ?_;rintro e w1 ⟨rfl, rfl⟩;go_wp2
 exact bodyPost_ret (v := .tuple #[.pointer none, .int .i64 2]) (by simp [results, Tryd.results19, go_sem]) rfl ⟨rfl, rfl⟩
theorem gof_any (n : Nat) (A : Option Addr) (m c : Nat) (l : List (Int × Int)) (w : World) (hn : n ≤ 500) (hr : Row w w.heap.size A (edgeC l)) (hl : l.length = m) (hm : m ≤ 1000) :
    Calls Tryd.prog 19 #[.int .i64 (n : Int), .slice A m c] w fun e w' => Only [] w w' ∧
      ((l.all (goodE n) = false ∧ e = .returned (.tuple #[.pointer none, .int .i64 2])) ∨
       (l.all (goodE n) = true ∧ e = .returned (.tuple #[.pointer (some ⟨w.heap.size, 0, none⟩), .int .i64 0]) ∧ ∃ fp, Gr w' w.heap.size n (ofS n l).1 (ofS n l).2.1 (ofS n l).2.2 fp ∧ ∀ b ∈ fp, w.heap.size ≤ b)) := by
  have HN := Hd (gnew_ok n w hn)
  have HR := Hd hr
  have HL := Hd hl
  clear hr hl
  go_enter Tryd.func19, Tryd.ntmps19
  go_wp2_with fail
  refine (HN.out).mono ?_
  rintro e w1 ⟨rfl, ⟨A1, A2, c1, c2, po, qi, hNG⟩, hO1⟩
  obtain ⟨fp0, hG0, hF0⟩ := Gr.of_new hNG
  have HG0 := Hd hG0
  have HF0 := Hd hF0
  clear hNG hG0 hF0
  go_wp2_with fail
  go_loopw [22] (fun i wr => ∃ j : Nat, i = .int .i64 j ∧ j ≤ m ∧ Only [] w wr ∧ Hid ((l.take j).all (goodE n) = true) ∧ Hid (∃ fp, Gr wr w.heap.size n (ofS n (l.take j)).1 (ofS n (l.take j)).2.1 (ofS n (l.take j)).2.2 fp ∧ ∀ b ∈ fp, w.heap.size ≤ b)) (fun i _ => m - (intOf i).toNat)
  case atStart => exact ⟨0, rfl, by omega, hO1, Hd (by simp), Hd ⟨fp0, HG0.out, HF0.out⟩⟩
  case round =>
    obtain ⟨j, rfl, hj, hO, HALL, HJ⟩ := hrel
    obtain ⟨fp, hG, hF⟩ := HJ.out
    have HG := Hd hG
    have HF := Hd hF
    clear HJ hG hF
    by_cases hlt : j < m
    · obtain ⟨b, off, rfl, hbB, hbw, hcell⟩ := HR.out.open_ (k := j * 2 + 1) (by rw [edgeC_len, HL.out]; omega)
      obtain ⟨e, he⟩ : ∃ e, l[j]? = some e := ⟨_, List.getElem?_eq_getElem (by rw [HL.out]; exact hlt)⟩
      obtain ⟨x, y⟩ := e
      have hee := edgeC_get l j _ he
      have e0 : wr.cell? ⟨b, off + j * 2, none⟩ = some (.int .i64 x) := (hO.cell (p := ⟨b, off + j * 2, none⟩) hbw (by simp)).trans (hcell (j * 2) _ hee.1)
      have e1 : wr.cell? ⟨b, off + j * 2 + 1, none⟩ = some (.int .i64 y) := by
        rw [Nat.add_assoc]
        exact (hO.cell (p := ⟨b, off + (j * 2 + 1), none⟩) hbw (by simp)).trans (hcell (j * 2 + 1) _ hee.2)
      have hlj : ((ofS n (l.take j)).2.2).length ≤ 1000 := by
        have := ofS_len n (l.take j)
        rw [List.length_take] at this
        omega
      have hp := gput_any w.heap.size n _ _ _ fp x y _ (HG.out.only ((Only.refl [] wr).alloc (.cells #[.int .i64 x, .int .i64 y] 47)) (by simp)) (by omega) hn
      have HS := Hd (ofS_succ n l j _ he)
      have HE := Hd he
      clear hcell hee he hlj
      cases hgood : goodE n (x, y) with
      | true =>
        have hpe : pE n x y = 0 := by unfold pE; unfold goodE at hgood; simp only at hgood; rw [hgood]; rfl
        rw [hpe] at hp
        obtain ⟨pb, hpb⟩ : ∃ pb, pb = pB n (ofS n (l.take j)).1 x y := ⟨_, rfl⟩
        rw [← hpb] at hp
        have HP := Hd hp
        clear hp hpe hpb
        go_wp2_with fail
        refine (HP.out).mono ?_
        rintro e w2 ⟨rfl, fp', hG2, hO2, hF2⟩
        have HG2 := Hd hG2
        clear hG2
        go_wp2
        go_roundw
        case rel =>
          have hsz := hO.size
          refine ⟨j + 1, by go_num, by omega, (hO.alloc _).step hO2 (fun i hi hl => by have := HF.out i hi; omega), Hd ?_, Hd ⟨fp', by rw [HS.out]; exact HG2.out, fun b hb => ?_⟩⟩
          · rw [List.take_add_one, HE.out, List.all_append, HALL.out]
            simpa using hgood
          · rcases hF2 b hb with h | h
            · exact HF.out b h
            · rw [World.size_alloc] at h; omega
        case measure => simp [intOf]; omega
      | false =>
        have hpe : pE n x y = 2 := by unfold pE; unfold goodE at hgood; simp only at hgood; rw [hgood]; rfl
        rw [hpe] at hp
        obtain ⟨pb, hpb⟩ : ∃ pb, pb = pB n (ofS n (l.take j)).1 x y := ⟨_, rfl⟩
        rw [← hpb] at hp
        have HP := Hd hp
        clear hp hpe hpb
        go_wp2_with fail
        refine (HP.out).mono ?_
        rintro e w2 ⟨rfl, fp', hG2, hO2, hF2⟩
        have HG2 := Hd hG2
        clear hG2
        go_wp2
        refine bodyPost_ret (v := .tuple #[.pointer none, .int .i64 2]) (by simp [results, Tryd.results19, go_sem]) rfl ⟨(hO.alloc _).step hO2 (fun i hi hl => by have := HF.out i hi; omega), .inl ⟨?_, rfl⟩⟩
        rw [List.all_eq_false]
        exact ⟨_, List.mem_of_getElem? HE.out, by rw [hgood]; simp⟩
    · have hjm : j = m := by omega
      subst hjm
      go_wp2
      have hta : l.take j = l := List.take_of_length_le (by rw [HL.out]; exact Nat.le_refl _)
      have h1 := HALL.out
      have h2 := HG.out
      rw [hta] at h1 h2
      exact bodyPost_ret (v := .tuple #[.pointer (some ⟨w.heap.size, 0, none⟩), .int .i64 0]) (by simp [results, Tryd.results19, go_sem]) rfl ⟨hO, .inr ⟨h1, rfl, fp, h2, HF.out⟩⟩
end Go.Proofs.YtlnlppabeddclaaDoor
