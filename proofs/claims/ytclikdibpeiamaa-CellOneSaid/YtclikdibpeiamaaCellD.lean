/- Cells of what they hold; the example of layer 4; the law CellOf. -/
import Derived.Test.YtclikdibpeiamaaCellC
set_option linter.unusedVariables false
set_option linter.unusedSimpArgs false
namespace Go.Proofs.Ytclikdibpeiamaa
open Go.RowKit

theorem made1 (w : World) (t : TypeId) (v : Value) : Blk (w.alloc (.cells #[v] t)) w.heap.size t #[v] := Blk.made _ _ _

set_option maxHeartbeats 800000 in
theorem made_any (t n : Int) (w : World) : Calls Try.prog 10 #[.agg #[.int .i64 t, .int .i64 n]] w fun e w' => e = .returned (.agg #[ifc t n]) ∧ Only [] w w' := by
  by_cases h0 : t = 0
  · subst h0
    rw [show ifc 0 n = .nilIface from rfl]
    go_enter Try.func10, Try.ntmps10
    go_wp2
    exact bodyPost_ret (v := .agg #[.nilIface]) (by simp [results, Try.results10, go_sem]) rfl ⟨rfl, ((Only.refl _ _).alloc _).alloc _⟩
  · have hfar : ∀ (w1 : World) (O1 : Only [] ((w.alloc (.cells #[.int .i64 t, .int .i64 n] 23)).alloc (.cells #[.nilIface] 30)) w1), Hid (Only [] w w1) ∧ w1.cell? ⟨w.heap.size + 1, 0, none⟩ = some .nilIface ∧ w1.frozen? ⟨w.heap.size + 1, 0, none⟩ = false ∧ w.heap.size + 1 < w1.heap.size := fun w1 O1 => by
      have b1 := O1.blk (made1 (w.alloc (.cells #[.int .i64 t, .int .i64 n] 23)) 30 .nilIface) (by simp)
      have c1 := b1.at_ 0
      have l1 := b1.lt
      have f1 := b1.free 0
      simp at c1 f1 l1
      exact ⟨(((Only.refl [] w).alloc _).alloc _).trans O1, c1, f1, l1⟩
    have HF := Lib.hid hfar
    clear hfar
    by_cases h1 : t = 1
    · subst h1
      clear h0
      go_enter Try.func10, Try.ntmps10
      go_wp2_with fail
      refine (Of_any 1 n _).mono ?_
      rintro e w1 ⟨rfl, O1⟩
      rw [show ifc (oT 1) n = ifc 1 n from rfl]
      obtain ⟨HO, c1, f1, l1⟩ := HF.out _ O1
      clear O1 HF
      rw [show ifc 1 n = .iface 2 (.int .i64 n) from rfl]
      go_wp2
      exact bodyPost_ret (v := .agg #[.iface 2 (.int .i64 n)]) (by simp [results, Try.results10, go_sem, c1]) rfl ⟨rfl, HO.out.put (by simp) _⟩
    · by_cases h2 : t = 2
      · subst h2
        clear h0 h1
        go_enter Try.func10, Try.ntmps10
        go_wp2_with fail
        refine (Of_any 2 0 _).mono ?_
        rintro e w1 ⟨rfl, O1⟩
        rw [show ifc (oT 2) 0 = ifc 2 n from rfl]
        obtain ⟨HO, c1, f1, l1⟩ := HF.out _ O1
        clear O1 HF
        rw [show ifc 2 n = .iface 56 (.agg #[]) from rfl]
        go_wp2
        exact bodyPost_ret (v := .agg #[.iface 56 (.agg #[])]) (by simp [results, Try.results10, go_sem, c1]) rfl ⟨rfl, HO.out.put (by simp) _⟩
      · by_cases h3 : t = 3
        · subst h3
          clear h0 h1 h2
          go_enter Try.func10, Try.ntmps10
          go_wp2_with fail
          refine (OfInt_any n _).mono ?_
          rintro e w1 ⟨rfl, O1⟩
          obtain ⟨HO, c1, f1, l1⟩ := HF.out _ O1
          clear O1 HF
          rw [show ifc 3 n = .iface 3 (.int .i64 n) from rfl]
          go_wp2
          exact bodyPost_ret (v := .agg #[.iface 3 (.int .i64 n)]) (by simp [results, Try.results10, go_sem, c1]) rfl ⟨rfl, HO.out.put (by simp) _⟩
        · have h0' : (t == 0) = false := by simp [h0]
          have h1' : (t == 1) = false := by simp [h1]
          have h2' : (t == 2) = false := by simp [h2]
          have h3' : (t == 3) = false := by simp [h3]
          have hv : ifc t n = .iface 9 (.string ⟨#[120]⟩) := by unfold ifc; rw [if_neg h0, if_neg h1, if_neg h2, if_neg h3]
          rw [hv]
          clear h0 h1 h2 h3 hv
          go_enter Try.func10, Try.ntmps10
          go_wp2_with fail
          refine (OfText_any _ _).mono ?_
          rintro e w1 ⟨rfl, O1⟩
          obtain ⟨HO, c1, f1, l1⟩ := HF.out _ O1
          clear O1 HF
          go_wp2
          exact bodyPost_ret (v := .agg #[.iface 9 (.string ⟨#[120]⟩)]) (by simp [results, Try.results10, go_sem, c1]) rfl ⟨rfl, HO.out.put (by simp) _⟩

set_option maxHeartbeats 800000 in
theorem cworks_any (w : World) : Calls Try.prog 15 #[] w fun e w' => e = .returned (.bool true) ∧ Only [] w w' := by
  go_enter Try.func15, Try.ntmps15
  go_wp2_with fail
  refine (OfInt_any 5 _).mono ?_
  rintro e w1 ⟨rfl, O1⟩
  go_wp2_with fail
  refine (Int_any 3 5 _).mono ?_
  rintro e w2 ⟨rfl, O2⟩
  rw [show nN 3 5 = 5 from rfl, show nE 3 = 0 from rfl]
  go_wp2_with fail
  refine (OfInt_any 5 _).mono ?_
  rintro e w3 ⟨rfl, O3⟩
  go_wp2_with fail
  refine (Back_any 3 5 _).mono ?_
  rintro e w4 ⟨rfl, O4⟩
  rw [show bK 3 = 0 from rfl, show bN 3 5 = 0 from rfl, show bE 3 = 15 from rfl]
  go_wp2_with fail
  refine (Of_any 1 7 _).mono ?_
  rintro e w5 ⟨rfl, O5⟩
  rw [show ifc (oT 1) 7 = ifc 1 7 from rfl]
  go_wp2_with fail
  refine (Back_any 1 7 _).mono ?_
  rintro e w6 ⟨rfl, O6⟩
  rw [show bK 1 = 1 from rfl, show bN 1 7 = 7 from rfl, show bE 1 = 0 from rfl]
  have HO := Lib.hid (O1.trans (O2.trans (O3.trans (O4.trans (((Only.refl [] w4).alloc _).trans (O5.trans O6))))))
  clear O1 O2 O3 O4 O5 O6
  go_wp2
  go_ret
  exact ⟨rfl, HO.out.alloc _⟩

theorem of_words (k n : Int) : bK (oT k) = cK k ∧ bN (oT k) n = cN k n ∧ bE (oT k) = 0 := by
  unfold oT bK cK bN cN bE
  by_cases h1 : k = 1
  · simp [h1]
  · by_cases h2 : k = 2 <;> simp [h1, h2]

set_option maxHeartbeats 800000 in
theorem cellOf_walk (k n : Int) (w : World) : Calls Try.prog 4 #[.agg #[.int .i64 k, .int .i64 n]] w fun e w' => e = .returned (.bool true) ∧ Only [] w w' := by
  have hof := fun w => Of_any k n w
  have hb := fun w => Back_any (oT k) n w
  have e1 : bK (oT k) = cK k := (of_words k n).1
  have e2 : bN (oT k) n = cN k n := (of_words k n).2.1
  have e3 : bE (oT k) = 0 := (of_words k n).2.2
  have hcl := fun w => Clean_any k n w
  rw [e1, e2, e3] at hb
  generalize ifc (oT k) n = v at *
  generalize cK k = k' at *
  generalize cN k n = n' at *
  have HOF := Lib.hid hof
  have HB := Lib.hid hb
  have HCL := Lib.hid hcl
  clear hof hb hcl e1 e2 e3
  go_enter Try.func4, Try.ntmps4
  go_wp2_with fail
  refine (HOF.out _).mono ?_
  rintro e w1 ⟨rfl, O1⟩
  go_wp2_with fail
  refine (HB.out _).mono ?_
  rintro e w2 ⟨rfl, O2⟩
  have OA := O1.trans O2
  have bA := OA.blk (made2 w 25 k n) (by simp)
  have HO := Lib.hid (((Only.refl [] w).alloc _).trans OA)
  have lA := bA.lt
  have c0 := bA.at_ 0
  have c1 := bA.at_ 1
  simp at c0 c1
  clear bA OA O1 O2
  go_wp2_with fail
  go_region_held3 (fun w' => w'.cell? ⟨w2.heap.size, 0, none⟩ = some (.int .i64 k') ∧ w'.cell? ⟨w2.heap.size, 1, none⟩ = some (.int .i64 n') ∧ w'.cell? ⟨w.heap.size, 0, none⟩ = some (.int .i64 k) ∧ w'.cell? ⟨w.heap.size, 1, none⟩ = some (.int .i64 n))
    (first
      | go_keep
      | (go_split_ands
         refine ⟨?_, ?_, ?_, ?_⟩
         · (first | (rw [OY.cell (by first | (simp; done) | (simp; omega)) (by simp)]; assumption) | (rw [OX.cell (by first | (simp; done) | (simp; omega)) (by simp)]; assumption))
         · (first | (rw [OY.cell (by first | (simp; done) | (simp; omega)) (by simp)]; assumption) | (rw [OX.cell (by first | (simp; done) | (simp; omega)) (by simp)]; assumption))
         · (first | (rw [OY.cell (by first | (simp; done) | (simp; omega)) (by simp)]; assumption) | (rw [OX.cell (by first | (simp; done) | (simp; omega)) (by simp)]; assumption))
         · (first | (rw [OY.cell (by first | (simp; done) | (simp; omega)) (by simp)]; assumption) | (rw [OX.cell (by first | (simp; done) | (simp; omega)) (by simp)]; assumption))))
    (first
      | (go_at_call 17; refine (HCL.out _).mono ?_; rintro e wX ⟨rfl, OX⟩; have lX : w2.heap.size + 1 ≤ wX.heap.size := by (have := OX.size; simpa using this))
      | (go_at_call 15; refine (cworks_any _).mono ?_; rintro e wY ⟨rfl, OY⟩))
  go_wp2
  go_ret
  exact ⟨rfl, (((HO.out.alloc _).drew.trans OX).trans OY)⟩

end Go.Proofs.Ytclikdibpeiamaa
