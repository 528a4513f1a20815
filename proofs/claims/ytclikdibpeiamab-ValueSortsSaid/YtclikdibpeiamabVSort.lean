/- slices.SortFunc at values, by value.compare. -/
import Derived.Test.YtclikdibpeiamabValM
import Derived.Test.YtclikdibpeiamabPairs
import Derived.Test.YtclikdibpeiamabShelfS
set_option linter.unusedVariables false
set_option linter.unusedSimpArgs false
namespace Go.Proofs.Ytclikdibpeiamab
open Go.RowKit
open Go.Lib hiding intOf
attribute [local go_sem ↓] Go.wp_at_zero Go.wp_at_succ

@[reducible] def ValT : Type := {a : Int × Int // mayP a = true}
theorem val_0 : mayP (0, 0) = true := by decide
def encT (x : ValT) : List Value := [.int .i64 x.1.1, .int .i64 x.1.2]
def cmpT (x y : ValT) : Int := cmpV x.1 y.1
theorem ltT_eq (x y : ValT) : ltOf cmpT x y = lessV x.1 y.1 := by
  unfold ltOf cmpT cmpV
  cases lessV x.1 y.1 with
  | true => simp
  | false => cases lessV y.1 x.1 <;> simp
theorem ltT_swo : Go.Sort.SWO (ltOf cmpT) where
  irrefl x := by rw [ltT_eq]; exact lessV_irr _
  trans x y z h1 h2 := by
    rw [ltT_eq] at *
    exact lessV_trans h1 h2
  ntrans x y z h1 h2 := by
    rw [ltT_eq] at *
    cases h : lessV x.1 z.1 with
    | false => rfl
    | true =>
      cases h3 : lessV z.1 y.1 with
      | true =>
        have := lessV_trans h h3
        rw [h1] at this
        cases this
      | false =>
        have e := lessV_total y.2 z.2 h2 h3
        rw [e, h] at h1
        cases h1

theorem below_sortWorldK {α : Type} [Inhabited α] (enc : α → List Value) (k : Nat) {B : Nat} {a : World} (w : World) (blk off m : Nat) (dk : Array α) (os : Array Obj) (h : Below B a w) (hB : B ≤ blk) (hs : B ≤ w.heap.size) : Below B a (sortWorldK enc k w blk off m dk os) := by
  have hsz : (w.heap.modify blk (Go.Sort.onCells (Go.Sort.putCells id off (Go.Sort.flatK enc k dk)))).size = w.heap.size := by simp
  refine ⟨h.os, h.tape, h.output, Nat.le_trans h.size ?_, fun j hj => ?_⟩
  · show _ ≤ (w.heap.modify blk (Go.Sort.onCells (Go.Sort.putCells id off (Go.Sort.flatK enc k dk))) ++ os).size
    rw [Array.size_append, hsz]
    omega
  · show (w.heap.modify blk (Go.Sort.onCells (Go.Sort.putCells id off (Go.Sort.flatK enc k dk))) ++ os)[j]? = _
    rw [Array.getElem?_append_left (by rw [hsz]; omega), Array.getElem?_modify, if_neg (by omega)]
    exact h.block j hj

theorem flat_get {α : Type} [Inhabited α] (enc : α → List Value) (d : Array α) (hk : ∀ x, (enc x).length = 2) (t : Nat) (h : t < d.size * 2) : (Go.Sort.flatK enc 2 d)[t]! = (enc d[t / 2]!)[t % 2]! := Go.Sort.get_flatK enc 2 d t h

set_option maxHeartbeats 1000000 in
theorem vsortf_own (w0 w : World) (g cap n : Nat) (cur : Array Value) (fair : List (Int × Int)) (hl : fair.length = n) (hnm : ∀ b ∈ fair, mayP b = true) (hN : n ≤ 1000) (hb : Blk w g 24 cur) (ht : cur.toList.take (n * 2) = edgeC fair) (hg : w0.heap.size ≤ g) (h0 : Below w0.heap.size w0 w) :
    Calls Try.prog 14 #[.slice (some ⟨g, 0, none⟩) n cap, .func (.func 15) #[] #[]] w fun e w' => e = .returned (.tuple #[]) ∧ Below w0.heap.size w0 w' ∧ g < w'.heap.size ∧
      ∃ bs : List (Int × Int), bs.length = n ∧ bs.Perm fair ∧ bs.Pairwise (fun a b => lessV b a = false) ∧ ∀ j, j < n → w'.cell? ⟨g, j * 2, none⟩ = some (.int .i64 (bs.getD j (0, 0)).1) ∧ w'.cell? ⟨g, j * 2 + 1, none⟩ = some (.int .i64 (bs.getD j (0, 0)).2) ∧ w'.frozen? ⟨g, j * 2, none⟩ = false ∧ w'.frozen? ⟨g, j * 2 + 1, none⟩ = false := by
  letI : Inhabited ValT := ⟨⟨(0, 0), val_0⟩⟩
  obtain ⟨dl, hdl⟩ : ∃ dl : List ValT, dl.map (fun x : ValT => x.1) = fair := by
    refine ⟨fair.attach.map fun x => (⟨x.1, hnm x.1 x.2⟩ : ValT), ?_⟩
    rw [List.map_map]
    exact List.attach_map_subtype_val fair
  have hdn : dl.length = n := by rw [← hl, ← hdl, List.length_map]
  have hk2 : ∀ x : ValT, (encT x).length = 2 := fun _ => rfl
  have hget : ∀ j, j < n → ∀ e : List ValT, e.length = n → encT (e.toArray[j]!) = [.int .i64 ((e.map fun x : ValT => x.1).getD j (0, 0)).1, .int .i64 ((e.map fun x : ValT => x.1).getD j (0, 0)).2] := by
    intro j hj e he
    rw [getElem!_pos e.toArray j (by simpa [he] using hj), List.getD_eq_getElem?_getD, List.getElem?_map, List.getElem?_eq_getElem (by omega)]
    rfl
  have hH : Go.Sort.HoldsK encT 2 w g 0 dl.toArray := by
    intro t ht2
    have ht3 : t < n * 2 := by simpa [hdn] using ht2
    refine ⟨?_, hb.free _⟩
    have hj : t / 2 < n := by omega
    have hfj : fair[t / 2]? = some (fair.getD (t / 2) (0, 0)) := by
      rw [List.getD_eq_getElem?_getD, List.getElem?_eq_getElem (by omega)]
      rfl
    have hE := edgeC_get fair (t / 2) _ hfj
    rw [← ht, List.getElem?_take, List.getElem?_take, if_pos (by omega), if_pos (by omega), Array.getElem?_toList, Array.getElem?_toList] at hE
    show w.cell? ⟨g, 0 + t, none⟩ = some ((Go.Sort.flatK encT 2 dl.toArray)[t]!)
    rw [Go.Sort.get_flatK _ _ _ _ (by simpa [hdn] using ht3), hget (t / 2) hj dl hdn, hdl, hb.at_, Nat.zero_add]
    rcases Nat.mod_two_eq_zero_or_one t with h2 | h2
    · rw [h2]
      have e : t / 2 * 2 = t := by omega
      rw [e] at hE
      exact hE.1
    · rw [h2]
      have e : t / 2 * 2 + 1 = t := by omega
      rw [e] at hE
      exact hE.2
  have hlt := hb.lt
  have hws : w0.heap.size ≤ w.heap.size := by omega
  have hcmp : CmpLays Try.prog 15 #[] encT 2 cmpT g 0 dl.toArray.size w := by
    intro m os dk hdk x y
    have h := vcompare_ex x.1 y.1 (sortWorldK encT 2 w g 0 m dk os)
    have e : (#[.agg (encT x).toArray, .agg (encT y).toArray] ++ #[] : Array Value) = #[.agg #[.int .i64 x.1.1, .int .i64 x.1.2], .agg #[.int .i64 y.1.1, .int .i64 y.1.2]] := by simp [encT]
    rw [e]
    exact h.mono fun e w' ⟨he, hx⟩ => ⟨he, hx.grown⟩
  have h := AnyQ.slices_SortFunc Try.laysSort 2 (fun _ => by kernel_rfl) (fun _ => by kernel_rfl) encT hk2 (fun x v hv => by simp [encT] at hv; rcases hv with rfl | rfl <;> rfl) cmpT ltT_swo 15 #[] g 0 cap dl.toArray w (enters_of Try.func15 (by kernel_rfl) rfl) hcmp hH hlt (by simp [hdn]; omega)
  have hsz : dl.toArray.size = n := by simp [hdn]
  rw [hsz] at h
  refine Calls.mono h ?_
  rintro e w' ⟨rfl, d', q, os, ⟨hp1, -, hp2⟩, hso, rfl⟩
  obtain ⟨ms⟩ := d'
  have hmn : ms.length = n := by simpa [hdn] using hp1
  have hx1 : (dl.toArray.extract 0 n).toList = dl := by simp [← hdn]
  have hx2 : ((Array.mk ms).extract 0 n).toList = ms := by simp [← hmn]
  rw [hx1, hx2] at hp2
  refine ⟨rfl, ?_, ?_, ms.map (fun x : ValT => x.1), by rw [List.length_map, hmn], ?_, ?_, ?_⟩
  · exact below_sortWorldK encT 2 w g 0 q _ os h0 hg hws
  · exact Nat.lt_of_lt_of_le hlt (size_sortWorldK_c encT 2 w g 0 q _ os)
  · rw [← hdl]
    exact hp2.map _
  · rw [List.pairwise_map, List.pairwise_iff_getElem]
    intro i j hi hj hij
    have h2 := hso i j (Nat.zero_le _) hij (by omega)
    rw [ltT_eq, getElem!_pos (Array.mk ms) i (by simpa using hi), getElem!_pos (Array.mk ms) j (by simpa using hj)] at h2
    exact h2
  · intro j hj
    have hdk : (ms.toArray).size = dl.toArray.size := by simp [hmn, hdn]
    have hh : Go.Sort.HoldsK encT 2 (sortWorldK encT 2 w g 0 q ms.toArray os) g 0 ms.toArray := holdsK_sortWorldK_c encT 2 w g 0 dl.toArray ms.toArray q os hH hlt hdk
    have h2 := hh.cell (i := j) (c := 0) (by simpa [hmn] using hj) (by omega)
    have h3 := hh.cell (i := j) (c := 1) (by simpa [hmn] using hj) (by omega)
    rw [hget j hj ms hmn, Nat.zero_add] at h2 h3
    exact ⟨h2.1, h3.1, h2.2, h3.2⟩

end Go.Proofs.Ytclikdibpeiamab
