/- FuelMore: of two stores, the second with the greater limit: what goes with the first goes with the second; what is left and what was used are the limit. -/
import Derived.Test.YtggpbgbnefgebabFuelNone
import Derived.Test.YtggpbgbnefgebabRow
namespace Go.Proofs.Ytggpbgbnefgebab
open Go.RowKit

/-- While the first store is not spent the second is not, and as much was used of both. -/
def Same2 (u1 : Int) (s1 : Bool) (u2 : Int) (s2 : Bool) : Prop := s1 = false → s2 = false ∧ u1 = u2

theorem same2_take {lim more u1 u2 n : Int} {s1 s2 : Bool} (h : Same2 u1 s1 u2 s2) (hm : 0 ≤ more) (hn : 0 ≤ n) :
    Same2 (tkU lim u1 s1 n) (tkS lim u1 s1 n) (tkU (lim + more) u2 s2 n) (tkS (lim + more) u2 s2 n) ∧ (tkE lim u1 s1 n = 0 → tkE (lim + more) u2 s2 n = 0) := by
  have hn' : ¬ n < 0 := by omega
  unfold Same2 at *
  simp only [tkU, tkS, tkE, if_neg hn']
  cases s1 with
  | true => simp
  | false =>
    obtain ⟨rfl, rfl⟩ := h rfl
    by_cases hg : lim - u1 < n
    · simp [hg]
    · have hg' : ¬ lim + more - u1 < n := by omega
      simp [hg, hg']

set_option maxHeartbeats 1000000 in
theorem fuelMore_walk (lim more : Int) (A : Option Addr) (n c : Nat) (zs : List Int) (w : World) (h1 : 0 ≤ lim) (h2 : lim ≤ 65535) (h3 : 0 ≤ more) (h4 : more ≤ 65535)
    (hnc : n ≤ c) (hc : c ≤ maxLen) (hz : zs.length = n) (hwf : ∀ z ∈ zs, 0 ≤ z ∧ z ≤ 255) (hr : Row w w.heap.size A (zs.map (Value.int .u8))) :
    Calls Try.prog 7 #[.int .u16 lim, .int .u16 more, .slice A n c] w fun e w' => e = .returned (.bool true) ∧ Only [] w w' := by
  unfold maxLen at hc
  have HW := Lib.hid hwf
  have HR := Lib.hid hr
  have HZ := Lib.hid hz
  clear hwf hr hz
  go_enter Try.func7, Try.ntmps7
  go_wp2_with fail
  refine (new_ok lim _ (by omega)).mono ?_
  rintro e w1 ⟨rfl, rfl⟩
  go_wp2_with fail
  refine (new_ok (lim + more) _ (by omega)).mono ?_
  rintro e w2 ⟨rfl, rfl⟩
  have F0 : Fl (w.alloc (.cells #[.bool true, .int .i64 lim, .int .i64 0, .bool false] 61)) w.heap.size lim 0 false := Blk.made _ _ _
  have F1 := Blk.alloc F0 (.cells #[.bool true, .int .i64 (lim + more), .int .i64 0, .bool false] 61)
  have G1 : Fl ((w.alloc (.cells #[.bool true, .int .i64 lim, .int .i64 0, .bool false] 61)).alloc (.cells #[.bool true, .int .i64 (lim + more), .int .i64 0, .bool false] 61)) (w.heap.size + 1) (lim + more) 0 false := by
    have := Blk.made (w.alloc (.cells #[.bool true, .int .i64 lim, .int .i64 0, .bool false] 61)) 61 #[.bool true, .int .i64 (lim + more), .int .i64 0, .bool false]
    simpa [Fl] using this
  have O1 : Only [] w ((w.alloc (.cells #[.bool true, .int .i64 lim, .int .i64 0, .bool false] 61)).alloc (.cells #[.bool true, .int .i64 (lim + more), .int .i64 0, .bool false] 61)) := ((Only.refl _ _).alloc _).alloc _
  go_wp2_with fail
  generalize ((w.alloc (.cells #[.bool true, .int .i64 lim, .int .i64 0, .bool false] 61)).alloc (.cells #[.bool true, .int .i64 (lim + more), .int .i64 0, .bool false] 61)) = wa at *
  change Fl wa w.heap.size lim 0 false at F1
  clear F0
  refine (works_any _).mono ?_
  rintro e wb ⟨rfl, O2⟩
  have F2 : Fl wb w.heap.size lim 0 false := O2.blk F1 (by simp)
  have G2 : Fl wb (w.heap.size + 1) (lim + more) 0 false := O2.blk G1 (by simp)
  have O3 := O1.trans O2
  clear F1 G1 O1 O2
  go_wp2_with fail
  go_loopw [11, 12, 13] (fun i a b wr => ∃ (k : Nat) (u1 u2 : Int) (s1 s2 : Bool), i = .int .i64 k ∧ k ≤ n ∧ 0 ≤ u1 ∧ u1 ≤ lim ∧ 0 ≤ u2 ∧ u2 ≤ lim + more ∧ Same2 u1 s1 u2 s2 ∧ Fl wr w.heap.size lim u1 s1 ∧ Fl wr (w.heap.size + 1) (lim + more) u2 s2 ∧ Only [] w wr)
    (fun i _ _ _ => n - (intOf i).toNat)
  case atStart => exact ⟨0, 0, 0, false, false, rfl, by omega, by omega, by omega, by omega, by omega, fun _ => ⟨rfl, rfl⟩, F2, G2, O3⟩
  case round =>
    obtain ⟨k, u1, u2, s1, s2, rfl, hk, hu1, hl1, hu2, hl2, hsame, F, G, O⟩ := hrel
    have hz := HZ.out
    by_cases hgo : k < n ∧ k < 60
    · obtain ⟨hlt, h60⟩ := hgo
      obtain ⟨b, off, rfl, hbB, hbw, hcell⟩ := HR.out.open_ (k := k) (by simpa using (by omega : k < zs.length))
      obtain ⟨z, hzk⟩ : ∃ z, zs[k]? = some z := ⟨_, List.getElem?_eq_getElem (by omega)⟩
      obtain ⟨hzb0, hzb1⟩ := HW.out z (List.mem_of_getElem? hzk)
      have hwz : IntKind.i64.wrap z = z := IntWalk.i64_in _ (by omega)
      have hc0 : w.cell? ⟨b, off + k, none⟩ = some (.int .u8 z) := hcell k _ (by simp [hzk])
      have hc1 : wr.cell? ⟨b, off + k, none⟩ = some (.int .u8 z) := by rw [O.cell (p := ⟨b, off + k, none⟩) hbw (by simp)]; exact hc0
      have hc2 := Lib.hid hc0
      have HZK := Lib.hid hzk
      have hbr : b < wr.heap.size := Nat.lt_of_lt_of_le hbw O.size
      clear hc0 hcell hzk hz
      have hk0 : (0 : Int) ≤ (k : Int) := Int.natCast_nonneg _
      have hk1 : (k : Int) < (n : Int) := by omega
      have hS := Lib.hid (same2_take (lim := lim) (n := z) hsame h3 (by omega))
      have hT := Lib.hid (tkU_bd lim u1 s1 z hu1 hl1)
      have hT' := Lib.hid (tkU_bd (lim + more) u2 s2 z hu2 hl2)
      go_wp2_with fail
      go_region_held3 (fun w' => w'.cell? ⟨b, off + k, none⟩ = some (.int .u8 z))
        (first | go_keep | (rw [OB.cell (p := ⟨b, off + k, none⟩) (Nat.lt_of_lt_of_le hbr (OA.size)) (by simp; omega)]; assumption) | (rw [OA.cell (p := ⟨b, off + k, none⟩) hbr (by simp; omega)]; assumption))
        (first
          | (go_at_call_of 27 (Value.pointer (some ⟨w.heap.size, 0, none⟩)); refine (take_any w.heap.size z lim u1 s1 _ F.drew hu1 hl1 (by omega)).mono ?_; rintro e wA ⟨rfl, FA, OA⟩)
          | (go_at_call 27; refine (take_any (w.heap.size + 1) z (lim + more) u2 s2 _ (OA.blk G.drew (by simp)) hu2 hl2 (by omega)).mono ?_; rintro e wB ⟨rfl, GB, OB⟩))
      have OC : Only [] w wB := by
        have hs : ∀ i ∈ [w.heap.size], i < w.heap.size → i ∈ ([] : List Nat) := fun i hi hl => by simp at hi; omega
        have hs' : ∀ i ∈ [w.heap.size + 1], i < w.heap.size → i ∈ ([] : List Nat) := fun i hi hl => by simp at hi; omega
        exact (O.drew.step OA hs).step OB hs'
      have FB : Fl wB w.heap.size lim (tkU lim u1 s1 z) (tkS lim u1 s1 z) := OB.blk FA (by simp)
      obtain ⟨hT1, hT2⟩ := hT.out
      obtain ⟨hT3, hT4⟩ := hT'.out
      obtain ⟨hS1, hS2⟩ := hS.out
      have HS1 := Lib.hid hS1
      have HE : (tkE lim u1 s1 z == 0) = true → (tkE (lim + more) u2 s2 z != 0) = false := fun h => by
        have := hS2 (by simpa using h)
        simp [this]
      have HE' := Lib.hid HE
      clear hS1 hS2 HE
      clear hT hT' hS
      generalize tkE lim u1 s1 z = e1 at *
      generalize tkE (lim + more) u2 s2 z = e2 at *
      generalize tkU lim u1 s1 z = v1 at *
      generalize tkU (lim + more) u2 s2 z = v2 at *
      generalize tkS lim u1 s1 z = r1 at *
      generalize tkS (lim + more) u2 s2 z = r2 at *
      have GBh : Fl wB (w.heap.size + 1) (lim + more) v2 r2 := GB
      cases he : (e1 == 0)
      all_goals
        try have he2 := HE'.out he
        go_wp2_with fail
        refine (left_any w.heap.size lim v1 r1 _ FB hT1 hT2 (by omega)).mono ?_
        rintro e wC ⟨rfl, OC1⟩
        go_wp2_with fail
        refine (used_any w.heap.size lim v1 r1 _ (OC1.blk FB (by simp))).mono ?_
        rintro e wD ⟨rfl, OC2⟩
        have OD := OC1.trans OC2
        go_wp2_with fail
        refine (left_any (w.heap.size + 1) (lim + more) v2 r2 _ (OD.blk GBh (by simp)) hT3 hT4 (by omega)).mono ?_
        rintro e wE ⟨rfl, OC3⟩
        have OE := OD.trans OC3
        go_wp2_with fail
        refine (used_any (w.heap.size + 1) (lim + more) v2 r2 _ (OE.blk GBh (by simp))).mono ?_
        rintro e wF ⟨rfl, OC4⟩
        have OF := OE.trans OC4
        have FF : Fl wF w.heap.size lim v1 r1 := OF.blk FB (by simp)
        have GF : Fl wF (w.heap.size + 1) (lim + more) v2 r2 := OF.blk GBh (by simp)
        go_wp2
        go_roundw
        case rel => exact ⟨k + 1, v1, v2, r1, r2, by go_num, by omega, hT1, hT2, hT3, hT4, HS1.out, FF, GF, OC.trans OF⟩
        case measure => simp [intOf]; omega
    · have hex : n ≤ k ∨ 60 ≤ k := by omega
      by_cases hlt : k < n
      · have h60 : 60 ≤ k := by omega
        go_wp2
        go_ret
        exact ⟨rfl, O⟩
      · have hge : n ≤ k := by omega
        go_wp2
        go_ret
        exact ⟨rfl, O⟩

end Go.Proofs.Ytggpbgbnefgebab
