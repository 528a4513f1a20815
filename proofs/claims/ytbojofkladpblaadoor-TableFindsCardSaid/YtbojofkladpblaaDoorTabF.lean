/- Find and Map of the document's tables and of the package's; TableFinds: the walk. -/
import Derived.Test.YtbojofkladpblaaDoorTabH
import Derived.Test.YtbojofkladpblaaDoorRTab
import Derived.Test.YtbojofkladpblaaDoorIntInfo
import Derived.Test.YtbojofkladpblaaDoorSame
import Derived.Deep.OwnRows
set_option linter.unusedVariables false
set_option linter.unusedSimpArgs false
namespace Go.Proofs.YtbojofkladpblaaDoor
open Go.RowKit
open Go.Lib hiding intOf
attribute [local go_sem ↓] Go.wp_at_zero Go.wp_at_succ

set_option maxHeartbeats 4000000 in
theorem rfind_any (A : Option Addr) (n c B : Nat) (t : List ByteArray) (s : ByteArray) (w : World) (hn : t.length = n) (hnm : n ≤ 9223372036854775806) (hz : ∀ z ∈ t, z.size ≤ 65537) (hA : Row w B A (strs t)) :
    Calls Tryd.prog 16 #[.slice A n c, .string s] w fun e w' => e = .returned (.tuple #[.int .i64 (max (posB t s) 0), .bool (decide (0 ≤ posB t s))]) ∧ Only [] w w' := by
  have HI := Lib.hid (fun w' (h : Only [] w w') => rtab_any A n c B t w' hn hnm hz (hA.only h (by simp)))
  obtain ⟨p, hp⟩ : ∃ p, p = posB t s := ⟨_, rfl⟩
  rw [← hp]
  unfold posB at hp
  obtain ⟨v, hv⟩ : ∃ v, v = tabB t := ⟨_, rfl⟩
  rw [← hv] at HI hp
  have HP := Lib.hid hp
  have HN := Lib.hid hn
  have HROW := Lib.hid hA
  clear hp hv hz hA hn
  go_enter Tryd.func16, Tryd.ntmps16
  go_wp2_with fail
  go_loopw [6] (fun iv wr => ∃ (k : Nat), iv = .int .i64 k ∧ k ≤ n ∧ Hid (k = 0 ∨ v = true) ∧ Hid (∀ (j : Nat), j < k → ∀ y, t[j]? = some y → y ≠ s) ∧ Hid (Only [] w wr)) (fun iv _ => n - (intOf iv).toNat)
  case atStart => exact ⟨0, rfl, by omega, Lib.hid (.inl rfl), Lib.hid (fun j h => by omega), Lib.hid (Only.refl [] w)⟩
  case round =>
    obtain ⟨k, rfl, hk, HV, HNE, HO⟩ := hrel
    by_cases hlt : k < n
    · have h01 : (k : Int) < (n : Int) := by omega
      have hk0 : (0 : Int) ≤ (k : Int) := Int.natCast_nonneg _
      have hwk : IntKind.i64.wrap ((k : Int) + 1) = (k : Int) + 1 := IntWalk.i64_in _ (by omega)
      cases v with
      | false =>
        have hpf : p = -1 := by rw [HP.out, if_neg (by simp)]
        subst hpf
        go_wp2_with fail
        refine (HI.out _ HO.out).mono ?_
        rintro e w2 ⟨rfl, hO2⟩
        have HO2 := Lib.hid (HO.out.trans hO2)
        clear hO2
        go_wp2
        go_ret2
        exact ⟨rfl, HO2.out⟩
      | true =>
        have HPT : Hid (p = idxOfS t s) := Lib.hid (by rw [HP.out, if_pos rfl])
        obtain ⟨b, off, rfl, hbB, hbw, hcell⟩ := HROW.out.open_ (k := k) (by rw [strs, List.length_map, HN.out]; exact hlt)
        obtain ⟨l, hl⟩ : ∃ l, t[k]? = some l := ⟨_, List.getElem?_eq_getElem (by rw [HN.out]; exact hlt)⟩
        have HCK := Lib.hid (hcell k _ (by rw [strs, List.getElem?_map, hl]; rfl))
        have HLK := Lib.hid hl
        clear hcell hl
        go_wp2_with fail
        refine (HI.out _ HO.out).mono ?_
        rintro e w2 ⟨rfl, hO2⟩
        have HO2 := Lib.hid (HO.out.trans hO2)
        have hck : w2.cell? ⟨b, off + k, none⟩ = some (.string l) := (HO2.out.cell (p := ⟨b, off + k, none⟩) hbw (by simp)).trans HCK.out
        clear hO2
        by_cases hls : l = s
        · subst hls
          have hxx : (l.toList == l.toList) = true := by simp
          have hpk : p = (k : Int) := by rw [HPT.out, idx_first HLK.out HNE.out]
          have hmx : max (k : Int) 0 = (k : Int) := by omega
          have hd : decide ((0 : Int) ≤ (k : Int)) = true := decide_eq_true (by omega)
          subst hpk
          have HMX : Hid (Ending.returned (.tuple #[.int .i64 (k : Int), .bool true]) = Ending.returned (.tuple #[.int .i64 (max (k : Int) 0), .bool (decide (0 ≤ (k : Int)))])) := Lib.hid (by rw [hmx, hd])
          clear hmx hd
          go_wp2
          go_ret2
          exact ⟨HMX.out, HO2.out⟩
        · have hxx : (l.toList == s.toList) = false := text_ne (l := s.toList) (by
            rw [Lib.toList_data]
            exact fun e => hls (e.trans (by_inj List.toList_toArray)))
          have HNE2 : Hid (∀ (j : Nat), j < k + 1 → ∀ y, t[j]? = some y → y ≠ s) := Lib.hid (fun j hj y hy => by
            by_cases h : j < k
            · exact HNE.out j h y hy
            · obtain rfl : j = k := by omega
              rw [HLK.out] at hy
              obtain rfl := Option.some.inj hy
              exact hls)
          clear hls
          go_wp2
          go_roundw
          case rel => exact ⟨k + 1, by go_num, by omega, Lib.hid (.inr (by first | rfl | trivial)), HNE2, HO2⟩
          case measure => simp [intOf]; omega
    · have hkn : k = n := by omega
      subst hkn
      have hd : decide ((k : Int) < (k : Int)) = false := by simp
      have hpf : p = -1 := by
        rw [HP.out]
        split
        · exact idx_none (fun j y hy => HNE.out j (by rw [← HN.out]; exact (List.getElem?_eq_some_iff.1 hy).1) y hy)
        · rfl
      subst hpf
      go_wp2
      go_ret2
      exact ⟨rfl, HO.out⟩

/-- The places of names in a table. -/
def mapB (t l : List ByteArray) : List Int := l.map (posB t)
theorem pos_ge (t : List ByteArray) (s : ByteArray) : -1 ≤ posB t s := by
  unfold posB
  split
  · exact (idx_ge t s).1
  · exact Int.le_refl _

set_option maxHeartbeats 4000000 in
theorem rmap_any (A A' : Option Addr) (n c m d : Nat) (l t : List ByteArray) (w : World) (hn : l.length = n) (hm : t.length = m) (hN : n ≤ 1000) (hmm : m ≤ 1000) (hz : ∀ z ∈ t, z.size ≤ 65537) (hA : Row w w.heap.size A (strs l)) (hA' : Row w w.heap.size A' (strs t)) :
    Calls Tryd.prog 19 #[.slice A n c, .slice A' m d] w fun e w' => Only [] w w' ∧ ∃ V, e = .returned V ∧ w'.ownsRow w.heap.size 3 1 V n ((mapB t l).map (Value.int .i64)) := by
  obtain ⟨i0, hi, hz0, hz1, hz2⟩ := info_parts info_int
  have HF := Lib.hid (fun s w' (h : Only [] w w') => rfind_any A' m d _ t s w' hm (by omega) hz (hA'.only h (by simp)))
  have HPG := Lib.hid (pos_ge t)
  have HN := Lib.hid hn
  have HROW := Lib.hid hA
  clear hn hm hz hA hA'
  go_enter Tryd.func19, Tryd.ntmps19
  go_wp2_with fail
  go_loopw [5, 6] (fun V iv wr => ∃ (k : Nat), iv = .int .i64 k ∧ k ≤ n ∧ Hid (wr.ownsRow w.heap.size 3 1 V k ((mapB t (l.take k)).map (Value.int .i64))) ∧ Hid (Only [] w wr)) (fun _ iv _ => n - (intOf iv).toNat)
  case atStart => exact ⟨0, rfl, by omega, Lib.hid (World.ownsRow_lit w #[] 0 (Nat.le_refl _) (by unfold maxLen; omega) rfl), Lib.hid ((Only.refl [] w).alloc _)⟩
  case round =>
    obtain ⟨k, rfl, hk, HOWN, HO⟩ := hrel
    have hsz2 := HO.out.size
    by_cases hlt : k < n
    · have h01 : (k : Int) < (n : Int) := by omega
      have hk0 : (0 : Int) ≤ (k : Int) := Int.natCast_nonneg _
      have hwk : IntKind.i64.wrap ((k : Int) + 1) = (k : Int) + 1 := IntWalk.i64_in _ (by omega)
      obtain ⟨b, off, rfl, hbB, hbw, hcell⟩ := HROW.out.open_ (k := k) (by rw [strs, List.length_map, HN.out]; exact hlt)
      obtain ⟨x, hx⟩ : ∃ x, l[k]? = some x := ⟨_, List.getElem?_eq_getElem (by rw [HN.out]; exact hlt)⟩
      have hck : wr.cell? ⟨b, off + k, none⟩ = some (.string x) := (HO.out.cell (p := ⟨b, off + k, none⟩) hbw (by simp)).trans (hcell k _ (by rw [strs, List.getElem?_map, hx]; rfl))
      have HF1 := Lib.hid (HF.out x wr HO.out)
      have hpg := HPG.out x
      have HTK : Hid ((mapB t (l.take (k + 1))).map (Value.int .i64) = (mapB t (l.take k)).map (Value.int .i64) ++ [.int .i64 (posB t x)]) := Lib.hid (by rw [List.take_add_one, hx]; simp [mapB])
      have hlen : ((mapB t (l.take k)).map (Value.int .i64)).length = k := by rw [List.length_map, mapB, List.length_map, List.length_take, HN.out]; omega
      generalize posB t x = p at *
      clear hcell hx
      by_cases hp0 : 0 ≤ p
      · have hmx : max p 0 = p := by omega
        have hd : decide (0 ≤ p) = true := decide_eq_true hp0
        rw [hmx, hd] at HF1
        go_wp2_with fail
        refine (HF1.out).mono ?_
        rintro e w2 ⟨rfl, hO2⟩
        have HOWN2 := Lib.hid (own_only HOWN.out hO2 (by simp))
        have HO2 := Lib.hid (HO.out.trans hO2)
        have hw2 := HO2.out.size
        clear hO2
        go_wp2_with (at_builtin; refine wpList_append_row _ rfl (.tmp 27) (.tmp 29) _ rfl w.heap.size 3 i0 _ 1 8 Tryd.underlying33 hi hz0 hz1 hz2 rfl (by omega) _ k _ rfl (own_only HOWN2.out ((Only.refl [] _).alloc _) (by simp)) (w2.heap.size + 1) (some ⟨w2.heap.size, 0, none⟩) 1 1 [.int .i64 p] rfl rfl (row_lit w2 3 #[.int .i64 p]) (by simp [Value.oneCell']) (by unfold maxLen; omega) (by omega) (by simp; omega) ?_; intro v3 w3 hown3 hgrow hat)
        have REL : w3.ownsRow w.heap.size 3 1 v3 (k + 1) ((mapB t (l.take (k + 1))).map (Value.int .i64)) ∧ Only [] w w3 :=
          ⟨by rw [HTK.out]; exact hown3, (HO2.out.alloc _).step (only_grown hgrow) (own_new HOWN2.out)⟩
        have HREL := Lib.hid REL
        clear REL hown3 hgrow hat hlen
        go_wp2
        go_roundw
        case rel => exact ⟨k + 1, by go_num, by omega, Lib.hid HREL.out.1, Lib.hid HREL.out.2⟩
        case measure => simp [intOf]; omega
      · obtain rfl : p = -1 := by omega
        go_wp2_with fail
        refine (HF1.out).mono ?_
        rintro e w2 ⟨rfl, hO2⟩
        have HOWN2 := Lib.hid (own_only HOWN.out hO2 (by simp))
        have HO2 := Lib.hid (HO.out.trans hO2)
        have hw2 := HO2.out.size
        clear hO2
        go_wp2_with (at_builtin; refine wpList_append_row _ rfl (.tmp 27) (.tmp 29) _ rfl w.heap.size 3 i0 _ 1 8 Tryd.underlying33 hi hz0 hz1 hz2 rfl (by omega) _ k _ rfl (own_only HOWN2.out ((Only.refl [] _).alloc _) (by simp)) (w2.heap.size + 1) (some ⟨w2.heap.size, 0, none⟩) 1 1 [.int .i64 (-1)] rfl rfl (row_lit w2 3 #[.int .i64 (-1)]) (by simp [Value.oneCell']) (by unfold maxLen; omega) (by omega) (by simp; omega) ?_; intro v3 w3 hown3 hgrow hat)
        have REL : w3.ownsRow w.heap.size 3 1 v3 (k + 1) ((mapB t (l.take (k + 1))).map (Value.int .i64)) ∧ Only [] w w3 :=
          ⟨by rw [HTK.out]; exact hown3, (HO2.out.alloc _).step (only_grown hgrow) (own_new HOWN2.out)⟩
        have HREL := Lib.hid REL
        clear REL hown3 hgrow hat hlen
        go_wp2
        go_roundw
        case rel => exact ⟨k + 1, by go_num, by omega, Lib.hid HREL.out.1, Lib.hid HREL.out.2⟩
        case measure => simp [intOf]; omega
    · have hkn : k = n := by omega
      subst hkn
      have hd : decide ((k : Int) < (k : Int)) = false := by simp
      have hall : l.take k = l := List.take_of_length_le (by rw [HN.out]; exact Nat.le_refl _)
      rw [hall] at HOWN
      clear hall
      go_wp2
      go_ret
      exact ⟨HO.out, _, rfl, HOWN.out⟩

set_option maxRecDepth 10000 in
set_option maxHeartbeats 8000000 in
theorem map_any (A A' : Option Addr) (n c m d : Nat) (l t : List ByteArray) (w : World) (hn : l.length = n) (hm : t.length = m) (hN : n ≤ 1000) (hmm : m ≤ 1000) (hz : ∀ z ∈ t, z.size ≤ 9223372036854775807) (hA : Row w w.heap.size A (strs l)) (hA' : Row w w.heap.size A' (strs t)) (hT : UTabs w) :
    Calls Tryd.prog 18 #[.slice A n c, .slice A' m d] w fun e w' => Only [] w w' ∧ ∃ g, e = .returned (.slice (some ⟨g, 0, none⟩) n n) ∧ Row w' w'.heap.size (some ⟨g, 0, none⟩) ((mapB t l).map (Value.int .i64)) := by
  have hmk := fun W => run_make_row' (P := Tryd.prog) 33 3 (.int .i64 0) 8 Tryd.underlying33 info_int rfl .i64 .i64 n (by omega) (by omega) W
  have HI := Lib.hid (istab_any A' m d _ t w hm (by omega) hz hA' hT)
  have HF := Lib.hid (fun s w' (h : Only [] w w') => find_low A' m d _ t s w' hm (by omega) (hA'.only h (by simp)))
  have HPE : Hid (∀ s, posB t s = if tabB t = true then idxOfS t s else -1) := Lib.hid (fun s => rfl)
  have HIG := Lib.hid (fun s => (idx_ge t s).1)
  obtain ⟨v, hv⟩ : ∃ v, v = tabB t := ⟨_, rfl⟩
  rw [← hv] at HI HPE
  have HN := Lib.hid hn
  have HROW := Lib.hid hA
  clear hn hm hz hA hA' hT hv
  go_enter Tryd.func18, Tryd.ntmps18
  go_wp2_with fail
  refine (HI.out).mono ?_
  rintro e w1 ⟨rfl, hO1⟩
  have HO1 := Lib.hid hO1
  have hw1 := hO1.size
  clear hO1
  have HB1 := Lib.hid (Blk.made w1 3 (madeCells #[.int .i64 0] n))
  have hms : (madeCells #[Value.int .i64 0] n).size = n := by simp [madeCells]
  go_wp2_with fail
  go_loopw [18] (fun iv wr => ∃ (k : Nat) (cs : Array Value), iv = .int .i64 k ∧ k ≤ n ∧ Hid (Blk wr w1.heap.size 3 cs) ∧ Hid (cs.size = n) ∧ Hid (∀ j, j < k → ∀ x, l[j]? = some x → cs[j]? = some (.int .i64 (posB t x))) ∧ Hid (Only [w1.heap.size] w1 wr)) (fun iv _ => n - (intOf iv).toNat)
  case atStart => exact ⟨0, _, rfl, by omega, HB1, Lib.hid hms, Lib.hid (fun j h => by omega), Lib.hid (((Only.refl [] w1).alloc _).wide (fun i hi => by cases hi))⟩
  case round =>
    obtain ⟨k, cs, rfl, hk, HB, HSZ, HCS, HO⟩ := hrel
    by_cases hlt : k < n
    · have h01 : (k : Int) < (n : Int) := by omega
      have hk0 : (0 : Int) ≤ (k : Int) := Int.natCast_nonneg _
      have hwk : IntKind.i64.wrap ((k : Int) + 1) = (k : Int) + 1 := IntWalk.i64_in _ (by omega)
      obtain ⟨b, off, rfl, hbB, hbw, hcell⟩ := HROW.out.open_ (k := k) (by rw [strs, List.length_map, HN.out]; exact hlt)
      obtain ⟨x, hx⟩ : ∃ x, l[k]? = some x := ⟨_, List.getElem?_eq_getElem (by rw [HN.out]; exact hlt)⟩
      have hck : wr.cell? ⟨b, off + k, none⟩ = some (.string x) := (HO.out.cell (p := ⟨b, off + k, none⟩) (by show b < w1.heap.size; omega) (by show b ∉ [w1.heap.size]; simp; omega)).trans ((HO1.out.cell (p := ⟨b, off + k, none⟩) hbw (by simp)).trans (hcell k _ (by rw [strs, List.getElem?_map, hx]; rfl)))
      have f1 := HB.out.free k
      obtain ⟨old, hold⟩ : ∃ old, cs[k]? = some old := ⟨_, Array.getElem?_eq_getElem (by rw [HSZ.out]; exact hlt)⟩
      have c1 : wr.cell? ⟨w1.heap.size, k, none⟩ = some old := by rw [HB.out.at_]; exact hold
      have HXK := Lib.hid hx
      have HBP := Lib.hid (HB.out.put k (.int .i64 (-1)))
      have HOP := Lib.hid (HO.out.put (p := ⟨w1.heap.size, k, none⟩) (by simp) (.int .i64 (-1)))
      have hx2 := HPE.out x
      have hig := HIG.out x
      have HF1 := Lib.hid (HF.out x (wr.setCell ⟨w1.heap.size, k, none⟩ (.int .i64 (-1))) (HO1.out.step HOP.out (fun i hi hl => by simp at hi; omega)))
      have hsz3 : (cs.setIfInBounds k (.int .i64 (-1))).size = n := by rw [Array.size_setIfInBounds, HSZ.out]
      have HCELL : Hid (∀ (z : Int) (cs' : Array Value), cs'.size = n → cs'[k]? = some (.int .i64 z) → (∀ j, j < k → cs'[j]? = cs[j]?) → z = posB t x → ∀ j, j < k + 1 → ∀ y, l[j]? = some y → cs'[j]? = some (.int .i64 (posB t y))) := Lib.hid (fun z cs' _ h1 h2 h3 j hj y hy => by
        by_cases h : j < k
        · rw [h2 j h]
          exact HCS.out j h y hy
        · obtain rfl : j = k := by omega
          rw [HXK.out] at hy
          obtain rfl := Option.some.inj hy
          rw [h1, h3])
      clear hcell hx hold
      generalize idxOfS t x = z at *
      have hk1' : (k : Int) < (n : Int) := h01
      have f2 := HBP.out.free k
      obtain ⟨old2, hold2⟩ : ∃ old2, (cs.setIfInBounds k (.int .i64 (-1)))[k]? = some old2 := ⟨_, Array.getElem?_eq_getElem (by rw [hsz3]; exact hlt)⟩
      have c2 : (wr.setCell ⟨w1.heap.size, k, none⟩ (.int .i64 (-1))).cell? ⟨w1.heap.size, k, none⟩ = some old2 := by rw [HBP.out.at_]; exact hold2
      have hset1 : (cs.setIfInBounds k (.int .i64 (-1)))[k]? = some (.int .i64 (-1)) := by rw [Array.getElem?_setIfInBounds, if_pos rfl, if_pos (by rw [HSZ.out]; exact hlt)]
      have hoth1 : ∀ j, j < k → (cs.setIfInBounds k (.int .i64 (-1)))[j]? = cs[j]? := fun j hj => by rw [Array.getElem?_setIfInBounds, if_neg (by omega)]
      have HS1 := Lib.hid hset1
      have HT1 := Lib.hid hoth1
      have HZ3 := Lib.hid hsz3
      clear hold2 hset1 hoth1 hsz3
      by_cases hgo : v = true ∧ 0 ≤ z
      · obtain ⟨hv1, hz1'⟩ := hgo
        subst hv1
        have hmx : max z 0 = z := by omega
        have hd : decide (0 ≤ z) = true := decide_eq_true hz1'
        rw [hmx, hd] at HF1
        have hpx : z = posB t x := by rw [hx2, if_pos rfl]
        have HPX := Lib.hid hpx
        have HBQ := Lib.hid (HBP.out.put k (.int .i64 z))
        have HOQ := Lib.hid (HOP.out.put (p := ⟨w1.heap.size, k, none⟩) (by simp) (.int .i64 z))
        have hset2 : ((cs.setIfInBounds k (.int .i64 (-1))).setIfInBounds k (.int .i64 z))[k]? = some (.int .i64 z) := by rw [Array.getElem?_setIfInBounds, if_pos rfl, if_pos (by rw [HZ3.out]; exact hlt)]
        have hoth2 : ∀ j, j < k → ((cs.setIfInBounds k (.int .i64 (-1))).setIfInBounds k (.int .i64 z))[j]? = cs[j]? := fun j hj => by rw [Array.getElem?_setIfInBounds, if_neg (by omega), HT1.out j hj]
        have hsz4 : ((cs.setIfInBounds k (.int .i64 (-1))).setIfInBounds k (.int .i64 z)).size = n := by rw [Array.size_setIfInBounds, HZ3.out]
        have HCS2 := Lib.hid (HCELL.out z _ hsz4 hset2 hoth2 HPX.out)
        have HZ4 := Lib.hid hsz4
        clear hset2 hoth2 hsz4 hpx hx2
        go_wp2_with fail
        refine (HF1.out).mono ?_
        rintro e w3 ⟨rfl, rfl⟩
        go_wp2
        go_roundw
        case rel => exact ⟨k + 1, _, by go_num, by omega, HBQ, HZ4, HCS2, HOQ⟩
        case measure => simp [intOf]; omega
      · have hpx : (-1 : Int) = posB t x := by
          rw [hx2]
          split
          · rename_i h
            have : ¬ 0 ≤ z := fun h0 => hgo ⟨h, h0⟩
            omega
          · rfl
        have HPX := Lib.hid hpx
        have HCS2 := Lib.hid (HCELL.out (-1) _ HZ3.out HS1.out HT1.out HPX.out)
        have hguard : (v = false) ∨ (v = true ∧ decide (0 ≤ z) = false) := by
          cases v with
          | false => exact .inl rfl
          | true => exact .inr ⟨rfl, decide_eq_false (fun h0 => hgo ⟨rfl, h0⟩)⟩
        clear hgo hpx hx2
        rcases hguard with rfl | ⟨rfl, hd⟩
        · go_wp2_with fail
          refine (HF1.out).mono ?_
          rintro e w3 ⟨rfl, rfl⟩
          go_wp2
          go_roundw
          case rel => exact ⟨k + 1, _, by go_num, by omega, HBP, HZ3, HCS2, HOP⟩
          case measure => simp [intOf]; omega
        · rw [hd] at HF1
          go_wp2_with fail
          refine (HF1.out).mono ?_
          rintro e w3 ⟨rfl, rfl⟩
          go_wp2
          go_roundw
          case rel => exact ⟨k + 1, _, by go_num, by omega, HBP, HZ3, HCS2, HOP⟩
          case measure => simp [intOf]; omega
    · have hkn : k = n := by omega
      subst hkn
      have hd : decide ((k : Int) < (k : Int)) = false := by simp
      have HOF := Lib.hid (HO1.out.step HO.out (T := [w1.heap.size]) (fun i hi hl => by simp at hi; omega) : Only [] w wr)
      go_wp2
      go_ret
      refine ⟨HOF.out, w1.heap.size, rfl, .inr ⟨w1.heap.size, 0, rfl, HB.out.lt, Nat.le_refl _, fun j u hu => ?_⟩⟩
      rw [Nat.zero_add, HB.out.at_]
      rw [List.getElem?_map, mapB, List.getElem?_map] at hu
      cases hx : l[j]? with
      | none => rw [hx] at hu; cases hu
      | some x =>
        rw [hx] at hu
        obtain rfl := Option.some.inj hu
        exact HCS.out j (by rw [← HN.out]; exact (List.getElem?_eq_some_iff.1 hx).1) x hx

set_option maxRecDepth 10000 in
set_option maxHeartbeats 8000000 in
theorem tableFinds_walk (A : Option Addr) (n c : Nat) (zs : List ByteArray) (s0 : ByteArray) (A2 : Option Addr) (n2 c2 : Nat) (ys : List ByteArray) (w : World) (hn : zs.length = n) (hc : n ≤ c) (hcm : c ≤ maxLen) (hz : ∀ z ∈ zs, z.size ≤ maxLen) (hA : Row w w.heap.size A (strs zs)) (hs : s0.size ≤ 9223372036854775807)
    (hn2 : ys.length = n2) (hc2 : n2 ≤ c2) (hcm2 : c2 ≤ maxLen) (hy : ∀ z ∈ ys, z.size ≤ maxLen) (hA2 : Row w w.heap.size A2 (strs ys)) (hT : UTabs w) :
    Calls Tryd.prog 4 #[.slice A n c, .string s0, .slice A2 n2 c2] w fun e w' => e = .returned (.bool true) ∧ Only [] w w' := by
  unfold maxLen at hcm hz hcm2 hy
  have HW := Lib.hid (fun w' (h : Only [] w w') => works09_any w' (hT.only h))
  have HF := Lib.hid (fun w' (h : Only [] w w') => few9_any A n c _ zs w' hn (by omega) (fun z h => by have := hz z h; omega) (hA.only h (by simp)))
  have HG := Lib.hid (fun w' (h : Only [] w w') => few9_any A2 n2 c2 _ ys w' hn2 (by omega) (fun z h => by have := hy z h; omega) (hA2.only h (by simp)))
  have hfl := few9_len zs
  have hfs := few9_size zs
  have hff := few9_few9 zs
  have hgl := few9_len ys
  have hgs := few9_size ys
  have hgg := few9_few9 ys
  generalize few9 zs = fs at *
  generalize few9 ys = gs at *
  obtain ⟨q, hq⟩ : ∃ q, q = min s0.size 100 := ⟨_, rfl⟩
  have hmin : min (s0.size : Int) 100 = (q : Int) := by omega
  have hq1 : (0 : Int) ≤ (q : Int) := Int.natCast_nonneg _
  have hq2 : (q : Int) ≤ (s0.size : Int) := by omega
  obtain ⟨s, hs'⟩ : ∃ s, s = s0.extract 0 q := ⟨_, rfl⟩
  have HSE := Lib.hid hs'
  have HFF := Lib.hid (fun A c B w' hA => few9_any A fs.length c B fs w' rfl (by omega) (fun z h => by have := hfs z h; omega) hA)
  rw [hff] at HFF
  have HGG := Lib.hid (fun A c B w' hA => few9_any A gs.length c B gs w' rfl (by omega) (fun z h => by have := hgs z h; omega) hA)
  rw [hgg] at HGG
  have HFD := Lib.hid (fun A c B w' hA (h : Only [] w w') => find_any A fs.length c B fs s w' rfl (by omega) (fun z h => by have := hfs z h; omega) hA (hT.only h))
  have HRF := Lib.hid (fun A c B w' hA => rfind_any A fs.length c B fs s w' rfl (by omega) (fun z h => by have := hfs z h; omega) hA)
  have HMP := Lib.hid (fun A A' c d w' hA hA' (h : Only [] w w') => map_any A A' gs.length c fs.length d gs fs w' rfl rfl (by omega) (by omega) (fun z h => by have := hfs z h; omega) hA hA' (hT.only h))
  have HRM := Lib.hid (fun A A' c d w' hA hA' => rmap_any A A' gs.length c fs.length d gs fs w' rfl rfl (by omega) (by omega) (fun z h => by have := hfs z h; omega) hA hA')
  have hml : (mapB fs gs).length = gs.length := by rw [mapB, List.length_map]
  have HSI := Lib.hid (fun A A' c d w' B B' hA hA' => sameInts_any A A' gs.length gs.length c d (mapB fs gs) (mapB fs gs) w' B B' hA hA' hml hml (by omega) (by omega))
  generalize mapB fs gs = mp at *
  have hpp : decide (mp = mp) = true := by simp
  rw [hpp] at HSI
  generalize hP : max (posB fs s) 0 = p at *
  generalize hI : decide (0 ≤ posB fs s) = b at *
  have hbb : (b == b) = true := by cases b <;> rfl
  have hpq : ((p : Int) == p) = true := by simp
  clear hz hA hs hT hfl hfs hq hs' hn hc hcm hff hgl hgs hgg hn2 hc2 hcm2 hy hA2 hml hpp hP hI
  have HF1 := Lib.hid (HF.out w.drew (Only.refl [] w).drew)
  go_enter Tryd.func4, Tryd.ntmps4
  go_wp2_with fail
  refine wp_region_noPanic ?_
  refine wp_region_timed (F := []) (by kernel_rfl) (timed_nil) ?_
  refine timed_pure (i := 0) (v := ?_) rfl (by kernel_rfl) (by kernel_rfl) (by kernel_rfl) (fun _ _ _ h => h) (by kernel_rfl) (by kernel_rfl) ?_ ?_
  rotate_left
  · (intro w; go_simp; try with_reducible rfl)
  try simp only [Act.put, List.getElem_toArray, List.getElem_cons_zero, List.getElem_cons_succ, List.setIfInBounds_toArray, List.set_cons_zero, List.set_cons_succ]
  refine timed_pure (i := 2) (v := ?_) rfl (by kernel_rfl) (by kernel_rfl) (by kernel_rfl) (fun _ _ _ h => h) (by kernel_rfl) (by kernel_rfl) ?_ ?_
  rotate_left
  · (intro w; go_simp; try with_reducible rfl)
  try simp only [Act.put, List.getElem_toArray, List.getElem_cons_zero, List.getElem_cons_succ, List.setIfInBounds_toArray, List.set_cons_zero, List.set_cons_succ]
  refine timed_pure (i := 4) (v := ?_) rfl (by kernel_rfl) (by kernel_rfl) (by kernel_rfl) (fun _ _ _ h => h) (by kernel_rfl) (by kernel_rfl) ?_ ?_
  rotate_left
  · (intro w; go_simp; try with_reducible rfl)
  try simp only [Act.put, List.getElem_toArray, List.getElem_cons_zero, List.getElem_cons_succ, List.setIfInBounds_toArray, List.set_cons_zero, List.set_cons_succ]
  refine timed_pure (i := 5) (v := ?_) rfl (by kernel_rfl) (by kernel_rfl) (by kernel_rfl) (fun _ _ _ h => h) (by kernel_rfl) (by kernel_rfl) ?_ ?_
  rotate_left
  · (intro w; go_simp; try with_reducible rfl)
  try simp only [Act.put, List.getElem_toArray, List.getElem_cons_zero, List.getElem_cons_succ, List.setIfInBounds_toArray, List.set_cons_zero, List.set_cons_succ]
  refine timed_pure (i := 6) (v := ?_) rfl (by kernel_rfl) (by kernel_rfl) (by kernel_rfl) (fun _ _ _ h => h) (by kernel_rfl) (by kernel_rfl) ?_ ?_
  rotate_left
  · (intro w; go_simp; try with_reducible rfl)
  try simp only [Act.put, List.getElem_toArray, List.getElem_cons_zero, List.getElem_cons_succ, List.setIfInBounds_toArray, List.set_cons_zero, List.set_cons_succ]
  refine timed_pure (i := 7) (v := ?_) rfl (by kernel_rfl) (by kernel_rfl) (by kernel_rfl) (fun _ _ _ h => h) (by kernel_rfl) (by kernel_rfl) ?_ ?_
  rotate_left
  · (intro w; go_simp; try with_reducible rfl)
  try simp only [Act.put, List.getElem_toArray, List.getElem_cons_zero, List.getElem_cons_succ, List.setIfInBounds_toArray, List.set_cons_zero, List.set_cons_succ]
  refine timed_pure (i := 8) (v := ?_) rfl (by kernel_rfl) (by kernel_rfl) (by kernel_rfl) (fun _ _ _ h => h) (by kernel_rfl) (by kernel_rfl) ?_ ?_
  rotate_left
  · (intro w; go_simp; try with_reducible rfl)
  try simp only [Act.put, List.getElem_toArray, List.getElem_cons_zero, List.getElem_cons_succ, List.setIfInBounds_toArray, List.set_cons_zero, List.set_cons_succ]
  refine timed_step (i := 1) (by kernel_rfl) rfl (fun K hK => ?_)
  go_simp
  refine (HF1.out).mono ?_
  rintro e w1 ⟨hO1, V1, rfl, hown1⟩
  have HG1 := Lib.hid (HG.out w1 ((Only.refl [] w).drew.trans hO1))
  refine hK.out _ _ (timed_nil) ?_
  clear hK K
  try simp only [Act.put, List.getElem_toArray, List.getElem_cons_zero, List.getElem_cons_succ, List.setIfInBounds_toArray, List.set_cons_zero, List.set_cons_succ]
  refine timed_step (i := 3) (by kernel_rfl) rfl (fun K hK => ?_)
  go_simp
  refine (HG1.out).mono ?_
  rintro e w2 ⟨hO2, V2, rfl, hown2⟩
  refine hK.out _ _ (timed_nil) ?_
  clear hK K
  try simp only [Act.put, List.getElem_toArray, List.getElem_cons_zero, List.getElem_cons_succ, List.setIfInBounds_toArray, List.set_cons_zero, List.set_cons_succ]
  refine timed_pure (i := 9) (v := ?_) rfl (by kernel_rfl) (by kernel_rfl) (by kernel_rfl) (fun _ _ _ h => h) (by kernel_rfl) (by kernel_rfl) ?_ ?_
  rotate_left
  · (intro w; go_simp; try with_reducible rfl)
  try simp only [Act.put, List.getElem_toArray, List.getElem_cons_zero, List.getElem_cons_succ, List.setIfInBounds_toArray, List.set_cons_zero, List.set_cons_succ]
  refine timed_pure (i := 10) (v := ?_) rfl (by kernel_rfl) (by kernel_rfl) (by kernel_rfl) (fun _ _ _ h => h) (by kernel_rfl) (by kernel_rfl) ?_ ?_
  rotate_left
  · (intro w; go_simp; try with_reducible rfl)
  try simp only [Act.put, List.getElem_toArray, List.getElem_cons_zero, List.getElem_cons_succ, List.setIfInBounds_toArray, List.set_cons_zero, List.set_cons_succ]
  refine timed_pure (i := 11) (v := ?_) rfl (by kernel_rfl) (by kernel_rfl) (by kernel_rfl) (fun _ _ _ h => h) (by kernel_rfl) (by kernel_rfl) ?_ ?_
  rotate_left
  · (intro w; go_simp; try with_reducible rfl)
  try simp only [Act.put, List.getElem_toArray, List.getElem_cons_zero, List.getElem_cons_succ, List.setIfInBounds_toArray, List.set_cons_zero, List.set_cons_succ]
  refine timed_done (by kernel_rfl) ?_ _
  refine NoPanic.normal ?_
  have HO1 := Lib.hid ((Only.refl [] w).drew.trans hO1)
  obtain ⟨B1, d1, rfl, -, -, -, hrow1⟩ := own_row hown1
  have HR13 := Lib.hid (hrow1.only hO2 (by simp))
  have HO3 := Lib.hid (HO1.out.trans hO2)
  obtain ⟨B2, d2, rfl, -, -, -, hrow2⟩ := own_row hown2
  have HR23 := Lib.hid hrow2
  rw [← HSE.out]
  clear hO1 hown1 hrow1 hO2 hown2 hrow2
  go_wp2_with fail
  refine (HFF.out B1 d1 _ _ HR13.out).mono ?_
  rintro e w4 ⟨hO4, V4, rfl, hown4⟩
  have HO4 := Lib.hid (HO3.out.trans hO4)
  have HR14 := Lib.hid (HR13.out.only hO4 (by simp))
  have HR24 := Lib.hid (HR23.out.only hO4 (by simp))
  obtain ⟨B4, d4, rfl, -, -, -, hrow4⟩ := own_row hown4
  have HR4 := Lib.hid hrow4
  clear hO4 hown4 hrow4
  go_wp2_with fail
  refine (HFD.out B4 d4 _ _ HR4.out HO4.out).mono ?_
  rintro e w5 ⟨rfl, hO5⟩
  have HO5 := Lib.hid (HO4.out.trans hO5)
  have HR15 := Lib.hid (HR14.out.only hO5 (by simp))
  have HR25 := Lib.hid (HR24.out.only hO5 (by simp))
  clear hO5
  go_wp2_with fail
  refine (HRF.out B1 d1 _ _ HR15.out).mono ?_
  rintro e w6 ⟨rfl, hO6⟩
  have HO6 := Lib.hid (HO5.out.trans hO6)
  have HR16 := Lib.hid (HR15.out.only hO6 (by simp))
  have HR26 := Lib.hid (HR25.out.only hO6 (by simp))
  clear hO6
  go_wp2_with fail
  refine (HGG.out B2 d2 _ _ HR26.out).mono ?_
  rintro e w7 ⟨hO7, V7, rfl, hown7⟩
  have HO7 := Lib.hid (HO6.out.trans hO7)
  have HR17 := Lib.hid (HR16.out.only hO7 (by simp))
  have HR27 := Lib.hid (HR26.out.only hO7 (by simp))
  obtain ⟨B7, d7, rfl, -, -, -, hrow7⟩ := own_row hown7
  have HR7 := Lib.hid hrow7
  clear hO7 hown7 hrow7
  go_wp2_with fail
  refine (HFF.out B1 d1 _ _ HR17.out).mono ?_
  rintro e w8 ⟨hO8, V8, rfl, hown8⟩
  have HO8 := Lib.hid (HO7.out.trans hO8)
  have HR18 := Lib.hid (HR17.out.only hO8 (by simp))
  have HR28 := Lib.hid (HR27.out.only hO8 (by simp))
  have HR78 := Lib.hid (row_up (HR7.out.only hO8 (by simp)))
  obtain ⟨B8, d8, rfl, -, -, -, hrow8⟩ := own_row hown8
  have HR8 := Lib.hid hrow8
  clear hO8 hown8 hrow8
  go_wp2_with fail
  refine (HMP.out B7 B8 d7 d8 w8 HR78.out HR8.out HO8.out).mono ?_
  rintro e w9 ⟨hO9, g9, rfl, hrow9⟩
  have HO9 := Lib.hid (HO8.out.trans hO9)
  have HR19 := Lib.hid (row_up (HR18.out.only hO9 (by simp)))
  have HR29 := Lib.hid (row_up (HR28.out.only hO9 (by simp)))
  have HR9 := Lib.hid hrow9
  clear hO9 hrow9
  go_wp2_with fail
  refine (HRM.out B2 B1 d2 d1 w9 HR29.out HR19.out).mono ?_
  rintro e w10 ⟨hO10, V10, rfl, hown10⟩
  have HO10 := Lib.hid (HO9.out.trans hO10)
  have HR910 := Lib.hid (HR9.out.only hO10 (by simp))
  obtain ⟨B10, d10, rfl, -, -, -, hrow10⟩ := own_row hown10
  have HR10 := Lib.hid hrow10
  clear hO10 hown10 hrow10
  go_wp2_with fail
  refine (HSI.out _ B10 gs.length d10 w10 _ _ HR910.out HR10.out).mono ?_
  rintro e w11 ⟨rfl, q11, rfl⟩
  have HO11 := Lib.hid (HO10.out.drewN q11)
  go_wp2_with fail
  refine (HW.out _ HO11.out).mono ?_
  rintro e w12 ⟨rfl, hO12⟩
  have HO12 := Lib.hid (HO11.out.trans hO12)
  clear hO12
  go_wp2
  go_ret
  exact ⟨rfl, HO12.out⟩

end Go.Proofs.YtbojofkladpblaaDoor
