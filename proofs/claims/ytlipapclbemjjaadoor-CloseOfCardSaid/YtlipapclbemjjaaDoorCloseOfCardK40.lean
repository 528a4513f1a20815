/- slices.IndexFunc and slices.DeleteFunc at edges, with close.Thin's question. -/
import Derived.Test.YtlipapclbemjjaaDoorCloseOfCardK38
import Derived.Test.YtlipapclbemjjaaDoorCloseOfCardK31
set_option linter.unusedVariables false
set_option linter.unusedSimpArgs false
namespace Go.Proofs.YtlipapclbemjjaaDoor
open Go.RowKit
attribute [local go_sem ↓] Go.wp_at_zero Go.wp_at_succ
/-- What the question answers of these edges, in worlds that keep all but S. -/
def Asks (G : List (Int × Int)) (D : Int × Int → Bool) (c1 c2 : Value) (S : List Nat) (w : World) : Prop :=
 ∀ e ∈ G, ∀ W, Only S w W → Calls Tryd.prog 29 #[.agg #[.int .i64 e.1, .int .i64 e.2], c1, c2] W fun r w' => r = .returned (.bool (D e)) ∧ Only [] W w'
set_option maxRecDepth 10000 in
set_option maxHeartbeats 8000000 in
theorem index_any (A : Option Addr) (n c : Nat) (G : List (Int × Int)) (D : Int × Int → Bool) (c1 c2 : Value) (w : World) (hr : Row w w.heap.size A (edgeC G)) (hl : G.length = n) (hn : n ≤ 1000) (hD : Asks G D c1 c2 [] w) :
  Calls Tryd.prog 44 #[.slice A n c, .func (.func 29) #[] #[c1, c2]] w fun e w' => (∃ r : Int, e = .returned (.int .i64 r) ∧ ((r = -1 ∧ ∀ x ∈ G, D x = false) ∨ ∃ i : Nat, r = i ∧ (∀ x ∈ G.take i, D x = false) ∧ ∃ x, G[i]? = some x ∧ D x = true)) ∧ Only [] w w' := by
 have HR := Lib.hid hr
 have HL := Lib.hid hl
 have HD := Lib.hid hD
 clear hr hl hD
 go_enter Tryd.func44, Tryd.ntmps44
 go_wp2_with fail
 go_loopw [8] (fun iv wr => ∃ i : Nat, iv = .int .i64 i ∧ i ≤ n ∧ Hid (∀ x ∈ G.take i, D x = false) ∧ Hid (Only [] w wr)) (fun iv _ => n - (intOf iv).toNat)
 case atStart => exact ⟨0, rfl, by omega, Lib.hid (fun x hx => by simp at hx), Lib.hid (Only.refl [] w)⟩
 case round =>
  obtain ⟨i, rfl, hi, hA, hO⟩ := hrel
  by_cases hlt : i < n
  ·obtain ⟨x, hx⟩ : ∃ x, G[i]? = some x := ⟨_, List.getElem?_eq_getElem (by rw [HL.out]; exact hlt)⟩
   obtain ⟨x0, x1⟩ := x
   obtain ⟨b, off, rfl, -, hbw, hcell⟩ := HR.out.open_ (k := i * 2) (by rw [edgeC_len, HL.out]; omega)
   have hge := edgeC_get G i _ hx
   have d0 := (hO.out.cell (p := ⟨b, off + i * 2, none⟩) hbw (by simp)).trans (hcell _ _ hge.1)
   have d1 := (hO.out.cell (p := ⟨b, off + (i * 2 + 1), none⟩) hbw (by simp)).trans (hcell _ _ hge.2)
   rw [← Nat.add_assoc] at d1
   have hbr := Nat.lt_of_lt_of_le hbw hO.out.size
   have HAK := Lib.hid (HD.out _ (List.mem_of_getElem? hx) wr hO.out)
   have HX := Lib.hid hx
   have h01 : (i : Int) < (n : Int) := by omega
   have hi0 : (0 : Int) ≤ (i : Int) := Int.natCast_nonneg _
   have hwi : IntKind.i64.wrap ((i : Int) + 1) = (i : Int) + 1 := IntWalk.i64_in _ (by omega)
   have HTK : Hid (∀ z, z ∈ G.take (i + 1) ↔ z ∈ G.take i ∨ z = (x0, x1)) := Lib.hid (fun z => by rw [List.take_add_one, hx]; simp)
   clear hcell hge hx
   dsimp only at d0 d1 HAK
   go_wp2_with fail
   refine (HAK.out).mono ?_
   rintro e w2 ⟨rfl, O2⟩
   have HO2 := Lib.hid (hO.out.trans O2)
   clear O2 d0 d1 hbr
   cases hd : D (x0, x1) with
   | true =>
    have HDD := Lib.hid hd
    clear hd
    go_wp2
    go_ret
    exact ⟨⟨_, rfl, .inr ⟨i, rfl, hA.out, _, HX.out, HDD.out⟩⟩, HO2.out⟩
   | false =>
    have HAN : Hid (∀ x ∈ G.take (i + 1), D x = false) := Lib.hid (fun z hz => by
     rcases (HTK.out z).1 hz with h | rfl
     ·exact hA.out z h
     ·exact hd)
    clear hd
    go_wp2
    go_roundw
    case rel => first | exact ⟨i + 1, by go_num, by omega, HAN, HO2⟩ | exact ⟨_, ⟨i + 1, by go_num, by omega, HAN, HO2⟩, rfl⟩
    case measure => simp [intOf]; omega
  ·have hin : i = n := by omega
   subst hin
   have hd : decide ((i : Int) < (i : Int)) = false := by simp
   have HAA : Hid (∀ x ∈ G, D x = false) := Lib.hid (fun z hz => hA.out z (by rw [List.take_of_length_le (by rw [HL.out]; exact Nat.le_refl _)]; exact hz))
   go_wp2
   go_ret
   exact ⟨⟨_, rfl, .inl ⟨rfl, HAA.out⟩⟩, hO.out⟩
set_option maxRecDepth 10000 in
set_option maxHeartbeats 8000000 in
theorem delete_any (base : Nat) (A : Option Addr) (n c : Nat) (G : List (Int × Int)) (D : Int × Int → Bool) (c1 c2 : Value) (w : World) (hV : w.ownsRow base 47 2 (.slice A n c) n (edgeC G)) (hl : G.length = n) (hn : n ≤ 1000) (hD : Asks G D c1 c2 (Value.slice A n c).ownBlock.toList w) :
  Calls Tryd.prog 28 #[.slice A n c, .func (.func 29) #[] #[c1, c2]] w fun e w' => ∃ m, (e = .returned (.slice A m c) ∧ w'.ownsRow base 47 2 (.slice A m c) m (edgeC (G.filter fun x => !D x)) ∧ (G.filter fun x => !D x).length = m) ∧ Only (Value.slice A n c).ownBlock.toList w w' := by
 have HI := Lib.hid (index_any A n c G D c1 c2 w (row_of_own hV) hl hn (fun e he W O => hD e he W (O.wide (fun i hi => by cases hi))))
 have HV := Lib.hid hV
 have HL := Lib.hid hl
 have HD := Lib.hid hD
 clear hV hl hD
 go_enter Tryd.func28, Tryd.ntmps28
 go_wp2_with fail
 refine (HI.out).mono ?_
 rintro e w1 ⟨⟨r, rfl, ⟨rfl, hall⟩ | ⟨i, rfl, hlow, x, hx, hdx⟩⟩, O1⟩
 ·have HF : Hid (G.filter (fun x => !D x) = G) := Lib.hid (List.filter_eq_self.2 (fun x hx => by rw [hall x hx]; rfl))
  have HV1 := Lib.hid (own_only HV.out O1 (by simp))
  have HO1 := Lib.hid (O1.wide (T := (Value.slice A n c).ownBlock.toList) (fun i hi => by cases hi))
  clear O1 hall HI
  go_wp2
  go_ret
  exact ⟨n, ⟨rfl, by rw [HF.out]; exact HV1.out, by rw [HF.out]; exact HL.out⟩, HO1.out⟩
 ·have hin : i < n := by have := (List.getElem?_eq_some_iff.1 hx).1; have := HL.out; omega
  obtain ⟨g, rfl⟩ : ∃ g, A = some ⟨g, 0, none⟩ := by
   rcases HV.out.2 with ⟨h, -⟩ | ⟨g, cap, cur, h, -⟩
   ·injection h with h1 h2 h3
    omega
   ·injection h with h1 h2 h3
    exact ⟨g, h1⟩
  have hOB : (Value.slice (some ⟨g, 0, none⟩) n c).ownBlock = some g := rfl
  have HD2 : Hid (Asks G D c1 c2 [g] w) := HD
  have hnc := own_cap HV.out
  have hcm := own_max HV.out
  have HV1 := Lib.hid (own_only HV.out O1 (by simp))
  have HO1 := Lib.hid (O1.wide (T := [g]) (fun i hi => by cases hi))
  have HI1 := Lib.hid (DelInv.start hlow hx hdx)
  have hwi : IntKind.i64.wrap ((i : Int) + 1) = (i : Int) + 1 := IntWalk.i64_in _ (by omega)
  have hi1 : ((i : Int) == -1) = false := by simp
  have hi2 : ¬ ((i : Int) = -1) := by omega
  clear O1 hlow hx hdx HI HV HD
  go_wp2_with fail
  go_loopw [5, 6] (fun iv jv wr => ∃ (i j : Nat) (L : List (Int × Int)), iv = .int .i64 i ∧ jv = .int .i64 j ∧ j ≤ n ∧ Hid (DelInv D G L i j) ∧ Hid (wr.ownsRow base 47 2 (.slice (some ⟨g, 0, none⟩) n c) n (edgeC L)) ∧ Hid (Only [g] w wr)) (fun _ jv _ => n - (intOf jv).toNat)
  case atStart => exact ⟨i, i + 1, G, rfl, by go_num, by omega, HI1, HV1, HO1⟩
  case round =>
   obtain ⟨i', j, L, rfl, rfl, hj, hI, hV, hO⟩ := hrel
   clear HI1 HV1 HO1
   have hij := hI.out.lt
   have hLl : L.length = n := by rw [hI.out.len, HL.out]
   by_cases hlt : j < n
   ·obtain ⟨x, hx⟩ : ∃ x, G[j]? = some x := ⟨_, List.getElem?_eq_getElem (by rw [HL.out]; exact hlt)⟩
    obtain ⟨y, hy⟩ : ∃ y, L[i']? = some y := ⟨_, List.getElem?_eq_getElem (by omega)⟩
    obtain ⟨x0, x1⟩ := x
    have hxL := hI.out.at_.trans hx
    obtain ⟨d0, d1, -, -⟩ := own_open hV.out hOB hxL
    obtain ⟨y0, y1, f0, f1⟩ := own_open hV.out hOB hy
    have HAK := Lib.hid (fun W O => HD2.out _ (List.mem_of_getElem? hx) W (hO.out.trans O))
    have hgl : g < wr.heap.size := own_lt hV.out (by rw [hOB]; simp)
    have HX := Lib.hid hx
    have h01 : (j : Int) < (n : Int) := by omega
    have hj0 : (0 : Int) ≤ (j : Int) := Int.natCast_nonneg _
    have h02 : (i' : Int) < (n : Int) := by omega
    have hi0 : (0 : Int) ≤ (i' : Int) := Int.natCast_nonneg _
    have hwj : IntKind.i64.wrap ((j : Int) + 1) = (j : Int) + 1 := IntWalk.i64_in _ (by omega)
    have hwi' : IntKind.i64.wrap ((i' : Int) + 1) = (i' : Int) + 1 := IntWalk.i64_in _ (by omega)
    clear hx hy hxL
    dsimp only at d0 d1 HAK
    go_wp2_with fail
    refine (HAK.out _ (((Only.refl [] wr).alloc _).wide (fun i hi => by cases hi))).mono ?_
    rintro e w2 ⟨rfl, O2⟩
    have HO2 := Lib.hid (((Only.refl [] wr).alloc (.cells #[.int .i64 x0, .int .i64 x1] 47)).trans O2)
    have hB := O2.blk (Blk.made wr 47 #[.int .i64 x0, .int .i64 x1]) (by simp)
    have v0 := hB.at_ 0
    have v1 := hB.at_ 1
    simp at v0 v1
    have lv := hB.lt
    have hgv : g ≠ wr.heap.size := by omega
    clear d0 d1 y0 y1 f0 f1 O2 hB
    generalize wr.heap.size = gv at *
    have HV2 := Lib.hid (own_only hV.out HO2.out (by simp))
    have HOW := Lib.hid (hO.out.trans (HO2.out.wide (fun i hi => by cases hi)))
    obtain ⟨y, hy⟩ : ∃ y, L[i']? = some y := ⟨_, List.getElem?_eq_getElem (by omega)⟩
    obtain ⟨y0, y1, f0, f1⟩ := own_open HV2.out hOB hy
    clear hy hV HO2 hO HAK
    have hg2 : g < w2.heap.size := own_lt HV2.out (by rw [hOB]; simp)
    cases hd : D (x0, x1) with
    | true =>
     have HIN := Lib.hid (hI.out.skip HX.out hd)
     clear hd
     go_wp2
     go_roundw
     case rel => first | exact ⟨i', j + 1, L, rfl, by go_num, by omega, HIN, HV2, HOW⟩ | exact ⟨_, _, ⟨i', j + 1, L, rfl, by go_num, by omega, HIN, HV2, HOW⟩, rfl, rfl⟩ | exact ⟨_, ⟨i', j + 1, L, rfl, by go_num, by omega, HIN, HV2, HOW⟩, rfl⟩
     case measure => simp [intOf]; omega
    | false =>
     have HIN := Lib.hid (hI.out.move HX.out hd)
     have HVN := Lib.hid (own_edge HV2.out hOB i' x0 x1)
     have HON := Lib.hid (only_cells g [.int .i64 x0, .int .i64 x1] (i' * 2) w w2 HOW.out (fun _ => by simp))
     clear hd
     go_wp2
     go_roundw
     case rel => first | exact ⟨i' + 1, j + 1, _, by go_num, by go_num, by omega, HIN, HVN, HON⟩ | exact ⟨_, _, ⟨i' + 1, j + 1, _, by go_num, by go_num, by omega, HIN, HVN, HON⟩, rfl, rfl⟩
     case measure => simp [intOf]; omega
   ·have hjn : j = n := by omega
    subst hjn
    have hd : decide ((j : Int) < (j : Int)) = false := by simp
    have HE : Hid (L.take i' = G.filter fun x => !D x) := Lib.hid (by
     have h2 := hI.out.low
     rw [← HL.out, List.take_length] at h2
     exact h2)
    have HT := Lib.hid (own_take hV.out i' (by omega))
    have hs1 : ∀ W, (Instr.slice 22 (.slice (some ⟨g, 0, none⟩) j c) (some (.int .i64 (i' : Int))) none none).run Tryd.prog W = .ok (.slice (some ⟨g, i' * 2, none⟩) (j - i') (c - i')) W := fun W => by
     rw [slice_from _ j c i' (by omega) W, if_neg (by omega)]
     simp [Addr.add]
     try (intro h; omega)
    have hs2 := fun W => slice_to (some ⟨g, 0, none⟩) j c i' (by omega) W
    obtain ⟨vs, hvs⟩ := clear_edges (P := Tryd.prog) wr 22 47 Tryd.underlying22 (fun _ => by kernel_rfl) g (i' * 2) (j - i') (c - i') (by omega)
     (fun q hq => by
      have hk : (i' * 2 + q) / 2 < L.length := by omega
      obtain ⟨z, hz⟩ : ∃ z, L[(i' * 2 + q) / 2]? = some z := ⟨_, List.getElem?_eq_getElem hk⟩
      obtain ⟨z0, z1, -, -⟩ := own_open hV.out hOB hz
      rcases Nat.mod_two_eq_zero_or_one (i' * 2 + q) with h | h
      ·rw [show (i' * 2 + q) / 2 * 2 = i' * 2 + q by omega] at z0
       rw [z0]; rfl
      ·rw [show (i' * 2 + q) / 2 * 2 + 1 = i' * 2 + q by omega] at z1
       rw [z1]; rfl)
     (fun q hq => by obtain ⟨cur, hb⟩ := own_blk hV.out hOB; exact hb.free _)
    have HTK : Hid ((wr.setCells g (i' * 2) vs).ownsRow base 47 2 (.slice (some ⟨g, 0, none⟩) i' c) i' (edgeC (G.filter fun x => !D x))) := Lib.hid (by
     have h1 := HT.out
     rw [← edgeC_take, HE.out] at h1
     refine own_pasts rfl vs (i' * 2) wr h1 ?_
     rw [edgeC_len, ← HE.out, List.length_take]
     omega)
    have HOC := Lib.hid (only_cells g vs (i' * 2) w wr hO.out (fun _ => by simp))
    have HLN : Hid ((G.filter fun x => !D x).length = i') := Lib.hid (by rw [← HE.out, List.length_take]; omega)
    clear HE HT hV hO hI
    go_wp2
    go_ret
    exact ⟨i', ⟨rfl, HTK.out, HLN.out⟩, HOC.out⟩
end Go.Proofs.YtlipapclbemjjaaDoor
