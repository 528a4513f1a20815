/- Parts. -/
import Derived.Test.YtlnlppabeddclaaDoorLaw23AllK22
import Derived.Deep.CutBlock
import Derived.Deep.DeepCutAuto
set_option maxRecDepth 10000
set_option maxHeartbeats 16000000
set_option linter.unusedVariables false
set_option linter.unusedSimpArgs false
namespace Go.Proofs.YtlnlppabeddclaaDoor
open Go.RowKit
attribute [local go_sem ↓] Go.wp_at_zero Go.wp_at_succ
theorem make_marks (n : Nat) (hn : n ≤ 500) (w : World) : (Instr.makeSlice 66 (.int .i64 (n : Int)) (.int .i64 (n : Int))).run Tryd.prog w = .ok (.slice (some ⟨w.heap.size, 0, none⟩) n n) (w.alloc (.cells (markC n []) 4)) := by
 obtain ⟨i0, hi, hz0, hz1, hz2⟩ := info_parts info_bool;have := run_make (P := Tryd.prog) w 66 4 i0 _ Tryd.underlying66 hi hz0 .i64 .i64 (n : Int) (n : Int) (by omega) (by omega) (by rw [hz2]; omega) (by omega);rw [hz1] at this;simp only [Int.toNat_natCast, Nat.mul_one] at this;rw [← made_mark];exact this
def isTrue : Value → Bool
 | .bool true => true
 | _ => false
def leftW' (w : World) (b n : Nat) : Nat := ((List.range n).filter fun i : Nat => match w.cell? ⟨b, i, none⟩ with
 | some (.bool false) => true
 | _ => false).length
theorem leftW_mark {w : World} {b n : Nat} {K : List Int} (h : Blk w b 4 (markC n K)) : leftW' w b n = leftK n K := by
 unfold leftW' leftK
 congr 1
 refine List.filter_congr fun i hi => ?_;rw [(h.at_ i).trans (markC_at n K i (List.mem_range.1 hi))]
 cases decide ((i : Int) ∈ K) <;> rfl
theorem rfrom_any (n a : Nat) (A : Option Addr) (m c B : Nat) (l : List (Int × Int)) (w : World) (hr : Row w B A (edgeC l)) (hl : l.length = m) (hm : m ≤ 100000) (hn : n ≤ 500) (wf : WfE n l) :
    Calls Tryd.prog 30 #[.int .i64 (n : Int), .slice A m c, .int .i64 (a : Int)] w fun e w' => ∃ A' c', (e = .returned (.slice A' (reachL n l a).length c') ∧ w'.ownsRow w.heap.size 3 1 (.slice A' (reachL n l a).length c') (reachL n l a).length ((reachL n l a).map (Value.int .i64))) ∧ Only [] w w' := by
  obtain ⟨i0, hi, hz0, hz1, hz2⟩ := info_parts info_int
  have HR := Hd hr
  have HL := Hd hl
  have HWF := Hd wf
  have hmk := fun W => make_marks n hn W
  clear hr hl wf
  go_enter Tryd.func30, Tryd.ntmps30
  go_upto_region 2 with (fail)
  have HM0 := Hd (Blk.made w 4 (markC n []))
  have HO0 := Hd ((Only.refl [] w).alloc (.cells (markC n []) 4))
  clear hmk
  have hszb : w.heap.size < (w.alloc (.cells (markC n []) 4)).heap.size := by simp
  generalize (w.alloc (.cells (markC n []) 4)) = w1 at *
  generalize hb : w.heap.size = b at *
  go_wp2_with fail
  go_loopw [8, 9] (fun mv fv wr => ∃ (K : List Int) (more fst_ : Bool), mv = .bool more ∧ fv = .bool fst_ ∧ Hid (Blk wr b 4 (markC n K)) ∧ Hid (MarkR n l a K) ∧ Hid (SuccK fst_ l a K) ∧ Hid (ClosK more l a K) ∧ Hid (Only [b] w1 wr)) (fun mv _ wr => leftW' wr b n + if isTrue mv = true then 1 else 0)
  case atStart => exact ⟨[], true, true, rfl, rfl, HM0, Hd ⟨fun x hx => by cases hx⟩, Hd (show SuccK _ _ _ _ from fun h => by cases h), Hd (show ClosK _ _ _ _ from fun h => by cases h), Hd (Only.refl _ _)⟩
  case round =>
    obtain ⟨K, more, fst_, rfl, rfl, hB, hW, hF, hC, hO⟩ := hrel
    clear HM0
    have HLF := Hd (leftW_mark hB.out)
    cases more with
    | true =>
      obtain ⟨wk, hwk⟩ : ∃ wo : World, wo = wr := ⟨_, rfl⟩
      subst hwk
      go_wp2_with fail
      go_loopw [8, 10] (fun mv iv wr => ∃ (i : Nat) (K' : List Int) (more' : Bool), iv = .int .i64 i ∧ i ≤ m ∧ mv = .bool more' ∧ Hid (Blk wr b 4 (markC n K')) ∧ Hid (MarkR n l a K') ∧ Hid (∀ x ∈ K, x ∈ K') ∧ Hid (FirstK fst_ (l.take i) a K') ∧
        Hid (SameK more' (l.take i) K K') ∧ Hid (LeftOk n more' K K') ∧ Hid (Only [b] wk wr)) (fun _ iv _ => m - (intOf iv).toNat)
      case atStart => exact ⟨0, K, false, rfl, by omega, rfl, hB, hW, Hd (fun x h => h), Hd (show FirstK _ _ _ _ from fun _ y h => by simp at h), Hd (show SameK _ _ _ _ from fun _ => ⟨rfl, fun x y h => by simp at h⟩), Hd (show LeftOk _ _ _ _ from by unfold LeftOk; simp), Hd (Only.refl _ _)⟩
      case round =>
        obtain ⟨i, K', more', rfl, hi', rfl, hB', hW', hS', hF', hC', hL', hO'⟩ := hrel
        by_cases hlt : i < m
        · obtain ⟨e, he⟩ : ∃ e, l[i]? = some e := ⟨_, List.getElem?_eq_getElem (by rw [HL.out]; exact hlt)⟩
          obtain ⟨ex, ey, rfl, hxn, hyn⟩ := HWF.out e (List.mem_of_getElem? he)
          have HOA : Hid (Only [] w wr) := Hd (HO0.out.step (hO.out.trans hO'.out) (fun i hi hl => by simp at hi; omega))
          obtain ⟨be, off, rfl, -, hbw, hcell⟩ := HR.out.open_ (k := i * 2) (by rw [edgeC_len, HL.out]; omega)
          have hg := edgeC_get l i _ he
          have e0 := (HOA.out.cell (p := ⟨be, off + i * 2, none⟩) hbw (by simp)).trans (hcell _ _ hg.1)
          have e1 := (HOA.out.cell (p := ⟨be, off + (i * 2 + 1), none⟩) hbw (by simp)).trans (hcell _ _ hg.2)
          rw [show off + (i * 2 + 1) = off + i * 2 + 1 by omega] at e1
          have hber : be < wr.heap.size := Nat.lt_of_lt_of_le hbw HOA.out.size
          dsimp only at e0 e1
          have k0 := (hB'.out.at_ ex).trans (markC_at n K' ex hxn)
          have k1 := (hB'.out.at_ ey).trans (markC_at n K' ey hyn)
          have f1 := hB'.out.free ey
          have lb := hB'.out.lt
          have hED : Hid (edR l ex ey) := Hd (List.mem_of_getElem? he)
          have HTK : Hid (∀ z, z ∈ l.take (i + 1) ↔ z ∈ l.take i ∨ z = ((ex : Int), (ey : Int))) := Hd (fun z => by rw [List.take_add_one, he]; simp)
          have h01 : (i : Int) < (m : Int) := by omega
          have hi0 : (0 : Int) ≤ (i : Int) := Int.natCast_nonneg _
          have hx0 : (0 : Int) ≤ (ex : Int) := Int.natCast_nonneg _
          have hy0 : (0 : Int) ≤ (ey : Int) := Int.natCast_nonneg _
          have hxn' : (ex : Int) < (n : Int) := by omega
          have hyn' : (ey : Int) < (n : Int) := by omega
          have hwi : IntKind.i64.wrap ((i : Int) + 1) = (i : Int) + 1 := IntWalk.i64_in _ (by omega)
          obtain ⟨ea, hea⟩ : ∃ ea, ea = ((ex : Int) == (a : Int)) := ⟨_, rfl⟩
          obtain ⟨kx, hkx⟩ : ∃ kx, kx = decide ((ex : Int) ∈ K') := ⟨_, rfl⟩
          obtain ⟨ky, hky⟩ : ∃ ky, ky = decide ((ey : Int) ∈ K') := ⟨_, rfl⟩
          rw [← hkx] at k0
          rw [← hky] at k1
          have HEA := Hd hea
          have HKX := Hd hkx
          have HKY := Hd hky
          have hea' := hea.symm
          clear he hcell hg hea hkx hky
          cases hcnd : (((ea && fst_) || kx) && !ky) with
          | false =>
            have HNF : Hid (FirstK fst_ (l.take (i + 1)) a K') := Hd (fun hf y hm => by
              rcases (HTK.out _).1 hm with h | h
              · exact hF'.out hf y h
              · injection h with h1 h2
                have h3 : ea = true := by rw [HEA.out]; simp; omega
                rw [h3, hf] at hcnd
                simp at hcnd
                rw [HKY.out] at hcnd
                rw [h2]
                simpa using hcnd)
            have HNC : Hid (SameK more' (l.take (i + 1)) K K') := Hd (fun hf => by
              obtain ⟨h1, h2⟩ := hC'.out hf
              refine ⟨h1, fun x y hm hx => ?_⟩
              rcases (HTK.out _).1 hm with h | h
              · exact h2 x y h hx
              · injection h with h3 h4
                have h5 : kx = true := by rw [HKX.out, ← h3, h1]; simpa using hx
                rw [h5] at hcnd
                simp at hcnd
                rw [HKY.out, h1] at hcnd
                rw [h4]
                simpa using hcnd)
            clear hF' hC' HTK
            cases ea <;> cases fst_ <;> cases kx <;> cases ky <;> first
              | (simp at hcnd; done)
              | (clear hcnd
                 go_wp2
                 go_roundw
                 case rel => first | exact ⟨i + 1, K', more', by go_num, by omega, rfl, hB', hW', hS', HNF, HNC, hL', hO'⟩ | exact ⟨_, ⟨i + 1, K', more', by go_num, by omega, rfl, hB', hW', hS', HNF, HNC, hL', hO'⟩, rfl⟩
                 case measure => simp [intOf]; omega)
          | true =>
            have hky0 : (ey : Int) ∉ K' := by
              simp only [Bool.and_eq_true, Bool.not_eq_true'] at hcnd
              have := hcnd.2
              rw [HKY.out] at this
              simpa using this
            have hxo : ex = a ∨ (ex : Int) ∈ K' := by
              simp only [Bool.and_eq_true, Bool.or_eq_true] at hcnd
              rcases hcnd.1 with h | h
              · left
                have := h.1
                rw [HEA.out] at this
                simp at this
                omega
              · right
                rw [HKX.out] at h
                simpa using h
            have HWN := Hd (mark_snoc HWF.out hW'.out hED.out hxo)
            have HSN : Hid (∀ x ∈ K, x ∈ K' ++ [(ey : Int)]) := Hd (fun x hx => List.mem_append_left _ (hS'.out x hx))
            have HNF : Hid (FirstK fst_ (l.take (i + 1)) a (K' ++ [(ey : Int)])) := Hd (fun hf y hm => by
              rcases (HTK.out _).1 hm with h | h
              · exact List.mem_append_left _ (hF'.out hf y h)
              · injection h with h1 h2
                rw [h2]
                simp)
            have HNC : Hid (SameK true (l.take (i + 1)) K (K' ++ [(ey : Int)])) := Hd (fun hf => by cases hf)
            have HLN : Hid (LeftOk n true K (K' ++ [(ey : Int)])) := Hd (by
              have h1 := hL'.out
              have h2 := leftK_snoc (n := n) hyn hky0
              unfold LeftOk at h1 ⊢
              rw [if_pos rfl]
              split at h1 <;> omega)
            have HBN : Hid (Blk (wr.setCell ⟨b, ey, none⟩ (.bool true)) b 4 (markC n (K' ++ [(ey : Int)]))) := Hd (by
              rw [markC_snoc n K' ey hyn]
              exact hB'.out.put ey (.bool true))
            have HON : Hid (Only [b] wk (wr.setCell ⟨b, ey, none⟩ (.bool true))) := Hd (hO'.out.put (p := ⟨b, ey, none⟩) (fun _ => by simp) (.bool true))
            clear hS' hF' hC' HTK hL' hxo
            cases ea <;> cases fst_ <;> cases kx <;> cases ky <;> first
              | (simp at hcnd; done)
              | (clear hcnd
                 go_wp2
                 go_roundw
                 case rel => first | exact ⟨i + 1, _, true, by go_num, by omega, rfl, HBN, HWN, HSN, HNF, HNC, HLN, HON⟩ | exact ⟨_, ⟨i + 1, _, true, by go_num, by omega, rfl, HBN, HWN, HSN, HNF, HNC, HLN, HON⟩, rfl⟩
                 case measure => simp [intOf]; omega)
        · have him : i = m := by omega
          subst him
          have hd : decide ((i : Int) < (i : Int)) = false := by simp
          have htl : l.take i = l := List.take_of_length_le (by rw [HL.out]; exact Nat.le_refl _)
          have HSU : Hid (SuccK false l a K') := Hd (fun _ y hy => by
            cases hf : fst_ with
            | true => exact hF'.out hf y (by rw [htl]; exact hy)
            | false => exact hS'.out _ (hF.out hf y hy))
          have HCL : Hid (ClosK more' l a K') := Hd (fun hm' => by
            obtain ⟨h1, h2⟩ := hC'.out hm'
            refine ⟨fun y hy => HSU.out rfl y hy, fun x y hxy hx => ?_⟩
            rw [h1] at hx ⊢
            exact h2 x y (by rw [htl]; exact hxy) hx)
          have HOO := Hd (hO.out.trans hO'.out)
          have HL2 := Hd (leftW_mark hB'.out)
          have hle := hL'.out
          unfold LeftOk at hle
          go_wp2
          go_roundw
          case rel => first | exact ⟨K', more', false, rfl, rfl, hB', hW', HSU, HCL, HOO⟩ | exact ⟨_, ⟨K', more', false, rfl, rfl, hB', hW', HSU, HCL, HOO⟩, rfl⟩ | exact ⟨_, _, ⟨K', more', false, rfl, rfl, hB', hW', HSU, HCL, HOO⟩, rfl, rfl⟩
          case measure =>
            rw [HL2.out, HLF.out]
            cases more' <;> simp [isTrue] at hle ⊢ <;> omega
    | false =>
      have HCC := Hd (hC.out rfl)
      have HOB : Hid (Only [] w wr) := Hd (HO0.out.step hO.out (fun i hi hl => by simp at hi; omega))
      have HME := Hd (mark_all HWF.out hW.out HCC.out)
      clear hF hC HLF hO hW HCC
      obtain ⟨wo, hwo⟩ : ∃ wo : World, wo = wr := ⟨_, rfl⟩
      subst hwo
      go_wp2_with fail
      have HV0 : Hid ((wo.alloc (.cells #[] 3)).ownsRow b 3 1 (.slice (some ⟨wo.heap.size, 0, none⟩) 0 0) (markL 0 K).length ((markL 0 K).map (Value.int .i64))) := Hd (World.ownsRow_lit wo (e := 3) (size := 1) #[] 0 (by have := hB.out.lt; omega) (by unfold maxLen; omega) rfl)
      have HB0 := Hd (hB.out.alloc (.cells #[] 3))
      have HO2 := Hd (HOB.out.alloc (.cells #[] 3))
      go_loopw [11, 12] (fun V jv wr => ∃ k : Nat, jv = .int .i64 k ∧ k ≤ n ∧ Hid (Blk wr b 4 (markC n K)) ∧ Hid (wr.ownsRow b 3 1 V (markL k K).length ((markL k K).map (Value.int .i64))) ∧ Hid (Only [] w wr)) (fun _ jv _ => n - (intOf jv).toNat)
      case atStart => exact ⟨0, rfl, by omega, HB0, HV0, HO2⟩
      case round =>
        obtain ⟨k, rfl, hk, hB2, hV2, hO2⟩ := hrel
        clear HV0 HB0 HO2
        by_cases hlt : k < n
        · have k0 := (hB2.out.at_ k).trans (markC_at n K k hlt)
          have lb := hB2.out.lt
          have h01 : (k : Int) < (n : Int) := by omega
          have hk0 : (0 : Int) ≤ (k : Int) := Int.natCast_nonneg _
          have hwk : IntKind.i64.wrap ((k : Int) + 1) = (k : Int) + 1 := IntWalk.i64_in _ (by omega)
          have HMS := Hd (markL_succ k K)
          have hml := markL_len k K
          cases hin : decide ((k : Int) ∈ K) with
          | false =>
            rw [hin] at k0
            have HE : Hid (markL (k + 1) K = markL k K) := Hd (by rw [HMS.out, if_neg (by simpa using hin)]; simp)
            clear hin
            have HVR := Hd hV2.out
            rw [← HE.out] at HVR
            go_wp2
            go_roundw
            case rel => first | exact ⟨k + 1, by go_num, by omega, hB2, HVR, hO2⟩ | exact ⟨_, ⟨k + 1, by go_num, by omega, hB2, HVR, hO2⟩, rfl⟩
            case measure => simp [intOf]; omega
          | true =>
            rw [hin] at k0
            have HE : Hid (markL (k + 1) K = markL k K ++ [(k : Int)]) := Hd (by rw [HMS.out, if_pos (by simpa using hin)])
            clear hin
            obtain ⟨M, hM⟩ : ∃ M, M = (markL k K).length := ⟨_, rfl⟩
            rw [← hM] at hV2 hml
            have HM := Hd hM
            clear hM
            go_wp2_with (
              at_builtin
              refine wpList_append_row _ rfl (.tmp 70) (.tmp 72) 25 rfl b 3 i0 _ 1 8 Tryd.underlying25 hi hz0 hz1 hz2 rfl (by omega) _ M ((markL k K).map (Value.int .i64)) (by rfl) (own_only hV2.out ((Only.refl [] wr).alloc (.cells #[.int .i64 (k : Int)] 3)) (fun _ _ => by simp)) _ _ 1 1 [.int .i64 (k : Int)] (by rfl) (by rfl) (row_lit _ _ _) (by intro u hu; simp at hu; subst hu; rfl) (by unfold maxLen; omega) (by omega) (by simp; omega) ?_
              intro v' w3 hown hgrow hat
              have OA := (Only.refl [] wr).alloc (.cells #[.int .i64 (k : Int)] 3)
              have OV := only_grown hgrow
              have HOWN := Hd hown
              have HB3 := Hd (OV.blk (OA.blk hB2.out (by simp)) (own_apart (own_only hV2.out OA (by simp)) (OA.blk hB2.out (by simp)) (by decide)))
              have HO3 := Hd ((hO2.out.trans OA).step OV (fun i hi hl => by have := ((own_only hV2.out OA (by simp)).lt i (by simpa using hi)).1; omega))
              clear hown)
            go_roundw
            case rel =>
              have HVR : Hid (w3.ownsRow b 3 1 v' (markL (k + 1) K).length ((markL (k + 1) K).map (Value.int .i64))) := Hd (by
                rw [HE.out, List.length_append, List.map_append, ← HM.out]
                exact HOWN.out)
              first | exact ⟨k + 1, by go_num, by omega, HB3, HVR, HO3⟩ | exact ⟨_, ⟨k + 1, by go_num, by omega, HB3, HVR, HO3⟩, rfl⟩
            case measure => simp [intOf]; omega
        · have hkn : k = n := by omega
          subst hkn
          have hd : decide ((k : Int) < (k : Int)) = false := by simp
          have HRE : Hid (markL k K = reachL k l a) := Hd (by unfold markL reachL; rw [HME.out])
          rw [HRE.out] at hV2
          obtain ⟨A', c', hV, -, -, -, -⟩ := own_row hV2.out
          subst hV
          go_wp2
          go_ret
          exact ⟨A', c', ⟨rfl, by rw [hb]; exact hV2.out⟩, hO2.out⟩
end Go.Proofs.YtlnlppabeddclaaDoor
