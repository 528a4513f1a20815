/- Parts. -/
import Derived.Test.YtojpohmijlkagaaDoorLaw43AllK38
import Derived.Test.YtojpohmijlkagaaDoorLaw43AllK15
set_option maxRecDepth 10000
set_option maxHeartbeats 16000000
set_option linter.unusedVariables false
set_option linter.unusedSimpArgs false
namespace Go.Proofs.YtojpohmijlkagaaDoor
open Go.RowKit
open Go.Lib hiding intOf
attribute [local go_sem ↓] Go.wp_at_zero Go.wp_at_succ
theorem tinfo_rword : (Tryd.prog.info? 87).map (fun i => (i.zero, i.size, i.bytes)) = some (some (.agg #[.string ⟨#[]⟩, .int .i64 0]), 2, 24) := by kernel_rfl
def FrLt (fr : Option Nat) (i : Nat) : Prop := ∀ f, fr = some f → f < i
def NoNl (l : List UInt8) (k : Nat) : Prop := ∀ j, j < k → l[j]? ≠ some 10
theorem rwords_any (s : ByteArray) (w : World) (hs : s.size ≤ 65535) :
    Calls Tryd.prog 23 #[.string s] w fun e w' => Only [] w w' ∧
      ((badL (by_ s) = true ∧ e = .returned (.tuple #[.slice none 0 0, .int .i64 5])) ∨
       (badL (by_ s) = false ∧ ∃ V, e = .returned (.tuple #[V, .int .i64 0]) ∧ w'.ownsRow w.heap.size 87 2 V (wordsOf (by_ s)).length (wordsV s (wordsOf (by_ s))))) := by
  obtain ⟨i0, hi, hz0, hz1, hz2⟩ := info_parts tinfo_rword
  have HR := Hd (rrunes_any s w (by omega))
  have HAH := Hd (rahead_any s w (by omega))
  have hal := ahead_len (by_ s)
  rw [by_length] at hal
  have HTB : Hid (by_ (s.extract 0 (aheadL (by_ s)).length) = aheadL (by_ s)) := Hd (by rw [by_extract, List.drop_zero, ahead_take])
  have htz : (s.extract 0 (aheadL (by_ s)).length).size = (aheadL (by_ s)).length := by rw [ByteArray.size_extract]; omega
  have HBAD : Hid (badL (by_ s) = (!validD (by_ s) || (by_ s).contains 10)) := Hd rfl
  obtain ⟨vb, hvb⟩ : ∃ vb, vb = validD (by_ s) := ⟨_, rfl⟩
  rw [← hvb] at HR HBAD
  generalize (if vb = true then (runeCount s : Int) else 0) = rn at *
  have HCOL : Hid (∀ (f : Nat) (w' : World), vb = true → Calls Tryd.prog 45 #[.string s, .int .i64 (f : Int)] w' fun e w'' => e = .returned (.int .i64 (leads ((by_ s).take f) : Nat)) ∧ w'' = w') := Hd (fun f w' hv => by
    have := rcol_any s (f : Int) w' (by omega)
    rw [col_leads s f (by rw [← hvb]; exact hv)] at this
    exact this.mono fun e w'' ⟨h1, h2⟩ => ⟨h1, h2.symm⟩)
  clear hvb
  generalize s.extract 0 (aheadL (by_ s)).length = t at *
  obtain ⟨L, hL⟩ : ∃ L, L = (aheadL (by_ s)).length := ⟨_, rfl⟩
  rw [← hL] at htz hal
  subst htz
  have HTL := Hd hL
  clear hL
  go_enter Tryd.func23, Tryd.ntmps23
  go_wp2_with fail
  refine (HR.out).mono ?_
  rintro e w' ⟨rfl, rfl⟩
  cases vb with
  | false =>
    go_wp2
    go_ret2
    exact ⟨Only.refl _ _, .inl ⟨by rw [HBAD.out]; rfl, rfl⟩⟩
  | true =>
    go_wp2_with fail
    go_loop [6] (fun v => ∃ k : Nat, v = .int .i64 k ∧ k ≤ s.size ∧ Hid (NoNl (by_ s) k)) (fun v => s.size - (intOf v).toNat)
    case atStart => exact ⟨0, rfl, by omega, Hd (fun j hj => by omega)⟩
    case round =>
      obtain ⟨k, rfl, hk, HNL⟩ := hrel
      by_cases hlt : k < s.size
      · have h01 : (k : Int) < (s.size : Int) := by omega
        have hk0 : (0 : Int) ≤ (k : Int) := Int.natCast_nonneg _
        have hb : (by_ s)[k]? = some (s[k]'hlt) := by
          have hl : k < (by_ s).length := by rw [by_length]; exact hlt
          rw [List.getElem?_eq_getElem hl]
          rfl
        have hwk : IntKind.i64.wrap ((k : Int) + 1) = (k : Int) + 1 := IntWalk.i64_in _ (by omega)
        by_cases h1 : (s[k]'hlt) = 10
        · have hc : (((s[k]'hlt).toNat : Int) == 10) = true := by rw [h1]; rfl
          have HB2 : Hid (badL (by_ s) = true) := Hd (by
            rw [HBAD.out]
            rw [h1] at hb
            have : (by_ s).contains 10 = true := by simpa using List.mem_of_getElem? hb
            rw [this]
            rfl)
          clear h1 hb
          go_wp2
          go_ret2
          exact ⟨Only.refl _ _, .inl ⟨HB2.out, rfl⟩⟩
        · have hc : (((s[k]'hlt).toNat : Int) == 10) = false := by
            rw [beq_eq_false_iff_ne]
            intro h
            exact h1 (UInt8.toNat_inj.1 (by have : (s[k]'hlt).toNat = 10 := by omega
                                            exact this))
          have HN2 : Hid (NoNl (by_ s) (k + 1)) := Hd (fun j hj hm => by
            by_cases hjk : j < k
            · exact HNL.out j hjk hm
            · have : j = k := by omega
              subst this
              rw [hb] at hm
              exact h1 (Option.some.inj hm))
          clear h1 hb
          go_wp2
          go_round
          case rel => exact ⟨k + 1, by go_num, by omega, HN2⟩
          case measure => simp [intOf]; omega
      · have h01 : decide ((k : Int) < (s.size : Int)) = false := decide_eq_false (by omega)
        have HB2 : Hid (badL (by_ s) = false) := Hd (by
          rw [HBAD.out]
          have : (by_ s).contains 10 = false := by
            rw [← Bool.not_eq_true]
            intro hm
            have hm : (10 : UInt8) ∈ by_ s := by simpa using hm
            obtain ⟨j, hj⟩ := List.mem_iff_getElem?.1 hm
            have hjl := (List.getElem?_eq_some_iff.1 hj).1
            rw [by_length] at hjl
            exact HNL.out j (by omega) hj
          rw [this]
          rfl)
        clear HNL HBAD
        go_wp2_with fail
        refine (HAH.out).mono ?_
        rintro e w' ⟨rfl, rfl⟩
        go_wp2_with fail
        go_loopw [8, 9, 10] (fun V fv iv wr => ∃ (i : Nat) (fr : Option Nat) (ps : List (Nat × Nat)), fv = .int .i64 (frI fr) ∧ iv = .int .i64 i ∧ i ≤ t.size + 1 ∧ ps.length ≤ i ∧ Hid (FrLt fr i) ∧
          Hid (wr.ownsRow w.heap.size 87 2 V ps.length (wordsV s ps)) ∧ Hid (wordsOf (by_ s) = ps ++ spansO ((codeL (by_ s)).drop i) i fr) ∧ Hid (Only [] w wr)) (fun _ _ iv _ => t.size + 1 - (intOf iv).toNat)
        case atStart => exact ⟨0, none, [], rfl, rfl, by omega, by simp, Hd (fun f h => by cases h), Hd (World.ownsRow_lit w #[] 0 (Nat.le_refl _) (by unfold maxLen; omega) rfl), Hd (by rw [List.drop_zero]; rfl), Hd ((Only.refl [] w).alloc _)⟩
        case round =>
          obtain ⟨i, fr, ps, rfl, rfl, hi1, hpl, HFR, HOWN, HW, HO⟩ := hrel
          have hi0 : (0 : Int) ≤ (i : Int) := Int.natCast_nonneg _
          by_cases hle : i ≤ t.size
          · have hle1 : (i : Int) ≤ (t.size : Int) := by omega
            have hcl : (codeL (by_ s)).length = t.size + 1 := by rw [code_len, ← HTL.out]
            obtain ⟨b, hb⟩ : ∃ b, (codeL (by_ s))[i]? = some b := ⟨_, List.getElem?_eq_getElem (by rw [hcl]; omega)⟩
            have hdrop : (codeL (by_ s)).drop i = b :: (codeL (by_ s)).drop (i + 1) := by
              obtain ⟨hl, he⟩ := List.getElem?_eq_some_iff.1 hb
              rw [List.drop_eq_getElem_cons hl, he]
            have hT : (i = t.size ∧ b = 32) ∨ (∃ h : i < t.size, b = t[i]'h) := by
              unfold codeL at hb
              rw [← HTB.out] at hb
              by_cases hlt2 : i < t.size
              · right
                rw [List.getElem?_append_left (by rw [by_length]; exact hlt2), List.getElem?_eq_getElem (by rw [by_length]; exact hlt2)] at hb
                exact ⟨hlt2, (Option.some.inj hb).symm⟩
              · left
                have he : i = t.size := by omega
                rw [List.getElem?_append_right (by rw [by_length]; omega), by_length, he, Nat.sub_self] at hb
                exact ⟨he, (Option.some.inj hb).symm⟩
            have hwk : IntKind.i64.wrap ((i : Int) + 1) = (i : Int) + 1 := IntWalk.i64_in _ (by omega)
            have hsp : (blankB b = true ∧ spansO ((codeL (by_ s)).drop i) i fr = closeW fr i ++ spansO ((codeL (by_ s)).drop (i + 1)) (i + 1) none) ∨
                (blankB b = false ∧ spansO ((codeL (by_ s)).drop i) i fr = spansO ((codeL (by_ s)).drop (i + 1)) (i + 1) (some (fr.getD i))) := by
              rw [hdrop]
              cases hbl : blankB b with
              | true => exact .inl ⟨rfl, spans_blank _ _ _ _ hbl⟩
              | false => exact .inr ⟨rfl, spans_word _ _ _ _ hbl⟩
            obtain ⟨bl, hbl⟩ : ∃ bl, bl = blankB b := ⟨_, rfl⟩
            rw [← hbl] at hsp
            have HBL := Hd hbl
            have HSP := Hd hsp
            clear hb hdrop hbl hsp hcl
            go_upto_region 13 with fail
            go_cut [11] (fun v wx => v = .bool bl ∧ wx = wr)
            case first =>
              rcases hT with ⟨he, rfl⟩ | ⟨hlt2, hbe⟩
              · subst he
                have hc : ((t.size : Int) == (t.size : Int)) = true := by simp
                have hbt : bl = true := by rw [HBL.out]; rfl
                subst hbt
                go_wp2
                go_meet
                exact ⟨rfl, rfl⟩
              · have hc : ((i : Int) == (t.size : Int)) = false := by rw [beq_eq_false_iff_ne]; omega
                have hlt3 : (i : Int) < (t.size : Int) := by omega
                have hiff := blankB_iff b
                rw [hbe] at hiff
                by_cases h32 : (t[i]'hlt2).toNat = 32
                · have e1 : (((t[i]'hlt2).toNat : Int) == 32) = true := by rw [h32]; rfl
                  have hbt : bl = true := by rw [HBL.out, hbe]; exact hiff.2 (.inr (.inr h32))
                  subst hbt
                  clear hiff h32 hbe HBL
                  go_wp2
                  go_meet
                  exact ⟨rfl, rfl⟩
                · have e1 : (((t[i]'hlt2).toNat : Int) == 32) = false := by rw [beq_eq_false_iff_ne]; omega
                  by_cases h9 : (t[i]'hlt2).toNat = 9
                  · have e2 : (((t[i]'hlt2).toNat : Int) == 9) = true := by rw [h9]; rfl
                    have hbt : bl = true := by rw [HBL.out, hbe]; exact hiff.2 (.inl h9)
                    subst hbt
                    clear hiff h32 h9 hbe HBL
                    go_wp2
                    go_meet
                    exact ⟨rfl, rfl⟩
                  · have e2 : (((t[i]'hlt2).toNat : Int) == 9) = false := by rw [beq_eq_false_iff_ne]; omega
                    have e3 : (((t[i]'hlt2).toNat : Int) == 13) = bl := by
                      rw [HBL.out, hbe, Bool.eq_iff_iff, hiff, beq_iff_eq]
                      constructor
                      · intro h; right; left; omega
                      · intro h; omega
                    clear hiff h32 h9 hbe HBL
                    cases bl with
                    | true =>
                      go_wp2
                      go_meet
                      exact ⟨rfl, rfl⟩
                    | false =>
                      go_wp2
                      go_meet
                      exact ⟨rfl, rfl⟩
            case rest =>
              obtain ⟨rfl, rfl⟩ := hcut
              clear hT HBL
              have hO3s := HO.out.size
              cases bl with
              | true =>
                have hsp1 : spansO ((codeL (by_ s)).drop i) i fr = closeW fr i ++ spansO ((codeL (by_ s)).drop (i + 1)) (i + 1) none := by
                  rcases HSP.out with ⟨-, h⟩ | ⟨h, -⟩
                  · exact h
                  · cases h
                cases fr with
                | some f =>
                  have hf := HFR.out f rfl
                  have hf0 : (0 : Int) ≤ (f : Int) := Int.natCast_nonneg _
                  have hfp : (f : Int) ≤ (i : Int) := by omega
                  have hxe : t.extract f i = s.extract f i := by_inj (by rw [by_extract, by_extract, HTB.out]; rw [← ahead_take, List.take_take, Nat.min_eq_left (by rw [← HTL.out]; exact hle)])
                  obtain ⟨z, hz⟩ : ∃ z, z = leads ((by_ s).take f) := ⟨_, rfl⟩
                  have hzl : z ≤ 65535 := by
                    have := leads_le ((by_ s).take f)
                    rw [List.length_take, by_length] at this
                    omega
                  have hwz : IntKind.i64.wrap ((z : Int) + 1) = (z : Int) + 1 := IntWalk.i64_in _ (by omega)
                  have HC := Hd (fun w' => HCOL.out f w' trivial)
                  rw [← hz] at HC
                  have HXV : Hid ([Value.string (t.extract f i), .int .i64 ((z : Int) + 1)] = wordV s (f, i)) := Hd (by rw [hxe, hz]; rfl)
                  have HW2 : Hid (wordsOf (by_ s) = (ps ++ [(f, i)]) ++ spansO ((codeL (by_ s)).drop (i + 1)) (i + 1) none) := Hd (by rw [HW.out, hsp1, List.append_assoc]; rfl)
                  have hml : 2 * ps.length ≤ 131074 := by omega
                  clear hsp1 HW hxe hz HFR HCOL HSP
                  simp only [frI]
                  go_wp2_with fail
                  refine rgo (F := []) (timed_nil) ?_
                  refine tQ 0 (h := tQ 1 (h := tQ 2 (h := tQ 3 (h := tQ 4 (h := tQ 5 (h := tQ 6 (h := ?_)))))))
                  refine tst (i := 7) fun K hK => ?_
                  go_simp
                  refine (HC.out _).mono ?_
                  rintro e w'' ⟨rfl, rfl⟩
                  refine hK.out _ _ (timed_nil) ?_
                  clear hK K
                  try simp only [tdz]
                  refine tQ 8 (h := tQ 9 (h := ?_))
                  refine tst (i := 10) fun K hK => ?_
                  go_simp
                  refine hK.out _ _ (timed_nil) ?_
                  clear hK K
                  try simp only [tdz]
                  refine tst (i := 11) fun K hK => ?_
                  have OA : Only [] wc (wc.alloc (.cells #[.string (t.extract f i), .int .i64 ((z : Int) + 1)] 87)).drew := ((Only.refl [] wc).alloc _).drew
                  refine step_append_row _ rfl (.tmp 65) (.tmp 75) 58 rfl w.heap.size 87 i0 _ 2 24 Tryd.underlying58 hi hz0 hz1 hz2 rfl (by omega) _ ps.length (wordsV s ps) (by rfl) (own_only HOWN.out OA (by simp)) (wc.heap.size + 1) (some ⟨wc.heap.size, 0, none⟩) 1 1 [.string (t.extract f i), .int .i64 ((z : Int) + 1)] (by rfl) (by rfl) (by exact row_lit wc 87 #[.string (t.extract f i), .int .i64 ((z : Int) + 1)]) (by intro u hu; simp at hu; rcases hu with rfl | rfl <;> rfl) (by unfold maxLen; omega) (by omega) (by have := OA.size; omega) ?_
                  intro v3 w4 hown3 hgrow hat
                  have hOwas := own_only HOWN.out OA (by simp)
                  have REL : w4.ownsRow w.heap.size 87 2 v3 (ps ++ [(f, i)]).length (wordsV s (ps ++ [(f, i)])) ∧ Only [] w w4 := by
                    refine ⟨?_, (HO.out.trans OA).step (only_grown hgrow) (fun j hj hl => by have := (hOwas.lt j (by simpa using hj)).1; omega)⟩
                    rw [List.length_append, wordsV_snoc, ← HXV.out]
                    exact hown3
                  have HREL := Hd REL
                  clear REL hown3 hgrow hat hOwas OA
                  refine hK.out _ _ (timed_nil) ?_
                  clear hK K
                  try simp only [tdz]
                  refine tQ 12 (h := ?_)
                  refine tdn ?_
                  go_wp2
                  go_roundw
                  case rel => exact ⟨i + 1, none, ps ++ [(f, i)], rfl, by go_num, by omega, by simp; omega, Hd (fun f h => by cases h), Hd HREL.out.1, HW2, Hd HREL.out.2⟩
                  case measure => simp [intOf]; omega
                | none =>
                  have HW2 : Hid (wordsOf (by_ s) = ps ++ spansO ((codeL (by_ s)).drop (i + 1)) (i + 1) none) := Hd (by rw [HW.out, hsp1]; rfl)
                  clear hsp1 HW HSP HCOL
                  simp only [frI]
                  go_wp2
                  go_roundw
                  case rel => exact ⟨i + 1, none, ps, rfl, by go_num, by omega, by omega, Hd (fun f h => by cases h), HOWN, HW2, HO⟩
                  case measure => simp [intOf]; omega
              | false =>
                have hsp1 : spansO ((codeL (by_ s)).drop i) i fr = spansO ((codeL (by_ s)).drop (i + 1)) (i + 1) (some (fr.getD i)) := by
                  rcases HSP.out with ⟨h, -⟩ | ⟨-, h⟩
                  · cases h
                  · exact h
                cases fr with
                | some f =>
                  have hf0 : (0 : Int) ≤ (f : Int) := Int.natCast_nonneg _
                  have HFR2 : Hid (FrLt (some f) (i + 1)) := Hd (fun f' h => by have := HFR.out f' h; omega)
                  have HW2 : Hid (wordsOf (by_ s) = ps ++ spansO ((codeL (by_ s)).drop (i + 1)) (i + 1) (some f)) := Hd (by rw [HW.out, hsp1]; rfl)
                  have hfn : decide ((f : Int) < 0) = false := decide_eq_false (by omega)
                  clear hsp1 HW HFR HSP HCOL
                  simp only [frI]
                  go_wp2
                  go_roundw
                  case rel => exact ⟨i + 1, some f, ps, rfl, by go_num, by omega, by omega, HFR2, HOWN, HW2, HO⟩
                  case measure => simp [intOf]; omega
                | none =>
                  have HFR2 : Hid (FrLt (some i) (i + 1)) := Hd (fun f' h => by obtain rfl := Option.some.inj h; omega)
                  have HW2 : Hid (wordsOf (by_ s) = ps ++ spansO ((codeL (by_ s)).drop (i + 1)) (i + 1) (some i)) := Hd (by rw [HW.out, hsp1]; rfl)
                  clear hsp1 HW HFR HSP HCOL
                  simp only [frI]
                  go_wp2
                  go_roundw
                  case rel => exact ⟨i + 1, some i, ps, rfl, by go_num, by omega, by omega, HFR2, HOWN, HW2, HO⟩
                  case measure => simp [intOf]; omega
          · have hd : decide ((i : Int) ≤ (t.size : Int)) = false := decide_eq_false (by omega)
            have hl : (codeL (by_ s)).drop i = [] := List.drop_of_length_le (by rw [code_len, ← HTL.out]; omega)
            have hpe : ps = wordsOf (by_ s) := by
              have := HW.out
              rw [hl] at this
              simp only [spansO, List.append_nil] at this
              exact this.symm
            have hown := HOWN.out
            rw [hpe] at hown
            have HOWN2 := Hd hown
            clear hl HW HOWN hown hpe
            go_wp2
            go_ret2
            exact ⟨HO.out, .inr ⟨HB2.out, _, rfl, HOWN2.out⟩⟩
end Go.Proofs.YtojpohmijlkagaaDoor
