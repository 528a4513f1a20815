/- Column: how many runes stand ahead of a byte; the program's and the document's. -/
import Derived.Test.YtggpbgbnefgebaaDoorRLineC
set_option linter.unusedVariables false
set_option linter.unusedSimpArgs false
namespace Go.Proofs.YtggpbgbnefgebaaDoor
open Go.RowKit
open Go.Lib hiding intOf
attribute [local go_sem ↓] Go.wp_at_zero Go.wp_at_succ

def colFrom (s : ByteArray) (a : Int) : Nat → Nat → Nat
  | 0, _ => 0
  | f + 1, pos => if pos < s.size ∧ (pos : Int) < a then 1 + colFrom s a f (pos + (Utf8.decode s pos).2) else 0
def colOf (s : ByteArray) (a : Int) : Nat := if validD (by_ s) = true then colFrom s a s.size 0 else 0
theorem colFrom_le (s : ByteArray) (a : Int) : ∀ f pos, colFrom s a f pos ≤ f
  | 0, _ => Nat.le_refl _
  | f + 1, pos => by
    have := colFrom_le s a f (pos + (Utf8.decode s pos).2)
    unfold colFrom
    split <;> omega
theorem colFrom_stop (s : ByteArray) (a : Int) (f pos : Nat) (h : ¬ (pos < s.size ∧ (pos : Int) < a)) : colFrom s a f pos = 0 := by
  cases f with
  | zero => rfl
  | succ f => rw [colFrom, if_neg h]

set_option maxHeartbeats 2000000 in
theorem col_any (s : ByteArray) (a : Int) (w : World) (hs : s.size ≤ 9223372036854775807) (hT : UTabs w) :
    Calls Tryd.prog 13 #[.string s, .int .i64 a] w fun e w' => e = .returned (.int .i64 (colOf s a)) ∧ Only [] w w' := by
  have HV := Lib.hid (valid_any s w hs hT)
  obtain ⟨C, hC⟩ : ∃ C, C = colOf s a := ⟨_, rfl⟩
  rw [← hC]
  unfold colOf at hC
  obtain ⟨vb, hvb⟩ : ∃ vb, vb = validD (by_ s) := ⟨_, rfl⟩
  rw [← hvb] at HV hC
  clear hvb hT
  cases vb with
  | false =>
    rw [if_neg (by simp)] at hC
    have HC := Lib.hid hC
    clear hC
    go_enter Tryd.func13, Tryd.ntmps13
    go_wp2_with fail
    refine (HV.out).mono ?_
    rintro e w1 ⟨rfl, hO⟩
    go_wp2
    go_ret
    exact ⟨by rw [HC.out]; rfl, hO⟩
  | true =>
    rw [if_pos rfl] at hC
    have hle : C ≤ s.size := by rw [hC]; exact colFrom_le s a _ _
    have HC := Lib.hid hC
    clear hC
    go_enter Tryd.func13, Tryd.ntmps13
    go_wp2_with fail
    refine (HV.out).mono ?_
    rintro e w1 ⟨rfl, hO⟩
    have HO := Lib.hid hO
    clear hO HV
    go_wp2
    go_loopw [5] (fun nn wr => ∃ (pos b k : Nat), nn = .int .i64 k ∧ pos ≤ s.size ∧ s.size ≤ pos + b ∧ k ≤ C ∧ Hid (colFrom s a b pos + k = C) ∧ Hid (wr.heap[w1.heap.size]? = some (.stringIter s pos)) ∧ Hid (Only [] w1 wr)) (fun _ wr => s.size - wr.iterPos w1.heap.size)
    case atStart => exact ⟨0, s.size, 0, rfl, by omega, by omega, by omega, Lib.hid (by rw [HC.out]; rfl), Lib.hid (World.iter_heap w1 s 0), Lib.hid ((Only.refl [] w1).alloc _)⟩
    case round =>
      obtain ⟨pos, b, k, rfl, hpos, hb, hkC, HR, HIT, HO1⟩ := hrel
      by_cases hp : pos < s.size
      · have hnx : ∀ ty, (Instr.next (.pointer (some ⟨w1.heap.size, 0, none⟩)) true ty).run Tryd.prog wr = _ := fun ty => run_next_any_at wr w1.heap.size s pos ty HIT.out hp
        have hwd := width_le s pos hp
        have hip := iterPos_of HIT.out
        have HIT2 := Lib.hid (iterAt_heap wr w1.heap.size s pos (pos + (Utf8.decode s pos).2) HIT.out)
        have HO2 := Lib.hid (only_iter HO1.out s (pos + (Utf8.decode s pos).2) (k := w1.heap.size) (fun h => by omega))
        have hip2 := iterPos_of HIT2.out
        by_cases hpa : (pos : Int) < a
        · obtain ⟨b', rfl⟩ : ∃ b', b = b' + 1 := ⟨b - 1, by omega⟩
          have hst : colFrom s a (b' + 1) pos = 1 + colFrom s a b' (pos + (Utf8.decode s pos).2) := by
            rw [colFrom, if_pos ⟨hp, hpa⟩]
          have hcc := HR.out
          rw [hst] at hcc
          have hk1 : k + 1 ≤ C := by omega
          have HR2 : Hid (colFrom s a b' (pos + (Utf8.decode s pos).2) + (k + 1) = C) := Lib.hid (by omega)
          obtain ⟨wd, hwde⟩ : ∃ wd, wd = (Utf8.decode s pos).2 := ⟨_, rfl⟩
          rw [← hwde] at hnx HIT2 HO2 hwd hip2 HR2
          generalize (Utf8.decode s pos).1 = rn at *
          have hd : decide (a ≤ (pos : Int)) = false := by simp; omega
          clear hst hcc hwde HR HIT HO1
          go_wp2
          go_roundw
          case rel => exact ⟨pos + wd, b', k + 1, by go_num, by omega, by omega, by omega, HR2, HIT2, HO2⟩
          case measure => rw [hip, hip2]; omega
        · have hcc := HR.out
          rw [colFrom_stop s a b pos (fun h => hpa h.2)] at hcc
          have hkC2 : k = C := by omega
          have hd : a ≤ (pos : Int) := by omega
          subst hkC2
          obtain ⟨wd, hwde⟩ : ∃ wd, wd = (Utf8.decode s pos).2 := ⟨_, rfl⟩
          rw [← hwde] at hnx HO2
          generalize (Utf8.decode s pos).1 = rn at *
          clear hcc hwde HR HIT HO1 hpa
          go_wp2
          go_ret
          exact ⟨rfl, HO.out.trans HO2.out⟩
      · have hnx : ∀ ty, (Instr.next (.pointer (some ⟨w1.heap.size, 0, none⟩)) true ty).run Tryd.prog wr = _ := fun ty => run_next_end_at wr w1.heap.size s pos ty HIT.out hp
        have hcc := HR.out
        rw [colFrom_stop s a b pos (fun h => hp h.1)] at hcc
        have hkC2 : k = C := by omega
        subst hkC2
        clear hcc
        go_wp2
        go_ret
        exact ⟨rfl, HO.out.trans HO1.out⟩

set_option maxHeartbeats 2000000 in
theorem rcol_any (s : ByteArray) (a : Int) (w : World) (hs : s.size ≤ 65537) :
    Calls Tryd.prog 14 #[.string s, .int .i64 a] w fun e w' => e = .returned (.int .i64 (colOf s a)) ∧ w = w' := by
  have HRN := Lib.hid (rrunes_any s w hs)
  have HSZ := Lib.hid (fun pos (h : pos < s.size) => rsize_any s pos w h hs)
  have HST := Lib.hid (sz_step s)
  obtain ⟨C, hC⟩ : ∃ C, C = colOf s a := ⟨_, rfl⟩
  rw [← hC]
  unfold colOf at hC
  obtain ⟨vb, hvb⟩ : ∃ vb, vb = validD (by_ s) := ⟨_, rfl⟩
  rw [← hvb] at HRN hC
  obtain ⟨rn, hrn⟩ : ∃ rn : Int, rn = (if vb = true then (runeCount s : Int) else 0) := ⟨_, rfl⟩
  rw [← hrn] at HRN
  have HVB := Lib.hid hvb
  clear hvb hrn
  cases vb with
  | false =>
    rw [if_neg (by simp)] at hC
    have HC := Lib.hid hC
    clear hC
    go_enter Tryd.func14, Tryd.ntmps14
    go_wp2_with fail
    refine (HRN.out).mono ?_
    rintro e w1 ⟨rfl, rfl⟩
    go_wp2
    go_ret
    exact ⟨by rw [HC.out]; rfl, rfl⟩
  | true =>
    rw [if_pos rfl] at hC
    have hle : C ≤ s.size := by rw [hC]; exact colFrom_le s a _ _
    by_cases ha : a < 0
    · rw [colFrom_stop s a s.size 0 (fun h => by omega)] at hC
      have HC := Lib.hid hC
      clear hC
      go_enter Tryd.func14, Tryd.ntmps14
      go_wp2_with fail
      refine (HRN.out).mono ?_
      rintro e w1 ⟨rfl, rfl⟩
      go_wp2
      go_ret
      exact ⟨by rw [HC.out]; rfl, rfl⟩
    · have had : decide (a < 0) = false := by simp; omega
      have HC := Lib.hid hC
      clear hC ha
      go_enter Tryd.func14, Tryd.ntmps14
      go_wp2_with fail
      refine (HRN.out).mono ?_
      rintro e w1 ⟨rfl, rfl⟩
      go_wp2
      go_loop [7, 8] (fun nn i => ∃ (k pos b : Nat), nn = .int .i64 k ∧ i = .int .i64 pos ∧ pos ≤ s.size ∧ s.size ≤ pos + b ∧ k ≤ C ∧ Hid (validD ((by_ s).drop pos) = true) ∧ Hid (colFrom s a b pos + k = C)) (fun _ i => s.size - (intOf i).toNat)
      case atStart => exact ⟨0, 0, s.size, rfl, rfl, by omega, by omega, by omega, Lib.hid HVB.out.symm, Lib.hid (by rw [HC.out]; rfl)⟩
      case round =>
        obtain ⟨k, pos, b, rfl, rfl, hpos, hb, hkC, HV, HR⟩ := hrel
        by_cases hp : pos < s.size ∧ (pos : Int) < a
        · obtain ⟨hp1, hp2⟩ := hp
          have hp1' : (pos : Int) < (s.size : Int) := by omega
          have HS1 := Lib.hid (HSZ.out pos hp1)
          rcases HST.out pos hp1 with ⟨h0, hv⟩ | ⟨h2, h1, hle2, hv⟩
          · exfalso
            have := HV.out
            rw [hv] at this
            cases this
          · obtain ⟨b', rfl⟩ : ∃ b', b = b' + 1 := ⟨b - 1, by omega⟩
            have hst : colFrom s a (b' + 1) pos = 1 + colFrom s a b' (pos + szAt s pos) := by
              rw [colFrom, if_pos ⟨hp1, hp2⟩, h2]
            have hcc := HR.out
            rw [hst] at hcc
            have hk1 : k + 1 ≤ C := by omega
            obtain ⟨z, hz⟩ : ∃ z, z = szAt s pos := ⟨_, rfl⟩
            rw [← hz] at HS1 h1 hle2 hv hcc
            have HV2 : Hid (validD ((by_ s).drop (pos + z)) = true) := Lib.hid (by rw [← hv]; exact HV.out)
            have HR2 : Hid (colFrom s a b' (pos + z) + (k + 1) = C) := Lib.hid (by omega)
            clear hst hcc h2 hz hv HV HR
            go_wp2_with fail
            refine (HS1.out).mono ?_
            rintro e w' ⟨rfl, rfl⟩
            go_wp2
            go_round
            case rel => exact ⟨k + 1, pos + z, b', by go_num, by go_num, by omega, by omega, by omega, HV2, HR2⟩
            case measure => simp [intOf]; omega
        · have hcc := HR.out
          rw [colFrom_stop s a b pos hp] at hcc
          have hkC2 : k = C := by omega
          subst hkC2
          clear hcc HV HR
          by_cases hp1 : pos < s.size
          · have hp1' : (pos : Int) < (s.size : Int) := by omega
            have hp2 : decide ((pos : Int) < a) = false := by simp; omega
            clear hp
            go_wp2
            go_ret
            exact ⟨rfl, rfl⟩
          · have hp1' : decide ((pos : Int) < (s.size : Int)) = false := by simp; omega
            clear hp
            go_wp2
            go_ret
            exact ⟨rfl, rfl⟩

end Go.Proofs.YtggpbgbnefgebaaDoor
