/- Parts. -/
import Derived.Shelf.Strings.OnBuilder
import Derived.Test.YtojpohmijlkagaaDoorLaw43AllK13
import Derived.Test.YtojpohmijlkagaaDoorLaw43AllK36
set_option maxRecDepth 10000
set_option maxHeartbeats 16000000
set_option linter.unusedVariables false
set_option linter.unusedSimpArgs false
namespace Go.Proofs
open Go.Shelf
def Tryd.laysJoin_ren : Go.Shelf.Ren := ⟨fun | 156 => 48 | 165 => 59 | 166 => 25 | 169 => 28 | 240 => 47 | 241 => 63 | 276 => 58 | 277 => 69 | n => n, fun | 31 => 47 | 9 => 9 | 3 => 3 | 4 => 4 | 0 => 0 | 20 => 20 | 72 => 66 | 76 => 69 | 70 => 63 | 37 => 64 | 75 => 68 | 127 => 91 | 164 => 105 | 5 => 5 | 80 => 73 | n => n, fun | n => n⟩
theorem Tryd.laysJoin : Go.Proofs.Lays.n156 Tryd.prog Tryd.laysJoin_ren := {
 mixed := by kernel_rfl
 f156 := Tryd.func48.trans (congrArg some (by kernel_rfl))
 f165 := Tryd.func59.trans (congrArg some (by kernel_rfl))
 f166 := Tryd.func25.trans (congrArg some (by kernel_rfl))
 f169 := Tryd.func28.trans (congrArg some (by kernel_rfl))
 f240 := Tryd.func47.trans (congrArg some (by kernel_rfl))
 f241 := Tryd.func63.trans (congrArg some (by kernel_rfl))
 f276 := Tryd.func58.trans (congrArg some (by kernel_rfl))
 f277 := Tryd.func69.trans (congrArg some (by kernel_rfl))
 t0 := Tryd.underlying0
 a0 := Tryd.isAgg0
 z0 := Tryd.sizeOf0
 v0 := Tryd.zeroValue0
 t3 := Tryd.underlying3
 a3 := Tryd.isAgg3
 z3 := Tryd.sizeOf3
 v3 := Tryd.zeroValue3
 t4 := Tryd.underlying4
 a4 := Tryd.isAgg4
 z4 := Tryd.sizeOf4
 v4 := Tryd.zeroValue4
 t9 := Tryd.underlying9
 a9 := Tryd.isAgg9
 z9 := Tryd.sizeOf9
 v9 := Tryd.zeroValue9
 t20 := Tryd.underlying20
 a20 := Tryd.isAgg20
 z20 := Tryd.sizeOf20
 v20 := Tryd.zeroValue20
 t31 := Tryd.underlying47
 a31 := Tryd.isAgg47
 z31 := Tryd.sizeOf47
 v31 := Tryd.zeroValue47
 t37 := Tryd.underlying64
 a37 := Tryd.isAgg64
 z37 := Tryd.sizeOf64
 v37 := Tryd.zeroValue64
 t70 := Tryd.underlying63
 a70 := Tryd.isAgg63
 z70 := Tryd.sizeOf63
 v70 := Tryd.zeroValue63
 t72 := Tryd.underlying66
 a72 := Tryd.isAgg66
 z72 := Tryd.sizeOf66
 v72 := Tryd.zeroValue66
 t75 := Tryd.underlying68
 a75 := Tryd.isAgg68
 z75 := Tryd.sizeOf68
 v75 := Tryd.zeroValue68
 t76 := Tryd.underlying69
 a76 := Tryd.isAgg69
 z76 := Tryd.sizeOf69
 v76 := Tryd.zeroValue69
 t127 := Tryd.underlying91
 a127 := Tryd.isAgg91
 z127 := Tryd.sizeOf91
 v127 := Tryd.zeroValue91
 t164 := Tryd.underlying105
 a164 := Tryd.isAgg105
 z164 := Tryd.sizeOf105
 v164 := Tryd.zeroValue105 }
end Go.Proofs
namespace Go.Proofs.YtojpohmijlkagaaDoor
open Go.RowKit
open Go.Lib hiding intOf
attribute [local go_sem ↓] Go.wp_at_zero Go.wp_at_succ
theorem extraJ : Builder.Extra Tryd.prog Tryd.laysJoin_ren where
 sizeBuilder := by kernel_rfl
 liesBuilder := by kernel_rfl
 t5 := Tryd.underlying5
 a5 := Tryd.isAgg5
 z5 := Tryd.sizeOf5
 v5 := Tryd.zeroValue5
 infoByte := by kernel_rfl
 cellsByte := by kernel_rfl
 sizeByte := by kernel_rfl
 neB5 := by decide
theorem sjoin_any (A : Option Addr) (n c B : Nat) (xs : List ByteArray) (w : World) (hA : Row w B A (strs xs)) (hn : xs.length = n) (hc : n ≤ c) (hl : (joinW xs).length ≤ 140737488355328) (hN : n ≤ 140737488355328) :
  Calls Tryd.prog 48 #[.slice A n c, .string ⟨#[32]⟩] w fun e w' => e = .returned (.string ⟨(joinW xs).toArray⟩) ∧ Only [] w w' := by
 subst hn;rcases hA with h | ⟨b, off, rfl, hb, hw, hcell⟩
 ·have : xs = [] := by simpa [strs] using h
  subst this;have h : Calls Tryd.prog 48 #[.slice A 0 c, .string ⟨#[32]⟩] w _ := Any.strings_Join_none Tryd.laysJoin extraJ A c ⟨#[32]⟩ w;exact h.mono fun e w' ⟨h1, h2⟩ => ⟨h1, h2 ▸ Only.refl _ _⟩
 ·have h : Calls Tryd.prog 48 #[.slice (some ⟨b, off, none⟩) xs.length c, .string ⟨#[32]⟩] w _ := Any.strings_Join Tryd.laysJoin extraJ b off c xs ⟨#[32]⟩ w (fun j x hx => hcell j _ (by rw [strs, List.getElem?_map, hx]; rfl)) (by omega) hN hc hl;exact h.mono fun e w' ⟨h1, h2⟩ => ⟨h1, Only.of_below h2 []⟩
theorem join_any (A : Option Addr) (n c B : Nat) (xs : List ByteArray) (w : World) (hA : Row w B A (strs xs)) (hn : xs.length = n) (hc : n ≤ c) (hl : (joinW xs).length ≤ 140737488355328) (hN : n ≤ 140737488355328) :
  Calls Tryd.prog 26 #[.slice A n c] w fun e w' => e = .returned (.string ⟨(joinW xs).toArray⟩) ∧ Only [] w w' := by
 have HJ := Hd (sjoin_any A n c B xs w hA hn hc hl hN);generalize (⟨(joinW xs).toArray⟩ : ByteArray) = r at *;clear hA hn hc hl hN;go_enter Tryd.func26, Tryd.ntmps26;go_wp2_with fail
 refine (HJ.out).mono ?_;rintro e w1 ⟨rfl, hO⟩;have HO := Hd hO;clear hO;go_wp2
 go_ret
 exact ⟨rfl, HO.out⟩
theorem rcol_any (s : ByteArray) (a : Int) (w : World) (hs : s.size ≤ 65537) :
  Calls Tryd.prog 45 #[.string s, .int .i64 a] w fun e w' => e = .returned (.int .i64 (colOf s a)) ∧ w = w' := by
 have HRN := Hd (rrunes_any s w hs);have HSZ := Hd (fun pos (h : pos < s.size) => rsize_any s pos w h hs);have HST := Hd (sz_step s);obtain ⟨C, hC⟩ : ∃ C, C = colOf s a := ⟨_, rfl⟩;rw [← hC];unfold colOf at hC;obtain ⟨vb, hvb⟩ : ∃ vb, vb = validD (by_ s) := ⟨_, rfl⟩;rw [← hvb] at HRN hC;obtain ⟨rn, hrn⟩ : ∃ rn : Int, rn = (if vb = true then (runeCount s : Int) else 0) := ⟨_, rfl⟩;rw [← hrn] at HRN;have HVB := Hd hvb;clear hvb hrn
 cases vb with
 | false =>
  rw [if_neg (by simp)] at hC;have HC := Hd hC;clear hC;go_enter Tryd.func45, Tryd.ntmps45;go_wp2_with fail
  refine (HRN.out).mono ?_;rintro e w1 ⟨rfl, rfl⟩;go_wp2
  go_ret
  exact ⟨by rw [HC.out]; rfl, rfl⟩
 | true =>
  rw [if_pos rfl] at hC;have hle : C ≤ s.size := by rw [hC]; exact colFrom_le s a _ _
  by_cases ha : a < 0
  ·rw [colFrom_stop s a s.size 0 (fun h => by omega)] at hC;have HC := Hd hC;clear hC;go_enter Tryd.func45, Tryd.ntmps45;go_wp2_with fail
   refine (HRN.out).mono ?_;rintro e w1 ⟨rfl, rfl⟩;go_wp2
   go_ret
   exact ⟨by rw [HC.out]; rfl, rfl⟩
  ·have had : decide (a < 0) = false := by simp; omega
   have HC := Hd hC;clear hC ha;go_enter Tryd.func45, Tryd.ntmps45;go_wp2_with fail
   refine (HRN.out).mono ?_;rintro e w1 ⟨rfl, rfl⟩;go_wp2
   go_loop [7, 8] (fun nn i => ∃ (k pos b : Nat), nn = .int .i64 k ∧ i = .int .i64 pos ∧ pos ≤ s.size ∧ s.size ≤ pos + b ∧ k ≤ C ∧ Hid (validD ((by_ s).drop pos) = true) ∧ Hid (colFrom s a b pos + k = C)) (fun _ i => s.size - (intOf i).toNat)
   case atStart => exact ⟨0, 0, s.size, rfl, rfl, by omega, by omega, by omega, Hd HVB.out.symm, Hd (by rw [HC.out]; rfl)⟩
   case round =>
    obtain ⟨k, pos, b, rfl, rfl, hpos, hb, hkC, HV, HR⟩ := hrel
    by_cases hp : pos < s.size ∧ (pos : Int) < a
    ·obtain ⟨hp1, hp2⟩ := hp;have hp1' : (pos : Int) < (s.size : Int) := by omega
     have HS1 := Hd (HSZ.out pos hp1);rcases HST.out pos hp1 with ⟨h0, hv⟩ | ⟨h2, h1, hle2, hv⟩
     ·exfalso
      have := HV.out;rw [hv] at this
      cases this
     ·obtain ⟨b', rfl⟩ : ∃ b', b = b' + 1 := ⟨b - 1, by omega⟩;have hst : colFrom s a (b' + 1) pos = 1 + colFrom s a b' (pos + szAt s pos) := by
       rw [colFrom, if_pos ⟨hp1, hp2⟩, h2]
      have hcc := HR.out;rw [hst] at hcc;have hk1 : k + 1 ≤ C := by omega
      obtain ⟨z, hz⟩ : ∃ z, z = szAt s pos := ⟨_, rfl⟩;rw [← hz] at HS1 h1 hle2 hv hcc;have HV2 : Hid (validD ((by_ s).drop (pos + z)) = true) := Hd (by rw [← hv]; exact HV.out);have HR2 : Hid (colFrom s a b' (pos + z) + (k + 1) = C) := Hd (by omega);clear hst hcc h2 hz hv HV HR;go_wp2_with fail
      refine (HS1.out).mono ?_;rintro e w' ⟨rfl, rfl⟩;go_wp2
      go_round
      case rel => exact ⟨k + 1, pos + z, b', by go_num, by go_num, by omega, by omega, by omega, HV2, HR2⟩
      case measure => simp [intOf]; omega
    ·have hcc := HR.out;rw [colFrom_stop s a b pos hp] at hcc;have hkC2 : k = C := by omega
     subst hkC2;clear hcc HV HR
     by_cases hp1 : pos < s.size
     ·have hp1' : (pos : Int) < (s.size : Int) := by omega
      have hp2 : decide ((pos : Int) < a) = false := by simp; omega
      clear hp;go_wp2
      go_ret
      exact ⟨rfl, rfl⟩
     ·have hp1' : decide ((pos : Int) < (s.size : Int)) = false := by simp; omega
      clear hp;go_wp2
      go_ret
      exact ⟨rfl, rfl⟩
theorem ahead_atS (l : List UInt8) (k : Nat) (b : UInt8) (hk : k ≤ (aheadL l).length) (hb : l[k]? = some b) : (b = 35 ∧ k = (aheadL l).length) ∨ (b ≠ 35 ∧ k + 1 ≤ (aheadL l).length) := by
 rcases ahead_cases l with ⟨hn, ha⟩ | ⟨rest, ha, hn⟩
 ·right
  rw [ha] at hk ⊢;have hlt := (List.getElem?_eq_some_iff.1 hb).1;exact ⟨fun h => hn (h ▸ List.mem_of_getElem? hb), hlt⟩
 ·by_cases hlt : k < (aheadL l).length
  ·right
   have h1 := hb;rw [ha, List.getElem?_append_left hlt] at h1;exact ⟨fun h => hn (h ▸ List.mem_of_getElem? h1), hlt⟩
  ·left
   have hke : k = (aheadL l).length := by omega
   have h1 := hb;rw [ha, List.getElem?_append_right (by omega), hke, Nat.sub_self] at h1;exact ⟨(Option.some.inj h1).symm, hke⟩
theorem rahead_any (s : ByteArray) (w : World) (hs : s.size ≤ 65537) :
    Calls Tryd.prog 44 #[.string s] w fun e w' => e = .returned (.string (s.extract 0 (aheadL (by_ s)).length)) ∧ w = w' := by
  have HA := Hd (fun k b hk hb => ahead_atS (by_ s) k b hk hb)
  have hal := ahead_len (by_ s)
  rw [by_length] at hal
  have HE : Hid ((aheadL (by_ s)).length = s.size → s.extract 0 (aheadL (by_ s)).length = s) := Hd (fun h => by
    apply by_inj
    rw [by_extract, h, List.drop_zero, List.take_of_length_le (by rw [by_length]; exact Nat.le_refl _)])
  obtain ⟨L, hL⟩ : ∃ L, L = (aheadL (by_ s)).length := ⟨_, rfl⟩
  rw [← hL] at HE hal ⊢
  have HL := Hd hL
  clear hL
  go_enter Tryd.func44, Tryd.ntmps44
  go_wp2
  go_loop [3] (fun v => ∃ k : Nat, v = .int .i64 k ∧ k ≤ L) (fun v => s.size - (intOf v).toNat)
  case atStart => exact ⟨0, rfl, by omega⟩
  case round =>
    obtain ⟨k, rfl, hk⟩ := hrel
    by_cases hlt : k < s.size
    · have h01 : (k : Int) < (s.size : Int) := by omega
      have hk0 : (0 : Int) ≤ (k : Int) := Int.natCast_nonneg _
      have hb : (by_ s)[k]? = some (s[k]'hlt) := by
        have hl : k < (by_ s).length := by rw [by_length]; exact hlt
        rw [List.getElem?_eq_getElem hl]
        rfl
      have hwk : IntKind.i64.wrap ((k : Int) + 1) = (k : Int) + 1 := IntWalk.i64_in _ (by omega)
      rcases HA.out k (s[k]'hlt) (by rw [← HL.out]; exact hk) hb with ⟨h1, h2⟩ | ⟨h1, h2⟩
      · have hc : (((s[k]'hlt).toNat : Int) == 35) = true := by rw [h1]; rfl
        rw [← HL.out] at h2
        subst h2
        have hks : (k : Int) ≤ (s.size : Int) := by omega
        clear h1 hb
        go_wp2
        go_ret
        exact ⟨rfl, rfl⟩
      · have hc : (((s[k]'hlt).toNat : Int) == 35) = false := by
          rw [beq_eq_false_iff_ne]
          intro h
          exact h1 (UInt8.toNat_inj.1 (by have : (s[k]'hlt).toNat = 35 := by omega
                                          exact this))
        rw [← HL.out] at h2
        clear h1 hb
        go_wp2
        go_round
        case rel => exact ⟨k + 1, by go_num, h2⟩
        case measure => simp [intOf]; omega
    · have h01 : decide ((k : Int) < (s.size : Int)) = false := decide_eq_false (by omega)
      have hke : L = s.size := by omega
      have HKE := Hd (HE.out hke)
      clear hke
      go_wp2
      go_ret
      exact ⟨by rw [HKE.out]; rfl, rfl⟩
end Go.Proofs.YtojpohmijlkagaaDoor
