/- Parts. -/
import Derived.Test.YthdofaoamljkfaaGreatDoorLaw24AllK27
set_option maxRecDepth 10000
set_option maxHeartbeats 16000000
set_option linter.unusedVariables false
set_option linter.unusedSimpArgs false
namespace Go.Proofs.YthdofaoamljkfaaGreatDoor
open Go.RowKit
open Go.Lib hiding intOf
attribute [local go_sem ↓] Go.wp_at_zero Go.wp_at_succ
def MLen (w : World) : Prop := ∃ m, w.cell? ⟨(Tryz.laysCut_ren.g 1), 0, none⟩ = some (.int .i64 m)
theorem MLen.only {w w' : World} (h : MLen w) (ho : Only [] w w') : MLen w' := by
 obtain ⟨m, hm⟩ := h;refine ⟨m, (ho.cell ?_ (by simp)).trans hm⟩;unfold World.cell? at hm
 cases hb : w.heap[(Tryz.laysCut_ren.g 1 : Nat)]? with
 | none => simp [hb] at hm
 | some o => exact (Array.getElem?_eq_some_iff.1 hb).1
def blankR (r : Nat) : Bool := decide (r = 9) || decide (r = 13) || decide (r = 32)
theorem blank_any (r : Nat) (w : World) :
  Calls Tryz.prog 102 #[.int .i32 (r : Int)] w fun e w' => e = .returned (.bool (blankR r)) ∧ w = w' := by
 by_cases h1 : r = 9
 ·subst h1;go_enter Tryz.func102, Tryz.ntmps102;go_wp2
  go_ret
  exact ⟨rfl, rfl⟩
 ·have e1 : ((r : Int) == 9) = false := by simp; omega
  by_cases h2 : r = 13
  ·subst h2;go_enter Tryz.func102, Tryz.ntmps102;go_wp2
   go_ret
   exact ⟨rfl, rfl⟩
  ·have e2 : ((r : Int) == 13) = false := by simp; omega
   by_cases h3 : r = 32
   ·subst h3;go_enter Tryz.func102, Tryz.ntmps102;go_wp2
    go_ret
    exact ⟨rfl, rfl⟩
   ·have e3 : ((r : Int) == 32) = false := by simp; omega
    have hr : blankR r = false := by simp [blankR, h1, h2, h3]
    rw [hr];clear h1 h2 h3 hr;go_enter Tryz.func102, Tryz.ntmps102;go_wp2
    go_ret
    exact ⟨rfl, rfl⟩
def badL (l : List UInt8) : Bool := !validD l || l.contains 10
theorem cut_hash (s : ByteArray) (w : World) (hs : s.size ≤ 65535) (hM : MLen w) :
  Calls Tryz.prog 101 #[.string s, .string ⟨#[35]⟩] w fun e w' => (∃ a b : ByteArray, e = .returned (.tuple #[.string a, .string b, .bool ((by_ s).contains 35)]) ∧ by_ a = aheadL (by_ s) ∧ by_ b = (by_ s).drop ((aheadL (by_ s)).length + 1)) ∧ ∃ d, w' = w.drewN d := by
 obtain ⟨m, hm⟩ := hM;have h : Calls Tryz.prog 101 #[.string s, .string ⟨#[35]⟩] w _ := Any.strings_Cut Tryz.laysCut s ⟨#[35]⟩ m w (by omega) hm;refine h.mono fun e w' ⟨h1, h2⟩ => ⟨?_, h2⟩;change e = .returned (.tuple #[.string ⟨(Lib.cut (by_ s) [35]).1.toArray⟩, .string ⟨(Lib.cut (by_ s) [35]).2.1.toArray⟩, .bool (Lib.cut (by_ s) [35]).2.2]) at h1;rcases ahead_cases (by_ s) with ⟨hn, ha⟩ | ⟨rest, ha, hn⟩
 ·rw [cut_none hn] at h1;refine ⟨⟨(by_ s).toArray⟩, ⟨#[]⟩, ?_, ?_, ?_⟩
  ·rw [h1];have : (by_ s).contains 35 = false := by simpa using hn
   rw [this]
  ·rw [ha];exact List.toList_toArray
  ·rw [ha, List.drop_of_length_le (by omega)]
   rfl
 ·have hc : Lib.cut (by_ s) [35] = (aheadL (by_ s), rest, true) := by
   have := cut_some (rest := rest) hn
   rwa [← ha] at this
  rw [hc] at h1;have hd : (by_ s).drop ((aheadL (by_ s)).length + 1) = rest := by
   have := congrArg (List.drop ((aheadL (by_ s)).length + 1)) ha;rw [this, List.drop_append];simp
  refine ⟨⟨(aheadL (by_ s)).toArray⟩, ⟨rest.toArray⟩, ?_, List.toList_toArray, by rw [hd]; exact List.toList_toArray⟩;rw [h1];have : (by_ s).contains 35 = true := by
   rw [ha];simp
  rw [this]
theorem contains_nl (s : ByteArray) (w : World) :
  Calls Tryz.prog 100 #[.string s, .string ⟨#[10]⟩] w fun e w' => e = .returned (.bool ((by_ s).contains 10)) ∧ w = w' := by
 have h : Calls Tryz.prog 100 #[.string s, .string ⟨#[10]⟩] w _ := Any.strings_Contains_one Tryz.laysContains s 10 w;refine h.mono fun e w' ⟨h1, h2⟩ => ⟨?_, h2.symm⟩;rw [← contains_byte];exact h1
theorem tinfo_word : (Tryz.prog.info? 126).map (fun i => (i.zero, i.size, i.bytes)) = some (some (.agg #[.string ⟨#[]⟩, .int .i64 0]), 2, 24) := by kernel_rfl
theorem blankR_small {r : Nat} (h : blankR r = true) : r < 128 := by
 simp [blankR] at h;omega
theorem rune_blank {m : List UInt8} {r : Nat} (hm : IsRune m r) : (blankR r = true ∧ ∃ b, m = [b] ∧ blankB b = true) ∨ (blankR r = false ∧ ∀ b ∈ m, blankB b = false) := by
 by_cases hs : r < 128
 ·obtain ⟨b, rfl, hb⟩ := hm.small hs;have he : blankB b = blankR r := by
   rw [Bool.eq_iff_iff, blankB_iff, hb];simp [blankR, or_assoc]
  cases hbr : blankR r with
  | true => exact .inl ⟨rfl, b, rfl, by rw [he, hbr]⟩
  | false => exact .inr ⟨rfl, fun c hc => by simp at hc; subst hc; rw [he, hbr]⟩
 ·right
  refine ⟨?_, fun b hb => ?_⟩
  ·cases hbr : blankR r with
   | true => exact absurd (blankR_small hbr) hs
   | false => rfl
  ·have h1 := hm.big (by omega) b hb
   cases hbb : blankB b with
   | true =>
    have := (blankB_iff b).1 hbb;omega
   | false => rfl
def frI : Option Nat → Int
 | none => -1
 | some f => f
def FrOk (s : ByteArray) (fr : Option Nat) (pos : Nat) (z : Int) : Prop := ∀ f, fr = some f → f < pos ∧ z = (leads ((by_ s).take f) : Nat) + 1
theorem words_any (s : ByteArray) (w : World) (hs : s.size ≤ 65535) (hT : UTabs w) (hM : MLen w) :
    Calls Tryz.prog 88 #[.string s] w fun e w' => Only [] w w' ∧
      ((badL (by_ s) = true ∧ e = .returned (.tuple #[.slice none 0 0, .int .i64 5])) ∨
       (badL (by_ s) = false ∧ ∃ V, e = .returned (.tuple #[V, .int .i64 0]) ∧ w'.ownsRow w.heap.size 126 2 V (wordsOf (by_ s)).length (wordsV s (wordsOf (by_ s))))) := by
  obtain ⟨i0, hi, hz0, hz1, hz2⟩ := info_parts tinfo_word
  have HR := Hd (runes_any s w (by omega) hT)
  have HCN := Hd (fun w' => contains_nl s w')
  have HM := Hd hM
  have HBL := Hd (fun r w' => blank_any r w')
  have HBAD : Hid (badL (by_ s) = (!validD (by_ s) || (by_ s).contains 10)) := Hd rfl
  clear hT hM
  obtain ⟨vb, hvb⟩ : ∃ vb, vb = validD (by_ s) := ⟨_, rfl⟩
  obtain ⟨cb, hcb⟩ : ∃ cb, cb = (by_ s).contains 10 := ⟨_, rfl⟩
  rw [← hvb] at HR HBAD
  rw [← hcb] at HBAD HCN
  generalize (if vb = true then (runeCount s : Int) else 0) = rn at *
  have HV := Hd hvb
  clear hvb hcb
  go_enter Tryz.func88, Tryz.ntmps88
  go_wp2_with fail
  refine (HR.out).mono ?_
  rintro e w1 ⟨rfl, hO1⟩
  have HO1 := Hd hO1
  clear hO1
  cases vb with
  | false =>
    go_wp2
    go_ret2
    exact ⟨HO1.out, .inl ⟨by rw [HBAD.out]; rfl, rfl⟩⟩
  | true =>
    go_wp2_with fail
    refine (HCN.out w1).mono ?_
    rintro e w1' ⟨rfl, rfl⟩
    cases cb with
    | true =>
      go_wp2
      go_ret2
      exact ⟨HO1.out, .inl ⟨by rw [HBAD.out]; rfl, rfl⟩⟩
    | false =>
      have HCUT := Hd (cut_hash s w1 hs (HM.out.only HO1.out))
      generalize (by_ s).contains 35 = is at *
      go_wp2_with fail
      refine (HCUT.out).mono ?_
      rintro e w2 ⟨⟨a, b, rfl, ha, hb⟩, d, rfl⟩
      have hal : a.size ≤ 65535 := by
        have := ahead_len (by_ s)
        rw [← ha, by_length, by_length] at this
        omega
      have HA := Hd ha
      have HO2 := Hd (HO1.out.drewN d)
      obtain ⟨w2, hw2⟩ : ∃ w2, w2 = w1.drewN d := ⟨_, rfl⟩
      rw [← hw2] at HO2 ⊢
      clear ha hb hw2 HO1 HCUT
      go_wp2
      have hcs : (a ++ (⟨#[32]⟩ : ByteArray)).size ≤ 65536 := by
        rw [ByteArray.size_append]
        show a.size + 1 ≤ _
        omega
      have HCB : Hid (by_ (a ++ (⟨#[32]⟩ : ByteArray)) = codeL (by_ s)) := Hd (by rw [by_append, HA.out]; rfl)
      generalize a ++ (⟨#[32]⟩ : ByteArray) = c at *
      have HSZ : Hid (c.size = (aheadL (by_ s)).length + 1) := Hd (by rw [← by_length, HCB.out, code_len])
      clear hal HA
      have hO2s := HO2.out.size
      go_loopw [9, 10, 11, 12] (fun V kc av fv wr => ∃ (pos k : Nat) (fr : Option Nat) (z : Int) (ps : List (Nat × Nat)), kc = .int .i64 k ∧ av = .int .i64 z ∧ fv = .int .i64 (frI fr) ∧ pos ≤ c.size ∧ k ≤ pos ∧ ps.length ≤ pos ∧
        Hid (k = leads ((by_ c).take pos)) ∧ Hid (FrOk s fr pos z) ∧ Hid (validD ((by_ c).drop pos) = true) ∧ Hid (wr.heap[w2.heap.size]? = some (.stringIter c pos)) ∧
        Hid (wr.ownsRow w.heap.size 126 2 V ps.length (wordsV s ps)) ∧ Hid (wordsOf (by_ s) = ps ++ spansO ((by_ c).drop pos) pos fr) ∧ Hid (Only [] w wr)) (fun _ _ _ _ wr => c.size - wr.iterPos w2.heap.size)
      case atStart => exact ⟨0, 0, none, 0, [], rfl, rfl, rfl, by omega, by omega, by simp, Hd rfl, Hd (fun f h => by cases h), Hd (by rw [List.drop_zero, HCB.out]; exact code_valid HV.out.symm), Hd (World.iter_heap w2 c 0), Hd ⟨rfl, .inl ⟨rfl, rfl⟩⟩, Hd (by rw [List.drop_zero, HCB.out]; rfl), Hd (HO2.out.alloc _)⟩
      case round =>
        obtain ⟨pos, k, fr, z, ps, rfl, rfl, rfl, hpos, hkp, hpl, HK, HFR, HVD, HIT, HOWN, HW, HO⟩ := hrel
        by_cases hp : pos < c.size
        · have hnx : ∀ ty, (Instr.next (.pointer (some ⟨w2.heap.size, 0, none⟩)) true ty).run Tryz.prog wr = _ := fun ty => run_next_any_at wr w2.heap.size c pos ty HIT.out hp
          rcases valid_cases HVD.out with he | ⟨m, rest, r, he, hm, hrest⟩
          · exfalso
            have := congrArg List.length he
            rw [List.length_drop, by_length] at this
            simp at this
            omega
          have hdec : Utf8.decode c pos = (r, m.length) := by rw [← decL_at, he, hm.dec]
          have hwd := width_le c pos hp
          rw [hdec] at hnx hwd
          dsimp only at hwd
          have hip := iterPos_of HIT.out
          have hdr : (by_ c).drop (pos + m.length) = rest := by rw [← List.drop_drop, he, List.drop_left]
          have htk : (by_ c).take (pos + m.length) = (by_ c).take pos ++ m := by rw [List.take_add, he, List.take_left]
          have HK2 : Hid (k + 1 = leads ((by_ c).take (pos + m.length))) := Hd (by rw [htk, leads_app, leads_one hm, ← HK.out])
          have HVD2 : Hid (validD ((by_ c).drop (pos + m.length)) = true) := Hd (by rw [hdr]; exact hrest)
          have HIT2 := Hd (iterAt_heap wr w2.heap.size c pos (pos + m.length) HIT.out)
          have HOWN2 := Hd (own_iter HOWN.out HIT.out (pos + m.length))
          have HO3 := Hd (only_iter HO.out c (pos + m.length) (k := w2.heap.size) (fun h => by omega))
          have hip2 := iterPos_of HIT2.out
          have hwk : IntKind.i64.wrap ((k : Int) + 1) = (k : Int) + 1 := IntWalk.i64_in _ (by omega)
          have hple : pos ≤ (aheadL (by_ s)).length := by have := HSZ.out; omega
          have HTK : Hid ((by_ c).take pos = (by_ s).take pos) := Hd (by rw [HCB.out, code_take _ _ hple])
          have hsp : (blankR r = true ∧ spansO ((by_ c).drop pos) pos fr = closeW fr pos ++ spansO ((by_ c).drop (pos + m.length)) (pos + m.length) none) ∨
              (blankR r = false ∧ spansO ((by_ c).drop pos) pos fr = spansO ((by_ c).drop (pos + m.length)) (pos + m.length) (some (fr.getD pos))) := by
            rcases rune_blank hm with ⟨h1, b, rfl, h2⟩ | ⟨h1, h2⟩
            · left
              refine ⟨h1, ?_⟩
              rw [hdr, he, List.cons_append, List.nil_append, spans_blank _ _ _ _ h2]
              rfl
            · right
              refine ⟨h1, ?_⟩
              rw [hdr, he, spans_skip _ _ _ _ hm.ne h2]
          obtain ⟨bl, hbl⟩ : ∃ bl, bl = blankR r := ⟨_, rfl⟩
          have HB1 := Hd (fun w' => HBL.out r w')
          rw [← hbl] at HB1 hsp
          obtain ⟨wd, hwde⟩ : ∃ wd, wd = m.length := ⟨_, rfl⟩
          rw [← hwde] at hnx hwd HK2 HVD2 HIT2 HOWN2 HO3 hip2 hsp
          have hO3s := HO3.out.size
          obtain ⟨w3, hw3⟩ : ∃ w3, w3 = wr.iterAt w2.heap.size c (pos + wd) := ⟨_, rfl⟩
          rw [← hw3] at hnx HIT2 HOWN2 HO3 hip2 hO3s
          clear he hm hrest hdec hdr htk hbl hwde HVD HIT HOWN HO hw3 hple
          have hwd1 := hwd.1
          have hwd2 := hwd.2
          clear hwd
          cases bl with
          | true =>
            have hsp1 : spansO ((by_ c).drop pos) pos fr = closeW fr pos ++ spansO ((by_ c).drop (pos + wd)) (pos + wd) none := by
              rcases hsp with ⟨-, h⟩ | ⟨h, -⟩
              · exact h
              · cases h
            clear hsp
            cases fr with
            | some f =>
              have hfr := HFR.out f rfl
              obtain ⟨hf, hz⟩ := hfr
              have hf0 : (0 : Int) ≤ (f : Int) := Int.natCast_nonneg _
              have hfp : (f : Int) ≤ (pos : Int) := by omega
              have hps : (pos : Int) ≤ (c.size : Int) := by omega
              have hxe : c.extract f pos = s.extract f pos := by_inj (by rw [by_extract, by_extract, HTK.out])
              have HXV : Hid ([Value.string (c.extract f pos), .int .i64 z] = wordV s (f, pos)) := Hd (by rw [hxe, hz]; rfl)
              have HW2 : Hid (wordsOf (by_ s) = (ps ++ [(f, pos)]) ++ spansO ((by_ c).drop (pos + wd)) (pos + wd) none) := Hd (by rw [HW.out, hsp1, List.append_assoc]; rfl)
              have hml : 2 * ps.length ≤ 131074 := by omega
              clear hsp1 HW hxe hz HFR
              simp only [frI]
              go_wp2_with fail
              refine (HB1.out _).mono ?_
              rintro e w3' ⟨rfl, rfl⟩
              go_wp2_with (at_builtin; refine wpList_append_row _ rfl (.tmp 49) (.tmp 56) _ rfl w.heap.size 126 i0 _ 2 24 Tryz.underlying118 hi hz0 hz1 hz2 rfl (by omega) _ _ (wordsV s ps) rfl (own_only HOWN2.out ((Only.refl [] _).alloc _) (by simp)) (w3.heap.size + 1) (some ⟨w3.heap.size, 0, none⟩) 1 1 [.string (c.extract f pos), .int .i64 z] (by rfl) (by rfl) (row_lit w3 126 #[.string (c.extract f pos), .int .i64 z]) (by intro u hu; simp at hu; rcases hu with rfl | rfl <;> rfl) (by unfold maxLen; omega) (by omega) (by simp; omega) ?_; intro v3 w4 hown3 hgrow hat)
              have REL : w4.heap[w2.heap.size]? = some (.stringIter c (pos + wd)) ∧ w4.ownsRow w.heap.size 126 2 v3 (ps ++ [(f, pos)]).length (wordsV s (ps ++ [(f, pos)])) ∧ Only [] w w4 := by
                have hk : w2.heap.size < w3.heap.size := (Array.getElem?_eq_some_iff.1 HIT2.out).1
                have hwas : (w3.alloc (.cells #[.string (c.extract f pos), .int .i64 z] 126)).heap[w2.heap.size]? = some (.stringIter c (pos + wd)) := by
                  rw [Below.heap_alloc w3 _ w2.heap.size hk]
                  exact HIT2.out
                refine ⟨?_, ?_, (HO3.out.alloc _).step (only_grown hgrow) (own_new HOWN2.out)⟩
                · have hnot : w2.heap.size ∉ u9.ownBlock.toList := fun hm => by
                    cases hv : u9.ownBlock with
                    | none => rw [hv] at hm; cases hm
                    | some g =>
                      rw [hv] at hm
                      simp at hm
                      subst hm
                      obtain ⟨cur, hcur⟩ := own_blk HOWN2.out hv
                      unfold Blk at hcur
                      rw [HIT2.out] at hcur
                      cases hcur
                  rw [(only_grown hgrow).keeps w2.heap.size (by rw [World.size_alloc]; omega) hnot]
                  exact hwas
                · rw [List.length_append, wordsV_snoc, ← HXV.out]
                  exact hown3
              have HREL := Hd REL
              have hip3 := iterPos_of REL.1
              clear REL hown3 hgrow hat
              go_wp2
              go_roundw
              case rel =>
                first
                | exact ⟨pos + wd, k + 1, none, z, _, by go_num, rfl, rfl, by omega, by omega, by simp; omega, HK2, Hd (fun f h => by cases h), HVD2, Hd HREL.out.1, Hd HREL.out.2.1, HW2, Hd HREL.out.2.2⟩
                | exact ⟨_, _, _, _, ⟨pos + wd, k + 1, none, z, _, by go_num, rfl, rfl, by omega, by omega, by simp; omega, HK2, Hd (fun f h => by cases h), HVD2, Hd HREL.out.1, Hd HREL.out.2.1, HW2, Hd HREL.out.2.2⟩, rfl⟩
              case measure => rw [hip, hip3]; omega
            | none =>
              have HW2 : Hid (wordsOf (by_ s) = ps ++ spansO ((by_ c).drop (pos + wd)) (pos + wd) none) := Hd (by rw [HW.out, hsp1]; rfl)
              clear hsp1 HW
              simp only [frI]
              go_wp2_with fail
              refine (HB1.out _).mono ?_
              rintro e w3' ⟨rfl, rfl⟩
              go_wp2_with fail
              refine (HB1.out _).mono ?_
              rintro e w3' ⟨rfl, rfl⟩
              go_wp2
              go_roundw
              case rel => exact ⟨pos + wd, k + 1, none, z, ps, by go_num, rfl, rfl, by omega, by omega, by omega, HK2, Hd (fun f h => by cases h), HVD2, HIT2, HOWN2, HW2, HO3⟩
              case measure => rw [hip, hip2]; omega
          | false =>
            have hsp1 : spansO ((by_ c).drop pos) pos fr = spansO ((by_ c).drop (pos + wd)) (pos + wd) (some (fr.getD pos)) := by
              rcases hsp with ⟨h, -⟩ | ⟨-, h⟩
              · cases h
              · exact h
            clear hsp
            cases fr with
            | some f =>
              have hf0 : (0 : Int) ≤ (f : Int) := Int.natCast_nonneg _
              have HFR2 : Hid (FrOk s (some f) (pos + wd) z) := Hd (fun f' h => by have := HFR.out f' h; exact ⟨by omega, this.2⟩)
              have HW2 : Hid (wordsOf (by_ s) = ps ++ spansO ((by_ c).drop (pos + wd)) (pos + wd) (some f)) := Hd (by rw [HW.out, hsp1]; rfl)
              have hfn : decide ((f : Int) < 0) = false := decide_eq_false (by omega)
              clear hsp1 HW HFR
              simp only [frI]
              go_wp2_with fail
              refine (HB1.out _).mono ?_
              rintro e w3' ⟨rfl, rfl⟩
              go_wp2_with fail
              refine (HB1.out _).mono ?_
              rintro e w3' ⟨rfl, rfl⟩
              go_wp2
              go_roundw
              case rel => exact ⟨pos + wd, k + 1, some f, z, ps, by go_num, rfl, rfl, by omega, by omega, by omega, HK2, HFR2, HVD2, HIT2, HOWN2, HW2, HO3⟩
              case measure => rw [hip, hip2]; omega
            | none =>
              have HFR2 : Hid (FrOk s (some pos) (pos + wd) ((k : Int) + 1)) := Hd (fun f' h => by
                obtain rfl := Option.some.inj h
                exact ⟨by omega, by rw [← HTK.out, ← HK.out]⟩)
              have HW2 : Hid (wordsOf (by_ s) = ps ++ spansO ((by_ c).drop (pos + wd)) (pos + wd) (some pos)) := Hd (by rw [HW.out, hsp1]; rfl)
              clear hsp1 HW HFR
              simp only [frI]
              go_wp2_with fail
              refine (HB1.out _).mono ?_
              rintro e w3' ⟨rfl, rfl⟩
              go_wp2_with fail
              refine (HB1.out _).mono ?_
              rintro e w3' ⟨rfl, rfl⟩
              go_wp2
              go_roundw
              case rel => exact ⟨pos + wd, k + 1, some pos, (k : Int) + 1, ps, by go_num, rfl, rfl, by omega, by omega, by omega, HK2, HFR2, HVD2, HIT2, HOWN2, HW2, HO3⟩
              case measure => rw [hip, hip2]; omega
        · have hnx : ∀ ty, (Instr.next (.pointer (some ⟨w2.heap.size, 0, none⟩)) true ty).run Tryz.prog wr = _ := fun ty => run_next_end_at wr w2.heap.size c pos ty HIT.out hp
          have hl : (by_ c).drop pos = [] := List.drop_of_length_le (by rw [by_length]; omega)
          have hpe : ps = wordsOf (by_ s) := by
            have := HW.out
            rw [hl] at this
            simp only [spansO, List.append_nil] at this
            exact this.symm
          have hown := HOWN.out
          rw [hpe] at hown
          have HOWN2 := Hd hown
          clear hl HW HOWN hown hpe
          go_wp2
          go_ret2
          exact ⟨HO.out, .inr ⟨HBAD.out, _, rfl, HOWN2.out⟩⟩
end Go.Proofs.YthdofaoamljkfaaGreatDoor
namespace Go.Proofs.YthdofaoamljkfaaGreatDoor
open Go.Lib hiding intOf
def textsOf (s : ByteArray) : List ByteArray := (wordsOf (by_ s)).map fun p => s.extract p.1 p.2
end Go.Proofs.YthdofaoamljkfaaGreatDoor
