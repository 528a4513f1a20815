/- Contracts of the package split: blank, Words. A contract of the library at this program: what it asks of the program, field by field. Contracts of the package split: Join. Words joined and parted again: the mathematics. Contracts of the package event: Print. -/
import Derived.Test.YthaeomdpaadilaaGreatDoorShowParsesCardK21
import Derived.Test.YthaeomdpaadilaaGreatDoorProg
import Derived.Ground.NamesProg
import Derived.Shelf.Strings.OnBuilder
import Derived.Test.YthaeomdpaadilaaGreatDoorShowParsesCardK6
import Derived.Lib.ItoaLen
set_option linter.unusedVariables false
set_option linter.unusedSimpArgs false
namespace Go.Proofs.YthaeomdpaadilaaGreatDoor
open Go.RowKit
open Go.Lib hiding intOf
attribute [local go_sem ↓] Go.wp_at_zero Go.wp_at_succ
def MLen (w : World) : Prop := ∃ m, w.cell? ⟨(Tryz.laysCut_ren.g 1), 0, none⟩ = some (.int .i64 m)
theorem MLen.only {w w' : World} (h : MLen w) (ho : Only [] w w') : MLen w' := by
 obtain ⟨m, hm⟩ := h
 refine ⟨m, (ho.cell ?_ (by simp)).trans hm⟩
 unfold World.cell? at hm
 cases hb : w.heap[(Tryz.laysCut_ren.g 1 : Nat)]? with
 | none => simp [hb] at hm
 | some o => exact (Array.getElem?_eq_some_iff.1 hb).1
def blankR (r : Nat) : Bool := decide (r = 9) || decide (r = 13) || decide (r = 32)
theorem blank_any (r : Nat) (w : World) :
  Calls Tryz.prog 96 #[.int .i32 (r : Int)] w fun e w' => e = .returned (.bool (blankR r)) ∧ w = w' := by
 by_cases h1 : r = 9
 ·subst h1
  go_enter Tryz.func96, Tryz.ntmps96
  go_wp2
  go_ret
  exact ⟨rfl, rfl⟩
 ·have e1 : ((r : Int) == 9) = false := by simp; omega
  by_cases h2 : r = 13
  ·subst h2
   go_enter Tryz.func96, Tryz.ntmps96
   go_wp2
   go_ret
   exact ⟨rfl, rfl⟩
  ·have e2 : ((r : Int) == 13) = false := by simp; omega
   by_cases h3 : r = 32
   ·subst h3
    go_enter Tryz.func96, Tryz.ntmps96
    go_wp2
    go_ret
    exact ⟨rfl, rfl⟩
   ·have e3 : ((r : Int) == 32) = false := by simp; omega
    have hr : blankR r = false := by simp [blankR, h1, h2, h3]
    rw [hr]
    clear h1 h2 h3 hr
    go_enter Tryz.func96, Tryz.ntmps96
    go_wp2
    go_ret
    exact ⟨rfl, rfl⟩
def badL (l : List UInt8) : Bool := !validD l || l.contains 10
theorem cut_hash (s : ByteArray) (w : World) (hs : s.size ≤ 65535) (hM : MLen w) :
  Calls Tryz.prog 95 #[.string s, .string ⟨#[35]⟩] w fun e w' => (∃ a b : ByteArray, e = .returned (.tuple #[.string a, .string b, .bool ((by_ s).contains 35)]) ∧ by_ a = aheadL (by_ s) ∧ by_ b = (by_ s).drop ((aheadL (by_ s)).length + 1)) ∧ ∃ d, w' = w.drewN d := by
 obtain ⟨m, hm⟩ := hM
 have h : Calls Tryz.prog 95 #[.string s, .string ⟨#[35]⟩] w _ := Any.strings_Cut Tryz.laysCut s ⟨#[35]⟩ m w (by omega) hm
 refine h.mono fun e w' ⟨h1, h2⟩ => ⟨?_, h2⟩
 change e = .returned (.tuple #[.string ⟨(Lib.cut (by_ s) [35]).1.toArray⟩, .string ⟨(Lib.cut (by_ s) [35]).2.1.toArray⟩, .bool (Lib.cut (by_ s) [35]).2.2]) at h1
 rcases ahead_cases (by_ s) with ⟨hn, ha⟩ | ⟨rest, ha, hn⟩
 ·rw [cut_none hn] at h1
  refine ⟨⟨(by_ s).toArray⟩, ⟨#[]⟩, ?_, ?_, ?_⟩
  ·rw [h1]
   have : (by_ s).contains 35 = false := by simpa using hn
   rw [this]
  ·rw [ha]
   exact List.toList_toArray
  ·rw [ha, List.drop_of_length_le (by omega)]
   rfl
 ·have hc : Lib.cut (by_ s) [35] = (aheadL (by_ s), rest, true) := by
   have := cut_some (rest := rest) hn
   rwa [← ha] at this
  rw [hc] at h1
  have hd : (by_ s).drop ((aheadL (by_ s)).length + 1) = rest := by
   have := congrArg (List.drop ((aheadL (by_ s)).length + 1)) ha
   rw [this, List.drop_append]
   simp
  refine ⟨⟨(aheadL (by_ s)).toArray⟩, ⟨rest.toArray⟩, ?_, List.toList_toArray, by rw [hd]; exact List.toList_toArray⟩
  rw [h1]
  have : (by_ s).contains 35 = true := by
   rw [ha]
   simp
  rw [this]
theorem contains_nl (s : ByteArray) (w : World) :
  Calls Tryz.prog 94 #[.string s, .string ⟨#[10]⟩] w fun e w' => e = .returned (.bool ((by_ s).contains 10)) ∧ w = w' := by
 have h : Calls Tryz.prog 94 #[.string s, .string ⟨#[10]⟩] w _ := Any.strings_Contains_one Tryz.laysContains s 10 w
 refine h.mono fun e w' ⟨h1, h2⟩ => ⟨?_, h2.symm⟩
 rw [← contains_byte]
 exact h1
theorem tinfo_word : (Tryz.prog.info? 115).map (fun i => (i.zero, i.size, i.bytes)) = some (some (.agg #[.string ⟨#[]⟩, .int .i64 0]), 2, 24) := by kernel_rfl
theorem blankR_small {r : Nat} (h : blankR r = true) : r < 128 := by
 simp [blankR] at h
 omega
/-- What a rune's bytes say of blanks. -/
theorem rune_blank {m : List UInt8} {r : Nat} (hm : IsRune m r) : (blankR r = true ∧ ∃ b, m = [b] ∧ blankB b = true) ∨ (blankR r = false ∧ ∀ b ∈ m, blankB b = false) := by
 by_cases hs : r < 128
 ·obtain ⟨b, rfl, hb⟩ := hm.small hs
  have he : blankB b = blankR r := by
   rw [Bool.eq_iff_iff, blankB_iff, hb]
   simp [blankR, or_assoc]
  cases hbr : blankR r with
  | true => exact .inl ⟨rfl, b, rfl, by rw [he, hbr]⟩
  | false => exact .inr ⟨rfl, fun c hc => by simp at hc; subst hc; rw [he, hbr]⟩
 ·right
  refine ⟨?_, fun b hb => ?_⟩
  ·cases hbr : blankR r with
   | true => exact absurd (blankR_small hbr) hs
   | false => rfl
  ·have h1 := hm.big (by omega) b hb
   cases hbb : blankB b with
   | true =>
    have := (blankB_iff b).1 hbb
    omega
   | false => rfl
def frI : Option Nat → Int
 | none => -1
 | some f => f
def FrOk (s : ByteArray) (fr : Option Nat) (pos : Nat) (z : Int) : Prop := ∀ f, fr = some f → f < pos ∧ z = (leads ((by_ s).take f) : Nat) + 1
set_option maxHeartbeats 4000000 in
theorem words_any (s : ByteArray) (w : World) (hs : s.size ≤ 65535) (hT : UTabs w) (hM : MLen w) :
    Calls Tryz.prog 69 #[.string s] w fun e w' => Only [] w w' ∧
      ((badL (by_ s) = true ∧ e = .returned (.tuple #[.slice none 0 0, .int .i64 5])) ∨
       (badL (by_ s) = false ∧ ∃ V, e = .returned (.tuple #[V, .int .i64 0]) ∧ w'.ownsRow w.heap.size 115 2 V (wordsOf (by_ s)).length (wordsV s (wordsOf (by_ s))))) := by
  obtain ⟨i0, hi, hz0, hz1, hz2⟩ := info_parts tinfo_word
  have HR := Lib.hid (runes_any s w (by omega) hT)
  have HCN := Lib.hid (fun w' => contains_nl s w')
  have HM := Lib.hid hM
  have HBL := Lib.hid (fun r w' => blank_any r w')
  have HBAD : Hid (badL (by_ s) = (!validD (by_ s) || (by_ s).contains 10)) := Lib.hid rfl
  clear hT hM
  obtain ⟨vb, hvb⟩ : ∃ vb, vb = validD (by_ s) := ⟨_, rfl⟩
  obtain ⟨cb, hcb⟩ : ∃ cb, cb = (by_ s).contains 10 := ⟨_, rfl⟩
  rw [← hvb] at HR HBAD
  rw [← hcb] at HBAD HCN
  generalize (if vb = true then (runeCount s : Int) else 0) = rn at *
  have HV := Lib.hid hvb
  clear hvb hcb
  go_enter Tryz.func69, Tryz.ntmps69
  go_wp2_with fail
  refine (HR.out).mono ?_
  rintro e w1 ⟨rfl, hO1⟩
  have HO1 := Lib.hid hO1
  clear hO1
  cases vb with
  | false =>
    go_wp2
    go_ret2
    exact ⟨HO1.out, .inl ⟨by rw [HBAD.out]; rfl, rfl⟩⟩
  | true =>
    go_wp2_with fail
    refine (HCN.out w1).mono ?_
    rintro e w1' ⟨rfl, rfl⟩
    cases cb with
    | true =>
      go_wp2
      go_ret2
      exact ⟨HO1.out, .inl ⟨by rw [HBAD.out]; rfl, rfl⟩⟩
    | false =>
      have HCUT := Lib.hid (cut_hash s w1 hs (HM.out.only HO1.out))
      generalize (by_ s).contains 35 = is at *
      go_wp2_with fail
      refine (HCUT.out).mono ?_
      rintro e w2 ⟨⟨a, b, rfl, ha, hb⟩, d, rfl⟩
      have hal : a.size ≤ 65535 := by
        have := ahead_len (by_ s)
        rw [← ha, by_length, by_length] at this
        omega
      have HA := Lib.hid ha
      have HO2 := Lib.hid (HO1.out.drewN d)
      obtain ⟨w2, hw2⟩ : ∃ w2, w2 = w1.drewN d := ⟨_, rfl⟩
      rw [← hw2] at HO2 ⊢
      clear ha hb hw2 HO1 HCUT
      go_wp2
      have hcs : (a ++ (⟨#[32]⟩ : ByteArray)).size ≤ 65536 := by
        rw [ByteArray.size_append]
        show a.size + 1 ≤ _
        omega
      have HCB : Hid (by_ (a ++ (⟨#[32]⟩ : ByteArray)) = codeL (by_ s)) := Lib.hid (by rw [by_append, HA.out]; rfl)
      generalize a ++ (⟨#[32]⟩ : ByteArray) = c at *
      have HSZ : Hid (c.size = (aheadL (by_ s)).length + 1) := Lib.hid (by rw [← by_length, HCB.out, code_len])
      clear hal HA
      have hO2s := HO2.out.size
      go_loopw [9, 10, 11, 12] (fun V kc av fv wr => ∃ (pos k : Nat) (fr : Option Nat) (z : Int) (ps : List (Nat × Nat)), kc = .int .i64 k ∧ av = .int .i64 z ∧ fv = .int .i64 (frI fr) ∧ pos ≤ c.size ∧ k ≤ pos ∧ ps.length ≤ pos ∧
        Hid (k = leads ((by_ c).take pos)) ∧ Hid (FrOk s fr pos z) ∧ Hid (validD ((by_ c).drop pos) = true) ∧ Hid (wr.heap[w2.heap.size]? = some (.stringIter c pos)) ∧
        Hid (wr.ownsRow w.heap.size 115 2 V ps.length (wordsV s ps)) ∧ Hid (wordsOf (by_ s) = ps ++ spansO ((by_ c).drop pos) pos fr) ∧ Hid (Only [] w wr)) (fun _ _ _ _ wr => c.size - wr.iterPos w2.heap.size)
      case atStart => exact ⟨0, 0, none, 0, [], rfl, rfl, rfl, by omega, by omega, by simp, Lib.hid rfl, Lib.hid (fun f h => by cases h), Lib.hid (by rw [List.drop_zero, HCB.out]; exact code_valid HV.out.symm), Lib.hid (World.iter_heap w2 c 0), Lib.hid ⟨rfl, .inl ⟨rfl, rfl⟩⟩, Lib.hid (by rw [List.drop_zero, HCB.out]; rfl), Lib.hid (HO2.out.alloc _)⟩
      case round =>
        obtain ⟨pos, k, fr, z, ps, rfl, rfl, rfl, hpos, hkp, hpl, HK, HFR, HVD, HIT, HOWN, HW, HO⟩ := hrel
        by_cases hp : pos < c.size
        · have hnx : ∀ ty, (Instr.next (.pointer (some ⟨w2.heap.size, 0, none⟩)) true ty).run Tryz.prog wr = _ := fun ty => run_next_any_at wr w2.heap.size c pos ty HIT.out hp
          rcases valid_cases HVD.out with he | ⟨m, rest, r, he, hm, hrest⟩
          · exfalso
            have := congrArg List.length he
            rw [List.length_drop, by_length] at this
            simp at this
            omega
          have hdec : Utf8.decode c pos = (r, m.length) := by rw [← decL_at, he, hm.dec]
          have hwd := width_le c pos hp
          rw [hdec] at hnx hwd
          dsimp only at hwd
          have hip := iterPos_of HIT.out
          have hdr : (by_ c).drop (pos + m.length) = rest := by rw [← List.drop_drop, he, List.drop_left]
          have htk : (by_ c).take (pos + m.length) = (by_ c).take pos ++ m := by rw [List.take_add, he, List.take_left]
          have HK2 : Hid (k + 1 = leads ((by_ c).take (pos + m.length))) := Lib.hid (by rw [htk, leads_app, leads_one hm, ← HK.out])
          have HVD2 : Hid (validD ((by_ c).drop (pos + m.length)) = true) := Lib.hid (by rw [hdr]; exact hrest)
          have HIT2 := Lib.hid (iterAt_heap wr w2.heap.size c pos (pos + m.length) HIT.out)
          have HOWN2 := Lib.hid (own_iter HOWN.out HIT.out (pos + m.length))
          have HO3 := Lib.hid (only_iter HO.out c (pos + m.length) (k := w2.heap.size) (fun h => by omega))
          have hip2 := iterPos_of HIT2.out
          have hwk : IntKind.i64.wrap ((k : Int) + 1) = (k : Int) + 1 := IntWalk.i64_in _ (by omega)
          have hple : pos ≤ (aheadL (by_ s)).length := by have := HSZ.out; omega
          have HTK : Hid ((by_ c).take pos = (by_ s).take pos) := Lib.hid (by rw [HCB.out, code_take _ _ hple])
          have hsp : (blankR r = true ∧ spansO ((by_ c).drop pos) pos fr = closeW fr pos ++ spansO ((by_ c).drop (pos + m.length)) (pos + m.length) none) ∨
              (blankR r = false ∧ spansO ((by_ c).drop pos) pos fr = spansO ((by_ c).drop (pos + m.length)) (pos + m.length) (some (fr.getD pos))) := by
            rcases rune_blank hm with ⟨h1, b, rfl, h2⟩ | ⟨h1, h2⟩
            · left
              refine ⟨h1, ?_⟩
              rw [hdr, he, List.cons_append, List.nil_append, spans_blank _ _ _ _ h2]
              rfl
            · right
              refine ⟨h1, ?_⟩
              rw [hdr, he, spans_skip _ _ _ _ hm.ne h2]
          obtain ⟨bl, hbl⟩ : ∃ bl, bl = blankR r := ⟨_, rfl⟩
          have HB1 := Lib.hid (fun w' => HBL.out r w')
          rw [← hbl] at HB1 hsp
          obtain ⟨wd, hwde⟩ : ∃ wd, wd = m.length := ⟨_, rfl⟩
          rw [← hwde] at hnx hwd HK2 HVD2 HIT2 HOWN2 HO3 hip2 hsp
          have hO3s := HO3.out.size
          obtain ⟨w3, hw3⟩ : ∃ w3, w3 = wr.iterAt w2.heap.size c (pos + wd) := ⟨_, rfl⟩
          rw [← hw3] at hnx HIT2 HOWN2 HO3 hip2 hO3s
          clear he hm hrest hdec hdr htk hbl hwde HVD HIT HOWN HO hw3 hple
          have hwd1 := hwd.1
          have hwd2 := hwd.2
          clear hwd
          cases bl with
          | true =>
            have hsp1 : spansO ((by_ c).drop pos) pos fr = closeW fr pos ++ spansO ((by_ c).drop (pos + wd)) (pos + wd) none := by
              rcases hsp with ⟨-, h⟩ | ⟨h, -⟩
              · exact h
              · cases h
            clear hsp
            cases fr with
            | some f =>
              have hfr := HFR.out f rfl
              obtain ⟨hf, hz⟩ := hfr
              have hf0 : (0 : Int) ≤ (f : Int) := Int.natCast_nonneg _
              have hfp : (f : Int) ≤ (pos : Int) := by omega
              have hps : (pos : Int) ≤ (c.size : Int) := by omega
              have hxe : c.extract f pos = s.extract f pos := by_inj (by rw [by_extract, by_extract, HTK.out])
              have HXV : Hid ([Value.string (c.extract f pos), .int .i64 z] = wordV s (f, pos)) := Lib.hid (by rw [hxe, hz]; rfl)
              have HW2 : Hid (wordsOf (by_ s) = (ps ++ [(f, pos)]) ++ spansO ((by_ c).drop (pos + wd)) (pos + wd) none) := Lib.hid (by rw [HW.out, hsp1, List.append_assoc]; rfl)
              have hml : 2 * ps.length ≤ 131074 := by omega
              clear hsp1 HW hxe hz HFR
              simp only [frI]
              go_wp2_with fail
              refine (HB1.out _).mono ?_
              rintro e w3' ⟨rfl, rfl⟩
              go_wp2_with (at_builtin; refine wpList_append_row _ rfl (.tmp 49) (.tmp 56) _ rfl w.heap.size 115 i0 _ 2 24 Tryz.underlying110 hi hz0 hz1 hz2 rfl (by omega) _ _ (wordsV s ps) rfl (own_only HOWN2.out ((Only.refl [] _).alloc _) (by simp)) (w3.heap.size + 1) (some ⟨w3.heap.size, 0, none⟩) 1 1 [.string (c.extract f pos), .int .i64 z] (by rfl) (by rfl) (row_lit w3 115 #[.string (c.extract f pos), .int .i64 z]) (by intro u hu; simp at hu; rcases hu with rfl | rfl <;> rfl) (by unfold maxLen; omega) (by omega) (by simp; omega) ?_; intro v3 w4 hown3 hgrow hat)
              have REL : w4.heap[w2.heap.size]? = some (.stringIter c (pos + wd)) ∧ w4.ownsRow w.heap.size 115 2 v3 (ps ++ [(f, pos)]).length (wordsV s (ps ++ [(f, pos)])) ∧ Only [] w w4 := by
                have hk : w2.heap.size < w3.heap.size := (Array.getElem?_eq_some_iff.1 HIT2.out).1
                have hwas : (w3.alloc (.cells #[.string (c.extract f pos), .int .i64 z] 115)).heap[w2.heap.size]? = some (.stringIter c (pos + wd)) := by
                  rw [Below.heap_alloc w3 _ w2.heap.size hk]
                  exact HIT2.out
                refine ⟨?_, ?_, (HO3.out.alloc _).step (only_grown hgrow) (own_new HOWN2.out)⟩
                · have hnot : w2.heap.size ∉ u9.ownBlock.toList := fun hm => by
                    cases hv : u9.ownBlock with
                    | none => rw [hv] at hm; cases hm
                    | some g =>
                      rw [hv] at hm
                      simp at hm
                      subst hm
                      obtain ⟨cur, hcur⟩ := own_blk HOWN2.out hv
                      unfold Blk at hcur
                      rw [HIT2.out] at hcur
                      cases hcur
                  rw [(only_grown hgrow).keeps w2.heap.size (by rw [World.size_alloc]; omega) hnot]
                  exact hwas
                · rw [List.length_append, wordsV_snoc, ← HXV.out]
                  exact hown3
              have HREL := Lib.hid REL
              have hip3 := iterPos_of REL.1
              clear REL hown3 hgrow hat
              go_wp2
              go_roundw
              case rel =>
                first
                | exact ⟨pos + wd, k + 1, none, z, _, by go_num, rfl, rfl, by omega, by omega, by simp; omega, HK2, Lib.hid (fun f h => by cases h), HVD2, Lib.hid HREL.out.1, Lib.hid HREL.out.2.1, HW2, Lib.hid HREL.out.2.2⟩
                | exact ⟨_, _, _, _, ⟨pos + wd, k + 1, none, z, _, by go_num, rfl, rfl, by omega, by omega, by simp; omega, HK2, Lib.hid (fun f h => by cases h), HVD2, Lib.hid HREL.out.1, Lib.hid HREL.out.2.1, HW2, Lib.hid HREL.out.2.2⟩, rfl⟩
              case measure => rw [hip, hip3]; omega
            | none =>
              have HW2 : Hid (wordsOf (by_ s) = ps ++ spansO ((by_ c).drop (pos + wd)) (pos + wd) none) := Lib.hid (by rw [HW.out, hsp1]; rfl)
              clear hsp1 HW
              simp only [frI]
              go_wp2_with fail
              refine (HB1.out _).mono ?_
              rintro e w3' ⟨rfl, rfl⟩
              go_wp2_with fail
              refine (HB1.out _).mono ?_
              rintro e w3' ⟨rfl, rfl⟩
              go_wp2
              go_roundw
              case rel => exact ⟨pos + wd, k + 1, none, z, ps, by go_num, rfl, rfl, by omega, by omega, by omega, HK2, Lib.hid (fun f h => by cases h), HVD2, HIT2, HOWN2, HW2, HO3⟩
              case measure => rw [hip, hip2]; omega
          | false =>
            have hsp1 : spansO ((by_ c).drop pos) pos fr = spansO ((by_ c).drop (pos + wd)) (pos + wd) (some (fr.getD pos)) := by
              rcases hsp with ⟨h, -⟩ | ⟨-, h⟩
              · cases h
              · exact h
            clear hsp
            cases fr with
            | some f =>
              have hf0 : (0 : Int) ≤ (f : Int) := Int.natCast_nonneg _
              have HFR2 : Hid (FrOk s (some f) (pos + wd) z) := Lib.hid (fun f' h => by have := HFR.out f' h; exact ⟨by omega, this.2⟩)
              have HW2 : Hid (wordsOf (by_ s) = ps ++ spansO ((by_ c).drop (pos + wd)) (pos + wd) (some f)) := Lib.hid (by rw [HW.out, hsp1]; rfl)
              have hfn : decide ((f : Int) < 0) = false := decide_eq_false (by omega)
              clear hsp1 HW HFR
              simp only [frI]
              go_wp2_with fail
              refine (HB1.out _).mono ?_
              rintro e w3' ⟨rfl, rfl⟩
              go_wp2_with fail
              refine (HB1.out _).mono ?_
              rintro e w3' ⟨rfl, rfl⟩
              go_wp2
              go_roundw
              case rel => exact ⟨pos + wd, k + 1, some f, z, ps, by go_num, rfl, rfl, by omega, by omega, by omega, HK2, HFR2, HVD2, HIT2, HOWN2, HW2, HO3⟩
              case measure => rw [hip, hip2]; omega
            | none =>
              have HFR2 : Hid (FrOk s (some pos) (pos + wd) ((k : Int) + 1)) := Lib.hid (fun f' h => by
                obtain rfl := Option.some.inj h
                exact ⟨by omega, by rw [← HTK.out, ← HK.out]⟩)
              have HW2 : Hid (wordsOf (by_ s) = ps ++ spansO ((by_ c).drop (pos + wd)) (pos + wd) (some pos)) := Lib.hid (by rw [HW.out, hsp1]; rfl)
              clear hsp1 HW HFR
              simp only [frI]
              go_wp2_with fail
              refine (HB1.out _).mono ?_
              rintro e w3' ⟨rfl, rfl⟩
              go_wp2_with fail
              refine (HB1.out _).mono ?_
              rintro e w3' ⟨rfl, rfl⟩
              go_wp2
              go_roundw
              case rel => exact ⟨pos + wd, k + 1, some pos, (k : Int) + 1, ps, by go_num, rfl, rfl, by omega, by omega, by omega, HK2, HFR2, HVD2, HIT2, HOWN2, HW2, HO3⟩
              case measure => rw [hip, hip2]; omega
        · have hnx : ∀ ty, (Instr.next (.pointer (some ⟨w2.heap.size, 0, none⟩)) true ty).run Tryz.prog wr = _ := fun ty => run_next_end_at wr w2.heap.size c pos ty HIT.out hp
          have hl : (by_ c).drop pos = [] := List.drop_of_length_le (by rw [by_length]; omega)
          have hpe : ps = wordsOf (by_ s) := by
            have := HW.out
            rw [hl] at this
            simp only [spansO, List.append_nil] at this
            exact this.symm
          have hown := HOWN.out
          rw [hpe] at hown
          have HOWN2 := Lib.hid hown
          clear hl HW HOWN hown hpe
          go_wp2
          go_ret2
          exact ⟨HO.out, .inr ⟨HBAD.out, _, rfl, HOWN2.out⟩⟩
end Go.Proofs.YthaeomdpaadilaaGreatDoor

namespace Go.Proofs
open Go.Shelf
def Tryz.laysJoin_ren : Go.Shelf.Ren := ⟨fun | 156 => 88 | 165 => 109 | 166 => 37 | 169 => 39 | 240 => 64 | 241 => 117 | 276 => 90 | 277 => 122 | n => n, fun | 31 => 22 | 9 => 9 | 3 => 3 | 4 => 4 | 0 => 0 | 20 => 20 | 72 => 67 | 76 => 72 | 70 => 64 | 37 => 65 | 75 => 71 | 127 => 108 | 164 => 138 | 5 => 5 | 80 => 75 | n => n, fun | n => n⟩
theorem Tryz.laysJoin : Go.Proofs.Lays.n156 Tryz.prog Tryz.laysJoin_ren := {
 mixed := by kernel_rfl
 f156 := Tryz.func88.trans (congrArg some (by kernel_rfl))
 f165 := Tryz.func109.trans (congrArg some (by kernel_rfl))
 f166 := Tryz.func37.trans (congrArg some (by kernel_rfl))
 f169 := Tryz.func39.trans (congrArg some (by kernel_rfl))
 f240 := Tryz.func64.trans (congrArg some (by kernel_rfl))
 f241 := Tryz.func117.trans (congrArg some (by kernel_rfl))
 f276 := Tryz.func90.trans (congrArg some (by kernel_rfl))
 f277 := Tryz.func122.trans (congrArg some (by kernel_rfl))
 t0 := Tryz.underlying0
 a0 := Tryz.isAgg0
 z0 := Tryz.sizeOf0
 v0 := Tryz.zeroValue0
 t3 := Tryz.underlying3
 a3 := Tryz.isAgg3
 z3 := Tryz.sizeOf3
 v3 := Tryz.zeroValue3
 t4 := Tryz.underlying4
 a4 := Tryz.isAgg4
 z4 := Tryz.sizeOf4
 v4 := Tryz.zeroValue4
 t9 := Tryz.underlying9
 a9 := Tryz.isAgg9
 z9 := Tryz.sizeOf9
 v9 := Tryz.zeroValue9
 t20 := Tryz.underlying20
 a20 := Tryz.isAgg20
 z20 := Tryz.sizeOf20
 v20 := Tryz.zeroValue20
 t31 := Tryz.underlying22
 a31 := Tryz.isAgg22
 z31 := Tryz.sizeOf22
 v31 := Tryz.zeroValue22
 t37 := Tryz.underlying65
 a37 := Tryz.isAgg65
 z37 := Tryz.sizeOf65
 v37 := Tryz.zeroValue65
 t70 := Tryz.underlying64
 a70 := Tryz.isAgg64
 z70 := Tryz.sizeOf64
 v70 := Tryz.zeroValue64
 t72 := Tryz.underlying67
 a72 := Tryz.isAgg67
 z72 := Tryz.sizeOf67
 v72 := Tryz.zeroValue67
 t75 := Tryz.underlying71
 a75 := Tryz.isAgg71
 z75 := Tryz.sizeOf71
 v75 := Tryz.zeroValue71
 t76 := Tryz.underlying72
 a76 := Tryz.isAgg72
 z76 := Tryz.sizeOf72
 v76 := Tryz.zeroValue72
 t127 := Tryz.underlying108
 a127 := Tryz.isAgg108
 z127 := Tryz.sizeOf108
 v127 := Tryz.zeroValue108
 t164 := Tryz.underlying138
 a164 := Tryz.isAgg138
 z164 := Tryz.sizeOf138
 v164 := Tryz.zeroValue138 }
end Go.Proofs

set_option linter.unusedVariables false
set_option linter.unusedSimpArgs false
namespace Go.Proofs.YthaeomdpaadilaaGreatDoor
open Go.RowKit
open Go.Lib hiding intOf
attribute [local go_sem ↓] Go.wp_at_zero Go.wp_at_succ
theorem extraJ : Builder.Extra Tryz.prog Tryz.laysJoin_ren where
 sizeBuilder := by kernel_rfl
 liesBuilder := by kernel_rfl
 t5 := Tryz.underlying5
 a5 := Tryz.isAgg5
 z5 := Tryz.sizeOf5
 v5 := Tryz.zeroValue5
 infoByte := by kernel_rfl
 cellsByte := by kernel_rfl
 sizeByte := by kernel_rfl
 neB5 := by decide
def joinW (xs : List ByteArray) : List UInt8 := Lib.join (xs.map by_) [32]
theorem sjoin_any (A : Option Addr) (n c B : Nat) (xs : List ByteArray) (w : World) (hA : Row w B A (strs xs)) (hn : xs.length = n) (hc : n ≤ c) (hl : (joinW xs).length ≤ 140737488355328) (hN : n ≤ 140737488355328) :
  Calls Tryz.prog 88 #[.slice A n c, .string ⟨#[32]⟩] w fun e w' => e = .returned (.string ⟨(joinW xs).toArray⟩) ∧ Only [] w w' := by
 subst hn
 rcases hA with h | ⟨b, off, rfl, hb, hw, hcell⟩
 ·have : xs = [] := by simpa [strs] using h
  subst this
  have h : Calls Tryz.prog 88 #[.slice A 0 c, .string ⟨#[32]⟩] w _ := Any.strings_Join_none Tryz.laysJoin extraJ A c ⟨#[32]⟩ w
  exact h.mono fun e w' ⟨h1, h2⟩ => ⟨h1, h2 ▸ Only.refl _ _⟩
 ·have h : Calls Tryz.prog 88 #[.slice (some ⟨b, off, none⟩) xs.length c, .string ⟨#[32]⟩] w _ := Any.strings_Join Tryz.laysJoin extraJ b off c xs ⟨#[32]⟩ w (fun j x hx => hcell j _ (by rw [strs, List.getElem?_map, hx]; rfl)) (by omega) hN hc hl
  exact h.mono fun e w' ⟨h1, h2⟩ => ⟨h1, Only.of_below h2 []⟩
theorem join_any (A : Option Addr) (n c B : Nat) (xs : List ByteArray) (w : World) (hA : Row w B A (strs xs)) (hn : xs.length = n) (hc : n ≤ c) (hl : (joinW xs).length ≤ 140737488355328) (hN : n ≤ 140737488355328) :
  Calls Tryz.prog 62 #[.slice A n c] w fun e w' => e = .returned (.string ⟨(joinW xs).toArray⟩) ∧ Only [] w w' := by
 have HJ := Lib.hid (sjoin_any A n c B xs w hA hn hc hl hN)
 generalize (⟨(joinW xs).toArray⟩ : ByteArray) = r at *
 clear hA hn hc hl hN
 go_enter Tryz.func62, Tryz.ntmps62
 go_wp2_with fail
 refine (HJ.out).mono ?_
 rintro e w1 ⟨rfl, hO⟩
 have HO := Lib.hid hO
 clear hO
 go_wp2
 go_ret
 exact ⟨rfl, HO.out⟩
end Go.Proofs.YthaeomdpaadilaaGreatDoor

set_option linter.unusedVariables false
set_option linter.unusedSimpArgs false
namespace Go.Proofs.YthaeomdpaadilaaGreatDoor
open Go.Lib hiding intOf
/-- What words joined are read from. -/
def flatW (ws : List (List UInt8)) : List UInt8 := (ws.map (· ++ [32])).flatten
theorem flat_cons (w : List UInt8) (ws : List (List UInt8)) : flatW (w :: ws) = w ++ 32 :: flatW ws := by simp [flatW]
theorem join_flat : ∀ (ws : List (List UInt8)), ws ≠ [] → Lib.join ws [32] ++ [32] = flatW ws
 | [w], _ => by
  rw [Lib.join_one, flat_cons]
  rfl
 | w :: v :: ws, _ => by
  have ih := join_flat (v :: ws) (by simp)
  rw [flat_cons, ← ih, join_cons]
  have h2 := join_cons v ws [32]
  rw [h2]
  simp [joinTail, List.append_assoc]
/-- The words' texts. -/
def textsOf (s : ByteArray) : List ByteArray := (wordsOf (by_ s)).map fun p => s.extract p.1 p.2
theorem joinW_sum : ∀ (ws : List ByteArray), (joinW ws).length ≤ (ws.map fun w => w.size + 1).sum
 | [] => Nat.zero_le _
 | w :: ws => by
  have h := join_flat ((w :: ws).map by_) (by simp)
  have h2 := congrArg List.length h
  rw [List.length_append] at h2
  have h3 : ∀ l : List ByteArray, (flatW (l.map by_)).length = (l.map fun w => w.size + 1).sum := by
   intro l
   induction l with
   | nil => rfl
   | cons y l ih =>
    rw [List.map_cons, flat_cons, List.length_append, List.length_cons, ih, List.map_cons, List.sum_cons, by_length]
    omega
  rw [h3] at h2
  unfold joinW
  simp only [List.length_singleton] at h2
  omega
end Go.Proofs.YthaeomdpaadilaaGreatDoor

set_option linter.unusedVariables false
set_option linter.unusedSimpArgs false
namespace Go.Proofs.YthaeomdpaadilaaGreatDoor
open Go.RowKit
open Go.Lib hiding intOf
attribute [local go_sem ↓] Go.wp_at_zero Go.wp_at_succ
/-- An event's line. -/
def evWords (k : Int) (s y : ByteArray) (vk vn : Int) : List ByteArray := if kO k = true then [kW k, s, y, ⟨(vText vk vn).toArray⟩] else [kW k, s]
def evText (k : Int) (s y : ByteArray) (vk vn : Int) : ByteArray := if evOk k s y vk vn = true then ⟨(joinW (evWords k s y vk vn)).toArray⟩ else ⟨#[]⟩
def evErr (k : Int) (s y : ByteArray) (vk vn : Int) : Int := if evOk k s y vk vn = true then 0 else 4
theorem kW_size (k : Int) : (kW k).size ≤ 5 := by
 unfold kW
 repeat' split
 all_goals decide
theorem vText_len (k n : Int) (h1 : -9223372036854775808 ≤ n) (h2 : n ≤ 9223372036854775807) : (vText k n).length ≤ 21 := by
 have := Lib.itoa_length_le n h1 h2
 unfold vText
 repeat' split
 all_goals first | omega | simp
theorem evWords_len (k : Int) (s y : ByteArray) (vk vn : Int) (h1 : -9223372036854775808 ≤ vn) (h2 : vn ≤ 9223372036854775807) (hs : s.size ≤ 2000) (hy : y.size ≤ 2000) : (joinW (evWords k s y vk vn)).length ≤ 5000 := by
 refine Nat.le_trans (joinW_sum _) ?_
 have a := kW_size k
 have b := vText_len vk vn h1 h2
 have c : (ByteArray.mk (vText vk vn).toArray).size = (vText vk vn).length := by simp [ByteArray.size]
 unfold evWords
 split
 ·simp only [List.map_cons, List.map_nil, List.sum_cons, List.sum_nil, c]; omega
 ·simp only [List.map_cons, List.map_nil, List.sum_cons, List.sum_nil]; omega
set_option maxRecDepth 10000 in
set_option maxHeartbeats 4000000 in
theorem evprint_any (k : Int) (s y : ByteArray) (vk vn ln : Int) (w : World) (hs : s.size ≤ 2000) (hy : y.size ≤ 2000) (h1 : -9223372036854775808 ≤ vn) (h2 : vn ≤ 9223372036854775807) (hT : UTabs w) (hV : Verbs w) :
  Calls Tryz.prog 35 #[.agg #[.int .i64 k, .string s, .string y, .int .i64 vk, .int .i64 vn, .int .i64 ln]] w fun e w' => e = .returned (.tuple #[.string (evText k s y vk vn), .int .i64 (evErr k s y vk vn)]) ∧ Only [] w w' := by
 have HMY := Lib.hid (fun w' (hO : Only [] w w') => evmay_any k s y vk vn ln w' (by omega) (by omega) (hT.only hO) (hV.only hO))
 have HK := Lib.hid (fun w' (hO : Only [] w w') => ofKind_any k w' (hV.only hO))
 have HVP := Lib.hid (fun w' => vprint_any vk vn w' h1 h2)
 have HL := evWords_len k s y vk vn h1 h2 hs hy
 have HJ := Lib.hid (fun A c B xs w' (hxs : xs = evWords k s y vk vn) (hA : Row w' B A (strs xs)) (hc : xs.length ≤ c) (h4 : xs.length ≤ 4) => join_any A xs.length c B xs w' hA rfl hc (by rw [hxs]; omega) (by omega))
 unfold evText evErr
 obtain ⟨ok, hok⟩ : ∃ x, x = evOk k s y vk vn := ⟨_, rfl⟩
 obtain ⟨T, hTT⟩ : ∃ x, x = joinW (evWords k s y vk vn) := ⟨_, rfl⟩
 rw [← hok, ← hTT]
 rw [← hok] at HMY
 have HTX : Hid (∀ xs, xs = evWords k s y vk vn → joinW xs = T) := Lib.hid (fun xs h => by rw [h, hTT])
 unfold evWords at HJ HTX
 obtain ⟨kk, hkk⟩ : ∃ x, x = kN k := ⟨_, rfl⟩
 obtain ⟨kw, hkw⟩ : ∃ x, x = kW k := ⟨_, rfl⟩
 obtain ⟨ko, hko⟩ : ∃ x, x = kO k := ⟨_, rfl⟩
 obtain ⟨is, his⟩ : ∃ x, x = kOk k := ⟨_, rfl⟩
 rw [← hkk, ← hkw, ← hko, ← his] at HK
 rw [← hkw, ← hko] at HJ HTX
 generalize (⟨(vText vk vn).toArray⟩ : ByteArray) = vt at *
 generalize vErr vk vn = ve at *
 have HO := Lib.hid ((Only.refl [] w).alloc (.cells #[.int .i64 k, .string s, .string y, .int .i64 vk, .int .i64 vn, .int .i64 ln] 47))
 have HE := Lib.hid (Blk.made w 47 #[.int .i64 k, .string s, .string y, .int .i64 vk, .int .i64 vn, .int .i64 ln])
 clear hok hTT hkk hkw hko his hs hy h1 h2 hT hV HL
 go_enter Tryz.func35, Tryz.ntmps35
 go_wp2_with fail
 refine (HMY.out _ HO.out).mono ?_
 rintro e w1 ⟨rfl, O1⟩
 have HO1 := Lib.hid (HO.out.trans O1)
 have bE1 := O1.blk HE.out (by simp)
 have lE := bE1.lt
 have f0 := bE1.at_ 0
 simp at f0
 clear O1
 cases ok with
 | false =>
  go_wp2
  go_ret2
  exact ⟨rfl, HO1.out⟩
 | true =>
  go_wp2_with fail
  refine (HK.out _ HO1.out).mono ?_
  rintro e w2 ⟨rfl, O2⟩
  have HO2 := Lib.hid ((HO1.out.trans O2).alloc (.cells #[.int .i64 kk, .string kw, .bool ko] 103))
  have HE2 := Lib.hid ((O2.blk bE1 (by simp)).alloc (.cells #[.int .i64 kk, .string kw, .bool ko] 103))
  have HV2 := Lib.hid (Blk.made w2 103 #[.int .i64 kk, .string kw, .bool ko])
  have bE2 := O2.blk bE1 (by simp)
  clear lE f0 bE1 O2
  have lE := bE2.lt
  have f1 := bE2.at_ 1
  have f3 := bE2.at_ 3
  have f4 := bE2.at_ 4
  simp at f1 f3 f4
  cases ko with
  | false =>
   go_wp2_with fail
   have hr := row_lit (w2.alloc (.cells #[.int .i64 kk, .string kw, .bool false] 103)) 9 #[.string kw, .string s]
   simp only [World.size_alloc] at hr
   have hj := HJ.out _ 2 _ [kw, s] _ (by simp) hr (by simp) (by simp)
   rw [HTX.out [kw, s] (by simp)] at hj
   refine hj.mono ?_
   clear hr hj
   rintro e w3 ⟨rfl, O3⟩
   have HO3 := Lib.hid ((HO2.out.alloc (.cells #[.string kw, .string s] 9)).trans O3)
   clear O3
   go_wp2
   go_ret2
   exact ⟨rfl, HO3.out⟩
  | true =>
   go_wp2_with fail
   refine (HVP.out _).mono ?_
   rintro e w3 ⟨rfl, O3⟩
   have HO3 := Lib.hid (HO2.out.trans O3)
   have bE3 := O3.blk HE2.out (by simp)
   have bV3 := O3.blk HV2.out (by simp)
   clear lE f1 f3 f4 bE2 O3
   have lE := bE3.lt
   have lV := bV3.lt
   have f1 := bE3.at_ 1
   have f2 := bE3.at_ 2
   have v1 := bV3.at_ 1
   simp at f1 f2 v1
   go_wp2_with fail
   have hr := row_lit w3 9 #[.string kw, .string s, .string y, .string vt]
   have hj := HJ.out _ 4 _ [kw, s, y, vt] _ (by simp) hr (by simp) (by simp)
   rw [HTX.out [kw, s, y, vt] (by simp)] at hj
   refine hj.mono ?_
   clear hr hj
   rintro e w4 ⟨rfl, O4⟩
   have HO4 := Lib.hid ((HO3.out.alloc (.cells #[.string kw, .string s, .string y, .string vt] 9)).trans O4)
   clear O4
   go_wp2
   go_ret2
   exact ⟨rfl, HO4.out⟩
end Go.Proofs.YthaeomdpaadilaaGreatDoor
