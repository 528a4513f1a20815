/- Contracts of the document's lines: Runes, Of; SameTexts of the same texts. The document's log.Parse. What is read of a log, and of its history: how much there may be. Mathematics. The package show: the closure that adds an event. -/
import Derived.Test.YthaeomdpaadilaaGreatDoorShowParsesCardK38
import Derived.Deep.QuietTactic
import Derived.Test.YthaeomdpaadilaaGreatDoorShowParsesCardK36
import Derived.Test.YthaeomdpaadilaaGreatDoorShowParsesCardK41
import Derived.Test.YthaeomdpaadilaaGreatDoorShowParsesCardK32
import Derived.Test.YthaeomdpaadilaaGreatDoorShowParsesCardK2
import Derived.Test.YthaeomdpaadilaaGreatDoorShowParsesCardK5
set_option linter.unusedVariables false
set_option linter.unusedSimpArgs false
namespace Go.Proofs.YthaeomdpaadilaaGreatDoor
open Go.RowKit
open Go.Lib hiding intOf
attribute [local go_sem ↓] Go.wp_at_zero Go.wp_at_succ
theorem cutL_one (b : UInt8) (cur t : List UInt8) (h : b ≠ 10) : cutL cur (b :: t) = cutL (cur ++ [b]) t := by
 rw [cutL, if_neg h]
/-- How the lines stand at place i, the next one beginning at f. -/
def NextOk (LS : List (List UInt8)) (s : ByteArray) (i f : Nat) (ys : List (List UInt8)) : Prop :=
 (i ≤ s.size ∧ f ≤ i ∧ LS = ys ++ cutL (((by_ s).take i).drop f) ((by_ s).drop i)) ∨ (i = s.size + 1 ∧ LS = ys)
set_option maxHeartbeats 8000000 in
set_option maxRecDepth 10000 in
theorem rof_any (s : ByteArray) (w : World) (hs : s.size ≤ 65536) :
    Calls Tryz.prog 47 #[.string s] w fun e w' => Only [] w w' ∧
      (((∀ x ∈ linesOf (by_ s), validD x = true) ∧ ∃ V xs, e = .returned (.tuple #[V, .int .i64 0, .int .i64 0]) ∧ w'.ownsRow w.heap.size 9 1 V xs.length (strs xs) ∧ xs.map by_ = linesOf (by_ s)) ∨
       (∃ (i : Nat) (x : List UInt8), (linesOf (by_ s))[i]? = some x ∧ validD x = false ∧ (∀ j y, j < i → (linesOf (by_ s))[j]? = some y → validD y = true) ∧ e = .returned (.tuple #[.slice none 0 0, .int .i64 ((i : Int) + 1), .int .i64 5]))) := by
  obtain ⟨i0, hi, hz0, hz1, hz2⟩ := info_parts tinfo_string
  have hs1 : decide ((65536 : Int) < (s.size : Int)) = false := by simp; omega
  obtain ⟨LS, hLS⟩ : ∃ LS, LS = linesOf (by_ s) := ⟨_, rfl⟩
  rw [← hLS]
  have HLS := Lib.hid hLS
  clear hLS
  go_enter Tryz.func47, Tryz.ntmps47
  go_wp2
  go_loopw [5, 6, 7] (fun V fr ii wr => ∃ (i f : Nat) (xs : List ByteArray), fr = .int .i64 f ∧ ii = .int .i64 i ∧ i ≤ s.size + 1 ∧ f ≤ s.size + 1 ∧ xs.length ≤ i ∧ Hid (wr.ownsRow w.heap.size 9 1 V xs.length (strs xs)) ∧
    Hid (∀ x ∈ xs.map by_, validD x = true) ∧ Hid (NextOk LS s i f (xs.map by_)) ∧ Hid (Only [] w wr)) (fun _ _ ii _ => s.size + 1 - (intOf ii).toNat)
  case atStart => exact ⟨0, 0, [], rfl, rfl, by omega, by omega, by simp, Lib.hid (World.ownsRow_lit w #[] 0 (Nat.le_refl _) (by unfold maxLen; omega) rfl), Lib.hid (by simp), Lib.hid (Or.inl ⟨by omega, by omega, by rw [HLS.out]; simp [linesOf]⟩), Lib.hid ((Only.refl [] w).alloc _)⟩
  case round =>
    obtain ⟨i, f, xs, rfl, rfl, hi1, hf1, hxl, HOWN, HVAL, HST, HO⟩ := hrel
    have hi0' : (0 : Int) ≤ (i : Int) := Int.natCast_nonneg _
    have hf0 : (0 : Int) ≤ (f : Int) := Int.natCast_nonneg _
    have hsz2 := HO.out.size
    by_cases hle : i ≤ s.size
    · have hle1 : (i : Int) ≤ (s.size : Int) := by omega
      have hst : f ≤ i ∧ LS = xs.map by_ ++ cutL (((by_ s).take i).drop f) ((by_ s).drop i) := by
        rcases HST.out with ⟨-, h1, h2⟩ | ⟨h1, -⟩
        · exact ⟨h1, h2⟩
        · omega
      obtain ⟨hfi, hL⟩ := hst
      have HL := Lib.hid hL
      have hfi1 : (f : Int) ≤ (i : Int) := by omega
      clear hL HST
      by_cases hlt : i < s.size
      · have hlt1 : (i : Int) < (s.size : Int) := by omega
        have hne : ((i : Int) == (s.size : Int)) = false := by simp; omega
        have hdr : (by_ s).drop i = (by_ s)[i]'(by rw [by_length]; exact hlt) :: (by_ s).drop (i + 1) := List.drop_eq_getElem_cons (by rw [by_length]; exact hlt)
        have hbe : (by_ s)[i]'(by rw [by_length]; exact hlt) = s[i] := rfl
        rw [hbe] at hdr
        by_cases hb : s[i] = 10
        · have hbb : ((s[i].toNat : Int) != 10) = false := by rw [hb]; rfl
          rw [hb] at hdr
          have HCUT : Hid (cutL (((by_ s).take i).drop f) ((by_ s).drop i) = ((by_ s).take i).drop f :: cutL [] ((by_ s).drop (i + 1))) := Lib.hid (by rw [hdr, cutL_nl])
          have HNX : Hid (∀ ys : List (List UInt8), LS = ys ++ cutL [] ((by_ s).drop (i + 1)) → NextOk LS s (i + 1) (i + 1) ys) := Lib.hid (fun ys h => Or.inl ⟨by omega, by omega, by
            rw [h]
            congr 2
            rw [List.drop_of_length_le (by rw [List.length_take]; omega)]⟩)
          clear hdr hbe hb
          have hxs : (s.extract f i).size ≤ 65537 := by rw [ByteArray.size_extract]; omega
          have HRN := Lib.hid (fun W => rrunes_any (s.extract f i) W hxs)
          have HBX : Hid (by_ (s.extract f i) = ((by_ s).take i).drop f) := Lib.hid (by_extract s f i)
          obtain ⟨x, hx⟩ : ∃ x, x = s.extract f i := ⟨_, rfl⟩
          obtain ⟨vb, hvb⟩ : ∃ vb, vb = validD (by_ (s.extract f i)) := ⟨_, rfl⟩
          simp only [← hvb] at HRN
          have HVB := Lib.hid hvb
          clear hvb hxs hx x
          obtain ⟨rn, hrn⟩ : ∃ rn : Int, rn = (if vb = true then (runeCount (s.extract f i) : Int) else 0) := ⟨_, rfl⟩
          simp only [← hrn] at HRN
          clear hrn
          cases vb with
          | false =>
            have hwk : IntKind.i64.wrap ((xs.length : Int) + 1) = (xs.length : Int) + 1 := IntWalk.i64_in _ (by omega)
            have hV := HOWN.out
            obtain ⟨AV, cV, rfl, -, -, -, -⟩ := own_row hV
            clear hV
            go_wp2_with fail
            refine (HRN.out _).mono ?_
            rintro e w' ⟨rfl, rfl⟩
            go_wp2
            go_ret3
            refine ⟨HO.out, .inr ⟨xs.length, by_ (s.extract f i), ?_, HVB.out.symm, fun j y hj hy => ?_, rfl⟩⟩
            · rw [HL.out, HCUT.out, HBX.out, List.getElem?_append_right (by simp)]
              simp
            · rw [HL.out, List.getElem?_append_left (by simpa using hj)] at hy
              exact HVAL.out y (List.mem_of_getElem? hy)
          | true =>
            go_wp2_with fail
            refine (HRN.out _).mono ?_
            rintro e w' ⟨rfl, rfl⟩
            go_wp2_with (at_builtin; refine wpList_append_row _ rfl (.tmp 56) (.tmp 58) _ rfl w.heap.size 9 i0 _ 1 16 Tryz.underlying22 hi hz0 hz1 hz2 rfl (by omega) _ _ _ rfl (own_only HOWN.out ((Only.refl [] _).alloc _) (by simp)) (wr.heap.size + 1) (some ⟨wr.heap.size, 0, none⟩) 1 1 [.string (s.extract f i)] rfl rfl (row_lit wr 9 #[.string (s.extract f i)]) (by simp [Value.oneCell']) (by unfold maxLen; omega) (by omega) (by simp; omega) ?_; intro v3 w3 hown3 hgrow hat)
            have REL : w3.ownsRow w.heap.size 9 1 v3 (xs ++ [s.extract f i]).length (strs (xs ++ [s.extract f i])) ∧ (∀ y ∈ (xs ++ [s.extract f i]).map by_, validD y = true) ∧
                NextOk LS s (i + 1) (i + 1) ((xs ++ [s.extract f i]).map by_) ∧ Only [] w w3 := by
              refine ⟨by simpa [strs] using hown3, fun y hy => ?_, HNX.out _ ?_, (HO.out.alloc _).step (only_grown hgrow) (own_new HOWN.out)⟩
              · rw [List.map_append] at hy
                rcases List.mem_append.1 hy with h | h
                · exact HVAL.out y h
                · simp at h
                  rw [h]
                  exact HVB.out.symm
              · rw [HL.out, HCUT.out, List.map_append, List.append_assoc]
                congr 1
                simp [HBX.out]
            have HREL := Lib.hid REL
            clear REL hown3 hgrow hat
            go_wp2
            go_roundw
            case rel =>
              first
              | exact ⟨i + 1, i + 1, _, by go_num, by go_num, by omega, by omega, by simp; omega, Lib.hid HREL.out.1, Lib.hid HREL.out.2.1, Lib.hid HREL.out.2.2.1, Lib.hid HREL.out.2.2.2⟩
              | exact ⟨_, ⟨i + 1, i + 1, _, by go_num, by go_num, by omega, by omega, by simp; omega, Lib.hid HREL.out.1, Lib.hid HREL.out.2.1, Lib.hid HREL.out.2.2.1, Lib.hid HREL.out.2.2.2⟩, rfl⟩
            case measure => first | (simp [intOf]; done) | (simp [intOf]; omega)
        · have hbb : ((s[i].toNat : Int) != 10) = true := by
            simp
            intro e
            exact hb ((byte_eq _).1 (by omega))
          have HL2 : Hid (LS = xs.map by_ ++ cutL (((by_ s).take (i + 1)).drop f) ((by_ s).drop (i + 1))) := Lib.hid (by
            rw [HL.out, hdr, cutL_one _ _ _ hb]
            congr 2
            rw [List.take_add_one, List.getElem?_eq_getElem (by rw [by_length]; exact hlt), List.drop_append_of_le_length (by rw [List.length_take, by_length]; omega)]
            rfl)
          clear hdr hbe hb
          go_wp2
          go_roundw
          case rel => exact ⟨i + 1, f, xs, rfl, by go_num, by omega, by omega, by omega, HOWN, HVAL, Lib.hid (Or.inl ⟨by omega, by omega, HL2.out⟩), HO⟩
          case measure => first | (simp [intOf]; done) | (simp [intOf]; omega)
      · have hie : i = s.size := by omega
        subst hie
        have hlt1 : decide ((s.size : Int) < (s.size : Int)) = false := by simp
        have hdr : (by_ s).drop s.size = [] := List.drop_of_length_le (by rw [by_length]; omega)
        by_cases hfe : f = s.size
        · have hff : ((f : Int) == (s.size : Int)) = true := by simp; omega
          have HL2 : Hid (LS = xs.map by_) := Lib.hid (by
            rw [HL.out, hdr, List.drop_of_length_le (by rw [List.length_take]; omega)]
            simp [cutL])
          clear hdr hle1
          go_wp2
          go_roundw
          case rel => exact ⟨s.size + 1, f, xs, rfl, by go_num, by omega, by omega, by omega, HOWN, HVAL, Lib.hid (Or.inr ⟨by omega, HL2.out⟩), HO⟩
          case measure => first | (simp [intOf]; done) | (simp [intOf]; omega)
        · have hff : ((f : Int) == (s.size : Int)) = false := by simp; omega
          have HCUT : Hid (cutL (((by_ s).take s.size).drop f) ((by_ s).drop s.size) = ((by_ s).take s.size).drop f :: []) := Lib.hid (by
            rw [hdr]
            unfold cutL
            rw [if_neg]
            intro e
            have := congrArg List.length e
            rw [List.length_drop, List.length_take, by_length] at this
            simp at this
            omega)
          have HNX : Hid (∀ ys : List (List UInt8), LS = ys ++ [] → NextOk LS s (s.size + 1) (s.size + 1) ys) := Lib.hid (fun ys h => Or.inr ⟨by omega, by rw [h, List.append_nil]⟩)
          clear hdr
          have hxs : (s.extract f s.size).size ≤ 65537 := by rw [ByteArray.size_extract]; omega
          have HRN := Lib.hid (fun W => rrunes_any (s.extract f s.size) W hxs)
          have HBX : Hid (by_ (s.extract f s.size) = ((by_ s).take s.size).drop f) := Lib.hid (by_extract s f s.size)
          obtain ⟨x, hx⟩ : ∃ x, x = s.extract f s.size := ⟨_, rfl⟩
          obtain ⟨vb, hvb⟩ : ∃ vb, vb = validD (by_ (s.extract f s.size)) := ⟨_, rfl⟩
          simp only [← hvb] at HRN
          have HVB := Lib.hid hvb
          clear hvb hxs hx x
          obtain ⟨rn, hrn⟩ : ∃ rn : Int, rn = (if vb = true then (runeCount (s.extract f s.size) : Int) else 0) := ⟨_, rfl⟩
          simp only [← hrn] at HRN
          clear hrn
          cases vb with
          | false =>
            have hwk : IntKind.i64.wrap ((xs.length : Int) + 1) = (xs.length : Int) + 1 := IntWalk.i64_in _ (by omega)
            have hV := HOWN.out
            obtain ⟨AV, cV, rfl, -, -, -, -⟩ := own_row hV
            clear hV
            go_wp2_with fail
            refine (HRN.out _).mono ?_
            rintro e w' ⟨rfl, rfl⟩
            go_wp2
            go_ret3
            refine ⟨HO.out, .inr ⟨xs.length, by_ (s.extract f s.size), ?_, HVB.out.symm, fun j y hj hy => ?_, rfl⟩⟩
            · rw [HL.out, HCUT.out, HBX.out, List.getElem?_append_right (by simp)]
              simp
            · rw [HL.out, List.getElem?_append_left (by simpa using hj)] at hy
              exact HVAL.out y (List.mem_of_getElem? hy)
          | true =>
            go_wp2_with fail
            refine (HRN.out _).mono ?_
            rintro e w' ⟨rfl, rfl⟩
            go_wp2_with (at_builtin; refine wpList_append_row _ rfl (.tmp 56) (.tmp 58) _ rfl w.heap.size 9 i0 _ 1 16 Tryz.underlying22 hi hz0 hz1 hz2 rfl (by omega) _ _ _ rfl (own_only HOWN.out ((Only.refl [] _).alloc _) (by simp)) (wr.heap.size + 1) (some ⟨wr.heap.size, 0, none⟩) 1 1 [.string (s.extract f s.size)] rfl rfl (row_lit wr 9 #[.string (s.extract f s.size)]) (by simp [Value.oneCell']) (by unfold maxLen; omega) (by omega) (by simp; omega) ?_; intro v3 w3 hown3 hgrow hat)
            have REL : w3.ownsRow w.heap.size 9 1 v3 (xs ++ [s.extract f s.size]).length (strs (xs ++ [s.extract f s.size])) ∧ (∀ y ∈ (xs ++ [s.extract f s.size]).map by_, validD y = true) ∧
                NextOk LS s (s.size + 1) (s.size + 1) ((xs ++ [s.extract f s.size]).map by_) ∧ Only [] w w3 := by
              refine ⟨by simpa [strs] using hown3, fun y hy => ?_, HNX.out _ ?_, (HO.out.alloc _).step (only_grown hgrow) (own_new HOWN.out)⟩
              · rw [List.map_append] at hy
                rcases List.mem_append.1 hy with h | h
                · exact HVAL.out y h
                · simp at h
                  rw [h]
                  exact HVB.out.symm
              · rw [HL.out, HCUT.out, List.map_append, List.append_assoc]
                congr 1
                simp [HBX.out]
            have HREL := Lib.hid REL
            clear REL hown3 hgrow hat
            go_wp2
            go_roundw
            case rel =>
              first
              | exact ⟨s.size + 1, s.size + 1, _, by go_num, by go_num, by omega, by omega, by simp; omega, Lib.hid HREL.out.1, Lib.hid HREL.out.2.1, Lib.hid HREL.out.2.2.1, Lib.hid HREL.out.2.2.2⟩
              | exact ⟨_, ⟨s.size + 1, s.size + 1, _, by go_num, by go_num, by omega, by omega, by simp; omega, Lib.hid HREL.out.1, Lib.hid HREL.out.2.1, Lib.hid HREL.out.2.2.1, Lib.hid HREL.out.2.2.2⟩, rfl⟩
            case measure => first | (simp [intOf]; done) | (simp [intOf]; omega)
    · have hd : decide ((i : Int) ≤ (s.size : Int)) = false := by simp; omega
      have hL2 : LS = xs.map by_ := by
        rcases HST.out with ⟨h1, -⟩ | ⟨-, h2⟩
        · omega
        · exact h2
      have HL2 := Lib.hid hL2
      clear hL2
      go_wp2
      go_ret3
      exact ⟨HO.out, .inl ⟨fun x hx => HVAL.out x (by rw [← HL2.out]; exact hx), _, xs, rfl, HOWN.out, HL2.out.symm⟩⟩
end Go.Proofs.YthaeomdpaadilaaGreatDoor

set_option linter.unusedVariables false
set_option linter.unusedSimpArgs false
namespace Go.Proofs.YthaeomdpaadilaaGreatDoor
open Go.RowKit
open Go.Lib hiding intOf
attribute [local go_sem ↓] Go.wp_at_zero Go.wp_at_succ
set_option maxRecDepth 10000 in
set_option maxHeartbeats 4000000 in
theorem rlogparse_any (s : ByteArray) (w : World) (hs : s.size ≤ 65536) (hrow : ∀ x ∈ linesOf (by_ s), x.length ≤ 65535) :
  Calls Tryz.prog 25 #[.string s] w fun e w' => Only [] w w' ∧ ∃ A c, e = .returned (.tuple #[.slice A (logParse s).1.length c, .int .i64 (logParse s).2.1, .int .i64 (logParse s).2.2]) ∧ Row w' w'.heap.size A (logC (logParse s).1) := by
 obtain ⟨i0, hi, hz0, hz1, hz2⟩ := info_parts info_event
 have HOF := Lib.hid (rof_any s w hs)
 have HEP := Lib.hid (fun row w' (h : row.size ≤ 65535) => revparse_any row w' h)
 obtain ⟨r, hr⟩ : ∃ r, r = logParse s := ⟨_, rfl⟩
 rw [← hr]
 have HR := Lib.hid hr
 have HROWS := Lib.hid hrow
 have hln := cutL_len (by_ s) []
 rw [by_length] at hln
 clear hr hrow
 go_enter Tryz.func25, Tryz.ntmps25
 go_wp2_with fail
 refine (HOF.out).mono ?_
 rintro e w1 ⟨O1, ⟨hval, V0, xs, rfl, hown0, hxs⟩ | ⟨i, x, hx, hbad, hfirst, rfl⟩⟩
 ·have hidx : (linesOf (by_ s)).findIdx? (fun x => !validD x) = none := by
   rw [List.findIdx?_eq_none_iff]
   intro x hx
   rw [hval x hx]
   rfl
  have hr : r = logOf xs 1 [] := by
   rw [HR.out]
   unfold logParse
   rw [if_neg (by omega), hidx, rows_eq hxs]
  have HXS : Hid (∀ x ∈ xs, x.size ≤ 65535) := Lib.hid (fun x hx => by
   have := HROWS.out (by_ x) (by rw [← hxs]; exact List.mem_map_of_mem hx)
   rwa [by_length] at this)
  have hnl : xs.length ≤ 65537 := by
   have := congrArg List.length hxs
   rw [List.length_map] at this
   unfold linesOf at this
   omega
  obtain ⟨A0, c0, rfl, -, -, -, hrow0⟩ := own_row hown0
  generalize hn : xs.length = n at *
  have HN := Lib.hid hn
  have HRR := Lib.hid hr
  have HO1 := Lib.hid O1
  have HROW := Lib.hid hrow0
  clear hval hown0 hxs hidx HR HROWS hn hr O1 hrow0 hln
  go_wp2_with fail
  go_loopw [8, 9] (fun V iv wr => ∃ (k : Nat) (acc : List Ev6), iv = .int .i64 k ∧ k ≤ n ∧ acc.length ≤ 1000 ∧ Hid (r = logOf (xs.drop k) ((k : Int) + 1) acc) ∧ Hid (wr.ownsRow w1.heap.size 47 6 V acc.length (logC acc)) ∧ Hid (Only [] w1 wr)) (fun _ iv _ => n - (intOf iv).toNat)
  case atStart => exact ⟨0, [], rfl, by omega, by simp, HRR, Lib.hid (World.ownsRow_lit w1 #[] 0 (Nat.le_refl _) (by unfold maxLen; omega) rfl), Lib.hid ((Only.refl [] w1).alloc _)⟩
  case round =>
   obtain ⟨k, acc, rfl, hk, hacc, hR, HOWN, HO⟩ := hrel
   obtain ⟨A, c, rfl, -, -, -, -⟩ := own_row HOWN.out
   by_cases hlt : k < n
   ·have h01 : (k : Int) < (n : Int) := by omega
    have hk0 : (0 : Int) ≤ (k : Int) := Int.natCast_nonneg _
    have hwk : IntKind.i64.wrap ((k : Int) + 1) = (k : Int) + 1 := IntWalk.i64_in _ (by omega)
    obtain ⟨b, off, rfl, hbB, hbw, hcell⟩ := HROW.out.open_ (k := k) (by rw [strs, List.length_map, HN.out]; exact hlt)
    obtain ⟨x, hx⟩ : ∃ x, xs[k]? = some x := ⟨_, List.getElem?_eq_getElem (by rw [HN.out]; exact hlt)⟩
    have hck : wr.cell? ⟨b, off + k, none⟩ = some (.string x) := (HO.out.cell (p := ⟨b, off + k, none⟩) hbw (by simp)).trans (hcell k _ (by rw [strs, List.getElem?_map, hx]; rfl))
    have HW := Lib.hid (HEP.out x wr (HXS.out x (List.mem_of_getElem? hx)))
    have hstep : logOf (xs.drop k) ((k : Int) + 1) acc = if stepE acc x = 0 then logOf (xs.drop (k + 1)) (((k + 1 : Nat) : Int) + 1) (stepL acc ((k : Int) + 1) x) else ([], (k : Int) + 1, stepE acc x) := by
     obtain ⟨h1, h2⟩ := List.getElem?_eq_some_iff.1 hx
     rw [List.drop_eq_getElem_cons h1, h2]
     rfl
    have HST := Lib.hid (hR.out.trans hstep)
    have HM := Lib.hid (ev_may x)
    unfold stepE stepL at HST
    unfold evRV at HW
    generalize evParse x = ev at *
    obtain ⟨ek, es, ey, evk, evn, is, er⟩ := ev
    dsimp only at HW HM HST
    clear hcell hx hstep
    go_wp2_with fail
    refine (HW.out).mono ?_
    rintro e w2 ⟨rfl, O2⟩
    have HO2 := Lib.hid (HO.out.trans O2)
    have HOWN2 := Lib.hid (own_only HOWN.out O2 (by simp))
    clear O2 HW hck
    cases is with
    | false =>
     by_cases hE : er = 0
     ·subst hE
      have HR2 : Hid (r = logOf (xs.drop (k + 1)) (((k + 1 : Nat) : Int) + 1) acc) := Lib.hid (by rw [HST.out]; simp)
      have HO3 := Lib.hid (HO2.out.alloc (.cells #[.int .i64 ek, .string es, .string ey, .int .i64 evk, .int .i64 evn, .int .i64 0] 47))
      have HOWN3 := Lib.hid (own_only HOWN2.out ((Only.refl [] w2).alloc (.cells #[.int .i64 ek, .string es, .string ey, .int .i64 evk, .int .i64 evn, .int .i64 0] 47)) (by simp))
      clear HST
      go_wp2
      go_roundw
      case rel => exact ⟨k + 1, acc, by go_num, by omega, hacc, HR2, HOWN3, HO3⟩
      case measure => simp [intOf]; omega
     ·have hE' : (er != 0) = true := by simpa using hE
      obtain rfl : r = ([], (k : Int) + 1, er) := by rw [HST.out]; simp [hE]
      clear HST hE
      go_wp2
      go_ret3
      exact ⟨(HO1.out.trans HO2.out).alloc _, none, ⟨0, rfl⟩, .inl rfl⟩
    | true =>
     obtain ⟨rfl, -⟩ := HM.out rfl
     generalize hm : acc.length = m at *
     by_cases h1000 : m = 1000
     ·subst h1000
      obtain rfl : r = ([], (k : Int) + 1, 7) := by rw [HST.out]; simp
      clear HST
      go_wp2
      go_ret3
      exact ⟨(HO1.out.trans HO2.out).alloc _, none, ⟨0, rfl⟩, .inl rfl⟩
     ·have hne : ((m : Int) == 1000) = false := by simp; omega
      have HR2 : Hid (r = logOf (xs.drop (k + 1)) (((k + 1 : Nat) : Int) + 1) (acc ++ [⟨ek, es, ey, evk, evn, (k : Int) + 1⟩])) := Lib.hid (by rw [HST.out]; simp [h1000])
      have hlen : (acc ++ [⟨ek, es, ey, evk, evn, (k : Int) + 1⟩] : List Ev6).length = m + 1 := by rw [List.length_append, hm]; rfl
      clear HST
      go_upto_region 15 with (fail)
      have O3 : Only [] w2 (w2.alloc (.cells #[.int .i64 ek, .string es, .string ey, .int .i64 evk, .int .i64 evn, .int .i64 ((k : Int) + 1)] 47)) := (Only.refl [] w2).alloc _
      have bE3 := Blk.made w2 47 #[.int .i64 ek, .string es, .string ey, .int .i64 evk, .int .i64 evn, .int .i64 ((k : Int) + 1)]
      have HOWN3 := Lib.hid (own_only HOWN2.out O3 (by simp))
      have HO3 := Lib.hid (HO2.out.trans O3)
      clear O3 HO2 HOWN2
      generalize (w2.alloc (.cells #[.int .i64 ek, .string es, .string ey, .int .i64 evk, .int .i64 evn, .int .i64 ((k : Int) + 1)] 47)) = w3 at *
      generalize w2.heap.size = ge at *
      have lE := bE3.lt
      have e0 := bE3.at_ 0
      have e1 := bE3.at_ 1
      have e2 := bE3.at_ 2
      have e3 := bE3.at_ 3
      have e4 := bE3.at_ 4
      have e5 := bE3.at_ 5
      simp at e0 e1 e2 e3 e4 e5
      have hsz3 := HO3.out.size
      clear bE3
      go_wp2_with (
       at_builtin
       refine wpList_append_row _ rfl (.tmp 54) (.tmp 56) _ rfl w1.heap.size 47 i0 _ 6 64 Tryz.underlying27 hi hz0 hz1 hz2 rfl (by omega) _ m (logC acc) rfl (own_only HOWN3.out ((Only.refl [] w3).alloc _) (by simp)) (w3.heap.size + 1) (some ⟨w3.heap.size, 0, none⟩) 1 1 [.int .i64 ek, .string es, .string ey, .int .i64 evk, .int .i64 evn, .int .i64 ((k : Int) + 1)] (by rfl) (by rfl) (row_lit w3 47 #[.int .i64 ek, .string es, .string ey, .int .i64 evk, .int .i64 evn, .int .i64 ((k : Int) + 1)]) (by intro u hu; simp at hu; rcases hu with rfl | rfl | rfl | rfl | rfl | rfl <;> rfl) (by unfold maxLen; omega) (by omega) (by simp; omega) ?_
       intro v4 w4 hown4 hgrow hat
       have O4 := (HO3.out.alloc (.cells #[.int .i64 ek, .string es, .string ey, .int .i64 evk, .int .i64 evn, .int .i64 ((k : Int) + 1)] 47)).step (only_grown hgrow) (own_new HOWN3.out)
       have HO4 := Lib.hid O4
       have HOWN4 := Lib.hid hown4
       clear O4 hown4 hat hgrow)
      go_roundw
      case rel => exact ⟨k + 1, acc ++ [⟨ek, es, ey, evk, evn, (k : Int) + 1⟩], by go_num, by omega, by rw [hlen]; omega, HR2, Lib.hid (by rw [hlen, logC_snoc]; exact HOWN4.out), HO4⟩
      case measure => simp [intOf]; omega
   ·have hkn : k = n := by omega
    subst hkn
    have hd : decide ((k : Int) < (k : Int)) = false := by simp
    obtain rfl : r = (acc, 0, 0) := by rw [hR.out, List.drop_of_length_le (by rw [HN.out]; exact Nat.le_refl _)]; rfl
    obtain ⟨A', c', hV, -, -, -, hrw⟩ := own_row HOWN.out
    injection hV with hA1 hA2 hA3
    subst hA1 hA3
    have HRW := Lib.hid hrw
    clear hrw hA2
    go_wp2
    go_ret3
    exact ⟨HO1.out.trans HO.out, _, ⟨_, rfl⟩, HRW.out⟩
 ·have hidx : (linesOf (by_ s)).findIdx? (fun x => !validD x) = some i := by
   rw [List.findIdx?_eq_some_iff_getElem]
   obtain ⟨h1, h2⟩ := List.getElem?_eq_some_iff.1 hx
   refine ⟨h1, by rw [h2, hbad]; rfl, fun j hj => ?_⟩
   have := hfirst j _ hj (List.getElem?_eq_getElem (by omega))
   rw [this]
   simp
  obtain rfl : r = ([], (i : Int) + 1, 5) := by
   rw [HR.out]
   unfold logParse
   rw [if_neg (by omega), hidx]
  have HO1 := Lib.hid O1
  clear hx hbad hfirst hidx HR O1 HROWS
  go_wp2
  go_ret3
  exact ⟨HO1.out, none, ⟨0, rfl⟩, .inl rfl⟩
end Go.Proofs.YthaeomdpaadilaaGreatDoor

set_option linter.unusedVariables false
set_option linter.unusedSimpArgs false
namespace Go.Proofs.YthaeomdpaadilaaGreatDoor
theorem step_in {l : List Ev6} {num : Int} {row : ByteArray} {x : Ev6} (h : x ∈ stepL l num row) : x ∈ l ∨ evOk x.k x.s x.y x.vk x.vn = true := by
 unfold stepL at h
 split at h
 ·rename_i hc
  rcases List.mem_append.1 h with h | h
  ·exact .inl h
  ·simp at h
   subst h
   exact .inr (ev_may row hc.1).2
 ·exact .inl h
theorem of_in : ∀ (rs : List ByteArray) (i : Int) (acc : List Ev6), (∀ x ∈ acc, evOk x.k x.s x.y x.vk x.vn = true) → ∀ x ∈ (logOf rs i acc).1, evOk x.k x.s x.y x.vk x.vn = true
 | [], _, acc, h => h
 | r :: rs, i, acc, h => by
  unfold logOf
  split
  ·exact of_in rs _ _ (fun x hx => by
    rcases step_in hx with hx | hx
    ·exact h x hx
    ·exact hx)
  ·simp
theorem log_in (s : ByteArray) : ∀ x ∈ (logParse s).1, evOk x.k x.s x.y x.vk x.vn = true := by
 unfold logParse
 split
 ·simp
 ·split
  ·simp
  ·exact of_in _ _ _ (by simp)
theorem evOk_sizes {k : Int} {s y : ByteArray} {vk vn : Int} (h : evOk k s y vk vn = true) : s.size ≤ 80 ∧ y.size ≤ 80 := by
 unfold evOk at h
 simp only [Bool.and_eq_true] at h
 refine ⟨name_size h.1.2, ?_⟩
 have h2 := h.2
 split at h2
 ·simp only [Bool.and_eq_true] at h2
  exact name_size h2.2.1
 ·simp only [Bool.and_eq_true, decide_eq_true_eq] at h2
  rw [h2.1]
  exact Nat.zero_le _
theorem log_sizes (s : ByteArray) : ∀ x ∈ (logParse s).1, x.s.size ≤ 65537 ∧ x.y.size ≤ 65537 := fun x hx => by
 have := evOk_sizes (log_in s x hx)
 omega
theorem of_len : ∀ (rs : List ByteArray) (i : Int) (acc : List Ev6), acc.length ≤ 1000 → (logOf rs i acc).1.length ≤ 1000
 | [], _, acc, h => h
 | r :: rs, i, acc, h => by
  unfold logOf
  split
  ·exact of_len rs _ _ (stepL_len acc i r h)
  ·simp
theorem log_len (s : ByteArray) : (logParse s).1.length ≤ 1000 := by
 unfold logParse
 split
 ·simp
 ·split
  ·simp
  ·exact of_len _ _ _ (by simp)
theorem mkb_run : ∀ (l : List Ev6) (m : Mk), MkB m → (∀ x ∈ l, x.s.size ≤ 65537 ∧ x.y.size ≤ 65537) → MkB (runM m l).1
 | [], m, h, _ => h
 | a :: l, m, h, hz => by
  unfold runM
  split
  ·rename_i he
   exact mkb_run l _ (mkb_take h (hz a List.mem_cons_self).1 (hz a List.mem_cons_self).2 he) (fun x hx => hz x (List.mem_cons_of_mem _ hx))
  ·exact h
/-- A history of events has not too much of anything. -/
theorem pair_small {l : List Ev6} (hz : ∀ x ∈ l, x.s.size ≤ 65537 ∧ x.y.size ≤ 65537) : HSmall (pairH l) := by
 have h0 : HSmall ⟨[], [], []⟩ := ⟨by simp, by simp, by simp, by simp, by simp, by simp⟩
 unfold pairH
 split
 ·have hb : MkB (followR l).1 := by
   have := mkb_run l mk0 mkb_0 hz
   unfold followR
   split
   ·exact this
   ·exact this
  refine ⟨hb.zs, hb.zk, (by show (followR l).1.ss.length ≤ _; have := hb.ns; omega), (by show (followR l).1.ks.length ≤ _; have := hb.nk; omega), ?_, ?_⟩
  ·show ((followR l).1.ps.map _).length ≤ _
   rw [List.length_map]
   have := hb.np
   omega
  ·intro t ht
   obtain ⟨p, hp, rfl⟩ := List.mem_map.1 (show t ∈ (followR l).1.ps.map (txOf (followR l).1) from ht)
   have hn := hb.no p hp
   show (keyed _ p).length ≤ _
   rw [keyed_len _ p hn.2.1]
   omega
 ·exact h0
end Go.Proofs.YthaeomdpaadilaaGreatDoor

set_option linter.unusedVariables false
set_option linter.unusedSimpArgs false
namespace Go.Proofs.YthaeomdpaadilaaGreatDoor
open Go.RowKit
open Go.Lib hiding intOf
attribute [local go_sem ↓] Go.wp_at_zero Go.wp_at_succ
set_option maxRecDepth 10000 in
set_option maxHeartbeats 4000000 in
theorem sadd_any (k vk vn ln : Int) (s y : ByteArray) (Bl base : Nat) (V : Value) (l : List Ev6) (w : World)
  (hB : Blk w Bl 27 #[V]) (hown : w.ownsRow base 47 6 V l.length (logC l)) (hbase : base ≤ w.heap.size) (hl : l.length ≤ 1000000) :
  Calls Tryz.prog 18 #[.agg #[.int .i64 k, .string s, .string y, .int .i64 vk, .int .i64 vn, .int .i64 ln], .pointer (some ⟨Bl, 0, none⟩)] w fun e w' => e = .returned (.tuple #[]) ∧
   ∃ V', Blk w' Bl 27 #[V'] ∧ w'.ownsRow base 47 6 V' (l.length + 1) (logC (l ++ [⟨k, s, y, vk, vn, (l.length : Int) + 1⟩])) ∧ Only (Bl :: V.ownBlock.toList) w w' := by
 obtain ⟨i0, hi, hz0, hz1, hz2⟩ := info_parts info_event
 obtain ⟨A, c, hVs, hc1, hc2, hcl, -⟩ := own_row hown
 have hapart := own_apart hown hB (by decide)
 subst hVs
 have HOWN := Lib.hid hown
 have HBL := Lib.hid hB
 generalize hm : l.length = m at *
 have hwm : IntKind.i64.wrap ((m : Int) + 1) = (m : Int) + 1 := IntWalk.i64_in _ (by omega)
 clear hown hB hcl
 go_enter Tryz.func18, Tryz.ntmps18
 have lB := HBL.out.lt
 have cB := HBL.out.at_ 0
 simp at cB lB
 have HROW : Hid (Row ((w.alloc (.cells #[.int .i64 k, .string s, .string y, .int .i64 vk, .int .i64 vn, .int .i64 ((m : Int) + 1)] 47)).alloc (.cells #[.int .i64 k, .string s, .string y, .int .i64 vk, .int .i64 vn, .int .i64 ((m : Int) + 1)] 47)) (w.heap.size + 1 + 1) (some ⟨w.heap.size + 1, 0, none⟩) [.int .i64 k, .string s, .string y, .int .i64 vk, .int .i64 vn, .int .i64 ((m : Int) + 1)]) := Lib.hid (by
  have h := row_lit (w.alloc (.cells #[.int .i64 k, .string s, .string y, .int .i64 vk, .int .i64 vn, .int .i64 ((m : Int) + 1)] 47)) 47 #[.int .i64 k, .string s, .string y, .int .i64 vk, .int .i64 vn, .int .i64 ((m : Int) + 1)]
  simpa using h)
 have HO3 : Hid (Only [] w ((w.alloc (.cells #[.int .i64 k, .string s, .string y, .int .i64 vk, .int .i64 vn, .int .i64 ((m : Int) + 1)] 47)).alloc (.cells #[.int .i64 k, .string s, .string y, .int .i64 vk, .int .i64 vn, .int .i64 ((m : Int) + 1)] 47))) := Lib.hid (((Only.refl [] w).alloc _).alloc _)
 go_wp2_with (
  at_builtin
  refine wpList_append_row _ rfl (.tmp 7) (.tmp 9) _ rfl base 47 i0 _ 6 64 Tryz.underlying27 hi hz0 hz1 hz2 rfl (by omega) _ m (logC l) rfl (own_only HOWN.out HO3.out (by simp)) (w.heap.size + 1 + 1) (some ⟨w.heap.size + 1, 0, none⟩) 1 1 [.int .i64 k, .string s, .string y, .int .i64 vk, .int .i64 vn, .int .i64 ((m : Int) + 1)] (by rfl) (by rfl) HROW.out (by intro u hu; simp at hu; rcases hu with rfl | rfl | rfl | rfl | rfl | rfl <;> rfl) (by unfold maxLen; omega) (by omega) (by simp; omega) ?_
  intro v4 w4 hown4 hgrow hat
  obtain ⟨A4, c4, rfl, -, -, -, -⟩ := own_row hown4
  have b4 := (only_grown hgrow).blk ((HBL.out.alloc (.cells #[.int .i64 k, .string s, .string y, .int .i64 vk, .int .i64 vn, .int .i64 ((m : Int) + 1)] 47)).alloc (.cells #[.int .i64 k, .string s, .string y, .int .i64 vk, .int .i64 vn, .int .i64 ((m : Int) + 1)] 47)) hapart
  have O4 := (HO3.out.wide (T := (Value.slice A m c).ownBlock.toList) (fun i hi => by cases hi)).step (only_grown hgrow) (fun i hi _ => hi)
  have HB4 := Lib.hid b4
  have HO4 := Lib.hid O4
  have HOWN4 := Lib.hid hown4
  have l4 := b4.lt
  have d4 := b4.at_ 0
  have g4 := b4.free 0
  simp at d4
  clear b4 O4 hown4 hat hgrow)
 go_end0
 have hap4 := own_apart HOWN4.out HB4.out (by decide)
 refine ⟨rfl, _, HB4.out.put 0 _, ?_, (HO4.out.wide (fun i hi _ => by simp [hi])).put (p := ⟨Bl, 0, none⟩) (fun _ => by simp) _⟩
 have h5 := own_only HOWN4.out ((Only.refl [Bl] w4).put (p := ⟨Bl, 0, none⟩) (fun _ => by simp) (.slice A4 (m + 1) c4)) (fun g hg hm => by
  simp at hm
  subst hm
  exact hap4 (by rw [hg]; simp))
 rw [logC_snoc]
 exact h5
end Go.Proofs.YthaeomdpaadilaaGreatDoor
