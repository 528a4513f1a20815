/- Parts. -/
import Derived.Test.YtojpohmijlkagaaDoorLaw43AllK36
set_option maxRecDepth 10000
set_option maxHeartbeats 16000000
set_option linter.unusedVariables false
set_option linter.unusedSimpArgs false
namespace Go.Proofs.YtojpohmijlkagaaDoor
open Go.RowKit
open Go.Lib hiding intOf
attribute [local go_sem ↓] Go.wp_at_zero Go.wp_at_succ
theorem cutL_one (b : UInt8) (cur t : List UInt8) (h : b ≠ 10) : cutL cur (b :: t) = cutL (cur ++ [b]) t := by
 rw [cutL, if_neg h]
def NextOk (LS : List (List UInt8)) (s : ByteArray) (i f : Nat) (ys : List (List UInt8)) : Prop :=
 (i ≤ s.size ∧ f ≤ i ∧ LS = ys ++ cutL (((by_ s).take i).drop f) ((by_ s).drop i)) ∨ (i = s.size + 1 ∧ LS = ys)
theorem rof_any (s : ByteArray) (w : World) (hs : s.size ≤ 65536) :
    Calls Tryd.prog 22 #[.string s] w fun e w' => Only [] w w' ∧
      (((∀ x ∈ linesOf (by_ s), validD x = true) ∧ ∃ V xs, e = .returned (.tuple #[V, .int .i64 0, .int .i64 0]) ∧ w'.ownsRow w.heap.size 9 1 V xs.length (strs xs) ∧ xs.map by_ = linesOf (by_ s)) ∨
       (∃ (i : Nat) (x : List UInt8), (linesOf (by_ s))[i]? = some x ∧ validD x = false ∧ (∀ j y, j < i → (linesOf (by_ s))[j]? = some y → validD y = true) ∧ e = .returned (.tuple #[.slice none 0 0, .int .i64 ((i : Int) + 1), .int .i64 5]))) := by
  obtain ⟨i0, hi, hz0, hz1, hz2⟩ := info_parts tinfo_string
  have hs1 : decide ((65536 : Int) < (s.size : Int)) = false := by simp; omega
  obtain ⟨LS, hLS⟩ : ∃ LS, LS = linesOf (by_ s) := ⟨_, rfl⟩
  rw [← hLS]
  have HLS := Hd hLS
  clear hLS
  go_enter Tryd.func22, Tryd.ntmps22
  go_wp2
  go_loopw [5, 6, 7] (fun V fr ii wr => ∃ (i f : Nat) (xs : List ByteArray), fr = .int .i64 f ∧ ii = .int .i64 i ∧ i ≤ s.size + 1 ∧ f ≤ s.size + 1 ∧ xs.length ≤ i ∧ Hid (wr.ownsRow w.heap.size 9 1 V xs.length (strs xs)) ∧
    Hid (∀ x ∈ xs.map by_, validD x = true) ∧ Hid (NextOk LS s i f (xs.map by_)) ∧ Hid (Only [] w wr)) (fun _ _ ii _ => s.size + 1 - (intOf ii).toNat)
  case atStart => exact ⟨0, 0, [], rfl, rfl, by omega, by omega, by simp, Hd (World.ownsRow_lit w #[] 0 (Nat.le_refl _) (by unfold maxLen; omega) rfl), Hd (by simp), Hd (Or.inl ⟨by omega, by omega, by rw [HLS.out]; simp [linesOf]⟩), Hd ((Only.refl [] w).alloc _)⟩
  case round =>
    obtain ⟨i, f, xs, rfl, rfl, hi1, hf1, hxl, HOWN, HVAL, HST, HO⟩ := hrel
    have hi0' : (0 : Int) ≤ (i : Int) := Int.natCast_nonneg _
    have hf0 : (0 : Int) ≤ (f : Int) := Int.natCast_nonneg _
    have hsz2 := HO.out.size
    by_cases hle : i ≤ s.size
    · have hle1 : (i : Int) ≤ (s.size : Int) := by omega
      have hst : f ≤ i ∧ LS = xs.map by_ ++ cutL (((by_ s).take i).drop f) ((by_ s).drop i) := by
        rcases HST.out with ⟨-, h1, h2⟩ | ⟨h1, -⟩
        · exact ⟨h1, h2⟩
        · omega
      obtain ⟨hfi, hL⟩ := hst
      have HL := Hd hL
      have hfi1 : (f : Int) ≤ (i : Int) := by omega
      clear hL HST
      by_cases hlt : i < s.size
      · have hlt1 : (i : Int) < (s.size : Int) := by omega
        have hne : ((i : Int) == (s.size : Int)) = false := by simp; omega
        have hdr : (by_ s).drop i = (by_ s)[i]'(by rw [by_length]; exact hlt) :: (by_ s).drop (i + 1) := List.drop_eq_getElem_cons (by rw [by_length]; exact hlt)
        have hbe : (by_ s)[i]'(by rw [by_length]; exact hlt) = s[i] := rfl
        rw [hbe] at hdr
        by_cases hb : s[i] = 10
        · have hbb : ((s[i].toNat : Int) != 10) = false := by rw [hb]; rfl
          rw [hb] at hdr
          have HCUT : Hid (cutL (((by_ s).take i).drop f) ((by_ s).drop i) = ((by_ s).take i).drop f :: cutL [] ((by_ s).drop (i + 1))) := Hd (by rw [hdr, cutL_nl])
          have HNX : Hid (∀ ys : List (List UInt8), LS = ys ++ cutL [] ((by_ s).drop (i + 1)) → NextOk LS s (i + 1) (i + 1) ys) := Hd (fun ys h => Or.inl ⟨by omega, by omega, by
            rw [h]
            congr 2
            rw [List.drop_of_length_le (by rw [List.length_take]; omega)]⟩)
          clear hdr hbe hb
          have hxs : (s.extract f i).size ≤ 65537 := by rw [ByteArray.size_extract]; omega
          have HRN := Hd (fun W => rrunes_any (s.extract f i) W hxs)
          have HBX : Hid (by_ (s.extract f i) = ((by_ s).take i).drop f) := Hd (by_extract s f i)
          obtain ⟨x, hx⟩ : ∃ x, x = s.extract f i := ⟨_, rfl⟩
          obtain ⟨vb, hvb⟩ : ∃ vb, vb = validD (by_ (s.extract f i)) := ⟨_, rfl⟩
          simp only [← hvb] at HRN
          have HVB := Hd hvb
          clear hvb hxs hx x
          obtain ⟨rn, hrn⟩ : ∃ rn : Int, rn = (if vb = true then (runeCount (s.extract f i) : Int) else 0) := ⟨_, rfl⟩
          simp only [← hrn] at HRN
          clear hrn
          cases vb with
          | false =>
            have hwk : IntKind.i64.wrap ((xs.length : Int) + 1) = (xs.length : Int) + 1 := IntWalk.i64_in _ (by omega)
            have hV := HOWN.out
            obtain ⟨AV, cV, rfl, -, -, -, -⟩ := own_row hV
            clear hV
            go_wp2_with fail
            refine (HRN.out _).mono ?_
            rintro e w' ⟨rfl, rfl⟩
            go_wp2
            go_ret3
            refine ⟨HO.out, .inr ⟨xs.length, by_ (s.extract f i), ?_, HVB.out.symm, fun j y hj hy => ?_, rfl⟩⟩
            · rw [HL.out, HCUT.out, HBX.out, List.getElem?_append_right (by simp)]
              simp
            · rw [HL.out, List.getElem?_append_left (by simpa using hj)] at hy
              exact HVAL.out y (List.mem_of_getElem? hy)
          | true =>
            go_wp2_with fail
            refine (HRN.out _).mono ?_
            rintro e w' ⟨rfl, rfl⟩
            go_wp2_with (at_builtin; refine wpList_append_row _ rfl (.tmp 56) (.tmp 58) _ rfl w.heap.size 9 i0 _ 1 16 Tryd.underlying47 hi hz0 hz1 hz2 rfl (by omega) _ _ _ rfl (own_only HOWN.out ((Only.refl [] _).alloc _) (by simp)) (wr.heap.size + 1) (some ⟨wr.heap.size, 0, none⟩) 1 1 [.string (s.extract f i)] rfl rfl (row_lit wr 9 #[.string (s.extract f i)]) (by simp [Value.oneCell']) (by unfold maxLen; omega) (by omega) (by simp; omega) ?_; intro v3 w3 hown3 hgrow hat)
            have REL : w3.ownsRow w.heap.size 9 1 v3 (xs ++ [s.extract f i]).length (strs (xs ++ [s.extract f i])) ∧ (∀ y ∈ (xs ++ [s.extract f i]).map by_, validD y = true) ∧
                NextOk LS s (i + 1) (i + 1) ((xs ++ [s.extract f i]).map by_) ∧ Only [] w w3 := by
              refine ⟨by simpa [strs] using hown3, fun y hy => ?_, HNX.out _ ?_, (HO.out.alloc _).step (only_grown hgrow) (own_new HOWN.out)⟩
              · rw [List.map_append] at hy
                rcases List.mem_append.1 hy with h | h
                · exact HVAL.out y h
                · simp at h
                  rw [h]
                  exact HVB.out.symm
              · rw [HL.out, HCUT.out, List.map_append, List.append_assoc]
                congr 1
                simp [HBX.out]
            have HREL := Hd REL
            clear REL hown3 hgrow hat
            go_wp2
            go_roundw
            case rel =>
              first
              | exact ⟨i + 1, i + 1, _, by go_num, by go_num, by omega, by omega, by simp; omega, Hd HREL.out.1, Hd HREL.out.2.1, Hd HREL.out.2.2.1, Hd HREL.out.2.2.2⟩
              | exact ⟨_, ⟨i + 1, i + 1, _, by go_num, by go_num, by omega, by omega, by simp; omega, Hd HREL.out.1, Hd HREL.out.2.1, Hd HREL.out.2.2.1, Hd HREL.out.2.2.2⟩, rfl⟩
            case measure => first | (simp [intOf]; done) | (simp [intOf]; omega)
        · have hbb : ((s[i].toNat : Int) != 10) = true := by
            simp
            intro e
            exact hb ((byte_eq _).1 (by omega))
          have HL2 : Hid (LS = xs.map by_ ++ cutL (((by_ s).take (i + 1)).drop f) ((by_ s).drop (i + 1))) := Hd (by
            rw [HL.out, hdr, cutL_one _ _ _ hb]
            congr 2
            rw [List.take_add_one, List.getElem?_eq_getElem (by rw [by_length]; exact hlt), List.drop_append_of_le_length (by rw [List.length_take, by_length]; omega)]
            rfl)
          clear hdr hbe hb
          go_wp2
          go_roundw
          case rel => exact ⟨i + 1, f, xs, rfl, by go_num, by omega, by omega, by omega, HOWN, HVAL, Hd (Or.inl ⟨by omega, by omega, HL2.out⟩), HO⟩
          case measure => first | (simp [intOf]; done) | (simp [intOf]; omega)
      · have hie : i = s.size := by omega
        subst hie
        have hlt1 : decide ((s.size : Int) < (s.size : Int)) = false := by simp
        have hdr : (by_ s).drop s.size = [] := List.drop_of_length_le (by rw [by_length]; omega)
        by_cases hfe : f = s.size
        · have hff : ((f : Int) == (s.size : Int)) = true := by simp; omega
          have HL2 : Hid (LS = xs.map by_) := Hd (by
            rw [HL.out, hdr, List.drop_of_length_le (by rw [List.length_take]; omega)]
            simp [cutL])
          clear hdr hle1
          go_wp2
          go_roundw
          case rel => exact ⟨s.size + 1, f, xs, rfl, by go_num, by omega, by omega, by omega, HOWN, HVAL, Hd (Or.inr ⟨by omega, HL2.out⟩), HO⟩
          case measure => first | (simp [intOf]; done) | (simp [intOf]; omega)
        · have hff : ((f : Int) == (s.size : Int)) = false := by simp; omega
          have HCUT : Hid (cutL (((by_ s).take s.size).drop f) ((by_ s).drop s.size) = ((by_ s).take s.size).drop f :: []) := Hd (by
            rw [hdr]
            unfold cutL
            rw [if_neg]
            intro e
            have := congrArg List.length e
            rw [List.length_drop, List.length_take, by_length] at this
            simp at this
            omega)
          have HNX : Hid (∀ ys : List (List UInt8), LS = ys ++ [] → NextOk LS s (s.size + 1) (s.size + 1) ys) := Hd (fun ys h => Or.inr ⟨by omega, by rw [h, List.append_nil]⟩)
          clear hdr
          have hxs : (s.extract f s.size).size ≤ 65537 := by rw [ByteArray.size_extract]; omega
          have HRN := Hd (fun W => rrunes_any (s.extract f s.size) W hxs)
          have HBX : Hid (by_ (s.extract f s.size) = ((by_ s).take s.size).drop f) := Hd (by_extract s f s.size)
          obtain ⟨x, hx⟩ : ∃ x, x = s.extract f s.size := ⟨_, rfl⟩
          obtain ⟨vb, hvb⟩ : ∃ vb, vb = validD (by_ (s.extract f s.size)) := ⟨_, rfl⟩
          simp only [← hvb] at HRN
          have HVB := Hd hvb
          clear hvb hxs hx x
          obtain ⟨rn, hrn⟩ : ∃ rn : Int, rn = (if vb = true then (runeCount (s.extract f s.size) : Int) else 0) := ⟨_, rfl⟩
          simp only [← hrn] at HRN
          clear hrn
          cases vb with
          | false =>
            have hwk : IntKind.i64.wrap ((xs.length : Int) + 1) = (xs.length : Int) + 1 := IntWalk.i64_in _ (by omega)
            have hV := HOWN.out
            obtain ⟨AV, cV, rfl, -, -, -, -⟩ := own_row hV
            clear hV
            go_wp2_with fail
            refine (HRN.out _).mono ?_
            rintro e w' ⟨rfl, rfl⟩
            go_wp2
            go_ret3
            refine ⟨HO.out, .inr ⟨xs.length, by_ (s.extract f s.size), ?_, HVB.out.symm, fun j y hj hy => ?_, rfl⟩⟩
            · rw [HL.out, HCUT.out, HBX.out, List.getElem?_append_right (by simp)]
              simp
            · rw [HL.out, List.getElem?_append_left (by simpa using hj)] at hy
              exact HVAL.out y (List.mem_of_getElem? hy)
          | true =>
            go_wp2_with fail
            refine (HRN.out _).mono ?_
            rintro e w' ⟨rfl, rfl⟩
            go_wp2_with (at_builtin; refine wpList_append_row _ rfl (.tmp 56) (.tmp 58) _ rfl w.heap.size 9 i0 _ 1 16 Tryd.underlying47 hi hz0 hz1 hz2 rfl (by omega) _ _ _ rfl (own_only HOWN.out ((Only.refl [] _).alloc _) (by simp)) (wr.heap.size + 1) (some ⟨wr.heap.size, 0, none⟩) 1 1 [.string (s.extract f s.size)] rfl rfl (row_lit wr 9 #[.string (s.extract f s.size)]) (by simp [Value.oneCell']) (by unfold maxLen; omega) (by omega) (by simp; omega) ?_; intro v3 w3 hown3 hgrow hat)
            have REL : w3.ownsRow w.heap.size 9 1 v3 (xs ++ [s.extract f s.size]).length (strs (xs ++ [s.extract f s.size])) ∧ (∀ y ∈ (xs ++ [s.extract f s.size]).map by_, validD y = true) ∧
                NextOk LS s (s.size + 1) (s.size + 1) ((xs ++ [s.extract f s.size]).map by_) ∧ Only [] w w3 := by
              refine ⟨by simpa [strs] using hown3, fun y hy => ?_, HNX.out _ ?_, (HO.out.alloc _).step (only_grown hgrow) (own_new HOWN.out)⟩
              · rw [List.map_append] at hy
                rcases List.mem_append.1 hy with h | h
                · exact HVAL.out y h
                · simp at h
                  rw [h]
                  exact HVB.out.symm
              · rw [HL.out, HCUT.out, List.map_append, List.append_assoc]
                congr 1
                simp [HBX.out]
            have HREL := Hd REL
            clear REL hown3 hgrow hat
            go_wp2
            go_roundw
            case rel =>
              first
              | exact ⟨s.size + 1, s.size + 1, _, by go_num, by go_num, by omega, by omega, by simp; omega, Hd HREL.out.1, Hd HREL.out.2.1, Hd HREL.out.2.2.1, Hd HREL.out.2.2.2⟩
              | exact ⟨_, ⟨s.size + 1, s.size + 1, _, by go_num, by go_num, by omega, by omega, by simp; omega, Hd HREL.out.1, Hd HREL.out.2.1, Hd HREL.out.2.2.1, Hd HREL.out.2.2.2⟩, rfl⟩
            case measure => first | (simp [intOf]; done) | (simp [intOf]; omega)
    · have hd : decide ((i : Int) ≤ (s.size : Int)) = false := by simp; omega
      have hL2 : LS = xs.map by_ := by
        rcases HST.out with ⟨h1, -⟩ | ⟨-, h2⟩
        · omega
        · exact h2
      have HL2 := Hd hL2
      clear hL2
      go_wp2
      go_ret3
      exact ⟨HO.out, .inl ⟨fun x hx => HVAL.out x (by rw [← HL2.out]; exact hx), _, xs, rfl, HOWN.out, HL2.out.symm⟩⟩
theorem rof_long (s : ByteArray) (w : World) (hs : 65536 < s.size) :
  Calls Tryd.prog 22 #[.string s] w fun e w' => e = .returned (.tuple #[.slice none 0 0, .int .i64 0, .int .i64 6]) ∧ w = w' := by
 have hs1 : (65536 : Int) < (s.size : Int) := by omega
 go_enter Tryd.func22, Tryd.ntmps22;go_wp2
 go_ret3
 exact ⟨rfl, rfl⟩
end Go.Proofs.YtojpohmijlkagaaDoor
