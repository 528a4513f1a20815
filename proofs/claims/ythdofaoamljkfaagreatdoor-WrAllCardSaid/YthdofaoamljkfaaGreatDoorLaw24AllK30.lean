/- Parts. -/
import Derived.Test.YthdofaoamljkfaaGreatDoorLaw24AllK29
import Derived.Test.YthdofaoamljkfaaGreatDoorLaw24AllK23
set_option maxRecDepth 10000
set_option maxHeartbeats 16000000
set_option linter.unusedVariables false
set_option linter.unusedSimpArgs false
namespace Go.Proofs.YthdofaoamljkfaaGreatDoor
open Go.RowKit
open Go.Lib hiding intOf
attribute [local go_sem ↓] Go.wp_at_zero Go.wp_at_succ
theorem cut_any (s : ByteArray) (w : World) (hs : s.size ≤ 65536) :
  Calls Tryz.prog 86 #[.string s] w fun e w' => ∃ V xs, (e = .returned V ∧ w'.ownsRow w.heap.size 9 1 V xs.length (strs xs) ∧ xs.map by_ = linesOf (by_ s)) ∧ Only [] w w' := by
 obtain ⟨i0, hi, hz0, hz1, hz2⟩ := info_parts tinfo_string;go_enter Tryz.func86, Tryz.ntmps86;go_wp2
 go_loopw [3, 4] (fun V fr wr => ∃ (pos f : Nat) (xs : List ByteArray), fr = .int .i64 f ∧ f ≤ pos ∧ pos ≤ s.size ∧ xs.length ≤ pos ∧ Hid (wr.heap[w.heap.size]? = some (.stringIter s pos)) ∧
  Hid (wr.ownsRow w.heap.size 9 1 V xs.length (strs xs)) ∧ Hid (linesOf (by_ s) = xs.map by_ ++ cutL (((by_ s).take pos).drop f) ((by_ s).drop pos)) ∧ Hid (Only [] w wr)) (fun _ _ wr => s.size - wr.iterPos w.heap.size)
 case atStart => exact ⟨0, 0, [], rfl, by omega, by omega, by simp, Hd (World.iter_heap w s 0), Hd ⟨rfl, .inl ⟨rfl, rfl⟩⟩, Hd (by simp [linesOf]), Hd ((Only.refl [] w).alloc _)⟩
 case round =>
  obtain ⟨pos, f, xs, rfl, hf, hpos, hxl, HIT, HOWN, HL, HO⟩ := hrel
  by_cases hp : pos < s.size
  ·have hnx : ∀ ty, (Instr.next (.pointer (some ⟨w.heap.size, 0, none⟩)) true ty).run Tryz.prog wr = _ := fun ty => run_next_any_at wr w.heap.size s pos ty HIT.out hp;have hwd := width_le s pos hp;have hip := iterPos_of HIT.out
   by_cases hr : (Utf8.decode s pos).1 = 10
   ·obtain ⟨hb, hw1⟩ := nl_here s pos hp hr;rw [hr, hw1] at hnx;have HIT2 := Hd (iterAt_heap wr w.heap.size s pos (pos + 1) HIT.out);have HOWN2 := Hd (own_iter HOWN.out HIT.out (pos + 1));have HO2 := Hd (only_iter HO.out s (pos + 1) (k := w.heap.size) (fun h => by omega));have hf0 : (0 : Int) ≤ (f : Int) := Int.natCast_nonneg _;have hfp : (f : Int) ≤ (pos : Int) := by omega
    have hps : (pos : Int) ≤ (s.size : Int) := by omega
    have hstep : cutL (((by_ s).take pos).drop f) ((by_ s).drop pos) = ((by_ s).take pos).drop f :: cutL [] ((by_ s).drop (pos + 1)) := by
     have hd : (by_ s).drop pos = 10 :: (by_ s).drop (pos + 1) := by
      have hl : pos < (by_ s).length := by rw [by_length]; exact hp
      rw [List.drop_eq_getElem_cons hl]
      congr 1
      rw [List.getElem?_eq_getElem hl] at hb;exact Option.some.inj hb
     rw [hd, cutL_nl]
    have HST := Hd hstep;have hsz2 := HO2.out.size;clear hb hw1 hr hwd hstep HIT HOWN HO;obtain ⟨w2, hw2⟩ : ∃ w2, w2 = wr.iterAt w.heap.size s (pos + 1) := ⟨_, rfl⟩;rw [← hw2] at hnx HIT2 HOWN2 HO2 hsz2;have HW2 := Hd hw2;clear hw2;go_wp2_with (at_builtin; refine wpList_append_row _ rfl (.tmp 15) (.tmp 20) _ rfl w.heap.size 9 i0 _ 1 16 Tryz.underlying22 hi hz0 hz1 hz2 rfl (by omega) _ _ _ rfl (own_only HOWN2.out ((Only.refl [] _).alloc _) (by simp)) (w2.heap.size + 1) (some ⟨w2.heap.size, 0, none⟩) 1 1 [.string (s.extract f pos)] rfl rfl (row_lit w2 9 #[.string (s.extract f pos)]) (by simp [Value.oneCell']) (by unfold maxLen; omega) (by omega) (by simp; omega) ?_; intro v3 w3 hown3 hgrow hat)
    have REL : w3.heap[w.heap.size]? = some (.stringIter s (pos + 1)) ∧ w3.ownsRow w.heap.size 9 1 v3 (xs ++ [s.extract f pos]).length (strs (xs ++ [s.extract f pos])) ∧
      linesOf (by_ s) = (xs ++ [s.extract f pos]).map by_ ++ cutL (((by_ s).take (pos + 1)).drop (pos + 1)) ((by_ s).drop (pos + 1)) ∧ Only [] w w3 := by
     have hnot : w.heap.size ∉ u3.ownBlock.toList := fun hm => by
      cases hv : u3.ownBlock with
      | none => rw [hv] at hm; cases hm
      | some g =>
       rw [hv] at hm;simp at hm;subst hm;obtain ⟨cur, hcur⟩ := own_blk HOWN2.out hv;unfold Blk at hcur;rw [HIT2.out] at hcur
       cases hcur
     have hk : w.heap.size < w2.heap.size := (Array.getElem?_eq_some_iff.1 HIT2.out).1;refine ⟨?_, ?_, ?_, (HO2.out.alloc _).step (only_grown hgrow) (own_new HOWN2.out)⟩
     ·rw [(only_grown hgrow).keeps w.heap.size (by rw [World.size_alloc]; omega) (fun hm => ?_), Below.heap_alloc w2 _ w.heap.size hk]
      ·exact HIT2.out
      ·exact hnot hm
     ·simpa [strs] using hown3
     ·rw [HL.out, HST.out, List.map_append, List.append_assoc]
      congr 1
      have e9 : ((by_ s).take (pos + 1)).drop (pos + 1) = [] := List.drop_of_length_le (by rw [List.length_take]; omega);rw [e9];simp [by_extract]
    have HREL := Hd REL;have hip3 := iterPos_of REL.1;clear REL hown3 hgrow hat;go_wp2
    go_roundw
    case rel =>
     first
     | exact ⟨pos + 1, pos + 1, _, by go_num, by omega, by omega, by simp; omega, Hd HREL.out.1, Hd HREL.out.2.1, Hd HREL.out.2.2.1, Hd HREL.out.2.2.2⟩
     | exact ⟨_, ⟨pos + 1, pos + 1, _, by go_num, by omega, by omega, by simp; omega, Hd HREL.out.1, Hd HREL.out.2.1, Hd HREL.out.2.2.1, Hd HREL.out.2.2.2⟩, rfl⟩
    case measure => rw [hip, hip3]; omega
   ·have hnn := nl_none s pos hp hr;have hbr : (((Utf8.decode s pos).1 : Int) == 10) = false := by simp; omega
    have HIT2 := Hd (iterAt_heap wr w.heap.size s pos (pos + (Utf8.decode s pos).2) HIT.out);have HOWN2 := Hd (own_iter HOWN.out HIT.out (pos + (Utf8.decode s pos).2));have HO2 := Hd (only_iter HO.out s (pos + (Utf8.decode s pos).2) (k := w.heap.size) (fun h => by omega));have hip2 := iterPos_of HIT2.out;have hstep : cutL (((by_ s).take pos).drop f) ((by_ s).drop pos) = cutL (((by_ s).take (pos + (Utf8.decode s pos).2)).drop f) ((by_ s).drop (pos + (Utf8.decode s pos).2)) := by
     have e1 : (by_ s).drop pos = ((by_ s).drop pos).take (Utf8.decode s pos).2 ++ (by_ s).drop (pos + (Utf8.decode s pos).2) := by
      rw [← List.drop_drop, List.take_append_drop]
     rw [e1, cutL_skip _ _ _ hnn]
     congr 1
     rw [List.take_add, List.drop_append_of_le_length]
     ·rw [List.length_take, by_length]; omega
    have HST := Hd hstep;obtain ⟨wd, hwde⟩ : ∃ wd, wd = (Utf8.decode s pos).2 := ⟨_, rfl⟩;rw [← hwde] at hnx HIT2 HOWN2 HO2 hwd HST hip2;generalize (Utf8.decode s pos).1 = rn at *;clear hnn hstep HIT HOWN HO hr hwde;go_wp2
    go_roundw
    case rel => exact ⟨pos + wd, f, xs, rfl, by omega, by omega, by omega, HIT2, HOWN2, Hd (by rw [HL.out, HST.out]), HO2⟩
    case measure => rw [hip, hip2]; omega
  ·have hnx : ∀ ty, (Instr.next (.pointer (some ⟨w.heap.size, 0, none⟩)) true ty).run Tryz.prog wr = _ := fun ty => run_next_end_at wr w.heap.size s pos ty HIT.out hp;have hpe : pos = s.size := by omega
   subst hpe;have hl : (by_ s).drop s.size = [] := List.drop_of_length_le (by rw [by_length]; exact Nat.le_refl _);have ht : (by_ s).take s.size = by_ s := List.take_of_length_le (by rw [by_length]; exact Nat.le_refl _);rw [hl, ht] at HL;have hf0 : (0 : Int) ≤ (f : Int) := Int.natCast_nonneg _;clear hl ht HIT
   by_cases hfs : f < s.size
   ·have hfs1 : (f : Int) < (s.size : Int) := by omega
    have hfs2 : (f : Int) ≤ (s.size : Int) := by omega
    have hne : cutL ((by_ s).drop f) [] = [(by_ s).drop f] := by
     unfold cutL;rw [if_neg];intro e;have := congrArg List.length e;rw [List.length_drop, by_length] at this;simp at this;omega
    have HNE := Hd hne;have hsz2 := HO.out.size;clear hne;go_wp2_with (at_builtin; refine wpList_append_row _ rfl (.tmp 28) (.tmp 32) _ rfl w.heap.size 9 i0 _ 1 16 Tryz.underlying22 hi hz0 hz1 hz2 rfl (by omega) _ _ _ rfl (own_only HOWN.out ((Only.refl [] _).alloc _) (by simp)) (wr.heap.size + 1) (some ⟨wr.heap.size, 0, none⟩) 1 1 [.string (s.extract f s.size)] rfl rfl (row_lit wr 9 #[.string (s.extract f s.size)]) (by simp [Value.oneCell']) (by unfold maxLen; omega) (by omega) (by simp; omega) ?_; intro v3 w3 hown3 hgrow hat)
    go_wp2
    go_ret
    refine ⟨_, xs ++ [s.extract f s.size], ⟨rfl, by simpa [strs] using hown3, ?_⟩, (HO.out.alloc _).step (only_grown hgrow) (own_new HOWN.out)⟩;rw [HL.out, HNE.out, List.map_append];simp [by_extract, List.take_of_length_le (show (by_ s).length ≤ s.size by rw [by_length]; exact Nat.le_refl _)]
   ·have hd : decide ((f : Int) < (s.size : Int)) = false := by simp; omega
    have hne : cutL ((by_ s).drop f) [] = [] := by
     unfold cutL;rw [if_pos];exact List.drop_of_length_le (by rw [by_length]; omega)
    rw [hne, List.append_nil] at HL;clear hne;go_wp2
    go_ret
    exact ⟨_, xs, ⟨rfl, HOWN.out, HL.out.symm⟩, HO.out⟩
theorem of_any (s : ByteArray) (w : World) (hs : s.size ≤ 65536) (hT : UTabs w) :
    Calls Tryz.prog 73 #[.string s] w fun e w' => Only [] w w' ∧
      (((∀ x ∈ linesOf (by_ s), validD x = true) ∧ ∃ V xs, e = .returned (.tuple #[V, .int .i64 0, .int .i64 0]) ∧ w'.ownsRow w.heap.size 9 1 V xs.length (strs xs) ∧ xs.map by_ = linesOf (by_ s)) ∨
       (∃ (i : Nat) (x : List UInt8), (linesOf (by_ s))[i]? = some x ∧ validD x = false ∧ (∀ j y, j < i → (linesOf (by_ s))[j]? = some y → validD y = true) ∧ e = .returned (.tuple #[.slice none 0 0, .int .i64 ((i : Int) + 1), .int .i64 5]))) := by
  have HC := Hd (cut_any s w hs)
  have HT := Hd hT
  have hs1 : ¬ (65536 : Int) < (s.size : Int) := by omega
  have hlm := cutL_mem (by_ s) []
  have hln := cutL_len (by_ s) []
  rw [by_length] at hln
  have HLM := Hd hlm
  clear hT hlm
  go_enter Tryz.func73, Tryz.ntmps73
  go_wp2_with fail
  refine (HC.out).mono ?_
  rintro e w1 ⟨V, xs, ⟨rfl, hown, hxs⟩, hO⟩
  obtain ⟨A, c, rfl, hc1, hc2, hxl, hrow⟩ := own_row hown
  obtain ⟨n, hn⟩ : ∃ n, n = xs.length := ⟨_, rfl⟩
  have hnl : (linesOf (by_ s)).length = n := by rw [← hxs, List.length_map, hn]
  unfold linesOf at hnl
  have hn65 : n ≤ 65537 := by omega
  have HXS := Hd hxs
  have HOWN := Hd hown
  have HROW := Hd hrow
  have HO := Hd hO
  have HN := Hd hn
  rw [← hn] at hc1 ⊢
  clear hxs hown hrow hO hxl hnl hln hn
  go_wp2
  go_loopw [15] (fun i wr => ∃ k : Nat, i = .int .i64 k ∧ k ≤ n ∧ Hid (∀ j y, j < k → (linesOf (by_ s))[j]? = some y → validD y = true) ∧ Hid (Only [] w1 wr)) (fun i _ => n - (intOf i).toNat)
  case atStart => exact ⟨0, rfl, by omega, Hd (fun j y h => by omega), Hd (Only.refl _ _)⟩
  case round =>
    obtain ⟨k, rfl, hk, HV, HO1⟩ := hrel
    by_cases hlt : k < n
    · have hk1 : (k : Int) < (n : Int) := by omega
      have hk0 : (0 : Int) ≤ (k : Int) := Int.natCast_nonneg _
      obtain ⟨b, off, rfl, hbB, hbw, hcell⟩ := HROW.out.open_ (k := k) (by rw [strs, List.length_map, ← HN.out]; exact hlt)
      obtain ⟨x, hx⟩ : ∃ x, xs[k]? = some x := ⟨_, List.getElem?_eq_getElem (by rw [← HN.out]; exact hlt)⟩
      have hck : wr.cell? ⟨b, off + k, none⟩ = some (.string x) := (HO1.out.cell (p := ⟨b, off + k, none⟩) hbw (by simp)).trans (hcell k _ (by rw [strs, List.getElem?_map, hx]; rfl))
      have hlx : (linesOf (by_ s))[k]? = some (by_ x) := by rw [← HXS.out, List.getElem?_map, hx]; rfl
      have hxs : x.size ≤ 9223372036854775807 := by
        have := HLM.out (by_ x) (List.mem_of_getElem? hlx)
        rw [by_length, by_length] at this
        simp at this
        omega
      have HVC := Hd (valid_any x wr hxs ((HT.out.only HO.out).only HO1.out))
      have HLX := Hd hlx
      clear hcell hx hlx hxs
      obtain ⟨vb, hvb⟩ : ∃ vb, vb = validD (by_ x) := ⟨_, rfl⟩
      rw [← hvb] at HVC
      have HVB := Hd hvb
      clear hvb
      cases vb with
      | true =>
        go_wp2_with fail
        refine (HVC.out).mono ?_
        rintro e w2 ⟨rfl, hO2⟩
        have HO2 := Hd (HO1.out.trans hO2)
        have HV2 : Hid (∀ j y, j < k + 1 → (linesOf (by_ s))[j]? = some y → validD y = true) := Hd (fun j y hj hy => by
          by_cases hjk : j < k
          · exact HV.out j y hjk hy
          · have : j = k := by omega
            subst this
            rw [HLX.out] at hy
            obtain rfl := Option.some.inj hy
            exact HVB.out.symm)
        clear hO2
        go_wp2
        go_roundw
        case rel => exact ⟨k + 1, by go_num, by omega, HV2, HO2⟩
        case measure => simp [intOf]; omega
      | false =>
        have hwk : IntKind.i64.wrap ((k : Int) + 1) = (k : Int) + 1 := IntWalk.i64_in _ (by omega)
        go_wp2_with fail
        refine (HVC.out).mono ?_
        rintro e w2 ⟨rfl, hO2⟩
        have HO2 := Hd (HO1.out.trans hO2)
        clear hO2
        go_wp2
        go_ret3
        exact ⟨HO.out.trans HO2.out, .inr ⟨k, by_ x, HLX.out, HVB.out.symm, HV.out, rfl⟩⟩
    · have hkn : k = n := by omega
      subst hkn
      have hd : decide ((k : Int) < (k : Int)) = false := by simp
      go_wp2
      go_ret3
      · refine ⟨HO.out.trans HO1.out, .inl ⟨fun x hx => ?_, .slice A k c, xs, rfl, ?_, HXS.out⟩⟩
        · obtain ⟨j, hj⟩ := List.mem_iff_getElem?.1 hx
          have hjl : j < (linesOf (by_ s)).length := (List.getElem?_eq_some_iff.1 hj).1
          rw [← HXS.out, List.length_map, ← HN.out] at hjl
          exact HV.out j x hjl hj
        · have := own_only HOWN.out HO1.out (by simp)
          rw [← HN.out] at this ⊢
          exact this
def logOf : List ByteArray → Int → List Ev6 → List Ev6 × Int × Int
 | [], _, acc => (acc, 0, 0)
 | row :: rest, i, acc => if stepE acc row = 0 then logOf rest (i + 1) (stepL acc i row) else ([], i, stepE acc row)
def rowsOf (s : ByteArray) : List ByteArray := (linesOf (by_ s)).map fun l => ⟨l.toArray⟩
def logParse (s : ByteArray) : List Ev6 × Int × Int :=
 if 65536 < s.size then ([], 0, 6) else
  match (linesOf (by_ s)).findIdx? (fun x => !validD x) with
  | some i => ([], (i : Int) + 1, 5)
  | none => logOf (rowsOf s) 1 []
theorem stepL_len (l : List Ev6) (num : Int) (row : ByteArray) (h : l.length ≤ 1000) : (stepL l num row).length ≤ 1000 := by
 unfold stepL
 split
 ·rename_i hc
  rw [List.length_append];have := hc.2;simp;omega
 ·exact h
theorem rows_eq {s : ByteArray} {xs : List ByteArray} (h : xs.map by_ = linesOf (by_ s)) : rowsOf s = xs := by
 unfold rowsOf;rw [← h, List.map_map];have : ((fun l => (⟨l.toArray⟩ : ByteArray)) ∘ by_) = id := by
  funext x
  exact by_inj (by show (by_ x).toArray.toList = by_ x; simp)
 rw [this, List.map_id]
theorem own_lowerP {w : World} {base base' : Nat} {e : TypeId} {size : Nat} {v : Value} {n : Nat} {xs : List Value} (h : w.ownsRow base e size v n xs) (hb : base' ≤ base) : w.ownsRow base' e size v n xs := by
 obtain ⟨hl, hv⟩ := h;refine ⟨hl, ?_⟩;rcases hv with hv | ⟨g, cap, cur, rfl, hg, rest⟩
 ·exact .inl hv
 ·exact .inr ⟨g, cap, cur, rfl, Nat.le_trans hb hg, rest⟩
theorem row_nil (w : World) (base : Nat) : w.ownsRow base 104 6 (.slice none 0 0) 0 (logC []) := ⟨rfl, .inl ⟨rfl, rfl⟩⟩
theorem logparse_any (s : ByteArray) (w : World) (hs : s.size ≤ 65536) (hrow : ∀ x ∈ linesOf (by_ s), x.length ≤ 65535) (hT : UTabs w) (hM : MLen w) (hV : Verbs w) :
  Calls Tryz.prog 49 #[.string s] w fun e w' => Only [] w w' ∧ ∃ V, e = .returned (.tuple #[V, .int .i64 (logParse s).2.1, .int .i64 (logParse s).2.2]) ∧ w'.ownsRow w.heap.size 104 6 V (logParse s).1.length (logC (logParse s).1) := by
 obtain ⟨i0, hi, hz0, hz1, hz2⟩ := info_parts info_event;have HOF := Hd (of_any s w hs hT);have HWR := Hd (fun num row Bl V (l : List Ev6) w' (h : row.size ≤ 65535) (hO : Only [] w w') (hB : Blk w' Bl 77 #[V]) (hown : w'.ownsRow Bl 104 6 V l.length (logC l)) (hl : l.length ≤ 1000) =>
  wrong_any num row Bl Bl V l w' h (hT.only hO) (hM.only hO) (hV.only hO) hB hown (Nat.le_of_lt hB.lt) hl)
 have hmf : ∀ (fn : Fn) (first cap : Array Value) (w : World), (Instr.makeFunc fn first cap).run Tryz.prog w = .ok (.func fn first cap) w := fun _ _ _ _ => rfl;obtain ⟨r, hr⟩ : ∃ r, r = logParse s := ⟨_, rfl⟩;rw [← hr];have HR := Hd hr;have HROWS := Hd hrow;have hln := cutL_len (by_ s) [];rw [by_length] at hln;clear hr hT hM hV hrow;go_enter Tryz.func49, Tryz.ntmps49;go_wp2_with fail
 refine (HOF.out).mono ?_;rintro e w1 ⟨O1, ⟨hval, V0, xs, rfl, hown0, hxs⟩ | ⟨i, x, hx, hbad, hfirst, rfl⟩⟩
 ·have hidx : (linesOf (by_ s)).findIdx? (fun x => !validD x) = none := by
   rw [List.findIdx?_eq_none_iff];intro x hx;rw [hval x hx]
   rfl
  have hr : r = logOf xs 1 [] := by
   rw [HR.out];unfold logParse;rw [if_neg (by omega), hidx, rows_eq hxs]
  have HXS : Hid (∀ x ∈ xs, x.size ≤ 65535) := Hd (fun x hx => by
   have := HROWS.out (by_ x) (by rw [← hxs]; exact List.mem_map_of_mem hx)
   rwa [by_length] at this)
  have hnl : xs.length ≤ 65537 := by
   have := congrArg List.length hxs;rw [List.length_map] at this;unfold linesOf at this;omega
  obtain ⟨A0, c0, rfl, -, -, -, hrow0⟩ := own_row hown0;generalize hn : xs.length = n at *;have HN := Hd hn;have HRR := Hd hr;have HO1 := Hd O1;have HROW := Hd hrow0;have HB1 := Hd (Blk.made w1 77 #[.slice none 0 0]);have hsz1 := O1.size;clear hval hown0 hxs hidx HR HROWS hn hr O1 hrow0 hln;generalize hbl : w1.heap.size = Bl at *;go_wp2_with fail
  go_loopw [26] (fun iv wr => ∃ (k : Nat) (V : Value) (acc : List Ev6), iv = .int .i64 k ∧ k ≤ n ∧ acc.length ≤ 1000 ∧ Hid (r = logOf (xs.drop k) ((k : Int) + 1) acc) ∧ Hid (Blk wr Bl 77 #[V]) ∧ Hid (wr.ownsRow Bl 104 6 V acc.length (logC acc)) ∧ Hid (Only [] w wr) ∧ Hid (Only [Bl] w1 wr)) (fun iv _ => n - (intOf iv).toNat)
  case atStart => exact ⟨0, .slice none 0 0, [], rfl, by omega, by simp, HRR, HB1, Hd (row_nil _ _), Hd (HO1.out.alloc _), Hd ((Only.refl _ w1).alloc _)⟩
  case round =>
   obtain ⟨k, V, acc, rfl, hk, hacc, hR, hB, hown, hO, hOB⟩ := hrel
   by_cases hlt : k < n
   ·have h01 : (k : Int) < (n : Int) := by omega
    have hk0 : (0 : Int) ≤ (k : Int) := Int.natCast_nonneg _;have hwk : IntKind.i64.wrap ((k : Int) + 1) = (k : Int) + 1 := IntWalk.i64_in _ (by omega);obtain ⟨b, off, rfl, hbB, hbw, hcell⟩ := HROW.out.open_ (k := k) (by rw [strs, List.length_map, HN.out]; exact hlt);obtain ⟨x, hx⟩ : ∃ x, xs[k]? = some x := ⟨_, List.getElem?_eq_getElem (by rw [HN.out]; exact hlt)⟩;have hck : wr.cell? ⟨b, off + k, none⟩ = some (.string x) := (hOB.out.cell (p := ⟨b, off + k, none⟩) hbw (by simp only [List.mem_singleton]; omega)).trans (hcell k _ (by rw [strs, List.getElem?_map, hx]; rfl));have HW := Hd (HWR.out ((k : Int) + 1) x Bl V acc wr (HXS.out x (List.mem_of_getElem? hx)) hO.out hB.out hown.out hacc);have hstep : logOf (xs.drop k) ((k : Int) + 1) acc = if stepE acc x = 0 then logOf (xs.drop (k + 1)) (((k + 1 : Nat) : Int) + 1) (stepL acc ((k : Int) + 1) x) else ([], (k : Int) + 1, stepE acc x) := by
     obtain ⟨h1, h2⟩ := List.getElem?_eq_some_iff.1 hx;rw [List.drop_eq_getElem_cons h1, h2]
     rfl
    have hlen := stepL_len acc ((k : Int) + 1) x hacc;have HST := Hd (hR.out.trans hstep);generalize stepL acc ((k : Int) + 1) x = acc2 at *;generalize stepE acc x = E at *;clear hcell hx hstep;go_wp2_with fail
    refine (HW.out).mono ?_;rintro e w2 ⟨rfl, V2, hB2, hown2, hO2⟩;have HB2 := Hd hB2;have HOWN2 := Hd hown2;have hO3 : Only [] w w2 := hO.out.step hO2 (fun i hi hl => by
     rcases List.mem_cons.1 hi with rfl | h
     ·omega
     ·exact own_new hown.out i h (by omega))
    have hO4 : Only [Bl] w1 w2 := hOB.out.step hO2 (fun i hi hl => by
     rcases List.mem_cons.1 hi with rfl | h
     ·simp
     ·exact own_new hown.out i h (by omega))
    have HO3 := Hd hO3;have HO4 := Hd hO4;clear hB2 hown2 hO2 hO3 hO4 HW
    by_cases hE : E = 0
    ·subst hE;have HR2 : Hid (r = logOf (xs.drop (k + 1)) (((k + 1 : Nat) : Int) + 1) acc2) := Hd (by rw [HST.out, if_pos rfl]);go_wp2
     go_roundw
     case rel => exact ⟨k + 1, V2, acc2, by go_num, by omega, hlen, HR2, HB2, HOWN2, HO3, HO4⟩
     case measure => simp [intOf]; omega
    ·have hE' : (E != 0) = true := by simpa using hE
     obtain rfl : r = ([], (k : Int) + 1, E) := by rw [HST.out, if_neg hE]
     clear HST hE;go_wp2
     go_ret3
     exact ⟨HO3.out, _, rfl, row_nil _ _⟩
   ·have hkn : k = n := by omega
    subst hkn;have hd : decide ((k : Int) < (k : Int)) = false := by simp
    obtain rfl : r = (acc, 0, 0) := by rw [hR.out, List.drop_of_length_le (by rw [HN.out]; exact Nat.le_refl _)]; rfl
    have lB := hB.out.lt;have cB := hB.out.at_ 0;simp at cB;go_wp2
    go_ret3
    exact ⟨hO.out, V, rfl, own_lowerP hown.out hsz1⟩
 ·have hidx : (linesOf (by_ s)).findIdx? (fun x => !validD x) = some i := by
   rw [List.findIdx?_eq_some_iff_getElem];obtain ⟨h1, h2⟩ := List.getElem?_eq_some_iff.1 hx;refine ⟨h1, by rw [h2, hbad]; rfl, fun j hj => ?_⟩;have := hfirst j _ hj (List.getElem?_eq_getElem (by omega));rw [this];simp
  obtain rfl : r = ([], (i : Int) + 1, 5) := by
   rw [HR.out];unfold logParse;rw [if_neg (by omega), hidx]
  have HO1 := Hd O1;clear hx hbad hfirst hidx HR O1 HROWS;go_wp2
  go_ret3
  exact ⟨HO1.out, _, rfl, row_nil _ _⟩
end Go.Proofs.YthdofaoamljkfaaGreatDoor
namespace Go.Proofs.YthdofaoamljkfaaGreatDoor
open Go.RowKit
open Go.Lib hiding intOf
structure Pt where
 s : ByteArray
 f : Int
 ln : Int
 ks : List ByteArray
 ops : List Op4
structure Mk where
 ps : List Pt
 ss : List ByteArray
 ks : List ByteArray
def openI (ps : List Pt) (s : ByteArray) : Option Nat := ps.findIdx? fun p => decide (p.s = s) && decide (p.f = 0)
def withB (t : List ByteArray) (s : ByteArray) : List ByteArray := if 0 ≤ posB t s then t else sortB (t ++ [s])
def fateE (k : Int) : Int := if k = 4 then 1 else if k = 5 then 2 else 3
def beginE (m : Mk) (a : Ev6) : Int := if (withB m.ss a.s).length > 20 ∨ m.ps.length = 40 then 7 else 0
def beginM (m : Mk) (a : Ev6) : Mk := if (withB m.ss a.s).length > 20 ∨ m.ps.length = 40 then m else ⟨m.ps ++ [⟨a.s, 0, a.ln, [], []⟩], withB m.ss a.s, m.ks⟩
def addP (p : Pt) (a : Ev6) : Pt := { p with ks := p.ks ++ [a.y], ops := p.ops ++ [⟨decide (a.k = 3), 0, a.vk, a.vn⟩] }
def addE (m : Mk) (p : Pt) (a : Ev6) : Int := if p.ops.length = 20 ∨ (withB m.ks a.y).length > 40 then 7 else 0
def addM (m : Mk) (i : Nat) (p : Pt) (a : Ev6) : Mk := if p.ops.length = 20 ∨ (withB m.ks a.y).length > 40 then m else ⟨m.ps.set i (addP p a), m.ss, withB m.ks a.y⟩
def takeE (m : Mk) (a : Ev6) : Int :=
 if evOk a.k a.s a.y a.vk a.vn = false then 4 else
 match openI m.ps a.s with
 | some i => if a.k = 1 then 9 else if a.k = 2 ∨ a.k = 3 then (match m.ps[i]? with | some p => addE m p a | none => 0) else 0
 | none => if a.k = 1 then beginE m a else 10
def takeM (m : Mk) (a : Ev6) : Mk :=
 if evOk a.k a.s a.y a.vk a.vn = false then m else
 match openI m.ps a.s with
 | some i => if a.k = 1 then m else (match m.ps[i]? with | some p => if a.k = 2 ∨ a.k = 3 then addM m i p a else ⟨m.ps.set i { p with f := fateE a.k }, m.ss, m.ks⟩ | none => m)
 | none => if a.k = 1 then beginM m a else m
structure PtA where
 p : Pt
 A : Option Addr
 c : Nat
 Z : Option Addr
 d : Nat
def PtA.c5 (x : PtA) : List Value := [.string x.p.s, .int .i64 x.p.f, .int .i64 x.p.ln, .slice x.A x.p.ks.length x.c, .slice x.Z x.p.ops.length x.d]
def ptC (l : List PtA) : List Value := l.flatMap PtA.c5
theorem ptC_len (l : List PtA) : (ptC l).length = l.length * 5 := flat_len _ 5 (fun _ => rfl) l
theorem ptC_get (l : List PtA) (i : Nat) (x : PtA) (h : l[i]? = some x) : ∀ j, j < 5 → (ptC l)[i * 5 + j]? = x.c5[j]? := flat_get _ 5 (fun _ => rfl) l i x h
theorem ptC_append (l k : List PtA) : ptC (l ++ k) = ptC l ++ ptC k := by simp [ptC]
theorem flat_set {α : Type} (f : α → List Value) (n : Nat) (h : ∀ x, (f x).length = n) : ∀ (l : List α) (i j : Nat) (x y : α) (u : Value), l[i]? = some x → j < n → f y = (f x).set j u → (l.flatMap f).set (i * n + j) u = (l.set i y).flatMap f
 | [], i, j, x, y, u, hx, _, _ => by simp at hx
 | z :: l, 0, j, x, y, u, hx, hj, hy => by
  simp at hx;subst hx;rw [List.set_cons_zero, List.flatMap_cons, List.flatMap_cons, hy, Nat.zero_mul, Nat.zero_add, List.set_append_left _ _ (by rw [h]; exact hj)]
 | z :: l, i + 1, j, x, y, u, hx, hj, hy => by
  have := flat_set f n h l i j x y u (by simpa using hx) hj hy;rw [List.set_cons_succ, List.flatMap_cons, List.flatMap_cons, ← this, List.set_append_right _ _ (by rw [h, Nat.add_mul]; omega)]
  congr 2
  rw [h, Nat.add_mul];omega
theorem ptC_set (l : List PtA) (i j : Nat) (x y : PtA) (u : Value) (hx : l[i]? = some x) (hj : j < 5) (hy : y.c5 = x.c5.set j u) : (ptC l).set (i * 5 + j) u = ptC (l.set i y) := flat_set _ 5 (fun _ => rfl) l i j x y u hx hj hy
end Go.Proofs.YthdofaoamljkfaaGreatDoor
