/- Parts. -/
import Derived.Test.YtlnlppabeddclaaDoorLaw23AllK26
set_option maxRecDepth 10000
set_option maxHeartbeats 16000000
set_option linter.unusedVariables false
set_option linter.unusedSimpArgs false
namespace Go.Proofs.YtlnlppabeddclaaDoor
theorem allTo_filter (ws : List Nat) (k : Nat) : allTo ws k = ((List.range (64 * k)).filter (bitW ws)).map fun m : Nat => (m : Int) := by
 induction k with
 | zero => rfl
 | succ k ih =>
  rw [allTo_succ, ih, show 64 * (k + 1) = 64 * k + 64 from by omega, List.range_add, List.filter_append, List.map_append]
  congr 1
  rw [List.filter_map, List.map_map];have hb : bitsOf (ws.getD k 0) = (List.range 64).filter (bitW ws ∘ fun x => 64 * k + x) := by
   unfold bitsOf;rw [← List.range_eq_range'];refine List.filter_congr fun x hx => ?_;have hx' : x < 64 := by simpa using hx
   simp only [Function.comp, bitW];rw [show (64 * k + x) / 64 = k by omega, show (64 * k + x) % 64 = x by omega]
  rw [hb];refine List.map_congr_left fun x _ => ?_;simp only [Function.comp]
  congr 1
  omega
theorem allW_filter (ws : List Nat) : allW ws = ((List.range 512).filter (bitW ws)).map fun m : Nat => (m : Int) := allTo_filter ws 8
theorem range_filter (n : Nat) (hn : n ≤ 512) (P : Nat → Bool) (h : ∀ m, n ≤ m → P m = false) : (List.range 512).filter P = (List.range n).filter P := by
 have : List.range 512 = List.range n ++ (List.range (512 - n)).map (n + ·) := by
  rw [← List.range_add]
  congr 1
  omega
 rw [this, List.filter_append];have h2 : ((List.range (512 - n)).map (n + ·)).filter P = [] := by
  rw [List.filter_eq_nil_iff];intro x hx;obtain ⟨y, _, rfl⟩ := List.mem_map.1 hx;rw [h _ (by omega)];simp
 rw [h2, List.append_nil]
structure RelG (n : Nat) (O I : List (List Nat)) (h : List (Int × Int)) : Prop where
 fo : FitsO n O
 fi : FitsO n I
 wf : ∀ e ∈ h, ∃ a b : Nat, e = ((a : Int), (b : Int)) ∧ a < n ∧ b < n
 nd : h.Nodup
 out : ∀ a m, a < n → m < 512 → bitW (O.getD a []) m = decide (((a : Int), (m : Int)) ∈ h)
 inn : ∀ b m, b < n → m < 512 → bitW (I.getD b []) m = decide (((m : Int), (b : Int)) ∈ h)
theorem bit_no (m : Nat) (hm : m < 512) : bitW noW m = false := by
 have : ∀ k, noW.getD k 0 = 0 := fun k => by
  match k with
  | 0 | 1 | 2 | 3 | 4 | 5 | 6 | 7 => rfl
  | k + 8 => rfl
 unfold bitW;rw [this];simp
theorem rel_new (n : Nat) : RelG n (List.replicate n noW) (List.replicate n noW) [] := by
 have hg : ∀ i, i < n → (List.replicate n noW).getD i [] = noW := fun i hi => by simp [List.getD_eq_getElem?_getD, List.getElem?_replicate, hi]
 have hf : FitsO n (List.replicate n noW) := ⟨by simp, fun a ha => by
  rw [hg a ha];refine ⟨rfl, fun k => ?_⟩;have : noW.getD k 0 = 0 := by
   match k with
   | 0 | 1 | 2 | 3 | 4 | 5 | 6 | 7 => rfl
   | k + 8 => rfl
  rw [this];omega⟩
 exact ⟨hf, hf, fun e he => (by cases he), List.nodup_nil, fun a m ha hm => (by rw [hg a ha, bit_no m hm]; rfl), fun a m ha hm => (by rw [hg a ha, bit_no m hm]; rfl)⟩
theorem rel_out {n : Nat} {O I : List (List Nat)} {h : List (Int × Int)} (r : RelG n O I h) (a b : Int) (hn : (ndN n a && ndN n b) = false) : (a, b) ∉ h := fun hm => by
 obtain ⟨x, y, e, hx, hy⟩ := r.wf _ hm;injection e with e1 e2;subst e1;subst e2;have h1 : ndN n (x : Int) = true := by simp [ndN]; omega
 have h2 : ndN n (y : Int) = true := by simp [ndN]; omega
 rw [h1, h2] at hn
 cases hn
theorem rel_pB {n : Nat} {O I : List (List Nat)} {h : List (Int × Int)} (r : RelG n O I h) (hn : n ≤ 500) (a b : Int) : pB n O a b = rB n h a b := by
 unfold pB rB
 cases hA : ndN n a with
 | false => rfl
 | true =>
  cases hB : ndN n b with
  | false => rfl
  | true =>
   have ha' : 0 ≤ a ∧ a < n := by simpa [ndN] using hA
   have hb' : 0 ≤ b ∧ b < n := by simpa [ndN] using hB
   obtain ⟨k, rfl⟩ := Int.eq_ofNat_of_zero_le ha'.1;obtain ⟨l, rfl⟩ := Int.eq_ofNat_of_zero_le hb'.1;rw [Int.toNat_natCast, hasW_bit _ _ (by omega), r.out k l (by omega) (by omega)]
theorem rel_has {n : Nat} {O I : List (List Nat)} {h : List (Int × Int)} (r : RelG n O I h) (hn : n ≤ 500) (a b : Int) : ghN n O a b = decide ((a, b) ∈ h) := by
 unfold ghN
 cases hab : (ndN n a && ndN n b) with
 | false => rw [decide_eq_false (rel_out r a b hab)]; rfl
 | true =>
  have hA : ndN n a = true := by simp only [Bool.and_eq_true] at hab; exact hab.1
  have hB : ndN n b = true := by simp only [Bool.and_eq_true] at hab; exact hab.2
  have ha' : 0 ≤ a ∧ a < n := by simpa [ndN] using hA
  have hb' : 0 ≤ b ∧ b < n := by simpa [ndN] using hB
  obtain ⟨k, rfl⟩ := Int.eq_ofNat_of_zero_le ha'.1;obtain ⟨l, rfl⟩ := Int.eq_ofNat_of_zero_le hb'.1;rw [Int.toNat_natCast, hasW_bit _ _ (by omega), r.out k l (by omega) (by omega), Bool.true_and]
theorem rel_next {n : Nat} {O I : List (List Nat)} {h : List (Int × Int)} (r : RelG n O I h) (hn : n ≤ 500) (k : Nat) (hk : k < n) : allW (O.getD k []) = nextL n h (k : Int) := by
 have e1 : (List.range 512).filter (bitW (O.getD k [])) = (List.range 512).filter (fun b : Nat => decide (((k : Int), (b : Int)) ∈ h)) := List.filter_congr fun m hm => r.out k m hk (List.mem_range.1 hm);have e2 := range_filter n (by omega) (fun b : Nat => decide (((k : Int), (b : Int)) ∈ h)) (fun m hm => decide_eq_false (rel_out r _ _ (by simp [ndN]; omega)));rw [allW_filter, e1, e2]
 rfl
theorem rel_back {n : Nat} {O I : List (List Nat)} {h : List (Int × Int)} (r : RelG n O I h) (hn : n ≤ 500) (k : Nat) (hk : k < n) : allW (I.getD k []) = backL n h (k : Int) := by
 have e1 : (List.range 512).filter (bitW (I.getD k [])) = (List.range 512).filter (fun a : Nat => decide (((a : Int), (k : Int)) ∈ h)) := List.filter_congr fun m hm => r.inn k m hk (List.mem_range.1 hm);have e2 := range_filter n (by omega) (fun a : Nat => decide (((a : Int), (k : Int)) ∈ h)) (fun m hm => decide_eq_false (rel_out r _ _ (by simp [ndN]; omega)));rw [allW_filter, e1, e2]
 rfl
theorem rel_put {n : Nat} {O I : List (List Nat)} {h : List (Int × Int)} (r : RelG n O I h) (hn : n ≤ 500) (x y : Int) : RelG n (pO n O x y) (pI n O I x y) (rH n h (x, y)) ∧ pH n O h x y = rH n h (x, y) := by
 have hp := rel_pB r hn x y;unfold pO pI pH rH;rw [hp]
 cases hb : rB n h x y with
 | false => simp only [if_false, Bool.false_eq_true]; exact ⟨r, trivial⟩
 | true =>
  simp only [if_true];refine ⟨?_, trivial⟩;unfold rB at hb;simp only [Bool.and_eq_true, Bool.not_eq_true', decide_eq_false_iff_not] at hb;obtain ⟨⟨hA, hB⟩, hni⟩ := hb;have ha' : 0 ≤ x ∧ x < n := by simpa [ndN] using hA
  have hb' : 0 ≤ y ∧ y < n := by simpa [ndN] using hB
  obtain ⟨a, rfl⟩ := Int.eq_ofNat_of_zero_le ha'.1;obtain ⟨b, rfl⟩ := Int.eq_ofNat_of_zero_le hb'.1;have ha : a < n := by omega
  have hb : b < n := by omega
  simp only [Int.toNat_natCast];refine ⟨⟨by rw [List.length_set]; exact r.fo.1, fun i hi => ?_⟩, ⟨by rw [List.length_set]; exact r.fi.1, fun i hi => ?_⟩, fun e he => ?_, ?_, fun i m hi hm => ?_, fun i m hi hm => ?_⟩
  ·rw [getD_setL _ _ _ _ (by rw [r.fo.1]; exact ha)]
   split
   ·exact put_fits _ _ (r.fo.2 a ha) (by omega)
   ·exact r.fo.2 i hi
  ·rw [getD_setL _ _ _ _ (by rw [r.fi.1]; exact hb)]
   split
   ·exact put_fits _ _ (r.fi.2 b hb) (by omega)
   ·exact r.fi.2 i hi
  ·rcases List.mem_append.1 he with he | he
   ·exact r.wf e he
   ·simp at he; subst he; exact ⟨a, b, rfl, ha, hb⟩
  ·rw [List.nodup_append];exact ⟨r.nd, by simp, fun u hu v hv => by simp at hv; subst hv; exact fun e => hni (e ▸ hu)⟩
  ·rw [getD_setL _ _ _ _ (by rw [r.fo.1]; exact ha)]
   by_cases hai : a = i
   ·subst hai;rw [if_pos rfl, bit_put _ _ _ (r.fo.2 a ha).1 (by omega), r.out a m ha hm, ← Bool.decide_or, decide_eq_decide];simp only [List.mem_append, List.mem_singleton, Prod.mk.injEq, true_and, Int.natCast_inj];exact or_comm
   ·rw [if_neg hai, r.out i m hi hm, decide_eq_decide];simp only [List.mem_append, List.mem_singleton, Prod.mk.injEq, Int.natCast_inj];exact ⟨Or.inl, fun h => h.elim id fun h => absurd h.1.symm hai⟩
  ·rw [getD_setL _ _ _ _ (by rw [r.fi.1]; exact hb)]
   by_cases hai : b = i
   ·subst hai;rw [if_pos rfl, bit_put _ _ _ (r.fi.2 b hb).1 (by omega), r.inn b m hb hm, ← Bool.decide_or, decide_eq_decide];simp only [List.mem_append, List.mem_singleton, Prod.mk.injEq, and_true, Int.natCast_inj];exact or_comm
   ·rw [if_neg hai, r.inn i m hi hm, decide_eq_decide];simp only [List.mem_append, List.mem_singleton, Prod.mk.injEq, Int.natCast_inj];exact ⟨Or.inl, fun h => h.elim id fun h => absurd h.2.symm hai⟩
theorem rel_of {n : Nat} (hn : n ≤ 500) (l : List (Int × Int)) : RelG n (ofS n l).1 (ofS n l).2.1 (ofS n l).2.2 ∧ (ofS n l).2.2 = l.foldl (rH n) [] := by
 have : ∀ (l : List (Int × Int)) s, RelG n s.1 s.2.1 s.2.2 → RelG n (l.foldl (put3 n) s).1 (l.foldl (put3 n) s).2.1 (l.foldl (put3 n) s).2.2 ∧ (l.foldl (put3 n) s).2.2 = l.foldl (rH n) s.2.2 := by
  intro l
  induction l with
  | nil => intro s hs; exact ⟨hs, rfl⟩
  | cons e l ih =>
   intro s hs;obtain ⟨h1, h2⟩ := rel_put hs hn e.1 e.2;rw [List.foldl_cons, List.foldl_cons];have := ih (put3 n s e) (by simp only [put3]; rw [h2]; exact h1);refine ⟨this.1, this.2.trans ?_⟩;simp only [put3];rw [h2]
 exact this l _ (rel_new n)
end Go.Proofs.YtlnlppabeddclaaDoor
