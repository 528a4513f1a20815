/- Parts. -/
import Derived.Test.YtgimobilcdkmpaaDoorBitsPlaysCardK26
import Derived.Test.YtgimobilcdkmpaaDoorBitsPlaysCardK8
set_option maxRecDepth 10000
set_option maxHeartbeats 16000000
set_option linter.unusedVariables false
set_option linter.unusedSimpArgs false
namespace Go.Proofs.YtgimobilcdkmpaaDoor
theorem byV_div {b : Nat} (bs : List Nat) (h : b < 256) : byV (b :: bs) / 256 = byV bs := by
 show (b + 256 * byV bs) / 256 = _
 omega
theorem byV_mod {b : Nat} (bs : List Nat) (h : b < 128) : byV (b :: bs) % 128 = b := by
 show (b + 256 * byV bs) % 128 = _
 omega
theorem byV_lt : ∀ (bs : List Nat), (∀ b ∈ bs, b < 256) → byV bs < 256 ^ bs.length
 | [], _ => by decide
 | b :: bs, h => by
  have h1 := h b List.mem_cons_self;have h2 := byV_lt bs fun x hx => h x (List.mem_cons_of_mem _ hx)
  show b + 256 * byV bs < 256 ^ (bs.length + 1)
  rw [Nat.pow_succ];omega
theorem byV8 (a b c d e f g h : Nat) : byV [a, b, c, d, e, f, g, h] = a + 256 * (b + 256 * (c + 256 * (d + 256 * (e + 256 * (f + 256 * (g + 256 * h)))))) := rfl
theorem fold_bytes {b0 b1 b2 b3 b4 b5 b6 b7 : Nat} (h0 : b0 ≤ 8) (h1 : b1 ≤ 8) (h2 : b2 ≤ 8) (h3 : b3 ≤ 8) (h4 : b4 ≤ 8) (h5 : b5 ≤ 8) (h6 : b6 ≤ 8) (h7 : b7 ≤ 8) :
  let V := byV [b0, b1, b2, b3, b4, b5, b6, b7]
  let V1 := V + V / 256
  let V2 := V1 + V1 / 65536
  let V3 := V2 + V2 / 4294967296
  V < 18446744073709551616 ∧ V1 < 18446744073709551616 ∧ V2 < 18446744073709551616 ∧ V3 < 9223372036854775808 ∧ V3 % 128 = b0 + b1 + b2 + b3 + b4 + b5 + b6 + b7 := by
 intro V V1 V2 V3;have lt8 : ∀ a b c d e f g h : Nat, a < 256 → b < 256 → c < 256 → d < 256 → e < 256 → f < 256 → g < 256 → h < 256 → byV [a, b, c, d, e, f, g, h] < 18446744073709551616 := fun a b c d e f g h ha hb hc hd he hf hg hh => by
  have h2 : byV [a, b, c, d, e, f, g, h] < 256 ^ 8 := byV_lt [a, b, c, d, e, f, g, h] (by simp; omega);have e : (256 : Nat) ^ 8 = 18446744073709551616 := by decide
  rwa [e] at h2
 have e1 : V / 256 = byV [b1, b2, b3, b4, b5, b6, b7] := byV_div _ (by omega);have E1 : V1 = byV [b0 + b1, b1 + b2, b2 + b3, b3 + b4, b4 + b5, b5 + b6, b6 + b7, b7] := by
  show V + V / 256 = _
  rw [e1]
  show byV [b0, b1, b2, b3, b4, b5, b6, b7] + byV [b1, b2, b3, b4, b5, b6, b7] = _
  simp only [byV];omega
 have e2 : V1 / 65536 = byV [b2 + b3, b3 + b4, b4 + b5, b5 + b6, b6 + b7, b7] := by
  rw [E1, show (65536 : Nat) = 256 * 256 from rfl, ← Nat.div_div_eq_div_mul, byV_div _ (by omega), byV_div _ (by omega)]
 have E2 : V2 = byV [b0 + b1 + (b2 + b3), b1 + b2 + (b3 + b4), b2 + b3 + (b4 + b5), b3 + b4 + (b5 + b6), b4 + b5 + (b6 + b7), b5 + b6 + b7, b6 + b7, b7] := by
  show V1 + V1 / 65536 = _
  rw [e2, E1];simp only [byV];omega
 have e3 : V2 / 4294967296 = byV [b4 + b5 + (b6 + b7), b5 + b6 + b7, b6 + b7, b7] := by
  rw [E2, show (4294967296 : Nat) = 256 * (256 * (256 * 256)) from rfl, ← Nat.div_div_eq_div_mul, ← Nat.div_div_eq_div_mul, ← Nat.div_div_eq_div_mul, byV_div _ (by omega), byV_div _ (by omega), byV_div _ (by omega), byV_div _ (by omega)]
 have E3 : V3 = byV [b0 + b1 + (b2 + b3) + (b4 + b5 + (b6 + b7)), b1 + b2 + (b3 + b4) + (b5 + b6 + b7), b2 + b3 + (b4 + b5) + (b6 + b7), b3 + b4 + (b5 + b6) + b7, b4 + b5 + (b6 + b7), b5 + b6 + b7, b6 + b7, b7] := by
  show V2 + V2 / 4294967296 = _
  rw [e3, E2];simp only [byV];omega
 refine ⟨lt8 _ _ _ _ _ _ _ _ (by omega) (by omega) (by omega) (by omega) (by omega) (by omega) (by omega) (by omega), ?_, ?_, ?_, ?_⟩
 ·rw [E1]; exact lt8 _ _ _ _ _ _ _ _ (by omega) (by omega) (by omega) (by omega) (by omega) (by omega) (by omega) (by omega)
 ·rw [E2]; exact lt8 _ _ _ _ _ _ _ _ (by omega) (by omega) (by omega) (by omega) (by omega) (by omega) (by omega) (by omega)
 ·rw [E3, byV8]; omega
 ·rw [E3, byV_mod _ (by omega)]; omega
theorem byV_bytes : ∀ (n x : Nat), x < 256 ^ n → ∃ bs : List Nat, bs.length = n ∧ (∀ b ∈ bs, b < 256) ∧ x = byV bs
 | 0, x, h => ⟨[], rfl, (fun b hb => by cases hb), by have : x < 1 := h; show x = 0; omega⟩
 | n + 1, x, h => by
  obtain ⟨bs, h1, h2, h3⟩ := byV_bytes n (x / 256) (by rw [Nat.pow_succ] at h; omega);refine ⟨x % 256 :: bs, by simp [h1], fun b hb => ?_, ?_⟩
  ·rcases List.mem_cons.1 hb with h4 | h4
   ·rw [h4]; exact Nat.mod_lt _ (by decide)
   ·exact h2 b h4
  ·show x = x % 256 + 256 * byV bs
   rw [← h3];omega
def cntB (k x : Nat) : Nat := ((List.range k).filter fun i => x.testBit i).length
theorem cnt_split (b y k : Nat) (hb : b < 256) : cntB (8 + k) (b + 256 * y) = popB b + cntB k y := by
 have ht : ∀ i, (b + 256 * y).testBit i = if i < 8 then b.testBit i else y.testBit (i - 8) := fun i => by
  rw [Nat.add_comm, show (256 : Nat) = 2 ^ 8 from rfl, Nat.testBit_two_pow_mul_add y hb]
 unfold cntB popB;rw [List.range_add, List.filter_append, List.length_append, List.filter_map, List.length_map]
 congr 1
 ·congr 1
  refine List.filter_congr fun i hi => ?_;rw [ht, if_pos (List.mem_range.1 hi)]
 ·congr 1
  refine List.filter_congr fun i hi => ?_
  show (b + 256 * y).testBit (8 + i) = _
  rw [ht, if_neg (by omega), show 8 + i - 8 = i by omega]
theorem cnt_bytes : ∀ bs : List Nat, (∀ b ∈ bs, b < 256) → cntB (8 * bs.length) (byV bs) = (bs.map popB).sum
 | [], _ => rfl
 | b :: bs, h => by
  have := cnt_split b (byV bs) (8 * bs.length) (h b List.mem_cons_self);rw [cnt_bytes bs fun x hx => h x (List.mem_cons_of_mem _ hx)] at this;rw [List.length_cons, show 8 * (bs.length + 1) = 8 + 8 * bs.length by omega, List.map_cons, List.sum_cons];exact this
theorem bits_cnt (x : Nat) : (bitsOf x).length = cntB 64 x := by
 unfold bitsOf cntB;rw [← List.range_eq_range']
def oc1 (x : Nat) : Nat := ((x / 2) &&& 6148914691236517205) + (x &&& 6148914691236517205)
def oc2 (x : Nat) : Nat := ((x / 4) &&& 3689348814741910323) + (x &&& 3689348814741910323)
def oc3 (x : Nat) : Nat := (x / 16 + x) &&& 1085102592571150095
theorem eight8 : ∀ {bs : List Nat}, bs.length = 8 → ∃ b0 b1 b2 b3 b4 b5 b6 b7, bs = [b0, b1, b2, b3, b4, b5, b6, b7]
 | [b0, b1, b2, b3, b4, b5, b6, b7], _ => ⟨_, _, _, _, _, _, _, _, rfl⟩
theorem ones_all (x : Nat) (h : x < 18446744073709551616) : oc1 x < 18446744073709551616 ∧ oc2 (oc1 x) < 18446744073709551616 ∧ oc2 (oc1 x) / 16 + oc2 (oc1 x) < 18446744073709551616 ∧
    (let V := oc3 (oc2 (oc1 x)); let V1 := V + V / 256; let V2 := V1 + V1 / 65536; let V3 := V2 + V2 / 4294967296
     V < 18446744073709551616 ∧ V1 < 18446744073709551616 ∧ V2 < 18446744073709551616 ∧ V3 < 9223372036854775808 ∧ V3 % 128 = (bitsOf x).length) := by
  have e256 : (256 : Nat) ^ 8 = 18446744073709551616 := by decide
  obtain ⟨bs, hl, hb, rfl⟩ := byV_bytes 8 x (by rw [e256]; exact h)
  have hp : ∀ b ∈ bs, st1 b < 256 ∧ st2 (st1 b) < 256 ∧ (st2 (st1 b) % 16 ≤ 4 ∧ st2 (st1 b) / 16 ≤ 4) ∧ st3 (st2 (st1 b)) = popB b ∧ popB b ≤ 8 := fun b hm => pop_all ⟨b, hb b hm⟩
  have e1 : oc1 (byV bs) = byV (bs.map st1) := by
    rw [← step1 bs hb, hl]
    rfl
  have e2 : oc2 (byV (bs.map st1)) = byV ((bs.map st1).map st2) := by
    rw [← step2 (bs.map st1) (fun y hy => by obtain ⟨b, hm, rfl⟩ := List.mem_map.1 hy; exact (hp b hm).1), List.length_map, hl]
    rfl
  have hn : ∀ y ∈ (bs.map st1).map st2, Nib y := fun y hy => by
    obtain ⟨z, hz, rfl⟩ := List.mem_map.1 hy
    obtain ⟨b, hm, rfl⟩ := List.mem_map.1 hz
    exact (hp b hm).2.2.1
  have e3 : oc3 (byV ((bs.map st1).map st2)) = byV (((bs.map st1).map st2).map st3) := by
    rw [← (step3 _ hn).1, List.length_map, List.length_map, hl]
    rfl
  have e4 : ((bs.map st1).map st2).map st3 = bs.map popB := by
    rw [List.map_map, List.map_map]
    exact List.map_congr_left fun b hm => (hp b hm).2.2.2.1
  have l1 : byV (bs.map st1) < 18446744073709551616 := by
    have := byV_lt (bs.map st1) (fun y hy => by obtain ⟨b, hm, rfl⟩ := List.mem_map.1 hy; exact (hp b hm).1)
    rw [List.length_map, hl] at this
    have e : (256 : Nat) ^ 8 = 18446744073709551616 := by decide
    rwa [e] at this
  have l2 : byV ((bs.map st1).map st2) < 18446744073709551616 / 2 := by
    have h68 : ∀ y ∈ (bs.map st1).map st2, y < 69 := fun y hy => by
      have := hn y hy
      unfold Nib at this
      omega
    have gen : ∀ l : List Nat, (∀ y ∈ l, y < 69) → 2 * byV l < 256 ^ l.length := by
      intro l
      induction l with
      | nil => intro _; decide
      | cons y l ih =>
        intro hy
        have h1 := hy y List.mem_cons_self
        have h2 := ih fun z hz => hy z (List.mem_cons_of_mem _ hz)
        show 2 * (y + 256 * byV l) < 256 ^ (l.length + 1)
        rw [Nat.pow_succ]
        omega
    have := gen _ h68
    rw [List.length_map, List.length_map, hl] at this
    have e : (256 : Nat) ^ 8 = 18446744073709551616 := by decide
    rw [e] at this
    omega
  rw [e1, e2, e3, e4]
  refine ⟨l1, by omega, by omega, ?_⟩
  have hcnt : (bitsOf (byV bs)).length = (bs.map popB).sum := by
    rw [bits_cnt, ← cnt_bytes bs hb, hl]
  rw [hcnt]
  obtain ⟨b0, b1, b2, b3, b4, b5, b6, b7, rfl⟩ : ∃ b0 b1 b2 b3 b4 b5 b6 b7, bs = [b0, b1, b2, b3, b4, b5, b6, b7] := by
    exact eight8 hl
  have hq : ∀ b ∈ [b0, b1, b2, b3, b4, b5, b6, b7], popB b ≤ 8 := fun b hm => (hp b hm).2.2.2.2
  have := fold_bytes (hq b0 (by simp)) (hq b1 (by simp)) (hq b2 (by simp)) (hq b3 (by simp)) (hq b4 (by simp)) (hq b5 (by simp)) (hq b6 (by simp)) (hq b7 (by simp))
  obtain ⟨f1, f2, f3, f4, f5⟩ := this
  have hs : (List.map popB [b0, b1, b2, b3, b4, b5, b6, b7]).sum = popB b0 + popB b1 + popB b2 + popB b3 + popB b4 + popB b5 + popB b6 + popB b7 := by
    simp only [List.map_cons, List.map_nil, List.sum_cons, List.sum_nil]
    omega
  exact ⟨f1, f2, f3, f4, f5.trans hs.symm⟩
end Go.Proofs.YtgimobilcdkmpaaDoor
