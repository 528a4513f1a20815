/- Parts. -/
import Derived.Test.YtoojabllolnhnaaDoorLaw22AllK7
import Derived.Maps.OwnSet
import Derived.Maps.RangeWalk
set_option maxRecDepth 10000
set_option maxHeartbeats 16000000
set_option linter.unusedVariables false
set_option linter.unusedSimpArgs false
namespace Go.Proofs.YtoojabllolnhnaaDoor
open Go.RowKit
theorem wrapI_nat {x : Nat} (h : x < 9223372036854775808) : IntKind.i64.wrap (x : Int) = (x : Int) := IntWalk.i64_in _ (by omega)
theorem powI_lt62 {v : Nat} (h : v < 62) : 2 ^ v < 9223372036854775808 := Nat.lt_of_lt_of_le (Nat.pow_lt_pow_right (by decide) h) (by decide)
def powN (v : Nat) : Nat := 2 ^ v
def shrN (M v : Nat) : Nat := M / 2 ^ v
def oddN (x : Nat) : Nat := x % 2
def orN (x y : Nat) : Nat := x ||| y
def andN (x y : Nat) : Nat := x &&& (18446744073709551615 - y)
theorem andN_zero {x y : Nat} (hx : x < 4611686018427387904) (hy : y < 4611686018427387904) : andN x y = 0 ↔ ∀ i, x.testBit i = true → y.testBit i = true := by
 have key : ∀ i, (andN x y).testBit i = (x.testBit i && !y.testBit i) := by
  intro i;unfold andN;rw [Nat.testBit_and];have e : (18446744073709551615 - y).testBit i = (decide (i < 64) && !y.testBit i) := by
   have := Nat.testBit_two_pow_sub_succ (n := 64) (x := y) (by omega) i
   rwa [show 2 ^ 64 - (y + 1) = 18446744073709551615 - y by omega] at this
  rw [e]
  by_cases hi : i < 64
  ·rw [decide_eq_true hi, Bool.true_and]
  ·have : x.testBit i = false := Nat.testBit_lt_two_pow (Nat.lt_of_lt_of_le hx (Nat.le_trans (by decide : 4611686018427387904 ≤ 2 ^ 64) (Nat.pow_le_pow_right (by decide) (by omega))));rw [this]
   rfl
 constructor
 ·intro h i hi;have := key i;rw [h, Nat.zero_testBit, hi] at this
  simpa using this.symm
 ·intro h;refine Nat.eq_of_testBit_eq fun i => ?_;rw [key, Nat.zero_testBit]
  cases hx : x.testBit i
  ·rfl
  ·rw [h i hx]; rfl
theorem run_or (x y : Nat) (hx : x < 4611686018427387904) (hy : y < 4611686018427387904) (w : World) : (binOp .or 3 (.int .i64 (x : Int)) (.int .i64 (y : Int))).run Tryd.prog w = .ok (.int .i64 ((orN x y : Nat) : Int)) w := by
 unfold orN;simp [binOp, Op.intBits, go_sem, IntKind.bits];have h : x ||| y < 2 ^ 62 := Nat.or_lt_two_pow (by omega) (by omega);change IntKind.i64.wrap (((BitVec.ofNat 64 x ||| BitVec.ofNat 64 y : BitVec 64).toNat : Nat) : Int) = _;rw [BitVec.toNat_or, BitVec.toNat_ofNat, BitVec.toNat_ofNat, Nat.mod_eq_of_lt (by omega), Nat.mod_eq_of_lt (by omega)];exact wrapI_nat (by omega)
theorem run_and1 (x : Nat) (hx : x < 4611686018427387904) (w : World) : (binOp .and 3 (.int .i64 (x : Int)) (.int .i64 1)).run Tryd.prog w = .ok (.int .i64 ((oddN x : Nat) : Int)) w := by
 unfold oddN;simp [binOp, Op.intBits, go_sem, IntKind.bits];have h : x &&& 1 = x % 2 := Nat.and_one_is_mod x;change IntKind.i64.wrap (((BitVec.ofNat 64 x &&& 1#64 : BitVec 64).toNat : Nat) : Int) = _;rw [BitVec.toNat_and, BitVec.toNat_ofNat, Nat.mod_eq_of_lt (by omega)]
 show IntKind.i64.wrap ((x &&& 1 : Nat) : Int) = _
 rw [h, wrapI_nat (by omega)];omega
theorem run_andNot (x y : Nat) (hx : x < 4611686018427387904) (hy : y < 4611686018427387904) (w : World) : (binOp .andNot 3 (.int .i64 (x : Int)) (.int .i64 (y : Int))).run Tryd.prog w = .ok (.int .i64 ((andN x y : Nat) : Int)) w := by
 simp [binOp, Op.intBits, go_sem, IntKind.bits];have h : andN x y ≤ x := Nat.and_le_left;change IntKind.i64.wrap (((BitVec.ofNat 64 x &&& ~~~BitVec.ofNat 64 y : BitVec 64).toNat : Nat) : Int) = _;rw [BitVec.toNat_and, BitVec.toNat_not, BitVec.toNat_ofNat, BitVec.toNat_ofNat, Nat.mod_eq_of_lt (by omega), Nat.mod_eq_of_lt (by omega)];exact wrapI_nat (show andN x y < _ by omega)
theorem bits_or_i (x y : Nat) (hx : x < 4611686018427387904) (hy : y < 4611686018427387904) (w : World) : bits BinOp.or IntKind.i64 (x : Int) (y : Int) = ((orN x y : Nat) : Int) := by
 have h := run_or x y hx hy w;simp [go_sem] at h;exact h
theorem bits_and1_i (x : Nat) (hx : x < 4611686018427387904) (w : World) : bits BinOp.and IntKind.i64 (x : Int) 1 = ((oddN x : Nat) : Int) := by
 have h := run_and1 x hx w;simp [go_sem] at h;exact h
theorem bits_andNot_i (x y : Nat) (hx : x < 4611686018427387904) (hy : y < 4611686018427387904) (w : World) : bits BinOp.andNot IntKind.i64 (x : Int) (y : Int) = ((andN x y : Nat) : Int) := by
 have h := run_andNot x y hx hy w;simp [go_sem] at h;exact h
theorem shr_i (M v : Nat) : (M : Int) / 2 ^ v = ((shrN M v : Nat) : Int) := by
 unfold shrN;simp
theorem shl_i (v : Nat) (hv : v < 62) : IntKind.i64.wrap (2 ^ v) = ((powN v : Nat) : Int) := by
 have h := wrapI_nat (powI_lt62 hv);unfold powN
 simpa using h
section
variable {H : Type} {P : Program} {w w' : World} {k : TypeId} {R : Value → Option (DataW H × List MemPlace)} {b n r : Nat} {D : DataW H} {S : List Nat}
theorem ownsMap_blt (h : w.ownsMap P k R b n D) : b < w.heap.size := by
 obtain ⟨es, clock, h1, -⟩ := h;exact (Array.getElem?_eq_some_iff.1 h1).1
theorem ownsMap_only (h : w.ownsMap P k R b n D) (ho : Only S w w') (hb : b ∉ S) : w'.ownsMap P k R b n D := by
 have hlt := ownsMap_blt h;obtain ⟨es, clock, h1, h2⟩ := h;exact ⟨es, clock, (ho.keeps b hlt hb).trans h1, h2⟩
variable {left : Lit → Bool} {cnt : Nat}
theorem ranges_lt (h : w.ranges P k R b r n D left cnt) : b < w.heap.size ∧ r < w.heap.size := by
 obtain ⟨es, clock, since, seen, c0, h1, -, -, -, h5, -⟩ := h;exact ⟨(Array.getElem?_eq_some_iff.1 h1).1, (Array.getElem?_eq_some_iff.1 h5).1⟩
theorem ranges_only (h : w.ranges P k R b r n D left cnt) (ho : Only S w w') (hb : b ∉ S) (hr : r ∉ S) : w'.ranges P k R b r n D left cnt := by
 have hlt := ranges_lt h;obtain ⟨es, clock, since, seen, c0, h1, h2, h3, h4, h5, h6⟩ := h;exact ⟨es, clock, since, seen, c0, (ho.keeps b hlt.1 hb).trans h1, h2, h3, h4, (ho.keeps r hlt.2 hr).trans h5, h6⟩
end
theorem wpList_insert_own {H : Type} {P : Program} (w : World) {ops : Array Oper} {rest : List Oper} {o : Oper} {a : Act} {Q : Exit → Act → World → Prop}
  (hg : o.guard = none) (m x v : Operand) (t : TypeId) (hop : o.op = Op.insert t m x v)
  (k e : TypeId) (K : Go.Maps.Keyed P k) (ht : P.underlying t = some (.map k e)) (R : Value → Option (DataW H × List MemPlace)) (b n : Nat) (D : DataW H)
  (hm : a.eval m = .map (some b)) (hown : w.ownsMap P k R b n D) (hn : n < maxLen) (key val : Value) (kl : Lit) (hx : a.eval x = key) (hv : a.eval v = val) (hkey : keyOf P k key = some kl)
  (d : DataW H) (ps : List MemPlace) (hval : R val = some (d, ps))
  (hK : ∀ w', w'.ownsMap P k R b (n + 1) (D.put kl d) → w.grownBy w' (some b) → wpList P ops Q rest (a.put o.dst undef) w') :
  wpList P ops Q (o :: rest) a w := by
 refine wpList_plain hg fun K' hK' => ?_;obtain ⟨w', hrun, r1, r2⟩ := hown.update K ht hn hkey hval;unfold Oper.wp;simp [execOp, hop, hm, hx, hv, hrun, Result.andThen];exact hK' _ _ (hK w' r1 r2)
end Go.Proofs.YtoojabllolnhnaaDoor
