/- Parts. -/
import Derived.Test.YtgimobilcdkmpaaDoorBitsPlaysCardK25
import Derived.Test.YtgimobilcdkmpaaDoorBitsPlaysCardK29
import Derived.Test.YtgimobilcdkmpaaDoorBitsPlaysCardK31
import Derived.Test.YtgimobilcdkmpaaDoorBitsPlaysCardK32
import Derived.Test.YtgimobilcdkmpaaDoorBitsPlaysCardK33
set_option maxRecDepth 10000
set_option maxHeartbeats 16000000
set_option linter.unusedVariables false
set_option linter.unusedSimpArgs false
namespace Go.Proofs.YtgimobilcdkmpaaDoor
open Go.RowKit
attribute [local go_sem ↓] Go.wp_at_zero Go.wp_at_succ
theorem inf18 (K : List Int) : (Tryd.prog.info? 29).map (·.size) = some (markC 500 K).toList.length := by rw [Array.length_toList, markC_size]; exact size18
theorem inf18a (K : List Int) : (Tryd.prog.info? 29).map (·.size) = some (markC 500 K).size := by rw [markC_size]; exact size18
theorem exec_load18 {op : Oper} {ev : Operand → Value} {W : World} {q : Nat} {K : List Int} (x : Operand) (ho : op.op = .load 29 x) (hx : ev x = .pointer (some ⟨q, 0, none⟩)) (hb : Blk W q 29 (markC 500 K)) :
  (execOp ev op).run Tryd.prog W = .ok (.value (.agg (markC 500 K))) W := by
 have := run_loadVar_mid (P := Tryd.prog) W q 0 29 (markC 500 K).toList _ hb.range Tryd.underlying29 rfl (inf18 K);unfold execOp;simp only [ho, hx, Instr.loadAt, Instr.sureAddr, Sem.run_bind, Sem.run_pure, Result.andThen_ok, this]
structure BP (w0 w : World) (p q : Nat) (ws : List Nat) (K : List Int) : Prop where
 S : BSet w p ws
 R : Blk w q 29 (markC 500 K)
 rel : RelB ws K
 o : Only [] w0 w
 pb : w0.heap.size ≤ p
 qb : w0.heap.size ≤ q
theorem BP.ne {w0 w : World} {p q : Nat} {ws : List Nat} {K : List Int} (h : BP w0 w p q ws K) : p ≠ q := h.S.1.apart h.R (by decide)
theorem BP.same {w0 w w' : World} {p q : Nat} {ws : List Nat} {K : List Int} (h : BP w0 w p q ws K) (O : Only [] w w') : BP w0 w' p q ws K := ⟨h.S.only O (by simp), O.blk h.R (by simp), h.rel, h.o.trans O, h.pb, h.qb⟩
theorem BP.left {w0 w w' : World} {p q : Nat} {ws : List Nat} {K : List Int} (h : BP w0 w p q ws K) (O : Only [p] w w') : Blk w' q 29 (markC 500 K) ∧ Only [] w0 w' :=
 ⟨O.blk h.R (by simp; exact h.ne.symm), h.o.step O (fun i hi hl => by simp at hi; have := h.pb; omega)⟩
theorem fewb_any (A : Option Addr) (n c : Nat) (zs : List Int) (w : World) (hr : Row w w.heap.size A (zs.map (Value.int .i64))) (hl : zs.length = n) (hnc : n ≤ c) (hc : c ≤ maxLen) :
  Calls Tryd.prog 7 #[.slice A n c] w fun e w' => ∃ A' c', (e = .returned (.slice A' (min n 100) c') ∧ Row w' w'.heap.size A' ((zs.take (min n 100)).map (Value.int .i64)) ∧ min n 100 ≤ c' ∧ c' ≤ maxLen) ∧ Only [] w w' := by
 refine (few18_any A n c zs w hr hl hnc hc).mono ?_;rintro e w' ⟨v, rfl, hv, O⟩;obtain ⟨A', c', rfl, h1, h2, -, h3⟩ := own_row hv;exact ⟨A', c', ⟨rfl, h3, h1, h2⟩, O⟩
end Go.Proofs.YtgimobilcdkmpaaDoor
