/- Few of a history that has few parts already; the contracts of law 11, said of a history that lies there. InnerLeaves: the walk. -/
import Derived.Test.YtjhomlnlmpdklaaGreatDoorInnerAgreesCardK46
import Derived.Test.YtjhomlnlmpdklaaGreatDoorInnerAgreesCardK45
import Derived.Test.YtjhomlnlmpdklaaGreatDoorInnerAgreesCardK31
import Derived.Test.YtjhomlnlmpdklaaGreatDoorInnerAgreesCardK19
import Derived.Test.YtjhomlnlmpdklaaGreatDoorInnerAgreesCardK36
import Derived.Test.YtjhomlnlmpdklaaGreatDoorInnerAgreesCardK10
set_option linter.unusedVariables false
set_option linter.unusedSimpArgs false
namespace Go.Proofs.YtjhomlnlmpdklaaGreatDoor
open Go.RowKit
open Go.Lib hiding intOf
/-- Few of what came in. -/
theorem few_first (A0 A1 A2 : Option Addr) (c0 c1 c2 : Nat) (h : Hst) (w : World) (hg : HAt w w.heap.size A0 A1 A2 h) (hm0 : h.ss.length ≤ maxLen) (hm1 : h.ks.length ≤ maxLen) (hm2 : h.l.length ≤ maxLen)
  (hz0 : ∀ z ∈ h.ss, z.size ≤ maxLen) (hz1 : ∀ z ∈ h.ks, z.size ≤ maxLen) (hT : UTabs w) :
  Calls Tryz.prog 9 #[.agg #[.slice A0 h.ss.length c0, .slice A1 h.ks.length c1, .slice A2 h.l.length c2]] w fun e w' => ∃ A0' A1' A2' c0' c1' c2', (e = .returned (.agg #[.slice A0' (fewH h).ss.length c0', .slice A1' (fewH h).ks.length c1', .slice A2' (fewH h).l.length c2']) ∧ HIn w' w'.heap.size A0' A1' A2' (fewH h).ss.length (fewH h).ks.length (fewH h).l.length (fewH h)) ∧ Only [] w w' := by
 unfold maxLen at *
 refine (few11_any A0 A1 A2 _ _ _ c0 c1 c2 w.heap.size h w hg rfl rfl rfl (by omega) (by omega) (by omega) (fun z hz => by have := hz0 z hz; omega) (fun z hz => by have := hz1 z hz; omega)).mono ?_
 rintro e w' ⟨A0', A1', A2', c0', c1', c2', ⟨rfl, hA⟩, O⟩
 exact ⟨A0', A1', A2', c0', c1', c2', ⟨rfl, ⟨hA, rfl, rfl, rfl, few_small h, hT.only O⟩⟩, O⟩
/-- A row does not lie in a block that holds nothing like its first cell. -/
theorem row_past {w w' : World} {B : Nat} {A : Option Addr} {xs : List Value} {g : Nat} {t : TypeId} {cs : Array Value} (h : Row w B A xs) (hb : Blk w g t cs) (hne : ∀ u : Value, xs[0]? = some u → ∀ j : Nat, cs[j]? ≠ some u) (ho : Only [g] w w') : Row w' w'.heap.size A xs := by
 rcases h with rfl | ⟨b, off, rfl, h1, h2, hc⟩
 ·exact .inl rfl
 ·cases xs with
  | nil => exact .inl rfl
  | cons u xs =>
   have h0 := hc 0 u rfl
   have hbg : b ≠ g := fun e => by
    subst e
    rw [hb.at_] at h0
    exact hne u rfl _ h0
   have := ho.size
   exact .inr ⟨b, off, rfl, by omega, by omega, fun j v hv => (ho.cell (p := ⟨b, off + j, none⟩) (by show b < _; omega) (by simp [hbg])).trans (hc j v hv)⟩
theorem HIn.past {w w' : World} {B : Nat} {A0 A1 A2 : Option Addr} {n0 n1 n2 : Nat} {h : Hst} {g : Nat} {t : TypeId} {a0 a1 a2 : Option Addr} {k0 k1 k2 e0 e1 e2 : Nat} (hI : HIn w B A0 A1 A2 n0 n1 n2 h) (hb : Blk w g t #[.slice a0 k0 e0, .slice a1 k1 e1, .slice a2 k2 e2]) (ho : Only [g] w w') (hU : UTabs w') :
  HIn w' w'.heap.size A0 A1 A2 n0 n1 n2 h := by
 have key : ∀ (u : Value), (∀ a n c, u ≠ .slice a n c) → ∀ j : Nat, (#[Value.slice a0 k0 e0, .slice a1 k1 e1, .slice a2 k2 e2] : Array Value)[j]? ≠ some u := by
  intro u hu j hj
  match j with
  | 0 => simp at hj; exact hu _ _ _ hj.symm
  | 1 => simp at hj; exact hu _ _ _ hj.symm
  | 2 => simp at hj; exact hu _ _ _ hj.symm
  | j + 3 => simp at hj
 obtain ⟨⟨r0, r1, ⟨xs, hx, r2, hxs⟩⟩, q0, q1, q2, q3, -⟩ := hI
 have ks : ∀ l : List ByteArray, ∀ u : Value, (strs l)[0]? = some u → ∀ a n c, u ≠ .slice a n c := by
  intro l u hu a n c e
  subst e
  cases l <;> simp [strs] at hu
 refine ⟨⟨row_past r0 hb (fun u hu => key u (ks _ u hu)) ho, row_past r1 hb (fun u hu => key u (ks _ u hu)) ho, ⟨xs, hx, row_past r2 hb (fun u hu => key u ?_) ho, fun x hx => ⟨row_past (hxs x hx).row hb (fun u hu => key u ?_) ho, (hxs x hx).le, (hxs x hx).cap⟩⟩⟩, q0, q1, q2, q3, hU⟩
 ·intro a n c e
  subst e
  cases xs <;> simp [txC, TxA.c] at hu
 ·intro a n c e
  subst e
  cases hxo : x.t.ops with
  | nil => rw [hxo] at hu; simp [opC] at hu
  | cons y l => rw [hxo] at hu; simp [opC, Op4.c] at hu
end Go.Proofs.YtjhomlnlmpdklaaGreatDoor

set_option linter.unusedVariables false
set_option linter.unusedSimpArgs false
namespace Go.Proofs.YtjhomlnlmpdklaaGreatDoor
open Go.RowKit
open Go.Lib hiding intOf
attribute [local go_sem ↓] Go.wp_at_zero Go.wp_at_succ
theorem bad_len {h : Hst} (hs : HSmall h) (a : Int) : (badH h a).length ≤ 1000 := by
 cases ht : txAtH h a with
 | none => rw [bad_none ht]; simp
 | some t => rw [bad_some ht]; exact Nat.le_trans (bdL_le _) (txn_ops hs ht)
theorem wrt_len {h : Hst} (hs : HSmall h) (key : Int) : (wrtH h key).length ≤ 1000 := by
 unfold wrtH
 split
 ·exact Nat.le_trans (which_le _ _) hs.nl
 ·simp
end Go.Proofs.YtjhomlnlmpdklaaGreatDoor
