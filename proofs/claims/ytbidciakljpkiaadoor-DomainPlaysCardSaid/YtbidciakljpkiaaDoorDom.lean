/- Contracts of the package domain: what only reads, and a domain that is none. -/
import Derived.Test.YtbidciakljpkiaaDoorTrailD
import Derived.Test.YtbidciakljpkiaaDoorBitsT
import Derived.Test.YtbidciakljpkiaaDoorDomM
import Derived.Deep.QuietTactic
set_option linter.unusedVariables false
set_option linter.unusedSimpArgs false
namespace Go.Proofs.YtbidciakljpkiaaDoor
open Go.RowKit
attribute [local go_sem ↓] Go.wp_at_zero Go.wp_at_succ

theorem quiet_left {P : Program} {f : FuncId} {args : Array Value} {w : World} {n : Nat} {v : Value}
    (h : Calls P f args (w.drewN n) fun e w' => e = .returned v ∧ w.drewN n = w') : Calls P f args (w.drewN n) fun e w'' => e = .returned v ∧ ∃ m, w'' = w.drewN m :=
  h.mono fun _ _ ⟨he, hm⟩ => ⟨he, n, hm.symm⟩

theorem dis_nil (w : World) : Calls Tryd.prog 32 #[.pointer none] w fun e w' => e = .returned (.bool false) ∧ w = w' := by
  go_enter Tryd.func32, Tryd.ntmps32
  go_wp2
  go_ret
  exact ⟨rfl, rfl⟩
theorem dis_empty (p : Nat) (w : World) (h1 : w.cell? ⟨p, 1, none⟩ = some (.pointer none)) : Calls Tryd.prog 32 #[.pointer (some ⟨p, 0, none⟩)] w fun e w' => e = .returned (.bool false) ∧ w = w' := by
  go_enter Tryd.func32, Tryd.ntmps32
  go_wp2
  go_ret
  exact ⟨rfl, rfl⟩
theorem dis_full (p q : Nat) (w : World) (h1 : w.cell? ⟨p, 1, none⟩ = some (.pointer (some ⟨q, 0, none⟩))) : Calls Tryd.prog 32 #[.pointer (some ⟨p, 0, none⟩)] w fun e w' => e = .returned (.bool true) ∧ w = w' := by
  go_enter Tryd.func32, Tryd.ntmps32
  go_wp2
  go_ret
  exact ⟨rfl, rfl⟩

section
variable {P : Option Addr} {w : World} (hc : Calls Tryd.prog 32 #[.pointer P] w fun e w' => e = .returned (.bool false) ∧ w = w')
include hc
theorem dvar_no (v : Int) : Calls Tryd.prog 36 #[.pointer P, .int .i64 v] w fun e w' => e = .returned (.bool false) ∧ w = w' := by
  have HC := Lib.hid hc
  clear hc
  go_enter Tryd.func36, Tryd.ntmps36
  go_wp2_with fail
  refine (HC.out).mono ?_
  rintro e w' ⟨rfl, rfl⟩
  go_wp2
  go_ret
  exact ⟨rfl, rfl⟩
theorem dwrong_no (v k : Int) : Calls Tryd.prog 28 #[.pointer P, .int .i64 v, .int .i64 k] w fun e w' => e = .returned (.int .i64 4) ∧ w = w' := by
  have HC := Lib.hid hc
  clear hc
  go_enter Tryd.func28, Tryd.ntmps28
  go_wp2_with fail
  refine (HC.out).mono ?_
  rintro e w' ⟨rfl, rfl⟩
  go_wp2
  go_ret
  exact ⟨rfl, rfl⟩
theorem ddrop_no (v k : Int) : Calls Tryd.prog 12 #[.pointer P, .int .i64 v, .int .i64 k] w fun e w' => e = .returned (.int .i64 4) ∧ w = w' := by
  have HC := Lib.hid (dwrong_no hc v k)
  clear hc
  go_enter Tryd.func12, Tryd.ntmps12
  go_wp2_with fail
  refine (HC.out).mono ?_
  rintro e w' ⟨rfl, rfl⟩
  go_wp2
  go_ret
  exact ⟨rfl, rfl⟩
theorem donly_no (v k : Int) : Calls Tryd.prog 14 #[.pointer P, .int .i64 v, .int .i64 k] w fun e w' => e = .returned (.int .i64 4) ∧ w = w' := by
  have HC := Lib.hid (dwrong_no hc v k)
  clear hc
  go_enter Tryd.func14, Tryd.ntmps14
  go_wp2_with fail
  refine (HC.out).mono ?_
  rintro e w' ⟨rfl, rfl⟩
  go_wp2
  go_ret
  exact ⟨rfl, rfl⟩
theorem dleft_no (v : Int) : Calls Tryd.prog 23 #[.pointer P, .int .i64 v] w fun e w' => e = .returned (.slice none 0 0) ∧ w = w' := by
  have HC := Lib.hid (dvar_no hc v)
  clear hc
  go_enter Tryd.func23, Tryd.ntmps23
  go_wp2_with fail
  refine (HC.out).mono ?_
  rintro e w' ⟨rfl, rfl⟩
  go_wp2
  go_ret
  exact ⟨rfl, rfl⟩
theorem dfixed_no (v : Int) : Calls Tryd.prog 21 #[.pointer P, .int .i64 v] w fun e w' => e = .returned (.tuple #[.int .i64 0, .bool false]) ∧ w = w' := by
  have HC := Lib.hid (dleft_no hc v)
  clear hc
  go_enter Tryd.func21, Tryd.ntmps21
  go_wp2_with fail
  refine (HC.out).mono ?_
  rintro e w' ⟨rfl, rfl⟩
  go_wp2
  go_ret2
  exact ⟨rfl, rfl⟩
theorem dbegin_no : Calls Tryd.prog 16 #[.pointer P] w fun e w' => e = .returned (.int .i64 4) ∧ w = w' := by
  have HC := Lib.hid hc
  clear hc
  go_enter Tryd.func16, Tryd.ntmps16
  go_wp2_with fail
  refine (HC.out).mono ?_
  rintro e w' ⟨rfl, rfl⟩
  go_wp2
  go_ret
  exact ⟨rfl, rfl⟩
theorem dundo_no : Calls Tryd.prog 18 #[.pointer P] w fun e w' => e = .returned (.int .i64 4) ∧ w = w' := by
  have HC := Lib.hid hc
  clear hc
  go_enter Tryd.func18, Tryd.ntmps18
  go_wp2_with fail
  refine (HC.out).mono ?_
  rintro e w' ⟨rfl, rfl⟩
  go_wp2
  go_ret
  exact ⟨rfl, rfl⟩
theorem dopen_no : Calls Tryd.prog 24 #[.pointer P] w fun e w' => e = .returned (.slice none 0 0) ∧ w = w' := by
  have HC := Lib.hid hc
  clear hc
  go_enter Tryd.func24, Tryd.ntmps24
  go_wp2_with fail
  refine (HC.out).mono ?_
  rintro e w' ⟨rfl, rfl⟩
  go_wp2
  go_ret
  exact ⟨rfl, rfl⟩
end

/-- Sizes as cells. -/
def szv (sz : List Nat) : List Value := sz.map fun (n : Nat) => Value.int .i64 (n : Int)

/-- A domain that New made: its block, where its sizes lie, its trail; what lies below B is its own and stays. -/
structure Dm (w : World) (p q B : Nat) (sz : List Nat) (gone : List Int) (saved : List (List Int)) (fp : List Nat) : Prop where
  lies : ∃ A c, Blk w p 47 #[.slice A sz.length c, .pointer (some ⟨q, 0, none⟩)] ∧ sz.length ≤ c ∧ c ≤ maxLen ∧ Row w B A (szv sz)
  T : Tr w q gone saved fp
  pB : p < B
  fpB : ∀ b ∈ fp, B ≤ b

section
variable {w w' : World} {p q B : Nat} {sz : List Nat} {gone : List Int} {saved : List (List Int)} {fp : List Nat}
theorem Dm.only {S : List Nat} (h : Dm w p q B sz gone saved fp) (ho : Only S w w') (hS : ∀ b ∈ fp, b ∉ S) (hB : ∀ b ∈ S, B ≤ b) : Dm w' p q B sz gone saved fp := by
  obtain ⟨A, c, h1, h2, h3, h4⟩ := h.lies
  exact ⟨⟨A, c, ho.blk h1 (fun hm => by have := hB _ hm; have := h.pB; omega), h2, h3, h4.only ho hB⟩, h.T.only ho hS, h.pB, h.fpB⟩
/-- The trail goes on. -/
theorem Dm.trail {gone' : List Int} {saved' : List (List Int)} {fp' : List Nat} (h : Dm w p q B sz gone saved fp) (ho : Only fp w w') (hT : Tr w' q gone' saved' fp') (hf : ∀ b ∈ fp', B ≤ b) : Dm w' p q B sz gone' saved' fp' := by
  obtain ⟨A, c, h1, h2, h3, h4⟩ := h.lies
  exact ⟨⟨A, c, ho.blk h1 (fun hm => by have := h.fpB _ hm; have := h.pB; omega), h2, h3, h4.only ho h.fpB⟩, hT, h.pB, hf⟩
end

theorem dvar_yes (p q : Nat) (v : Int) (A : Option Addr) (n c : Nat) (w : World) (h0 : w.cell? ⟨p, 0, none⟩ = some (.slice A n c)) (h1 : w.cell? ⟨p, 1, none⟩ = some (.pointer (some ⟨q, 0, none⟩))) (hc0 : 0 ≤ v) (hc1 : v < n) (hn : n ≤ 1000) :
    Calls Tryd.prog 36 #[.pointer (some ⟨p, 0, none⟩), .int .i64 v] w fun e w' => e = .returned (.bool true) ∧ w = w' := by
  have HC := Lib.hid (dis_full p q w h1)
  go_enter Tryd.func36, Tryd.ntmps36
  go_wp2_with fail
  refine (HC.out).mono ?_
  rintro e w' ⟨rfl, rfl⟩
  go_wp2
  go_ret
  exact ⟨rfl, rfl⟩
theorem dvar_out (p q : Nat) (v : Int) (A : Option Addr) (n c : Nat) (w : World) (h0 : w.cell? ⟨p, 0, none⟩ = some (.slice A n c)) (h1 : w.cell? ⟨p, 1, none⟩ = some (.pointer (some ⟨q, 0, none⟩))) (hv : v < 0 ∨ (n : Int) ≤ v) (hn : n ≤ 1000) :
    Calls Tryd.prog 36 #[.pointer (some ⟨p, 0, none⟩), .int .i64 v] w fun e w' => e = .returned (.bool false) ∧ w = w' := by
  have HC := Lib.hid (dis_full p q w h1)
  by_cases hv0 : v < 0
  · have hd : decide (0 ≤ v) = false := by simp; omega
    clear hv
    go_enter Tryd.func36, Tryd.ntmps36
    go_wp2_with fail
    refine (HC.out).mono ?_
    rintro e w' ⟨rfl, rfl⟩
    go_wp2
    go_ret
    exact ⟨rfl, rfl⟩
  · have hv1 : 0 ≤ v := by omega
    have hd : decide (v < (n : Int)) = false := by simp; omega
    clear hv hv0
    go_enter Tryd.func36, Tryd.ntmps36
    go_wp2_with fail
    refine (HC.out).mono ?_
    rintro e w' ⟨rfl, rfl⟩
    go_wp2
    go_ret
    exact ⟨rfl, rfl⟩

theorem mask_val (s x : Nat) (hs : s ≤ 60) (hx : x < 1152921504606846976) : bits .andNot .u64 (IntKind.u64.wrap (IntKind.u64.wrap ((2 : Int) ^ s) - 1)) (x : Int) = ((andN (2 ^ s - 1) x : Nat) : Int) := by
  have h1 := pow60 hs
  have h2 : 0 < 2 ^ s := Nat.pow_pos (by decide)
  rw [show ((2 : Int) ^ s) = ((2 ^ s : Nat) : Int) by simp]
  generalize (2 : Nat) ^ s = y at *
  rw [wrap_nat, Nat.mod_eq_of_lt (by omega), show ((y : Int) - 1) = ((y - 1 : Nat) : Int) by omega, wrap_nat, Nat.mod_eq_of_lt (by omega)]
  exact u64_andNot_nat (y - 1) x (by omega) (by omega)

set_option maxHeartbeats 1000000 in
theorem dlow_left (p q g off v n c s x : Nat) (w : World) (h0 : w.cell? ⟨p, 0, none⟩ = some (.slice (some ⟨g, off, none⟩) n c)) (h1 : w.cell? ⟨p, 1, none⟩ = some (.pointer (some ⟨q, 0, none⟩)))
    (hs : w.cell? ⟨g, off + v, none⟩ = some (.int .i64 (s : Int))) (hv : v < n) (hn : n ≤ 1000) (hs6 : s ≤ 60) (hx : x < 1152921504606846976)
    (hget : ∀ w' : World, w'.heap = w.heap → Calls Tryd.prog 38 #[.pointer (some ⟨q, 0, none⟩), .int .i64 (v : Int)] w' fun e w'' => e = .returned (.int .i64 (x : Int)) ∧ w' = w'') :
    Calls Tryd.prog 29 #[.pointer (some ⟨p, 0, none⟩), .int .i64 (v : Int)] w fun e w' => e = .returned (.int .u64 ((andN (2 ^ s - 1) x : Nat) : Int)) ∧ ∃ d, w.drewN d = w' := by
  have HG := Lib.hid hget
  have hv0 : (0 : Int) ≤ (v : Int) := Int.natCast_nonneg _
  have hv1 : (v : Int) < (n : Int) := by omega
  have hs0 : (0 : Int) ≤ (s : Int) := Int.natCast_nonneg _
  have hs1 : (s : Int) < 64 := by omega
  have HM := Lib.hid (mask_val s x hs6 hx)
  clear hget
  go_enter Tryd.func29, Tryd.ntmps29
  go_wp2_with fail
  go_quiet ((go_at_call 38; exact quiet_left (HG.out _ rfl)))
  go_wp2
  go_ret
  rw [HM.out]
  exact ⟨rfl, _, rfl⟩

end Go.Proofs.YtbidciakljpkiaaDoor
