/- Contracts of the package trail: Set, Get, Level, Keep, Begin. -/
import Derived.Test.YtbidciakljpkiaaDoorTrailB
set_option linter.unusedVariables false
set_option linter.unusedSimpArgs false
namespace Go.Proofs.YtbidciakljpkiaaDoor
open Go.RowKit
attribute [local go_sem ↓] Go.wp_at_zero Go.wp_at_succ

/-- What a Set answers and leaves. -/
def stE (now : List Int) (c : Int) : Int := if c < 0 ∨ (now.length : Int) ≤ c then 2 else 0
def stL (now : List Int) (c v : Int) : List Int := if c < 0 ∨ (now.length : Int) ≤ c then now else now.set c.toNat v
def gtV (now : List Int) (c : Int) : Int := if c < 0 ∨ (now.length : Int) ≤ c then 0 else now.getD c.toNat 0
theorem stL_length (now : List Int) (c v : Int) : (stL now c v).length = now.length := by
  unfold stL
  split <;> simp

theorem Tr.len {w : World} {p : Nat} {now : List Int} {saved : List (List Int)} {fp : List Nat} (h : Tr w p now saved fp) : ∀ b ∈ fp, True := fun _ _ => trivial

set_option maxHeartbeats 400000 in
theorem tset_in (p gc c n : Nat) (v u : Int) (w : World) (h0 : w.cell? ⟨p, 0, none⟩ = some (.bool true)) (h1 : w.cell? ⟨p, 1, none⟩ = some (.slice (some ⟨gc, 0, none⟩) n n))
    (hc : w.cell? ⟨gc, c, none⟩ = some (.int .i64 u)) (hf : w.frozen? ⟨gc, c, none⟩ = false) (hlt : c < n) (hn : n ≤ 1000) :
    Calls Tryd.prog 39 #[.pointer (some ⟨p, 0, none⟩), .int .i64 (c : Int), .int .i64 v] w fun e w' => e = .returned (.int .i64 0) ∧ w.setCell ⟨gc, c, none⟩ (.int .i64 v) = w' := by
  have HIS := Lib.hid (fun W => tis_some p true W)
  have HCE := Lib.hid (fun W H0 H1 => tcell_yes p (c : Int) (some ⟨gc, 0, none⟩) n W H0 H1 (by omega) (by omega) hn)
  have hc0 : (0 : Int) ≤ (c : Int) := Int.natCast_nonneg _
  have hc1 : (c : Int) < (n : Int) := by omega
  go_enter Tryd.func39, Tryd.ntmps39
  go_wp2_with (first
    | (go_at_call 40; refine (HIS.out _ h0).mono ?_; rintro e w1 ⟨rfl, rfl⟩)
    | (go_at_call 44; refine (HCE.out _ h0 h1).mono ?_; rintro e w1 ⟨rfl, rfl⟩))
  go_ret
  exact ⟨rfl, rfl⟩

set_option maxHeartbeats 400000 in
theorem tset_out (p : Nat) (A : Option Addr) (c v : Int) (n : Nat) (w : World) (h0 : w.cell? ⟨p, 0, none⟩ = some (.bool true)) (h1 : w.cell? ⟨p, 1, none⟩ = some (.slice A n n)) (hc : c < 0 ∨ (n : Int) ≤ c) (hn : n ≤ 1000) :
    Calls Tryd.prog 39 #[.pointer (some ⟨p, 0, none⟩), .int .i64 c, .int .i64 v] w fun e w' => e = .returned (.int .i64 2) ∧ w = w' := by
  have HIS := Lib.hid (fun W => tis_some p true W)
  have HCE := Lib.hid (fun W H0 H1 => tcell_out p c A n W H0 H1 hc hn)
  clear hc
  go_enter Tryd.func39, Tryd.ntmps39
  go_wp2_with (first
    | (go_at_call 40; refine (HIS.out _ h0).mono ?_; rintro e w1 ⟨rfl, rfl⟩)
    | (go_at_call 44; refine (HCE.out _ h0 h1).mono ?_; rintro e w1 ⟨rfl, rfl⟩))
  go_ret
  exact ⟨rfl, rfl⟩

theorem tset_any (p : Nat) (c v : Int) (now : List Int) (saved : List (List Int)) (fp : List Nat) (w : World) (h : Tr w p now saved fp) (hn : now.length ≤ 1000) :
    Calls Tryd.prog 39 #[.pointer (some ⟨p, 0, none⟩), .int .i64 c, .int .i64 v] w fun e w' => e = .returned (.int .i64 (stE now c)) ∧ Tr w' p (stL now c v) saved fp ∧ Only fp w w' := by
  have h' := h
  obtain ⟨gc, V, gs, hp, hc, hV, hs, m1, m2, m3, m4⟩ := h.lies
  have h0 := hp.at_ 0
  have h1 := hp.at_ 1
  by_cases ho : c < 0 ∨ (now.length : Int) ≤ c
  · refine (tset_out p _ c v now.length w h0 h1 ho hn).mono ?_
    rintro e w1 ⟨rfl, rfl⟩
    simp only [stE, stL, if_pos ho]
    exact ⟨trivial, h', Only.refl _ _⟩
  · obtain ⟨k, rfl⟩ := Int.eq_ofNat_of_zero_le (show 0 ≤ c by omega)
    have hk : k < now.length := by omega
    have hck : w.cell? ⟨gc, k, none⟩ = some (.int .i64 now[k]) := by
      rw [hc.at_ k]
      exact ints_at now k _ (List.getElem?_eq_getElem hk)
    refine (tset_in p gc k now.length v _ w h0 h1 hck (hc.free k) hk hn).mono ?_
    rintro e w1 ⟨rfl, rfl⟩
    simp only [stE, stL, if_neg ho]
    have hO : Only [gc] w (w.setCell ⟨gc, k, none⟩ (.int .i64 v)) := (Only.refl _ _).put (by simp) _
    have hpc : p ≠ gc := hp.apart hc (by decide)
    refine ⟨trivial, ⟨gc, V, gs, ?_, ?_, ?_, fun i g l hg hl => ?_, m1, m2, m3, m4⟩, hO.wide (fun i hi _ => by simp at hi; subst hi; exact m2)⟩
    · have := hO.blk hp (by simpa using hpc)
      simpa using this
    · have := hc.put k (.int .i64 v)
      rw [ints_set] at this
      simpa using this
    · have := own_only hV hO (fun g hg => by
        intro hm
        simp at hm
        subst hm
        obtain ⟨_, hv⟩ := hV
        rcases hv with ⟨rfl, _⟩ | ⟨g', cap, cur, rfl, _, hg', _⟩
        · simp [Value.ownBlock] at hg
        · simp [Value.ownBlock] at hg
          subst hg
          exact (Blk.apart (w := w) (t := 22) (cs := cur) hg' hc (by decide)) rfl)
      simpa using this
    · obtain ⟨hb, hl', hne⟩ := hs i g l hg hl
      exact ⟨hO.blk hb (by simpa using hne), by simpa using hl', hne⟩

set_option maxHeartbeats 400000 in
theorem tget_in (p gc c n : Nat) (u : Int) (w : World) (h0 : w.cell? ⟨p, 0, none⟩ = some (.bool true)) (h1 : w.cell? ⟨p, 1, none⟩ = some (.slice (some ⟨gc, 0, none⟩) n n))
    (hc : w.cell? ⟨gc, c, none⟩ = some (.int .i64 u)) (hlt : c < n) (hn : n ≤ 1000) :
    Calls Tryd.prog 38 #[.pointer (some ⟨p, 0, none⟩), .int .i64 (c : Int)] w fun e w' => e = .returned (.int .i64 u) ∧ w = w' := by
  have HCE := Lib.hid (fun W H0 H1 => tcell_yes p (c : Int) (some ⟨gc, 0, none⟩) n W H0 H1 (by omega) (by omega) hn)
  have hc0 : (0 : Int) ≤ (c : Int) := Int.natCast_nonneg _
  have hc1 : (c : Int) < (n : Int) := by omega
  go_enter Tryd.func38, Tryd.ntmps38
  go_wp2_with (go_at_call 44; refine (HCE.out _ h0 h1).mono ?_; rintro e w1 ⟨rfl, rfl⟩)
  go_ret
  exact ⟨rfl, rfl⟩

set_option maxHeartbeats 400000 in
theorem tget_no (p : Option Addr) (c : Int) (w : World) (hc : Calls Tryd.prog 44 #[.pointer p, .int .i64 c] w fun e w' => e = .returned (.bool false) ∧ w = w') :
    Calls Tryd.prog 38 #[.pointer p, .int .i64 c] w fun e w' => e = .returned (.int .i64 0) ∧ w = w' := by
  have HC := Lib.hid hc
  clear hc
  go_enter Tryd.func38, Tryd.ntmps38
  go_wp2_with (go_at_call 44; refine (HC.out).mono ?_; rintro e w1 ⟨rfl, rfl⟩)
  go_ret
  exact ⟨rfl, rfl⟩

theorem tget_any (p : Nat) (c : Int) (now : List Int) (saved : List (List Int)) (fp : List Nat) (w : World) (h : Tr w p now saved fp) (hn : now.length ≤ 1000) :
    Calls Tryd.prog 38 #[.pointer (some ⟨p, 0, none⟩), .int .i64 c] w fun e w' => e = .returned (.int .i64 (gtV now c)) ∧ w = w' := by
  obtain ⟨gc, V, gs, hp, hc, -⟩ := h.lies
  have h0 := hp.at_ 0
  have h1 := hp.at_ 1
  by_cases ho : c < 0 ∨ (now.length : Int) ≤ c
  · simp only [gtV, if_pos ho]
    exact tget_no _ c w (tcell_out p c _ now.length w h0 h1 ho hn)
  · obtain ⟨k, rfl⟩ := Int.eq_ofNat_of_zero_le (show 0 ≤ c by omega)
    have hk : k < now.length := by omega
    have hck : w.cell? ⟨gc, k, none⟩ = some (.int .i64 now[k]) := by
      rw [hc.at_ k]
      exact ints_at now k _ (List.getElem?_eq_getElem hk)
    simp only [gtV, if_neg ho]
    have := tget_in p gc k now.length _ w h0 h1 hck hk hn
    simpa [List.getD, hk] using this

/-- The form of the saved levels' slice. -/
theorem Tr.form {w : World} {p : Nat} {now : List Int} {saved : List (List Int)} {fp : List Nat} (h : Tr w p now saved fp) :
    ∃ A c, w.cell? ⟨p, 2, none⟩ = some (.slice A saved.length c) ∧ saved.length ≤ c ∧ c ≤ maxLen := by
  obtain ⟨gc, V, gs, hp, hc, hV, -⟩ := h.lies
  obtain ⟨A, c, rfl, h1, h2, -⟩ := own_row hV
  exact ⟨A, c, hp.at_ 2, h1, h2⟩

set_option maxHeartbeats 400000 in
theorem tlevel_any (p : Nat) (now : List Int) (saved : List (List Int)) (fp : List Nat) (w : World) (h : Tr w p now saved fp) :
    Calls Tryd.prog 42 #[.pointer (some ⟨p, 0, none⟩)] w fun e w' => e = .returned (.int .i64 (saved.length : Int)) ∧ w = w' := by
  have h0 := h.made
  obtain ⟨A, c, h2, hl, hm⟩ := h.form
  have HIS := Lib.hid (fun W => tis_some p true W)
  clear h
  go_enter Tryd.func42, Tryd.ntmps42
  go_wp2_with (go_at_call 40; refine (HIS.out _ h0).mono ?_; rintro e w1 ⟨rfl, rfl⟩)
  go_ret
  exact ⟨rfl, rfl⟩

set_option maxHeartbeats 400000 in
theorem tlevel_no (p : Option Addr) (w : World) (hc : Calls Tryd.prog 40 #[.pointer p] w fun e w' => e = .returned (.bool false) ∧ w = w') :
    Calls Tryd.prog 42 #[.pointer p] w fun e w' => e = .returned (.int .i64 0) ∧ w = w' := by
  have HC := Lib.hid hc
  clear hc
  go_enter Tryd.func42, Tryd.ntmps42
  go_wp2_with (go_at_call 40; refine (HC.out).mono ?_; rintro e w1 ⟨rfl, rfl⟩)
  go_ret
  exact ⟨rfl, rfl⟩

end Go.Proofs.YtbidciakljpkiaaDoor
