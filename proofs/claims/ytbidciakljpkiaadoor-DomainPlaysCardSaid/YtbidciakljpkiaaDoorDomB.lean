/- Contracts of the package domain: a domain as truths: which values of each variable are left, and what was when each level began. -/
import Derived.Test.YtbidciakljpkiaaDoorDom
import Derived.StillTailTactics
set_option linter.unusedVariables false
set_option linter.unusedSimpArgs false
namespace Go.Proofs.YtbidciakljpkiaaDoor
open Go.RowKit
attribute [local go_sem ↓] Go.wp_at_zero Go.wp_at_succ

def gks (I : List (List Bool)) : List Int := I.map fun l => (gk l : Int)
def okL (l : List Bool) : Prop := l.length ≤ 60 ∧ places l ≠ []

/-- A domain: what is left, what was, and its blocks. -/
structure Dom (w : World) (p q B : Nat) (sz : List Nat) (I : List (List Bool)) (T : List (List (List Bool))) (fp : List Nat) : Prop where
  d : Dm w p q B sz (gks I) (T.map gks) fp
  len : I.map List.length = sz
  tl : ∀ J ∈ T, J.map List.length = sz
  ok : ∀ l ∈ I, okL l
  tok : ∀ J ∈ T, ∀ l ∈ J, okL l
  n : sz.length ≤ 200

section
variable {w w' : World} {p q B : Nat} {sz : List Nat} {I : List (List Bool)} {T : List (List (List Bool))} {fp : List Nat}
theorem Dom.only {S : List Nat} (h : Dom w p q B sz I T fp) (ho : Only S w w') (hS : ∀ b ∈ fp, b ∉ S) (hB : ∀ b ∈ S, B ≤ b) : Dom w' p q B sz I T fp :=
  ⟨h.d.only ho hS hB, h.len, h.tl, h.ok, h.tok, h.n⟩
theorem Dom.keep (h : Dom w p q B sz I T fp) (ho : Only [] w w') : Dom w' p q B sz I T fp := h.only ho (by simp) (by simp)
theorem Dom.il (h : Dom w p q B sz I T fp) : I.length = sz.length := by rw [← h.len, List.length_map]
theorem Dom.heap (h : Dom w p q B sz I T fp) (hh : w'.heap = w.heap) : Dom w' p q B sz I T fp := by
  have hb : ∀ {g : Nat} {t : TypeId} {cs : Array Value}, Blk w g t cs → Blk w' g t cs := fun h => by unfold Blk at h ⊢; rw [hh]; exact h
  obtain ⟨A, c, h1, h2, h3, h4⟩ := h.d.lies
  obtain ⟨gc, V, gs, hp, hc, hv, hs, m1, m2, m3, m4⟩ := h.d.T.lies
  refine ⟨⟨⟨A, c, hb h1, h2, h3, ?_⟩, ⟨gc, V, gs, hb hp, hb hc, ?_, fun i g l hg hl => ?_, m1, m2, m3, m4⟩, h.d.pB, h.d.fpB⟩, h.len, h.tl, h.ok, h.tok, h.n⟩
  · rcases h4 with h4 | ⟨b, off, hA, hb1, hs1, hc1⟩
    · exact .inl h4
    · refine .inr ⟨b, off, hA, hb1, by rw [hh]; exact hs1, fun j u hu => ?_⟩
      rw [World.cell?_of_block (show w'.heap[b]? = w.heap[b]? by rw [hh])]
      exact hc1 j u hu
  · obtain ⟨hl, hv⟩ := hv
    refine ⟨hl, ?_⟩
    rcases hv with hv | ⟨g, cap, cur, rfl, hb0, hg, rest⟩
    · exact .inl hv
    · exact .inr ⟨g, cap, cur, rfl, hb0, hb hg, rest⟩
  · obtain ⟨hb1, hl', hne⟩ := hs i g l hg hl
    exact ⟨hb hb1, hl', hne⟩
/-- What a walk reads of a domain. -/
theorem Dom.head (h : Dom w p q B sz I T fp) : ∃ A c, w.cell? ⟨p, 0, none⟩ = some (.slice A I.length c) ∧ w.cell? ⟨p, 1, none⟩ = some (.pointer (some ⟨q, 0, none⟩)) ∧ I.length ≤ c ∧ c ≤ maxLen ∧ I.length ≤ 200 := by
  obtain ⟨A, c, h1, h2, h3, -⟩ := h.d.lies
  rw [h.il]
  exact ⟨A, c, h1.at_ 0, h1.at_ 1, h2, h3, h.n⟩
theorem Dom.look (h : Dom w p q B sz I T fp) {v : Nat} {l : List Bool} (hv : I[v]? = some l) : ∃ g off c, w.cell? ⟨p, 0, none⟩ = some (.slice (some ⟨g, off, none⟩) I.length c) ∧ w.cell? ⟨p, 1, none⟩ = some (.pointer (some ⟨q, 0, none⟩)) ∧
    w.cell? ⟨g, off + v, none⟩ = some (.int .i64 (l.length : Int)) ∧ v < I.length ∧ I.length ≤ 200 ∧ I.length ≤ c ∧ c ≤ maxLen ∧ okL l := by
  obtain ⟨A, c, h1, h2, h3, h4⟩ := h.d.lies
  have hvl : v < I.length := (List.getElem?_eq_some_iff.1 hv).1
  have hsv : sz[v]? = some l.length := by rw [← h.len, List.getElem?_map, hv]; rfl
  obtain ⟨g, off, rfl, -, -, hc⟩ := h4.open_ (k := v) (by rw [szv, List.length_map, ← h.il]; exact hvl)
  refine ⟨g, off, c, ?_, h1.at_ 1, hc v _ (by rw [szv, List.getElem?_map, hsv]; rfl), hvl, by rw [h.il]; exact h.n, by rw [h.il]; exact h2, h3, h.ok l (List.mem_of_getElem? hv)⟩
  rw [h.il]
  exact h1.at_ 0
theorem gks_get {v : Nat} {l : List Bool} (hv : I[v]? = some l) : gtV (gks I) (v : Int) = (gk l : Int) := by
  have hvl : v < I.length := (List.getElem?_eq_some_iff.1 hv).1
  unfold gtV gks
  rw [if_neg (by rw [List.length_map]; omega), Int.toNat_natCast, List.getD_eq_getElem?_getD, List.getElem?_map, hv]
  rfl
theorem Dom.get (h : Dom w p q B sz I T fp) {v : Nat} {l : List Bool} (hv : I[v]? = some l) :
    Calls Tryd.prog 38 #[.pointer (some ⟨q, 0, none⟩), .int .i64 (v : Int)] w fun e w' => e = .returned (.int .i64 ((gk l : Nat) : Int)) ∧ w = w' := by
  have := tget_any q (v : Int) (gks I) _ fp w h.d.T (by rw [gks, List.length_map, h.il]; have := h.n; omega)
  rw [gks_get hv] at this
  exact this
/-- left -/
theorem dleft_low (h : Dom w p q B sz I T fp) {v : Nat} {l : List Bool} (hv : I[v]? = some l) :
    Calls Tryd.prog 29 #[.pointer (some ⟨p, 0, none⟩), .int .i64 (v : Int)] w fun e w' => e = .returned (.int .u64 ((mk l : Nat) : Int)) ∧ ∃ d, w.drewN d = w' := by
  obtain ⟨g, off, c, h0, h1, hs, hvl, hn, -, -, ho⟩ := h.look hv
  have := dlow_left p q g off v I.length c l.length (gk l) w h0 h1 hs hvl (by omega) ho.1 (gk_lt60 ho.1) (fun w' hh => (h.heap hh).get hv)
  rw [all_but_gone ho.1] at this
  exact this
theorem dvar_in (h : Dom w p q B sz I T fp) {v : Nat} (hv : v < I.length) :
    Calls Tryd.prog 36 #[.pointer (some ⟨p, 0, none⟩), .int .i64 (v : Int)] w fun e w' => e = .returned (.bool true) ∧ w = w' := by
  obtain ⟨A, c, h0, h1, -, -, hn⟩ := h.head
  exact dvar_yes p q v A _ c w h0 h1 (by omega) (by omega) (by omega)
theorem dvar_arg (h : Dom w p q B sz I T fp) {v : Int} (hv : v < 0 ∨ (I.length : Int) ≤ v) :
    Calls Tryd.prog 36 #[.pointer (some ⟨p, 0, none⟩), .int .i64 v] w fun e w' => e = .returned (.bool false) ∧ w = w' := by
  obtain ⟨A, c, h0, h1, -, -, hn⟩ := h.head
  exact dvar_out p q v A _ c w h0 h1 hv (by omega)
theorem dis_yes (h : Dom w p q B sz I T fp) : Calls Tryd.prog 32 #[.pointer (some ⟨p, 0, none⟩)] w fun e w' => e = .returned (.bool true) ∧ w = w' := by
  obtain ⟨A, c, h0, h1, -⟩ := h.head
  exact dis_full p q w h1

theorem dwrong_out (h : Dom w p q B sz I T fp) {v : Int} (k : Int) (hv : v < 0 ∨ (I.length : Int) ≤ v) :
    Calls Tryd.prog 28 #[.pointer (some ⟨p, 0, none⟩), .int .i64 v, .int .i64 k] w fun e w' => e = .returned (.int .i64 2) ∧ w = w' := by
  have HI := Lib.hid (dis_yes h)
  have HV := Lib.hid (dvar_arg h hv)
  clear hv h
  go_enter Tryd.func28, Tryd.ntmps28
  go_wp2_with fail
  refine (HI.out).mono ?_
  rintro e w' ⟨rfl, rfl⟩
  go_wp2_with fail
  refine (HV.out).mono ?_
  rintro e w' ⟨rfl, rfl⟩
  go_wp2
  go_ret
  exact ⟨rfl, rfl⟩
theorem dwrong_value (h : Dom w p q B sz I T fp) {v : Nat} {l : List Bool} (hv : I[v]? = some l) (k : Int) (hk : k < 0 ∨ (l.length : Int) ≤ k) :
    Calls Tryd.prog 28 #[.pointer (some ⟨p, 0, none⟩), .int .i64 (v : Int), .int .i64 k] w fun e w' => e = .returned (.int .i64 2) ∧ w = w' := by
  have HI := Lib.hid (dis_yes h)
  obtain ⟨g, off, c, h0, h1, hs, hvl, hn, -, -, ho⟩ := h.look hv
  have HV := Lib.hid (dvar_in h hvl)
  have hv0 : (0 : Int) ≤ (v : Int) := Int.natCast_nonneg _
  have hv1 : (v : Int) < (I.length : Int) := by omega
  clear h hv
  by_cases hk0 : k < 0
  · clear hk
    go_enter Tryd.func28, Tryd.ntmps28
    go_wp2_with fail
    refine (HI.out).mono ?_
    rintro e w' ⟨rfl, rfl⟩
    go_wp2_with fail
    refine (HV.out).mono ?_
    rintro e w' ⟨rfl, rfl⟩
    go_wp2
    go_ret
    exact ⟨rfl, rfl⟩
  · have hd0 : decide (k < 0) = false := by simp; omega
    have hd1 : (l.length : Int) ≤ k := by omega
    clear hk
    go_enter Tryd.func28, Tryd.ntmps28
    go_wp2_with fail
    refine (HI.out).mono ?_
    rintro e w' ⟨rfl, rfl⟩
    go_wp2_with fail
    refine (HV.out).mono ?_
    rintro e w' ⟨rfl, rfl⟩
    go_wp2
    go_ret
    exact ⟨rfl, rfl⟩
theorem dwrong_in (h : Dom w p q B sz I T fp) {v k : Nat} {l : List Bool} (hv : I[v]? = some l) (hk : k < l.length) :
    Calls Tryd.prog 28 #[.pointer (some ⟨p, 0, none⟩), .int .i64 (v : Int), .int .i64 (k : Int)] w fun e w' => e = .returned (.int .i64 0) ∧ w = w' := by
  have HI := Lib.hid (dis_yes h)
  obtain ⟨g, off, c, h0, h1, hs, hvl, hn, -, -, ho⟩ := h.look hv
  have HV := Lib.hid (dvar_in h hvl)
  have hv0 : (0 : Int) ≤ (v : Int) := Int.natCast_nonneg _
  have hv1 : (v : Int) < (I.length : Int) := by omega
  have hd0 : decide ((k : Int) < 0) = false := by simp
  have hd1 : decide ((l.length : Int) ≤ (k : Int)) = false := by simp; omega
  clear h hv
  go_enter Tryd.func28, Tryd.ntmps28
  go_wp2_with fail
  refine (HI.out).mono ?_
  rintro e w' ⟨rfl, rfl⟩
  go_wp2_with fail
  refine (HV.out).mono ?_
  rintro e w' ⟨rfl, rfl⟩
  go_wp2
  go_ret
  exact ⟨rfl, rfl⟩
end

theorem conv_val (x : Nat) (hx : x < 1152921504606846976) : wrap64 (x : Int) = (x : Int) := by unfold wrap64; omega

set_option maxHeartbeats 1000000 in
theorem dlow_set (p q g off v n c s y x : Nat) (w : World) (h0 : w.cell? ⟨p, 0, none⟩ = some (.slice (some ⟨g, off, none⟩) n c)) (h1 : w.cell? ⟨p, 1, none⟩ = some (.pointer (some ⟨q, 0, none⟩)))
    (hs : w.cell? ⟨g, off + v, none⟩ = some (.int .i64 (s : Int))) (hv : v < n) (hn : n ≤ 1000) (hs6 : s ≤ 60) (hy : y < 1152921504606846976) (hx : andN (2 ^ s - 1) y = x) (hx6 : x < 1152921504606846976)
    (R : World → Prop) (hset : ∀ w' : World, w'.heap = w.heap → (∀ S w2, Only S w' w2 → Only S w w2) → Calls Tryd.prog 39 #[.pointer (some ⟨q, 0, none⟩), .int .i64 (v : Int), .int .i64 (x : Int)] w' fun e w'' => e = .returned (.int .i64 0) ∧ R w'') :
    Calls Tryd.prog 30 #[.pointer (some ⟨p, 0, none⟩), .int .i64 (v : Int), .int .u64 (y : Int)] w fun e w' => e = .returned (.int .i64 0) ∧ R w' := by
  have HG := Lib.hid hset
  have hv0 : (0 : Int) ≤ (v : Int) := Int.natCast_nonneg _
  have hv1 : (v : Int) < (n : Int) := by omega
  have hs0 : (0 : Int) ≤ (s : Int) := Int.natCast_nonneg _
  have hs1 : (s : Int) < 64 := by omega
  have hm := mask_val s y hs6 hy
  rw [hx] at hm
  have HM := Lib.hid hm
  have HC := Lib.hid (conv_val x hx6)
  clear hset hm hx
  go_enter Tryd.func30, Tryd.ntmps30
  go_wp2_with fail
  go_still_tail 17, (by kernel_rfl)
  obtain ⟨u, hu⟩ : ∃ u, u = w.drew := ⟨_, rfl⟩
  change wpList _ _ _ _ _ w.drew
  rw [← hu]
  have HG2 := Lib.hid (HG.out u (by rw [hu]; rfl) (fun S w2 h => ((Only.refl S w).drew).trans (hu ▸ h)))
  have g0 : u.cell? ⟨p, 0, none⟩ = some (.slice (some ⟨g, off, none⟩) n c) := by rw [hu]; exact h0
  have g1 : u.cell? ⟨p, 1, none⟩ = some (.pointer (some ⟨q, 0, none⟩)) := by rw [hu]; exact h1
  have gs : u.cell? ⟨g, off + v, none⟩ = some (.int .i64 (s : Int)) := by rw [hu]; exact hs
  clear h0 h1 hs hu HG
  go_wp2_with fail
  rw [HM.out, HC.out]
  refine (HG2.out).mono ?_
  rintro e w' ⟨rfl, hR⟩
  go_wp2
  go_ret
  exact ⟨rfl, hR⟩

section
variable {w w' : World} {p q B : Nat} {sz : List Nat} {I : List (List Bool)} {T : List (List (List Bool))} {fp : List Nat}
theorem gks_set (v : Nat) (l : List Bool) (hv : v < I.length) : stL (gks I) (v : Int) (gk l : Int) = gks (I.set v l) := by
  unfold stL gks
  rw [if_neg (by rw [List.length_map]; omega), Int.toNat_natCast, List.map_set]
theorem Dom.set_ (h : Dom w p q B sz I T fp) {v : Nat} {l l' : List Bool} (hv : I[v]? = some l) (hl : l'.length = l.length) (hne : places l' ≠ []) (hd : Dm w' p q B sz (gks (I.set v l')) (T.map gks) fp) : Dom w' p q B sz (I.set v l') T fp := by
  have hvl : v < I.length := (List.getElem?_eq_some_iff.1 hv).1
  have he : I[v] = l := (List.getElem?_eq_some_iff.1 hv).2
  refine ⟨hd, ?_, h.tl, fun m hm => ?_, h.tok, h.n⟩
  · rw [← h.len, List.map_set, hl]
    apply List.ext_getElem?
    intro i
    rw [List.getElem?_set]
    split
    · rename_i e
      subst e
      simp [hvl, he]
    · rfl
  · rcases List.mem_or_eq_of_mem_set hm with h1 | h1
    · exact h.ok m h1
    · subst h1
      exact ⟨by rw [hl]; exact (h.ok l (List.mem_of_getElem? hv)).1, hne⟩
/-- setLeft -/
theorem dset_low (h : Dom w p q B sz I T fp) {v : Nat} {l l' : List Bool} (hv : I[v]? = some l) (hl : l'.length = l.length) (hne : places l' ≠ []) :
    Calls Tryd.prog 30 #[.pointer (some ⟨p, 0, none⟩), .int .i64 (v : Int), .int .u64 ((mk l' : Nat) : Int)] w fun e w' => e = .returned (.int .i64 0) ∧ Dom w' p q B sz (I.set v l') T fp ∧ Only fp w w' := by
  obtain ⟨g, off, c, h0, h1, hs, hvl, hn, -, -, ho⟩ := h.look hv
  have h6 : l'.length ≤ 60 := by rw [hl]; exact ho.1
  refine dlow_set p q g off v I.length c l.length (mk l') (gk l') w h0 h1 hs hvl (by omega) ho.1 (mk_lt60 h6) (by rw [← hl]; exact all_but_left h6) (gk_lt60 h6) (fun w' => Dom w' p q B sz (I.set v l') T fp ∧ Only fp w w') (fun w' hh hO => ?_)
  have hd := (h.heap hh).d
  have hgl : (gks I).length ≤ 1000 := by rw [gks, List.length_map]; omega
  refine (tset_any q (v : Int) ((gk l' : Nat) : Int) (gks I) _ fp w' hd.T hgl).mono ?_
  rintro e w2 ⟨rfl, hT, hO2⟩
  rw [gks_set v l' hvl] at hT
  refine ⟨?_, h.set_ hv hl hne (hd.trail hO2 hT hd.fpB), hO _ _ hO2⟩
  unfold stE
  rw [if_neg (by rw [gks, List.length_map]; omega)]
end

theorem drop_val (x k : Nat) (hx : x < 1152921504606846976) (hk : k < 60) : bits .andNot .u64 (x : Int) (IntKind.u64.wrap ((2 : Int) ^ k)) = ((andN x (2 ^ k) : Nat) : Int) := andNot_val x k (by omega) (by omega)
theorem only_val (x k : Nat) (hx : x < 1152921504606846976) (hk : k < 60) : bits .and .u64 (x : Int) (IntKind.u64.wrap ((2 : Int) ^ k)) = ((x &&& 2 ^ k : Nat) : Int) := by
  rw [wrap_pow k (by omega)]
  exact u64_and_nat x _ (by omega) (pow_lt64 k (by omega))
theorem quiet_drew {P : Program} {f : FuncId} {args : Array Value} {w : World} {n : Nat} {v : Value}
    (h : Calls P f args (w.drewN n) fun e w' => e = .returned v ∧ ∃ d, (w.drewN n).drewN d = w') : Calls P f args (w.drewN n) fun e w'' => e = .returned v ∧ ∃ m, w'' = w.drewN m :=
  h.mono fun _ _ ⟨he, d, hm⟩ => ⟨he, n + d, by rw [← hm]; simp [World.drewN, Nat.add_assoc]⟩

section
variable {w : World} {p q B : Nat} {sz : List Nat} {I : List (List Bool)} {T : List (List (List Bool))} {fp : List Nat}
set_option maxHeartbeats 1000000 in
theorem ddrop_last (h : Dom w p q B sz I T fp) {v k : Nat} {l : List Bool} (hv : I[v]? = some l) (hk : k < l.length) (hp : places l = [k]) :
    Calls Tryd.prog 12 #[.pointer (some ⟨p, 0, none⟩), .int .i64 (v : Int), .int .i64 (k : Int)] w fun e w' => e = .returned (.int .i64 3) ∧ ∃ d, w.drewN d = w' := by
  have ho := h.ok l (List.mem_of_getElem? hv)
  have HW := Lib.hid (dwrong_in h hv hk)
  have HL := Lib.hid (fun (w' : World) (hh : w'.heap = w.heap) => dleft_low (h.heap hh) hv)
  have hz : mk (l.set k false) = 0 := (none_left ho.2).2 hp
  have hb := drop_val (mk l) k (mk_lt60 ho.1) (by have := ho.1; omega)
  rw [but_one l k ho.1 hk, hz] at hb
  obtain ⟨x, hx⟩ : ∃ x, x = mk l := ⟨_, rfl⟩
  rw [← hx] at hb
  simp only [← hx] at HL
  have HB := Lib.hid hb
  have hk0 : (0 : Int) ≤ (k : Int) := Int.natCast_nonneg _
  have hk1 : (k : Int) < 64 := by have := ho.1; omega
  clear hb hx hz hp hv h
  go_enter Tryd.func12, Tryd.ntmps12
  go_wp2_with fail
  refine (HW.out).mono ?_
  rintro e w' ⟨rfl, rfl⟩
  go_wp2_with fail
  go_quiet ((go_at_call 29; exact quiet_drew (HL.out _ rfl)))
  rw [HB.out]
  go_wp2
  go_ret
  exact ⟨rfl, _, rfl⟩
end

end Go.Proofs.YtbidciakljpkiaaDoor
