/- Parts. -/
import Derived.Test.YtghimogdeijgdaaGreatDoorLaw17AllK40
import Derived.Test.YtghimogdeijgdaaGreatDoorLaw17AllK36
set_option maxRecDepth 10000
set_option maxHeartbeats 16000000
set_option linter.unusedVariables false
set_option linter.unusedSimpArgs false
namespace Go.Proofs.YtghimogdeijgdaaGreatDoor
open Go.RowKit
open Go.Lib hiding intOf
attribute [local go_sem ↓] Go.wp_at_zero Go.wp_at_succ
theorem rraw17_any (A0 A1 A2 Ac Al : Option Addr) (n0 n1 n2 nc nl c0 c1 c2 cc cl B Bc Bl : Nat) (h : Hst) (x : Wld) (w : World) (hg : HIn w B A0 A1 A2 n0 n1 n2 h) (hc : Row w Bc Ac (x.c.map Value.bool)) (hl : Row w Bl Al (edgeC x.l)) (hcl : x.c.length = nc) (hll : x.l.length = nl) (hM : nl ≤ 100000) (hmay : mayW h x = true) :
    Calls Tryz.prog 27 #[hval A0 A1 A2 n0 n1 n2 c0 c1 c2, .agg #[.slice Ac nc cc, .slice Al nl cl]] w fun e w'' => ∃ B0 B1 B2 d0 d1 d2, (e = .returned (.agg #[.slice B0 (makeH h x).ss.length d0, .slice B1 (makeH h x).ks.length d1, .slice B2 (makeH h x).l.length d2]) ∧ HNew w.heap.size w'' B0 B1 B2 (makeH h x)) ∧ Only [] w w'' := by
  have HI := Hd hg
  have HC := Hd hc
  have HL := Hd hl
  unfold hval
  have O1 : Only [] w (((w.alloc (.cells #[.slice A0 n0 c0, .slice A1 n1 c1, .slice A2 n2 c2] 25)).alloc (.cells #[.slice Ac nc cc, .slice Al nl cl] 29)).alloc (.cells zeroH 25)) := (((Only.refl [] w).alloc _).alloc _).alloc _
  have HO1 := Hd O1
  have HB1 := Hd (((Blk.made w 25 #[.slice A0 n0 c0, .slice A1 n1 c1, .slice A2 n2 c2]).alloc (.cells #[.slice Ac nc cc, .slice Al nl cl] 29)).alloc (.cells zeroH 25))
  have HW1 := Hd ((Blk.made (w.alloc (.cells #[.slice A0 n0 c0, .slice A1 n1 c1, .slice A2 n2 c2] 25)) 29 #[.slice Ac nc cc, .slice Al nl cl]).alloc (.cells zeroH 25))
  have HR1 := Hd (Blk.made ((w.alloc (.cells #[.slice A0 n0 c0, .slice A1 n1 c1, .slice A2 n2 c2] 25)).alloc (.cells #[.slice Ac nc cc, .slice Al nl cl] 29)) 25 zeroH)
  simp only [World.size_alloc] at HR1 HW1
  unfold zeroH at HO1 HR1 HB1 HW1
  have hn0 : n0 ≤ 1000 := by rw [← HI.out.n0]; exact HI.out.sm.ns
  have hn1 : n1 ≤ 1000 := by rw [← HI.out.n1]; exact HI.out.sm.nk
  have hn2 : n2 ≤ 1000 := by rw [← HI.out.n2]; exact HI.out.sm.nl
  clear O1 hg hc hl
  obtain ⟨is0, his, hs0, hs1, hs2⟩ := info_parts info_str
  have HL0 : Hid ((strs h.ss).length = n0 * 1) := Hd (by rw [strs, List.length_map, HI.out.n0]; omega)
  have HL1 : Hid ((strs h.ks).length = n1 * 1) := Hd (by rw [strs, List.length_map, HI.out.n1]; omega)
  have HE0 : Hid (∀ u ∈ strs h.ss, u.oneCell' = true) := Hd (by intro u hu; simp [strs] at hu; obtain ⟨x, -, rfl⟩ := hu; rfl)
  have HE1 : Hid (∀ u ∈ strs h.ks, u.oneCell' = true) := Hd (by intro u hu; simp [strs] at hu; obtain ⟨x, -, rfl⟩ := hu; rfl)
  have HRS := Hd (fun w' (O : Only [] w w') => HI.out.at_.r0.only O (fun _ h => by cases h))
  have HRK := Hd (fun w' (O : Only [] w w') => HI.out.at_.r1.only O (fun _ h => by cases h))
  go_enter Tryz.func27, Tryz.ntmps27
  go_upto_region 1 with (fail)
  generalize (((w.alloc (.cells #[.slice A0 n0 c0, .slice A1 n1 c1, .slice A2 n2 c2] 25)).alloc (.cells #[.slice Ac nc cc, .slice Al nl cl] 29)).alloc (.cells #[.slice none 0 0, .slice none 0 0, .slice none 0 0] 25)) = w1 at *
  generalize hgr : w.heap.size + 1 + 1 = gr at *
  generalize hgw : w.heap.size + 1 = gw at *
  have hg1 : w.heap.size ≤ w1.heap.size := HO1.out.size
  have hgr1 : gr < w1.heap.size := HR1.out.lt
  have RD0 := Hd fun wq (hSw : Only [] w1 wq) => Bk3 (hSw.blk HB1.out (by simp))
  refine rg1 [] [] w1 ?_
  have OW : Only [] w1 w1.drew := (Only.refl [] w1).drew
  generalize hwz : w1.drew = wz at *
  clear hwz
  refine tQ 1 (h := trq 2 0 RD0 (h := tQ 5 (h := trq 6 0 RD0 (h := ?_))))
  apply cut_5_0_2 (fun w g0 ca g4 cb g9 Aa Ab => (Only [] w1 w) ∧ (w.ownsRow w1.heap.size 9 1 (.slice Aa n0 ca) n0 (strs h.ss)) ∧ (w.ownsRow w1.heap.size 9 1 (.slice Ab n1 cb) n1 (strs h.ks)) ∧ (Blk w g9 25 #[.slice none 0 0, .slice none 0 0, .slice none 0 0]) ∧ (w1.heap.size ≤ g9) ∧ (∀ g, (Value.slice Aa n0 ca).ownBlock = some g → (Value.slice Ab n1 cb).ownBlock ≠ some g))
  intro HST0_3_4_7_9
  apply cut_4_0_1 (fun w g0 ca g4 g9 Aa => (Only [] w1 w) ∧ (w.ownsRow w1.heap.size 9 1 (.slice Aa n0 ca) n0 (strs h.ss)) ∧ (w.ownsRow w1.heap.size 9 1 (.slice (some ⟨g4, 0, none⟩) 0 0) 0 []) ∧ (Blk w g9 25 #[.slice none 0 0, .slice none 0 0, .slice none 0 0]) ∧ (w1.heap.size ≤ g9) ∧ (∀ g, (Value.slice Aa n0 ca).ownBlock = some g → (Value.slice (some ⟨g4, 0, none⟩) 0 0).ownBlock ≠ some g))
  intro HST0_3_4_9
  apply cut_4_0_2 (fun w g0 ca g4 cb Aa Ab => (Only [] w1 w) ∧ (w.ownsRow w1.heap.size 9 1 (.slice Aa n0 ca) n0 (strs h.ss)) ∧ (w.ownsRow w1.heap.size 9 1 (.slice Ab n1 cb) n1 (strs h.ks)) ∧ (∀ g, (Value.slice Aa n0 ca).ownBlock = some g → (Value.slice Ab n1 cb).ownBlock ≠ some g))
  intro HST0_3_4_7
  apply cut_3_0 (fun w g0 g4 g9 => (Only [] w1 w) ∧ (w.ownsRow w1.heap.size 9 1 (.slice (some ⟨g0, 0, none⟩) 0 0) 0 []) ∧ (w.ownsRow w1.heap.size 9 1 (.slice (some ⟨g4, 0, none⟩) 0 0) 0 []) ∧ (Blk w g9 25 #[.slice none 0 0, .slice none 0 0, .slice none 0 0]) ∧ (w1.heap.size ≤ g9) ∧ (∀ g, (Value.slice (some ⟨g0, 0, none⟩) 0 0).ownBlock = some g → (Value.slice (some ⟨g4, 0, none⟩) 0 0).ownBlock ≠ some g))
  intro HST0_4_9
  apply cut_3_0_1 (fun w g0 ca g9 Aa => (Only [] w1 w) ∧ (w.ownsRow w1.heap.size 9 1 (.slice Aa n0 ca) n0 (strs h.ss)) ∧ (Blk w g9 25 #[.slice none 0 0, .slice none 0 0, .slice none 0 0]) ∧ (w1.heap.size ≤ g9))
  intro HST0_3_9
  apply cut_3_0_1 (fun w g0 ca g4 Aa => (Only [] w1 w) ∧ (w.ownsRow w1.heap.size 9 1 (.slice Aa n0 ca) n0 (strs h.ss)) ∧ (w.ownsRow w1.heap.size 9 1 (.slice (some ⟨g4, 0, none⟩) 0 0) 0 []) ∧ (∀ g, (Value.slice Aa n0 ca).ownBlock = some g → (Value.slice (some ⟨g4, 0, none⟩) 0 0).ownBlock ≠ some g))
  intro HST0_3_4
  apply cut_2_0 (fun w g4 g9 => (Only [] w1 w) ∧ (w.ownsRow w1.heap.size 9 1 (.slice (some ⟨g4, 0, none⟩) 0 0) 0 []) ∧ (Blk w g9 25 #[.slice none 0 0, .slice none 0 0, .slice none 0 0]) ∧ (w1.heap.size ≤ g9))
  intro HST4_9
  apply cut_2_0 (fun w g0 g9 => (Only [] w1 w) ∧ (w.ownsRow w1.heap.size 9 1 (.slice (some ⟨g0, 0, none⟩) 0 0) 0 []) ∧ (Blk w g9 25 #[.slice none 0 0, .slice none 0 0, .slice none 0 0]) ∧ (w1.heap.size ≤ g9))
  intro HST0_9
  apply cut_2_0 (fun w g0 g4 => (Only [] w1 w) ∧ (w.ownsRow w1.heap.size 9 1 (.slice (some ⟨g0, 0, none⟩) 0 0) 0 []) ∧ (w.ownsRow w1.heap.size 9 1 (.slice (some ⟨g4, 0, none⟩) 0 0) 0 []) ∧ (∀ g, (Value.slice (some ⟨g0, 0, none⟩) 0 0).ownBlock = some g → (Value.slice (some ⟨g4, 0, none⟩) 0 0).ownBlock ≠ some g))
  intro HST0_4
  apply cut_2_0_1 (fun w g0 ca Aa => (Only [] w1 w) ∧ (w.ownsRow w1.heap.size 9 1 (.slice Aa n0 ca) n0 (strs h.ss)))
  intro HST0_3
  apply cut_1_0 (fun w g9 => (Only [] w1 w) ∧ (Blk w g9 25 #[.slice none 0 0, .slice none 0 0, .slice none 0 0]) ∧ (w1.heap.size ≤ g9))
  intro HST9
  apply cut_1_0 (fun w g4 => (Only [] w1 w) ∧ (w.ownsRow w1.heap.size 9 1 (.slice (some ⟨g4, 0, none⟩) 0 0) 0 []))
  intro HST4
  apply cut_1_0 (fun w g0 => (Only [] w1 w) ∧ (w.ownsRow w1.heap.size 9 1 (.slice (some ⟨g0, 0, none⟩) 0 0) 0 []))
  intro HST0
  · skip
    refine timed_forks (l := [0, 4, 9]) (by kernel_rfl) (by simp) (fork_cons ⟨_, rfl, fun K hK => ?_⟩ (fork_cons ⟨_, rfl, fun K hK => ?_⟩ (fork_cons ⟨_, rfl, fun K hK => ?_⟩ (fork_nil))))
    · go_simp
      obtain ⟨OS, OWn, OLn⟩ := lit_go 9 1 OW
      generalize wz.alloc (.cells #[] 9) = wn at *
      generalize wz.heap.size = g0 at *
      refine kOut hK (OWn) (h := ?_)
      clear hK K
      exact HST0 wn g0 ⟨OWn, OLn⟩
    · go_simp
      obtain ⟨OS, OWn, OLn⟩ := lit_go 9 1 OW
      generalize wz.alloc (.cells #[] 9) = wn at *
      generalize wz.heap.size = g4 at *
      refine kOut hK (OWn) (h := ?_)
      clear hK K
      exact HST4 wn g4 ⟨OWn, OLn⟩
    · go_simp
      obtain ⟨OS, OWn, BLn, hszn⟩ := made_go 25 (#[.slice none 0 0, .slice none 0 0, .slice none 0 0]) OW
      generalize wz.alloc (.cells #[.slice none 0 0, .slice none 0 0, .slice none 0 0] 25) = wn at *
      generalize wz.heap.size = g9 at *
      refine kOut hK (OWn) (h := ?_)
      clear hK K
      exact HST9 wn g9 ⟨OWn, BLn, hszn⟩
  · skip
    intro wz g0 ⟨OW, OL0⟩
    refine timed_forks (l := [3, 4, 9]) (by kernel_rfl) (by simp) (fork_cons ⟨_, rfl, fun K hK => ?_⟩ (fork_cons ⟨_, rfl, fun K hK => ?_⟩ (fork_cons ⟨_, rfl, fun K hK => ?_⟩ (fork_nil))))
    · refine step_append_row _ rfl (.tmp 11) (.tmp 13) 22 rfl w1.heap.size 9 is0 _ 1 16 Tryz.underlying22 his hs0 hs1 hs2 rfl (by omega) _ 0 [] (by rfl) OL0 _ _ (n0) (c0) (strs h.ss) (by rfl) (HL0.out) (HRS.out _ (HO1.out.trans OW)) (HE0.out) (by unfold maxLen; omega) (by omega) OW.size ?_
      intro a wn OVn hgrow _
      obtain ⟨OG, OWn, Aa, ca, rfl, OVm⟩ := app_go OL0 OW OVn hgrow
      refine kOut hK (OWn) (h := ?_)
      clear hK K
      exact HST0_3 wn g0 ca Aa ⟨OWn, OVm⟩
    · go_simp
      obtain ⟨OS, OWn, OLn⟩ := lit_go 9 1 OW
      have SPn0_4 : ∀ g, (Value.slice (some ⟨g0, 0, none⟩) 0 0).ownBlock = some g → (Value.slice (some ⟨wz.heap.size, 0, none⟩) 0 0).ownBlock ≠ some g := fun g hg e2 => by have := own_lt OL0 (g := g) (by rw [hg]; simp); simp [Value.ownBlock] at e2; omega
      generalize wz.alloc (.cells #[] 9) = wn at *
      generalize wz.heap.size = g4 at *
      refine kOut hK (OWn) (h := ?_)
      clear hK K
      exact HST0_4 wn g0 g4 ⟨OWn, own_only OL0 OS (by simp), OLn, SPn0_4⟩
    · go_simp
      obtain ⟨OS, OWn, BLn, hszn⟩ := made_go 25 (#[.slice none 0 0, .slice none 0 0, .slice none 0 0]) OW
      generalize wz.alloc (.cells #[.slice none 0 0, .slice none 0 0, .slice none 0 0] 25) = wn at *
      generalize wz.heap.size = g9 at *
      refine kOut hK (OWn) (h := ?_)
      clear hK K
      exact HST0_9 wn g0 g9 ⟨OWn, own_only OL0 OS (by simp), BLn, hszn⟩
  · skip
    intro wz g4 ⟨OW, OL4⟩
    refine timed_forks (l := [0, 9]) (by kernel_rfl) (by simp) (fork_cons ⟨_, rfl, fun K hK => ?_⟩ (fork_cons ⟨_, rfl, fun K hK => ?_⟩ (fork_nil)))
    · go_simp
      obtain ⟨OS, OWn, OLn⟩ := lit_go 9 1 OW
      have SPn0_4 : ∀ g, (Value.slice (some ⟨wz.heap.size, 0, none⟩) 0 0).ownBlock = some g → (Value.slice (some ⟨g4, 0, none⟩) 0 0).ownBlock ≠ some g := fun g hg e2 => by have := own_lt OL4 (g := g) (by rw [e2]; simp); simp [Value.ownBlock] at hg; omega
      generalize wz.alloc (.cells #[] 9) = wn at *
      generalize wz.heap.size = g0 at *
      refine kOut hK (OWn) (h := ?_)
      clear hK K
      exact HST0_4 wn g0 g4 ⟨OWn, OLn, own_only OL4 OS (by simp), SPn0_4⟩
    · go_simp
      obtain ⟨OS, OWn, BLn, hszn⟩ := made_go 25 (#[.slice none 0 0, .slice none 0 0, .slice none 0 0]) OW
      generalize wz.alloc (.cells #[.slice none 0 0, .slice none 0 0, .slice none 0 0] 25) = wn at *
      generalize wz.heap.size = g9 at *
      refine kOut hK (OWn) (h := ?_)
      clear hK K
      exact HST4_9 wn g4 g9 ⟨OWn, own_only OL4 OS (by simp), BLn, hszn⟩
  · skip
    intro wz g9 ⟨OW, BL9, GE9⟩
    refine timed_forks (l := [0, 4]) (by kernel_rfl) (by simp) (fork_cons ⟨_, rfl, fun K hK => ?_⟩ (fork_cons ⟨_, rfl, fun K hK => ?_⟩ (fork_nil)))
    · go_simp
      obtain ⟨OS, OWn, OLn⟩ := lit_go 9 1 OW
      generalize wz.alloc (.cells #[] 9) = wn at *
      generalize wz.heap.size = g0 at *
      refine kOut hK (OWn) (h := ?_)
      clear hK K
      exact HST0_9 wn g0 g9 ⟨OWn, OLn, OS.blk BL9 (by simp), GE9⟩
    · go_simp
      obtain ⟨OS, OWn, OLn⟩ := lit_go 9 1 OW
      generalize wz.alloc (.cells #[] 9) = wn at *
      generalize wz.heap.size = g4 at *
      refine kOut hK (OWn) (h := ?_)
      clear hK K
      exact HST4_9 wn g4 g9 ⟨OWn, OLn, OS.blk BL9 (by simp), GE9⟩
  · skip
    intro wz g0 ca Aa ⟨OW, OV3⟩
    refine timed_forks (l := [4, 9]) (by kernel_rfl) (by simp) (fork_cons ⟨_, rfl, fun K hK => ?_⟩ (fork_cons ⟨_, rfl, fun K hK => ?_⟩ (fork_nil)))
    · go_simp
      obtain ⟨OS, OWn, OLn⟩ := lit_go 9 1 OW
      have SPn0_4 : ∀ g, (Value.slice Aa n0 ca).ownBlock = some g → (Value.slice (some ⟨wz.heap.size, 0, none⟩) 0 0).ownBlock ≠ some g := fun g hg e2 => by have := own_lt OV3 (g := g) (by rw [hg]; simp); simp [Value.ownBlock] at e2; omega
      generalize wz.alloc (.cells #[] 9) = wn at *
      generalize wz.heap.size = g4 at *
      refine kOut hK (OWn) (h := ?_)
      clear hK K
      exact HST0_3_4 wn g0 ca g4 Aa ⟨OWn, own_only OV3 OS (by simp), OLn, SPn0_4⟩
    · go_simp
      obtain ⟨OS, OWn, BLn, hszn⟩ := made_go 25 (#[.slice none 0 0, .slice none 0 0, .slice none 0 0]) OW
      generalize wz.alloc (.cells #[.slice none 0 0, .slice none 0 0, .slice none 0 0] 25) = wn at *
      generalize wz.heap.size = g9 at *
      refine kOut hK (OWn) (h := ?_)
      clear hK K
      exact HST0_3_9 wn g0 ca g9 Aa ⟨OWn, own_only OV3 OS (by simp), BLn, hszn⟩
  · skip
    intro wz g0 g4 ⟨OW, OL0, OL4, SP0_4⟩
    refine timed_forks (l := [3, 9]) (by kernel_rfl) (by simp) (fork_cons ⟨_, rfl, fun K hK => ?_⟩ (fork_cons ⟨_, rfl, fun K hK => ?_⟩ (fork_nil)))
    · refine step_append_row _ rfl (.tmp 11) (.tmp 13) 22 rfl w1.heap.size 9 is0 _ 1 16 Tryz.underlying22 his hs0 hs1 hs2 rfl (by omega) _ 0 [] (by rfl) OL0 _ _ (n0) (c0) (strs h.ss) (by rfl) (HL0.out) (HRS.out _ (HO1.out.trans OW)) (HE0.out) (by unfold maxLen; omega) (by omega) OW.size ?_
      intro a wn OVn hgrow hat
      have SPn0_4 : ∀ g, a.ownBlock = some g → (Value.slice (some ⟨g4, 0, none⟩) 0 0).ownBlock ≠ some g := fun g hg e2 => hat.elim (fun e => SP0_4 g (e.symm.trans hg) e2) (fun e => by have h := e.symm.trans hg; cases h; have := own_lt OL4 (g := wz.heap.size) (by rw [e2]; simp); omega)
      clear hat
      obtain ⟨OG, OWn, Aa, ca, rfl, OVm⟩ := app_go OL0 OW OVn hgrow
      refine kOut hK (OWn) (h := ?_)
      clear hK K
      exact HST0_3_4 wn g0 ca g4 Aa ⟨OWn, OVm, own_only OL4 OG (fun g hg hm => SP0_4 g (Option.mem_toList.1 hm) hg), SPn0_4⟩
    · go_simp
      obtain ⟨OS, OWn, BLn, hszn⟩ := made_go 25 (#[.slice none 0 0, .slice none 0 0, .slice none 0 0]) OW
      generalize wz.alloc (.cells #[.slice none 0 0, .slice none 0 0, .slice none 0 0] 25) = wn at *
      generalize wz.heap.size = g9 at *
      refine kOut hK (OWn) (h := ?_)
      clear hK K
      exact HST0_4_9 wn g0 g4 g9 ⟨OWn, own_only OL0 OS (by simp), own_only OL4 OS (by simp), BLn, hszn, SP0_4⟩
  · skip
    intro wz g0 g9 ⟨OW, OL0, BL9, GE9⟩
    refine timed_forks (l := [3, 4]) (by kernel_rfl) (by simp) (fork_cons ⟨_, rfl, fun K hK => ?_⟩ (fork_cons ⟨_, rfl, fun K hK => ?_⟩ (fork_nil)))
    · refine step_append_row _ rfl (.tmp 11) (.tmp 13) 22 rfl w1.heap.size 9 is0 _ 1 16 Tryz.underlying22 his hs0 hs1 hs2 rfl (by omega) _ 0 [] (by rfl) OL0 _ _ (n0) (c0) (strs h.ss) (by rfl) (HL0.out) (HRS.out _ (HO1.out.trans OW)) (HE0.out) (by unfold maxLen; omega) (by omega) OW.size ?_
      intro a wn OVn hgrow _
      obtain ⟨OG, OWn, Aa, ca, rfl, OVm⟩ := app_go OL0 OW OVn hgrow
      refine kOut hK (OWn) (h := ?_)
      clear hK K
      exact HST0_3_9 wn g0 ca g9 Aa ⟨OWn, OVm, OG.blk BL9 (own_apart OL0 BL9 (by decide)), GE9⟩
    · go_simp
      obtain ⟨OS, OWn, OLn⟩ := lit_go 9 1 OW
      have SPn0_4 : ∀ g, (Value.slice (some ⟨g0, 0, none⟩) 0 0).ownBlock = some g → (Value.slice (some ⟨wz.heap.size, 0, none⟩) 0 0).ownBlock ≠ some g := fun g hg e2 => by have := own_lt OL0 (g := g) (by rw [hg]; simp); simp [Value.ownBlock] at e2; omega
      generalize wz.alloc (.cells #[] 9) = wn at *
      generalize wz.heap.size = g4 at *
      refine kOut hK (OWn) (h := ?_)
      clear hK K
      exact HST0_4_9 wn g0 g4 g9 ⟨OWn, own_only OL0 OS (by simp), OLn, OS.blk BL9 (by simp), GE9, SPn0_4⟩
  · skip
    intro wz g4 g9 ⟨OW, OL4, BL9, GE9⟩
    refine tst (i := 0) fun K hK => ?_
    go_simp
    obtain ⟨OS, OWn, OLn⟩ := lit_go 9 1 OW
    have SPn0_4 : ∀ g, (Value.slice (some ⟨wz.heap.size, 0, none⟩) 0 0).ownBlock = some g → (Value.slice (some ⟨g4, 0, none⟩) 0 0).ownBlock ≠ some g := fun g hg e2 => by have := own_lt OL4 (g := g) (by rw [e2]; simp); simp [Value.ownBlock] at hg; omega
    generalize wz.alloc (.cells #[] 9) = wn at *
    generalize wz.heap.size = g0 at *
    refine kOut hK (OWn) (h := ?_)
    clear hK K
    exact HST0_4_9 wn g0 g4 g9 ⟨OWn, OLn, own_only OL4 OS (by simp), OS.blk BL9 (by simp), GE9, SPn0_4⟩
  · skip
    intro wz g0 ca g4 Aa ⟨OW, OV3, OL4, SP0_4⟩
    refine timed_forks (l := [7, 9]) (by kernel_rfl) (by simp) (fork_cons ⟨_, rfl, fun K hK => ?_⟩ (fork_cons ⟨_, rfl, fun K hK => ?_⟩ (fork_nil)))
    · refine step_append_row _ rfl (.tmp 15) (.tmp 17) 22 rfl w1.heap.size 9 is0 _ 1 16 Tryz.underlying22 his hs0 hs1 hs2 rfl (by omega) _ 0 [] (by rfl) OL4 _ _ (n1) (c1) (strs h.ks) (by rfl) (HL1.out) (HRK.out _ (HO1.out.trans OW)) (HE1.out) (by unfold maxLen; omega) (by omega) OW.size ?_
      intro b wn OVn hgrow hat
      have SPn0_4 : ∀ g, (Value.slice Aa n0 ca).ownBlock = some g → b.ownBlock ≠ some g := fun g hg e2 => hat.elim (fun e => SP0_4 g hg (e.symm.trans e2)) (fun e => by have h := e.symm.trans e2; cases h; have := own_lt OV3 (g := wz.heap.size) (by rw [hg]; simp); omega)
      clear hat
      obtain ⟨OG, OWn, Ab, cb, rfl, OVm⟩ := app_go OL4 OW OVn hgrow
      refine kOut hK (OWn) (h := ?_)
      clear hK K
      refine tQ 8 (h := ?_)
      exact HST0_3_4_7 wn g0 ca g4 cb Aa Ab ⟨OWn, own_only OV3 OG (fun g hg hm => SP0_4 g hg (Option.mem_toList.1 hm)), OVm, SPn0_4⟩
    · go_simp
      obtain ⟨OS, OWn, BLn, hszn⟩ := made_go 25 (#[.slice none 0 0, .slice none 0 0, .slice none 0 0]) OW
      generalize wz.alloc (.cells #[.slice none 0 0, .slice none 0 0, .slice none 0 0] 25) = wn at *
      generalize wz.heap.size = g9 at *
      refine kOut hK (OWn) (h := ?_)
      clear hK K
      exact HST0_3_4_9 wn g0 ca g4 g9 Aa ⟨OWn, own_only OV3 OS (by simp), own_only OL4 OS (by simp), BLn, hszn, SP0_4⟩
  · skip
    intro wz g0 ca g9 Aa ⟨OW, OV3, BL9, GE9⟩
    refine tst (i := 4) fun K hK => ?_
    go_simp
    obtain ⟨OS, OWn, OLn⟩ := lit_go 9 1 OW
    have SPn0_4 : ∀ g, (Value.slice Aa n0 ca).ownBlock = some g → (Value.slice (some ⟨wz.heap.size, 0, none⟩) 0 0).ownBlock ≠ some g := fun g hg e2 => by have := own_lt OV3 (g := g) (by rw [hg]; simp); simp [Value.ownBlock] at e2; omega
    generalize wz.alloc (.cells #[] 9) = wn at *
    generalize wz.heap.size = g4 at *
    refine kOut hK (OWn) (h := ?_)
    clear hK K
    exact HST0_3_4_9 wn g0 ca g4 g9 Aa ⟨OWn, own_only OV3 OS (by simp), OLn, OS.blk BL9 (by simp), GE9, SPn0_4⟩
  · skip
    intro wz g0 g4 g9 ⟨OW, OL0, OL4, BL9, GE9, SP0_4⟩
    refine tst (i := 3) fun K hK => ?_
    refine step_append_row _ rfl (.tmp 11) (.tmp 13) 22 rfl w1.heap.size 9 is0 _ 1 16 Tryz.underlying22 his hs0 hs1 hs2 rfl (by omega) _ 0 [] (by rfl) OL0 _ _ (n0) (c0) (strs h.ss) (by rfl) (HL0.out) (HRS.out _ (HO1.out.trans OW)) (HE0.out) (by unfold maxLen; omega) (by omega) OW.size ?_
    intro a wn OVn hgrow hat
    have SPn0_4 : ∀ g, a.ownBlock = some g → (Value.slice (some ⟨g4, 0, none⟩) 0 0).ownBlock ≠ some g := fun g hg e2 => hat.elim (fun e => SP0_4 g (e.symm.trans hg) e2) (fun e => by have h := e.symm.trans hg; cases h; have := own_lt OL4 (g := wz.heap.size) (by rw [e2]; simp); omega)
    clear hat
    obtain ⟨OG, OWn, Aa, ca, rfl, OVm⟩ := app_go OL0 OW OVn hgrow
    refine kOut hK (OWn) (h := ?_)
    clear hK K
    exact HST0_3_4_9 wn g0 ca g4 g9 Aa ⟨OWn, OVm, own_only OL4 OG (fun g hg hm => SP0_4 g (Option.mem_toList.1 hm) hg), OG.blk BL9 (own_apart OL0 BL9 (by decide)), GE9, SPn0_4⟩
  · skip
    intro wz g0 ca g4 cb Aa Ab ⟨OW, OV3, OV7, SP0_4⟩
    refine tst (i := 9) fun K hK => ?_
    go_simp
    obtain ⟨OS, OWn, BLn, hszn⟩ := made_go 25 (#[.slice none 0 0, .slice none 0 0, .slice none 0 0]) OW
    generalize wz.alloc (.cells #[.slice none 0 0, .slice none 0 0, .slice none 0 0] 25) = wn at *
    generalize wz.heap.size = g9 at *
    refine kOut hK (OWn) (h := ?_)
    clear hK K
    exact HST0_3_4_7_9 wn g0 ca g4 cb g9 Aa Ab ⟨OWn, own_only OV3 OS (by simp), own_only OV7 OS (by simp), BLn, hszn, SP0_4⟩
  · skip
    intro wz g0 ca g4 g9 Aa ⟨OW, OV3, OL4, BL9, GE9, SP0_4⟩
    refine tst (i := 7) fun K hK => ?_
    refine step_append_row _ rfl (.tmp 15) (.tmp 17) 22 rfl w1.heap.size 9 is0 _ 1 16 Tryz.underlying22 his hs0 hs1 hs2 rfl (by omega) _ 0 [] (by rfl) OL4 _ _ (n1) (c1) (strs h.ks) (by rfl) (HL1.out) (HRK.out _ (HO1.out.trans OW)) (HE1.out) (by unfold maxLen; omega) (by omega) OW.size ?_
    intro b wn OVn hgrow hat
    have SPn0_4 : ∀ g, (Value.slice Aa n0 ca).ownBlock = some g → b.ownBlock ≠ some g := fun g hg e2 => hat.elim (fun e => SP0_4 g hg (e.symm.trans e2)) (fun e => by have h := e.symm.trans e2; cases h; have := own_lt OV3 (g := wz.heap.size) (by rw [hg]; simp); omega)
    clear hat
    obtain ⟨OG, OWn, Ab, cb, rfl, OVm⟩ := app_go OL4 OW OVn hgrow
    refine kOut hK (OWn) (h := ?_)
    clear hK K
    refine tQ 8 (h := ?_)
    exact HST0_3_4_7_9 wn g0 ca g4 cb g9 Aa Ab ⟨OWn, own_only OV3 OG (fun g hg hm => SP0_4 g hg (Option.mem_toList.1 hm)), OVm, OG.blk BL9 (own_apart OL4 BL9 (by decide)), GE9, SPn0_4⟩
  -- behind all of the crowd
  intro wz g0 ca g4 cb g9 Aa Ab ⟨OW, OV3, OV7, BL9, GE9, SP0_4⟩
  refine tst (i := 10) fun K hK => ?_
  refine wp_store_blk 25 (.tmp 5) (.tmp 19) rfl g9 25 _ #[.slice Aa n0 ca, .slice Ab n1 cb, .slice none 0 0] rfl rfl BL9 rfl (by kernel_rfl) (by kernel_rfl) ?_
  intro w9 b9 o9
  have OW9 := OW.step o9 (fun i hi hl => by simp at hi; omega)
  refine kOut hK (OW9) (h := ?_)
  clear hK K
  refine tdn ?_
  have HO9 := Hd (HO1.out.trans OW9)
  have HB9 := Hd (OW9.blk HB1.out (by simp))
  have HW9 := Hd (OW9.blk HW1.out (by simp))
  have HR9 := Hd (OW9.blk HR1.out (by simp))
  have HG9 := Hd b9
  have HU9 := Hd (own_only OV3 o9 (fun g hg hm => by simp at hm; subst hm; exact own_apart OV3 BL9 (by decide) (by rw [hg]; simp)))
  have HK9 := Hd (own_only OV7 o9 (fun g hg hm => by simp at hm; subst hm; exact own_apart OV7 BL9 (by decide) (by rw [hg]; simp)))
  have hge9 := GE9
  have HSP := Hd SP0_4
  have hge9 := GE9
  clear OV3 OV7 BL9 o9 b9 OW9 HB1 HW1 HR1 HO1 SP0_4 GE9 OW HL0 HL1 HE0 HE1 HRS HRK
  obtain ⟨hx0, hx1, hx2, hx3⟩ : mayH h = true ∧ x.c.length = (whichL infoB h.l).length ∧ x.l.length = (lostX h.l).length ∧ x.l.all okV = true := by
    unfold mayW at hmay
    simpa using hmay
  have HCM := Hd (fun w' (O : Only [] w w') => rcommits16_any A0 A1 A2 Ac Al n0 n1 n2 nc nl c0 c1 c2 cc cl B Bc h x.c w' (HI.out.same O) (HC.out.only O (by simp)) hcl (by rw [← hx1, hcl]))
  have HLT : Hid (nl = lostT h.l) := Hd (by rw [← hll, hx2, lostXw_len])
  have HLL := Hd hll
  clear hx0 hx1 hx2 hx3 hmay hcl hll HC
  unfold hval at HCM
  have HCSD : ∃ CS, CS = comL h.l x.c := ⟨_, rfl⟩
  obtain ⟨CS, hCS⟩ := HCSD
  rw [← hCS] at HCM
  have HCS := Hd hCS
  have HCL : Hid (CS.length = n2) := Hd (by rw [hCS, comL_len, HI.out.n2])
  clear hCS
  have lB := HB9.out.lt
  have y0 := HB9.out.at_ 0
  have y1 := HB9.out.at_ 1
  have y2 := HB9.out.at_ 2
  have lW := HW9.out.lt
  have x0 := HW9.out.at_ 0
  have x1 := HW9.out.at_ 1
  simp at y0 y1 y2 x0 x1
  go_wp2_with fail
  refine (HCM.out _ HO9.out).mono ?_
  rintro e wb ⟨VC, ⟨rfl, hVC⟩, Ob⟩
  obtain ⟨AC, cC, rfl, -, -, -, hRC⟩ := own_row hVC
  have hw9 := HO9.out.size
  have HKb : Hid (RK w wb #[.slice A0 n0 c0, .slice A1 n1 c1, .slice A2 n2 c2] w.heap.size gr g9 #[.slice Aa n0 ca, .slice Ab n1 cb, .slice none 0 0] ([rBo (.slice AC n2 cC) CS, rS (.slice Aa n0 ca) h.ss, rS (.slice Ab n1 cb) h.ks, rT (.slice none 0 0) []] ++ ([] : List TxA).map eRow)) := Hd (by
    have hu := own_only HU9.out Ob (by simp)
    have hk := own_only HK9.out Ob (by simp)
    have hR : ORs wb w.heap.size [rBo (.slice AC n2 cC) CS, rS (.slice Aa n0 ca) h.ss, rS (.slice Ab n1 cb) h.ks] := ors_three
      (by unfold OR.ok rBo; dsimp only; rw [HCL.out]; exact own_lower hVC hw9)
      (by unfold OR.ok rS; dsimp only; rw [HI.out.n0]; exact own_lower hu hg1)
      (by unfold OR.ok rS; dsimp only; rw [HI.out.n1]; exact own_lower hk hg1)
      (fun g hg e => own_two hVC hu (by decide) g hg (by have e' : (Value.slice Aa n0 ca).ownBlock = some g := e; simp [e']))
      (fun g hg e => own_two hVC hk (by decide) g hg (by have e' : (Value.slice Ab n1 cb).ownBlock = some g := e; simp [e']))
      (fun g hg e => HSP.out g hg e)
    have hK : RK w wb #[.slice A0 n0 c0, .slice A1 n1 c1, .slice A2 n2 c2] w.heap.size gr g9 #[.slice Aa n0 ca, .slice Ab n1 cb, .slice none 0 0] [rBo (.slice AC n2 cC) CS, rS (.slice Aa n0 ca) h.ss, rS (.slice Ab n1 cb) h.ks] :=
      { bh := Ob.blk HB9.out (by simp)
        br := Ob.blk HR9.out (by simp)
        bg := Ob.blk HG9.out (by simp)
        rows := hR
        o := HO9.out.trans Ob
        d01 := by omega
        d1G := by omega
        base := Nat.le_refl _
        ty := fun r hr => by
          simp at hr
          rcases hr with rfl | rfl | rfl
          · show 4 ≠ 25; decide
          · show 9 ≠ 25; decide
          · show 9 ≠ 25; decide }
    exact hK.push (r' := rT (.slice none 0 0) []) (World.ownsRow_nil _ _ _ _) rfl (by show 48 ≠ 25; decide))
  have HWb := Hd (Ob.blk HW9.out (by simp))
  have hgw1 : w.heap.size ≤ gw := by omega
  clear Ob hVC hRC HO9 HB9 HW9 HR9 HG9 HU9 HK9 lB y0 y1 y2 lW x0 x1 HCM HSP hw9
  obtain ⟨io, hio, ho0, ho1, ho2⟩ := info_parts info_op
  obtain ⟨ix, hix, hx0, hx1, hx2⟩ := info_parts info_txn
  have HNO := Hd HI.out.sm.no
  have HLN := Hd HI.out.n2
  have HIL := Hd HI.out.at_.r2
  go_wp2_with fail
  go_loopw [7, 8] (fun qv iv wr => ∃ (k : Nat) (V : Value) (xs : List TxA), qv = .int .i64 (lostT (h.l.take k) : Int) ∧ iv = .int .i64 k ∧ k ≤ n2 ∧ Hid (xs.map TxA.t = fillT (h.l.take k) CS x.l) ∧ Hid (∀ x ∈ xs, x.t.ops.length ≤ x.cp ∧ x.cp ≤ maxLen) ∧ Hid (Blk wr gw 29 #[.slice Ac nc cc, .slice Al nl cl]) ∧
    Hid (RK w wr #[.slice A0 n0 c0, .slice A1 n1 c1, .slice A2 n2 c2] w.heap.size gr g9 #[.slice Aa n0 ca, .slice Ab n1 cb, V] ([rBo (.slice AC n2 cC) CS, rS (.slice Aa n0 ca) h.ss, rS (.slice Ab n1 cb) h.ks, rT V xs] ++ xs.map eRow))) (fun _ iv _ => n2 - (intOf iv).toNat)
  case atStart => exact ⟨0, .slice none 0 0, [], rfl, rfl, by omega, Hd rfl, Hd (by simp), HWb, HKb⟩
  case round =>
    obtain ⟨k, V, xs, rfl, rfl, hk, hXS, hCP, hW, hK⟩ := hrel
    clear HKb HWb
    have hxl : xs.length = k := by
      have := congrArg List.length hXS.out
      rw [List.length_map, fillT_len, List.length_take, HLN.out, Nat.min_eq_left hk] at this
      exact this
    have lB := hK.out.bh.lt
    have y2 := hK.out.bh.at_ 2
    simp at y2
    by_cases hlt : k < n2
    · obtain ⟨t, ht⟩ : ∃ t, h.l[k]? = some t := ⟨_, List.getElem?_eq_getElem (by rw [HLN.out]; exact hlt)⟩
      obtain ⟨bt, ot, AT, cpt, rfl, hbtB, hbtw, hTA, hOk⟩ := HIL.out.at_ ht
      obtain ⟨a0, a1, a2⟩ := hTA.only hK.out.o hbtw (by simp)
      have hwg : w.heap.size ≤ wr.heap.size := hK.out.o.size
      have hbtr : bt < wr.heap.size := Nat.lt_of_lt_of_le hbtw hwg
      have hno := HNO.out t (List.mem_of_getElem? ht)
      have HROW := Hd hOk.row
      have hle := hOk.le
      have hcap := hOk.cap
      have HFT := Hd (fillT_take ht CS x.l)
      have HTK := Hd (lostT_take ht)
      have HIN := Hd (fun (j : Nat) (o : Op4) (ho : t.ops[j]? = some o) (e : o.vk = 2) => lostw_in ht ho e)
      obtain ⟨cb', hcb⟩ : ∃ b, CS[k]? = some b := ⟨_, List.getElem?_eq_getElem (by rw [HCL.out]; exact hlt)⟩
      have HCB : Hid (CS.getD k false = cb') := Hd (by rw [List.getD_eq_getElem?_getD, hcb]; rfl)
      have HCK := Hd hcb
      have h01 : (k : Int) < (n2 : Int) := by omega
      have hk0 : (0 : Int) ≤ (k : Int) := Int.natCast_nonneg _
      have hwk : IntKind.i64.wrap ((k : Int) + 1) = (k : Int) + 1 := IntWalk.i64_in _ (by omega)
      obtain ⟨us, hus⟩ : ∃ us, x.l.drop (lostT (h.l.take k)) = us := ⟨_, rfl⟩
      have HUS := Hd hus
      generalize hlk : lostT (h.l.take k) = lk at *
      obtain ⟨ts, tf, ops⟩ := t
      dsimp only at a0 a1 a2 hno HROW hle HFT HTK HIN
      generalize hmm : ops.length = m at *
      have HMM := Hd hmm
      clear ht hOk hTA hmm hcb hus
      go_upto_region 7 with (fail)
      have O2 : Only [] wr (wr.alloc (.cells #[.int .i64 ts, .int .i64 tf, .slice AT m cpt] 48)) := (Only.refl [] wr).alloc _
      have HT2 := Hd (RTx.begin_ hK.out hW.out (fun r hr => by
        rcases List.mem_append.1 hr with h1 | h1
        · simp at h1
          rcases h1 with rfl | rfl | rfl | rfl
          · show 4 ≠ 29; decide
          · show 9 ≠ 29; decide
          · show 9 ≠ 29; decide
          · show 48 ≠ 29; decide
        · obtain ⟨z, -, rfl⟩ := List.mem_map.1 h1
          show 55 ≠ 29; decide) O2 (Blk.made wr 48 #[.int .i64 ts, .int .i64 tf, .slice AT m cpt]) (Nat.le_refl _))
      obtain ⟨L, hL⟩ : ∃ L, ([rBo (.slice AC n2 cC) CS, rS (.slice Aa n0 ca) h.ss, rS (.slice Ab n1 cb) h.ks, rT V xs] ++ xs.map eRow) = L := ⟨_, rfl⟩
      rw [hL] at HT2
      have HL0 : Hid (L[0]? = some (rBo (.slice AC n2 cC) CS)) := Hd (by rw [← hL]; rfl)
      have HL3 : Hid (L[3]? = some (rT V xs)) := Hd (by rw [← hL]; rfl)
      have HLE := Hd hL
      clear hL
      clear a0 a1 a2 lB y2 hK hW O2
      generalize (wr.alloc (.cells #[.int .i64 ts, .int .i64 tf, .slice AT m cpt] 48)) = w2 at *
      generalize wr.heap.size = gt at *
      have lT := HT2.out.t.lt
      have t2 := HT2.out.t.at_ 2
      have f2 := HT2.out.t.free 2
      simp at t2
      have hw2 : w.heap.size ≤ w2.heap.size := HT2.out.k.o.size
      have HLT2 : Hid ((w2.alloc (.cells #[] 55)).ownsRow w.heap.size 55 4 (.slice (some ⟨w2.heap.size, 0, none⟩) 0 0) 0 []) := Hd (World.ownsRow_lit w2 #[] 0 (by omega) (by unfold maxLen; omega) rfl)
      have HRQ : Hid (Row (w2.alloc (.cells #[] 55)) B AT (opC ops)) := Hd (HROW.out.only (HT2.out.k.o.alloc _) (by simp))
      have hlq4 : (opC ops).length = m * 4 := by rw [opC_len, HMM.out]
      unfold maxLen at hcap
      go_upto_region 8 with (
        at_builtin
        refine wpList_append_row _ rfl (.tmp 35) (.tmp 37) _ rfl w.heap.size 55 io _ 4 32 Tryz.underlying46 hio ho0 ho1 ho2 rfl (by omega) (.slice (some ⟨w2.heap.size, 0, none⟩) 0 0) 0 [] rfl HLT2.out _ AT m cpt (opC ops) (by rfl) hlq4 HRQ.out (one_opC _) (by unfold maxLen; omega) (by omega) (by simp; omega) ?_
        intro v4 w4 hown4 hgrow4 hat4
        have O4 : Only [] w2 w4 := ((Only.refl [] w2).alloc (.cells #[] 55)).step (only_grown hgrow4) (fun i hi hl => by have h2 : i = w2.heap.size := (by simpa [Value.ownBlock] using hi); omega)
        have hown4' : w4.ownsRow w.heap.size 55 4 v4 m (opC ops) := by simpa using hown4
        obtain ⟨A4, c4, e4, hm4, hc4, -, -⟩ := own_row hown4'
        subst e4
        have HT4 := Hd (HT2.out.fresh (r := rO (.slice A4 m c4) ops) O4 (by unfold OR.ok rO; dsimp only; rw [HMM.out]; exact hown4') (by show 55 ≠ 25; decide) (by show 55 ≠ 29; decide) (fun g hg => by
          have hg' : (Value.slice A4 m c4).ownBlock = some g := hg
          rcases hat4 with e | e
          · rw [e] at hg'
            simp [Value.ownBlock] at hg'
            omega
          · rw [e] at hg'
            simp at hg'
            omega))
        clear hown4 hgrow4 hat4 O4 hown4' lT t2 f2
        have lT := HT4.out.t.lt
        have t2 := HT4.out.t.at_ 2
        have f2 := HT4.out.t.free 2
        simp at t2)
      have HT5 := Hd (HT4.out.setT 2 (.slice A4 m c4))
      have HT5 : Hid (RTx w (w4.setCell ⟨gt, 2, none⟩ (.slice A4 m c4)) #[.slice A0 n0 c0, .slice A1 n1 c1, .slice (some ⟨bt, ot, none⟩) n2 c2] w.heap.size gr g9 #[.slice Aa n0 ca, .slice Ab n1 cb, V] (L ++ [rO (.slice A4 m c4) ops]) gt gw #[.int .i64 ts, .int .i64 tf, .slice A4 m c4] #[.slice Ac nc cc, .slice Al nl cl]) := HT5
      clear HT4 HT2 HLT2 HRQ hlq4 lT t2 f2 hle hcap
      generalize (w4.setCell ⟨gt, 2, none⟩ (.slice A4 m c4)) = w5 at *
      have lT := HT5.out.t.lt
      have f1 := HT5.out.t.free 1
      have t1 := HT5.out.t.at_ 1
      simp at t1
      go_upto_region 9 with (fail)
      have HT6 : Hid (RTx w (w5.setCell ⟨gt, 1, none⟩ (.int .i64 2)) #[.slice A0 n0 c0, .slice A1 n1 c1, .slice (some ⟨bt, ot, none⟩) n2 c2] w.heap.size gr g9 #[.slice Aa n0 ca, .slice Ab n1 cb, V] (L ++ [rO (.slice A4 m c4) ops]) gt gw #[.int .i64 ts, .int .i64 2, .slice A4 m c4] #[.slice Ac nc cc, .slice Al nl cl]) := Hd (HT5.out.setT 1 (.int .i64 2))
      clear HT5 lT f1 t1
      generalize (w5.setCell ⟨gt, 1, none⟩ (.int .i64 2)) = w6 at *
      have hr0 : w6.ownsRow w.heap.size 4 1 (.slice AC n2 cC) n2 (CS.map Value.bool) := by
        have := HT6.out.row HL0.out
        unfold OR.ok rBo at this
        dsimp only at this
        rwa [HCL.out] at this
      obtain ⟨bc, rfl, -, hbc⟩ := own_head hr0 (by omega)
      have bb0 := (own_cell hr0 rfl (j := k) (u := .bool cb') (by rw [List.getElem?_map, HCK.out]; rfl)).1
      have lT := HT6.out.t.lt
      have f1 := HT6.out.t.free 1
      have t1 := HT6.out.t.at_ 1
      simp at t1
      clear hr0
      go_upto_if 44 with (fail)
      go_cut [7] (fun qv wx => qv = .int .i64 (lk : Int) ∧ Hid (RTx w wx #[.slice A0 n0 c0, .slice A1 n1 c1, .slice (some ⟨bt, ot, none⟩) n2 c2] w.heap.size gr g9 #[.slice Aa n0 ca, .slice Ab n1 cb, V] (L ++ [rO (.slice A4 m c4) ops]) gt gw #[.int .i64 ts, .int .i64 (if cb' = true then 1 else 2), .slice A4 m c4] #[.slice Ac nc cc, .slice Al nl cl]))
      case first =>
        cases cb' with
        | true =>
          go_wp2
          go_meet
          exact ⟨rfl, Hd (HT6.out.setT 1 (.int .i64 1))⟩
        | false =>
          go_wp2
          go_meet
          exact ⟨rfl, HT6⟩
      case rest =>
        obtain ⟨rfl, HT7⟩ := hcut
        obtain ⟨wd, hwd⟩ : ∃ wd, wd = wc := ⟨_, rfl⟩
        subst hwd
        clear HT6 lT f1 t1 bb0 hbc
        obtain ⟨ft, hft⟩ : ∃ ft : Int, ft = (if cb' = true then 1 else 2) := ⟨_, rfl⟩
        rw [← hft] at HT7
        have HFTE := Hd hft
        clear hft
        have HST : Hid (RTx w wd #[.slice A0 n0 c0, .slice A1 n1 c1, .slice (some ⟨bt, ot, none⟩) n2 c2] w.heap.size gr g9 #[.slice Aa n0 ca, .slice Ab n1 cb, V] (L ++ [rO (.slice A4 m c4) (stO ops us 0)]) gt gw #[.int .i64 ts, .int .i64 ft, .slice A4 m c4] #[.slice Ac nc cc, .slice Al nl cl]) := by rw [stO_zero]; exact HT7
        clear HT7
        go_upto_block 2 with fail
        go_cut [7] (fun qv wx => qv = .int .i64 ((lk + lostN ops : Nat) : Int) ∧ Hid (RTx w wx #[.slice A0 n0 c0, .slice A1 n1 c1, .slice (some ⟨bt, ot, none⟩) n2 c2] w.heap.size gr g9 #[.slice Aa n0 ca, .slice Ab n1 cb, V] (L ++ [rO (.slice A4 m c4) (fillO ops us)]) gt gw #[.int .i64 ts, .int .i64 ft, .slice A4 m c4] #[.slice Ac nc cc, .slice Al nl cl]))
        case first =>
          go_wp2_with fail
          go_loopw [7, 10] (fun qv jv wr => ∃ j : Nat, qv = .int .i64 ((lk + lostN (ops.take j) : Nat) : Int) ∧ jv = .int .i64 j ∧ j ≤ m ∧ Hid (RTx w wr #[.slice A0 n0 c0, .slice A1 n1 c1, .slice (some ⟨bt, ot, none⟩) n2 c2] w.heap.size gr g9 #[.slice Aa n0 ca, .slice Ab n1 cb, V] (L ++ [rO (.slice A4 m c4) (stO ops us j)]) gt gw #[.int .i64 ts, .int .i64 ft, .slice A4 m c4] #[.slice Ac nc cc, .slice Al nl cl])) (fun _ jv _ => m - (intOf jv).toNat)
          case atStart => exact ⟨0, rfl, rfl, by omega, HST⟩
          case round =>
            obtain ⟨j, rfl, rfl, hj, hT⟩ := hrel
            clear HST
            have lT := hT.out.t.lt
            have t2 := hT.out.t.at_ 2
            simp at t2
            by_cases hlt2 : j < m
            · have hSL : (stO ops us j).length = m := by rw [stO_len, HMM.out]
              obtain ⟨ob, rfl, hob0, hob⟩ := own_head (hT.out.ops hSL) (by omega)
              obtain ⟨o, ho⟩ : ∃ o, ops[j]? = some o := ⟨_, List.getElem?_eq_getElem (by rw [HMM.out]; exact hlt2)⟩
              have hso := stO_get us ho
              have HOW := Hd (hT.out.ops hSL)
              have v2 := (own_cell HOW.out rfl (j := j * 4 + 2) (u := .int .i64 o.vk) (opC_get _ _ _ hso 2 (by omega))).1
              have HO := Hd ho
              have HSO := Hd hso
              have HSL := Hd hSL
              have HLK := Hd (lostN_take ho)
              have hlb := lostN_take_le ops j
              have h02 : (j : Int) < (m : Int) := by omega
              have hj0 : (0 : Int) ≤ (j : Int) := Int.natCast_nonneg _
              have hwj : IntKind.i64.wrap ((j : Int) + 1) = (j : Int) + 1 := IntWalk.i64_in _ (by omega)
              clear ho hso hSL
              by_cases e : o.vk = 2
              · have hin := HIN.out j o HO.out e
                rw [← HLT.out] at hin
                have HSH := Hd (stO_hit us HO.out e)
                have HUV := Hd (getD_drop x.l lk (lostN (ops.take j)) ((0, 0) : V2))
                rw [HUS.out] at HUV
                have HQ : Hid (lk + lostN (ops.take (j + 1)) = lk + lostN (ops.take j) + 1) := Hd (by rw [HLK.out, if_pos e]; omega)
                generalize lk + lostN (ops.take j) = q at *
                obtain ⟨⟨y1, y2⟩, hv⟩ : ∃ v, x.l[q]? = some v := ⟨_, List.getElem?_eq_getElem (by rw [HLL.out]; exact hin)⟩
                obtain ⟨bl, ol, rfl, -, hblw, hcl⟩ := HL.out.open_ (k := q * 2) (by rw [edgeC_len, HLL.out]; omega)
                have hl0 := hcl _ _ (edgeC_get x.l q _ hv).1
                have hl1 := hcl _ _ (edgeC_get x.l q _ hv).2
                rw [← Nat.add_assoc] at hl1
                dsimp only at hl0 hl1
                have HA0 := Hd ((hT.out.k.o.cell (p := ⟨bl, ol + q * 2, none⟩) hblw (by simp)).trans hl0)
                have HA1 := Hd ((hT.out.k.o.cell (p := ⟨bl, ol + q * 2 + 1, none⟩) hblw (by simp)).trans hl1)
                have hblr : bl < wr.heap.size := Nat.lt_of_lt_of_le hblw hT.out.k.o.size
                have hblo : bl < ob := by omega
                have hgo : gt ≠ ob := by
                  have := own_apart HOW.out hT.out.t (by decide)
                  simpa [Value.ownBlock, eq_comm] using this
                have hwo : gw ≠ ob := by
                  have := own_apart HOW.out hT.out.x (by decide)
                  simpa [Value.ownBlock, eq_comm] using this
                have HSE : Hid (stO ops us (j + 1) = (stO ops us j).set j ⟨o.wr, o.key, y1, y2⟩) := Hd (by
                  rw [HSH.out, HUV.out, List.getD_eq_getElem?_getD, hv]
                  rfl)
                have hql : (q : Int) < (nl : Int) := by omega
                have hq0 : (0 : Int) ≤ (q : Int) := Int.natCast_nonneg _
                have hwq : IntKind.i64.wrap ((q : Int) + 1) = (q : Int) + 1 := IntWalk.i64_in _ (by omega)
                have hol : j * 4 + 2 + 2 ≤ (opC (stO ops us j)).length := by rw [opC_len, HSL.out]; omega
                have he : (o.vk == 2) = true := by simpa using e
                clear hcl hl0 hl1 hv e
                go_upto_region 15 with (fail)
                clear lT t2 v2
                refine rg1 [] [ob] wr ?_
                have OW : Only [] wr wr.drew := (Only.refl [] wr).drew
                generalize wr.drew = wz at *
                refine tQ 0 (h := ?_)
                refine trd (i := 1) (v := ?_) 0 ?_ ?_
                rotate_left
                · (intro wq hSw; obtain ⟨lb_T, t2⟩ := Bk1 (hSw.blk hT.out.t (by simp; omega)) 2; simp at t2; obtain ⟨lb_X, x1⟩ := Bk1 (hSw.blk hT.out.x (by simp; omega)) 1; simp at x1; have u0 := (hSw.cell (p := ⟨bl, ol + q * 2, none⟩) hblr (by simp; omega)).trans HA0.out; have u1 := (hSw.cell (p := ⟨bl, ol + q * 2 + 1, none⟩) hblr (by simp; omega)).trans HA1.out; have hblq : bl < wq.heap.size := Nat.lt_of_lt_of_le hblr hSw.size; have hobq : ob < wq.heap.size := Nat.lt_of_lt_of_le hob hSw.size; clear hSw; go_simp; try with_reducible rfl)
                try simp only [tdz]
                refine tQ 2 (h := tQ 3 (h := ?_))
                refine trd (i := 4) (v := ?_) 0 ?_ ?_
                rotate_left
                · (intro wq hSw; obtain ⟨lb_T, t2⟩ := Bk1 (hSw.blk hT.out.t (by simp; omega)) 2; simp at t2; obtain ⟨lb_X, x1⟩ := Bk1 (hSw.blk hT.out.x (by simp; omega)) 1; simp at x1; have u0 := (hSw.cell (p := ⟨bl, ol + q * 2, none⟩) hblr (by simp; omega)).trans HA0.out; have u1 := (hSw.cell (p := ⟨bl, ol + q * 2 + 1, none⟩) hblr (by simp; omega)).trans HA1.out; have hblq : bl < wq.heap.size := Nat.lt_of_lt_of_le hblr hSw.size; have hobq : ob < wq.heap.size := Nat.lt_of_lt_of_le hob hSw.size; clear hSw; go_simp; try with_reducible rfl)
                try simp only [tdz]
                refine tQ 5 (h := tQ 6 (h := ?_))
                refine trd (i := 7) (v := ?_) 0 ?_ ?_
                rotate_left
                · (intro wq hSw; obtain ⟨lb_T, t2⟩ := Bk1 (hSw.blk hT.out.t (by simp; omega)) 2; simp at t2; obtain ⟨lb_X, x1⟩ := Bk1 (hSw.blk hT.out.x (by simp; omega)) 1; simp at x1; have u0 := (hSw.cell (p := ⟨bl, ol + q * 2, none⟩) hblr (by simp; omega)).trans HA0.out; have u1 := (hSw.cell (p := ⟨bl, ol + q * 2 + 1, none⟩) hblr (by simp; omega)).trans HA1.out; have hblq : bl < wq.heap.size := Nat.lt_of_lt_of_le hblr hSw.size; have hobq : ob < wq.heap.size := Nat.lt_of_lt_of_le hob hSw.size; clear hSw; go_simp; try with_reducible rfl)
                try simp only [tdz]
                refine tQ 8 (h := tQ 9 (h := ?_))
                refine tst (i := 10) fun K hK => ?_
                refine wp_store_mid 53 (.tmp 70) (.tmp 68) rfl ob (j * 4 + 2) #[.int .i64 y1, .int .i64 y2] rfl rfl (own_there (own_only HOW.out OW (by simp)) rfl hol) (by kernel_rfl) (by kernel_rfl) ?_
                have OD : Only [ob] wz (wz.setCells ob (j * 4 + 2) [.int .i64 y1, .int .i64 y2]) := setCells_only ob _ _ _ _ _ (Only.refl _ _) (fun _ => by simp)
                have hT9 := (hT.out.same OW).setV HSL.out HSO.out y1 y2
                rw [← HSE.out] at hT9
                have OE := (OW.wide (T := [ob]) (fun i hi => by cases hi)).trans OD
                refine kOut hK (OE) (h := ?_)
                clear hK K
                refine tdn ?_
                have HT9 := Hd hT9
                clear OW OD OE hT9 hT HA0 HA1
                generalize (wz.setCells ob (j * 4 + 2) [.int .i64 y1, .int .i64 y2]) = w9 at *
                go_wp2
                go_roundw
                case rel => exact ⟨j + 1, by rw [HQ.out]; rfl, by go_num, by omega, HT9⟩
                case measure => simp [intOf]; omega
              · have HE : Hid (lostN (ops.take (j + 1)) = lostN (ops.take j)) := Hd (by rw [HLK.out, if_neg e]; rfl)
                have HSE : Hid (stO ops us (j + 1) = stO ops us j) := Hd (stO_miss us HO.out e)
                have he : (o.vk == 2) = false := by simpa using e
                have hTN := Hd hT.out
                rw [← HSE.out] at hTN
                clear e hT
                go_wp2
                go_roundw
                case rel => exact ⟨j + 1, by rw [HE.out], by go_num, by omega, hTN⟩
                case measure => simp [intOf]; omega
            · have hjm : j = m := by omega
              subst hjm
              have hd3 : decide ((j : Int) < (j : Int)) = false := by simp
              have hTE := Hd hT.out
              rw [stO_all ops us (by rw [HMM.out]; exact Nat.le_refl _)] at hTE
              have HLA : Hid (lostN (ops.take j) = lostN ops) := Hd (by rw [List.take_of_length_le (by rw [HMM.out]; exact Nat.le_refl _)])
              clear hT
              go_wp2
              go_meet
              exact ⟨congrArg (Value.int .i64) (by have := HLA.out; omega), hTE⟩
        case rest =>
          obtain ⟨rfl, HT8⟩ := hcut
          obtain ⟨we, hwe⟩ : ∃ we, we = wc := ⟨_, rfl⟩
          subst hwe
          clear HST
          have hfl : (fillO ops us).length = m := by rw [fillO_len, HMM.out]
          have HL3' : Hid ((L ++ [rO (.slice A4 m c4) (fillO ops us)])[3]? = some (rT V xs)) := Hd (by rw [List.getElem?_append_left (List.getElem?_eq_some_iff.1 HL3.out).1]; exact HL3.out)
          have HVT : Hid (we.ownsRow w.heap.size 48 3 V k (txC xs)) := Hd (by
            have h9 := HT8.out.row HL3.out
            unfold OR.ok rT at h9
            dsimp only at h9
            rwa [hxl] at h9)
          have hszr : w.heap.size ≤ we.heap.size := HT8.out.k.o.size
          have lG := HT8.out.k.bg.lt
          have z2 := HT8.out.k.bg.at_ 2
          have lT := HT8.out.t.lt
          have t0 := HT8.out.t.at_ 0
          have t1 := HT8.out.t.at_ 1
          have t2 := HT8.out.t.at_ 2
          simp at z2 t0 t1 t2
          have HFL := Hd hfl
          have HM4 := Hd hm4
          have HC4 := Hd hc4
          clear hfl hm4 hc4
          go_wp2_with (
            at_builtin
            refine wpList_append_row _ rfl (.tmp 74) (.tmp 76) _ rfl w.heap.size 48 ix _ 3 40 Tryz.underlying23 hix hx0 hx1 hx2 rfl (by omega) V k (txC xs) (by rfl) (own_only HVT.out ((Only.refl [] we).alloc _) (by simp)) (we.heap.size + 1) (some ⟨we.heap.size, 0, none⟩) 1 1 [.int .i64 ts, .int .i64 ft, .slice A4 m c4] (by rfl) (by rfl) (row_lit we 48 #[.int .i64 ts, .int .i64 ft, .slice A4 m c4]) (by intro u hu; simp at hu; rcases hu with rfl | rfl | rfl <;> rfl) (by unfold maxLen; omega) (by omega) (by simp; omega) ?_
            intro v6 w6 hown6 hgrow6 hat6
            obtain ⟨A6, c6, e6, -, -, -, -⟩ := own_row hown6
            subst e6
            have hgr : World.grownBy (we.alloc (.cells #[.int .i64 ts, .int .i64 ft, .slice A4 m c4] 48)) w6 V.ownBlock := hgrow6
            have HT9 := Hd ((HT8.out.same ((Only.refl [] we).alloc (.cells #[.int .i64 ts, .int .i64 ft, .slice A4 m c4] 48))).grow (i := 3) (r := rT V xs) HL3'.out hgr hown6 hat6)
            clear hown6 hgrow6 hat6 hgr lG z2 lT t0 t1 t2
            have lG := HT9.out.k.bg.lt
            have z2 := HT9.out.k.bg.at_ 2
            have fz := HT9.out.k.bg.free 2
            simp at z2)
          have h9 := HT9.out.setG 2 (.slice A6 (k + 1) c6)
          have HW9 := Hd h9.x
          have HK10 : Hid (RK w (w6.setCell ⟨g9, 2, none⟩ (.slice A6 (k + 1) c6)) #[.slice A0 n0 c0, .slice A1 n1 c1, .slice (some ⟨bt, ot, none⟩) n2 c2] w.heap.size gr g9 #[.slice Aa n0 ca, .slice Ab n1 cb, .slice A6 (k + 1) c6] ([rBo (.slice (some ⟨bc, 0, none⟩) n2 cC) CS, rS (.slice Aa n0 ca) h.ss, rS (.slice Ab n1 cb) h.ks, rT (.slice A6 (k + 1) c6) (xs ++ [(⟨⟨ts, ft, fillO ops us⟩, A4, c4⟩ : TxA)])] ++ (xs ++ [(⟨⟨ts, ft, fillO ops us⟩, A4, c4⟩ : TxA)]).map eRow)) := Hd (by
            have hk9 := h9.k
            rw [← HLE.out] at hk9
            have e : rT (.slice A6 (k + 1) c6) (xs ++ [(⟨⟨ts, ft, fillO ops us⟩, A4, c4⟩ : TxA)]) = ⟨48, 3, .slice A6 (k + 1) c6, k + 1, txC xs ++ [.int .i64 ts, .int .i64 ft, .slice A4 m c4]⟩ := by simp [rT, txC, TxA.c, hxl, HFL.out]
            have e2 : eRow (⟨⟨ts, ft, fillO ops us⟩, A4, c4⟩ : TxA) = rO (.slice A4 m c4) (fillO ops us) := by simp only [eRow, rO, HFL.out]
            rw [e, List.map_append, List.map_cons, List.map_nil, e2]
            exact hk9)
          have HXN : Hid ((xs ++ [(⟨⟨ts, ft, fillO ops us⟩, A4, c4⟩ : TxA)]).map TxA.t = fillT (h.l.take (k + 1)) CS x.l) := Hd (by
            rw [List.map_append, hXS.out, HFT.out, HCB.out, HUS.out, HFTE.out]
            rfl)
          have HCN : Hid (∀ x ∈ xs ++ [(⟨⟨ts, ft, fillO ops us⟩, A4, c4⟩ : TxA)], x.t.ops.length ≤ x.cp ∧ x.cp ≤ maxLen) := Hd (fun x hx => by
            rcases List.mem_append.1 hx with h1 | h1
            · exact hCP.out x h1
            · simp at h1
              subst h1
              exact ⟨by dsimp only; rw [HFL.out]; exact HM4.out, HC4.out⟩)
          clear HT8 HT9 h9
          go_wp2
          go_roundw
          case rel => first | exact ⟨k + 1, _, _, congrArg (Value.int .i64) (by have := HTK.out; omega), by go_num, by omega, HXN, HCN, HW9, HK10⟩ | exact ⟨_, _, ⟨k + 1, _, _, congrArg (Value.int .i64) (by have := HTK.out; omega), by go_num, by omega, HXN, HCN, HW9, HK10⟩, rfl, rfl⟩
          case measure => simp [intOf]; omega
    · have hkn : k = n2 := by omega
      subst hkn
      have hd2 : decide ((k : Int) < (k : Int)) = false := by simp
      have HXE : Hid (xs.map TxA.t = fillT h.l CS x.l) := Hd (by rw [hXS.out, List.take_of_length_le (by rw [HLN.out]; exact Nat.le_refl _)])
      have lG := hK.out.bg.lt
      have z0 := hK.out.bg.at_ 0
      have z1 := hK.out.bg.at_ 1
      have z2 := hK.out.bg.at_ 2
      simp at z0 z1 z2
      obtain ⟨At, ct, hVt, -, -, -, -⟩ := own_row (hK.out.rows.all 3 (rT V xs) rfl)
      have hVt' : V = .slice At k ct := by rw [← hxl]; exact hVt
      subst hVt'
      have HR := Hd hK.out.br
      clear hVt hXS hW
      go_wp2_with (refine wpList_store_blk rfl 25 (.tmp 4) (.tmp 79) rfl gr 25 _ #[.slice Aa n0 ca, .slice Ab n1 cb, .slice At k ct] rfl rfl HR.out rfl (by kernel_rfl) (by kernel_rfl) ?_; intro w9 b9 o9; have HB9 := Hd b9; have HN9 := Hd o9; clear b9 o9)
      have HD : HNew w.heap.size w9 Aa Ab At (makeH h x) := fun S w' hS O => by
        have hR := hK.out.rowsR HN9.out
        have h9 := rows_done (hR.tail.only O (fun g hg hm => by
          have h1 := (hR.tail.ge g hg).1
          have h2 := hS g hm
          omega)) hCP.out
        rw [HXE.out, HCS.out] at h9
        exact h9
      have e1 : (makeH h x).ss.length = n0 := HI.out.n0
      have e2 : (makeH h x).ks.length = n1 := HI.out.n1
      have e3 : (makeH h x).l.length = k := (fillT_len _ _ _).trans HI.out.n2
      refine bodyPost_ret (results_row1 Tryz.results27 _ _ gr 25 #[.slice Aa n0 ca, .slice Ab n1 cb, .slice At k ct] _ rfl HB9.out Tryz.underlying25 rfl (by kernel_rfl)) rfl ?_
      have O9 : Only [] w w9 := hK.out.o.step HN9.out (fun i hi hl => by
        have h1 := hK.out.base
        have h2 := hK.out.d01
        simp at hi
        omega)
      refine ⟨Aa, Ab, At, ca, cb, ct, ⟨?_, HD⟩, O9⟩
      rw [e1, e2, e3]
end Go.Proofs.YtghimogdeijgdaaGreatDoor
