/- The document's W: put, at a beginning. -/
import Derived.Test.YthaeomdpaadilaaGreatDoorShowParsesCardK18
import Derived.Test.YthaeomdpaadilaaGreatDoorShowParsesCardK19
import Derived.Test.YthaeomdpaadilaaGreatDoorShowParsesCardK25
import Derived.Test.YthaeomdpaadilaaGreatDoorShowParsesCardK26
set_option linter.unusedVariables false
set_option linter.unusedSimpArgs false
namespace Go.Proofs.YthaeomdpaadilaaGreatDoor
open Go.RowKit
open Go.Lib hiding intOf
attribute [local go_sem ↓] Go.wp_at_zero Go.wp_at_succ
theorem info_txr : (Tryz.prog.info? 43).map (fun i => (i.zero, i.size, i.bytes)) = some (some (.agg #[.int .i64 0, .int .i64 0, .slice none 0 0]), 3, 40) := by kernel_rfl
theorem info_lst : (Tryz.prog.info? 22).map (fun i => (i.zero, i.size, i.bytes)) = some (some (.slice none 0 0), 1, 24) := by kernel_rfl
theorem info_int0 : (Tryz.prog.info? 3).map (fun i => (i.zero, i.size, i.bytes)) = some (some (.int .i64 0), 1, 8) := by kernel_rfl
theorem info_bool0 : (Tryz.prog.info? 4).map (fun i => (i.zero, i.size, i.bytes)) = some (some (.bool false), 1, 1) := by kernel_rfl
theorem atN_none {ps : List Pt} {s : ByteArray} (h : openI ps s = none) : atN ps s = -1 := by unfold atN; rw [h]
theorem atN_some {ps : List Pt} {s : ByteArray} {i : Nat} (h : openI ps s = some i) : atN ps s = i := by unfold atN; rw [h]
/-- What put leaves. -/
def PutEnd (w0 : World) (gw : Nat) (m : Mk) (a : Ev6) (e : Ending) (w' : World) : Prop :=
 e = .returned (.int .i64 (takeE m a)) ∧ Only [] w0 w' ∧ ∃ VL VN VK VI VO xs, WAt w' w0.heap.size gw (takeM m a).ps VL VN VK VI VO xs
theorem gw_apart {w : World} {base : Nat} {L : List OR} {g : Nat} {t : TypeId} {cs : Array Value} (h : ORs w base L) (hb : Blk w g t cs) (ht : ∀ r ∈ L, r.e ≠ t) : g ∉ ownB L := fun hm => by
 obtain ⟨i, r, hi, hg⟩ := ownB_mem.1 hm
 exact own_apart (h.all i r hi) hb (ht r (List.mem_of_getElem? hi)) (by simpa using hg)
theorem ne_list {t : TypeId} {r0 r1 r2 r3 r4 : OR} {xs : List PtA} (h0 : r0.e ≠ t) (h1 : r1.e ≠ t) (h2 : r2.e ≠ t) (h3 : r3.e ≠ t) (h4 : r4.e ≠ t) (hs : 9 ≠ t) (hp : 50 ≠ t) : ∀ r ∈ r0 :: r1 :: r2 :: r3 :: r4 :: xs.flatMap two, r.e ≠ t := by
 intro r hr
 simp only [List.mem_cons, List.mem_flatMap, two, List.not_mem_nil, or_false] at hr
 rcases hr with rfl | rfl | rfl | rfl | rfl | ⟨x, -, rfl | rfl⟩
 ·exact h0
 ·exact h1
 ·exact h2
 ·exact h3
 ·exact h4
 ·exact hs
 ·exact hp
def l12 (R0 : OR) (VN VK VI VO : Value) (xs : List PtA) : List OR := R0 :: rowN VN xs :: rowK VK xs :: rowI VI xs :: rowO VO xs :: xs.flatMap two
theorem wL_push (V0 V1 V2 V3 V4 VN VK VI VO : Value) (xs : List PtA) (sn : ByteArray) (aln : Int) : wL V0 V1 V2 V3 V4 (xs ++ [⟨⟨sn, 0, aln, [], []⟩, none, 0, none, 0⟩]) =
  (((⟨43, 3, V0, xs.length + 1, txC (xs.map txa) ++ [.int .i64 0, .int .i64 0, .slice none 0 0]⟩ : OR) :: (⟨9, 1, V1, xs.length + 1, (rowN VN xs).xs ++ [Value.string sn]⟩ : OR) :: (⟨22, 1, V2, xs.length + 1, (rowK VK xs).xs ++ [Value.slice none 0 0]⟩ : OR) ::
   (⟨3, 1, V3, xs.length + 1, (rowI VI xs).xs ++ [Value.int .i64 aln]⟩ : OR) :: (⟨4, 1, V4, xs.length + 1, (rowO VO xs).xs ++ [Value.bool true]⟩ : OR) :: xs.flatMap two) ++ [⟨9, 1, .slice none 0 0, 0, []⟩]) ++ [⟨50, 4, .slice none 0 0, 0, []⟩] := by
 simp [wL, rowL, rowN, rowK, rowI, rowO, two, kRow, oRow, txa, txC, TxA.c, strs, opC]
theorem names_len (ps : List Pt) : (strs (ps.map Pt.s)).length = ps.length * 1 := by simp [strs]
set_option maxRecDepth 100000 in
set_option maxHeartbeats 16000000 in
theorem wput_begin (gw : Nat) (m : Mk) (VL VN VK VI VO : Value) (xs : List PtA) (a : Ev6) (w0 w : World) (h : WAt w w0.heap.size gw m.ps VL VN VK VI VO xs) (hO : Only [] w0 w) (hB : MkB m) (hI : MInv m) (hs : a.s.size ≤ 65537) (hy : a.y.size ≤ 65537)
  (hev : evOk a.k a.s a.y a.vk a.vn = true) (ho : openI m.ps a.s = none) (hk : a.k = 1) :
  Calls Tryz.prog 79 #[.pointer (some ⟨gw, 0, none⟩), .agg #[.int .i64 a.k, .string a.s, .string a.y, .int .i64 a.vk, .int .i64 a.vn, .int .i64 a.ln]] w (PutEnd w0 gw m a) := by
 obtain ⟨is_, his, his0, his1, his2⟩ := info_parts info_strg
 obtain ⟨it, hit, hit0, hit1, hit2⟩ := info_parts info_txr
 obtain ⟨il, hil, hil0, hil1, hil2⟩ := info_parts info_lst
 obtain ⟨ii, hii, hii0, hii1, hii2⟩ := info_parts info_int0
 obtain ⟨ib, hib, hib0, hib1, hib2⟩ := info_parts info_bool0
 have HT : Hid (takeE m a = beginE m a ∧ takeM m a = beginM m a) := Lib.hid (by
  unfold takeE takeM
  rw [hev, if_neg tf_ne, if_neg tf_ne, ho]
  dsimp only
  rw [if_pos hk, if_pos hk]
  exact ⟨rfl, rfl⟩)
 have HSL : Hid (withB m.ss a.s = sortB (m.ps.map Pt.s ++ [a.s])) := Lib.hid (by rw [hI.ss, with_sort])
 have HNP := Lib.hid hB.np
 have HNO := Lib.hid (fun p (hp : p ∈ m.ps) => (hB.no p hp).2.2.1)
 have hnp := hB.np
 have HE0 := Lib.hid (Blk.made w 47 #[.int .i64 a.k, .string a.s, .string a.y, .int .i64 a.vk, .int .i64 a.vn, .int .i64 a.ln])
 have HO0 := Lib.hid ((Only.refl [] w).alloc (.cells #[.int .i64 a.k, .string a.s, .string a.y, .int .i64 a.vk, .int .i64 a.vn, .int .i64 a.ln] 47))
 have HMY := Lib.hid (fun w' => revmay_any a.k a.s a.y a.vk a.vn a.ln w' (by omega) (by omega))
 have HAT := Lib.hid (fun w' (O : Only [] w w') => rat_any w0.heap.size gw m.ps VL VN VK VI VO xs a.s w' (h.same O) hB.np)
 rw [atN_none ho] at HAT
 rw [hev] at HMY
 have HW := Lib.hid h
 have HOO := Lib.hid hO
 have HAS := Lib.hid hs
 have hb0 : w0.heap.size ≤ w.heap.size := hO.size
 obtain ⟨ak, sn, ay, avk, avn, aln⟩ := a
 dsimp only at hk HT HSL HE0 HO0 HMY HAT HAS
 show Calls _ _ #[.pointer (some ⟨gw, 0, none⟩), .agg #[.int .i64 ak, .string sn, .string ay, .int .i64 avk, .int .i64 avn, .int .i64 aln]] _ _
 subst hk
 clear h hO hB hI hs hy hev ho
 go_enter Tryz.func79, Tryz.ntmps79
 go_wp2_with fail
 generalize (w.alloc (.cells #[.int .i64 1, .string sn, .string ay, .int .i64 avk, .int .i64 avn, .int .i64 aln] 47)) = w1 at *
 generalize hge : w.heap.size = ge at *
 refine (HMY.out _).mono ?_
 rintro e w2 ⟨rfl, O2⟩
 have HO2 := Lib.hid (HO0.out.trans O2)
 have HE2 := Lib.hid (O2.blk HE0.out (by simp))
 clear O2 HE0 HO0 HMY
 have e0 := HE2.out.at_ 0
 have e1 := HE2.out.at_ 1
 have le := HE2.out.lt
 simp at e0 e1
 go_wp2_with fail
 refine (HAT.out _ HO2.out).mono ?_
 rintro e w3 ⟨rfl, rfl⟩
 have HW3 := Lib.hid (HW.out.same HO2.out)
 clear HAT HW
 go_upto_region 7 with (fail)
 clear e0 e1 le
 have HB3 := Lib.hid HW3.out.blk
 have HOO3 := Lib.hid (HOO.out.trans HO2.out)
 have hb3 : w0.heap.size ≤ w3.heap.size := HOO3.out.size
 obtain ⟨q, hq0⟩ : ∃ q, q = (sortB (m.ps.map Pt.s ++ [sn])).length := ⟨_, rfl⟩
 have HLONG : Hid (20 < q ∨ m.ps.length = 40 → takeE m ⟨1, sn, ay, avk, avn, aln⟩ = 7 ∧ takeM m ⟨1, sn, ay, avk, avn, aln⟩ = m) := Lib.hid (fun hc => by
  rw [HT.out.1, HT.out.2]
  unfold beginE beginM
  dsimp only
  rw [HSL.out, ← hq0, if_pos hc, if_pos hc]
  exact ⟨rfl, rfl⟩)
 have HSHORT : Hid (¬ 20 < q → ¬ m.ps.length = 40 → takeE m ⟨1, sn, ay, avk, avn, aln⟩ = 0 ∧ (takeM m ⟨1, sn, ay, avk, avn, aln⟩).ps = m.ps ++ [⟨sn, 0, aln, [], []⟩]) := Lib.hid (fun h1 h2 => by
  have hc : ¬ (20 < q ∨ m.ps.length = 40) := fun h => h.elim h1 h2
  rw [HT.out.1, HT.out.2]
  unfold beginE beginM
  dsimp only
  rw [HSL.out, ← hq0, if_neg hc, if_neg hc]
  exact ⟨rfl, rfl⟩)
 have HSO : Hid (∀ A c B w', Row w' B A (strs (m.ps.map Pt.s ++ [sn])) → Calls Tryz.prog 50 #[.slice A (m.ps.length + 1) c] w' fun e w'' => Only [] w' w'' ∧ ∃ V, e = .returned V ∧ w''.ownsRow w'.heap.size 9 1 V q (strs (sortB (m.ps.map Pt.s ++ [sn])))) := Lib.hid (fun A c B w' hA => by
  have := rsorted_any A (m.ps.length + 1) c B (m.ps.map Pt.s ++ [sn]) w' (by simp) (by omega) (fun z hz => by
   rcases List.mem_append.1 hz with hz | hz
   ·obtain ⟨p, hp, rfl⟩ := List.mem_map.1 hz
    exact HNO.out p hp
   ·simp at hz
    subst hz
    exact HAS.out) hA
  rw [← hq0] at this
  exact this)
 have HL3 := Lib.hid HW3.out.len
 obtain ⟨⟨AL, cL, rfl, -⟩, ⟨AN, cN, rfl, rN⟩, -, -, -⟩ := HW3.out.vals
 have HRN := Lib.hid rN
 clear rN hq0 HSL HNO HAS HT
 refine wp_region_noPanic ?_
 refine wp_region_timed (F := [⟨[], [], fun w' => Only [] w3 w'⟩]) (by kernel_rfl) (timed_holds ((Only.refl [] w3).drew) (timed_nil)) ?_
 have OW : Only [] w3 w3.drew := (Only.refl [] w3).drew
 generalize hwz : w3.drew = wz at *
 clear hwz
 refine timed_pure (i := 1) (v := ?_) rfl (by kernel_rfl) (by kernel_rfl) (by kernel_rfl) (fun _ _ _ h => h) (by kernel_rfl) (by kernel_rfl) ?_ ?_
 rotate_left
 ·(intro w; go_simp; try with_reducible rfl)
 try simp only [Act.put, tdy]
 refine timed_pure (i := 2) (v := ?_) rfl (by kernel_rfl) (by kernel_rfl) (by kernel_rfl) (fun _ _ _ h => h) (by kernel_rfl) (by kernel_rfl) ?_ ?_
 rotate_left
 ·(intro w; go_simp; try with_reducible rfl)
 try simp only [Act.put, tdy]
 refine timed_pure (i := 3) (v := ?_) rfl (by kernel_rfl) (by kernel_rfl) (by kernel_rfl) (fun _ _ _ h => h) (by kernel_rfl) (by kernel_rfl) ?_ ?_
 rotate_left
 ·(intro w; go_simp; try with_reducible rfl)
 try simp only [Act.put, tdy]
 refine timed_read (i := 4) (v := ?_) 0 rfl (by kernel_rfl) (by kernel_rfl) (by kernel_rfl) (fun _ _ _ h => h) (by kernel_rfl) (by kernel_rfl) rfl (by kernel_rfl) ?_ ?_
 rotate_left
 ·(intro wq hSw; (try dsimp only at hSw); have hb := hSw.blk HB3.out (by simp); have lb := hb.lt; have b2 := hb.at_ 2; have b3 := hb.at_ 3; have he := hSw.blk HE2.out (by simp); have le := he.lt; have e1 := he.at_ 1; simp at b2 b3 e1; clear hb he; clear hSw; go_simp; try with_reducible rfl)
 try simp only [Act.put, tdy]
 refine timed_pure (i := 6) (v := ?_) rfl (by kernel_rfl) (by kernel_rfl) (by kernel_rfl) (fun _ _ _ h => h) (by kernel_rfl) (by kernel_rfl) ?_ ?_
 rotate_left
 ·(intro w; go_simp; try with_reducible rfl)
 try simp only [Act.put, tdy]
 refine timed_read (i := 7) (v := ?_) 0 rfl (by kernel_rfl) (by kernel_rfl) (by kernel_rfl) (fun _ _ _ h => h) (by kernel_rfl) (by kernel_rfl) rfl (by kernel_rfl) ?_ ?_
 rotate_left
 ·(intro wq hSw; (try dsimp only at hSw); have hb := hSw.blk HB3.out (by simp); have lb := hb.lt; have b2 := hb.at_ 2; have b3 := hb.at_ 3; have he := hSw.blk HE2.out (by simp); have le := he.lt; have e1 := he.at_ 1; simp at b2 b3 e1; clear hb he; clear hSw; go_simp; try with_reducible rfl)
 try simp only [Act.put, tdy]
 apply cut_2_1 (fun w g0 g8 y5 => (Only [] w3 w) ∧ (w.ownsRow w3.heap.size 9 1 y5 m.ps.length (strs (m.ps.map Pt.s))) ∧ (Blk w g8 9 #[.string sn]))
 intro HST0_5_8
 apply cut_2_0 (fun w g0 g8 => (Only [] w3 w) ∧ (w.ownsRow w3.heap.size 9 1 (.slice (some ⟨g0, 0, none⟩) 0 0) 0 []) ∧ (Blk w g8 9 #[.string sn]) ∧ (g0 ≠ g8))
 intro HST0_8
 apply cut_1_1 (fun w g0 y5 => (Only [] w3 w) ∧ (w.ownsRow w3.heap.size 9 1 y5 m.ps.length (strs (m.ps.map Pt.s))))
 intro HST0_5
 apply cut_1_0 (fun w g8 => (Only [] w3 w) ∧ (Blk w g8 9 #[.string sn]))
 intro HST8
 apply cut_1_0 (fun w g0 => (Only [] w3 w) ∧ (w.ownsRow w3.heap.size 9 1 (.slice (some ⟨g0, 0, none⟩) 0 0) 0 []))
 intro HST0
 ·skip
  refine timed_forks (l := [0, 8]) (by kernel_rfl) (by simp) (fork_cons ⟨_, rfl, fun K hK => ?_⟩ (fork_cons ⟨_, rfl, fun K hK => ?_⟩ (fork_nil)))
  ·go_simp
   have hsz : w3.heap.size ≤ wz.heap.size := OW.size
   have OV0 : (wz.alloc (.cells #[] 9)).ownsRow w3.heap.size 9 1 (.slice (some ⟨wz.heap.size, 0, none⟩) 0 0) 0 [] := World.ownsRow_lit wz (e := 9) (size := 1) #[] 0 (by omega) (by unfold maxLen; omega) rfl
   have OW1 := OW.alloc (.cells #[] 9)
   generalize wz.alloc (.cells #[] 9) = w1 at *
   generalize wz.heap.size = g0 at *
   refine hK.out _ _ (timed_holds (OW1) (timed_nil)) ?_
   clear hK K
   try simp only [Act.put, tdy]
   exact HST0 w1 g0 ⟨OW1, OV0⟩
  ·go_simp
   have BL81 := Blk.made wz 9 #[.string sn]
   have OW1 := OW.alloc (.cells #[.string sn] 9)
   generalize wz.alloc (.cells #[.string sn] 9) = w1 at *
   generalize wz.heap.size = g8 at *
   refine hK.out _ _ (timed_holds (OW1) (timed_nil)) ?_
   clear hK K
   try simp only [Act.put, tdy]
   exact HST8 w1 g8 ⟨OW1, BL81⟩
 ·skip
  intro wz g0 ⟨OW, OV0⟩
  refine timed_forks (l := [5, 8]) (by kernel_rfl) (by simp) (fork_cons ⟨_, rfl, fun K hK => ?_⟩ (fork_cons ⟨_, rfl, fun K hK => ?_⟩ (fork_nil)))
  ·have hsz : w3.heap.size ≤ wz.heap.size := OW.size
   refine step_append_row _ rfl (.tmp 18) (.tmp 22) 22 rfl w3.heap.size 9 is_ _ 1 16 Tryz.underlying22 his his0 his1 his2 rfl (by omega) _ 0 ([]) (by rfl) (OV0) _ _ _ _ (strs (m.ps.map Pt.s)) (by rfl) (names_len _) (HRN.out.only OW (by simp)) (by intro u hu; obtain ⟨y, -, rfl⟩ := List.mem_map.1 hu; rfl) (by unfold maxLen; omega) (by omega) (by omega) ?_
   intro y5 w1 hown hgrow hat
   have OW1 := OW.step (only_grown hgrow) (own_new OV0)
   rw [Nat.zero_add, List.nil_append] at hown
   refine hK.out _ _ (timed_holds (OW1) (timed_nil)) ?_
   clear hK K
   try simp only [Act.put, tdy]
   exact HST0_5 w1 g0 y5 ⟨OW1, hown⟩
  ·go_simp
   have BL81 := Blk.made wz 9 #[.string sn]
   have OW1 := OW.alloc (.cells #[.string sn] 9)
   have OV01 := own_only OV0 ((Only.refl [] wz).alloc (.cells #[.string sn] 9)) (by simp)
   have HN : g0 ≠ wz.heap.size := by have := (OV0.lt g0 rfl).2; omega
   generalize wz.alloc (.cells #[.string sn] 9) = w1 at *
   generalize wz.heap.size = g8 at *
   refine hK.out _ _ (timed_holds (OW1) (timed_nil)) ?_
   clear hK K
   try simp only [Act.put, tdy]
   exact HST0_8 w1 g0 g8 ⟨OW1, OV01, BL81, HN⟩
 ·skip
  intro wz g8 ⟨OW, BL8⟩
  refine timed_step (i := 0) (by kernel_rfl) rfl (fun K hK => ?_)
  go_simp
  have hsz : w3.heap.size ≤ wz.heap.size := OW.size
  have OV0 : (wz.alloc (.cells #[] 9)).ownsRow w3.heap.size 9 1 (.slice (some ⟨wz.heap.size, 0, none⟩) 0 0) 0 [] := World.ownsRow_lit wz (e := 9) (size := 1) #[] 0 (by omega) (by unfold maxLen; omega) rfl
  have OW1 := OW.alloc (.cells #[] 9)
  have BL81 := BL8.alloc (.cells #[] 9)
  have HN : wz.heap.size ≠ g8 := by have := BL8.lt; omega
  generalize wz.alloc (.cells #[] 9) = w1 at *
  generalize wz.heap.size = g0 at *
  refine hK.out _ _ (timed_holds (OW1) (timed_nil)) ?_
  clear hK K
  try simp only [Act.put, tdy]
  exact HST0_8 w1 g0 g8 ⟨OW1, OV0, BL81, HN⟩
 ·skip
  intro wz g0 y5 ⟨OW, OV5⟩
  refine timed_step (i := 8) (by kernel_rfl) rfl (fun K hK => ?_)
  go_simp
  have BL81 := Blk.made wz 9 #[.string sn]
  have OW1 := OW.alloc (.cells #[.string sn] 9)
  have OV51 := own_only OV5 ((Only.refl [] wz).alloc (.cells #[.string sn] 9)) (by simp)
  generalize wz.alloc (.cells #[.string sn] 9) = w1 at *
  generalize wz.heap.size = g8 at *
  refine hK.out _ _ (timed_holds (OW1) (timed_nil)) ?_
  clear hK K
  try simp only [Act.put, tdy]
  exact HST0_5_8 w1 g0 g8 y5 ⟨OW1, OV51, BL81⟩
 ·skip
  intro wz g0 g8 ⟨OW, OV0, BL8, HN⟩
  refine timed_step (i := 5) (by kernel_rfl) rfl (fun K hK => ?_)
  have hsz : w3.heap.size ≤ wz.heap.size := OW.size
  refine step_append_row _ rfl (.tmp 18) (.tmp 22) 22 rfl w3.heap.size 9 is_ _ 1 16 Tryz.underlying22 his his0 his1 his2 rfl (by omega) _ 0 ([]) (by rfl) (OV0) _ _ _ _ (strs (m.ps.map Pt.s)) (by rfl) (names_len _) (HRN.out.only OW (by simp)) (by intro u hu; obtain ⟨y, -, rfl⟩ := List.mem_map.1 hu; rfl) (by unfold maxLen; omega) (by omega) (by omega) ?_
  intro y5 w1 hown hgrow hat
  have OW1 := OW.step (only_grown hgrow) (own_new OV0)
  rw [Nat.zero_add, List.nil_append] at hown
  have BL81 := (only_grown hgrow).blk BL8 (fun hc => HN (by simp [Value.ownBlock] at hc; omega))
  refine hK.out _ _ (timed_holds (OW1) (timed_nil)) ?_
  clear hK K
  try simp only [Act.put, tdy]
  exact HST0_5_8 w1 g0 g8 y5 ⟨OW1, hown, BL81⟩
 -- behind all of the crowd
 intro wz g0 g8 y5 ⟨OW, OV5, BL8⟩
 by_cases hq : 20 < q
 ·have hq1 : decide ((20 : Int) < (q : Int)) = true := decide_eq_true (by omega)
  have hq2 : decide (20 < q) = true := decide_eq_true hq
  refine timed_step (i := 9) (by kernel_rfl) rfl (fun K hK => ?_)
  have hsz : w3.heap.size ≤ wz.heap.size := OW.size
  refine step_append_row _ rfl (.tmp 23) (.tmp 26) 22 rfl w3.heap.size 9 is_ _ 1 16 Tryz.underlying22 his his0 his1 his2 rfl (by omega) _ m.ps.length (strs (m.ps.map Pt.s)) (by rfl) (OV5) _ _ 1 1 ([.string sn]) (by rfl) (by rfl) (BL8.row) (by intro u hu; simp at hu; subst hu; rfl) (by unfold maxLen; omega) (by omega) (by omega) ?_
  intro y9 w9 hown hgrow hat
  have OW9 := OW.step (only_grown hgrow) (own_new OV5)
  obtain ⟨A9, c9, rfl, -, -, -, r9⟩ := own_row hown
  have HR9 : Hid (Row w9 w9.heap.size A9 (strs (m.ps.map Pt.s ++ [sn]))) := Lib.hid (by rw [show strs (m.ps.map Pt.s ++ [sn]) = strs (m.ps.map Pt.s) ++ [.string sn] by simp [strs]]; exact r9)
  clear r9 hown hgrow hat OV5 BL8
  refine hK.out _ _ (timed_holds (OW9) (timed_nil)) ?_
  clear hK K
  try simp only [Act.put, tdy]
  refine timed_step (i := 10) (by kernel_rfl) rfl (fun K hK => ?_)
  go_simp
  refine ((HSO.out A9 c9 _ w9 HR9.out)).mono ?_
  rintro e w10 ⟨O10, V10, rfl, hown⟩
  obtain ⟨A10, c10, rfl, -⟩ := own_row hown
  have OW10 := OW9.trans O10
  clear O10 hown
  refine hK.out _ _ (timed_holds (OW10) (timed_nil)) ?_
  clear hK K
  try simp only [Act.put, tdy]
  refine timed_pure (i := 11) (v := ?_) rfl (by kernel_rfl) (by kernel_rfl) (by kernel_rfl) (fun _ _ _ h => h) (by kernel_rfl) (by kernel_rfl) ?_ ?_
  rotate_left
  ·(intro w; go_simp; try with_reducible rfl)
  try simp only [Act.put, tdy]
  refine timed_pure (i := 12) (v := ?_) rfl (by kernel_rfl) (by kernel_rfl) (by kernel_rfl) (fun _ _ _ h => h) (by kernel_rfl) (by kernel_rfl) ?_ ?_
  rotate_left
  ·(intro w; go_simp; try with_reducible rfl)
  try simp only [Act.put, tdy]
  refine timed_pure (i := 13) (v := ?_) rfl (by kernel_rfl) (by kernel_rfl) (by kernel_rfl) (fun _ _ _ h => h) (by kernel_rfl) (by kernel_rfl) ?_ ?_
  rotate_left
  ·(intro w; go_simp; try with_reducible rfl)
  try simp only [Act.put, tdy]
  refine timed_idle (i := 14) rfl (by kernel_rfl) (by kernel_rfl) (by kernel_rfl) (fun _ _ _ h => h) (by kernel_rfl) (by kernel_rfl) ?_
  try simp only [Act.put, tdy]
  refine timed_idle (i := 15) rfl (by kernel_rfl) (by kernel_rfl) (by kernel_rfl) (fun _ _ _ h => h) (by kernel_rfl) (by kernel_rfl) ?_
  try simp only [Act.put, tdy]
  refine timed_idle (i := 16) rfl (by kernel_rfl) (by kernel_rfl) (by kernel_rfl) (fun _ _ _ h => h) (by kernel_rfl) (by kernel_rfl) ?_
  try simp only [Act.put, tdy]
  refine timed_idle (i := 17) rfl (by kernel_rfl) (by kernel_rfl) (by kernel_rfl) (fun _ _ _ h => h) (by kernel_rfl) (by kernel_rfl) ?_
  try simp only [Act.put, tdy]
  refine timed_idle (i := 18) rfl (by kernel_rfl) (by kernel_rfl) (by kernel_rfl) (fun _ _ _ h => h) (by kernel_rfl) (by kernel_rfl) ?_
  try simp only [Act.put, tdy]
  refine timed_idle (i := 19) rfl (by kernel_rfl) (by kernel_rfl) (by kernel_rfl) (fun _ _ _ h => h) (by kernel_rfl) (by kernel_rfl) ?_
  try simp only [Act.put, tdy]
  refine timed_idle (i := 20) rfl (by kernel_rfl) (by kernel_rfl) (by kernel_rfl) (fun _ _ _ h => h) (by kernel_rfl) (by kernel_rfl) ?_
  try simp only [Act.put, tdy]
  refine timed_pure (i := 21) (v := ?_) rfl (by kernel_rfl) (by kernel_rfl) (by kernel_rfl) (fun _ _ _ h => h) (by kernel_rfl) (by kernel_rfl) ?_ ?_
  rotate_left
  ·(intro w; go_simp; try with_reducible rfl)
  try simp only [Act.put, tdy]
  refine timed_done (by kernel_rfl) ?_ _
  refine NoPanic.normal ?_
  have HF := Lib.hid (HLONG.out (.inl hq))
  have HWX := Lib.hid (HW3.out.same OW10)
  have HOX := Lib.hid (HOO3.out.trans OW10)
  clear hq
  go_wp2
  go_ret
  exact ⟨by rw [HF.out.1]; rfl, HOX.out, _, _, _, _, _, _, by rw [HF.out.2]; exact HWX.out⟩
 ·have hq1 : decide ((20 : Int) < (q : Int)) = false := decide_eq_false (by omega)
  have hq2 : decide (20 < q) = false := decide_eq_false hq
  by_cases h40 : m.ps.length = 40
  ·have h41 : ((m.ps.length : Int) == 40) = true := by simp; omega
   have H40 := Lib.hid h40
   clear h40
   refine timed_step (i := 9) (by kernel_rfl) rfl (fun K hK => ?_)
   have hsz : w3.heap.size ≤ wz.heap.size := OW.size
   refine step_append_row _ rfl (.tmp 23) (.tmp 26) 22 rfl w3.heap.size 9 is_ _ 1 16 Tryz.underlying22 his his0 his1 his2 rfl (by omega) _ m.ps.length (strs (m.ps.map Pt.s)) (by rfl) (OV5) _ _ 1 1 ([.string sn]) (by rfl) (by rfl) (BL8.row) (by intro u hu; simp at hu; subst hu; rfl) (by unfold maxLen; omega) (by omega) (by omega) ?_
   intro y9 w9 hown hgrow hat
   have OW9 := OW.step (only_grown hgrow) (own_new OV5)
   obtain ⟨A9, c9, rfl, -, -, -, r9⟩ := own_row hown
   have HR9 : Hid (Row w9 w9.heap.size A9 (strs (m.ps.map Pt.s ++ [sn]))) := Lib.hid (by rw [show strs (m.ps.map Pt.s ++ [sn]) = strs (m.ps.map Pt.s) ++ [.string sn] by simp [strs]]; exact r9)
   clear r9 hown hgrow hat OV5 BL8
   refine hK.out _ _ (timed_holds (OW9) (timed_nil)) ?_
   clear hK K
   try simp only [Act.put, tdy]
   refine timed_step (i := 10) (by kernel_rfl) rfl (fun K hK => ?_)
   go_simp
   refine ((HSO.out A9 c9 _ w9 HR9.out)).mono ?_
   rintro e w10 ⟨O10, V10, rfl, hown⟩
   obtain ⟨A10, c10, rfl, -⟩ := own_row hown
   have OW10 := OW9.trans O10
   clear O10 hown
   refine hK.out _ _ (timed_holds (OW10) (timed_nil)) ?_
   clear hK K
   try simp only [Act.put, tdy]
   refine timed_pure (i := 11) (v := ?_) rfl (by kernel_rfl) (by kernel_rfl) (by kernel_rfl) (fun _ _ _ h => h) (by kernel_rfl) (by kernel_rfl) ?_ ?_
   rotate_left
   ·(intro w; go_simp; try with_reducible rfl)
   try simp only [Act.put, tdy]
   refine timed_pure (i := 12) (v := ?_) rfl (by kernel_rfl) (by kernel_rfl) (by kernel_rfl) (fun _ _ _ h => h) (by kernel_rfl) (by kernel_rfl) ?_ ?_
   rotate_left
   ·(intro w; go_simp; try with_reducible rfl)
   try simp only [Act.put, tdy]
   refine timed_pure (i := 13) (v := ?_) rfl (by kernel_rfl) (by kernel_rfl) (by kernel_rfl) (fun _ _ _ h => h) (by kernel_rfl) (by kernel_rfl) ?_ ?_
   rotate_left
   ·(intro w; go_simp; try with_reducible rfl)
   try simp only [Act.put, tdy]
   refine timed_pure (i := 14) (v := ?_) rfl (by kernel_rfl) (by kernel_rfl) (by kernel_rfl) (fun _ _ _ h => h) (by kernel_rfl) (by kernel_rfl) ?_ ?_
   rotate_left
   ·(intro w; go_simp; try with_reducible rfl)
   try simp only [Act.put, tdy]
   refine timed_pure (i := 15) (v := ?_) rfl (by kernel_rfl) (by kernel_rfl) (by kernel_rfl) (fun _ _ _ h => h) (by kernel_rfl) (by kernel_rfl) ?_ ?_
   rotate_left
   ·(intro w; go_simp; try with_reducible rfl)
   try simp only [Act.put, tdy]
   refine timed_pure (i := 16) (v := ?_) rfl (by kernel_rfl) (by kernel_rfl) (by kernel_rfl) (fun _ _ _ h => h) (by kernel_rfl) (by kernel_rfl) ?_ ?_
   rotate_left
   ·(intro w; go_simp; try with_reducible rfl)
   try simp only [Act.put, tdy]
   refine timed_pure (i := 17) (v := ?_) rfl (by kernel_rfl) (by kernel_rfl) (by kernel_rfl) (fun _ _ _ h => h) (by kernel_rfl) (by kernel_rfl) ?_ ?_
   rotate_left
   ·(intro w; go_simp; try with_reducible rfl)
   try simp only [Act.put, tdy]
   refine timed_read (i := 18) (v := ?_) 0 rfl (by kernel_rfl) (by kernel_rfl) (by kernel_rfl) (fun _ _ _ h => h) (by kernel_rfl) (by kernel_rfl) rfl (by kernel_rfl) ?_ ?_
   rotate_left
   ·(intro wq hSw; (try dsimp only at hSw); have hb := hSw.blk HB3.out (by simp); have lb := hb.lt; have b2 := hb.at_ 2; have b3 := hb.at_ 3; have he := hSw.blk HE2.out (by simp); have le := he.lt; have e1 := he.at_ 1; simp at b2 b3 e1; clear hb he; clear hSw; go_simp; try with_reducible rfl)
   try simp only [Act.put, tdy]
   refine timed_pure (i := 19) (v := ?_) rfl (by kernel_rfl) (by kernel_rfl) (by kernel_rfl) (fun _ _ _ h => h) (by kernel_rfl) (by kernel_rfl) ?_ ?_
   rotate_left
   ·(intro w; go_simp; try with_reducible rfl)
   try simp only [Act.put, tdy]
   refine timed_pure (i := 20) (v := ?_) rfl (by kernel_rfl) (by kernel_rfl) (by kernel_rfl) (fun _ _ _ h => h) (by kernel_rfl) (by kernel_rfl) ?_ ?_
   rotate_left
   ·(intro w; go_simp; try with_reducible rfl)
   try simp only [Act.put, tdy]
   refine timed_pure (i := 21) (v := ?_) rfl (by kernel_rfl) (by kernel_rfl) (by kernel_rfl) (fun _ _ _ h => h) (by kernel_rfl) (by kernel_rfl) ?_ ?_
   rotate_left
   ·(intro w; go_simp; try with_reducible rfl)
   try simp only [Act.put, tdy]
   refine timed_done (by kernel_rfl) ?_ _
   refine NoPanic.normal ?_
   have HF := Lib.hid (HLONG.out (.inr H40.out))
   have HWX := Lib.hid (HW3.out.same OW10)
   have HOX := Lib.hid (HOO3.out.trans OW10)
   clear hq
   go_wp2
   go_ret
   exact ⟨by rw [HF.out.1]; rfl, HOX.out, _, _, _, _, _, _, by rw [HF.out.2]; exact HWX.out⟩
  ·have h41 : ((m.ps.length : Int) == 40) = false := by simp; omega
   have H40 := Lib.hid h40
   clear h40
   refine timed_step (i := 9) (by kernel_rfl) rfl (fun K hK => ?_)
   have hsz : w3.heap.size ≤ wz.heap.size := OW.size
   refine step_append_row _ rfl (.tmp 23) (.tmp 26) 22 rfl w3.heap.size 9 is_ _ 1 16 Tryz.underlying22 his his0 his1 his2 rfl (by omega) _ m.ps.length (strs (m.ps.map Pt.s)) (by rfl) (OV5) _ _ 1 1 ([.string sn]) (by rfl) (by rfl) (BL8.row) (by intro u hu; simp at hu; subst hu; rfl) (by unfold maxLen; omega) (by omega) (by omega) ?_
   intro y9 w9 hown hgrow hat
   have OW9 := OW.step (only_grown hgrow) (own_new OV5)
   obtain ⟨A9, c9, rfl, -, -, -, r9⟩ := own_row hown
   have HR9 : Hid (Row w9 w9.heap.size A9 (strs (m.ps.map Pt.s ++ [sn]))) := Lib.hid (by rw [show strs (m.ps.map Pt.s ++ [sn]) = strs (m.ps.map Pt.s) ++ [.string sn] by simp [strs]]; exact r9)
   clear r9 hown hgrow hat OV5 BL8
   refine hK.out _ _ (timed_holds (OW9) (timed_nil)) ?_
   clear hK K
   try simp only [Act.put, tdy]
   refine timed_step (i := 10) (by kernel_rfl) rfl (fun K hK => ?_)
   go_simp
   refine ((HSO.out A9 c9 _ w9 HR9.out)).mono ?_
   rintro e w10 ⟨O10, V10, rfl, hown⟩
   obtain ⟨A10, c10, rfl, -⟩ := own_row hown
   have OW10 := OW9.trans O10
   clear O10 hown
   refine hK.out _ _ (timed_holds (OW10) (timed_nil)) ?_
   clear hK K
   try simp only [Act.put, tdy]
   refine timed_pure (i := 11) (v := ?_) rfl (by kernel_rfl) (by kernel_rfl) (by kernel_rfl) (fun _ _ _ h => h) (by kernel_rfl) (by kernel_rfl) ?_ ?_
   rotate_left
   ·(intro w; go_simp; try with_reducible rfl)
   try simp only [Act.put, tdy]
   refine timed_pure (i := 12) (v := ?_) rfl (by kernel_rfl) (by kernel_rfl) (by kernel_rfl) (fun _ _ _ h => h) (by kernel_rfl) (by kernel_rfl) ?_ ?_
   rotate_left
   ·(intro w; go_simp; try with_reducible rfl)
   try simp only [Act.put, tdy]
   refine timed_pure (i := 13) (v := ?_) rfl (by kernel_rfl) (by kernel_rfl) (by kernel_rfl) (fun _ _ _ h => h) (by kernel_rfl) (by kernel_rfl) ?_ ?_
   rotate_left
   ·(intro w; go_simp; try with_reducible rfl)
   try simp only [Act.put, tdy]
   refine timed_pure (i := 14) (v := ?_) rfl (by kernel_rfl) (by kernel_rfl) (by kernel_rfl) (fun _ _ _ h => h) (by kernel_rfl) (by kernel_rfl) ?_ ?_
   rotate_left
   ·(intro w; go_simp; try with_reducible rfl)
   try simp only [Act.put, tdy]
   refine timed_pure (i := 15) (v := ?_) rfl (by kernel_rfl) (by kernel_rfl) (by kernel_rfl) (fun _ _ _ h => h) (by kernel_rfl) (by kernel_rfl) ?_ ?_
   rotate_left
   ·(intro w; go_simp; try with_reducible rfl)
   try simp only [Act.put, tdy]
   refine timed_pure (i := 16) (v := ?_) rfl (by kernel_rfl) (by kernel_rfl) (by kernel_rfl) (fun _ _ _ h => h) (by kernel_rfl) (by kernel_rfl) ?_ ?_
   rotate_left
   ·(intro w; go_simp; try with_reducible rfl)
   try simp only [Act.put, tdy]
   refine timed_pure (i := 17) (v := ?_) rfl (by kernel_rfl) (by kernel_rfl) (by kernel_rfl) (fun _ _ _ h => h) (by kernel_rfl) (by kernel_rfl) ?_ ?_
   rotate_left
   ·(intro w; go_simp; try with_reducible rfl)
   try simp only [Act.put, tdy]
   refine timed_read (i := 18) (v := ?_) 0 rfl (by kernel_rfl) (by kernel_rfl) (by kernel_rfl) (fun _ _ _ h => h) (by kernel_rfl) (by kernel_rfl) rfl (by kernel_rfl) ?_ ?_
   rotate_left
   ·(intro wq hSw; (try dsimp only at hSw); have hb := hSw.blk HB3.out (by simp); have lb := hb.lt; have b2 := hb.at_ 2; have b3 := hb.at_ 3; have he := hSw.blk HE2.out (by simp); have le := he.lt; have e1 := he.at_ 1; simp at b2 b3 e1; clear hb he; clear hSw; go_simp; try with_reducible rfl)
   try simp only [Act.put, tdy]
   refine timed_pure (i := 19) (v := ?_) rfl (by kernel_rfl) (by kernel_rfl) (by kernel_rfl) (fun _ _ _ h => h) (by kernel_rfl) (by kernel_rfl) ?_ ?_
   rotate_left
   ·(intro w; go_simp; try with_reducible rfl)
   try simp only [Act.put, tdy]
   refine timed_pure (i := 20) (v := ?_) rfl (by kernel_rfl) (by kernel_rfl) (by kernel_rfl) (fun _ _ _ h => h) (by kernel_rfl) (by kernel_rfl) ?_ ?_
   rotate_left
   ·(intro w; go_simp; try with_reducible rfl)
   try simp only [Act.put, tdy]
   refine timed_pure (i := 21) (v := ?_) rfl (by kernel_rfl) (by kernel_rfl) (by kernel_rfl) (fun _ _ _ h => h) (by kernel_rfl) (by kernel_rfl) ?_ ?_
   rotate_left
   ·(intro w; go_simp; try with_reducible rfl)
   try simp only [Act.put, tdy]
   refine timed_done (by kernel_rfl) ?_ _
   refine NoPanic.normal ?_
   have HF := Lib.hid (HSHORT.out hq H40.out)
   have HB10 := Lib.hid (OW10.blk HB3.out (by simp))
   have HE10 := Lib.hid (OW10.blk HE2.out (by simp))
   have HR10 := Lib.hid (HW3.out.rows.same OW10)
   have HO10 := Lib.hid (HOO3.out.trans OW10)
   have hb10 : w0.heap.size ≤ w10.heap.size := HO10.out.size
   have HV10 : Hid (w10.ownsRow w0.heap.size 43 3 (.slice AL m.ps.length cL) xs.length (txC (xs.map txa))) := Lib.hid (HR10.out.all 0 _ rfl)
   have HXL : Hid (xs.length ≤ 40) := Lib.hid (by rw [HL3.out]; exact hnp)
   have b2 := HB10.out.at_ 2
   have lb := HB10.out.lt
   simp at b2
   clear hq hq1 hq2 h41 HLONG HSHORT OW9 OW10 HSO HRN HB3 HE2 HO2 HOO HOO3
   go_upto_region 10 with (at_builtin; go_must (refine wpList_append_row _ rfl (.tmp 45) (.tmp 47) _ rfl w0.heap.size 43 it _ 3 40 Tryz.underlying23 hit hit0 hit1 hit2 rfl (by omega) _ xs.length (txC (xs.map txa)) rfl (own_only HV10.out ((Only.refl [] w10).alloc _) (by simp)) (w10.heap.size + 1) (some ⟨w10.heap.size, 0, none⟩) 1 1 [.int .i64 0, .int .i64 0, .slice none 0 0] rfl rfl (row_lit w10 43 #[.int .i64 0, .int .i64 0, .slice none 0 0]) (by simp [Value.oneCell']) (by have := HXL.out; unfold maxLen; omega) (by have := HXL.out; omega) (by first | omega | (rw [World.size_alloc]; omega) | (simp; omega)) ?_); intro V11 w11 hown11 hgrow11 hat11; obtain ⟨A11, c11, e11, -, -, -, -⟩ := own_row hown11; subst e11; have HG11 := Lib.hid (And.intro hown11 (And.intro hgrow11 hat11)); have HB11 := Lib.hid ((only_grown hgrow11).blk (HB10.out.alloc (.cells #[.int .i64 0, .int .i64 0, .slice none 0 0] 43)) (own_apart HV10.out HB10.out (by decide))); have b2 := HB11.out.at_ 2; have f2 := HB11.out.free 2; have lb := HB11.out.lt; simp at b2; clear hown11 hgrow11 hat11)
   obtain ⟨R0, hR0⟩ : ∃ R0 : OR, R0 = ⟨43, 3, .slice A11 (xs.length + 1) c11, xs.length + 1, txC (xs.map txa) ++ [.int .i64 0, .int .i64 0, .slice none 0 0]⟩ := ⟨_, rfl⟩
   have HR11 : ORs w11 w0.heap.size (l12 R0 (.slice AN m.ps.length cN) VK VI VO xs) := (HR10.out.same ((Only.refl [] w10).alloc (.cells #[.int .i64 0, .int .i64 0, .slice none 0 0] 43))).upd (i := 0) (r' := R0) rfl (only_grown HG11.out.2.1) (by rw [hR0]; exact HG11.out.1) (by rw [hR0]; exact HG11.out.2.2.imp id (fun e g hg => by rw [e] at hg; have := Option.some.inj hg; omega))
   have hg11 := gw_apart HR11 HB11.out (ne_list (by rw [hR0]; exact (by decide : (43 : TypeId) ≠ 91)) (by decide : (9 : TypeId) ≠ 91) (by decide : (22 : TypeId) ≠ 91) (by decide : (3 : TypeId) ≠ 91) (by decide : (4 : TypeId) ≠ 91) (by decide : (9 : TypeId) ≠ 91) (by decide : (50 : TypeId) ≠ 91))
   have HR12 := Lib.hid (HR11.only ((Only.refl [gw] w11).put (p := ⟨gw, 2, none⟩) (fun _ => List.mem_cons_self ..) (.slice A11 (xs.length + 1) c11)) (fun g hg hm => by simp at hm; subst hm; exact hg11 hg))
   have HB12 : Hid (Blk (w11.setCell ⟨gw, 2, none⟩ (.slice A11 (xs.length + 1) c11)) gw 91 #[.slice none 0 0, .slice none 0 0, .slice A11 (xs.length + 1) c11, .slice AN m.ps.length cN, VK, VI, VO]) := Lib.hid (by have := HB11.out.put 2 (.slice A11 (xs.length + 1) c11); simpa using this)
   have hE11 : Blk w11 ge 47 _ := (only_grown HG11.out.2.1).blk (HE10.out.alloc (.cells #[.int .i64 0, .int .i64 0, .slice none 0 0] 43)) (own_apart HV10.out HE10.out (by decide))
   have hgge : gw ≠ ge := HB11.out.apart hE11 (by decide)
   have HE12 := Lib.hid (hE11.far (p := ⟨gw, 2, none⟩) (fun h => hgge h.symm) (.slice A11 (xs.length + 1) c11))
   have HGE12 : Hid (ge ∉ gw :: ownB (l12 R0 (.slice AN m.ps.length cN) VK VI VO xs)) := Lib.hid (fun hm => by
    rcases List.mem_cons.1 hm with h | h
    ·exact hgge h.symm
    ·exact gw_apart HR11 hE11 (ne_list (by rw [hR0]; exact (by decide : (43 : TypeId) ≠ 47)) (by decide : (9 : TypeId) ≠ 47) (by decide : (22 : TypeId) ≠ 47) (by decide : (3 : TypeId) ≠ 47) (by decide : (4 : TypeId) ≠ 47) (by decide : (9 : TypeId) ≠ 47) (by decide : (50 : TypeId) ≠ 47)) h)
   have HG12 := Lib.hid hg11
   have HO12 : Hid (Only [] w0 (w11.setCell ⟨gw, 2, none⟩ (.slice A11 (xs.length + 1) c11))) := Lib.hid (((HO10.out.alloc (.cells #[.int .i64 0, .int .i64 0, .slice none 0 0] 43)).step (only_grown HG11.out.2.1) (own_new HV10.out)).put (p := ⟨gw, 2, none⟩) (fun h => by have := HW3.out.gwb; simp only at h; omega) _)
   have HGW := Lib.hid HW3.out.gwb
   have HPT := Lib.hid HW3.out.parts
   clear b2 lb f2 HR11 hg11 hE11 hgge HG11 HB11 HB10 HE10 HR10 HO10 HW3 hb10
   generalize (w11.setCell ⟨gw, 2, none⟩ (.slice A11 (xs.length + 1) c11)) = w12 at *
   clear w11
   have HB12S := Lib.hid HO12.out.size
   refine wp_region_noPanic ?_
   refine wp_region_timed (F := [⟨[], [34], fun w' => Only (ownB (l12 R0 (.slice AN m.ps.length cN) VK VI VO xs)) w12 w'⟩, ⟨[], [], fun w' => Only (gw :: ownB (l12 R0 (.slice AN m.ps.length cN) VK VI VO xs)) w12 w'⟩]) (by kernel_rfl) (timed_holds ((Only.refl _ w12).drew) (timed_holds ((Only.refl _ w12).drew) (timed_nil))) ?_
   have OW : Only (ownB (l12 R0 (.slice AN m.ps.length cN) VK VI VO xs)) w12 w12.drew := (Only.refl _ w12).drew
   have HR : ORs w12.drew w0.heap.size (R0 :: rowN (.slice AN m.ps.length cN) xs :: rowK VK xs :: rowI VI xs :: rowO VO xs :: xs.flatMap two) := HR12.out.only ((Only.refl [] w12).drew) (by simp)
   generalize hwz : w12.drew = wz at *
   clear hwz
   refine timed_pure (i := 0) (v := ?_) rfl (by kernel_rfl) (by kernel_rfl) (by kernel_rfl) (fun _ _ _ h => h) (by kernel_rfl) (by kernel_rfl) ?_ ?_
   rotate_left
   ·(intro w; go_simp; try with_reducible rfl)
   try simp only [Act.put, tdy]
   refine timed_pure (i := 1) (v := ?_) rfl (by kernel_rfl) (by kernel_rfl) (by kernel_rfl) (fun _ _ _ h => h) (by kernel_rfl) (by kernel_rfl) ?_ ?_
   rotate_left
   ·(intro w; go_simp; try with_reducible rfl)
   try simp only [Act.put, tdy]
   refine timed_pure (i := 2) (v := ?_) rfl (by kernel_rfl) (by kernel_rfl) (by kernel_rfl) (fun _ _ _ h => h) (by kernel_rfl) (by kernel_rfl) ?_ ?_
   rotate_left
   ·(intro w; go_simp; try with_reducible rfl)
   try simp only [Act.put, tdy]
   refine timed_pure (i := 3) (v := ?_) rfl (by kernel_rfl) (by kernel_rfl) (by kernel_rfl) (fun _ _ _ h => h) (by kernel_rfl) (by kernel_rfl) ?_ ?_
   rotate_left
   ·(intro w; go_simp; try with_reducible rfl)
   try simp only [Act.put, tdy]
   refine timed_pure (i := 4) (v := ?_) rfl (by kernel_rfl) (by kernel_rfl) (by kernel_rfl) (fun _ _ _ h => h) (by kernel_rfl) (by kernel_rfl) ?_ ?_
   rotate_left
   ·(intro w; go_simp; try with_reducible rfl)
   try simp only [Act.put, tdy]
   refine timed_pure (i := 5) (v := ?_) rfl (by kernel_rfl) (by kernel_rfl) (by kernel_rfl) (fun _ _ _ h => h) (by kernel_rfl) (by kernel_rfl) ?_ ?_
   rotate_left
   ·(intro w; go_simp; try with_reducible rfl)
   try simp only [Act.put, tdy]
   refine timed_pure (i := 6) (v := ?_) rfl (by kernel_rfl) (by kernel_rfl) (by kernel_rfl) (fun _ _ _ h => h) (by kernel_rfl) (by kernel_rfl) ?_ ?_
   rotate_left
   ·(intro w; go_simp; try with_reducible rfl)
   try simp only [Act.put, tdy]
   refine timed_read (i := 7) (v := ?_) 0 rfl (by kernel_rfl) (by kernel_rfl) (by kernel_rfl) (fun _ _ _ h => h) (by kernel_rfl) (by kernel_rfl) rfl (by kernel_rfl) ?_ ?_
   rotate_left
   ·(intro wq hSw; (try dsimp only at hSw); have hb := hSw.blk HB12.out HG12.out; have lb := hb.lt; have b3 := hb.at_ 3; have b4 := hb.at_ 4; have b5 := hb.at_ 5; have b6 := hb.at_ 6; simp at b3 b4 b5 b6; clear hb; clear hSw; go_simp; try with_reducible rfl)
   try simp only [Act.put, tdy]
   refine timed_pure (i := 8) (v := ?_) rfl (by kernel_rfl) (by kernel_rfl) (by kernel_rfl) (fun _ _ _ h => h) (by kernel_rfl) (by kernel_rfl) ?_ ?_
   rotate_left
   ·(intro w; go_simp; try with_reducible rfl)
   try simp only [Act.put, tdy]
   refine timed_read (i := 9) (v := ?_) 1 rfl (by kernel_rfl) (by kernel_rfl) (by kernel_rfl) (fun _ _ _ h => h) (by kernel_rfl) (by kernel_rfl) rfl (by kernel_rfl) ?_ ?_
   rotate_left
   ·(intro wq hSw; (try dsimp only at hSw); have he := hSw.blk HE12.out HGE12.out; have le := he.lt; have e1 := he.at_ 1; have e5 := he.at_ 5; simp at e1 e5; clear he; clear hSw; go_simp; try with_reducible rfl)
   try simp only [Act.put, tdy]
   refine timed_pure (i := 12) (v := ?_) rfl (by kernel_rfl) (by kernel_rfl) (by kernel_rfl) (fun _ _ _ h => h) (by kernel_rfl) (by kernel_rfl) ?_ ?_
   rotate_left
   ·(intro w; go_simp; try with_reducible rfl)
   try simp only [Act.put, tdy]
   refine timed_pure (i := 13) (v := ?_) rfl (by kernel_rfl) (by kernel_rfl) (by kernel_rfl) (fun _ _ _ h => h) (by kernel_rfl) (by kernel_rfl) ?_ ?_
   rotate_left
   ·(intro w; go_simp; try with_reducible rfl)
   try simp only [Act.put, tdy]
   refine timed_pure (i := 14) (v := ?_) rfl (by kernel_rfl) (by kernel_rfl) (by kernel_rfl) (fun _ _ _ h => h) (by kernel_rfl) (by kernel_rfl) ?_ ?_
   rotate_left
   ·(intro w; go_simp; try with_reducible rfl)
   try simp only [Act.put, tdy]
   refine timed_read (i := 15) (v := ?_) 0 rfl (by kernel_rfl) (by kernel_rfl) (by kernel_rfl) (fun _ _ _ h => h) (by kernel_rfl) (by kernel_rfl) rfl (by kernel_rfl) ?_ ?_
   rotate_left
   ·(intro wq hSw; (try dsimp only at hSw); have hb := hSw.blk HB12.out HG12.out; have lb := hb.lt; have b3 := hb.at_ 3; have b4 := hb.at_ 4; have b5 := hb.at_ 5; have b6 := hb.at_ 6; simp at b3 b4 b5 b6; clear hb; clear hSw; go_simp; try with_reducible rfl)
   try simp only [Act.put, tdy]
   refine timed_pure (i := 18) (v := ?_) rfl (by kernel_rfl) (by kernel_rfl) (by kernel_rfl) (fun _ _ _ h => h) (by kernel_rfl) (by kernel_rfl) ?_ ?_
   rotate_left
   ·(intro w; go_simp; try with_reducible rfl)
   try simp only [Act.put, tdy]
   refine timed_pure (i := 19) (v := ?_) rfl (by kernel_rfl) (by kernel_rfl) (by kernel_rfl) (fun _ _ _ h => h) (by kernel_rfl) (by kernel_rfl) ?_ ?_
   rotate_left
   ·(intro w; go_simp; try with_reducible rfl)
   try simp only [Act.put, tdy]
   refine timed_pure (i := 20) (v := ?_) rfl (by kernel_rfl) (by kernel_rfl) (by kernel_rfl) (fun _ _ _ h => h) (by kernel_rfl) (by kernel_rfl) ?_ ?_
   rotate_left
   ·(intro w; go_simp; try with_reducible rfl)
   try simp only [Act.put, tdy]
   refine timed_read (i := 21) (v := ?_) 0 rfl (by kernel_rfl) (by kernel_rfl) (by kernel_rfl) (fun _ _ _ h => h) (by kernel_rfl) (by kernel_rfl) rfl (by kernel_rfl) ?_ ?_
   rotate_left
   ·(intro wq hSw; (try dsimp only at hSw); have hb := hSw.blk HB12.out HG12.out; have lb := hb.lt; have b3 := hb.at_ 3; have b4 := hb.at_ 4; have b5 := hb.at_ 5; have b6 := hb.at_ 6; simp at b3 b4 b5 b6; clear hb; clear hSw; go_simp; try with_reducible rfl)
   try simp only [Act.put, tdy]
   refine timed_pure (i := 22) (v := ?_) rfl (by kernel_rfl) (by kernel_rfl) (by kernel_rfl) (fun _ _ _ h => h) (by kernel_rfl) (by kernel_rfl) ?_ ?_
   rotate_left
   ·(intro w; go_simp; try with_reducible rfl)
   try simp only [Act.put, tdy]
   refine timed_read (i := 23) (v := ?_) 1 rfl (by kernel_rfl) (by kernel_rfl) (by kernel_rfl) (fun _ _ _ h => h) (by kernel_rfl) (by kernel_rfl) rfl (by kernel_rfl) ?_ ?_
   rotate_left
   ·(intro wq hSw; (try dsimp only at hSw); have he := hSw.blk HE12.out HGE12.out; have le := he.lt; have e1 := he.at_ 1; have e5 := he.at_ 5; simp at e1 e5; clear he; clear hSw; go_simp; try with_reducible rfl)
   try simp only [Act.put, tdy]
   refine timed_pure (i := 26) (v := ?_) rfl (by kernel_rfl) (by kernel_rfl) (by kernel_rfl) (fun _ _ _ h => h) (by kernel_rfl) (by kernel_rfl) ?_ ?_
   rotate_left
   ·(intro w; go_simp; try with_reducible rfl)
   try simp only [Act.put, tdy]
   refine timed_pure (i := 27) (v := ?_) rfl (by kernel_rfl) (by kernel_rfl) (by kernel_rfl) (fun _ _ _ h => h) (by kernel_rfl) (by kernel_rfl) ?_ ?_
   rotate_left
   ·(intro w; go_simp; try with_reducible rfl)
   try simp only [Act.put, tdy]
   refine timed_pure (i := 28) (v := ?_) rfl (by kernel_rfl) (by kernel_rfl) (by kernel_rfl) (fun _ _ _ h => h) (by kernel_rfl) (by kernel_rfl) ?_ ?_
   rotate_left
   ·(intro w; go_simp; try with_reducible rfl)
   try simp only [Act.put, tdy]
   refine timed_read (i := 29) (v := ?_) 0 rfl (by kernel_rfl) (by kernel_rfl) (by kernel_rfl) (fun _ _ _ h => h) (by kernel_rfl) (by kernel_rfl) rfl (by kernel_rfl) ?_ ?_
   rotate_left
   ·(intro wq hSw; (try dsimp only at hSw); have hb := hSw.blk HB12.out HG12.out; have lb := hb.lt; have b3 := hb.at_ 3; have b4 := hb.at_ 4; have b5 := hb.at_ 5; have b6 := hb.at_ 6; simp at b3 b4 b5 b6; clear hb; clear hSw; go_simp; try with_reducible rfl)
   try simp only [Act.put, tdy]
   apply cut_4_4 (fun w g10 g16 g24 g30 y11 y17 y25 y31 => (Only (ownB (l12 R0 (.slice AN m.ps.length cN) VK VI VO xs)) w12 w) ∧ (ORs w w0.heap.size (R0 :: (⟨9, 1, y11, xs.length + 1, (rowN (.slice AN m.ps.length cN) xs).xs ++ [(.string sn : Value)]⟩ : OR) :: (⟨22, 1, y17, xs.length + 1, (rowK VK xs).xs ++ [(.slice none 0 0 : Value)]⟩ : OR) :: (⟨3, 1, y25, xs.length + 1, (rowI VI xs).xs ++ [(.int .i64 aln : Value)]⟩ : OR) :: (⟨4, 1, y31, xs.length + 1, (rowO VO xs).xs ++ [(.bool true : Value)]⟩ : OR) :: xs.flatMap two)))
   intro HST10_11_16_17_24_25_30_31
   apply cut_4_3 (fun w g10 g16 g24 g30 y11 y17 y25 => (Only (ownB (l12 R0 (.slice AN m.ps.length cN) VK VI VO xs)) w12 w) ∧ (ORs w w0.heap.size (R0 :: (⟨9, 1, y11, xs.length + 1, (rowN (.slice AN m.ps.length cN) xs).xs ++ [(.string sn : Value)]⟩ : OR) :: (⟨22, 1, y17, xs.length + 1, (rowK VK xs).xs ++ [(.slice none 0 0 : Value)]⟩ : OR) :: (⟨3, 1, y25, xs.length + 1, (rowI VI xs).xs ++ [(.int .i64 aln : Value)]⟩ : OR) :: rowO VO xs :: xs.flatMap two)) ∧ (Blk w g30 4 #[.bool true]))
   intro HST10_11_16_17_24_25_30
   apply cut_4_2 (fun w g10 g16 g24 g30 y11 y17 => (Only (ownB (l12 R0 (.slice AN m.ps.length cN) VK VI VO xs)) w12 w) ∧ (ORs w w0.heap.size (R0 :: (⟨9, 1, y11, xs.length + 1, (rowN (.slice AN m.ps.length cN) xs).xs ++ [(.string sn : Value)]⟩ : OR) :: (⟨22, 1, y17, xs.length + 1, (rowK VK xs).xs ++ [(.slice none 0 0 : Value)]⟩ : OR) :: rowI VI xs :: rowO VO xs :: xs.flatMap two)) ∧ (Blk w g24 3 #[.int .i64 aln]) ∧ (Blk w g30 4 #[.bool true]))
   intro HST10_11_16_17_24_30
   apply cut_3_3 (fun w g10 g16 g24 y11 y17 y25 => (Only (ownB (l12 R0 (.slice AN m.ps.length cN) VK VI VO xs)) w12 w) ∧ (ORs w w0.heap.size (R0 :: (⟨9, 1, y11, xs.length + 1, (rowN (.slice AN m.ps.length cN) xs).xs ++ [(.string sn : Value)]⟩ : OR) :: (⟨22, 1, y17, xs.length + 1, (rowK VK xs).xs ++ [(.slice none 0 0 : Value)]⟩ : OR) :: (⟨3, 1, y25, xs.length + 1, (rowI VI xs).xs ++ [(.int .i64 aln : Value)]⟩ : OR) :: rowO VO xs :: xs.flatMap two)))
   intro HST10_11_16_17_24_25
   apply cut_4_1 (fun w g10 g16 g24 g30 y11 => (Only (ownB (l12 R0 (.slice AN m.ps.length cN) VK VI VO xs)) w12 w) ∧ (ORs w w0.heap.size (R0 :: (⟨9, 1, y11, xs.length + 1, (rowN (.slice AN m.ps.length cN) xs).xs ++ [(.string sn : Value)]⟩ : OR) :: rowK VK xs :: rowI VI xs :: rowO VO xs :: xs.flatMap two)) ∧ (Blk w g16 22 #[.slice none 0 0]) ∧ (Blk w g24 3 #[.int .i64 aln]) ∧ (Blk w g30 4 #[.bool true]))
   intro HST10_11_16_24_30
   apply cut_3_2 (fun w g10 g16 g30 y11 y17 => (Only (ownB (l12 R0 (.slice AN m.ps.length cN) VK VI VO xs)) w12 w) ∧ (ORs w w0.heap.size (R0 :: (⟨9, 1, y11, xs.length + 1, (rowN (.slice AN m.ps.length cN) xs).xs ++ [(.string sn : Value)]⟩ : OR) :: (⟨22, 1, y17, xs.length + 1, (rowK VK xs).xs ++ [(.slice none 0 0 : Value)]⟩ : OR) :: rowI VI xs :: rowO VO xs :: xs.flatMap two)) ∧ (Blk w g30 4 #[.bool true]))
   intro HST10_11_16_17_30
   apply cut_3_2 (fun w g10 g16 g24 y11 y17 => (Only (ownB (l12 R0 (.slice AN m.ps.length cN) VK VI VO xs)) w12 w) ∧ (ORs w w0.heap.size (R0 :: (⟨9, 1, y11, xs.length + 1, (rowN (.slice AN m.ps.length cN) xs).xs ++ [(.string sn : Value)]⟩ : OR) :: (⟨22, 1, y17, xs.length + 1, (rowK VK xs).xs ++ [(.slice none 0 0 : Value)]⟩ : OR) :: rowI VI xs :: rowO VO xs :: xs.flatMap two)) ∧ (Blk w g24 3 #[.int .i64 aln]))
   intro HST10_11_16_17_24
   apply cut_4_0 (fun w g10 g16 g24 g30 => (Only (ownB (l12 R0 (.slice AN m.ps.length cN) VK VI VO xs)) w12 w) ∧ (ORs w w0.heap.size (R0 :: rowN (.slice AN m.ps.length cN) xs :: rowK VK xs :: rowI VI xs :: rowO VO xs :: xs.flatMap two)) ∧ (Blk w g10 9 #[.string sn]) ∧ (Blk w g16 22 #[.slice none 0 0]) ∧ (Blk w g24 3 #[.int .i64 aln]) ∧ (Blk w g30 4 #[.bool true]))
   intro HST10_16_24_30
   apply cut_3_1 (fun w g10 g24 g30 y11 => (Only (ownB (l12 R0 (.slice AN m.ps.length cN) VK VI VO xs)) w12 w) ∧ (ORs w w0.heap.size (R0 :: (⟨9, 1, y11, xs.length + 1, (rowN (.slice AN m.ps.length cN) xs).xs ++ [(.string sn : Value)]⟩ : OR) :: rowK VK xs :: rowI VI xs :: rowO VO xs :: xs.flatMap two)) ∧ (Blk w g24 3 #[.int .i64 aln]) ∧ (Blk w g30 4 #[.bool true]))
   intro HST10_11_24_30
   apply cut_3_1 (fun w g10 g16 g30 y11 => (Only (ownB (l12 R0 (.slice AN m.ps.length cN) VK VI VO xs)) w12 w) ∧ (ORs w w0.heap.size (R0 :: (⟨9, 1, y11, xs.length + 1, (rowN (.slice AN m.ps.length cN) xs).xs ++ [(.string sn : Value)]⟩ : OR) :: rowK VK xs :: rowI VI xs :: rowO VO xs :: xs.flatMap two)) ∧ (Blk w g16 22 #[.slice none 0 0]) ∧ (Blk w g30 4 #[.bool true]))
   intro HST10_11_16_30
   apply cut_3_1 (fun w g10 g16 g24 y11 => (Only (ownB (l12 R0 (.slice AN m.ps.length cN) VK VI VO xs)) w12 w) ∧ (ORs w w0.heap.size (R0 :: (⟨9, 1, y11, xs.length + 1, (rowN (.slice AN m.ps.length cN) xs).xs ++ [(.string sn : Value)]⟩ : OR) :: rowK VK xs :: rowI VI xs :: rowO VO xs :: xs.flatMap two)) ∧ (Blk w g16 22 #[.slice none 0 0]) ∧ (Blk w g24 3 #[.int .i64 aln]))
   intro HST10_11_16_24
   apply cut_2_2 (fun w g10 g16 y11 y17 => (Only (ownB (l12 R0 (.slice AN m.ps.length cN) VK VI VO xs)) w12 w) ∧ (ORs w w0.heap.size (R0 :: (⟨9, 1, y11, xs.length + 1, (rowN (.slice AN m.ps.length cN) xs).xs ++ [(.string sn : Value)]⟩ : OR) :: (⟨22, 1, y17, xs.length + 1, (rowK VK xs).xs ++ [(.slice none 0 0 : Value)]⟩ : OR) :: rowI VI xs :: rowO VO xs :: xs.flatMap two)))
   intro HST10_11_16_17
   apply cut_3_0 (fun w g16 g24 g30 => (Only (ownB (l12 R0 (.slice AN m.ps.length cN) VK VI VO xs)) w12 w) ∧ (ORs w w0.heap.size (R0 :: rowN (.slice AN m.ps.length cN) xs :: rowK VK xs :: rowI VI xs :: rowO VO xs :: xs.flatMap two)) ∧ (Blk w g16 22 #[.slice none 0 0]) ∧ (Blk w g24 3 #[.int .i64 aln]) ∧ (Blk w g30 4 #[.bool true]))
   intro HST16_24_30
   apply cut_3_0 (fun w g10 g24 g30 => (Only (ownB (l12 R0 (.slice AN m.ps.length cN) VK VI VO xs)) w12 w) ∧ (ORs w w0.heap.size (R0 :: rowN (.slice AN m.ps.length cN) xs :: rowK VK xs :: rowI VI xs :: rowO VO xs :: xs.flatMap two)) ∧ (Blk w g10 9 #[.string sn]) ∧ (Blk w g24 3 #[.int .i64 aln]) ∧ (Blk w g30 4 #[.bool true]))
   intro HST10_24_30
   apply cut_3_0 (fun w g10 g16 g30 => (Only (ownB (l12 R0 (.slice AN m.ps.length cN) VK VI VO xs)) w12 w) ∧ (ORs w w0.heap.size (R0 :: rowN (.slice AN m.ps.length cN) xs :: rowK VK xs :: rowI VI xs :: rowO VO xs :: xs.flatMap two)) ∧ (Blk w g10 9 #[.string sn]) ∧ (Blk w g16 22 #[.slice none 0 0]) ∧ (Blk w g30 4 #[.bool true]))
   intro HST10_16_30
   apply cut_3_0 (fun w g10 g16 g24 => (Only (ownB (l12 R0 (.slice AN m.ps.length cN) VK VI VO xs)) w12 w) ∧ (ORs w w0.heap.size (R0 :: rowN (.slice AN m.ps.length cN) xs :: rowK VK xs :: rowI VI xs :: rowO VO xs :: xs.flatMap two)) ∧ (Blk w g10 9 #[.string sn]) ∧ (Blk w g16 22 #[.slice none 0 0]) ∧ (Blk w g24 3 #[.int .i64 aln]))
   intro HST10_16_24
   apply cut_2_1 (fun w g10 g30 y11 => (Only (ownB (l12 R0 (.slice AN m.ps.length cN) VK VI VO xs)) w12 w) ∧ (ORs w w0.heap.size (R0 :: (⟨9, 1, y11, xs.length + 1, (rowN (.slice AN m.ps.length cN) xs).xs ++ [(.string sn : Value)]⟩ : OR) :: rowK VK xs :: rowI VI xs :: rowO VO xs :: xs.flatMap two)) ∧ (Blk w g30 4 #[.bool true]))
   intro HST10_11_30
   apply cut_2_1 (fun w g10 g24 y11 => (Only (ownB (l12 R0 (.slice AN m.ps.length cN) VK VI VO xs)) w12 w) ∧ (ORs w w0.heap.size (R0 :: (⟨9, 1, y11, xs.length + 1, (rowN (.slice AN m.ps.length cN) xs).xs ++ [(.string sn : Value)]⟩ : OR) :: rowK VK xs :: rowI VI xs :: rowO VO xs :: xs.flatMap two)) ∧ (Blk w g24 3 #[.int .i64 aln]))
   intro HST10_11_24
   apply cut_2_1 (fun w g10 g16 y11 => (Only (ownB (l12 R0 (.slice AN m.ps.length cN) VK VI VO xs)) w12 w) ∧ (ORs w w0.heap.size (R0 :: (⟨9, 1, y11, xs.length + 1, (rowN (.slice AN m.ps.length cN) xs).xs ++ [(.string sn : Value)]⟩ : OR) :: rowK VK xs :: rowI VI xs :: rowO VO xs :: xs.flatMap two)) ∧ (Blk w g16 22 #[.slice none 0 0]))
   intro HST10_11_16
   apply cut_2_0 (fun w g24 g30 => (Only (ownB (l12 R0 (.slice AN m.ps.length cN) VK VI VO xs)) w12 w) ∧ (ORs w w0.heap.size (R0 :: rowN (.slice AN m.ps.length cN) xs :: rowK VK xs :: rowI VI xs :: rowO VO xs :: xs.flatMap two)) ∧ (Blk w g24 3 #[.int .i64 aln]) ∧ (Blk w g30 4 #[.bool true]))
   intro HST24_30
   apply cut_2_0 (fun w g16 g30 => (Only (ownB (l12 R0 (.slice AN m.ps.length cN) VK VI VO xs)) w12 w) ∧ (ORs w w0.heap.size (R0 :: rowN (.slice AN m.ps.length cN) xs :: rowK VK xs :: rowI VI xs :: rowO VO xs :: xs.flatMap two)) ∧ (Blk w g16 22 #[.slice none 0 0]) ∧ (Blk w g30 4 #[.bool true]))
   intro HST16_30
   apply cut_2_0 (fun w g16 g24 => (Only (ownB (l12 R0 (.slice AN m.ps.length cN) VK VI VO xs)) w12 w) ∧ (ORs w w0.heap.size (R0 :: rowN (.slice AN m.ps.length cN) xs :: rowK VK xs :: rowI VI xs :: rowO VO xs :: xs.flatMap two)) ∧ (Blk w g16 22 #[.slice none 0 0]) ∧ (Blk w g24 3 #[.int .i64 aln]))
   intro HST16_24
   apply cut_2_0 (fun w g10 g30 => (Only (ownB (l12 R0 (.slice AN m.ps.length cN) VK VI VO xs)) w12 w) ∧ (ORs w w0.heap.size (R0 :: rowN (.slice AN m.ps.length cN) xs :: rowK VK xs :: rowI VI xs :: rowO VO xs :: xs.flatMap two)) ∧ (Blk w g10 9 #[.string sn]) ∧ (Blk w g30 4 #[.bool true]))
   intro HST10_30
   apply cut_2_0 (fun w g10 g24 => (Only (ownB (l12 R0 (.slice AN m.ps.length cN) VK VI VO xs)) w12 w) ∧ (ORs w w0.heap.size (R0 :: rowN (.slice AN m.ps.length cN) xs :: rowK VK xs :: rowI VI xs :: rowO VO xs :: xs.flatMap two)) ∧ (Blk w g10 9 #[.string sn]) ∧ (Blk w g24 3 #[.int .i64 aln]))
   intro HST10_24
   apply cut_2_0 (fun w g10 g16 => (Only (ownB (l12 R0 (.slice AN m.ps.length cN) VK VI VO xs)) w12 w) ∧ (ORs w w0.heap.size (R0 :: rowN (.slice AN m.ps.length cN) xs :: rowK VK xs :: rowI VI xs :: rowO VO xs :: xs.flatMap two)) ∧ (Blk w g10 9 #[.string sn]) ∧ (Blk w g16 22 #[.slice none 0 0]))
   intro HST10_16
   apply cut_1_1 (fun w g10 y11 => (Only (ownB (l12 R0 (.slice AN m.ps.length cN) VK VI VO xs)) w12 w) ∧ (ORs w w0.heap.size (R0 :: (⟨9, 1, y11, xs.length + 1, (rowN (.slice AN m.ps.length cN) xs).xs ++ [(.string sn : Value)]⟩ : OR) :: rowK VK xs :: rowI VI xs :: rowO VO xs :: xs.flatMap two)))
   intro HST10_11
   apply cut_1_0 (fun w g30 => (Only (ownB (l12 R0 (.slice AN m.ps.length cN) VK VI VO xs)) w12 w) ∧ (ORs w w0.heap.size (R0 :: rowN (.slice AN m.ps.length cN) xs :: rowK VK xs :: rowI VI xs :: rowO VO xs :: xs.flatMap two)) ∧ (Blk w g30 4 #[.bool true]))
   intro HST30
   apply cut_1_0 (fun w g24 => (Only (ownB (l12 R0 (.slice AN m.ps.length cN) VK VI VO xs)) w12 w) ∧ (ORs w w0.heap.size (R0 :: rowN (.slice AN m.ps.length cN) xs :: rowK VK xs :: rowI VI xs :: rowO VO xs :: xs.flatMap two)) ∧ (Blk w g24 3 #[.int .i64 aln]))
   intro HST24
   apply cut_1_0 (fun w g16 => (Only (ownB (l12 R0 (.slice AN m.ps.length cN) VK VI VO xs)) w12 w) ∧ (ORs w w0.heap.size (R0 :: rowN (.slice AN m.ps.length cN) xs :: rowK VK xs :: rowI VI xs :: rowO VO xs :: xs.flatMap two)) ∧ (Blk w g16 22 #[.slice none 0 0]))
   intro HST16
   apply cut_1_0 (fun w g10 => (Only (ownB (l12 R0 (.slice AN m.ps.length cN) VK VI VO xs)) w12 w) ∧ (ORs w w0.heap.size (R0 :: rowN (.slice AN m.ps.length cN) xs :: rowK VK xs :: rowI VI xs :: rowO VO xs :: xs.flatMap two)) ∧ (Blk w g10 9 #[.string sn]))
   intro HST10
   ·skip
    refine timed_forks (l := [10, 16, 24, 30]) (by kernel_rfl) (by simp) (fork_cons ⟨_, rfl, fun K hK => ?_⟩ (fork_cons ⟨_, rfl, fun K hK => ?_⟩ (fork_cons ⟨_, rfl, fun K hK => ?_⟩ (fork_cons ⟨_, rfl, fun K hK => ?_⟩ (fork_nil)))))
    ·go_simp
     have BN := Blk.made wz 9 #[.string sn]
     have OW1 := OW.alloc (.cells #[.string sn] 9)
     have HR1 := HR.same ((Only.refl [] wz).alloc (.cells #[.string sn] 9))
     obtain ⟨w1, hw1⟩ : ∃ w1 : World, w1 = wz.alloc (.cells #[.string sn] 9) := ⟨_, rfl⟩
     obtain ⟨g10, hg1⟩ : ∃ g : Nat, g = wz.heap.size := ⟨_, rfl⟩
     rw [← hw1] at BN OW1 HR1 ⊢
     rw [← hg1] at BN ⊢
     refine hK.out _ _ (timed_holds (OW1) (timed_holds ((OW1).wide (fun i hi _ => List.mem_cons_of_mem _ hi)) (timed_nil))) ?_
     clear hK K
     try simp only [Act.put, tdy]
     exact HST10 w1 g10 ⟨OW1, HR1, BN⟩
    ·go_simp
     have BN := Blk.made wz 22 #[.slice none 0 0]
     have OW1 := OW.alloc (.cells #[.slice none 0 0] 22)
     have HR1 := HR.same ((Only.refl [] wz).alloc (.cells #[.slice none 0 0] 22))
     obtain ⟨w1, hw1⟩ : ∃ w1 : World, w1 = wz.alloc (.cells #[.slice none 0 0] 22) := ⟨_, rfl⟩
     obtain ⟨g16, hg1⟩ : ∃ g : Nat, g = wz.heap.size := ⟨_, rfl⟩
     rw [← hw1] at BN OW1 HR1 ⊢
     rw [← hg1] at BN ⊢
     refine hK.out _ _ (timed_holds (OW1) (timed_holds ((OW1).wide (fun i hi _ => List.mem_cons_of_mem _ hi)) (timed_nil))) ?_
     clear hK K
     try simp only [Act.put, tdy]
     exact HST16 w1 g16 ⟨OW1, HR1, BN⟩
    ·go_simp
     have BN := Blk.made wz 3 #[.int .i64 aln]
     have OW1 := OW.alloc (.cells #[.int .i64 aln] 3)
     have HR1 := HR.same ((Only.refl [] wz).alloc (.cells #[.int .i64 aln] 3))
     obtain ⟨w1, hw1⟩ : ∃ w1 : World, w1 = wz.alloc (.cells #[.int .i64 aln] 3) := ⟨_, rfl⟩
     obtain ⟨g24, hg1⟩ : ∃ g : Nat, g = wz.heap.size := ⟨_, rfl⟩
     rw [← hw1] at BN OW1 HR1 ⊢
     rw [← hg1] at BN ⊢
     refine hK.out _ _ (timed_holds (OW1) (timed_holds ((OW1).wide (fun i hi _ => List.mem_cons_of_mem _ hi)) (timed_nil))) ?_
     clear hK K
     try simp only [Act.put, tdy]
     exact HST24 w1 g24 ⟨OW1, HR1, BN⟩
    ·go_simp
     have BN := Blk.made wz 4 #[.bool true]
     have OW1 := OW.alloc (.cells #[.bool true] 4)
     have HR1 := HR.same ((Only.refl [] wz).alloc (.cells #[.bool true] 4))
     obtain ⟨w1, hw1⟩ : ∃ w1 : World, w1 = wz.alloc (.cells #[.bool true] 4) := ⟨_, rfl⟩
     obtain ⟨g30, hg1⟩ : ∃ g : Nat, g = wz.heap.size := ⟨_, rfl⟩
     rw [← hw1] at BN OW1 HR1 ⊢
     rw [← hg1] at BN ⊢
     refine hK.out _ _ (timed_holds (OW1) (timed_holds ((OW1).wide (fun i hi _ => List.mem_cons_of_mem _ hi)) (timed_nil))) ?_
     clear hK K
     try simp only [Act.put, tdy]
     exact HST30 w1 g30 ⟨OW1, HR1, BN⟩
   ·skip
    intro wz g10 ⟨OW, HR, BL1⟩
    refine timed_forks (l := [11, 16, 24, 30]) (by kernel_rfl) (by simp) (fork_cons ⟨_, rfl, fun K hK => ?_⟩ (fork_cons ⟨_, rfl, fun K hK => ?_⟩ (fork_cons ⟨_, rfl, fun K hK => ?_⟩ (fork_cons ⟨_, rfl, fun K hK => ?_⟩ (fork_nil)))))
    ·have hsz : w12.heap.size ≤ wz.heap.size := OW.size
     have hxl := HXL.out
     have hb12 := HB12S.out
     have HV : wz.ownsRow w0.heap.size 9 1 (.slice AN m.ps.length cN) xs.length (rowN (.slice AN m.ps.length cN) xs).xs := HR.all 1 _ rfl
     refine step_append_row _ rfl (.tmp 59) (.tmp 62) 22 rfl w0.heap.size 9 is_ _ 1 16 Tryz.underlying22 his his0 his1 his2 rfl (by omega) _ xs.length ((rowN (.slice AN m.ps.length cN) xs).xs) (by rfl) (HV) _ _ 1 1 ([.string sn]) (by rfl) (by rfl) (BL1.row) (by intro u hu; simp at hu; subst hu; rfl) (by unfold maxLen; omega) (by omega) (by omega) ?_
     intro y11 w1 hown hgrow hat
     have OW1 := OW.step (only_grown hgrow) (fun i hi _ => ownB_mem.2 ⟨1, _, rfl, (by simpa using hi : Value.ownBlock (.slice AN m.ps.length cN) = some i)⟩)
     have HR1 : ORs w1 w0.heap.size (R0 :: (⟨9, 1, y11, xs.length + 1, (rowN (.slice AN m.ps.length cN) xs).xs ++ [(.string sn : Value)]⟩ : OR) :: rowK VK xs :: rowI VI xs :: rowO VO xs :: xs.flatMap two) := HR.upd (i := 1) (r' := (⟨9, 1, y11, xs.length + 1, (rowN (.slice AN m.ps.length cN) xs).xs ++ [(.string sn : Value)]⟩ : OR)) rfl (only_grown hgrow) hown (hat.imp id (fun e g hg => by rw [e] at hg; have := Option.some.inj hg; omega))
     refine hK.out _ _ (timed_holds (OW1) (timed_holds ((OW1).wide (fun i hi _ => List.mem_cons_of_mem _ hi)) (timed_nil))) ?_
     clear hK K
     try simp only [Act.put, tdy]
     exact HST10_11 w1 g10 y11 ⟨OW1, HR1⟩
    ·go_simp
     have BN := Blk.made wz 22 #[.slice none 0 0]
     have OW1 := OW.alloc (.cells #[.slice none 0 0] 22)
     have HR1 := HR.same ((Only.refl [] wz).alloc (.cells #[.slice none 0 0] 22))
     have BL11 := BL1.alloc (.cells #[.slice none 0 0] 22)
     obtain ⟨w1, hw1⟩ : ∃ w1 : World, w1 = wz.alloc (.cells #[.slice none 0 0] 22) := ⟨_, rfl⟩
     obtain ⟨g16, hg1⟩ : ∃ g : Nat, g = wz.heap.size := ⟨_, rfl⟩
     rw [← hw1] at BN OW1 HR1 BL11 ⊢
     rw [← hg1] at BN ⊢
     refine hK.out _ _ (timed_holds (OW1) (timed_holds ((OW1).wide (fun i hi _ => List.mem_cons_of_mem _ hi)) (timed_nil))) ?_
     clear hK K
     try simp only [Act.put, tdy]
     exact HST10_16 w1 g10 g16 ⟨OW1, HR1, BL11, BN⟩
    ·go_simp
     have BN := Blk.made wz 3 #[.int .i64 aln]
     have OW1 := OW.alloc (.cells #[.int .i64 aln] 3)
     have HR1 := HR.same ((Only.refl [] wz).alloc (.cells #[.int .i64 aln] 3))
     have BL11 := BL1.alloc (.cells #[.int .i64 aln] 3)
     obtain ⟨w1, hw1⟩ : ∃ w1 : World, w1 = wz.alloc (.cells #[.int .i64 aln] 3) := ⟨_, rfl⟩
     obtain ⟨g24, hg1⟩ : ∃ g : Nat, g = wz.heap.size := ⟨_, rfl⟩
     rw [← hw1] at BN OW1 HR1 BL11 ⊢
     rw [← hg1] at BN ⊢
     refine hK.out _ _ (timed_holds (OW1) (timed_holds ((OW1).wide (fun i hi _ => List.mem_cons_of_mem _ hi)) (timed_nil))) ?_
     clear hK K
     try simp only [Act.put, tdy]
     exact HST10_24 w1 g10 g24 ⟨OW1, HR1, BL11, BN⟩
    ·go_simp
     have BN := Blk.made wz 4 #[.bool true]
     have OW1 := OW.alloc (.cells #[.bool true] 4)
     have HR1 := HR.same ((Only.refl [] wz).alloc (.cells #[.bool true] 4))
     have BL11 := BL1.alloc (.cells #[.bool true] 4)
     obtain ⟨w1, hw1⟩ : ∃ w1 : World, w1 = wz.alloc (.cells #[.bool true] 4) := ⟨_, rfl⟩
     obtain ⟨g30, hg1⟩ : ∃ g : Nat, g = wz.heap.size := ⟨_, rfl⟩
     rw [← hw1] at BN OW1 HR1 BL11 ⊢
     rw [← hg1] at BN ⊢
     refine hK.out _ _ (timed_holds (OW1) (timed_holds ((OW1).wide (fun i hi _ => List.mem_cons_of_mem _ hi)) (timed_nil))) ?_
     clear hK K
     try simp only [Act.put, tdy]
     exact HST10_30 w1 g10 g30 ⟨OW1, HR1, BL11, BN⟩
   ·skip
    intro wz g16 ⟨OW, HR, BL2⟩
    refine timed_forks (l := [10, 24, 30]) (by kernel_rfl) (by simp) (fork_cons ⟨_, rfl, fun K hK => ?_⟩ (fork_cons ⟨_, rfl, fun K hK => ?_⟩ (fork_cons ⟨_, rfl, fun K hK => ?_⟩ (fork_nil))))
    ·go_simp
     have BN := Blk.made wz 9 #[.string sn]
     have OW1 := OW.alloc (.cells #[.string sn] 9)
     have HR1 := HR.same ((Only.refl [] wz).alloc (.cells #[.string sn] 9))
     have BL21 := BL2.alloc (.cells #[.string sn] 9)
     obtain ⟨w1, hw1⟩ : ∃ w1 : World, w1 = wz.alloc (.cells #[.string sn] 9) := ⟨_, rfl⟩
     obtain ⟨g10, hg1⟩ : ∃ g : Nat, g = wz.heap.size := ⟨_, rfl⟩
     rw [← hw1] at BN OW1 HR1 BL21 ⊢
     rw [← hg1] at BN ⊢
     refine hK.out _ _ (timed_holds (OW1) (timed_holds ((OW1).wide (fun i hi _ => List.mem_cons_of_mem _ hi)) (timed_nil))) ?_
     clear hK K
     try simp only [Act.put, tdy]
     exact HST10_16 w1 g10 g16 ⟨OW1, HR1, BN, BL21⟩
    ·go_simp
     have BN := Blk.made wz 3 #[.int .i64 aln]
     have OW1 := OW.alloc (.cells #[.int .i64 aln] 3)
     have HR1 := HR.same ((Only.refl [] wz).alloc (.cells #[.int .i64 aln] 3))
     have BL21 := BL2.alloc (.cells #[.int .i64 aln] 3)
     obtain ⟨w1, hw1⟩ : ∃ w1 : World, w1 = wz.alloc (.cells #[.int .i64 aln] 3) := ⟨_, rfl⟩
     obtain ⟨g24, hg1⟩ : ∃ g : Nat, g = wz.heap.size := ⟨_, rfl⟩
     rw [← hw1] at BN OW1 HR1 BL21 ⊢
     rw [← hg1] at BN ⊢
     refine hK.out _ _ (timed_holds (OW1) (timed_holds ((OW1).wide (fun i hi _ => List.mem_cons_of_mem _ hi)) (timed_nil))) ?_
     clear hK K
     try simp only [Act.put, tdy]
     exact HST16_24 w1 g16 g24 ⟨OW1, HR1, BL21, BN⟩
    ·go_simp
     have BN := Blk.made wz 4 #[.bool true]
     have OW1 := OW.alloc (.cells #[.bool true] 4)
     have HR1 := HR.same ((Only.refl [] wz).alloc (.cells #[.bool true] 4))
     have BL21 := BL2.alloc (.cells #[.bool true] 4)
     obtain ⟨w1, hw1⟩ : ∃ w1 : World, w1 = wz.alloc (.cells #[.bool true] 4) := ⟨_, rfl⟩
     obtain ⟨g30, hg1⟩ : ∃ g : Nat, g = wz.heap.size := ⟨_, rfl⟩
     rw [← hw1] at BN OW1 HR1 BL21 ⊢
     rw [← hg1] at BN ⊢
     refine hK.out _ _ (timed_holds (OW1) (timed_holds ((OW1).wide (fun i hi _ => List.mem_cons_of_mem _ hi)) (timed_nil))) ?_
     clear hK K
     try simp only [Act.put, tdy]
     exact HST16_30 w1 g16 g30 ⟨OW1, HR1, BL21, BN⟩
   ·skip
    intro wz g24 ⟨OW, HR, BL3⟩
    refine timed_forks (l := [10, 16, 30]) (by kernel_rfl) (by simp) (fork_cons ⟨_, rfl, fun K hK => ?_⟩ (fork_cons ⟨_, rfl, fun K hK => ?_⟩ (fork_cons ⟨_, rfl, fun K hK => ?_⟩ (fork_nil))))
    ·go_simp
     have BN := Blk.made wz 9 #[.string sn]
     have OW1 := OW.alloc (.cells #[.string sn] 9)
     have HR1 := HR.same ((Only.refl [] wz).alloc (.cells #[.string sn] 9))
     have BL31 := BL3.alloc (.cells #[.string sn] 9)
     obtain ⟨w1, hw1⟩ : ∃ w1 : World, w1 = wz.alloc (.cells #[.string sn] 9) := ⟨_, rfl⟩
     obtain ⟨g10, hg1⟩ : ∃ g : Nat, g = wz.heap.size := ⟨_, rfl⟩
     rw [← hw1] at BN OW1 HR1 BL31 ⊢
     rw [← hg1] at BN ⊢
     refine hK.out _ _ (timed_holds (OW1) (timed_holds ((OW1).wide (fun i hi _ => List.mem_cons_of_mem _ hi)) (timed_nil))) ?_
     clear hK K
     try simp only [Act.put, tdy]
     exact HST10_24 w1 g10 g24 ⟨OW1, HR1, BN, BL31⟩
    ·go_simp
     have BN := Blk.made wz 22 #[.slice none 0 0]
     have OW1 := OW.alloc (.cells #[.slice none 0 0] 22)
     have HR1 := HR.same ((Only.refl [] wz).alloc (.cells #[.slice none 0 0] 22))
     have BL31 := BL3.alloc (.cells #[.slice none 0 0] 22)
     obtain ⟨w1, hw1⟩ : ∃ w1 : World, w1 = wz.alloc (.cells #[.slice none 0 0] 22) := ⟨_, rfl⟩
     obtain ⟨g16, hg1⟩ : ∃ g : Nat, g = wz.heap.size := ⟨_, rfl⟩
     rw [← hw1] at BN OW1 HR1 BL31 ⊢
     rw [← hg1] at BN ⊢
     refine hK.out _ _ (timed_holds (OW1) (timed_holds ((OW1).wide (fun i hi _ => List.mem_cons_of_mem _ hi)) (timed_nil))) ?_
     clear hK K
     try simp only [Act.put, tdy]
     exact HST16_24 w1 g16 g24 ⟨OW1, HR1, BN, BL31⟩
    ·go_simp
     have BN := Blk.made wz 4 #[.bool true]
     have OW1 := OW.alloc (.cells #[.bool true] 4)
     have HR1 := HR.same ((Only.refl [] wz).alloc (.cells #[.bool true] 4))
     have BL31 := BL3.alloc (.cells #[.bool true] 4)
     obtain ⟨w1, hw1⟩ : ∃ w1 : World, w1 = wz.alloc (.cells #[.bool true] 4) := ⟨_, rfl⟩
     obtain ⟨g30, hg1⟩ : ∃ g : Nat, g = wz.heap.size := ⟨_, rfl⟩
     rw [← hw1] at BN OW1 HR1 BL31 ⊢
     rw [← hg1] at BN ⊢
     refine hK.out _ _ (timed_holds (OW1) (timed_holds ((OW1).wide (fun i hi _ => List.mem_cons_of_mem _ hi)) (timed_nil))) ?_
     clear hK K
     try simp only [Act.put, tdy]
     exact HST24_30 w1 g24 g30 ⟨OW1, HR1, BL31, BN⟩
   ·skip
    intro wz g30 ⟨OW, HR, BL4⟩
    refine timed_forks (l := [10, 16, 24]) (by kernel_rfl) (by simp) (fork_cons ⟨_, rfl, fun K hK => ?_⟩ (fork_cons ⟨_, rfl, fun K hK => ?_⟩ (fork_cons ⟨_, rfl, fun K hK => ?_⟩ (fork_nil))))
    ·go_simp
     have BN := Blk.made wz 9 #[.string sn]
     have OW1 := OW.alloc (.cells #[.string sn] 9)
     have HR1 := HR.same ((Only.refl [] wz).alloc (.cells #[.string sn] 9))
     have BL41 := BL4.alloc (.cells #[.string sn] 9)
     obtain ⟨w1, hw1⟩ : ∃ w1 : World, w1 = wz.alloc (.cells #[.string sn] 9) := ⟨_, rfl⟩
     obtain ⟨g10, hg1⟩ : ∃ g : Nat, g = wz.heap.size := ⟨_, rfl⟩
     rw [← hw1] at BN OW1 HR1 BL41 ⊢
     rw [← hg1] at BN ⊢
     refine hK.out _ _ (timed_holds (OW1) (timed_holds ((OW1).wide (fun i hi _ => List.mem_cons_of_mem _ hi)) (timed_nil))) ?_
     clear hK K
     try simp only [Act.put, tdy]
     exact HST10_30 w1 g10 g30 ⟨OW1, HR1, BN, BL41⟩
    ·go_simp
     have BN := Blk.made wz 22 #[.slice none 0 0]
     have OW1 := OW.alloc (.cells #[.slice none 0 0] 22)
     have HR1 := HR.same ((Only.refl [] wz).alloc (.cells #[.slice none 0 0] 22))
     have BL41 := BL4.alloc (.cells #[.slice none 0 0] 22)
     obtain ⟨w1, hw1⟩ : ∃ w1 : World, w1 = wz.alloc (.cells #[.slice none 0 0] 22) := ⟨_, rfl⟩
     obtain ⟨g16, hg1⟩ : ∃ g : Nat, g = wz.heap.size := ⟨_, rfl⟩
     rw [← hw1] at BN OW1 HR1 BL41 ⊢
     rw [← hg1] at BN ⊢
     refine hK.out _ _ (timed_holds (OW1) (timed_holds ((OW1).wide (fun i hi _ => List.mem_cons_of_mem _ hi)) (timed_nil))) ?_
     clear hK K
     try simp only [Act.put, tdy]
     exact HST16_30 w1 g16 g30 ⟨OW1, HR1, BN, BL41⟩
    ·go_simp
     have BN := Blk.made wz 3 #[.int .i64 aln]
     have OW1 := OW.alloc (.cells #[.int .i64 aln] 3)
     have HR1 := HR.same ((Only.refl [] wz).alloc (.cells #[.int .i64 aln] 3))
     have BL41 := BL4.alloc (.cells #[.int .i64 aln] 3)
     obtain ⟨w1, hw1⟩ : ∃ w1 : World, w1 = wz.alloc (.cells #[.int .i64 aln] 3) := ⟨_, rfl⟩
     obtain ⟨g24, hg1⟩ : ∃ g : Nat, g = wz.heap.size := ⟨_, rfl⟩
     rw [← hw1] at BN OW1 HR1 BL41 ⊢
     rw [← hg1] at BN ⊢
     refine hK.out _ _ (timed_holds (OW1) (timed_holds ((OW1).wide (fun i hi _ => List.mem_cons_of_mem _ hi)) (timed_nil))) ?_
     clear hK K
     try simp only [Act.put, tdy]
     exact HST24_30 w1 g24 g30 ⟨OW1, HR1, BN, BL41⟩
   ·skip
    intro wz g10 y11 ⟨OW, HR⟩
    refine timed_forks (l := [16, 24, 30]) (by kernel_rfl) (by simp) (fork_cons ⟨_, rfl, fun K hK => ?_⟩ (fork_cons ⟨_, rfl, fun K hK => ?_⟩ (fork_cons ⟨_, rfl, fun K hK => ?_⟩ (fork_nil))))
    ·go_simp
     have BN := Blk.made wz 22 #[.slice none 0 0]
     have OW1 := OW.alloc (.cells #[.slice none 0 0] 22)
     have HR1 := HR.same ((Only.refl [] wz).alloc (.cells #[.slice none 0 0] 22))
     obtain ⟨w1, hw1⟩ : ∃ w1 : World, w1 = wz.alloc (.cells #[.slice none 0 0] 22) := ⟨_, rfl⟩
     obtain ⟨g16, hg1⟩ : ∃ g : Nat, g = wz.heap.size := ⟨_, rfl⟩
     rw [← hw1] at BN OW1 HR1 ⊢
     rw [← hg1] at BN ⊢
     refine hK.out _ _ (timed_holds (OW1) (timed_holds ((OW1).wide (fun i hi _ => List.mem_cons_of_mem _ hi)) (timed_nil))) ?_
     clear hK K
     try simp only [Act.put, tdy]
     exact HST10_11_16 w1 g10 g16 y11 ⟨OW1, HR1, BN⟩
    ·go_simp
     have BN := Blk.made wz 3 #[.int .i64 aln]
     have OW1 := OW.alloc (.cells #[.int .i64 aln] 3)
     have HR1 := HR.same ((Only.refl [] wz).alloc (.cells #[.int .i64 aln] 3))
     obtain ⟨w1, hw1⟩ : ∃ w1 : World, w1 = wz.alloc (.cells #[.int .i64 aln] 3) := ⟨_, rfl⟩
     obtain ⟨g24, hg1⟩ : ∃ g : Nat, g = wz.heap.size := ⟨_, rfl⟩
     rw [← hw1] at BN OW1 HR1 ⊢
     rw [← hg1] at BN ⊢
     refine hK.out _ _ (timed_holds (OW1) (timed_holds ((OW1).wide (fun i hi _ => List.mem_cons_of_mem _ hi)) (timed_nil))) ?_
     clear hK K
     try simp only [Act.put, tdy]
     exact HST10_11_24 w1 g10 g24 y11 ⟨OW1, HR1, BN⟩
    ·go_simp
     have BN := Blk.made wz 4 #[.bool true]
     have OW1 := OW.alloc (.cells #[.bool true] 4)
     have HR1 := HR.same ((Only.refl [] wz).alloc (.cells #[.bool true] 4))
     obtain ⟨w1, hw1⟩ : ∃ w1 : World, w1 = wz.alloc (.cells #[.bool true] 4) := ⟨_, rfl⟩
     obtain ⟨g30, hg1⟩ : ∃ g : Nat, g = wz.heap.size := ⟨_, rfl⟩
     rw [← hw1] at BN OW1 HR1 ⊢
     rw [← hg1] at BN ⊢
     refine hK.out _ _ (timed_holds (OW1) (timed_holds ((OW1).wide (fun i hi _ => List.mem_cons_of_mem _ hi)) (timed_nil))) ?_
     clear hK K
     try simp only [Act.put, tdy]
     exact HST10_11_30 w1 g10 g30 y11 ⟨OW1, HR1, BN⟩
   ·skip
    intro wz g10 g16 ⟨OW, HR, BL1, BL2⟩
    refine timed_forks (l := [11, 24, 30]) (by kernel_rfl) (by simp) (fork_cons ⟨_, rfl, fun K hK => ?_⟩ (fork_cons ⟨_, rfl, fun K hK => ?_⟩ (fork_cons ⟨_, rfl, fun K hK => ?_⟩ (fork_nil))))
    ·have hsz : w12.heap.size ≤ wz.heap.size := OW.size
     have hxl := HXL.out
     have hb12 := HB12S.out
     have HV : wz.ownsRow w0.heap.size 9 1 (.slice AN m.ps.length cN) xs.length (rowN (.slice AN m.ps.length cN) xs).xs := HR.all 1 _ rfl
     refine step_append_row _ rfl (.tmp 59) (.tmp 62) 22 rfl w0.heap.size 9 is_ _ 1 16 Tryz.underlying22 his his0 his1 his2 rfl (by omega) _ xs.length ((rowN (.slice AN m.ps.length cN) xs).xs) (by rfl) (HV) _ _ 1 1 ([.string sn]) (by rfl) (by rfl) (BL1.row) (by intro u hu; simp at hu; subst hu; rfl) (by unfold maxLen; omega) (by omega) (by omega) ?_
     intro y11 w1 hown hgrow hat
     have OW1 := OW.step (only_grown hgrow) (fun i hi _ => ownB_mem.2 ⟨1, _, rfl, (by simpa using hi : Value.ownBlock (.slice AN m.ps.length cN) = some i)⟩)
     have HR1 : ORs w1 w0.heap.size (R0 :: (⟨9, 1, y11, xs.length + 1, (rowN (.slice AN m.ps.length cN) xs).xs ++ [(.string sn : Value)]⟩ : OR) :: rowK VK xs :: rowI VI xs :: rowO VO xs :: xs.flatMap two) := HR.upd (i := 1) (r' := (⟨9, 1, y11, xs.length + 1, (rowN (.slice AN m.ps.length cN) xs).xs ++ [(.string sn : Value)]⟩ : OR)) rfl (only_grown hgrow) hown (hat.imp id (fun e g hg => by rw [e] at hg; have := Option.some.inj hg; omega))
     have BL21 := (only_grown hgrow).blk BL2 (own_apart HV BL2 (by decide))
     refine hK.out _ _ (timed_holds (OW1) (timed_holds ((OW1).wide (fun i hi _ => List.mem_cons_of_mem _ hi)) (timed_nil))) ?_
     clear hK K
     try simp only [Act.put, tdy]
     exact HST10_11_16 w1 g10 g16 y11 ⟨OW1, HR1, BL21⟩
    ·go_simp
     have BN := Blk.made wz 3 #[.int .i64 aln]
     have OW1 := OW.alloc (.cells #[.int .i64 aln] 3)
     have HR1 := HR.same ((Only.refl [] wz).alloc (.cells #[.int .i64 aln] 3))
     have BL11 := BL1.alloc (.cells #[.int .i64 aln] 3)
     have BL21 := BL2.alloc (.cells #[.int .i64 aln] 3)
     obtain ⟨w1, hw1⟩ : ∃ w1 : World, w1 = wz.alloc (.cells #[.int .i64 aln] 3) := ⟨_, rfl⟩
     obtain ⟨g24, hg1⟩ : ∃ g : Nat, g = wz.heap.size := ⟨_, rfl⟩
     rw [← hw1] at BN OW1 HR1 BL11 BL21 ⊢
     rw [← hg1] at BN ⊢
     refine hK.out _ _ (timed_holds (OW1) (timed_holds ((OW1).wide (fun i hi _ => List.mem_cons_of_mem _ hi)) (timed_nil))) ?_
     clear hK K
     try simp only [Act.put, tdy]
     exact HST10_16_24 w1 g10 g16 g24 ⟨OW1, HR1, BL11, BL21, BN⟩
    ·go_simp
     have BN := Blk.made wz 4 #[.bool true]
     have OW1 := OW.alloc (.cells #[.bool true] 4)
     have HR1 := HR.same ((Only.refl [] wz).alloc (.cells #[.bool true] 4))
     have BL11 := BL1.alloc (.cells #[.bool true] 4)
     have BL21 := BL2.alloc (.cells #[.bool true] 4)
     obtain ⟨w1, hw1⟩ : ∃ w1 : World, w1 = wz.alloc (.cells #[.bool true] 4) := ⟨_, rfl⟩
     obtain ⟨g30, hg1⟩ : ∃ g : Nat, g = wz.heap.size := ⟨_, rfl⟩
     rw [← hw1] at BN OW1 HR1 BL11 BL21 ⊢
     rw [← hg1] at BN ⊢
     refine hK.out _ _ (timed_holds (OW1) (timed_holds ((OW1).wide (fun i hi _ => List.mem_cons_of_mem _ hi)) (timed_nil))) ?_
     clear hK K
     try simp only [Act.put, tdy]
     exact HST10_16_30 w1 g10 g16 g30 ⟨OW1, HR1, BL11, BL21, BN⟩
   ·skip
    intro wz g10 g24 ⟨OW, HR, BL1, BL3⟩
    refine timed_forks (l := [11, 16, 30]) (by kernel_rfl) (by simp) (fork_cons ⟨_, rfl, fun K hK => ?_⟩ (fork_cons ⟨_, rfl, fun K hK => ?_⟩ (fork_cons ⟨_, rfl, fun K hK => ?_⟩ (fork_nil))))
    ·have hsz : w12.heap.size ≤ wz.heap.size := OW.size
     have hxl := HXL.out
     have hb12 := HB12S.out
     have HV : wz.ownsRow w0.heap.size 9 1 (.slice AN m.ps.length cN) xs.length (rowN (.slice AN m.ps.length cN) xs).xs := HR.all 1 _ rfl
     refine step_append_row _ rfl (.tmp 59) (.tmp 62) 22 rfl w0.heap.size 9 is_ _ 1 16 Tryz.underlying22 his his0 his1 his2 rfl (by omega) _ xs.length ((rowN (.slice AN m.ps.length cN) xs).xs) (by rfl) (HV) _ _ 1 1 ([.string sn]) (by rfl) (by rfl) (BL1.row) (by intro u hu; simp at hu; subst hu; rfl) (by unfold maxLen; omega) (by omega) (by omega) ?_
     intro y11 w1 hown hgrow hat
     have OW1 := OW.step (only_grown hgrow) (fun i hi _ => ownB_mem.2 ⟨1, _, rfl, (by simpa using hi : Value.ownBlock (.slice AN m.ps.length cN) = some i)⟩)
     have HR1 : ORs w1 w0.heap.size (R0 :: (⟨9, 1, y11, xs.length + 1, (rowN (.slice AN m.ps.length cN) xs).xs ++ [(.string sn : Value)]⟩ : OR) :: rowK VK xs :: rowI VI xs :: rowO VO xs :: xs.flatMap two) := HR.upd (i := 1) (r' := (⟨9, 1, y11, xs.length + 1, (rowN (.slice AN m.ps.length cN) xs).xs ++ [(.string sn : Value)]⟩ : OR)) rfl (only_grown hgrow) hown (hat.imp id (fun e g hg => by rw [e] at hg; have := Option.some.inj hg; omega))
     have BL31 := (only_grown hgrow).blk BL3 (own_apart HV BL3 (by decide))
     refine hK.out _ _ (timed_holds (OW1) (timed_holds ((OW1).wide (fun i hi _ => List.mem_cons_of_mem _ hi)) (timed_nil))) ?_
     clear hK K
     try simp only [Act.put, tdy]
     exact HST10_11_24 w1 g10 g24 y11 ⟨OW1, HR1, BL31⟩
    ·go_simp
     have BN := Blk.made wz 22 #[.slice none 0 0]
     have OW1 := OW.alloc (.cells #[.slice none 0 0] 22)
     have HR1 := HR.same ((Only.refl [] wz).alloc (.cells #[.slice none 0 0] 22))
     have BL11 := BL1.alloc (.cells #[.slice none 0 0] 22)
     have BL31 := BL3.alloc (.cells #[.slice none 0 0] 22)
     obtain ⟨w1, hw1⟩ : ∃ w1 : World, w1 = wz.alloc (.cells #[.slice none 0 0] 22) := ⟨_, rfl⟩
     obtain ⟨g16, hg1⟩ : ∃ g : Nat, g = wz.heap.size := ⟨_, rfl⟩
     rw [← hw1] at BN OW1 HR1 BL11 BL31 ⊢
     rw [← hg1] at BN ⊢
     refine hK.out _ _ (timed_holds (OW1) (timed_holds ((OW1).wide (fun i hi _ => List.mem_cons_of_mem _ hi)) (timed_nil))) ?_
     clear hK K
     try simp only [Act.put, tdy]
     exact HST10_16_24 w1 g10 g16 g24 ⟨OW1, HR1, BL11, BN, BL31⟩
    ·go_simp
     have BN := Blk.made wz 4 #[.bool true]
     have OW1 := OW.alloc (.cells #[.bool true] 4)
     have HR1 := HR.same ((Only.refl [] wz).alloc (.cells #[.bool true] 4))
     have BL11 := BL1.alloc (.cells #[.bool true] 4)
     have BL31 := BL3.alloc (.cells #[.bool true] 4)
     obtain ⟨w1, hw1⟩ : ∃ w1 : World, w1 = wz.alloc (.cells #[.bool true] 4) := ⟨_, rfl⟩
     obtain ⟨g30, hg1⟩ : ∃ g : Nat, g = wz.heap.size := ⟨_, rfl⟩
     rw [← hw1] at BN OW1 HR1 BL11 BL31 ⊢
     rw [← hg1] at BN ⊢
     refine hK.out _ _ (timed_holds (OW1) (timed_holds ((OW1).wide (fun i hi _ => List.mem_cons_of_mem _ hi)) (timed_nil))) ?_
     clear hK K
     try simp only [Act.put, tdy]
     exact HST10_24_30 w1 g10 g24 g30 ⟨OW1, HR1, BL11, BL31, BN⟩
   ·skip
    intro wz g10 g30 ⟨OW, HR, BL1, BL4⟩
    refine timed_forks (l := [11, 16, 24]) (by kernel_rfl) (by simp) (fork_cons ⟨_, rfl, fun K hK => ?_⟩ (fork_cons ⟨_, rfl, fun K hK => ?_⟩ (fork_cons ⟨_, rfl, fun K hK => ?_⟩ (fork_nil))))
    ·have hsz : w12.heap.size ≤ wz.heap.size := OW.size
     have hxl := HXL.out
     have hb12 := HB12S.out
     have HV : wz.ownsRow w0.heap.size 9 1 (.slice AN m.ps.length cN) xs.length (rowN (.slice AN m.ps.length cN) xs).xs := HR.all 1 _ rfl
     refine step_append_row _ rfl (.tmp 59) (.tmp 62) 22 rfl w0.heap.size 9 is_ _ 1 16 Tryz.underlying22 his his0 his1 his2 rfl (by omega) _ xs.length ((rowN (.slice AN m.ps.length cN) xs).xs) (by rfl) (HV) _ _ 1 1 ([.string sn]) (by rfl) (by rfl) (BL1.row) (by intro u hu; simp at hu; subst hu; rfl) (by unfold maxLen; omega) (by omega) (by omega) ?_
     intro y11 w1 hown hgrow hat
     have OW1 := OW.step (only_grown hgrow) (fun i hi _ => ownB_mem.2 ⟨1, _, rfl, (by simpa using hi : Value.ownBlock (.slice AN m.ps.length cN) = some i)⟩)
     have HR1 : ORs w1 w0.heap.size (R0 :: (⟨9, 1, y11, xs.length + 1, (rowN (.slice AN m.ps.length cN) xs).xs ++ [(.string sn : Value)]⟩ : OR) :: rowK VK xs :: rowI VI xs :: rowO VO xs :: xs.flatMap two) := HR.upd (i := 1) (r' := (⟨9, 1, y11, xs.length + 1, (rowN (.slice AN m.ps.length cN) xs).xs ++ [(.string sn : Value)]⟩ : OR)) rfl (only_grown hgrow) hown (hat.imp id (fun e g hg => by rw [e] at hg; have := Option.some.inj hg; omega))
     have BL41 := (only_grown hgrow).blk BL4 (own_apart HV BL4 (by decide))
     refine hK.out _ _ (timed_holds (OW1) (timed_holds ((OW1).wide (fun i hi _ => List.mem_cons_of_mem _ hi)) (timed_nil))) ?_
     clear hK K
     try simp only [Act.put, tdy]
     exact HST10_11_30 w1 g10 g30 y11 ⟨OW1, HR1, BL41⟩
    ·go_simp
     have BN := Blk.made wz 22 #[.slice none 0 0]
     have OW1 := OW.alloc (.cells #[.slice none 0 0] 22)
     have HR1 := HR.same ((Only.refl [] wz).alloc (.cells #[.slice none 0 0] 22))
     have BL11 := BL1.alloc (.cells #[.slice none 0 0] 22)
     have BL41 := BL4.alloc (.cells #[.slice none 0 0] 22)
     obtain ⟨w1, hw1⟩ : ∃ w1 : World, w1 = wz.alloc (.cells #[.slice none 0 0] 22) := ⟨_, rfl⟩
     obtain ⟨g16, hg1⟩ : ∃ g : Nat, g = wz.heap.size := ⟨_, rfl⟩
     rw [← hw1] at BN OW1 HR1 BL11 BL41 ⊢
     rw [← hg1] at BN ⊢
     refine hK.out _ _ (timed_holds (OW1) (timed_holds ((OW1).wide (fun i hi _ => List.mem_cons_of_mem _ hi)) (timed_nil))) ?_
     clear hK K
     try simp only [Act.put, tdy]
     exact HST10_16_30 w1 g10 g16 g30 ⟨OW1, HR1, BL11, BN, BL41⟩
    ·go_simp
     have BN := Blk.made wz 3 #[.int .i64 aln]
     have OW1 := OW.alloc (.cells #[.int .i64 aln] 3)
     have HR1 := HR.same ((Only.refl [] wz).alloc (.cells #[.int .i64 aln] 3))
     have BL11 := BL1.alloc (.cells #[.int .i64 aln] 3)
     have BL41 := BL4.alloc (.cells #[.int .i64 aln] 3)
     obtain ⟨w1, hw1⟩ : ∃ w1 : World, w1 = wz.alloc (.cells #[.int .i64 aln] 3) := ⟨_, rfl⟩
     obtain ⟨g24, hg1⟩ : ∃ g : Nat, g = wz.heap.size := ⟨_, rfl⟩
     rw [← hw1] at BN OW1 HR1 BL11 BL41 ⊢
     rw [← hg1] at BN ⊢
     refine hK.out _ _ (timed_holds (OW1) (timed_holds ((OW1).wide (fun i hi _ => List.mem_cons_of_mem _ hi)) (timed_nil))) ?_
     clear hK K
     try simp only [Act.put, tdy]
     exact HST10_24_30 w1 g10 g24 g30 ⟨OW1, HR1, BL11, BN, BL41⟩
   ·skip
    intro wz g16 g24 ⟨OW, HR, BL2, BL3⟩
    refine timed_forks (l := [10, 30]) (by kernel_rfl) (by simp) (fork_cons ⟨_, rfl, fun K hK => ?_⟩ (fork_cons ⟨_, rfl, fun K hK => ?_⟩ (fork_nil)))
    ·go_simp
     have BN := Blk.made wz 9 #[.string sn]
     have OW1 := OW.alloc (.cells #[.string sn] 9)
     have HR1 := HR.same ((Only.refl [] wz).alloc (.cells #[.string sn] 9))
     have BL21 := BL2.alloc (.cells #[.string sn] 9)
     have BL31 := BL3.alloc (.cells #[.string sn] 9)
     obtain ⟨w1, hw1⟩ : ∃ w1 : World, w1 = wz.alloc (.cells #[.string sn] 9) := ⟨_, rfl⟩
     obtain ⟨g10, hg1⟩ : ∃ g : Nat, g = wz.heap.size := ⟨_, rfl⟩
     rw [← hw1] at BN OW1 HR1 BL21 BL31 ⊢
     rw [← hg1] at BN ⊢
     refine hK.out _ _ (timed_holds (OW1) (timed_holds ((OW1).wide (fun i hi _ => List.mem_cons_of_mem _ hi)) (timed_nil))) ?_
     clear hK K
     try simp only [Act.put, tdy]
     exact HST10_16_24 w1 g10 g16 g24 ⟨OW1, HR1, BN, BL21, BL31⟩
    ·go_simp
     have BN := Blk.made wz 4 #[.bool true]
     have OW1 := OW.alloc (.cells #[.bool true] 4)
     have HR1 := HR.same ((Only.refl [] wz).alloc (.cells #[.bool true] 4))
     have BL21 := BL2.alloc (.cells #[.bool true] 4)
     have BL31 := BL3.alloc (.cells #[.bool true] 4)
     obtain ⟨w1, hw1⟩ : ∃ w1 : World, w1 = wz.alloc (.cells #[.bool true] 4) := ⟨_, rfl⟩
     obtain ⟨g30, hg1⟩ : ∃ g : Nat, g = wz.heap.size := ⟨_, rfl⟩
     rw [← hw1] at BN OW1 HR1 BL21 BL31 ⊢
     rw [← hg1] at BN ⊢
     refine hK.out _ _ (timed_holds (OW1) (timed_holds ((OW1).wide (fun i hi _ => List.mem_cons_of_mem _ hi)) (timed_nil))) ?_
     clear hK K
     try simp only [Act.put, tdy]
     exact HST16_24_30 w1 g16 g24 g30 ⟨OW1, HR1, BL21, BL31, BN⟩
   ·skip
    intro wz g16 g30 ⟨OW, HR, BL2, BL4⟩
    refine timed_forks (l := [10, 24]) (by kernel_rfl) (by simp) (fork_cons ⟨_, rfl, fun K hK => ?_⟩ (fork_cons ⟨_, rfl, fun K hK => ?_⟩ (fork_nil)))
    ·go_simp
     have BN := Blk.made wz 9 #[.string sn]
     have OW1 := OW.alloc (.cells #[.string sn] 9)
     have HR1 := HR.same ((Only.refl [] wz).alloc (.cells #[.string sn] 9))
     have BL21 := BL2.alloc (.cells #[.string sn] 9)
     have BL41 := BL4.alloc (.cells #[.string sn] 9)
     obtain ⟨w1, hw1⟩ : ∃ w1 : World, w1 = wz.alloc (.cells #[.string sn] 9) := ⟨_, rfl⟩
     obtain ⟨g10, hg1⟩ : ∃ g : Nat, g = wz.heap.size := ⟨_, rfl⟩
     rw [← hw1] at BN OW1 HR1 BL21 BL41 ⊢
     rw [← hg1] at BN ⊢
     refine hK.out _ _ (timed_holds (OW1) (timed_holds ((OW1).wide (fun i hi _ => List.mem_cons_of_mem _ hi)) (timed_nil))) ?_
     clear hK K
     try simp only [Act.put, tdy]
     exact HST10_16_30 w1 g10 g16 g30 ⟨OW1, HR1, BN, BL21, BL41⟩
    ·go_simp
     have BN := Blk.made wz 3 #[.int .i64 aln]
     have OW1 := OW.alloc (.cells #[.int .i64 aln] 3)
     have HR1 := HR.same ((Only.refl [] wz).alloc (.cells #[.int .i64 aln] 3))
     have BL21 := BL2.alloc (.cells #[.int .i64 aln] 3)
     have BL41 := BL4.alloc (.cells #[.int .i64 aln] 3)
     obtain ⟨w1, hw1⟩ : ∃ w1 : World, w1 = wz.alloc (.cells #[.int .i64 aln] 3) := ⟨_, rfl⟩
     obtain ⟨g24, hg1⟩ : ∃ g : Nat, g = wz.heap.size := ⟨_, rfl⟩
     rw [← hw1] at BN OW1 HR1 BL21 BL41 ⊢
     rw [← hg1] at BN ⊢
     refine hK.out _ _ (timed_holds (OW1) (timed_holds ((OW1).wide (fun i hi _ => List.mem_cons_of_mem _ hi)) (timed_nil))) ?_
     clear hK K
     try simp only [Act.put, tdy]
     exact HST16_24_30 w1 g16 g24 g30 ⟨OW1, HR1, BL21, BN, BL41⟩
   ·skip
    intro wz g24 g30 ⟨OW, HR, BL3, BL4⟩
    refine timed_forks (l := [10, 16]) (by kernel_rfl) (by simp) (fork_cons ⟨_, rfl, fun K hK => ?_⟩ (fork_cons ⟨_, rfl, fun K hK => ?_⟩ (fork_nil)))
    ·go_simp
     have BN := Blk.made wz 9 #[.string sn]
     have OW1 := OW.alloc (.cells #[.string sn] 9)
     have HR1 := HR.same ((Only.refl [] wz).alloc (.cells #[.string sn] 9))
     have BL31 := BL3.alloc (.cells #[.string sn] 9)
     have BL41 := BL4.alloc (.cells #[.string sn] 9)
     obtain ⟨w1, hw1⟩ : ∃ w1 : World, w1 = wz.alloc (.cells #[.string sn] 9) := ⟨_, rfl⟩
     obtain ⟨g10, hg1⟩ : ∃ g : Nat, g = wz.heap.size := ⟨_, rfl⟩
     rw [← hw1] at BN OW1 HR1 BL31 BL41 ⊢
     rw [← hg1] at BN ⊢
     refine hK.out _ _ (timed_holds (OW1) (timed_holds ((OW1).wide (fun i hi _ => List.mem_cons_of_mem _ hi)) (timed_nil))) ?_
     clear hK K
     try simp only [Act.put, tdy]
     exact HST10_24_30 w1 g10 g24 g30 ⟨OW1, HR1, BN, BL31, BL41⟩
    ·go_simp
     have BN := Blk.made wz 22 #[.slice none 0 0]
     have OW1 := OW.alloc (.cells #[.slice none 0 0] 22)
     have HR1 := HR.same ((Only.refl [] wz).alloc (.cells #[.slice none 0 0] 22))
     have BL31 := BL3.alloc (.cells #[.slice none 0 0] 22)
     have BL41 := BL4.alloc (.cells #[.slice none 0 0] 22)
     obtain ⟨w1, hw1⟩ : ∃ w1 : World, w1 = wz.alloc (.cells #[.slice none 0 0] 22) := ⟨_, rfl⟩
     obtain ⟨g16, hg1⟩ : ∃ g : Nat, g = wz.heap.size := ⟨_, rfl⟩
     rw [← hw1] at BN OW1 HR1 BL31 BL41 ⊢
     rw [← hg1] at BN ⊢
     refine hK.out _ _ (timed_holds (OW1) (timed_holds ((OW1).wide (fun i hi _ => List.mem_cons_of_mem _ hi)) (timed_nil))) ?_
     clear hK K
     try simp only [Act.put, tdy]
     exact HST16_24_30 w1 g16 g24 g30 ⟨OW1, HR1, BN, BL31, BL41⟩
   ·skip
    intro wz g10 g16 y11 ⟨OW, HR, BL2⟩
    refine timed_forks (l := [17, 24, 30]) (by kernel_rfl) (by simp) (fork_cons ⟨_, rfl, fun K hK => ?_⟩ (fork_cons ⟨_, rfl, fun K hK => ?_⟩ (fork_cons ⟨_, rfl, fun K hK => ?_⟩ (fork_nil))))
    ·have hsz : w12.heap.size ≤ wz.heap.size := OW.size
     have hxl := HXL.out
     have hb12 := HB12S.out
     have HV : wz.ownsRow w0.heap.size 22 1 VK xs.length (rowK VK xs).xs := HR.all 2 _ rfl
     refine step_append_row _ rfl (.tmp 67) (.tmp 68) 88 rfl w0.heap.size 22 il _ 1 24 Tryz.underlying88 hil hil0 hil1 hil2 rfl (by omega) _ xs.length ((rowK VK xs).xs) (by rfl) (HV) _ _ 1 1 ([.slice none 0 0]) (by rfl) (by rfl) (BL2.row) (by intro u hu; simp at hu; subst hu; rfl) (by unfold maxLen; omega) (by omega) (by omega) ?_
     intro y17 w1 hown hgrow hat
     have OW1 := OW.step (only_grown hgrow) (fun i hi _ => ownB_mem.2 ⟨2, _, rfl, (by simpa using hi : Value.ownBlock VK = some i)⟩)
     have HR1 : ORs w1 w0.heap.size (R0 :: (⟨9, 1, y11, xs.length + 1, (rowN (.slice AN m.ps.length cN) xs).xs ++ [(.string sn : Value)]⟩ : OR) :: (⟨22, 1, y17, xs.length + 1, (rowK VK xs).xs ++ [(.slice none 0 0 : Value)]⟩ : OR) :: rowI VI xs :: rowO VO xs :: xs.flatMap two) := HR.upd (i := 2) (r' := (⟨22, 1, y17, xs.length + 1, (rowK VK xs).xs ++ [(.slice none 0 0 : Value)]⟩ : OR)) rfl (only_grown hgrow) hown (hat.imp id (fun e g hg => by rw [e] at hg; have := Option.some.inj hg; omega))
     refine hK.out _ _ (timed_holds (OW1) (timed_holds ((OW1).wide (fun i hi _ => List.mem_cons_of_mem _ hi)) (timed_nil))) ?_
     clear hK K
     try simp only [Act.put, tdy]
     exact HST10_11_16_17 w1 g10 g16 y11 y17 ⟨OW1, HR1⟩
    ·go_simp
     have BN := Blk.made wz 3 #[.int .i64 aln]
     have OW1 := OW.alloc (.cells #[.int .i64 aln] 3)
     have HR1 := HR.same ((Only.refl [] wz).alloc (.cells #[.int .i64 aln] 3))
     have BL21 := BL2.alloc (.cells #[.int .i64 aln] 3)
     obtain ⟨w1, hw1⟩ : ∃ w1 : World, w1 = wz.alloc (.cells #[.int .i64 aln] 3) := ⟨_, rfl⟩
     obtain ⟨g24, hg1⟩ : ∃ g : Nat, g = wz.heap.size := ⟨_, rfl⟩
     rw [← hw1] at BN OW1 HR1 BL21 ⊢
     rw [← hg1] at BN ⊢
     refine hK.out _ _ (timed_holds (OW1) (timed_holds ((OW1).wide (fun i hi _ => List.mem_cons_of_mem _ hi)) (timed_nil))) ?_
     clear hK K
     try simp only [Act.put, tdy]
     exact HST10_11_16_24 w1 g10 g16 g24 y11 ⟨OW1, HR1, BL21, BN⟩
    ·go_simp
     have BN := Blk.made wz 4 #[.bool true]
     have OW1 := OW.alloc (.cells #[.bool true] 4)
     have HR1 := HR.same ((Only.refl [] wz).alloc (.cells #[.bool true] 4))
     have BL21 := BL2.alloc (.cells #[.bool true] 4)
     obtain ⟨w1, hw1⟩ : ∃ w1 : World, w1 = wz.alloc (.cells #[.bool true] 4) := ⟨_, rfl⟩
     obtain ⟨g30, hg1⟩ : ∃ g : Nat, g = wz.heap.size := ⟨_, rfl⟩
     rw [← hw1] at BN OW1 HR1 BL21 ⊢
     rw [← hg1] at BN ⊢
     refine hK.out _ _ (timed_holds (OW1) (timed_holds ((OW1).wide (fun i hi _ => List.mem_cons_of_mem _ hi)) (timed_nil))) ?_
     clear hK K
     try simp only [Act.put, tdy]
     exact HST10_11_16_30 w1 g10 g16 g30 y11 ⟨OW1, HR1, BL21, BN⟩
   ·skip
    intro wz g10 g24 y11 ⟨OW, HR, BL3⟩
    refine timed_forks (l := [16, 30]) (by kernel_rfl) (by simp) (fork_cons ⟨_, rfl, fun K hK => ?_⟩ (fork_cons ⟨_, rfl, fun K hK => ?_⟩ (fork_nil)))
    ·go_simp
     have BN := Blk.made wz 22 #[.slice none 0 0]
     have OW1 := OW.alloc (.cells #[.slice none 0 0] 22)
     have HR1 := HR.same ((Only.refl [] wz).alloc (.cells #[.slice none 0 0] 22))
     have BL31 := BL3.alloc (.cells #[.slice none 0 0] 22)
     obtain ⟨w1, hw1⟩ : ∃ w1 : World, w1 = wz.alloc (.cells #[.slice none 0 0] 22) := ⟨_, rfl⟩
     obtain ⟨g16, hg1⟩ : ∃ g : Nat, g = wz.heap.size := ⟨_, rfl⟩
     rw [← hw1] at BN OW1 HR1 BL31 ⊢
     rw [← hg1] at BN ⊢
     refine hK.out _ _ (timed_holds (OW1) (timed_holds ((OW1).wide (fun i hi _ => List.mem_cons_of_mem _ hi)) (timed_nil))) ?_
     clear hK K
     try simp only [Act.put, tdy]
     exact HST10_11_16_24 w1 g10 g16 g24 y11 ⟨OW1, HR1, BN, BL31⟩
    ·go_simp
     have BN := Blk.made wz 4 #[.bool true]
     have OW1 := OW.alloc (.cells #[.bool true] 4)
     have HR1 := HR.same ((Only.refl [] wz).alloc (.cells #[.bool true] 4))
     have BL31 := BL3.alloc (.cells #[.bool true] 4)
     obtain ⟨w1, hw1⟩ : ∃ w1 : World, w1 = wz.alloc (.cells #[.bool true] 4) := ⟨_, rfl⟩
     obtain ⟨g30, hg1⟩ : ∃ g : Nat, g = wz.heap.size := ⟨_, rfl⟩
     rw [← hw1] at BN OW1 HR1 BL31 ⊢
     rw [← hg1] at BN ⊢
     refine hK.out _ _ (timed_holds (OW1) (timed_holds ((OW1).wide (fun i hi _ => List.mem_cons_of_mem _ hi)) (timed_nil))) ?_
     clear hK K
     try simp only [Act.put, tdy]
     exact HST10_11_24_30 w1 g10 g24 g30 y11 ⟨OW1, HR1, BL31, BN⟩
   ·skip
    intro wz g10 g30 y11 ⟨OW, HR, BL4⟩
    refine timed_forks (l := [16, 24]) (by kernel_rfl) (by simp) (fork_cons ⟨_, rfl, fun K hK => ?_⟩ (fork_cons ⟨_, rfl, fun K hK => ?_⟩ (fork_nil)))
    ·go_simp
     have BN := Blk.made wz 22 #[.slice none 0 0]
     have OW1 := OW.alloc (.cells #[.slice none 0 0] 22)
     have HR1 := HR.same ((Only.refl [] wz).alloc (.cells #[.slice none 0 0] 22))
     have BL41 := BL4.alloc (.cells #[.slice none 0 0] 22)
     obtain ⟨w1, hw1⟩ : ∃ w1 : World, w1 = wz.alloc (.cells #[.slice none 0 0] 22) := ⟨_, rfl⟩
     obtain ⟨g16, hg1⟩ : ∃ g : Nat, g = wz.heap.size := ⟨_, rfl⟩
     rw [← hw1] at BN OW1 HR1 BL41 ⊢
     rw [← hg1] at BN ⊢
     refine hK.out _ _ (timed_holds (OW1) (timed_holds ((OW1).wide (fun i hi _ => List.mem_cons_of_mem _ hi)) (timed_nil))) ?_
     clear hK K
     try simp only [Act.put, tdy]
     exact HST10_11_16_30 w1 g10 g16 g30 y11 ⟨OW1, HR1, BN, BL41⟩
    ·go_simp
     have BN := Blk.made wz 3 #[.int .i64 aln]
     have OW1 := OW.alloc (.cells #[.int .i64 aln] 3)
     have HR1 := HR.same ((Only.refl [] wz).alloc (.cells #[.int .i64 aln] 3))
     have BL41 := BL4.alloc (.cells #[.int .i64 aln] 3)
     obtain ⟨w1, hw1⟩ : ∃ w1 : World, w1 = wz.alloc (.cells #[.int .i64 aln] 3) := ⟨_, rfl⟩
     obtain ⟨g24, hg1⟩ : ∃ g : Nat, g = wz.heap.size := ⟨_, rfl⟩
     rw [← hw1] at BN OW1 HR1 BL41 ⊢
     rw [← hg1] at BN ⊢
     refine hK.out _ _ (timed_holds (OW1) (timed_holds ((OW1).wide (fun i hi _ => List.mem_cons_of_mem _ hi)) (timed_nil))) ?_
     clear hK K
     try simp only [Act.put, tdy]
     exact HST10_11_24_30 w1 g10 g24 g30 y11 ⟨OW1, HR1, BN, BL41⟩
   ·skip
    intro wz g10 g16 g24 ⟨OW, HR, BL1, BL2, BL3⟩
    refine timed_forks (l := [11, 30]) (by kernel_rfl) (by simp) (fork_cons ⟨_, rfl, fun K hK => ?_⟩ (fork_cons ⟨_, rfl, fun K hK => ?_⟩ (fork_nil)))
    ·have hsz : w12.heap.size ≤ wz.heap.size := OW.size
     have hxl := HXL.out
     have hb12 := HB12S.out
     have HV : wz.ownsRow w0.heap.size 9 1 (.slice AN m.ps.length cN) xs.length (rowN (.slice AN m.ps.length cN) xs).xs := HR.all 1 _ rfl
     refine step_append_row _ rfl (.tmp 59) (.tmp 62) 22 rfl w0.heap.size 9 is_ _ 1 16 Tryz.underlying22 his his0 his1 his2 rfl (by omega) _ xs.length ((rowN (.slice AN m.ps.length cN) xs).xs) (by rfl) (HV) _ _ 1 1 ([.string sn]) (by rfl) (by rfl) (BL1.row) (by intro u hu; simp at hu; subst hu; rfl) (by unfold maxLen; omega) (by omega) (by omega) ?_
     intro y11 w1 hown hgrow hat
     have OW1 := OW.step (only_grown hgrow) (fun i hi _ => ownB_mem.2 ⟨1, _, rfl, (by simpa using hi : Value.ownBlock (.slice AN m.ps.length cN) = some i)⟩)
     have HR1 : ORs w1 w0.heap.size (R0 :: (⟨9, 1, y11, xs.length + 1, (rowN (.slice AN m.ps.length cN) xs).xs ++ [(.string sn : Value)]⟩ : OR) :: rowK VK xs :: rowI VI xs :: rowO VO xs :: xs.flatMap two) := HR.upd (i := 1) (r' := (⟨9, 1, y11, xs.length + 1, (rowN (.slice AN m.ps.length cN) xs).xs ++ [(.string sn : Value)]⟩ : OR)) rfl (only_grown hgrow) hown (hat.imp id (fun e g hg => by rw [e] at hg; have := Option.some.inj hg; omega))
     have BL21 := (only_grown hgrow).blk BL2 (own_apart HV BL2 (by decide))
     have BL31 := (only_grown hgrow).blk BL3 (own_apart HV BL3 (by decide))
     refine hK.out _ _ (timed_holds (OW1) (timed_holds ((OW1).wide (fun i hi _ => List.mem_cons_of_mem _ hi)) (timed_nil))) ?_
     clear hK K
     try simp only [Act.put, tdy]
     exact HST10_11_16_24 w1 g10 g16 g24 y11 ⟨OW1, HR1, BL21, BL31⟩
    ·go_simp
     have BN := Blk.made wz 4 #[.bool true]
     have OW1 := OW.alloc (.cells #[.bool true] 4)
     have HR1 := HR.same ((Only.refl [] wz).alloc (.cells #[.bool true] 4))
     have BL11 := BL1.alloc (.cells #[.bool true] 4)
     have BL21 := BL2.alloc (.cells #[.bool true] 4)
     have BL31 := BL3.alloc (.cells #[.bool true] 4)
     obtain ⟨w1, hw1⟩ : ∃ w1 : World, w1 = wz.alloc (.cells #[.bool true] 4) := ⟨_, rfl⟩
     obtain ⟨g30, hg1⟩ : ∃ g : Nat, g = wz.heap.size := ⟨_, rfl⟩
     rw [← hw1] at BN OW1 HR1 BL11 BL21 BL31 ⊢
     rw [← hg1] at BN ⊢
     refine hK.out _ _ (timed_holds (OW1) (timed_holds ((OW1).wide (fun i hi _ => List.mem_cons_of_mem _ hi)) (timed_nil))) ?_
     clear hK K
     try simp only [Act.put, tdy]
     exact HST10_16_24_30 w1 g10 g16 g24 g30 ⟨OW1, HR1, BL11, BL21, BL31, BN⟩
   ·skip
    intro wz g10 g16 g30 ⟨OW, HR, BL1, BL2, BL4⟩
    refine timed_forks (l := [11, 24]) (by kernel_rfl) (by simp) (fork_cons ⟨_, rfl, fun K hK => ?_⟩ (fork_cons ⟨_, rfl, fun K hK => ?_⟩ (fork_nil)))
    ·have hsz : w12.heap.size ≤ wz.heap.size := OW.size
     have hxl := HXL.out
     have hb12 := HB12S.out
     have HV : wz.ownsRow w0.heap.size 9 1 (.slice AN m.ps.length cN) xs.length (rowN (.slice AN m.ps.length cN) xs).xs := HR.all 1 _ rfl
     refine step_append_row _ rfl (.tmp 59) (.tmp 62) 22 rfl w0.heap.size 9 is_ _ 1 16 Tryz.underlying22 his his0 his1 his2 rfl (by omega) _ xs.length ((rowN (.slice AN m.ps.length cN) xs).xs) (by rfl) (HV) _ _ 1 1 ([.string sn]) (by rfl) (by rfl) (BL1.row) (by intro u hu; simp at hu; subst hu; rfl) (by unfold maxLen; omega) (by omega) (by omega) ?_
     intro y11 w1 hown hgrow hat
     have OW1 := OW.step (only_grown hgrow) (fun i hi _ => ownB_mem.2 ⟨1, _, rfl, (by simpa using hi : Value.ownBlock (.slice AN m.ps.length cN) = some i)⟩)
     have HR1 : ORs w1 w0.heap.size (R0 :: (⟨9, 1, y11, xs.length + 1, (rowN (.slice AN m.ps.length cN) xs).xs ++ [(.string sn : Value)]⟩ : OR) :: rowK VK xs :: rowI VI xs :: rowO VO xs :: xs.flatMap two) := HR.upd (i := 1) (r' := (⟨9, 1, y11, xs.length + 1, (rowN (.slice AN m.ps.length cN) xs).xs ++ [(.string sn : Value)]⟩ : OR)) rfl (only_grown hgrow) hown (hat.imp id (fun e g hg => by rw [e] at hg; have := Option.some.inj hg; omega))
     have BL21 := (only_grown hgrow).blk BL2 (own_apart HV BL2 (by decide))
     have BL41 := (only_grown hgrow).blk BL4 (own_apart HV BL4 (by decide))
     refine hK.out _ _ (timed_holds (OW1) (timed_holds ((OW1).wide (fun i hi _ => List.mem_cons_of_mem _ hi)) (timed_nil))) ?_
     clear hK K
     try simp only [Act.put, tdy]
     exact HST10_11_16_30 w1 g10 g16 g30 y11 ⟨OW1, HR1, BL21, BL41⟩
    ·go_simp
     have BN := Blk.made wz 3 #[.int .i64 aln]
     have OW1 := OW.alloc (.cells #[.int .i64 aln] 3)
     have HR1 := HR.same ((Only.refl [] wz).alloc (.cells #[.int .i64 aln] 3))
     have BL11 := BL1.alloc (.cells #[.int .i64 aln] 3)
     have BL21 := BL2.alloc (.cells #[.int .i64 aln] 3)
     have BL41 := BL4.alloc (.cells #[.int .i64 aln] 3)
     obtain ⟨w1, hw1⟩ : ∃ w1 : World, w1 = wz.alloc (.cells #[.int .i64 aln] 3) := ⟨_, rfl⟩
     obtain ⟨g24, hg1⟩ : ∃ g : Nat, g = wz.heap.size := ⟨_, rfl⟩
     rw [← hw1] at BN OW1 HR1 BL11 BL21 BL41 ⊢
     rw [← hg1] at BN ⊢
     refine hK.out _ _ (timed_holds (OW1) (timed_holds ((OW1).wide (fun i hi _ => List.mem_cons_of_mem _ hi)) (timed_nil))) ?_
     clear hK K
     try simp only [Act.put, tdy]
     exact HST10_16_24_30 w1 g10 g16 g24 g30 ⟨OW1, HR1, BL11, BL21, BN, BL41⟩
   ·skip
    intro wz g10 g24 g30 ⟨OW, HR, BL1, BL3, BL4⟩
    refine timed_forks (l := [11, 16]) (by kernel_rfl) (by simp) (fork_cons ⟨_, rfl, fun K hK => ?_⟩ (fork_cons ⟨_, rfl, fun K hK => ?_⟩ (fork_nil)))
    ·have hsz : w12.heap.size ≤ wz.heap.size := OW.size
     have hxl := HXL.out
     have hb12 := HB12S.out
     have HV : wz.ownsRow w0.heap.size 9 1 (.slice AN m.ps.length cN) xs.length (rowN (.slice AN m.ps.length cN) xs).xs := HR.all 1 _ rfl
     refine step_append_row _ rfl (.tmp 59) (.tmp 62) 22 rfl w0.heap.size 9 is_ _ 1 16 Tryz.underlying22 his his0 his1 his2 rfl (by omega) _ xs.length ((rowN (.slice AN m.ps.length cN) xs).xs) (by rfl) (HV) _ _ 1 1 ([.string sn]) (by rfl) (by rfl) (BL1.row) (by intro u hu; simp at hu; subst hu; rfl) (by unfold maxLen; omega) (by omega) (by omega) ?_
     intro y11 w1 hown hgrow hat
     have OW1 := OW.step (only_grown hgrow) (fun i hi _ => ownB_mem.2 ⟨1, _, rfl, (by simpa using hi : Value.ownBlock (.slice AN m.ps.length cN) = some i)⟩)
     have HR1 : ORs w1 w0.heap.size (R0 :: (⟨9, 1, y11, xs.length + 1, (rowN (.slice AN m.ps.length cN) xs).xs ++ [(.string sn : Value)]⟩ : OR) :: rowK VK xs :: rowI VI xs :: rowO VO xs :: xs.flatMap two) := HR.upd (i := 1) (r' := (⟨9, 1, y11, xs.length + 1, (rowN (.slice AN m.ps.length cN) xs).xs ++ [(.string sn : Value)]⟩ : OR)) rfl (only_grown hgrow) hown (hat.imp id (fun e g hg => by rw [e] at hg; have := Option.some.inj hg; omega))
     have BL31 := (only_grown hgrow).blk BL3 (own_apart HV BL3 (by decide))
     have BL41 := (only_grown hgrow).blk BL4 (own_apart HV BL4 (by decide))
     refine hK.out _ _ (timed_holds (OW1) (timed_holds ((OW1).wide (fun i hi _ => List.mem_cons_of_mem _ hi)) (timed_nil))) ?_
     clear hK K
     try simp only [Act.put, tdy]
     exact HST10_11_24_30 w1 g10 g24 g30 y11 ⟨OW1, HR1, BL31, BL41⟩
    ·go_simp
     have BN := Blk.made wz 22 #[.slice none 0 0]
     have OW1 := OW.alloc (.cells #[.slice none 0 0] 22)
     have HR1 := HR.same ((Only.refl [] wz).alloc (.cells #[.slice none 0 0] 22))
     have BL11 := BL1.alloc (.cells #[.slice none 0 0] 22)
     have BL31 := BL3.alloc (.cells #[.slice none 0 0] 22)
     have BL41 := BL4.alloc (.cells #[.slice none 0 0] 22)
     obtain ⟨w1, hw1⟩ : ∃ w1 : World, w1 = wz.alloc (.cells #[.slice none 0 0] 22) := ⟨_, rfl⟩
     obtain ⟨g16, hg1⟩ : ∃ g : Nat, g = wz.heap.size := ⟨_, rfl⟩
     rw [← hw1] at BN OW1 HR1 BL11 BL31 BL41 ⊢
     rw [← hg1] at BN ⊢
     refine hK.out _ _ (timed_holds (OW1) (timed_holds ((OW1).wide (fun i hi _ => List.mem_cons_of_mem _ hi)) (timed_nil))) ?_
     clear hK K
     try simp only [Act.put, tdy]
     exact HST10_16_24_30 w1 g10 g16 g24 g30 ⟨OW1, HR1, BL11, BN, BL31, BL41⟩
   ·skip
    intro wz g16 g24 g30 ⟨OW, HR, BL2, BL3, BL4⟩
    refine timed_step (i := 10) (by kernel_rfl) rfl (fun K hK => ?_)
    go_simp
    have BN := Blk.made wz 9 #[.string sn]
    have OW1 := OW.alloc (.cells #[.string sn] 9)
    have HR1 := HR.same ((Only.refl [] wz).alloc (.cells #[.string sn] 9))
    have BL21 := BL2.alloc (.cells #[.string sn] 9)
    have BL31 := BL3.alloc (.cells #[.string sn] 9)
    have BL41 := BL4.alloc (.cells #[.string sn] 9)
    obtain ⟨w1, hw1⟩ : ∃ w1 : World, w1 = wz.alloc (.cells #[.string sn] 9) := ⟨_, rfl⟩
    obtain ⟨g10, hg1⟩ : ∃ g : Nat, g = wz.heap.size := ⟨_, rfl⟩
    rw [← hw1] at BN OW1 HR1 BL21 BL31 BL41 ⊢
    rw [← hg1] at BN ⊢
    refine hK.out _ _ (timed_holds (OW1) (timed_holds ((OW1).wide (fun i hi _ => List.mem_cons_of_mem _ hi)) (timed_nil))) ?_
    clear hK K
    try simp only [Act.put, tdy]
    exact HST10_16_24_30 w1 g10 g16 g24 g30 ⟨OW1, HR1, BN, BL21, BL31, BL41⟩
   ·skip
    intro wz g10 g16 y11 y17 ⟨OW, HR⟩
    refine timed_forks (l := [24, 30]) (by kernel_rfl) (by simp) (fork_cons ⟨_, rfl, fun K hK => ?_⟩ (fork_cons ⟨_, rfl, fun K hK => ?_⟩ (fork_nil)))
    ·go_simp
     have BN := Blk.made wz 3 #[.int .i64 aln]
     have OW1 := OW.alloc (.cells #[.int .i64 aln] 3)
     have HR1 := HR.same ((Only.refl [] wz).alloc (.cells #[.int .i64 aln] 3))
     obtain ⟨w1, hw1⟩ : ∃ w1 : World, w1 = wz.alloc (.cells #[.int .i64 aln] 3) := ⟨_, rfl⟩
     obtain ⟨g24, hg1⟩ : ∃ g : Nat, g = wz.heap.size := ⟨_, rfl⟩
     rw [← hw1] at BN OW1 HR1 ⊢
     rw [← hg1] at BN ⊢
     refine hK.out _ _ (timed_holds (OW1) (timed_holds ((OW1).wide (fun i hi _ => List.mem_cons_of_mem _ hi)) (timed_nil))) ?_
     clear hK K
     try simp only [Act.put, tdy]
     exact HST10_11_16_17_24 w1 g10 g16 g24 y11 y17 ⟨OW1, HR1, BN⟩
    ·go_simp
     have BN := Blk.made wz 4 #[.bool true]
     have OW1 := OW.alloc (.cells #[.bool true] 4)
     have HR1 := HR.same ((Only.refl [] wz).alloc (.cells #[.bool true] 4))
     obtain ⟨w1, hw1⟩ : ∃ w1 : World, w1 = wz.alloc (.cells #[.bool true] 4) := ⟨_, rfl⟩
     obtain ⟨g30, hg1⟩ : ∃ g : Nat, g = wz.heap.size := ⟨_, rfl⟩
     rw [← hw1] at BN OW1 HR1 ⊢
     rw [← hg1] at BN ⊢
     refine hK.out _ _ (timed_holds (OW1) (timed_holds ((OW1).wide (fun i hi _ => List.mem_cons_of_mem _ hi)) (timed_nil))) ?_
     clear hK K
     try simp only [Act.put, tdy]
     exact HST10_11_16_17_30 w1 g10 g16 g30 y11 y17 ⟨OW1, HR1, BN⟩
   ·skip
    intro wz g10 g16 g24 y11 ⟨OW, HR, BL2, BL3⟩
    refine timed_forks (l := [17, 30]) (by kernel_rfl) (by simp) (fork_cons ⟨_, rfl, fun K hK => ?_⟩ (fork_cons ⟨_, rfl, fun K hK => ?_⟩ (fork_nil)))
    ·have hsz : w12.heap.size ≤ wz.heap.size := OW.size
     have hxl := HXL.out
     have hb12 := HB12S.out
     have HV : wz.ownsRow w0.heap.size 22 1 VK xs.length (rowK VK xs).xs := HR.all 2 _ rfl
     refine step_append_row _ rfl (.tmp 67) (.tmp 68) 88 rfl w0.heap.size 22 il _ 1 24 Tryz.underlying88 hil hil0 hil1 hil2 rfl (by omega) _ xs.length ((rowK VK xs).xs) (by rfl) (HV) _ _ 1 1 ([.slice none 0 0]) (by rfl) (by rfl) (BL2.row) (by intro u hu; simp at hu; subst hu; rfl) (by unfold maxLen; omega) (by omega) (by omega) ?_
     intro y17 w1 hown hgrow hat
     have OW1 := OW.step (only_grown hgrow) (fun i hi _ => ownB_mem.2 ⟨2, _, rfl, (by simpa using hi : Value.ownBlock VK = some i)⟩)
     have HR1 : ORs w1 w0.heap.size (R0 :: (⟨9, 1, y11, xs.length + 1, (rowN (.slice AN m.ps.length cN) xs).xs ++ [(.string sn : Value)]⟩ : OR) :: (⟨22, 1, y17, xs.length + 1, (rowK VK xs).xs ++ [(.slice none 0 0 : Value)]⟩ : OR) :: rowI VI xs :: rowO VO xs :: xs.flatMap two) := HR.upd (i := 2) (r' := (⟨22, 1, y17, xs.length + 1, (rowK VK xs).xs ++ [(.slice none 0 0 : Value)]⟩ : OR)) rfl (only_grown hgrow) hown (hat.imp id (fun e g hg => by rw [e] at hg; have := Option.some.inj hg; omega))
     have BL31 := (only_grown hgrow).blk BL3 (own_apart HV BL3 (by decide))
     refine hK.out _ _ (timed_holds (OW1) (timed_holds ((OW1).wide (fun i hi _ => List.mem_cons_of_mem _ hi)) (timed_nil))) ?_
     clear hK K
     try simp only [Act.put, tdy]
     exact HST10_11_16_17_24 w1 g10 g16 g24 y11 y17 ⟨OW1, HR1, BL31⟩
    ·go_simp
     have BN := Blk.made wz 4 #[.bool true]
     have OW1 := OW.alloc (.cells #[.bool true] 4)
     have HR1 := HR.same ((Only.refl [] wz).alloc (.cells #[.bool true] 4))
     have BL21 := BL2.alloc (.cells #[.bool true] 4)
     have BL31 := BL3.alloc (.cells #[.bool true] 4)
     obtain ⟨w1, hw1⟩ : ∃ w1 : World, w1 = wz.alloc (.cells #[.bool true] 4) := ⟨_, rfl⟩
     obtain ⟨g30, hg1⟩ : ∃ g : Nat, g = wz.heap.size := ⟨_, rfl⟩
     rw [← hw1] at BN OW1 HR1 BL21 BL31 ⊢
     rw [← hg1] at BN ⊢
     refine hK.out _ _ (timed_holds (OW1) (timed_holds ((OW1).wide (fun i hi _ => List.mem_cons_of_mem _ hi)) (timed_nil))) ?_
     clear hK K
     try simp only [Act.put, tdy]
     exact HST10_11_16_24_30 w1 g10 g16 g24 g30 y11 ⟨OW1, HR1, BL21, BL31, BN⟩
   ·skip
    intro wz g10 g16 g30 y11 ⟨OW, HR, BL2, BL4⟩
    refine timed_forks (l := [17, 24]) (by kernel_rfl) (by simp) (fork_cons ⟨_, rfl, fun K hK => ?_⟩ (fork_cons ⟨_, rfl, fun K hK => ?_⟩ (fork_nil)))
    ·have hsz : w12.heap.size ≤ wz.heap.size := OW.size
     have hxl := HXL.out
     have hb12 := HB12S.out
     have HV : wz.ownsRow w0.heap.size 22 1 VK xs.length (rowK VK xs).xs := HR.all 2 _ rfl
     refine step_append_row _ rfl (.tmp 67) (.tmp 68) 88 rfl w0.heap.size 22 il _ 1 24 Tryz.underlying88 hil hil0 hil1 hil2 rfl (by omega) _ xs.length ((rowK VK xs).xs) (by rfl) (HV) _ _ 1 1 ([.slice none 0 0]) (by rfl) (by rfl) (BL2.row) (by intro u hu; simp at hu; subst hu; rfl) (by unfold maxLen; omega) (by omega) (by omega) ?_
     intro y17 w1 hown hgrow hat
     have OW1 := OW.step (only_grown hgrow) (fun i hi _ => ownB_mem.2 ⟨2, _, rfl, (by simpa using hi : Value.ownBlock VK = some i)⟩)
     have HR1 : ORs w1 w0.heap.size (R0 :: (⟨9, 1, y11, xs.length + 1, (rowN (.slice AN m.ps.length cN) xs).xs ++ [(.string sn : Value)]⟩ : OR) :: (⟨22, 1, y17, xs.length + 1, (rowK VK xs).xs ++ [(.slice none 0 0 : Value)]⟩ : OR) :: rowI VI xs :: rowO VO xs :: xs.flatMap two) := HR.upd (i := 2) (r' := (⟨22, 1, y17, xs.length + 1, (rowK VK xs).xs ++ [(.slice none 0 0 : Value)]⟩ : OR)) rfl (only_grown hgrow) hown (hat.imp id (fun e g hg => by rw [e] at hg; have := Option.some.inj hg; omega))
     have BL41 := (only_grown hgrow).blk BL4 (own_apart HV BL4 (by decide))
     refine hK.out _ _ (timed_holds (OW1) (timed_holds ((OW1).wide (fun i hi _ => List.mem_cons_of_mem _ hi)) (timed_nil))) ?_
     clear hK K
     try simp only [Act.put, tdy]
     exact HST10_11_16_17_30 w1 g10 g16 g30 y11 y17 ⟨OW1, HR1, BL41⟩
    ·go_simp
     have BN := Blk.made wz 3 #[.int .i64 aln]
     have OW1 := OW.alloc (.cells #[.int .i64 aln] 3)
     have HR1 := HR.same ((Only.refl [] wz).alloc (.cells #[.int .i64 aln] 3))
     have BL21 := BL2.alloc (.cells #[.int .i64 aln] 3)
     have BL41 := BL4.alloc (.cells #[.int .i64 aln] 3)
     obtain ⟨w1, hw1⟩ : ∃ w1 : World, w1 = wz.alloc (.cells #[.int .i64 aln] 3) := ⟨_, rfl⟩
     obtain ⟨g24, hg1⟩ : ∃ g : Nat, g = wz.heap.size := ⟨_, rfl⟩
     rw [← hw1] at BN OW1 HR1 BL21 BL41 ⊢
     rw [← hg1] at BN ⊢
     refine hK.out _ _ (timed_holds (OW1) (timed_holds ((OW1).wide (fun i hi _ => List.mem_cons_of_mem _ hi)) (timed_nil))) ?_
     clear hK K
     try simp only [Act.put, tdy]
     exact HST10_11_16_24_30 w1 g10 g16 g24 g30 y11 ⟨OW1, HR1, BL21, BN, BL41⟩
   ·skip
    intro wz g10 g24 g30 y11 ⟨OW, HR, BL3, BL4⟩
    refine timed_step (i := 16) (by kernel_rfl) rfl (fun K hK => ?_)
    go_simp
    have BN := Blk.made wz 22 #[.slice none 0 0]
    have OW1 := OW.alloc (.cells #[.slice none 0 0] 22)
    have HR1 := HR.same ((Only.refl [] wz).alloc (.cells #[.slice none 0 0] 22))
    have BL31 := BL3.alloc (.cells #[.slice none 0 0] 22)
    have BL41 := BL4.alloc (.cells #[.slice none 0 0] 22)
    obtain ⟨w1, hw1⟩ : ∃ w1 : World, w1 = wz.alloc (.cells #[.slice none 0 0] 22) := ⟨_, rfl⟩
    obtain ⟨g16, hg1⟩ : ∃ g : Nat, g = wz.heap.size := ⟨_, rfl⟩
    rw [← hw1] at BN OW1 HR1 BL31 BL41 ⊢
    rw [← hg1] at BN ⊢
    refine hK.out _ _ (timed_holds (OW1) (timed_holds ((OW1).wide (fun i hi _ => List.mem_cons_of_mem _ hi)) (timed_nil))) ?_
    clear hK K
    try simp only [Act.put, tdy]
    exact HST10_11_16_24_30 w1 g10 g16 g24 g30 y11 ⟨OW1, HR1, BN, BL31, BL41⟩
   ·skip
    intro wz g10 g16 g24 g30 ⟨OW, HR, BL1, BL2, BL3, BL4⟩
    refine timed_step (i := 11) (by kernel_rfl) rfl (fun K hK => ?_)
    have hsz : w12.heap.size ≤ wz.heap.size := OW.size
    have hxl := HXL.out
    have hb12 := HB12S.out
    have HV : wz.ownsRow w0.heap.size 9 1 (.slice AN m.ps.length cN) xs.length (rowN (.slice AN m.ps.length cN) xs).xs := HR.all 1 _ rfl
    refine step_append_row _ rfl (.tmp 59) (.tmp 62) 22 rfl w0.heap.size 9 is_ _ 1 16 Tryz.underlying22 his his0 his1 his2 rfl (by omega) _ xs.length ((rowN (.slice AN m.ps.length cN) xs).xs) (by rfl) (HV) _ _ 1 1 ([.string sn]) (by rfl) (by rfl) (BL1.row) (by intro u hu; simp at hu; subst hu; rfl) (by unfold maxLen; omega) (by omega) (by omega) ?_
    intro y11 w1 hown hgrow hat
    have OW1 := OW.step (only_grown hgrow) (fun i hi _ => ownB_mem.2 ⟨1, _, rfl, (by simpa using hi : Value.ownBlock (.slice AN m.ps.length cN) = some i)⟩)
    have HR1 : ORs w1 w0.heap.size (R0 :: (⟨9, 1, y11, xs.length + 1, (rowN (.slice AN m.ps.length cN) xs).xs ++ [(.string sn : Value)]⟩ : OR) :: rowK VK xs :: rowI VI xs :: rowO VO xs :: xs.flatMap two) := HR.upd (i := 1) (r' := (⟨9, 1, y11, xs.length + 1, (rowN (.slice AN m.ps.length cN) xs).xs ++ [(.string sn : Value)]⟩ : OR)) rfl (only_grown hgrow) hown (hat.imp id (fun e g hg => by rw [e] at hg; have := Option.some.inj hg; omega))
    have BL21 := (only_grown hgrow).blk BL2 (own_apart HV BL2 (by decide))
    have BL31 := (only_grown hgrow).blk BL3 (own_apart HV BL3 (by decide))
    have BL41 := (only_grown hgrow).blk BL4 (own_apart HV BL4 (by decide))
    refine hK.out _ _ (timed_holds (OW1) (timed_holds ((OW1).wide (fun i hi _ => List.mem_cons_of_mem _ hi)) (timed_nil))) ?_
    clear hK K
    try simp only [Act.put, tdy]
    exact HST10_11_16_24_30 w1 g10 g16 g24 g30 y11 ⟨OW1, HR1, BL21, BL31, BL41⟩
   ·skip
    intro wz g10 g16 g24 y11 y17 ⟨OW, HR, BL3⟩
    refine timed_forks (l := [25, 30]) (by kernel_rfl) (by simp) (fork_cons ⟨_, rfl, fun K hK => ?_⟩ (fork_cons ⟨_, rfl, fun K hK => ?_⟩ (fork_nil)))
    ·have hsz : w12.heap.size ≤ wz.heap.size := OW.size
     have hxl := HXL.out
     have hb12 := HB12S.out
     have HV : wz.ownsRow w0.heap.size 3 1 VI xs.length (rowI VI xs).xs := HR.all 3 _ rfl
     refine step_append_row _ rfl (.tmp 73) (.tmp 76) 89 rfl w0.heap.size 3 ii _ 1 8 Tryz.underlying89 hii hii0 hii1 hii2 rfl (by omega) _ xs.length ((rowI VI xs).xs) (by rfl) (HV) _ _ 1 1 ([.int .i64 aln]) (by rfl) (by rfl) (BL3.row) (by intro u hu; simp at hu; subst hu; rfl) (by unfold maxLen; omega) (by omega) (by omega) ?_
     intro y25 w1 hown hgrow hat
     have OW1 := OW.step (only_grown hgrow) (fun i hi _ => ownB_mem.2 ⟨3, _, rfl, (by simpa using hi : Value.ownBlock VI = some i)⟩)
     have HR1 : ORs w1 w0.heap.size (R0 :: (⟨9, 1, y11, xs.length + 1, (rowN (.slice AN m.ps.length cN) xs).xs ++ [(.string sn : Value)]⟩ : OR) :: (⟨22, 1, y17, xs.length + 1, (rowK VK xs).xs ++ [(.slice none 0 0 : Value)]⟩ : OR) :: (⟨3, 1, y25, xs.length + 1, (rowI VI xs).xs ++ [(.int .i64 aln : Value)]⟩ : OR) :: rowO VO xs :: xs.flatMap two) := HR.upd (i := 3) (r' := (⟨3, 1, y25, xs.length + 1, (rowI VI xs).xs ++ [(.int .i64 aln : Value)]⟩ : OR)) rfl (only_grown hgrow) hown (hat.imp id (fun e g hg => by rw [e] at hg; have := Option.some.inj hg; omega))
     refine hK.out _ _ (timed_holds (OW1) (timed_holds ((OW1).wide (fun i hi _ => List.mem_cons_of_mem _ hi)) (timed_nil))) ?_
     clear hK K
     try simp only [Act.put, tdy]
     exact HST10_11_16_17_24_25 w1 g10 g16 g24 y11 y17 y25 ⟨OW1, HR1⟩
    ·go_simp
     have BN := Blk.made wz 4 #[.bool true]
     have OW1 := OW.alloc (.cells #[.bool true] 4)
     have HR1 := HR.same ((Only.refl [] wz).alloc (.cells #[.bool true] 4))
     have BL31 := BL3.alloc (.cells #[.bool true] 4)
     obtain ⟨w1, hw1⟩ : ∃ w1 : World, w1 = wz.alloc (.cells #[.bool true] 4) := ⟨_, rfl⟩
     obtain ⟨g30, hg1⟩ : ∃ g : Nat, g = wz.heap.size := ⟨_, rfl⟩
     rw [← hw1] at BN OW1 HR1 BL31 ⊢
     rw [← hg1] at BN ⊢
     refine hK.out _ _ (timed_holds (OW1) (timed_holds ((OW1).wide (fun i hi _ => List.mem_cons_of_mem _ hi)) (timed_nil))) ?_
     clear hK K
     try simp only [Act.put, tdy]
     exact HST10_11_16_17_24_30 w1 g10 g16 g24 g30 y11 y17 ⟨OW1, HR1, BL31, BN⟩
   ·skip
    intro wz g10 g16 g30 y11 y17 ⟨OW, HR, BL4⟩
    refine timed_step (i := 24) (by kernel_rfl) rfl (fun K hK => ?_)
    go_simp
    have BN := Blk.made wz 3 #[.int .i64 aln]
    have OW1 := OW.alloc (.cells #[.int .i64 aln] 3)
    have HR1 := HR.same ((Only.refl [] wz).alloc (.cells #[.int .i64 aln] 3))
    have BL41 := BL4.alloc (.cells #[.int .i64 aln] 3)
    obtain ⟨w1, hw1⟩ : ∃ w1 : World, w1 = wz.alloc (.cells #[.int .i64 aln] 3) := ⟨_, rfl⟩
    obtain ⟨g24, hg1⟩ : ∃ g : Nat, g = wz.heap.size := ⟨_, rfl⟩
    rw [← hw1] at BN OW1 HR1 BL41 ⊢
    rw [← hg1] at BN ⊢
    refine hK.out _ _ (timed_holds (OW1) (timed_holds ((OW1).wide (fun i hi _ => List.mem_cons_of_mem _ hi)) (timed_nil))) ?_
    clear hK K
    try simp only [Act.put, tdy]
    exact HST10_11_16_17_24_30 w1 g10 g16 g24 g30 y11 y17 ⟨OW1, HR1, BN, BL41⟩
   ·skip
    intro wz g10 g16 g24 g30 y11 ⟨OW, HR, BL2, BL3, BL4⟩
    refine timed_step (i := 17) (by kernel_rfl) rfl (fun K hK => ?_)
    have hsz : w12.heap.size ≤ wz.heap.size := OW.size
    have hxl := HXL.out
    have hb12 := HB12S.out
    have HV : wz.ownsRow w0.heap.size 22 1 VK xs.length (rowK VK xs).xs := HR.all 2 _ rfl
    refine step_append_row _ rfl (.tmp 67) (.tmp 68) 88 rfl w0.heap.size 22 il _ 1 24 Tryz.underlying88 hil hil0 hil1 hil2 rfl (by omega) _ xs.length ((rowK VK xs).xs) (by rfl) (HV) _ _ 1 1 ([.slice none 0 0]) (by rfl) (by rfl) (BL2.row) (by intro u hu; simp at hu; subst hu; rfl) (by unfold maxLen; omega) (by omega) (by omega) ?_
    intro y17 w1 hown hgrow hat
    have OW1 := OW.step (only_grown hgrow) (fun i hi _ => ownB_mem.2 ⟨2, _, rfl, (by simpa using hi : Value.ownBlock VK = some i)⟩)
    have HR1 : ORs w1 w0.heap.size (R0 :: (⟨9, 1, y11, xs.length + 1, (rowN (.slice AN m.ps.length cN) xs).xs ++ [(.string sn : Value)]⟩ : OR) :: (⟨22, 1, y17, xs.length + 1, (rowK VK xs).xs ++ [(.slice none 0 0 : Value)]⟩ : OR) :: rowI VI xs :: rowO VO xs :: xs.flatMap two) := HR.upd (i := 2) (r' := (⟨22, 1, y17, xs.length + 1, (rowK VK xs).xs ++ [(.slice none 0 0 : Value)]⟩ : OR)) rfl (only_grown hgrow) hown (hat.imp id (fun e g hg => by rw [e] at hg; have := Option.some.inj hg; omega))
    have BL31 := (only_grown hgrow).blk BL3 (own_apart HV BL3 (by decide))
    have BL41 := (only_grown hgrow).blk BL4 (own_apart HV BL4 (by decide))
    refine hK.out _ _ (timed_holds (OW1) (timed_holds ((OW1).wide (fun i hi _ => List.mem_cons_of_mem _ hi)) (timed_nil))) ?_
    clear hK K
    try simp only [Act.put, tdy]
    exact HST10_11_16_17_24_30 w1 g10 g16 g24 g30 y11 y17 ⟨OW1, HR1, BL31, BL41⟩
   ·skip
    intro wz g10 g16 g24 y11 y17 y25 ⟨OW, HR⟩
    refine timed_step (i := 30) (by kernel_rfl) rfl (fun K hK => ?_)
    go_simp
    have BN := Blk.made wz 4 #[.bool true]
    have OW1 := OW.alloc (.cells #[.bool true] 4)
    have HR1 := HR.same ((Only.refl [] wz).alloc (.cells #[.bool true] 4))
    obtain ⟨w1, hw1⟩ : ∃ w1 : World, w1 = wz.alloc (.cells #[.bool true] 4) := ⟨_, rfl⟩
    obtain ⟨g30, hg1⟩ : ∃ g : Nat, g = wz.heap.size := ⟨_, rfl⟩
    rw [← hw1] at BN OW1 HR1 ⊢
    rw [← hg1] at BN ⊢
    refine hK.out _ _ (timed_holds (OW1) (timed_holds ((OW1).wide (fun i hi _ => List.mem_cons_of_mem _ hi)) (timed_nil))) ?_
    clear hK K
    try simp only [Act.put, tdy]
    exact HST10_11_16_17_24_25_30 w1 g10 g16 g24 g30 y11 y17 y25 ⟨OW1, HR1, BN⟩
   ·skip
    intro wz g10 g16 g24 g30 y11 y17 ⟨OW, HR, BL3, BL4⟩
    refine timed_step (i := 25) (by kernel_rfl) rfl (fun K hK => ?_)
    have hsz : w12.heap.size ≤ wz.heap.size := OW.size
    have hxl := HXL.out
    have hb12 := HB12S.out
    have HV : wz.ownsRow w0.heap.size 3 1 VI xs.length (rowI VI xs).xs := HR.all 3 _ rfl
    refine step_append_row _ rfl (.tmp 73) (.tmp 76) 89 rfl w0.heap.size 3 ii _ 1 8 Tryz.underlying89 hii hii0 hii1 hii2 rfl (by omega) _ xs.length ((rowI VI xs).xs) (by rfl) (HV) _ _ 1 1 ([.int .i64 aln]) (by rfl) (by rfl) (BL3.row) (by intro u hu; simp at hu; subst hu; rfl) (by unfold maxLen; omega) (by omega) (by omega) ?_
    intro y25 w1 hown hgrow hat
    have OW1 := OW.step (only_grown hgrow) (fun i hi _ => ownB_mem.2 ⟨3, _, rfl, (by simpa using hi : Value.ownBlock VI = some i)⟩)
    have HR1 : ORs w1 w0.heap.size (R0 :: (⟨9, 1, y11, xs.length + 1, (rowN (.slice AN m.ps.length cN) xs).xs ++ [(.string sn : Value)]⟩ : OR) :: (⟨22, 1, y17, xs.length + 1, (rowK VK xs).xs ++ [(.slice none 0 0 : Value)]⟩ : OR) :: (⟨3, 1, y25, xs.length + 1, (rowI VI xs).xs ++ [(.int .i64 aln : Value)]⟩ : OR) :: rowO VO xs :: xs.flatMap two) := HR.upd (i := 3) (r' := (⟨3, 1, y25, xs.length + 1, (rowI VI xs).xs ++ [(.int .i64 aln : Value)]⟩ : OR)) rfl (only_grown hgrow) hown (hat.imp id (fun e g hg => by rw [e] at hg; have := Option.some.inj hg; omega))
    have BL41 := (only_grown hgrow).blk BL4 (own_apart HV BL4 (by decide))
    refine hK.out _ _ (timed_holds (OW1) (timed_holds ((OW1).wide (fun i hi _ => List.mem_cons_of_mem _ hi)) (timed_nil))) ?_
    clear hK K
    try simp only [Act.put, tdy]
    exact HST10_11_16_17_24_25_30 w1 g10 g16 g24 g30 y11 y17 y25 ⟨OW1, HR1, BL41⟩
   ·skip
    intro wz g10 g16 g24 g30 y11 y17 y25 ⟨OW, HR, BL4⟩
    refine timed_step (i := 31) (by kernel_rfl) rfl (fun K hK => ?_)
    have hsz : w12.heap.size ≤ wz.heap.size := OW.size
    have hxl := HXL.out
    have hb12 := HB12S.out
    have HV : wz.ownsRow w0.heap.size 4 1 VO xs.length (rowO VO xs).xs := HR.all 4 _ rfl
    refine step_append_row _ rfl (.tmp 81) (.tmp 82) 60 rfl w0.heap.size 4 ib _ 1 1 Tryz.underlying60 hib hib0 hib1 hib2 rfl (by omega) _ xs.length ((rowO VO xs).xs) (by rfl) (HV) _ _ 1 1 ([.bool true]) (by rfl) (by rfl) (BL4.row) (by intro u hu; simp at hu; subst hu; rfl) (by unfold maxLen; omega) (by omega) (by omega) ?_
    intro y31 w1 hown hgrow hat
    have OW1 := OW.step (only_grown hgrow) (fun i hi _ => ownB_mem.2 ⟨4, _, rfl, (by simpa using hi : Value.ownBlock VO = some i)⟩)
    have HR1 : ORs w1 w0.heap.size (R0 :: (⟨9, 1, y11, xs.length + 1, (rowN (.slice AN m.ps.length cN) xs).xs ++ [(.string sn : Value)]⟩ : OR) :: (⟨22, 1, y17, xs.length + 1, (rowK VK xs).xs ++ [(.slice none 0 0 : Value)]⟩ : OR) :: (⟨3, 1, y25, xs.length + 1, (rowI VI xs).xs ++ [(.int .i64 aln : Value)]⟩ : OR) :: (⟨4, 1, y31, xs.length + 1, (rowO VO xs).xs ++ [(.bool true : Value)]⟩ : OR) :: xs.flatMap two) := HR.upd (i := 4) (r' := (⟨4, 1, y31, xs.length + 1, (rowO VO xs).xs ++ [(.bool true : Value)]⟩ : OR)) rfl (only_grown hgrow) hown (hat.imp id (fun e g hg => by rw [e] at hg; have := Option.some.inj hg; omega))
    refine hK.out _ _ (timed_holds (OW1) (timed_holds ((OW1).wide (fun i hi _ => List.mem_cons_of_mem _ hi)) (timed_nil))) ?_
    clear hK K
    try simp only [Act.put, tdy]
    exact HST10_11_16_17_24_25_30_31 w1 g10 g16 g24 g30 y11 y17 y25 y31 ⟨OW1, HR1⟩
   -- behind all of the crowd
   intro wz g10 g16 g24 g30 y11 y17 y25 y31 ⟨OW, HR⟩
   have HBz := OW.blk HB12.out HG12.out
   have hgz := gw_apart HR HBz (ne_list (by rw [hR0]; exact (by decide : (43 : TypeId) ≠ 91)) (by decide : (9 : TypeId) ≠ 91) (by decide : (22 : TypeId) ≠ 91) (by decide : (3 : TypeId) ≠ 91) (by decide : (4 : TypeId) ≠ 91) (by decide : (9 : TypeId) ≠ 91) (by decide : (50 : TypeId) ≠ 91))
   obtain ⟨A1, c1, e1, -⟩ := own_row (HR.all 1 _ rfl)
   dsimp only at e1
   subst e1
   obtain ⟨A2, c2, e2, -⟩ := own_row (HR.all 2 _ rfl)
   dsimp only at e2
   subst e2
   obtain ⟨A3, c3, e3, -⟩ := own_row (HR.all 3 _ rfl)
   dsimp only at e3
   subst e3
   obtain ⟨A4, c4, e4, -⟩ := own_row (HR.all 4 _ rfl)
   dsimp only at e4
   subst e4
   have OWs0 : Only (gw :: ownB (l12 R0 (.slice AN m.ps.length cN) VK VI VO xs)) w12 wz := (OW).wide (fun i hi _ => List.mem_cons_of_mem _ hi)
   have HRs0 := HR
   have HBs0 := HBz
   clear HR HBz OW
   refine timed_pure (i := 32) (v := ?_) rfl (by kernel_rfl) (by kernel_rfl) (by kernel_rfl) (fun _ _ _ h => h) (by kernel_rfl) (by kernel_rfl) ?_ ?_
   rotate_left
   ·(intro w; go_simp; try with_reducible rfl)
   try simp only [Act.put, tdy]
   refine timed_pure (i := 33) (v := ?_) rfl (by kernel_rfl) (by kernel_rfl) (by kernel_rfl) (fun _ _ _ h => h) (by kernel_rfl) (by kernel_rfl) ?_ ?_
   rotate_left
   ·(intro w; go_simp; try with_reducible rfl)
   try simp only [Act.put, tdy]
   refine timed_step (i := 34) (by kernel_rfl) rfl (fun K hK => ?_)
   have bk := HBs0.at_ 3
   have fk := HBs0.free 3
   have lk := HBs0.lt
   simp at bk
   go_simp
   have HBs1 := HBs0.put 3 (.slice A1 (xs.length + 1) c1)
   have OWs1 := OWs0.put (p := ⟨gw, 3, none⟩) (fun _ => List.mem_cons_self ..) (.slice A1 (xs.length + 1) c1)
   have HRs1 := HRs0.only ((Only.refl [gw] wz).put (p := ⟨gw, 3, none⟩) (fun _ => List.mem_cons_self ..) (.slice A1 (xs.length + 1) c1)) (fun g hg hm => by simp at hm; subst hm; exact hgz hg)
   clear HBs0 OWs0 HRs0 bk fk lk
   generalize (wz.setCell ⟨gw, 3, none⟩ (.slice A1 (xs.length + 1) c1)) = ws1 at *
   refine hK.out _ _ (timed_over (by kernel_rfl) (timed_holds (OWs1) (timed_nil))) ?_
   clear hK K
   try simp only [Act.put, tdy]
   refine timed_pure (i := 35) (v := ?_) rfl (by kernel_rfl) (by kernel_rfl) (by kernel_rfl) (fun _ _ _ h => h) (by kernel_rfl) (by kernel_rfl) ?_ ?_
   rotate_left
   ·(intro w; go_simp; try with_reducible rfl)
   try simp only [Act.put, tdy]
   refine timed_pure (i := 36) (v := ?_) rfl (by kernel_rfl) (by kernel_rfl) (by kernel_rfl) (fun _ _ _ h => h) (by kernel_rfl) (by kernel_rfl) ?_ ?_
   rotate_left
   ·(intro w; go_simp; try with_reducible rfl)
   try simp only [Act.put, tdy]
   refine timed_step (i := 37) (by kernel_rfl) rfl (fun K hK => ?_)
   have bk := HBs1.at_ 4
   have fk := HBs1.free 4
   have lk := HBs1.lt
   simp at bk
   go_simp
   have HBs2 := HBs1.put 4 (.slice A2 (xs.length + 1) c2)
   have OWs2 := OWs1.put (p := ⟨gw, 4, none⟩) (fun _ => List.mem_cons_self ..) (.slice A2 (xs.length + 1) c2)
   have HRs2 := HRs1.only ((Only.refl [gw] ws1).put (p := ⟨gw, 4, none⟩) (fun _ => List.mem_cons_self ..) (.slice A2 (xs.length + 1) c2)) (fun g hg hm => by simp at hm; subst hm; exact hgz hg)
   clear HBs1 OWs1 HRs1 bk fk lk
   generalize (ws1.setCell ⟨gw, 4, none⟩ (.slice A2 (xs.length + 1) c2)) = ws2 at *
   refine hK.out _ _ (timed_over (by kernel_rfl) (timed_holds (OWs2) (timed_nil))) ?_
   clear hK K
   try simp only [Act.put, tdy]
   refine timed_pure (i := 38) (v := ?_) rfl (by kernel_rfl) (by kernel_rfl) (by kernel_rfl) (fun _ _ _ h => h) (by kernel_rfl) (by kernel_rfl) ?_ ?_
   rotate_left
   ·(intro w; go_simp; try with_reducible rfl)
   try simp only [Act.put, tdy]
   refine timed_pure (i := 39) (v := ?_) rfl (by kernel_rfl) (by kernel_rfl) (by kernel_rfl) (fun _ _ _ h => h) (by kernel_rfl) (by kernel_rfl) ?_ ?_
   rotate_left
   ·(intro w; go_simp; try with_reducible rfl)
   try simp only [Act.put, tdy]
   refine timed_step (i := 40) (by kernel_rfl) rfl (fun K hK => ?_)
   have bk := HBs2.at_ 5
   have fk := HBs2.free 5
   have lk := HBs2.lt
   simp at bk
   go_simp
   have HBs3 := HBs2.put 5 (.slice A3 (xs.length + 1) c3)
   have OWs3 := OWs2.put (p := ⟨gw, 5, none⟩) (fun _ => List.mem_cons_self ..) (.slice A3 (xs.length + 1) c3)
   have HRs3 := HRs2.only ((Only.refl [gw] ws2).put (p := ⟨gw, 5, none⟩) (fun _ => List.mem_cons_self ..) (.slice A3 (xs.length + 1) c3)) (fun g hg hm => by simp at hm; subst hm; exact hgz hg)
   clear HBs2 OWs2 HRs2 bk fk lk
   generalize (ws2.setCell ⟨gw, 5, none⟩ (.slice A3 (xs.length + 1) c3)) = ws3 at *
   refine hK.out _ _ (timed_over (by kernel_rfl) (timed_holds (OWs3) (timed_nil))) ?_
   clear hK K
   try simp only [Act.put, tdy]
   refine timed_pure (i := 41) (v := ?_) rfl (by kernel_rfl) (by kernel_rfl) (by kernel_rfl) (fun _ _ _ h => h) (by kernel_rfl) (by kernel_rfl) ?_ ?_
   rotate_left
   ·(intro w; go_simp; try with_reducible rfl)
   try simp only [Act.put, tdy]
   refine timed_pure (i := 42) (v := ?_) rfl (by kernel_rfl) (by kernel_rfl) (by kernel_rfl) (fun _ _ _ h => h) (by kernel_rfl) (by kernel_rfl) ?_ ?_
   rotate_left
   ·(intro w; go_simp; try with_reducible rfl)
   try simp only [Act.put, tdy]
   refine timed_step (i := 43) (by kernel_rfl) rfl (fun K hK => ?_)
   have bk := HBs3.at_ 6
   have fk := HBs3.free 6
   have lk := HBs3.lt
   simp at bk
   go_simp
   have HBs4 := HBs3.put 6 (.slice A4 (xs.length + 1) c4)
   have OWs4 := OWs3.put (p := ⟨gw, 6, none⟩) (fun _ => List.mem_cons_self ..) (.slice A4 (xs.length + 1) c4)
   have HRs4 := HRs3.only ((Only.refl [gw] ws3).put (p := ⟨gw, 6, none⟩) (fun _ => List.mem_cons_self ..) (.slice A4 (xs.length + 1) c4)) (fun g hg hm => by simp at hm; subst hm; exact hgz hg)
   clear HBs3 OWs3 HRs3 bk fk lk
   generalize (ws3.setCell ⟨gw, 6, none⟩ (.slice A4 (xs.length + 1) c4)) = ws4 at *
   refine hK.out _ _ (timed_over (by kernel_rfl) (timed_holds (OWs4) (timed_nil))) ?_
   clear hK K
   try simp only [Act.put, tdy]
   refine timed_done (by kernel_rfl) ?_ _
   refine NoPanic.normal ?_
   have HFIN : WAt ws4 w0.heap.size gw (m.ps ++ [⟨sn, 0, aln, [], []⟩]) (.slice A11 (xs.length + 1) c11) (.slice A1 (xs.length + 1) c1) (.slice A2 (xs.length + 1) c2) (.slice A3 (xs.length + 1) c3) (.slice A4 (xs.length + 1) c4) (xs ++ [⟨⟨sn, 0, aln, [], []⟩, none, 0, none, 0⟩]) := by
    refine ⟨by simpa using HBs4, HGW.out, by rw [List.map_append, HPT.out]; rfl, ?_⟩
    have h1 := (HRs4.push (r' := ⟨9, 1, .slice none 0 0, 0, []⟩) ⟨rfl, .inl ⟨rfl, rfl⟩⟩ rfl).push (r' := ⟨50, 4, .slice none 0 0, 0, []⟩) ⟨rfl, .inl ⟨rfl, rfl⟩⟩ rfl
    rw [hR0] at h1
    rw [wL_push _ _ _ _ _ (.slice AN m.ps.length cN) VK VI VO]
    exact h1
   have HFF := Lib.hid (And.intro (HO12.out.step OWs4 (fun i hi hl => by
    rcases List.mem_cons.1 hi with rfl | hi
    ·have := HGW.out
     omega
    ·have := (HR12.out.ge i hi).1
     omega)) HFIN)
   clear HFIN OWs4 HRs4 HBs4
   go_wp2
   go_ret
   exact ⟨by rw [HF.out.1]; rfl, HFF.out.1, _, _, _, _, _, _, by rw [HF.out.2]; exact HFF.out.2⟩
end Go.Proofs.YthaeomdpaadilaaGreatDoor
