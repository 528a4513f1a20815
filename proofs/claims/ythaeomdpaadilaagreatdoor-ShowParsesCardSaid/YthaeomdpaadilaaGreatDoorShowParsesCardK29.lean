/- The document's W: put, of a read or a write. -/
import Derived.Test.YthaeomdpaadilaaGreatDoorShowParsesCardK28
set_option linter.unusedVariables false
set_option linter.unusedSimpArgs false
namespace Go.Proofs.YthaeomdpaadilaaGreatDoor
open Go.RowKit
open Go.Lib hiding intOf
attribute [local go_sem ↓] Go.wp_at_zero Go.wp_at_succ
theorem step_append_rowg {P : Program} {w : World} {ops : Array Oper} {o : Oper} {a : Act} {K : Act → World → Prop} {Q : Exit → Act → World → Prop} {E : Prop} (hgd : Region.wanted o (yielded ops a.tmps) = true) (s x : Operand) (t : TypeId)
  (ho : o.op = .call { callee := .builtin .append, args := #[s, x], argTypes := #[t, t] })
  (base : Nat) (e : TypeId) (i : TypeInfo) (z : Value) (size bytes : Nat) (ht : P.underlying t = some (.slice e)) (hi : P.info? e = some i) (hz : i.zero = some z)
  (hsize : i.size = size) (hby : i.bytes = bytes) (hzs : z.cells.size = size) (hsz : 0 < size)
  (v : Value) (n : Nat) (xs : List Value) (hs : a.eval s = v) (hown : w.ownsRow base e size v n xs) (B : Nat) (A : Option Addr) (m c : Nat) (news : List Value) (hx : a.eval x = .slice A m c) (hl : news.length = m * size)
  (hr : Row w B A news) (h1 : ∀ u ∈ news, u.oneCell' = true) (h63 : n + m ≤ maxLen) (hbytes : (n + m) * bytes ≤ 140737488355328) (hbase : base ≤ w.heap.size)
  (h : ∀ v' w', w'.ownsRow base e size v' (n + m) (xs ++ news) → w.grownBy w' v.ownBlock → (v'.ownBlock = v.ownBlock ∨ v'.ownBlock = some w.heap.size) → K (a.put o.dst v') w') :
  if Region.wanted o (yielded ops a.tmps) = true then Oper.wp P o a w K Q else E := by
 rw [if_pos hgd]
 exact wp_append_row w s x t ho base e i z size bytes ht hi hz hsize hby hzs hsz v n xs hs hown B A m c news hx hl hr h1 h63 hbytes hbase h
/-- W with other ops of a part. -/
theorem wL_ops {VL VN VK VI VO : Value} {xs : List PtA} {i : Nat} {x y : PtA} (hx : xs[i]? = some x) (hs : y.p.s = x.p.s) (hf : y.p.f = x.p.f) (hn : y.p.ln = x.p.ln) (hA : y.A = x.A) (hk : y.p.ks = x.p.ks) (hc : y.c = x.c) :
  ((wL VL VN VK VI VO xs).set (i * 2 + 1 + 5) (oRow y)).set 0 ⟨43, 3, VL, xs.length, (txC (xs.map txa)).set (i * 3 + 2) (.slice y.Z y.p.ops.length y.d)⟩ = wL VL VN VK VI VO (xs.set i y) := by
 have e0 := txC_cell (y := y) (j := 2) (u := .slice y.Z y.p.ops.length y.d) hx (by omega) (by simp [txa, TxA.c, hf])
 have e1 : (xs.set i y).map (fun x => x.p.s) = xs.map (fun x => x.p.s) := map_set_same hx hs
 have e2 : (xs.set i y).map (fun x : PtA => Value.slice x.A x.p.ks.length x.c) = xs.map (fun x => Value.slice x.A x.p.ks.length x.c) := map_set_same hx (by rw [hA, hk, hc])
 have e3 : (xs.set i y).map (fun x : PtA => Value.int .i64 x.p.ln) = xs.map (fun x => Value.int .i64 x.p.ln) := map_set_same hx (by rw [hn])
 have e4 : (xs.set i y).map (fun x : PtA => Value.bool (decide (x.p.f = 0))) = xs.map (fun x => Value.bool (decide (x.p.f = 0))) := map_set_same hx (by rw [hf])
 have e5 := two_seto xs i x y hx (by unfold kRow; rw [hA, hk, hc])
 unfold wL rowL rowN rowK rowI rowO
 rw [e1, e2, e3, e4, ← e5, ← e0, List.length_set]
 rfl
/-- W with other keys of a part. -/
theorem wL_ks {VL VN VK VI VO : Value} {xs : List PtA} {i : Nat} {x y : PtA} (hx : xs[i]? = some x) (hs : y.p.s = x.p.s) (hf : y.p.f = x.p.f) (hn : y.p.ln = x.p.ln) (hZ : y.Z = x.Z) (ho : y.p.ops = x.p.ops) (hd : y.d = x.d) :
  ((wL VL VN VK VI VO xs).set (i * 2 + 5) (kRow y)).set 2 ⟨22, 1, VK, xs.length, (rowK VK xs).xs.set i (.slice y.A y.p.ks.length y.c)⟩ = wL VL VN VK VI VO (xs.set i y) := by
 have e0 : (xs.set i y).map txa = xs.map txa := map_set_same hx (by unfold txa; rw [hf, ho, hZ, hd])
 have e1 : (xs.set i y).map (fun x => x.p.s) = xs.map (fun x => x.p.s) := map_set_same hx hs
 have e2 : (xs.map (fun x : PtA => Value.slice x.A x.p.ks.length x.c)).set i (.slice y.A y.p.ks.length y.c) = (xs.set i y).map (fun x => Value.slice x.A x.p.ks.length x.c) := by rw [List.map_set]
 have e3 : (xs.set i y).map (fun x : PtA => Value.int .i64 x.p.ln) = xs.map (fun x => Value.int .i64 x.p.ln) := map_set_same hx (by rw [hn])
 have e4 : (xs.set i y).map (fun x : PtA => Value.bool (decide (x.p.f = 0))) = xs.map (fun x => Value.bool (decide (x.p.f = 0))) := map_set_same hx (by rw [hf])
 have e5 := two_setk xs i x y hx (by unfold oRow; rw [hZ, ho, hd])
 unfold wL rowL rowN rowK rowI rowO
 rw [e0, e1, e3, e4, ← e2, ← e5, List.length_set]
 rfl
set_option maxRecDepth 100000 in
set_option maxHeartbeats 8000000 in
theorem wput_add (gw : Nat) (m : Mk) (VL VN VK VI VO : Value) (xs : List PtA) (a : Ev6) (w0 w : World) (i : Nat) (p : Pt) (h : WAt w w0.heap.size gw m.ps VL VN VK VI VO xs) (hO : Only [] w0 w) (hB : MkB m) (hI : MInv m) (hs : a.s.size ≤ 65537) (hy : a.y.size ≤ 65537)
  (hev : evOk a.k a.s a.y a.vk a.vn = true) (ho : openI m.ps a.s = some i) (hp : m.ps[i]? = some p) (hk : a.k = 2 ∨ a.k = 3) :
  Calls Tryz.prog 79 #[.pointer (some ⟨gw, 0, none⟩), .agg #[.int .i64 a.k, .string a.s, .string a.y, .int .i64 a.vk, .int .i64 a.vn, .int .i64 a.ln]] w (PutEnd w0 gw m a) := by
 obtain ⟨is_, his, his0, his1, his2⟩ := info_parts info_strg
 obtain ⟨io, hio, hio0, hio1, hio2⟩ := info_parts info_opp
 have HT : Hid (takeE m a = addE m p a ∧ takeM m a = addM m i p a) := Lib.hid (by
  have h1 : ¬ a.k = 1 := by omega
  unfold takeE takeM
  rw [hev, if_neg tf_ne, if_neg tf_ne, ho]
  dsimp only
  rw [if_neg h1, if_neg h1, if_pos hk, hp]
  dsimp only
  rw [if_pos hk]
  exact ⟨rfl, rfl⟩)
 have HSL : Hid (withB m.ks a.y = sortB (m.ps.flatMap Pt.ks ++ [a.y])) := Lib.hid (by rw [hI.ks, with_sort])
 have HNO := Lib.hid hB.no
 have HP := Lib.hid hp
 have hno20 := (hB.no p (List.mem_of_getElem? hp)).1
 have HKL := Lib.hid (hB.no p (List.mem_of_getElem? hp)).2.1
 obtain ⟨x, hx, hxp⟩ := h.get hp
 have hin := (List.getElem?_eq_some_iff.1 hp).1
 have HE0 := Lib.hid (Blk.made w 47 #[.int .i64 a.k, .string a.s, .string a.y, .int .i64 a.vk, .int .i64 a.vn, .int .i64 a.ln])
 have HO0 := Lib.hid ((Only.refl [] w).alloc (.cells #[.int .i64 a.k, .string a.s, .string a.y, .int .i64 a.vk, .int .i64 a.vn, .int .i64 a.ln] 47))
 have HMY := Lib.hid (fun w' => revmay_any a.k a.s a.y a.vk a.vn a.ln w' (by omega) (by omega))
 have HAT := Lib.hid (fun w' (O : Only [] w w') => rat_any w0.heap.size gw m.ps VL VN VK VI VO xs a.s w' (h.same O) hB.np)
 rw [atN_some ho] at HAT
 rw [hev] at HMY
 have HW := Lib.hid h
 have HOO := Lib.hid hO
 have HX := Lib.hid (And.intro hx hxp)
 have hnp := hB.np
 have hb0 : w0.heap.size ≤ w.heap.size := hO.size
 obtain ⟨ak, sn, ay, avk, avn, aln⟩ := a
 dsimp only at hk HT HSL HE0 HO0 HMY HAT hy
 have HAY := Lib.hid hy
 show Calls _ _ #[.pointer (some ⟨gw, 0, none⟩), .agg #[.int .i64 ak, .string sn, .string ay, .int .i64 avk, .int .i64 avn, .int .i64 aln]] _ _
 clear h hO hB hI hs hy hev ho hp hx hxp
 go_enter Tryz.func79, Tryz.ntmps79
 go_wp2_with fail
 generalize (w.alloc (.cells #[.int .i64 ak, .string sn, .string ay, .int .i64 avk, .int .i64 avn, .int .i64 aln] 47)) = w1 at *
 generalize hge : w.heap.size = ge at *
 refine (HMY.out _).mono ?_
 rintro e w2 ⟨rfl, O2⟩
 have HO2 := Lib.hid (HO0.out.trans O2)
 have HE2 := Lib.hid (O2.blk HE0.out (by simp))
 clear O2 HE0 HO0 HMY
 have e0 := HE2.out.at_ 0
 have e1 := HE2.out.at_ 1
 have le := HE2.out.lt
 simp at e0 e1
 go_wp2_with fail
 refine (HAT.out _ HO2.out).mono ?_
 rintro e w3 ⟨rfl, rfl⟩
 have HW3 := Lib.hid (HW.out.same HO2.out)
 have HOO3 := Lib.hid (HOO.out.trans HO2.out)
 clear HAT HW HO2 HOO
 have hk1 : (ak == 1) = false := by simp; omega
 obtain ⟨bk, hk3⟩ : ∃ b : Bool, (ak == 3) = b := ⟨_, rfl⟩
 have HBK : Hid (bk = decide (ak = 3)) := Lib.hid hk3.symm
 have hk4 : decide (4 ≤ ak) = false := decide_eq_false (by omega)
 have hi0 : (0 : Int) ≤ (i : Int) := Int.natCast_nonneg _
 have hi1 : (i : Int) < (m.ps.length : Int) := by omega
 have hig : decide ((i : Int) < 0) = false := decide_eq_false (by omega)
 go_upto_region 17 with (fail)
 clear e0 e1 le
 have HB3 := Lib.hid HW3.out.blk
 have HG3 := Lib.hid (gw_apart HW3.out.rows HB3.out (ne_list (by decide : (43 : TypeId) ≠ 91) (by decide : (9 : TypeId) ≠ 91) (by decide : (22 : TypeId) ≠ 91) (by decide : (3 : TypeId) ≠ 91) (by decide : (4 : TypeId) ≠ 91) (by decide : (9 : TypeId) ≠ 91) (by decide : (50 : TypeId) ≠ 91)))
 have HGE3 := Lib.hid (gw_apart HW3.out.rows HE2.out (ne_list (by decide : (43 : TypeId) ≠ 47) (by decide : (9 : TypeId) ≠ 47) (by decide : (22 : TypeId) ≠ 47) (by decide : (3 : TypeId) ≠ 47) (by decide : (4 : TypeId) ≠ 47) (by decide : (9 : TypeId) ≠ 47) (by decide : (50 : TypeId) ≠ 47)))
 have HL3 := Lib.hid HW3.out.len
 obtain ⟨⟨AL, cL, rfl, -⟩, -, ⟨AK, cK, rfl, -⟩, -, -⟩ := HW3.out.vals
 obtain ⟨gl, rfl⟩ : ∃ g, AL = some ⟨g, 0, none⟩ := by
  rcases (HW3.out.rows.all 0 _ rfl).2 with ⟨e, -⟩ | ⟨g, cap, cur, e, -⟩
  ·injection e with e1 e2
   omega
  ·injection e with e1 e2
   exact ⟨g, e1⟩
 obtain ⟨gk, rfl⟩ : ∃ g, AK = some ⟨g, 0, none⟩ := by
  rcases (HW3.out.rows.all 2 _ rfl).2 with ⟨e, -⟩ | ⟨g, cap, cur, e, -⟩
  ·injection e with e1 e2
   omega
  ·injection e with e1 e2
   exact ⟨g, e1⟩
 obtain ⟨xp, xA, xc, xZ, xd⟩ := x
 have hxp : xp = p := HX.out.2
 subst hxp
 have HZ3 : Hid (w3.cell? ⟨gl, i * 3 + 2, none⟩ = some (.slice xZ xp.ops.length xd) ∧ gl < w3.heap.size) := Lib.hid (by
  have HV : w3.ownsRow w0.heap.size 43 3 (.slice (some ⟨gl, 0, none⟩) m.ps.length cL) xs.length (txC (xs.map txa)) := HW3.out.rows.all 0 _ rfl
  exact ⟨(own_cell HV (g := gl) rfl (j := i * 3 + 2) (u := .slice xZ xp.ops.length xd) (by rw [txC_get _ i (txa ⟨xp, xA, xc, xZ, xd⟩) (by rw [List.getElem?_map, HX.out.1]; rfl) 2 (by omega)]; rfl)).1, own_lt HV (g := gl) (by simp [Value.ownBlock])⟩)
 obtain ⟨q, hq0⟩ : ∃ q, q = (sortB (m.ps.flatMap Pt.ks ++ [ay])).length := ⟨_, rfl⟩
 obtain ⟨nk, hnk⟩ : ∃ nk, nk = (m.ps.flatMap Pt.ks).length := ⟨_, rfl⟩
 have hnk8 : nk ≤ 800 := by
  have := flat_le (f := Pt.ks) (c := 20) m.ps (fun r hr => by have := HNO.out r hr; rw [this.2.1]; exact this.1)
  omega
 have HLONG : Hid (xp.ops.length = 20 ∨ 40 < q → takeE m ⟨ak, sn, ay, avk, avn, aln⟩ = 7 ∧ takeM m ⟨ak, sn, ay, avk, avn, aln⟩ = m) := Lib.hid (fun hc => by
  rw [HT.out.1, HT.out.2]
  unfold addE addM
  dsimp only
  rw [HSL.out, ← hq0, if_pos hc, if_pos hc]
  exact ⟨rfl, rfl⟩)
 have HSHORT : Hid (¬ xp.ops.length = 20 → ¬ 40 < q → takeE m ⟨ak, sn, ay, avk, avn, aln⟩ = 0 ∧ (takeM m ⟨ak, sn, ay, avk, avn, aln⟩).ps = m.ps.set i (addP xp ⟨ak, sn, ay, avk, avn, aln⟩)) := Lib.hid (fun h1 h2 => by
  have hc : ¬ (xp.ops.length = 20 ∨ 40 < q) := fun h => h.elim h1 h2
  rw [HT.out.1, HT.out.2]
  unfold addE addM
  dsimp only
  rw [HSL.out, ← hq0, if_neg hc, if_neg hc]
  exact ⟨rfl, rfl⟩)
 have HSO : Hid (∀ A c B w', Row w' B A (strs (m.ps.flatMap Pt.ks ++ [ay])) → Calls Tryz.prog 50 #[.slice A (nk + 1) c] w' fun e w'' => Only [] w' w'' ∧ ∃ V, e = .returned V ∧ w''.ownsRow w'.heap.size 9 1 V q (strs (sortB (m.ps.flatMap Pt.ks ++ [ay])))) := Lib.hid (fun A c B w' hA => by
  have := rsorted_any A (nk + 1) c B (m.ps.flatMap Pt.ks ++ [ay]) w' (by rw [List.length_append, ← hnk]; rfl) (by omega) (fun z hz => by
   rcases List.mem_append.1 hz with hz | hz
   ·obtain ⟨r, hr, hz⟩ := List.mem_flatMap.1 hz
    exact (HNO.out r hr).2.2.2 z hz
   ·simp at hz
    subst hz
    exact HAY.out) hA
  rw [← hq0] at this
  exact this)
 have HKY : Hid (∀ w', Only [] w3 w' → Calls Tryz.prog 51 #[.pointer (some ⟨gw, 0, none⟩)] w' fun e w'' => Only [] w' w'' ∧ ∃ V, e = .returned V ∧ w''.ownsRow w'.heap.size 9 1 V nk (strs (m.ps.flatMap Pt.ks))) := Lib.hid (fun w' O => by
  have := rkeys_any _ gw m.ps _ _ _ _ _ xs w' (HW3.out.same O) hnp (fun r hr => by have := HNO.out r hr; rw [this.2.1]; exact this.1)
  rw [← hnk] at this
  exact this)
 clear hq0 hnk HSL HNO HAY HT
 by_cases h20 : xp.ops.length = 20
 ·have h21 : ((xp.ops.length : Int) == 20) = true := by simp; omega
  have H20 := Lib.hid h20
  clear h20
  refine wp_region_noPanic ?_
  refine wp_region_timed (F := [⟨[], [], fun w' => Only [] w3 w'⟩]) (by kernel_rfl) (timed_holds ((Only.refl [] w3).drew) (timed_nil)) ?_
  have OW : Only [] w3 w3.drew := (Only.refl [] w3).drew
  generalize hwz : w3.drew = wz at *
  clear hwz
  refine timed_pure (i := 0) (v := ?_) rfl (by kernel_rfl) (by kernel_rfl) (by kernel_rfl) (fun _ _ _ h => h) (by kernel_rfl) (by kernel_rfl) ?_ ?_
  rotate_left
  ·(intro w; go_simp; try with_reducible rfl)
  try simp only [Act.put, tdy]
  refine timed_pure (i := 1) (v := ?_) rfl (by kernel_rfl) (by kernel_rfl) (by kernel_rfl) (fun _ _ _ h => h) (by kernel_rfl) (by kernel_rfl) ?_ ?_
  rotate_left
  ·(intro w; go_simp; try with_reducible rfl)
  try simp only [Act.put, tdy]
  refine timed_pure (i := 2) (v := ?_) rfl (by kernel_rfl) (by kernel_rfl) (by kernel_rfl) (fun _ _ _ h => h) (by kernel_rfl) (by kernel_rfl) ?_ ?_
  rotate_left
  ·(intro w; go_simp; try with_reducible rfl)
  try simp only [Act.put, tdy]
  refine timed_pure (i := 3) (v := ?_) rfl (by kernel_rfl) (by kernel_rfl) (by kernel_rfl) (fun _ _ _ h => h) (by kernel_rfl) (by kernel_rfl) ?_ ?_
  rotate_left
  ·(intro w; go_simp; try with_reducible rfl)
  try simp only [Act.put, tdy]
  refine timed_read (i := 4) (v := ?_) 0 rfl (by kernel_rfl) (by kernel_rfl) (by kernel_rfl) (fun _ _ _ h => h) (by kernel_rfl) (by kernel_rfl) rfl (by kernel_rfl) ?_ ?_
  rotate_left
  ·(intro wq hSw; (try dsimp only at hSw); have hb := hSw.blk HB3.out (by simp); have lb := hb.lt; have b2 := hb.at_ 2; simp at b2; clear hb; clear hSw; go_simp; try with_reducible rfl)
  try simp only [Act.put, tdy]
  refine timed_pure (i := 5) (v := ?_) rfl (by kernel_rfl) (by kernel_rfl) (by kernel_rfl) (fun _ _ _ h => h) (by kernel_rfl) (by kernel_rfl) ?_ ?_
  rotate_left
  ·(intro w; go_simp; try with_reducible rfl)
  try simp only [Act.put, tdy]
  refine timed_pure (i := 6) (v := ?_) rfl (by kernel_rfl) (by kernel_rfl) (by kernel_rfl) (fun _ _ _ h => h) (by kernel_rfl) (by kernel_rfl) ?_ ?_
  rotate_left
  ·(intro w; go_simp; try with_reducible rfl)
  try simp only [Act.put, tdy]
  refine timed_pure (i := 7) (v := ?_) rfl (by kernel_rfl) (by kernel_rfl) (by kernel_rfl) (fun _ _ _ h => h) (by kernel_rfl) (by kernel_rfl) ?_ ?_
  rotate_left
  ·(intro w; go_simp; try with_reducible rfl)
  try simp only [Act.put, tdy]
  refine timed_read (i := 8) (v := ?_) 0 rfl (by kernel_rfl) (by kernel_rfl) (by kernel_rfl) (fun _ _ _ h => h) (by kernel_rfl) (by kernel_rfl) rfl (by kernel_rfl) ?_ ?_
  rotate_left
  ·(intro wq hSw; (try dsimp only at hSw); have zc := (hSw.cell (p := ⟨gl, i * 3 + 2, none⟩) HZ3.out.2 (by simp)).trans HZ3.out.1; have zl := Nat.lt_of_lt_of_le HZ3.out.2 hSw.size; clear hSw; go_simp; try with_reducible rfl)
  try simp only [Act.put, tdy]
  refine timed_pure (i := 9) (v := ?_) rfl (by kernel_rfl) (by kernel_rfl) (by kernel_rfl) (fun _ _ _ h => h) (by kernel_rfl) (by kernel_rfl) ?_ ?_
  rotate_left
  ·(intro w; go_simp; try with_reducible rfl)
  try simp only [Act.put, tdy]
  refine timed_pure (i := 10) (v := ?_) rfl (by kernel_rfl) (by kernel_rfl) (by kernel_rfl) (fun _ _ _ h => h) (by kernel_rfl) (by kernel_rfl) ?_ ?_
  rotate_left
  ·(intro w; go_simp; try with_reducible rfl)
  try simp only [Act.put, tdy]
  refine timed_pure (i := 11) (v := ?_) rfl (by kernel_rfl) (by kernel_rfl) (by kernel_rfl) (fun _ _ _ h => h) (by kernel_rfl) (by kernel_rfl) ?_ ?_
  rotate_left
  ·(intro w; go_simp; try with_reducible rfl)
  try simp only [Act.put, tdy]
  refine timed_idle (i := 12) rfl (by kernel_rfl) (by kernel_rfl) (by kernel_rfl) (fun _ _ _ h => h) (by kernel_rfl) (by kernel_rfl) ?_
  try simp only [Act.put, tdy]
  refine timed_idle (i := 13) rfl (by kernel_rfl) (by kernel_rfl) (by kernel_rfl) (fun _ _ _ h => h) (by kernel_rfl) (by kernel_rfl) ?_
  try simp only [Act.put, tdy]
  refine timed_idle (i := 14) rfl (by kernel_rfl) (by kernel_rfl) (by kernel_rfl) (fun _ _ _ h => h) (by kernel_rfl) (by kernel_rfl) ?_
  try simp only [Act.put, tdy]
  refine timed_idle (i := 15) rfl (by kernel_rfl) (by kernel_rfl) (by kernel_rfl) (fun _ _ _ h => h) (by kernel_rfl) (by kernel_rfl) ?_
  try simp only [Act.put, tdy]
  refine timed_idle (i := 16) rfl (by kernel_rfl) (by kernel_rfl) (by kernel_rfl) (fun _ _ _ h => h) (by kernel_rfl) (by kernel_rfl) ?_
  try simp only [Act.put, tdy]
  refine timed_idle (i := 17) rfl (by kernel_rfl) (by kernel_rfl) (by kernel_rfl) (fun _ _ _ h => h) (by kernel_rfl) (by kernel_rfl) ?_
  try simp only [Act.put, tdy]
  refine timed_idle (i := 18) rfl (by kernel_rfl) (by kernel_rfl) (by kernel_rfl) (fun _ _ _ h => h) (by kernel_rfl) (by kernel_rfl) ?_
  try simp only [Act.put, tdy]
  refine timed_idle (i := 19) rfl (by kernel_rfl) (by kernel_rfl) (by kernel_rfl) (fun _ _ _ h => h) (by kernel_rfl) (by kernel_rfl) ?_
  try simp only [Act.put, tdy]
  refine timed_idle (i := 20) rfl (by kernel_rfl) (by kernel_rfl) (by kernel_rfl) (fun _ _ _ h => h) (by kernel_rfl) (by kernel_rfl) ?_
  try simp only [Act.put, tdy]
  refine timed_pure (i := 21) (v := ?_) rfl (by kernel_rfl) (by kernel_rfl) (by kernel_rfl) (fun _ _ _ h => h) (by kernel_rfl) (by kernel_rfl) ?_ ?_
  rotate_left
  ·(intro w; go_simp; try with_reducible rfl)
  try simp only [Act.put, tdy]
  refine timed_done (by kernel_rfl) ?_ _
  refine NoPanic.normal ?_
  have HF := Lib.hid (HLONG.out (.inl H20.out))
  have HWX := Lib.hid (HW3.out.same OW)
  have HOX := Lib.hid (HOO3.out.trans OW)
  go_wp2
  go_ret
  exact ⟨by rw [HF.out.1]; rfl, HOX.out, _, _, _, _, _, _, by rw [HF.out.2]; exact HWX.out⟩
 ·have h21 : ((xp.ops.length : Int) == 20) = false := by simp; omega
  have H20 := Lib.hid h20
  clear h20
  refine wp_region_noPanic ?_
  refine wp_region_timed (F := [⟨[], [], fun w' => Only [] w3 w'⟩]) (by kernel_rfl) (timed_holds ((Only.refl [] w3).drew) (timed_nil)) ?_
  have OW : Only [] w3 w3.drew := (Only.refl [] w3).drew
  generalize hwz : w3.drew = wz at *
  clear hwz
  refine timed_pure (i := 0) (v := ?_) rfl (by kernel_rfl) (by kernel_rfl) (by kernel_rfl) (fun _ _ _ h => h) (by kernel_rfl) (by kernel_rfl) ?_ ?_
  rotate_left
  ·(intro w; go_simp; try with_reducible rfl)
  try simp only [Act.put, tdy]
  refine timed_pure (i := 1) (v := ?_) rfl (by kernel_rfl) (by kernel_rfl) (by kernel_rfl) (fun _ _ _ h => h) (by kernel_rfl) (by kernel_rfl) ?_ ?_
  rotate_left
  ·(intro w; go_simp; try with_reducible rfl)
  try simp only [Act.put, tdy]
  refine timed_pure (i := 2) (v := ?_) rfl (by kernel_rfl) (by kernel_rfl) (by kernel_rfl) (fun _ _ _ h => h) (by kernel_rfl) (by kernel_rfl) ?_ ?_
  rotate_left
  ·(intro w; go_simp; try with_reducible rfl)
  try simp only [Act.put, tdy]
  refine timed_pure (i := 3) (v := ?_) rfl (by kernel_rfl) (by kernel_rfl) (by kernel_rfl) (fun _ _ _ h => h) (by kernel_rfl) (by kernel_rfl) ?_ ?_
  rotate_left
  ·(intro w; go_simp; try with_reducible rfl)
  try simp only [Act.put, tdy]
  refine timed_read (i := 4) (v := ?_) 0 rfl (by kernel_rfl) (by kernel_rfl) (by kernel_rfl) (fun _ _ _ h => h) (by kernel_rfl) (by kernel_rfl) rfl (by kernel_rfl) ?_ ?_
  rotate_left
  ·(intro wq hSw; (try dsimp only at hSw); have hb := hSw.blk HB3.out (by simp); have lb := hb.lt; have b2 := hb.at_ 2; simp at b2; clear hb; clear hSw; go_simp; try with_reducible rfl)
  try simp only [Act.put, tdy]
  refine timed_pure (i := 5) (v := ?_) rfl (by kernel_rfl) (by kernel_rfl) (by kernel_rfl) (fun _ _ _ h => h) (by kernel_rfl) (by kernel_rfl) ?_ ?_
  rotate_left
  ·(intro w; go_simp; try with_reducible rfl)
  try simp only [Act.put, tdy]
  refine timed_pure (i := 6) (v := ?_) rfl (by kernel_rfl) (by kernel_rfl) (by kernel_rfl) (fun _ _ _ h => h) (by kernel_rfl) (by kernel_rfl) ?_ ?_
  rotate_left
  ·(intro w; go_simp; try with_reducible rfl)
  try simp only [Act.put, tdy]
  refine timed_pure (i := 7) (v := ?_) rfl (by kernel_rfl) (by kernel_rfl) (by kernel_rfl) (fun _ _ _ h => h) (by kernel_rfl) (by kernel_rfl) ?_ ?_
  rotate_left
  ·(intro w; go_simp; try with_reducible rfl)
  try simp only [Act.put, tdy]
  refine timed_read (i := 8) (v := ?_) 0 rfl (by kernel_rfl) (by kernel_rfl) (by kernel_rfl) (fun _ _ _ h => h) (by kernel_rfl) (by kernel_rfl) rfl (by kernel_rfl) ?_ ?_
  rotate_left
  ·(intro wq hSw; (try dsimp only at hSw); have zc := (hSw.cell (p := ⟨gl, i * 3 + 2, none⟩) HZ3.out.2 (by simp)).trans HZ3.out.1; have zl := Nat.lt_of_lt_of_le HZ3.out.2 hSw.size; clear hSw; go_simp; try with_reducible rfl)
  try simp only [Act.put, tdy]
  refine timed_pure (i := 9) (v := ?_) rfl (by kernel_rfl) (by kernel_rfl) (by kernel_rfl) (fun _ _ _ h => h) (by kernel_rfl) (by kernel_rfl) ?_ ?_
  rotate_left
  ·(intro w; go_simp; try with_reducible rfl)
  try simp only [Act.put, tdy]
  refine timed_pure (i := 10) (v := ?_) rfl (by kernel_rfl) (by kernel_rfl) (by kernel_rfl) (fun _ _ _ h => h) (by kernel_rfl) (by kernel_rfl) ?_ ?_
  rotate_left
  ·(intro w; go_simp; try with_reducible rfl)
  try simp only [Act.put, tdy]
  refine timed_pure (i := 11) (v := ?_) rfl (by kernel_rfl) (by kernel_rfl) (by kernel_rfl) (fun _ _ _ h => h) (by kernel_rfl) (by kernel_rfl) ?_ ?_
  rotate_left
  ·(intro w; go_simp; try with_reducible rfl)
  try simp only [Act.put, tdy]
  refine timed_pure (i := 12) (v := ?_) rfl (by kernel_rfl) (by kernel_rfl) (by kernel_rfl) (fun _ _ _ h => h) (by kernel_rfl) (by kernel_rfl) ?_ ?_
  rotate_left
  ·(intro w; go_simp; try with_reducible rfl)
  try simp only [Act.put, tdy]
  refine timed_pure (i := 14) (v := ?_) rfl (by kernel_rfl) (by kernel_rfl) (by kernel_rfl) (fun _ _ _ h => h) (by kernel_rfl) (by kernel_rfl) ?_ ?_
  rotate_left
  ·(intro w; go_simp; try with_reducible rfl)
  try simp only [Act.put, tdy]
  refine timed_read (i := 15) (v := ?_) 0 rfl (by kernel_rfl) (by kernel_rfl) (by kernel_rfl) (fun _ _ _ h => h) (by kernel_rfl) (by kernel_rfl) rfl (by kernel_rfl) ?_ ?_
  rotate_left
  ·(intro wq hSw; (try dsimp only at hSw); have he := hSw.blk HE2.out (by simp); have le := he.lt; have e2 := he.at_ 2; simp at e2; clear he; clear hSw; go_simp; try with_reducible rfl)
  try simp only [Act.put, tdy]
  apply cut_1_1 (fun w g16 y13 => (Only [] w3 w) ∧ (w.ownsRow w3.heap.size 9 1 y13 nk (strs (m.ps.flatMap Pt.ks))) ∧ (Blk w g16 9 #[.string ay]))
  intro HST13_16
  apply cut_1_0 (fun w g16 => (Only [] w3 w) ∧ (Blk w g16 9 #[.string ay]))
  intro HST16
  apply cut_0_1 (fun w y13 => (Only [] w3 w) ∧ (w.ownsRow w3.heap.size 9 1 y13 nk (strs (m.ps.flatMap Pt.ks))))
  intro HST13
  ·skip
   refine timed_forks (l := [13, 16]) (by kernel_rfl) (by simp) (fork_cons ⟨_, rfl, fun K hK => ?_⟩ (fork_cons ⟨_, rfl, fun K hK => ?_⟩ (fork_nil)))
   ·go_simp
    refine (HKY.out _ OW).mono ?_
    rintro e w1 ⟨O1, y13, rfl, hown⟩
    have hsz : w3.heap.size ≤ wz.heap.size := OW.size
    have OV13 := own_lower hown hsz
    have OW1 := OW.trans O1
    refine hK.out _ _ (timed_holds (OW1) (timed_nil)) ?_
    clear hK K
    try simp only [Act.put, tdy]
    exact HST13 w1 y13 ⟨OW1, OV13⟩
   ·go_simp
    have BL16 := Blk.made wz 9 #[.string ay]
    have OW1 := OW.alloc (.cells #[.string ay] 9)
    generalize wz.alloc (.cells #[.string ay] 9) = w1 at *
    generalize wz.heap.size = g16 at *
    refine hK.out _ _ (timed_holds (OW1) (timed_nil)) ?_
    clear hK K
    try simp only [Act.put, tdy]
    exact HST16 w1 g16 ⟨OW1, BL16⟩
  ·skip
   intro wz y13 ⟨OW, OV13⟩
   refine timed_step (i := 16) (by kernel_rfl) rfl (fun K hK => ?_)
   go_simp
   have BL16 := Blk.made wz 9 #[.string ay]
   have OW1 := OW.alloc (.cells #[.string ay] 9)
   have OV131 := own_only OV13 ((Only.refl [] wz).alloc (.cells #[.string ay] 9)) (by simp)
   generalize wz.alloc (.cells #[.string ay] 9) = w1 at *
   generalize wz.heap.size = g16 at *
   refine hK.out _ _ (timed_holds (OW1) (timed_nil)) ?_
   clear hK K
   try simp only [Act.put, tdy]
   exact HST13_16 w1 g16 y13 ⟨OW1, OV131, BL16⟩
  ·skip
   intro wz g16 ⟨OW, BL16⟩
   refine timed_step (i := 13) (by kernel_rfl) rfl (fun K hK => ?_)
   go_simp
   refine (HKY.out _ OW).mono ?_
   rintro e w1 ⟨O1, y13, rfl, hown⟩
   have hsz : w3.heap.size ≤ wz.heap.size := OW.size
   have OV13 := own_lower hown hsz
   have OW1 := OW.trans O1
   have BL161 := O1.blk BL16 (by simp)
   refine hK.out _ _ (timed_holds (OW1) (timed_nil)) ?_
   clear hK K
   try simp only [Act.put, tdy]
   exact HST13_16 w1 g16 y13 ⟨OW1, OV13, BL161⟩
  -- behind all of the crowd
  intro wz g16 y13 ⟨OW, OV13, BL16⟩
  by_cases hq : 40 < q
  ·have hq1 : decide ((40 : Int) < (q : Int)) = true := decide_eq_true (by omega)
   have hq2 : decide (40 < q) = true := decide_eq_true hq
   have HQ := Lib.hid hq
   clear hq
   refine timed_step (i := 17) (by kernel_rfl) rfl (fun K hK => ?_)
   have hsz : w3.heap.size ≤ wz.heap.size := OW.size
   refine step_append_rowg (by kernel_rfl) (.tmp 127) (.tmp 130) 22 rfl w3.heap.size 9 is_ _ 1 16 Tryz.underlying22 his his0 his1 his2 rfl (by omega) _ nk (strs (m.ps.flatMap Pt.ks)) (by rfl) (OV13) _ _ 1 1 ([.string ay]) (by rfl) (by rfl) (BL16.row) (by intro u hu; simp at hu; subst hu; rfl) (by unfold maxLen; omega) (by omega) (by omega) ?_
   intro y17 w17 hown hgrow hat
   have OW17 := OW.step (only_grown hgrow) (own_new OV13)
   obtain ⟨A17, c17, rfl, -, -, -, r17⟩ := own_row hown
   have HR17 : Hid (Row w17 w17.heap.size A17 (strs (m.ps.flatMap Pt.ks ++ [ay]))) := Lib.hid (by rw [show strs (m.ps.flatMap Pt.ks ++ [ay]) = strs (m.ps.flatMap Pt.ks) ++ [.string ay] by simp [strs]]; exact r17)
   clear r17 hown hgrow hat OV13 BL16
   refine hK.out _ _ (timed_holds (OW17) (timed_nil)) ?_
   clear hK K
   try simp only [Act.put, tdy]
   refine timed_step (i := 18) (by kernel_rfl) rfl (fun K hK => ?_)
   go_simp
   refine ((HSO.out A17 c17 _ w17 HR17.out)).mono ?_
   rintro e w18 ⟨O18, V18, rfl, hown⟩
   obtain ⟨A18, c18, rfl, -⟩ := own_row hown
   have OW18 := OW17.trans O18
   clear O18 hown
   refine hK.out _ _ (timed_holds (OW18) (timed_nil)) ?_
   clear hK K
   try simp only [Act.put, tdy]
   refine timed_pure (i := 19) (v := ?_) rfl (by kernel_rfl) (by kernel_rfl) (by kernel_rfl) (fun _ _ _ h => h) (by kernel_rfl) (by kernel_rfl) ?_ ?_
   rotate_left
   ·(intro w; go_simp; try with_reducible rfl)
   try simp only [Act.put, tdy]
   refine timed_pure (i := 20) (v := ?_) rfl (by kernel_rfl) (by kernel_rfl) (by kernel_rfl) (fun _ _ _ h => h) (by kernel_rfl) (by kernel_rfl) ?_ ?_
   rotate_left
   ·(intro w; go_simp; try with_reducible rfl)
   try simp only [Act.put, tdy]
   refine timed_pure (i := 21) (v := ?_) rfl (by kernel_rfl) (by kernel_rfl) (by kernel_rfl) (fun _ _ _ h => h) (by kernel_rfl) (by kernel_rfl) ?_ ?_
   rotate_left
   ·(intro w; go_simp; try with_reducible rfl)
   try simp only [Act.put, tdy]
   refine timed_done (by kernel_rfl) ?_ _
   refine NoPanic.normal ?_
   have HF := Lib.hid (HLONG.out (.inr HQ.out))
   have HWX := Lib.hid (HW3.out.same OW18)
   have HOX := Lib.hid (HOO3.out.trans OW18)
   go_wp2
   go_ret
   exact ⟨by rw [HF.out.1]; rfl, HOX.out, _, _, _, _, _, _, by rw [HF.out.2]; exact HWX.out⟩
  ·have hq1 : decide ((40 : Int) < (q : Int)) = false := decide_eq_false (by omega)
   have hq2 : decide (40 < q) = false := decide_eq_false hq
   refine timed_step (i := 17) (by kernel_rfl) rfl (fun K hK => ?_)
   have hsz : w3.heap.size ≤ wz.heap.size := OW.size
   refine step_append_rowg (by kernel_rfl) (.tmp 127) (.tmp 130) 22 rfl w3.heap.size 9 is_ _ 1 16 Tryz.underlying22 his his0 his1 his2 rfl (by omega) _ nk (strs (m.ps.flatMap Pt.ks)) (by rfl) (OV13) _ _ 1 1 ([.string ay]) (by rfl) (by rfl) (BL16.row) (by intro u hu; simp at hu; subst hu; rfl) (by unfold maxLen; omega) (by omega) (by omega) ?_
   intro y17 w17 hown hgrow hat
   have OW17 := OW.step (only_grown hgrow) (own_new OV13)
   obtain ⟨A17, c17, rfl, -, -, -, r17⟩ := own_row hown
   have HR17 : Hid (Row w17 w17.heap.size A17 (strs (m.ps.flatMap Pt.ks ++ [ay]))) := Lib.hid (by rw [show strs (m.ps.flatMap Pt.ks ++ [ay]) = strs (m.ps.flatMap Pt.ks) ++ [.string ay] by simp [strs]]; exact r17)
   clear r17 hown hgrow hat OV13 BL16
   refine hK.out _ _ (timed_holds (OW17) (timed_nil)) ?_
   clear hK K
   try simp only [Act.put, tdy]
   refine timed_step (i := 18) (by kernel_rfl) rfl (fun K hK => ?_)
   go_simp
   refine ((HSO.out A17 c17 _ w17 HR17.out)).mono ?_
   rintro e w18 ⟨O18, V18, rfl, hown⟩
   obtain ⟨A18, c18, rfl, -⟩ := own_row hown
   have OW18 := OW17.trans O18
   clear O18 hown
   refine hK.out _ _ (timed_holds (OW18) (timed_nil)) ?_
   clear hK K
   try simp only [Act.put, tdy]
   refine timed_pure (i := 19) (v := ?_) rfl (by kernel_rfl) (by kernel_rfl) (by kernel_rfl) (fun _ _ _ h => h) (by kernel_rfl) (by kernel_rfl) ?_ ?_
   rotate_left
   ·(intro w; go_simp; try with_reducible rfl)
   try simp only [Act.put, tdy]
   refine timed_pure (i := 20) (v := ?_) rfl (by kernel_rfl) (by kernel_rfl) (by kernel_rfl) (fun _ _ _ h => h) (by kernel_rfl) (by kernel_rfl) ?_ ?_
   rotate_left
   ·(intro w; go_simp; try with_reducible rfl)
   try simp only [Act.put, tdy]
   refine timed_pure (i := 21) (v := ?_) rfl (by kernel_rfl) (by kernel_rfl) (by kernel_rfl) (fun _ _ _ h => h) (by kernel_rfl) (by kernel_rfl) ?_ ?_
   rotate_left
   ·(intro w; go_simp; try with_reducible rfl)
   try simp only [Act.put, tdy]
   refine timed_done (by kernel_rfl) ?_ _
   refine NoPanic.normal ?_
   have HF := Lib.hid (HSHORT.out H20.out hq)
   have HB18 := Lib.hid (OW18.blk HB3.out (by simp))
   have HE18 := Lib.hid (OW18.blk HE2.out (by simp))
   have HR18 := Lib.hid (HW3.out.rows.same OW18)
   have HO18 := Lib.hid (HOO3.out.trans OW18)
   have HGW := Lib.hid HW3.out.gwb
   have HPT := Lib.hid HW3.out.parts
   have hb18 : w0.heap.size ≤ w18.heap.size := HO18.out.size
   have HZ18 : Hid (w18.cell? ⟨gl, i * 3 + 2, none⟩ = some (.slice xZ xp.ops.length xd) ∧ gl < w18.heap.size) := Lib.hid ⟨(OW18.cell (p := ⟨gl, i * 3 + 2, none⟩) HZ3.out.2 (by simp)).trans HZ3.out.1, Nat.lt_of_lt_of_le HZ3.out.2 OW18.size⟩
   clear hq hq1 hq2 h21 HLONG HSHORT HSO HKY HZ3 OW17 OW18 HB3 HE2 HOO3 HW3
   go_upto_region 19 with (fail)
   refine wp_region_noPanic ?_
   refine wp_region_timed (F := [⟨[], [22], fun w' => Only [] w18 w'⟩, ⟨[], [], fun w' => Only (ownB (wL (.slice (some ⟨gl, 0, none⟩) m.ps.length cL) VN (.slice (some ⟨gk, 0, none⟩) m.ps.length cK) VI VO xs)) w18 w'⟩]) (by kernel_rfl) (timed_holds ((Only.refl [] w18).drew) (timed_holds ((Only.refl _ w18).drew) (timed_nil))) ?_
   have OXs0 : Only [] w18 w18.drew := (Only.refl [] w18).drew
   have OWs0 : Only (ownB (wL (.slice (some ⟨gl, 0, none⟩) m.ps.length cL) VN (.slice (some ⟨gk, 0, none⟩) m.ps.length cK) VI VO xs)) w18 w18.drew := (Only.refl _ w18).drew
   have HRs0 : ORs w18.drew w0.heap.size (wL (.slice (some ⟨gl, 0, none⟩) m.ps.length cL) VN (.slice (some ⟨gk, 0, none⟩) m.ps.length cK) VI VO xs) := HR18.out.same ((Only.refl [] w18).drew)
   generalize hwz : w18.drew = ws0 at *
   clear hwz
   refine timed_pure (i := 0) (v := ?_) rfl (by kernel_rfl) (by kernel_rfl) (by kernel_rfl) (fun _ _ _ h => h) (by kernel_rfl) (by kernel_rfl) ?_ ?_
   rotate_left
   ·(intro w; go_simp; try with_reducible rfl)
   try simp only [Act.put, tdy]
   refine timed_pure (i := 1) (v := ?_) rfl (by kernel_rfl) (by kernel_rfl) (by kernel_rfl) (fun _ _ _ h => h) (by kernel_rfl) (by kernel_rfl) ?_ ?_
   rotate_left
   ·(intro w; go_simp; try with_reducible rfl)
   try simp only [Act.put, tdy]
   refine timed_pure (i := 2) (v := ?_) rfl (by kernel_rfl) (by kernel_rfl) (by kernel_rfl) (fun _ _ _ h => h) (by kernel_rfl) (by kernel_rfl) ?_ ?_
   rotate_left
   ·(intro w; go_simp; try with_reducible rfl)
   try simp only [Act.put, tdy]
   refine timed_pure (i := 3) (v := ?_) rfl (by kernel_rfl) (by kernel_rfl) (by kernel_rfl) (fun _ _ _ h => h) (by kernel_rfl) (by kernel_rfl) ?_ ?_
   rotate_left
   ·(intro w; go_simp; try with_reducible rfl)
   try simp only [Act.put, tdy]
   refine timed_read (i := 4) (v := ?_) 1 rfl (by kernel_rfl) (by kernel_rfl) (by kernel_rfl) (fun _ _ _ h => h) (by kernel_rfl) (by kernel_rfl) rfl (by kernel_rfl) ?_ ?_
   rotate_left
   ·(intro wq hSw; (try dsimp only at hSw); have hb := hSw.blk HB18.out HG3.out; have lb := hb.lt; have b2 := hb.at_ 2; simp at b2; clear hb; clear hSw; go_simp; try with_reducible rfl)
   try simp only [Act.put, tdy]
   refine timed_pure (i := 5) (v := ?_) rfl (by kernel_rfl) (by kernel_rfl) (by kernel_rfl) (fun _ _ _ h => h) (by kernel_rfl) (by kernel_rfl) ?_ ?_
   rotate_left
   ·(intro w; go_simp; try with_reducible rfl)
   try simp only [Act.put, tdy]
   refine timed_pure (i := 6) (v := ?_) rfl (by kernel_rfl) (by kernel_rfl) (by kernel_rfl) (fun _ _ _ h => h) (by kernel_rfl) (by kernel_rfl) ?_ ?_
   rotate_left
   ·(intro w; go_simp; try with_reducible rfl)
   try simp only [Act.put, tdy]
   refine timed_pure (i := 7) (v := ?_) rfl (by kernel_rfl) (by kernel_rfl) (by kernel_rfl) (fun _ _ _ h => h) (by kernel_rfl) (by kernel_rfl) ?_ ?_
   rotate_left
   ·(intro w; go_simp; try with_reducible rfl)
   try simp only [Act.put, tdy]
   refine timed_pure (i := 8) (v := ?_) rfl (by kernel_rfl) (by kernel_rfl) (by kernel_rfl) (fun _ _ _ h => h) (by kernel_rfl) (by kernel_rfl) ?_ ?_
   rotate_left
   ·(intro w; go_simp; try with_reducible rfl)
   try simp only [Act.put, tdy]
   refine timed_pure (i := 9) (v := ?_) rfl (by kernel_rfl) (by kernel_rfl) (by kernel_rfl) (fun _ _ _ h => h) (by kernel_rfl) (by kernel_rfl) ?_ ?_
   rotate_left
   ·(intro w; go_simp; try with_reducible rfl)
   try simp only [Act.put, tdy]
   refine timed_read (i := 10) (v := ?_) 1 rfl (by kernel_rfl) (by kernel_rfl) (by kernel_rfl) (fun _ _ _ h => h) (by kernel_rfl) (by kernel_rfl) rfl (by kernel_rfl) ?_ ?_
   rotate_left
   ·(intro wq hSw; (try dsimp only at hSw); have hb := hSw.blk HB18.out HG3.out; have lb := hb.lt; have b2 := hb.at_ 2; simp at b2; clear hb; clear hSw; go_simp; try with_reducible rfl)
   try simp only [Act.put, tdy]
   refine timed_pure (i := 11) (v := ?_) rfl (by kernel_rfl) (by kernel_rfl) (by kernel_rfl) (fun _ _ _ h => h) (by kernel_rfl) (by kernel_rfl) ?_ ?_
   rotate_left
   ·(intro w; go_simp; try with_reducible rfl)
   try simp only [Act.put, tdy]
   refine timed_pure (i := 12) (v := ?_) rfl (by kernel_rfl) (by kernel_rfl) (by kernel_rfl) (fun _ _ _ h => h) (by kernel_rfl) (by kernel_rfl) ?_ ?_
   rotate_left
   ·(intro w; go_simp; try with_reducible rfl)
   try simp only [Act.put, tdy]
   refine timed_pure (i := 13) (v := ?_) rfl (by kernel_rfl) (by kernel_rfl) (by kernel_rfl) (fun _ _ _ h => h) (by kernel_rfl) (by kernel_rfl) ?_ ?_
   rotate_left
   ·(intro w; go_simp; try with_reducible rfl)
   try simp only [Act.put, tdy]
   refine timed_read (i := 14) (v := ?_) 0 rfl (by kernel_rfl) (by kernel_rfl) (by kernel_rfl) (fun _ _ _ h => h) (by kernel_rfl) (by kernel_rfl) rfl (by kernel_rfl) ?_ ?_
   rotate_left
   ·(intro wq hSw; (try dsimp only at hSw); have zc := (hSw.cell (p := ⟨gl, i * 3 + 2, none⟩) HZ18.out.2 (by simp)).trans HZ18.out.1; have zl := Nat.lt_of_lt_of_le HZ18.out.2 hSw.size; clear hSw; go_simp; try with_reducible rfl)
   try simp only [Act.put, tdy]
   refine timed_pure (i := 15) (v := ?_) rfl (by kernel_rfl) (by kernel_rfl) (by kernel_rfl) (fun _ _ _ h => h) (by kernel_rfl) (by kernel_rfl) ?_ ?_
   rotate_left
   ·(intro w; go_simp; try with_reducible rfl)
   try simp only [Act.put, tdy]
   refine timed_read (i := 16) (v := ?_) 1 rfl (by kernel_rfl) (by kernel_rfl) (by kernel_rfl) (fun _ _ _ h => h) (by kernel_rfl) (by kernel_rfl) rfl (by kernel_rfl) ?_ ?_
   rotate_left
   ·(intro wq hSw; (try dsimp only at hSw); have he := hSw.blk HE18.out HGE3.out; have le := he.lt; have e0 := he.at_ 0; have e3 := he.at_ 3; have e4 := he.at_ 4; simp at e0 e3 e4; clear he; clear hSw; go_simp; try with_reducible rfl)
   try simp only [Act.put, tdy]
   refine timed_pure (i := 17) (v := ?_) rfl (by kernel_rfl) (by kernel_rfl) (by kernel_rfl) (fun _ _ _ h => h) (by kernel_rfl) (by kernel_rfl) ?_ ?_
   rotate_left
   ·(intro w; go_simp; try with_reducible rfl)
   try simp only [Act.put, tdy]
   refine timed_pure (i := 18) (v := ?_) rfl (by kernel_rfl) (by kernel_rfl) (by kernel_rfl) (fun _ _ _ h => h) (by kernel_rfl) (by kernel_rfl) ?_ ?_
   rotate_left
   ·(intro w; go_simp; try with_reducible rfl)
   try simp only [Act.put, tdy]
   refine timed_read (i := 19) (v := ?_) 1 rfl (by kernel_rfl) (by kernel_rfl) (by kernel_rfl) (fun _ _ _ h => h) (by kernel_rfl) (by kernel_rfl) rfl (by kernel_rfl) ?_ ?_
   rotate_left
   ·(intro wq hSw; (try dsimp only at hSw); have he := hSw.blk HE18.out HGE3.out; have le := he.lt; have e0 := he.at_ 0; have e3 := he.at_ 3; have e4 := he.at_ 4; simp at e0 e3 e4; clear he; clear hSw; go_simp; try with_reducible rfl)
   try simp only [Act.put, tdy]
   refine timed_pure (i := 20) (v := ?_) rfl (by kernel_rfl) (by kernel_rfl) (by kernel_rfl) (fun _ _ _ h => h) (by kernel_rfl) (by kernel_rfl) ?_ ?_
   rotate_left
   ·(intro w; go_simp; try with_reducible rfl)
   try simp only [Act.put, tdy]
   refine timed_step (i := 21) (by kernel_rfl) rfl (fun K hK => ?_)
   go_simp
   have BL := Blk.made ws0 50 #[.bool bk, .int .i64 0, .int .i64 avk, .int .i64 avn]
   have OXs1 := OXs0.alloc (.cells #[.bool bk, .int .i64 0, .int .i64 avk, .int .i64 avn] 50)
   have OWs1 := OWs0.alloc (.cells #[.bool bk, .int .i64 0, .int .i64 avk, .int .i64 avn] 50)
   have HRs1 := HRs0.same ((Only.refl [] ws0).alloc (.cells #[.bool bk, .int .i64 0, .int .i64 avk, .int .i64 avn] 50))
   clear OXs0 OWs0 HRs0
   obtain ⟨ws1, hw1⟩ : ∃ w1 : World, w1 = ws0.alloc (.cells #[.bool bk, .int .i64 0, .int .i64 avk, .int .i64 avn] 50) := ⟨_, rfl⟩
   obtain ⟨gb, hgb⟩ : ∃ g : Nat, g = ws0.heap.size := ⟨_, rfl⟩
   rw [← hw1] at BL OXs1 OWs1 HRs1 ⊢
   rw [← hgb] at BL ⊢
   refine hK.out _ _ (timed_holds (OXs1) (timed_holds (OWs1) (timed_nil))) ?_
   clear hK K
   try simp only [Act.put, tdy]
   refine timed_step (i := 22) (by kernel_rfl) rfl (fun K hK => ?_)
   have HIX : (wL (.slice (some ⟨gl, 0, none⟩) m.ps.length cL) VN (.slice (some ⟨gk, 0, none⟩) m.ps.length cK) VI VO xs)[i * 2 + 1 + 5]? = some (oRow ⟨xp, xA, xc, xZ, xd⟩) := (two_k xs i _ HX.out.1).2
   have HV : ws1.ownsRow w0.heap.size 50 4 (.slice xZ xp.ops.length xd) xp.ops.length (opC xp.ops) := HRs1.all _ _ HIX
   have hszs : w0.heap.size ≤ ws1.heap.size := Nat.le_trans hb18 OXs1.size
   refine step_append_row _ rfl (.tmp 150) (.tmp 157) 41 rfl w0.heap.size 50 io _ 4 32 Tryz.underlying41 hio hio0 hio1 hio2 rfl (by omega) _ xp.ops.length (opC xp.ops) (by rfl) (HV) _ _ 1 1 ([.bool bk, .int .i64 0, .int .i64 avk, .int .i64 avn]) (by rfl) (by rfl) (BL.row) (by intro u hu; simp at hu; rcases hu with rfl | rfl | rfl | rfl <;> rfl) (by unfold maxLen; omega) (by omega) (by omega) ?_
   intro y22 w22 hown hgrow hat
   have OWs2 := OWs1.step (only_grown hgrow) (fun j hj _ => ownB_mem.2 ⟨_, _, HIX, (by simpa [oRow] using hj)⟩)
   have HRs2 : ORs w22 w0.heap.size ((wL (.slice (some ⟨gl, 0, none⟩) m.ps.length cL) VN (.slice (some ⟨gk, 0, none⟩) m.ps.length cK) VI VO xs).set (i * 2 + 1 + 5) (⟨50, 4, y22, xp.ops.length + 1, opC xp.ops ++ [Value.bool bk, Value.int .i64 0, Value.int .i64 avk, Value.int .i64 avn]⟩ : OR)) := HRs1.upd (r' := (⟨50, 4, y22, xp.ops.length + 1, opC xp.ops ++ [Value.bool bk, Value.int .i64 0, Value.int .i64 avk, Value.int .i64 avn]⟩ : OR)) HIX (only_grown hgrow) hown (hat.imp id (fun e g hg => by rw [e] at hg; have := Option.some.inj hg; omega))
   obtain ⟨A22, c22, rfl, -, -, -, -⟩ := own_row hown
   clear HIX HV BL OXs1 OWs1 HRs1 hown hgrow hat hw1 hgb
   refine hK.out _ _ (timed_over (by kernel_rfl) (timed_holds (OWs2) (timed_nil))) ?_
   clear hK K
   try simp only [Act.put, tdy]
   refine timed_pure (i := 23) (v := ?_) rfl (by kernel_rfl) (by kernel_rfl) (by kernel_rfl) (fun _ _ _ h => h) (by kernel_rfl) (by kernel_rfl) ?_ ?_
   rotate_left
   ·(intro w; go_simp; try with_reducible rfl)
   try simp only [Act.put, tdy]
   refine timed_pure (i := 24) (v := ?_) rfl (by kernel_rfl) (by kernel_rfl) (by kernel_rfl) (fun _ _ _ h => h) (by kernel_rfl) (by kernel_rfl) ?_ ?_
   rotate_left
   ·(intro w; go_simp; try with_reducible rfl)
   try simp only [Act.put, tdy]
   refine timed_step (i := 25) (by kernel_rfl) rfl (fun K hK => ?_)
   have HV : w22.ownsRow w0.heap.size 43 3 (.slice (some ⟨gl, 0, none⟩) m.ps.length cL) xs.length (txC (xs.map txa)) := HRs2.all 0 _ rfl
   obtain ⟨c1, f1⟩ := own_cell HV (g := gl) rfl (j := i * 3 + 2) (u := .slice xZ xp.ops.length xd) (by rw [txC_get _ i (txa ⟨xp, xA, xc, xZ, xd⟩) (by rw [List.getElem?_map, HX.out.1]; rfl) 2 (by omega)]; rfl)
   have l1 := own_lt HV (g := gl) (by simp [Value.ownBlock])
   go_simp
   have OWs3 := OWs2.put (p := ⟨gl, i * 3 + 2, none⟩) (fun _ => ownB_mem.2 ⟨0, _, rfl, rfl⟩) (.slice A22 (xp.ops.length + 1) c22)
   have HRs3 := HRs2.cell (i := 0) (g := gl) (j := i * 3 + 2) rfl rfl (by show i * 3 + 2 < (txC (xs.map txa)).length; rw [txC_len, List.length_map, HL3.out]; omega) (.slice A22 (xp.ops.length + 1) c22) rfl
   clear HV c1 f1 l1 OWs2 HRs2
   generalize (w22.setCell ⟨gl, i * 3 + 2, none⟩ (.slice A22 (xp.ops.length + 1) c22)) = ws3 at *
   refine hK.out _ _ (timed_over (by kernel_rfl) (timed_holds (OWs3) (timed_nil))) ?_
   clear hK K
   try simp only [Act.put, tdy]
   refine timed_done (by kernel_rfl) ?_ _
   refine NoPanic.normal ?_
   obtain ⟨x1, hx1⟩ : ∃ x1 : PtA, x1 = ⟨{ xp with ops := xp.ops ++ [⟨bk, 0, avk, avn⟩] }, xA, xc, A22, c22⟩ := ⟨_, rfl⟩
   have HR20 : Hid (ORs ws3 w0.heap.size (wL (.slice (some ⟨gl, 0, none⟩) m.ps.length cL) VN (.slice (some ⟨gk, 0, none⟩) m.ps.length cK) VI VO (xs.set i x1))) := Lib.hid (by
    have h1 := HRs3
    rw [show opC xp.ops ++ [Value.bool bk, .int .i64 0, .int .i64 avk, .int .i64 avn] = opC (xp.ops ++ [⟨bk, 0, avk, avn⟩]) by rw [opC_append]; rfl] at h1
    have h2 := wL_ops (VL := .slice (some ⟨gl, 0, none⟩) m.ps.length cL) (VN := VN) (VK := .slice (some ⟨gk, 0, none⟩) m.ps.length cK) (VI := VI) (VO := VO) (y := x1) HX.out.1 (by rw [hx1]) (by rw [hx1]) (by rw [hx1]) (by rw [hx1]) (by rw [hx1]) (by rw [hx1])
    rw [← h2, hx1]
    simp only [List.length_append, List.length_cons, List.length_nil, Nat.zero_add, oRow] at h1 ⊢
    exact h1)
   have HB20 := Lib.hid (OWs3.blk HB18.out HG3.out)
   have HE20 := Lib.hid (OWs3.blk HE18.out HGE3.out)
   have HO20 := Lib.hid (HO18.out.step OWs3 (fun j hj hl => by have := (HR18.out.ge j hj).1; omega))
   have hb20 : w0.heap.size ≤ ws3.heap.size := HO20.out.size
   have HX1 : Hid ((xs.set i x1)[i]? = some x1) := Lib.hid (List.getElem?_set_self (by rw [HL3.out]; exact hin))
   have HL20 : Hid ((xs.set i x1).length = m.ps.length) := Lib.hid (by rw [List.length_set]; exact HL3.out)
   have HXP : Hid (x1.p.ks = xp.ks ∧ x1.A = xA ∧ x1.c = xc ∧ x1.p = { xp with ops := xp.ops ++ [⟨bk, 0, avk, avn⟩] }) := Lib.hid (by rw [hx1]; exact ⟨rfl, rfl, rfl, rfl⟩)
   have HSS : Hid (∀ y, (xs.set i x1).set i y = xs.set i y) := Lib.hid (fun y => by rw [List.set_set])
   have HPS : Hid (∀ y : PtA, y.p = addP xp ⟨ak, sn, ay, avk, avn, aln⟩ → (xs.set i y).map PtA.p = m.ps.set i (addP xp ⟨ak, sn, ay, avk, avn, aln⟩)) := Lib.hid (fun y hy => by rw [List.map_set, HPT.out, hy])
   clear HRs3 OWs3 HB18 HE18 HO18 hb18 HR18 HZ18 hx1 HX HG3 HGE3 HL3
   generalize xs.set i x1 = xs1 at *
   clear hk3
   have HG20 := Lib.hid (gw_apart HR20.out HB20.out (ne_list (by decide : (43 : TypeId) ≠ 91) (by decide : (9 : TypeId) ≠ 91) (by decide : (22 : TypeId) ≠ 91) (by decide : (3 : TypeId) ≠ 91) (by decide : (4 : TypeId) ≠ 91) (by decide : (9 : TypeId) ≠ 91) (by decide : (50 : TypeId) ≠ 91)))
   have HGE20 := Lib.hid (gw_apart HR20.out HE20.out (ne_list (by decide : (43 : TypeId) ≠ 47) (by decide : (9 : TypeId) ≠ 47) (by decide : (22 : TypeId) ≠ 47) (by decide : (3 : TypeId) ≠ 47) (by decide : (4 : TypeId) ≠ 47) (by decide : (9 : TypeId) ≠ 47) (by decide : (50 : TypeId) ≠ 47)))
   have HZ20 : Hid (ws3.cell? ⟨gk, i, none⟩ = some (.slice xA xp.ks.length xc) ∧ gk < ws3.heap.size) := Lib.hid (by
    have HV : ws3.ownsRow w0.heap.size 22 1 (.slice (some ⟨gk, 0, none⟩) m.ps.length cK) xs1.length ((rowK (.slice (some ⟨gk, 0, none⟩) m.ps.length cK) xs1).xs) := HR20.out.all 2 _ rfl
    exact ⟨(own_cell HV (g := gk) rfl (j := i) (u := .slice xA xp.ks.length xc) (by show (xs1.map _)[i]? = _; rw [List.getElem?_map, HX1.out]; simp [HXP.out.1, HXP.out.2.1, HXP.out.2.2.1])).1, own_lt HV (g := gk) (by simp [Value.ownBlock])⟩)
   go_upto_region 20 with (fail)
   refine wp_region_noPanic ?_
   refine wp_region_timed (F := [⟨[], [15], fun w' => Only [] ws3 w'⟩, ⟨[], [], fun w' => Only (ownB (wL (.slice (some ⟨gl, 0, none⟩) m.ps.length cL) VN (.slice (some ⟨gk, 0, none⟩) m.ps.length cK) VI VO xs1)) ws3 w'⟩]) (by kernel_rfl) (timed_holds ((Only.refl [] ws3).drew) (timed_holds ((Only.refl _ ws3).drew) (timed_nil))) ?_
   have OXt0 : Only [] ws3 ws3.drew := (Only.refl [] ws3).drew
   have OWt0 : Only (ownB (wL (.slice (some ⟨gl, 0, none⟩) m.ps.length cL) VN (.slice (some ⟨gk, 0, none⟩) m.ps.length cK) VI VO xs1)) ws3 ws3.drew := (Only.refl _ ws3).drew
   have HRt0 : ORs ws3.drew w0.heap.size (wL (.slice (some ⟨gl, 0, none⟩) m.ps.length cL) VN (.slice (some ⟨gk, 0, none⟩) m.ps.length cK) VI VO xs1) := HR20.out.same ((Only.refl [] ws3).drew)
   generalize hwz : ws3.drew = wt0 at *
   clear hwz
   refine timed_pure (i := 0) (v := ?_) rfl (by kernel_rfl) (by kernel_rfl) (by kernel_rfl) (fun _ _ _ h => h) (by kernel_rfl) (by kernel_rfl) ?_ ?_
   rotate_left
   ·(intro w; go_simp; try with_reducible rfl)
   try simp only [Act.put, tdy]
   refine timed_pure (i := 1) (v := ?_) rfl (by kernel_rfl) (by kernel_rfl) (by kernel_rfl) (fun _ _ _ h => h) (by kernel_rfl) (by kernel_rfl) ?_ ?_
   rotate_left
   ·(intro w; go_simp; try with_reducible rfl)
   try simp only [Act.put, tdy]
   refine timed_pure (i := 2) (v := ?_) rfl (by kernel_rfl) (by kernel_rfl) (by kernel_rfl) (fun _ _ _ h => h) (by kernel_rfl) (by kernel_rfl) ?_ ?_
   rotate_left
   ·(intro w; go_simp; try with_reducible rfl)
   try simp only [Act.put, tdy]
   refine timed_read (i := 3) (v := ?_) 1 rfl (by kernel_rfl) (by kernel_rfl) (by kernel_rfl) (fun _ _ _ h => h) (by kernel_rfl) (by kernel_rfl) rfl (by kernel_rfl) ?_ ?_
   rotate_left
   ·(intro wq hSw; (try dsimp only at hSw); have hb := hSw.blk HB20.out HG20.out; have lb := hb.lt; have b4 := hb.at_ 4; simp at b4; clear hb; clear hSw; go_simp; try with_reducible rfl)
   try simp only [Act.put, tdy]
   refine timed_pure (i := 4) (v := ?_) rfl (by kernel_rfl) (by kernel_rfl) (by kernel_rfl) (fun _ _ _ h => h) (by kernel_rfl) (by kernel_rfl) ?_ ?_
   rotate_left
   ·(intro w; go_simp; try with_reducible rfl)
   try simp only [Act.put, tdy]
   refine timed_pure (i := 5) (v := ?_) rfl (by kernel_rfl) (by kernel_rfl) (by kernel_rfl) (fun _ _ _ h => h) (by kernel_rfl) (by kernel_rfl) ?_ ?_
   rotate_left
   ·(intro w; go_simp; try with_reducible rfl)
   try simp only [Act.put, tdy]
   refine timed_pure (i := 6) (v := ?_) rfl (by kernel_rfl) (by kernel_rfl) (by kernel_rfl) (fun _ _ _ h => h) (by kernel_rfl) (by kernel_rfl) ?_ ?_
   rotate_left
   ·(intro w; go_simp; try with_reducible rfl)
   try simp only [Act.put, tdy]
   refine timed_pure (i := 7) (v := ?_) rfl (by kernel_rfl) (by kernel_rfl) (by kernel_rfl) (fun _ _ _ h => h) (by kernel_rfl) (by kernel_rfl) ?_ ?_
   rotate_left
   ·(intro w; go_simp; try with_reducible rfl)
   try simp only [Act.put, tdy]
   refine timed_read (i := 8) (v := ?_) 1 rfl (by kernel_rfl) (by kernel_rfl) (by kernel_rfl) (fun _ _ _ h => h) (by kernel_rfl) (by kernel_rfl) rfl (by kernel_rfl) ?_ ?_
   rotate_left
   ·(intro wq hSw; (try dsimp only at hSw); have hb := hSw.blk HB20.out HG20.out; have lb := hb.lt; have b4 := hb.at_ 4; simp at b4; clear hb; clear hSw; go_simp; try with_reducible rfl)
   try simp only [Act.put, tdy]
   refine timed_pure (i := 9) (v := ?_) rfl (by kernel_rfl) (by kernel_rfl) (by kernel_rfl) (fun _ _ _ h => h) (by kernel_rfl) (by kernel_rfl) ?_ ?_
   rotate_left
   ·(intro w; go_simp; try with_reducible rfl)
   try simp only [Act.put, tdy]
   refine timed_pure (i := 10) (v := ?_) rfl (by kernel_rfl) (by kernel_rfl) (by kernel_rfl) (fun _ _ _ h => h) (by kernel_rfl) (by kernel_rfl) ?_ ?_
   rotate_left
   ·(intro w; go_simp; try with_reducible rfl)
   try simp only [Act.put, tdy]
   refine timed_read (i := 11) (v := ?_) 0 rfl (by kernel_rfl) (by kernel_rfl) (by kernel_rfl) (fun _ _ _ h => h) (by kernel_rfl) (by kernel_rfl) rfl (by kernel_rfl) ?_ ?_
   rotate_left
   ·(intro wq hSw; (try dsimp only at hSw); have zc := (hSw.cell (p := ⟨gk, i, none⟩) HZ20.out.2 (by simp)).trans HZ20.out.1; have zl := Nat.lt_of_lt_of_le HZ20.out.2 hSw.size; clear hSw; go_simp; try with_reducible rfl)
   try simp only [Act.put, tdy]
   refine timed_pure (i := 12) (v := ?_) rfl (by kernel_rfl) (by kernel_rfl) (by kernel_rfl) (fun _ _ _ h => h) (by kernel_rfl) (by kernel_rfl) ?_ ?_
   rotate_left
   ·(intro w; go_simp; try with_reducible rfl)
   try simp only [Act.put, tdy]
   refine timed_read (i := 13) (v := ?_) 1 rfl (by kernel_rfl) (by kernel_rfl) (by kernel_rfl) (fun _ _ _ h => h) (by kernel_rfl) (by kernel_rfl) rfl (by kernel_rfl) ?_ ?_
   rotate_left
   ·(intro wq hSw; (try dsimp only at hSw); have he := hSw.blk HE20.out HGE20.out; have le := he.lt; have e2 := he.at_ 2; simp at e2; clear he; clear hSw; go_simp; try with_reducible rfl)
   try simp only [Act.put, tdy]
   refine timed_step (i := 14) (by kernel_rfl) rfl (fun K hK => ?_)
   go_simp
   have BL := Blk.made wt0 9 #[.string ay]
   have OXt1 := OXt0.alloc (.cells #[.string ay] 9)
   have OWt1 := OWt0.alloc (.cells #[.string ay] 9)
   have HRt1 := HRt0.same ((Only.refl [] wt0).alloc (.cells #[.string ay] 9))
   clear OXt0 OWt0 HRt0
   obtain ⟨wt1, hw1⟩ : ∃ w1 : World, w1 = wt0.alloc (.cells #[.string ay] 9) := ⟨_, rfl⟩
   obtain ⟨gb, hgb⟩ : ∃ g : Nat, g = wt0.heap.size := ⟨_, rfl⟩
   rw [← hw1] at BL OXt1 OWt1 HRt1 ⊢
   rw [← hgb] at BL ⊢
   refine hK.out _ _ (timed_holds (OXt1) (timed_holds (OWt1) (timed_nil))) ?_
   clear hK K
   try simp only [Act.put, tdy]
   refine timed_step (i := 15) (by kernel_rfl) rfl (fun K hK => ?_)
   have HIX : (wL (.slice (some ⟨gl, 0, none⟩) m.ps.length cL) VN (.slice (some ⟨gk, 0, none⟩) m.ps.length cK) VI VO xs1)[i * 2 + 5]? = some (kRow x1) := (two_k xs1 i _ HX1.out).1
   have HV : wt1.ownsRow w0.heap.size 9 1 (.slice xA xp.ks.length xc) xp.ks.length (strs xp.ks) := (by have h1 := HRt1.all _ _ HIX; unfold kRow at h1; rw [HXP.out.1, HXP.out.2.1, HXP.out.2.2.1] at h1; exact h1)
   have hszs : w0.heap.size ≤ wt1.heap.size := Nat.le_trans hb20 OXt1.size
   have hkl := HKL.out
   refine step_append_row _ rfl (.tmp 172) (.tmp 175) 22 rfl w0.heap.size 9 is_ _ 1 16 Tryz.underlying22 his his0 his1 his2 rfl (by omega) _ xp.ks.length (strs xp.ks) (by rfl) (HV) _ _ 1 1 ([.string ay]) (by rfl) (by rfl) (BL.row) (by intro u hu; simp at hu; subst hu; rfl) (by unfold maxLen; omega) (by omega) (by omega) ?_
   intro y15 w15 hown hgrow hat
   have hob : (kRow x1).v.ownBlock = (Value.slice xA xp.ks.length xc).ownBlock := by unfold kRow; rw [HXP.out.1, HXP.out.2.1, HXP.out.2.2.1]
   have OWt2 := OWt1.step (only_grown hgrow) (fun j hj _ => ownB_mem.2 ⟨_, _, HIX, (by rw [hob]; simpa using hj)⟩)
   have HRt2 : ORs w15 w0.heap.size ((wL (.slice (some ⟨gl, 0, none⟩) m.ps.length cL) VN (.slice (some ⟨gk, 0, none⟩) m.ps.length cK) VI VO xs1).set (i * 2 + 5) (⟨9, 1, y15, xp.ks.length + 1, strs xp.ks ++ [Value.string ay]⟩ : OR)) := HRt1.upd (r' := (⟨9, 1, y15, xp.ks.length + 1, strs xp.ks ++ [Value.string ay]⟩ : OR)) HIX (by rw [hob]; exact only_grown hgrow) hown (by rw [hob]; exact hat.imp id (fun e g hg => by rw [e] at hg; have := Option.some.inj hg; omega))
   obtain ⟨A15, c15, rfl, -, -, -, -⟩ := own_row hown
   clear HIX HV BL OWt1 HRt1 hown hgrow hat hw1 hgb hkl
   refine hK.out _ _ (timed_over (by kernel_rfl) (timed_holds (OWt2) (timed_nil))) ?_
   clear hK K
   try simp only [Act.put, tdy]
   refine timed_pure (i := 16) (v := ?_) rfl (by kernel_rfl) (by kernel_rfl) (by kernel_rfl) (fun _ _ _ h => h) (by kernel_rfl) (by kernel_rfl) ?_ ?_
   rotate_left
   ·(intro w; go_simp; try with_reducible rfl)
   try simp only [Act.put, tdy]
   refine timed_step (i := 17) (by kernel_rfl) rfl (fun K hK => ?_)
   have HV : w15.ownsRow w0.heap.size 22 1 (.slice (some ⟨gk, 0, none⟩) m.ps.length cK) xs1.length ((rowK (.slice (some ⟨gk, 0, none⟩) m.ps.length cK) xs1).xs) := HRt2.all 2 _ rfl
   obtain ⟨c1, f1⟩ := own_cell HV (g := gk) rfl (j := i) (u := .slice xA xp.ks.length xc) (by show (xs1.map _)[i]? = _; rw [List.getElem?_map, HX1.out]; simp [HXP.out.1, HXP.out.2.1, HXP.out.2.2.1])
   have l1 := own_lt HV (g := gk) (by simp [Value.ownBlock])
   go_simp
   have OWt3 := OWt2.put (p := ⟨gk, i, none⟩) (fun _ => ownB_mem.2 ⟨2, _, rfl, rfl⟩) (.slice A15 (xp.ks.length + 1) c15)
   have HRt3 := HRt2.cell (i := 2) (g := gk) (j := i) rfl rfl (by show i < (xs1.map _).length; rw [List.length_map, HL20.out]; exact hin) (.slice A15 (xp.ks.length + 1) c15) rfl
   clear HV c1 f1 l1 OWt2 HRt2
   generalize (w15.setCell ⟨gk, i, none⟩ (.slice A15 (xp.ks.length + 1) c15)) = wt3 at *
   refine hK.out _ _ (timed_over (by kernel_rfl) (timed_holds (OWt3) (timed_nil))) ?_
   clear hK K
   try simp only [Act.put, tdy]
   refine timed_done (by kernel_rfl) ?_ _
   refine NoPanic.normal ?_
   obtain ⟨x2, hx2⟩ : ∃ x2 : PtA, x2 = ⟨addP xp ⟨ak, sn, ay, avk, avn, aln⟩, A15, c15, x1.Z, x1.d⟩ := ⟨_, rfl⟩
   have hp1 := HXP.out.2.2.2
   have hao : x2.p.ops = x1.p.ops := by rw [hx2, hp1]; show xp.ops ++ [⟨decide (ak = 3), 0, avk, avn⟩] = xp.ops ++ [⟨bk, 0, avk, avn⟩]; rw [HBK.out]
   have HFIN : WAt wt3 w0.heap.size gw (m.ps.set i (addP xp ⟨ak, sn, ay, avk, avn, aln⟩)) (.slice (some ⟨gl, 0, none⟩) m.ps.length cL) VN (.slice (some ⟨gk, 0, none⟩) m.ps.length cK) VI VO (xs.set i x2) := by
    refine ⟨OWt3.blk HB20.out HG20.out, HGW.out, HPS.out x2 (by rw [hx2]), ?_⟩
    have h1 := HRt3
    rw [show strs xp.ks ++ [Value.string ay] = strs (xp.ks ++ [ay]) by simp [strs]] at h1
    have h2 := wL_ks (VL := .slice (some ⟨gl, 0, none⟩) m.ps.length cL) (VN := VN) (VK := .slice (some ⟨gk, 0, none⟩) m.ps.length cK) (VI := VI) (VO := VO) (y := x2) HX1.out (by rw [hx2, hp1]; rfl) (by rw [hx2, hp1]; rfl) (by rw [hx2, hp1]; rfl) (by rw [hx2]) hao (by rw [hx2])
    rw [HSS.out] at h2
    rw [← h2, hx2]
    simp only [addP, List.length_append, List.length_cons, List.length_nil, Nat.zero_add, kRow] at h1 ⊢
    exact h1
   have HFF := Lib.hid (And.intro (HO20.out.step OWt3 (fun j hj hl => by have := (HR20.out.ge j hj).1; omega)) HFIN)
   clear HFIN OWt3 HRt3
   go_wp2
   go_ret
   exact ⟨by rw [HF.out.1]; rfl, HFF.out.1, _, _, _, _, _, _, by rw [HF.out.2]; exact HFF.out.2⟩
end Go.Proofs.YthaeomdpaadilaaGreatDoor
