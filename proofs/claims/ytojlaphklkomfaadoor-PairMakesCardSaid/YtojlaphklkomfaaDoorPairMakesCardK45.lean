/- Parts. -/
import Derived.Test.YtojlaphklkomfaaDoorPairMakesCardK40
import Derived.Test.YtojlaphklkomfaaDoorPairMakesCardK44
set_option maxRecDepth 10000
set_option maxHeartbeats 16000000
set_option linter.unusedVariables false
set_option linter.unusedSimpArgs false
namespace Go.Proofs.YtojlaphklkomfaaDoor
open Go.RowKit
open Go.Lib hiding intOf
attribute [local go_sem ↓] Go.wp_at_zero Go.wp_at_succ
theorem OR.ok.lt5 {w : World} {base g : Nat} {r : OR} (h : r.ok w base) (hg : r.v.ownBlock = some g) : base ≤ g ∧ g < w.heap.size := World.ownsRow.lt h g hg
theorem ORs.fresh {w w' : World} {base : Nat} {L : List OR} {r : OR} (h : ORs w base L) (O : Only [] w w') (hr : r.ok w' w.heap.size) (hb : base ≤ w.heap.size) : ORs w' base (r :: L) := by
 have hs := h.same O;refine ⟨fun i s hi => ?_, fun i j s t hi hj hij g hg htg => ?_⟩
 ·cases i with
  | zero =>
   simp at hi;subst hi;exact own_lower hr hb
  | succ i => exact hs.all i s (by simpa using hi)
 ·cases i with
  | zero =>
   simp at hi;subst hi
   cases j with
   | zero => exact hij rfl
   | succ j =>
    have h1 := (hr.lt g hg).1;have h2 := (h.all j t (by simpa using hj)).lt g htg;omega
  | succ i =>
   cases j with
   | zero =>
    simp at hj;subst hj;have h1 := (hr.lt g htg).1;have h2 := (h.all i s (by simpa using hi)).lt g hg;omega
   | succ j => exact hs.ap i j s t (by simpa using hi) (by simpa using hj) (by omega) g hg htg
def hL (S K : OR) (VL VN VK VI VO : Value) (ts : List TxA) (xs : List PtA) : List OR := K :: S :: ⟨38, 3, VL, xs.length, txC ts⟩ :: rowN VN xs :: rowK VK xs :: rowI VI xs :: rowO VO xs :: xs.flatMap two
def sesA (m : Mk) (x : PtA) : TxA := ⟨txOf m x.p, x.Z, x.d⟩
def opsA (x : PtA) (l : List Op4) : PtA := { x with p := { x.p with ops := l } }
theorem hL_ts {S K : OR} {VL VN VK VI VO : Value} {ts : List TxA} {xs : List PtA} {i j : Nat} {x y : TxA} {u : Value} (hx : ts[i]? = some x) (hj : j < 3) (h : y.c = x.c.set j u) :
  (hL S K VL VN VK VI VO ts xs).set 2 ⟨38, 3, VL, xs.length, (txC ts).set (i * 3 + j) u⟩ = hL S K VL VN VK VI VO (ts.set i y) xs := by
 have := flat_set TxA.c 3 (fun _ => rfl) ts i j x y u hx hj h;unfold hL
 show _ :: _ :: _ :: _ = _
 rw [show (txC ts).set (i * 3 + j) u = txC (ts.set i y) from this]
theorem hL_ops {S K : OR} {VL VN VK VI VO : Value} {ts : List TxA} {xs : List PtA} {i : Nat} {x : PtA} {l : List Op4} (hx : xs[i]? = some x) (hl : l.length = x.p.ops.length) :
  (hL S K VL VN VK VI VO ts xs).set (i * 2 + 1 + 7) (oRow (opsA x l)) = hL S K VL VN VK VI VO ts (xs.set i (opsA x l)) := by
 have e1 : (xs.set i (opsA x l)).map (fun x => x.p.s) = xs.map (fun x => x.p.s) := map_set_same hx rfl;have e2 : (xs.set i (opsA x l)).map (fun x : PtA => Value.slice x.A x.p.ks.length x.c) = xs.map (fun x => Value.slice x.A x.p.ks.length x.c) := map_set_same hx rfl;have e3 : (xs.set i (opsA x l)).map (fun x : PtA => Value.int .i64 x.p.ln) = xs.map (fun x => Value.int .i64 x.p.ln) := map_set_same hx rfl;have e4 : (xs.set i (opsA x l)).map (fun x : PtA => Value.bool (decide (x.p.f = 0))) = xs.map (fun x => Value.bool (decide (x.p.f = 0))) := map_set_same hx rfl;have e5 := two_seto xs i x (opsA x l) hx rfl;unfold hL rowN rowK rowI rowO;rw [e1, e2, e3, e4, ← e5, List.length_set]
 rfl
theorem pos_in {m : Mk} (hI : MInv m) {p : Pt} {z : ByteArray} (hp : p ∈ m.ps) (hz : z ∈ p.ks) (hn : isName z = true) : 0 ≤ posB m.ks z := by
 rw [hI.ks];refine (posB_mem (tab_sort _)).2 (((sortB_names _).2 z).2 ⟨List.mem_flatMap.2 ⟨p, hp, hz⟩, hn⟩)
def KNam (m : Mk) : Prop := ∀ p ∈ m.ps, ∀ z ∈ p.ks, isName z = true
theorem evOk_key {k : Int} {s y : ByteArray} {vk vn : Int} (h : evOk k s y vk vn = true) (hk : k = 2 ∨ k = 3) : isName y = true := by
 unfold evOk at h;have hko : kO k = true := by
  rcases hk with rfl | rfl <;> rfl
 rw [if_pos hko] at h;simp only [Bool.and_eq_true] at h;exact h.2.2.1
theorem knam_take {m : Mk} (h : KNam m) (a : Ev6) : KNam (takeM m a) := by
 unfold takeM
 split
 ·exact h
 ·rename_i hev
  have hev : evOk a.k a.s a.y a.vk a.vn = true := by simpa using hev
  cases ho : openI m.ps a.s with
  | none =>
   dsimp only
   split
   ·unfold beginM
    split
    ·exact h
    ·intro p hp z hz;rcases List.mem_append.1 hp with hp | hp
     ·exact h p hp z hz
     ·simp at hp;subst hp;simp at hz
   ·exact h
  | some i =>
   dsimp only
   split
   ·exact h
   ·cases hp : m.ps[i]? with
    | none => exact h
    | some p =>
     have hpm := List.mem_of_getElem? hp;dsimp only
     split
     ·rename_i hk
      unfold addM
      split
      ·exact h
      ·intro q hq z hz;rcases mem_set_at hq with rfl | ⟨j, -, hj⟩
       ·rcases List.mem_append.1 hz with hz | hz
        ·exact h p hpm z hz
        ·simp at hz;subst hz;exact evOk_key hev hk
       ·exact h q (List.mem_of_getElem? hj) z hz
     ·intro q hq z hz;rcases mem_set_at hq with rfl | ⟨j, -, hj⟩
      ·exact h p hpm z hz
      ·exact h q (List.mem_of_getElem? hj) z hz
theorem knam_run : ∀ (l : List Ev6) (m : Mk), KNam m → KNam (runM m l).1
 | [], m, h => h
 | a :: l, m, h => by
  unfold runM
  split
  ·exact knam_run l _ (knam_take h a)
  ·exact h
theorem keyed_some {m : Mk} {p : Pt} {k : Nat} {o : Op4} {z : ByteArray} (ho : p.ops[k]? = some o) (hz : p.ks[k]? = some z) (h0 : 0 ≤ posB m.ks z) : (keyed m p)[k]? = some { o with key := max (posB m.ks z) 0 } := by
 rw [keyed_at ho hz, show max (posB m.ks z) 0 = posB m.ks z by omega]
def tsA (m : Mk) (xs : List PtA) (i : Nat) : List TxA := (xs.map (sesA m)).take i ++ (xs.map txa).drop i
def xsA (m : Mk) (xs : List PtA) (i : Nat) : List PtA := (xs.map fun x => opsA x (keyed m x.p)).take i ++ xs.drop i
theorem tsA_at {m : Mk} {xs : List PtA} {i : Nat} {x : PtA} (hx : xs[i]? = some x) : (tsA m xs i)[i]? = some (txa x) := mix_at (by rw [List.getElem?_map, hx]; rfl) (by simp)
theorem tsA_set {m : Mk} {xs : List PtA} {i : Nat} {x : PtA} (hx : xs[i]? = some x) : (tsA m xs i).set i (sesA m x) = tsA m xs (i + 1) := mix_set (by rw [List.getElem?_map, hx]; rfl) (by rw [List.getElem?_map, hx]; rfl) (by simp)
theorem tsA_len {m : Mk} {xs : List PtA} {i : Nat} : (tsA m xs i).length = xs.length := by simp [tsA]; omega
theorem tsA_now {m : Mk} {xs : List PtA} {i : Nat} {x : PtA} (hx : xs[i]? = some x) : (tsA m xs (i + 1))[i]? = some (sesA m x) := by
 rw [← tsA_set hx, List.getElem?_set_self (by rw [tsA_len]; exact (List.getElem?_eq_some_iff.1 hx).1)]
theorem xsA_at {m : Mk} {xs : List PtA} {i : Nat} {x : PtA} (hx : xs[i]? = some x) : (xsA m xs i)[i]? = some x := mix_at hx (by simp)
theorem xsA_set {m : Mk} {xs : List PtA} {i : Nat} {x : PtA} (hx : xs[i]? = some x) : (xsA m xs i).set i (opsA x (keyed m x.p)) = xsA m xs (i + 1) := mix_set (by rw [List.getElem?_map, hx]; rfl) hx (by simp)
theorem xsA_len {m : Mk} {xs : List PtA} {i : Nat} : (xsA m xs i).length = xs.length := by simp [xsA]; omega
theorem set_same {α : Type} {l : List α} {i : Nat} {x : α} (h : l[i]? = some x) : l.set i x = l := by
 apply List.ext_getElem?
 intro j;rw [List.getElem?_set]
 by_cases hij : i = j
 ·subst hij;rw [if_pos rfl, if_pos (List.getElem?_eq_some_iff.1 h).1, h]
 ·rw [if_neg hij]
def opsQ (m : Mk) (x : PtA) (q : Nat) : List Op4 := (keyed m x.p).take q ++ x.p.ops.drop q
theorem own_first {w : World} {base : Nat} {e : TypeId} {sz n c m : Nat} {A : Option Addr} {xs : List Value} (h : w.ownsRow base e sz (.slice A n c) m xs) (hn : 0 < n) : ∃ g, A = some ⟨g, 0, none⟩ := by
 rcases h.2 with ⟨e, -⟩ | ⟨g, cap, cur, e, -⟩
 ·injection e with e1 e2;omega
 ·injection e with e1 e2;exact ⟨g, e1⟩
theorem opsQ_len {m : Mk} {x : PtA} {q : Nat} (h : x.p.ks.length = x.p.ops.length) : (opsQ m x q).length = x.p.ops.length := by
 unfold opsQ;rw [List.length_append, List.length_take, List.length_drop, keyed_len m x.p h];omega
theorem hL_key {S K : OR} {VL VN VK VI VO : Value} {ts : List TxA} {xs : List PtA} {m : Mk} {i q : Nat} {x : PtA} {o : Op4} {z : ByteArray} (hi : i < xs.length) (hk : x.p.ks.length = x.p.ops.length) (ho : x.p.ops[q]? = some o) (hz : x.p.ks[q]? = some z) (h0 : 0 ≤ posB m.ks z) :
  (hL S K VL VN VK VI VO ts (xs.set i (opsA x (opsQ m x q)))).set (i * 2 + 1 + 7) ⟨62, 4, .slice x.Z x.p.ops.length x.d, x.p.ops.length, (opC (opsQ m x q)).set (q * 4 + 1) (.int .i64 (max (posB m.ks z) 0))⟩ = hL S K VL VN VK VI VO ts (xs.set i (opsA x (opsQ m x (q + 1)))) := by
 have h1 := hL_ops (S := S) (K := K) (VL := VL) (VN := VN) (VK := VK) (VI := VI) (VO := VO) (ts := ts) (xs := xs.set i (opsA x (opsQ m x q))) (i := i) (x := opsA x (opsQ m x q)) (l := opsQ m x (q + 1)) (List.getElem?_set_self hi) (by rw [opsQ_len hk]; exact (opsQ_len hk).symm);rw [List.set_set] at h1;have h2 : (opC (opsQ m x q)).set (q * 4 + 1) (.int .i64 (max (posB m.ks z) 0)) = opC (opsQ m x (q + 1)) := by
  have := flat_set Op4.c 4 (fun _ => rfl) (opsQ m x q) q 1 o { o with key := max (posB m.ks z) 0 } (.int .i64 (max (posB m.ks z) 0)) (mix_at ho (keyed_len m x.p hk)) (by omega) rfl;rw [show (opC (opsQ m x q)).set (q * 4 + 1) (.int .i64 (max (posB m.ks z) 0)) = _ from this]
  congr 1
  exact mix_set (keyed_some ho hz h0) ho (keyed_len m x.p hk)
 rw [h2];have h3 : oRow (opsA (opsA x (opsQ m x q)) (opsQ m x (q + 1))) = ⟨62, 4, .slice x.Z x.p.ops.length x.d, x.p.ops.length, opC (opsQ m x (q + 1))⟩ := by
  show (⟨_, _, .slice x.Z (opsQ m x (q + 1)).length x.d, (opsQ m x (q + 1)).length, _⟩ : OR) = _
  rw [opsQ_len hk]
  rfl
 rw [h3] at h1;exact h1
theorem hist_hat {w : World} {base cS cK cL k : Nat} {m : Mk} {AS AK AL : Option Addr} {VN VK VI VO : Value} {xs : List PtA} (h : ORs w base (hL ⟨9, 1, .slice AS m.ss.length cS, m.ss.length, strs m.ss⟩ ⟨9, 1, .slice AK m.ks.length cK, m.ks.length, strs m.ks⟩ (.slice AL k cL) VN VK VI VO (tsA m xs k) (xsA m xs k)))
  (hk : xs.length = k) (hp : xs.map PtA.p = m.ps) (hl : ∀ p ∈ m.ps, p.ks.length = p.ops.length) : HAt w w.heap.size AS AK AL (histOf m) := by
 have et : tsA m xs k = xs.map (sesA m) := by
  unfold tsA;rw [List.take_of_length_le (by rw [List.length_map]; omega), List.drop_of_length_le (by rw [List.length_map]; omega), List.append_nil]
 have ex : xsA m xs k = xs.map fun x => opsA x (keyed m x.p) := by
  unfold xsA;rw [List.take_of_length_le (by rw [List.length_map]; omega), List.drop_of_length_le (by omega), List.append_nil]
 rw [et, ex] at h;have h1 : OR.ok w base (⟨9, 1, .slice AS m.ss.length cS, m.ss.length, strs m.ss⟩ : OR) := h.all 1 _ rfl;have h0 : OR.ok w base (⟨9, 1, .slice AK m.ks.length cK, m.ks.length, strs m.ks⟩ : OR) := h.all 0 _ rfl;have h2 : OR.ok w base (⟨38, 3, .slice AL k cL, k, txC (xs.map (sesA m))⟩ : OR) := by
  have := h.all 2 _ rfl;rw [List.length_map, hk] at this;exact this
 refine ⟨own_row_at5 h1, own_row_at5 h0, ⟨xs.map (sesA m), ?_, own_row_at5 h2, fun y hy => ?_⟩⟩
 ·show _ = m.ps.map (txOf m)
  rw [← hp, List.map_map, List.map_map]
  rfl
 ·obtain ⟨x, hx, rfl⟩ := List.mem_map.1 hy;obtain ⟨j, hj⟩ := List.mem_iff_getElem?.1 hx;have hz := (two_k (xs.map fun x => opsA x (keyed m x.p)) j (opsA x (keyed m x.p)) (by rw [List.getElem?_map, hj]; rfl)).2;have h3 : OR.ok w base (oRow (opsA x (keyed m x.p))) := h.all (j * 2 + 1 + 7) _ hz;obtain ⟨g1, g2, g3⟩ := own_row_at6 h3;exact ⟨g1, g2, g3⟩
theorem hist_end {l : List Ev6} (h : (runM mk0 l).2.2 ≠ 0) : pairH l = ⟨[], [], []⟩ ∧ pairL l = (runM mk0 l).2.1 ∧ pairE l = (runM mk0 l).2.2 := by
 have hf : followR l = runM mk0 l := by unfold followR; rw [if_neg h]
 have he : pairE l = (runM mk0 l).2.2 := by unfold pairE; rw [hf]
 refine ⟨?_, by unfold pairL; rw [hf], he⟩;unfold pairH;rw [if_neg (by rw [he]; exact h)]
theorem hist_open {l : List Ev6} {ln : Int} (h : (runM mk0 l).2.2 = 0) (he : endE (runM mk0 l).1 = (ln, 12)) : pairH l = ⟨[], [], []⟩ ∧ pairL l = ln ∧ pairE l = 12 := by
 have hf : followR l = ((runM mk0 l).1, ln, 12) := by unfold followR; rw [if_pos h, he]
 have he : pairE l = 12 := by unfold pairE; rw [hf]
 refine ⟨?_, by unfold pairL; rw [hf], he⟩;unfold pairH;rw [if_neg (by rw [he]; decide)]
theorem hist_fine {l : List Ev6} (h : (runM mk0 l).2.2 = 0) (he : endE (runM mk0 l).1 = (0, 0)) : pairH l = histOf (runM mk0 l).1 ∧ pairL l = 0 ∧ pairE l = 0 := by
 have hf : followR l = ((runM mk0 l).1, 0, 0) := by unfold followR; rw [if_pos h, he]
 have he : pairE l = 0 := by unfold pairE; rw [hf]
 refine ⟨?_, by unfold pairL; rw [hf], he⟩;unfold pairH;rw [if_pos he, hf]
def HistAll (l : List Ev6) (w : World) (e : Ending) (w' : World) : Prop :=
 ∃ B0 B1 B2 d0 d1 d2, (e = .returned (.tuple #[.agg #[.slice B0 (pairH l).ss.length d0, .slice B1 (pairH l).ks.length d1, .slice B2 (pairH l).l.length d2], .int .i64 (pairL l), .int .i64 (pairE l)]) ∧ HAt w' w'.heap.size B0 B1 B2 (pairH l)) ∧ Only [] w w'
set_option maxRecDepth 100000 in
theorem rhist_any (A : Option Addr) (n c : Nat) (l : List Ev6) (w : World) (hn : l.length = n) (hnm : n ≤ 100000) (hA : Row w w.heap.size A (logC l)) (hz : ∀ x ∈ l, x.s.size ≤ 65537 ∧ x.y.size ≤ 65537) :
  Calls Tryd.prog 8 #[.slice A n c] w (HistAll l w) := by
 have HR0 := Hd (Blk.made w 27 #[.slice none 0 0, .slice none 0 0, .slice none 0 0]);have HO1 := Hd ((Only.refl [] w).alloc (.cells #[.slice none 0 0, .slice none 0 0, .slice none 0 0] 27));have HPUT := Hd (rput_any A n c l _ hn hnm (row_up (hA.only HO1.out (by simp))) hz);have HKN := Hd (knam_run l mk0 (fun p hp => by simp [mk0] at hp));have HEND := Hd (@hist_end l);have HOPN := Hd (fun ln => @hist_open l ln);have HFIN := Hd (@hist_fine l);unfold PutAll at HPUT;unfold HistAll;generalize pairE l = pe at *;generalize pairL l = pl at *;generalize pairH l = ph at *;generalize runM mk0 l = fr at *;obtain ⟨m, rl, re⟩ := fr;dsimp only at HPUT HKN HEND HOPN HFIN;clear hn hnm hA hz;go_enter Tryd.func8, Tryd.ntmps8;go_wp2_with fail
 generalize (w.alloc (.cells #[.slice none 0 0, .slice none 0 0, .slice none 0 0] 27)) = w1 at *;generalize hgr : w.heap.size = gr at *;refine (HPUT.out).mono ?_;rintro e w2 ⟨gw, ps, VL, VN, VK, VI, VO, xs, rfl, O2, hW2, hp40, hok⟩;have HR2 := Hd (O2.blk HR0.out (by simp));have HO2 := Hd O2;have HW2 := Hd hW2;have HOK := Hd hok;have hgr1 := HR0.out.lt;clear O2 hW2 hok HPUT HR0
 by_cases he : re = 0
 ·subst he;obtain ⟨rfl, hB, hI⟩ := HOK.out rfl;have HB := Hd hB;have HI := Hd hI;have HFIN1 := Hd (HFIN.out rfl);have HOPN1 := Hd (fun ln => HOPN.out ln rfl);clear hB hI HOK HEND HFIN HOPN;obtain ⟨⟨AL, cL, rfl, -⟩, ⟨AN, cN, rfl, rN⟩, ⟨AK, cK, rfl, -⟩, ⟨AI, cI, rfl, rI⟩, ⟨AO, cO, rfl, rO⟩⟩ := HW2.out.vals;have HRN := Hd rN;have HRI := Hd rI;have HRO := Hd rO;have hb := HW2.out.blk;have y6 := hb.at_ 6;have y5 := hb.at_ 5;have lb := hb.lt;simp at y5 y6;obtain ⟨n, hnn⟩ : ∃ n, n = m.ps.length := ⟨_, rfl⟩;rw [← hnn] at y5 y6 hp40 HW2;have HN := Hd hnn;clear rN rI rO hb hnn;go_wp2_with fail
  go_loopw [8] (fun iv wr => ∃ k : Nat, iv = .int .i64 k ∧ k ≤ n ∧ wr = w2 ∧ Hid (∀ (j : Nat) q, j < k → m.ps[j]? = some q → q.f ≠ 0)) (fun iv _ => n - (intOf iv).toNat)
  case atStart => exact ⟨0, rfl, by omega, rfl, Hd (fun j q h => by omega)⟩
  case round =>
   obtain ⟨k, rfl, hk, rfl, hall⟩ := hrel
   by_cases hlt : k < n
   ·have h01 : (k : Int) < (n : Int) := by omega
    have hk0 : (0 : Int) ≤ (k : Int) := Int.natCast_nonneg _;have hwk : IntKind.i64.wrap ((k : Int) + 1) = (k : Int) + 1 := IntWalk.i64_in _ (by omega);obtain ⟨p, hp⟩ : ∃ p, m.ps[k]? = some p := ⟨_, List.getElem?_eq_getElem (by rw [← HN.out]; exact hlt)⟩;obtain ⟨b5, o5, rfl, -, l5, hc5⟩ := HRI.out.open_ (k := k) (by rw [List.length_map, ← HN.out]; exact hlt);obtain ⟨b6, o6, rfl, -, l6, hc6⟩ := HRO.out.open_ (k := k) (by rw [List.length_map, ← HN.out]; exact hlt);have z5 := hc5 k (.int .i64 p.ln) (by rw [List.getElem?_map, hp]; rfl);have z6 := hc6 k (.bool (decide (p.f = 0))) (by rw [List.getElem?_map, hp]; rfl);have HP := Hd hp;clear hp hc5 hc6
    by_cases hf : p.f = 0
    ·rw [decide_eq_true hf] at z6;have HH := Hd (HOPN1.out _ (endE_hit HP.out hf hall.out));have HZ5 := Hd z5;have hgw1 := HW2.out.gwb;have hge5 : w1.heap.size ≤ b5 := (OR.ok.lt5 (HW2.out.rows.all 3 _ rfl) rfl).1;clear hf;go_upto_region 8 with (fail)
     clear y5 y6 z5 z6;have RD0 := Hd fun wq (hSw : Only [gr] wr wq) => aI ((hSw.blk HW2.out.blk (by simp; omega)).lt) (aI ((hSw.blk HW2.out.blk (by simp; omega)).at_ 5) (aI ((hSw.cell (p := ⟨b5, o5 + k, none⟩) l5 (by simp; omega)).trans HZ5.out) (Nat.lt_of_lt_of_le l5 hSw.size)));refine rg1 [] [gr] wr ?_;have OA : Only [] wr wr.drew := (Only.refl [] wr).drew;have BA := OA.blk HR2.out (by simp);generalize hwz : wr.drew = wz at *;clear hwz;refine tQ 0 (h := tQ 1 (h := tQ 2 (h := tQ 3 (h := trq 4 0 RD0 (h := tQ 5 (h := tQ 6 (h := trq 7 0 RD0 (h := ?_))))))));refine tst (i := 8) fun K hK => ?_;refine wp_store_blk 27 (.tmp 2) (.tmp 38) rfl gr 27 _ #[.slice none 0 0, .slice none 0 0, .slice none 0 0] rfl rfl BA rfl (by kernel_rfl) (by kernel_rfl) ?_;intro w8 HB8 o8;have HN8 : Only [gr] wr w8 := (OA.wide (fun i hi => by cases hi)).trans o8;clear o8 OA BA;refine kOut hK (HN8) (h := ?_);clear hK K;refine tQ 9 (h := tQ 10 (h := ?_));refine tdn ?_;have HFF := Hd (And.intro HB8 HN8);clear HB8 HN8;go_wp2
     refine bodyPost_ret (results_row3 Tryd.results8 _ _ gr 27 #[.slice none 0 0, .slice none 0 0, .slice none 0 0] _ rfl HFF.out.1 Tryd.underlying27 rfl (by kernel_rfl)) rfl ?_;rw [HH.out.1, HH.out.2.1, HH.out.2.2];exact ⟨none, none, none, 0, 0, 0, ⟨rfl, ⟨.inl rfl, .inl rfl, LRow.nil⟩⟩, (HO1.out.trans HO2.out).step HFF.out.2 (fun i hi hl => by simp at hi; omega)⟩
    ·rw [decide_eq_false hf] at z6;have HF := Hd hf;clear hf;go_wp2
     go_roundw
     case rel =>
      refine ⟨k + 1, by go_num, by omega, by first | rfl | trivial, Hd (fun j q hj hq => ?_)⟩;rcases Nat.lt_or_ge j k with h2 | h2
      ·exact hall.out j q h2 hq
      ·have : j = k := by omega
       subst this;rw [HP.out] at hq;obtain rfl := Option.some.inj hq;exact HF.out
     case measure => simp [intOf]; omega
   ·have hkn : k = n := by omega
    subst hkn;have hd : decide ((k : Int) < (k : Int)) = false := by simp
    have HH := Hd (HFIN1.out (endE_miss (fun j q hq => hall.out j q (by rw [HN.out]; exact (List.getElem?_eq_some_iff.1 hq).1) hq)));clear HOPN1 HFIN1 hall;go_upto_region 9 with (fail)
    clear y5 y6;have HSN := Hd (rsorted_any AN k cN _ (m.ps.map Pt.s) wr (by rw [List.length_map]; exact HN.out.symm) (by omega) (fun z hz => by
     obtain ⟨p, hp, rfl⟩ := List.mem_map.1 hz;exact (HB.out.no p hp).2.2.1) HRN.out)
    have hb := HW2.out.blk;have lb := hb.lt;have y3 := hb.at_ 3;simp at y3;clear hb;go_wp2_with fail
    refine (HSN.out).mono ?_;rintro e w3 ⟨O3, VS, rfl, hS⟩;rw [← HI.out.ss] at hS;have HKY := Hd (rkeys_any _ gw m.ps _ _ _ _ _ xs w3 (by rw [HN.out] at HW2; exact HW2.out.same O3) (by rw [← HN.out]; exact hp40) (fun p hp => by have := HB.out.no p hp; rw [this.2.1]; exact this.1));obtain ⟨AS, cS, rfl, -, -, -, -⟩ := own_row hS;have HR3 := Hd (HW2.out.rows.fresh (r := ⟨9, 1, .slice AS m.ss.length cS, m.ss.length, strs m.ss⟩) O3 hS HO2.out.size);have HO3 := Hd O3;clear lb y3 hS O3 HSN;go_wp2_with fail
    refine (HKY.out).mono ?_;rintro e w4 ⟨O4, VF, rfl, hF⟩;obtain ⟨AF, cF, rfl, -, -, -, rF⟩ := own_row hF;have hle := flat_le (f := Pt.ks) (c := 20) m.ps (fun p hp => by have := HB.out.no p hp; rw [this.2.1]; exact this.1);have HSK := Hd (rsorted_any AF _ cF _ (m.ps.flatMap Pt.ks) w4 rfl (by rw [← HN.out] at hle; omega) (fun z hz => by
     obtain ⟨p, hp, hz⟩ := List.mem_flatMap.1 hz;exact (HB.out.no p hp).2.2.2 z hz) rF)
    have HR4 := Hd (HR3.out.same O4);have HO4 := Hd (HO3.out.trans O4);generalize (m.ps.flatMap Pt.ks).length = nf at *;clear hF rF hle O4 HR3 HO3 HKY;go_wp2_with fail
    refine (HSK.out).mono ?_;rintro e w5 ⟨O5, VK5, rfl, hK⟩;rw [← HI.out.ks] at hK;obtain ⟨AKS, cKS, rfl, -, -, -, -⟩ := own_row hK;have HR5 := Hd (HR4.out.fresh (r := ⟨9, 1, .slice AKS m.ks.length cKS, m.ks.length, strs m.ks⟩) O5 hK (by have := HO4.out.size; have := HO2.out.size; omega));have HO5 := Hd (HO4.out.trans O5);have HB5r := Hd (HO5.out.blk HR2.out (by simp));have HB5 := Hd (HO5.out.blk HW2.out.blk (by simp));have hb := HB5.out;have b0 := hb.at_ 0;have f0 := hb.free 0;have b1 := hb.at_ 1;have f1 := hb.free 1;have lb := hb.lt;simp at b0 b1;clear hK O5 HR4 HO4 HSK hb;go_upto_region 10 with (fail)
    obtain ⟨w6, hw6⟩ : ∃ w6 : World, w6 = (w5.setCell ⟨gw, 0, none⟩ (.slice AS m.ss.length cS)).setCell ⟨gw, 1, none⟩ (.slice AKS m.ks.length cKS) := ⟨_, rfl⟩;rw [← hw6];have HB6 : Hid (Blk w6 gw 56 #[.slice AS m.ss.length cS, .slice AKS m.ks.length cKS, .slice AL k cL, .slice AN k cN, .slice AK k cK, .slice AI k cI, .slice AO k cO]) := Hd (by rw [hw6]; have := (HB5.out.put 0 (.slice AS m.ss.length cS)).put 1 (.slice AKS m.ks.length cKS); simpa using this);have hog : Only [gw] w5 w6 := by rw [hw6]; exact ((Only.refl [gw] w5).put (p := ⟨gw, 0, none⟩) (fun _ => List.mem_cons_self ..) _).put (p := ⟨gw, 1, none⟩) (fun _ => List.mem_cons_self ..) _
    have hgn := gw_apart HR5.out HB5.out (fun r hr => by
     rcases List.mem_cons.1 hr with rfl | hr
     ·exact (by decide : (9 : TypeId) ≠ 56)
     ·rcases List.mem_cons.1 hr with rfl | hr
      ·exact (by decide : (9 : TypeId) ≠ 56)
      ·exact (ne_list (by decide : (38 : TypeId) ≠ 56) (by decide : (9 : TypeId) ≠ 56) (by decide : (24 : TypeId) ≠ 56) (by decide : (3 : TypeId) ≠ 56) (by decide : (4 : TypeId) ≠ 56) (by decide : (9 : TypeId) ≠ 56) (by decide : (62 : TypeId) ≠ 56)) r hr)
    have HR6 : Hid (ORs w6 w1.heap.size (hL (⟨9, 1, .slice AS m.ss.length cS, m.ss.length, strs m.ss⟩ : OR) (⟨9, 1, .slice AKS m.ks.length cKS, m.ks.length, strs m.ks⟩ : OR) (.slice AL k cL) (.slice AN k cN) (.slice AK k cK) (.slice AI k cI) (.slice AO k cO) (tsA m xs 0) (xsA m xs 0))) := Hd (HR5.out.only hog (fun g hg hm => by simp at hm; subst hm; exact hgn hg));have HXL : Hid (xs.length = k) := Hd (by rw [HW2.out.len, ← HN.out]);obtain ⟨SB, hSB⟩ : ∃ SB, SB = ownB (hL (⟨9, 1, .slice AS m.ss.length cS, m.ss.length, strs m.ss⟩ : OR) (⟨9, 1, .slice AKS m.ks.length cKS, m.ks.length, strs m.ks⟩ : OR) (.slice AL k cL) (.slice AN k cN) (.slice AK k cK) (.slice AI k cI) (.slice AO k cO) (tsA m xs 0) (xsA m xs 0)) := ⟨_, rfl⟩;have HGW : Hid (gw ∉ SB) := Hd (by rw [hSB]; exact hgn);have HGE : Hid (∀ g ∈ SB, w1.heap.size ≤ g) := Hd (fun g hg => by rw [hSB] at hg; exact (HR6.out.ge g hg).1);have HGL : Hid (∀ g, AL = some ⟨g, 0, none⟩ → g ∈ SB) := Hd (fun g hg => by rw [hSB]; exact ownB_mem.2 ⟨2, _, rfl, by show (Value.slice AL k cL).ownBlock = some g; rw [hg]; rfl⟩);have HGZ : Hid (∀ (j : Nat) (x : PtA) g, xs[j]? = some x → x.Z = some ⟨g, 0, none⟩ → g ∈ SB) := Hd (fun j x g hx hg => by
     rw [hSB];exact ownB_mem.2 ⟨j * 2 + 1 + 7, oRow x, (two_k xs j x hx).2, by unfold oRow; rw [hg]; rfl⟩)
    have HPX : Hid (∀ (j : Nat) x, xs[j]? = some x → m.ps[j]? = some x.p) := Hd (fun j x hx => by rw [← HW2.out.parts, List.getElem?_map, hx]; rfl);have HGWB := HW2.out.gwb;have HO6 := Hd (HO2.out.trans HO5.out);have HGO := Hd hog;have HMP := Hd HW2.out.parts;clear b0 b1 f0 f1 lb HB5 HR5 hgn hog hw6 hSB HW2 HRN HRI HRO HO5;go_wp2_with fail
    go_loopw [9] (fun iv wr => ∃ i : Nat, iv = .int .i64 i ∧ i ≤ k ∧ Hid (ORs wr w1.heap.size (hL (⟨9, 1, .slice AS m.ss.length cS, m.ss.length, strs m.ss⟩ : OR) (⟨9, 1, .slice AKS m.ks.length cKS, m.ks.length, strs m.ks⟩ : OR) (.slice AL k cL) (.slice AN k cN) (.slice AK k cK) (.slice AI k cI) (.slice AO k cO) (tsA m xs i) (xsA m xs i))) ∧ Hid (Only SB w6 wr)) (fun iv _ => k - (intOf iv).toNat)
    case atStart => exact ⟨0, rfl, by omega, HR6, Hd (Only.refl _ _)⟩
    case round =>
     obtain ⟨i, rfl, hi, hR, hO⟩ := hrel;obtain ⟨wo, hwo⟩ : ∃ wo : World, wo = wr := ⟨_, rfl⟩;subst hwo;clear HR6;have HBo := Hd (hO.out.blk HB6.out HGW.out);have hb := HBo.out;have b2 := hb.at_ 2;have lb := hb.lt;simp at b2;clear hb
     by_cases hlt : i < k
     ·have h01 : (i : Int) < (k : Int) := by omega
      have hi0 : (0 : Int) ≤ (i : Int) := Int.natCast_nonneg _;have hwi : IntKind.i64.wrap ((i : Int) + 1) = (i : Int) + 1 := IntWalk.i64_in _ (by omega);obtain ⟨x, hx⟩ : ∃ x, xs[i]? = some x := ⟨_, List.getElem?_eq_getElem (by rw [HXL.out]; exact hlt)⟩;have hpx := HPX.out i x hx;have hno := HB.out.no x.p (List.mem_of_getElem? hpx);have hV2 : wo.ownsRow w1.heap.size 38 3 (.slice AL k cL) (xsA m xs i).length (txC (tsA m xs i)) := hR.out.all 2 _ rfl;obtain ⟨gl, rfl⟩ := own_first hV2 (by omega);have HGLM := HGL.out gl rfl;have HRS := Hd (own_row_at5 (show wo.ownsRow w1.heap.size 9 1 (.slice AS m.ss.length cS) m.ss.length (strs m.ss) from hR.out.all 1 _ rfl));have r3 := own_row_at5 (show wo.ownsRow w1.heap.size 9 1 (.slice AN k cN) k (strs ((xsA m xs i).map fun x => x.p.s)) from (by
       have h3 := hR.out.all 3 _ rfl;unfold OR.ok rowN at h3;dsimp only at h3;rw [xsA_len, HXL.out] at h3;exact h3))
      obtain ⟨bn, on, rfl, -, ln, hcn⟩ := r3.open_ (k := i) (by rw [strs, List.length_map, List.length_map, xsA_len, HXL.out]; exact hlt);have HZN := Hd (hcn i (.string x.p.s) (by rw [strs, List.getElem?_map, List.getElem?_map, xsA_at (m := m) hx]; rfl));have HX := Hd hx;have HNO := Hd hno;have hnl := hno.1;have HPM := Hd (List.mem_of_getElem? hpx);clear hV2 r3 hcn hx hpx hno;go_upto_region 13 with (fail)
      clear b2 lb;have RD0 := Hd fun wq (hSw : Only [] wo wq) => aI ((hSw.blk HBo.out (by simp)).lt) (aI ((hSw.blk HBo.out (by simp)).at_ 0) (aI ((hSw.blk HBo.out (by simp)).at_ 2) ((hSw.blk HBo.out (by simp)).at_ 3)));refine rg1 [24] [] wo ?_;have OW : Only [] wo wo.drew := (Only.refl [] wo).drew;generalize hwz : wo.drew = wz at *;clear hwz;refine tQ 0 (h := tQ 1 (h := tQ 2 (h := tQ 3 (h := trq 4 0 RD0 (h := tQ 5 (h := tQ 6 (h := tQ 7 (h := tQ 8 (h := tQ 9 (h := trq 10 0 RD0 (h := tQ 11 (h := tQ 12 (h := tQ 13 (h := trq 14 0 RD0 (h := tQ 15 (h := tQ 16 (h := ?_)))))))))))))))));refine trd (i := 17) (v := ?_) 0 ?_ ?_;rotate_left
      ·(intro wq hSw; have zn := (hSw.cell (p := ⟨bn, on + i, none⟩) ln (by simp)).trans HZN.out; have zl := Nat.lt_of_lt_of_le ln hSw.size; clear hSw; go_simp; try with_reducible rfl)
      (try simp only [tdz]);refine tst (i := 18) fun K hK => ?_;go_simp;refine (rfind_any AS m.ss.length cS _ m.ss x.p.s wz rfl (by have := HB.out.ns; omega) HB.out.zs (HRS.out.only OW (by simp))).mono ?_;rintro e w7 ⟨rfl, O7⟩;have OW7 := OW.trans O7;have HR7 := hR.out.same OW7;clear O7 OW;refine kOut hK (OW7) (h := ?_);clear hK K;refine tQ 19 (h := tQ 20 (h := tQ 21 (h := tQ 22 (h := tQ 23 (h := ?_)))));refine tst (i := 24) fun K hK => ?_;have HV : w7.ownsRow w1.heap.size 38 3 (.slice (some ⟨gl, 0, none⟩) k cL) (xsA m xs i).length (txC (tsA m xs i)) := HR7.all 2 _ rfl;obtain ⟨c1, f1⟩ := own_cell HV (g := gl) rfl (j := i * 3) (u := .int .i64 0) (by have := txC_get _ i (txa x) (tsA_at (m := m) HX.out) 0 (by omega); rw [Nat.add_zero] at this; rw [this]; rfl);have l1 := own_lt HV (g := gl) (by simp [Value.ownBlock]);go_simp;have OW8 : Only SB wo (w7.setCell ⟨gl, i * 3, none⟩ (.int .i64 (max (posB m.ss x.p.s) 0))) := (OW7.wide (fun i hi => by cases hi)).put (p := ⟨gl, i * 3, none⟩) (fun _ => HGLM) _;have HR8 := HR7.cell (i := 2) (g := gl) (j := i * 3) rfl rfl (by show i * 3 < (txC (tsA m xs i)).length; rw [txC_len, tsA_len, HXL.out]; omega) (.int .i64 (max (posB m.ss x.p.s) 0)) rfl;clear HV c1 f1 l1 OW7 HR7;generalize (w7.setCell ⟨gl, i * 3, none⟩ (.int .i64 (max (posB m.ss x.p.s) 0))) = w14 at *;refine hK.out _ _ (timed_over (by kernel_rfl) (timed_nil)) ?_;clear hK K;(try simp only [tdz]);refine tdn ?_;have HR14 : Hid (ORs w14 w1.heap.size (hL (⟨9, 1, .slice AS m.ss.length cS, m.ss.length, strs m.ss⟩ : OR) (⟨9, 1, .slice AKS m.ks.length cKS, m.ks.length, strs m.ks⟩ : OR) (.slice (some ⟨gl, 0, none⟩) k cL) (.slice (some ⟨bn, on, none⟩) k cN) (.slice AK k cK) (.slice AI k cI) (.slice AO k cO) (tsA m xs (i + 1)) ((xsA m xs i).set i (opsA x (opsQ m x 0))))) := Hd (by
       have h1 := HR8;rw [show i * 3 = i * 3 + 0 from rfl, hL_ts (y := sesA m x) (tsA_at (m := m) HX.out) (by omega) (by show [Value.int .i64 (txOf m x.p).s, .int .i64 x.p.f, .slice x.Z (keyed m x.p).length x.d] = _; rw [keyed_len m x.p HNO.out.2.1]; rfl), tsA_set HX.out] at h1;rw [show opsA x (opsQ m x 0) = x from by unfold opsA opsQ; simp, set_same (xsA_at (m := m) HX.out)];exact h1)
      have HO14 := Hd (hO.out.trans OW8);clear HR8 OW8 hR hO HBo HRS HZN ln;go_wp2_with fail
      go_loopw [10] (fun iv wr => ∃ q : Nat, iv = .int .i64 q ∧ q ≤ x.p.ops.length ∧ Hid (ORs wr w1.heap.size (hL (⟨9, 1, .slice AS m.ss.length cS, m.ss.length, strs m.ss⟩ : OR) (⟨9, 1, .slice AKS m.ks.length cKS, m.ks.length, strs m.ks⟩ : OR) (.slice (some ⟨gl, 0, none⟩) k cL) (.slice (some ⟨bn, on, none⟩) k cN) (.slice AK k cK) (.slice AI k cI) (.slice AO k cO) (tsA m xs (i + 1)) ((xsA m xs i).set i (opsA x (opsQ m x q))))) ∧ Hid (Only SB w6 wr)) (fun iv _ => x.p.ops.length - (intOf iv).toNat)
      case atStart => exact ⟨0, rfl, by omega, HR14, HO14⟩
      case round =>
       obtain ⟨q, rfl, hq, hR, hO⟩ := hrel;clear HR14 HO14;have HBr := Hd (hO.out.blk HB6.out HGW.out);have hb := HBr.out;have b2 := hb.at_ 2;have lb := hb.lt;simp at b2;clear hb;have hV2 : wr.ownsRow w1.heap.size 38 3 (.slice (some ⟨gl, 0, none⟩) k cL) ((xsA m xs i).set i (opsA x (opsQ m x q))).length (txC (tsA m xs (i + 1))) := hR.out.all 2 _ rfl;have hzl := own_lt hV2 (g := gl) (by simp [Value.ownBlock]);have hzc := (own_cell hV2 (g := gl) rfl (j := i * 3 + 2) (u := .slice x.Z x.p.ops.length x.d) (by rw [txC_get _ i (sesA m x) (tsA_now (m := m) HX.out) 2 (by omega)]; show some (Value.slice x.Z (keyed m x.p).length x.d) = _; rw [keyed_len m x.p HNO.out.2.1])).1;clear hV2
       by_cases hqt : q < x.p.ops.length
       ·have h02 : (q : Int) < (x.p.ops.length : Int) := by omega
        have hq0 : (0 : Int) ≤ (q : Int) := Int.natCast_nonneg _;have hwq : IntKind.i64.wrap ((q : Int) + 1) = (q : Int) + 1 := IntWalk.i64_in _ (by omega);obtain ⟨o, ho⟩ : ∃ o, x.p.ops[q]? = some o := ⟨_, List.getElem?_eq_getElem hqt⟩;obtain ⟨z, hz⟩ : ∃ z, x.p.ks[q]? = some z := ⟨_, List.getElem?_eq_getElem (by rw [HNO.out.2.1]; exact hqt)⟩;have HQA : Hid ((opsQ m x q)[q]? = some o) := Hd (mix_at ho (keyed_len m x.p HNO.out.2.1));have HKEY := Hd (And.intro ho (And.intro hz (pos_in HI.out HPM.out (List.mem_of_getElem? hz) (HKN.out _ HPM.out z (List.mem_of_getElem? hz)))));have hxi : ((xsA m xs i).set i (opsA x (opsQ m x q)))[i]? = some (opsA x (opsQ m x q)) := List.getElem?_set_self (by rw [xsA_len, HXL.out]; exact hlt);have hil : i < ((xsA m xs i).set i (opsA x (opsQ m x q))).length := (List.getElem?_eq_some_iff.1 hxi).1;have HIX := Hd (two_k _ i _ hxi);have HRK := Hd (own_row_at5 (show wr.ownsRow w1.heap.size 9 1 (.slice AKS m.ks.length cKS) m.ks.length (strs m.ks) from hR.out.all 0 _ rfl));have r4 := own_row_at5 (show wr.ownsRow w1.heap.size 24 1 (.slice AK k cK) k (((xsA m xs i).set i (opsA x (opsQ m x q))).map fun x => .slice x.A x.p.ks.length x.c) from (by
         have h3 := hR.out.all 4 _ rfl;unfold OR.ok rowK at h3;dsimp only at h3;rw [List.length_set, xsA_len, HXL.out] at h3;exact h3))
        obtain ⟨bk, ok, rfl, -, lk, hck⟩ := r4.open_ (k := i) (by rw [List.length_map]; exact hil);have r5 := own_row_at5 (show wr.ownsRow w1.heap.size 9 1 (.slice x.A x.p.ks.length x.c) x.p.ks.length (strs x.p.ks) from hR.out.all (i * 2 + 7) _ HIX.out.1);obtain ⟨ba, oa, hxA, -, la, hca⟩ := r5.open_ (k := q) (by rw [strs, List.length_map, HNO.out.2.1]; exact hqt);have hV8 : wr.ownsRow w1.heap.size 62 4 (.slice x.Z x.p.ops.length x.d) x.p.ops.length (opC (opsQ m x q)) := (by
         have h3 := hR.out.all (i * 2 + 1 + 7) _ HIX.out.2;unfold OR.ok oRow at h3;dsimp only [opsA] at h3;rw [opsQ_len HNO.out.2.1] at h3;exact h3)
        obtain ⟨gz, hgz⟩ := own_first hV8 (by omega);have HGZM := HGZ.out i x gz HX.out hgz;have HZK := Hd (hck i (.slice (some ⟨ba, oa, none⟩) x.p.ks.length x.c) (by rw [List.getElem?_map, hxi]; show some (Value.slice x.A x.p.ks.length x.c) = _; rw [hxA]));have HZA := Hd (hca q (.string z) (by rw [strs, List.getElem?_map, hz]; rfl));rw [hgz] at hzc hV8;have HZC := Hd hzc;have HV8 := Hd hV8;have hkl : (q : Int) < (x.p.ks.length : Int) := by have := HNO.out.2.1; omega
        have HXZ := Hd (And.intro hgz hxA);clear ho hz hxi r4 hck r5 hca hV8 hgz hxA;go_upto_region 17 with (fail)
        clear b2 lb hzc;have RD0 := Hd fun wq (hSw : Only [] wr wq) => aI ((hSw.blk HBr.out (by simp)).lt) (aI ((hSw.blk HBr.out (by simp)).at_ 1) (aI ((hSw.blk HBr.out (by simp)).at_ 2) ((hSw.blk HBr.out (by simp)).at_ 4)));refine rg1 [31] [] wr ?_;have OW : Only [] wr wr.drew := (Only.refl [] wr).drew;generalize hwz : wr.drew = wz at *;clear hwz;refine tQ 0 (h := tQ 1 (h := tQ 2 (h := tQ 3 (h := trq 4 0 RD0 (h := tQ 5 (h := tQ 6 (h := tQ 7 (h := ?_))))))));refine trd (i := 8) (v := ?_) 0 ?_ ?_;rotate_left
        ·(intro wq hSw; have zn := (hSw.cell (p := ⟨gl, i * 3 + 2, none⟩) hzl (by simp)).trans HZC.out; have zl := Nat.lt_of_lt_of_le hzl hSw.size; clear hSw; go_simp; try with_reducible rfl)
        (try simp only [tdz]);refine tQ 9 (h := tQ 10 (h := tQ 11 (h := tQ 12 (h := tQ 13 (h := trq 14 0 RD0 (h := tQ 15 (h := tQ 16 (h := tQ 17 (h := trq 18 0 RD0 (h := tQ 19 (h := tQ 20 (h := ?_))))))))))));refine trd (i := 21) (v := ?_) 0 ?_ ?_;rotate_left
        ·(intro wq hSw; have zn := (hSw.cell (p := ⟨bk, ok + i, none⟩) lk (by simp)).trans HZK.out; have zl := Nat.lt_of_lt_of_le lk hSw.size; clear hSw; go_simp; try with_reducible rfl)
        (try simp only [tdz]);refine tQ 22 (h := tQ 23 (h := ?_));refine trd (i := 24) (v := ?_) 0 ?_ ?_;rotate_left
        ·(intro wq hSw; have zn := (hSw.cell (p := ⟨ba, oa + q, none⟩) la (by simp)).trans HZA.out; have zl := Nat.lt_of_lt_of_le la hSw.size; clear hSw; go_simp; try with_reducible rfl)
        (try simp only [tdz]);refine tst (i := 25) fun K hK => ?_;go_simp;refine (rfind_any AKS m.ks.length cKS _ m.ks z wz rfl (by have := HB.out.nk; omega) HB.out.zk (HRK.out.only OW (by simp))).mono ?_;rintro e w7 ⟨rfl, O7⟩;have OW7 := OW.trans O7;have HR7 := hR.out.same OW7;have HV7 := own_only HV8.out OW7 (by simp);clear O7 OW;refine kOut hK (OW7) (h := ?_);clear hK K;refine tQ 26 (h := tQ 27 (h := tQ 28 (h := tQ 29 (h := tQ 30 (h := ?_)))));refine tst (i := 31) fun K hK => ?_;obtain ⟨c1, f1⟩ := own_cell HV7 (g := gz) rfl (j := q * 4 + 1) (u := .int .i64 o.key) (by rw [opC_get _ q o HQA.out 1 (by omega)]; rfl);have l1 := own_lt HV7 (g := gz) (by simp [Value.ownBlock]);go_simp;have OW8 : Only SB wr (w7.setCell ⟨gz, q * 4 + 1, none⟩ (.int .i64 (max (posB m.ks z) 0))) := (OW7.wide (fun i hi => by cases hi)).put (p := ⟨gz, q * 4 + 1, none⟩) (fun _ => HGZM) _;have HR8 := HR7.upd (i := i * 2 + 1 + 7) (r' := (⟨62, 4, .slice (some ⟨gz, 0, none⟩) x.p.ops.length x.d, x.p.ops.length, (opC (opsQ m x q)).set (q * 4 + 1) (.int .i64 (max (posB m.ks z) 0))⟩ : OR)) HIX.out.2 ((Only.refl _ w7).put (p := ⟨gz, q * 4 + 1, none⟩) (fun _ => by show gz ∈ (Value.slice x.Z _ x.d).ownBlock.toList; rw [HXZ.out.1]; simp [Value.ownBlock]) (.int .i64 (max (posB m.ks z) 0))) (own_set HV7 rfl (by rw [opC_len, opsQ_len HNO.out.2.1]; omega) _) (.inl (by show _ = (Value.slice x.Z _ x.d).ownBlock; rw [HXZ.out.1]; rfl));clear c1 f1 l1 OW7 HR7 HV7;generalize (w7.setCell ⟨gz, q * 4 + 1, none⟩ (.int .i64 (max (posB m.ks z) 0))) = w18 at *;refine hK.out _ _ (timed_over (by kernel_rfl) (timed_nil)) ?_;clear hK K;(try simp only [tdz]);refine tdn ?_;have HR18 : Hid (ORs w18 w1.heap.size (hL (⟨9, 1, .slice AS m.ss.length cS, m.ss.length, strs m.ss⟩ : OR) (⟨9, 1, .slice AKS m.ks.length cKS, m.ks.length, strs m.ks⟩ : OR) (.slice (some ⟨gl, 0, none⟩) k cL) (.slice (some ⟨bn, on, none⟩) k cN) (.slice (some ⟨bk, ok, none⟩) k cK) (.slice AI k cI) (.slice AO k cO) (tsA m xs (i + 1)) ((xsA m xs i).set i (opsA x (opsQ m x (q + 1)))))) := Hd (by
         have h1 := HR8;rw [← HXZ.out.1, hL_key (by rw [xsA_len, HXL.out]; exact hlt) HNO.out.2.1 HKEY.out.1 HKEY.out.2.1 HKEY.out.2.2] at h1;exact h1)
        have HO18 := Hd (hO.out.trans OW8);clear HR8 OW8;go_wp2
        go_roundw
        case rel => exact ⟨q + 1, by go_num, by omega, HR18, HO18⟩
        case measure => simp [intOf]; omega
       ·have hqe : q = x.p.ops.length := by omega
        subst hqe;have hd2 : decide ((x.p.ops.length : Int) < (x.p.ops.length : Int)) = false := by simp
        have HRE : Hid (ORs wr w1.heap.size (hL (⟨9, 1, .slice AS m.ss.length cS, m.ss.length, strs m.ss⟩ : OR) (⟨9, 1, .slice AKS m.ks.length cKS, m.ks.length, strs m.ks⟩ : OR) (.slice (some ⟨gl, 0, none⟩) k cL) (.slice (some ⟨bn, on, none⟩) k cN) (.slice AK k cK) (.slice AI k cI) (.slice AO k cO) (tsA m xs (i + 1)) (xsA m xs (i + 1)))) := Hd (by
         have h1 := hR.out;rw [show opsA x (opsQ m x x.p.ops.length) = opsA x (keyed m x.p) by unfold opsQ; rw [List.take_of_length_le (by rw [keyed_len m x.p HNO.out.2.1]; exact Nat.le_refl _), List.drop_length, List.append_nil], xsA_set HX.out] at h1;exact h1)
        go_wp2
        go_roundw
        case rel => exact ⟨i + 1, by go_num, by omega, HRE, hO⟩
        case measure => simp [intOf]; omega
     ·have hie : i = k := by omega
      subst hie;have hd : decide ((i : Int) < (i : Int)) = false := by simp
      have HBR : Hid (Blk wo gr 27 #[.slice none 0 0, .slice none 0 0, .slice none 0 0]) := Hd (hO.out.blk (HGO.out.blk HB5r.out (by simp; omega)) (fun hm => by have := HGE.out gr hm; omega));have HAT : Hid (HAt wo wo.heap.size AS AKS AL (histOf m)) := Hd (hist_hat hR.out HXL.out HMP.out (fun p hp => (HB.out.no p hp).2.1));have y0 := HBo.out.at_ 0;have y1 := HBo.out.at_ 1;simp at y0 y1;have hln : i = (histOf m).l.length := by show i = (m.ps.map (txOf m)).length; rw [List.length_map]; exact HN.out
      have HLN := Hd hln;clear hln;go_wp2_with (refine wpList_store_blk rfl 27 (.tmp 2) (.tmp 144) rfl gr 27 _ #[.slice AS m.ss.length cS, .slice AKS m.ks.length cKS, .slice AL i cL] rfl rfl HBR.out rfl (by kernel_rfl) (by kernel_rfl) ?_; intro w9 b9 o9; have HB9 := Hd b9; have HN9 := Hd o9; clear b9 o9)
      refine bodyPost_ret (results_row3 Tryd.results8 _ _ gr 27 #[.slice AS m.ss.length cS, .slice AKS m.ks.length cKS, .slice AL i cL] _ rfl HB9.out Tryd.underlying27 rfl (by kernel_rfl)) rfl ?_;rw [HH.out.1, HH.out.2.1, HH.out.2.2];refine ⟨AS, AKS, AL, cS, cKS, cL, ⟨by rw [← HLN.out]; rfl, hat_past HAT.out HBR.out HN9.out⟩, ?_⟩;refine (((HO1.out.trans HO6.out).step HGO.out (fun j hj hl => by simp at hj; have := HO1.out.size; omega)).step hO.out (fun j hj hl => by have := HGE.out j hj; have := HO1.out.size; omega)).step HN9.out (fun j hj hl => by simp at hj; omega)
 ·have hb : (re != 0) = true := by simpa using he
  have HH := Hd (HEND.out he);clear he HEND HOPN HFIN HOK;go_wp2_with (refine wpList_store_blk rfl 27 (.tmp 2) (.tmp 19) rfl gr 27 _ #[.slice none 0 0, .slice none 0 0, .slice none 0 0] rfl rfl HR2.out rfl (by kernel_rfl) (by kernel_rfl) ?_; intro w9 b9 o9; have HB9 := Hd b9; have HN9 := Hd o9; clear b9 o9)
  refine bodyPost_ret (results_row3 Tryd.results8 _ _ gr 27 #[.slice none 0 0, .slice none 0 0, .slice none 0 0] _ rfl HB9.out Tryd.underlying27 rfl (by kernel_rfl)) rfl ?_;rw [HH.out.1, HH.out.2.1, HH.out.2.2];exact ⟨none, none, none, 0, 0, 0, ⟨rfl, ⟨.inl rfl, .inl rfl, LRow.nil⟩⟩, (HO1.out.trans HO2.out).step HN9.out (fun i hi hl => by simp at hi; omega)⟩
end Go.Proofs.YtojlaphklkomfaaDoor
