/- Parts. -/
import Derived.Test.YtojlaphklkomfaaDoorPairMakesCardK23
import Derived.Deep.OwnRows
set_option maxRecDepth 10000
set_option maxHeartbeats 16000000
set_option linter.unusedVariables false
set_option linter.unusedSimpArgs false
namespace Go.Proofs.YtojlaphklkomfaaDoor
open Go.Lib
theorem tf_ne : ¬ (true = false) := by decide
theorem posB_mem {t : List ByteArray} {s : ByteArray} (ht : tabB t = true) : 0 ≤ posB t s ↔ s ∈ t := by
 unfold posB;rw [if_pos ht];exact idxOfS_nonneg_iff t s
theorem with_sort (l : List ByteArray) (s : ByteArray) : withB (sortB l) s = sortB (l ++ [s]) := by
 unfold withB
 split
 ·rename_i h
  rw [posB_mem (tab_sort l)] at h;have h1 := ((sortB_names l).2 s).1 h;refine sortB_unique (sortB_names l).1.rise (fun y => ?_);rw [(sortB_names l).2, List.mem_append]
  constructor
  ·rintro ⟨a, b⟩;exact ⟨.inl a, b⟩
  ·rintro ⟨a | a, b⟩
   ·exact ⟨a, b⟩
   ·simp at a;subst a;exact h1
 ·refine sortB_unique (sortB_names _).1.rise (fun y => ?_);rw [(sortB_names _).2, List.mem_append, (sortB_names l).2, List.mem_append]
  constructor
  ·rintro ⟨⟨a, b⟩ | a, c⟩
   ·exact ⟨.inl a, c⟩
   ·exact ⟨.inr a, c⟩
  ·rintro ⟨a | a, c⟩
   ·exact ⟨.inl ⟨a, c⟩, c⟩
   ·exact ⟨.inr a, c⟩
end Go.Proofs.YtojlaphklkomfaaDoor
namespace Go.Proofs.YtojlaphklkomfaaDoor
open Go.RowKit
structure OR where
 e : TypeId
 sz : Nat
 v : Value
 n : Nat
 xs : List Value
def OR.ok (w : World) (base : Nat) (r : OR) : Prop := w.ownsRow base r.e r.sz r.v r.n r.xs
structure ORs (w : World) (base : Nat) (L : List OR) : Prop where
 all : ∀ (i : Nat) (r : OR), L[i]? = some r → r.ok w base
 ap : ∀ (i j : Nat) (r s : OR), L[i]? = some r → L[j]? = some s → i ≠ j → ∀ g, r.v.ownBlock = some g → s.v.ownBlock ≠ some g
def ownB (L : List OR) : List Nat := L.flatMap fun r => r.v.ownBlock.toList
theorem ownB_mem {L : List OR} {g : Nat} : g ∈ ownB L ↔ ∃ (i : Nat) (r : OR), L[i]? = some r ∧ r.v.ownBlock = some g := by
 unfold ownB;rw [List.mem_flatMap]
 constructor
 ·rintro ⟨r, hr, hg⟩;obtain ⟨i, hi⟩ := List.mem_iff_getElem?.1 hr;exact ⟨i, r, hi, by simpa using hg⟩
 ·rintro ⟨i, r, hi, hg⟩;exact ⟨r, List.mem_of_getElem? hi, by simp [hg]⟩
section
variable {w w' : World} {base : Nat} {L : List OR}
theorem ORs.only {S : List Nat} (h : ORs w base L) (O : Only S w w') (hS : ∀ g ∈ ownB L, g ∉ S) : ORs w' base L :=
 ⟨fun i r hr => own_only (h.all i r hr) O (fun g hg => hS g (ownB_mem.2 ⟨i, r, hr, hg⟩)), h.ap⟩
theorem ORs.same (h : ORs w base L) (O : Only [] w w') : ORs w' base L := h.only O (by simp)
theorem ORs.ge (h : ORs w base L) : ∀ g ∈ ownB L, base ≤ g ∧ g < w.heap.size := fun g hg => by
 obtain ⟨i, r, hi, hr⟩ := ownB_mem.1 hg;exact (h.all i r hi).lt g hr
theorem ORs.upd {i : Nat} {r r' : OR} (h : ORs w base L) (hi : L[i]? = some r) (O : Only r.v.ownBlock.toList w w') (hr : r'.ok w' base) (hv : r'.v.ownBlock = r.v.ownBlock ∨ ∀ g, r'.v.ownBlock = some g → w.heap.size ≤ g) : ORs w' base (L.set i r') := by
 have hil := (List.getElem?_eq_some_iff.1 hi).1;have key : ∀ (j : Nat) (s : OR), L[j]? = some s → j ≠ i → ∀ g, r'.v.ownBlock = some g → s.v.ownBlock ≠ some g := fun j s hs hji g hg hsg => by
  rcases hv with e | e
  ·rw [e] at hg;exact h.ap i j r s hi hs (Ne.symm hji) g hg hsg
  ·have h1 := e g hg;have h2 := (h.all j s hs).lt g hsg;omega
 refine ⟨fun j s hs => ?_, fun j k s t hs ht hjk g hg htg => ?_⟩
 ·rw [List.getElem?_set] at hs
  by_cases hij : i = j
  ·rw [if_pos hij, if_pos hil] at hs;obtain rfl := Option.some.inj hs;exact hr
  ·rw [if_neg hij] at hs;exact own_only (h.all j s hs) O (fun g hg hm => h.ap j i s r hs hi (Ne.symm hij) g hg (by simpa using hm))
 ·rw [List.getElem?_set] at hs ht
  by_cases hij : i = j
  ·rw [if_pos hij, if_pos hil] at hs;obtain rfl := Option.some.inj hs;rw [if_neg (by omega)] at ht;exact key k t ht (by omega) g hg htg
  ·rw [if_neg hij] at hs
   by_cases hik : i = k
   ·rw [if_pos hik, if_pos hil] at ht;obtain rfl := Option.some.inj ht;exact key j s hs (by omega) g htg hg
   ·rw [if_neg hik] at ht;exact h.ap j k s t hs ht hjk g hg htg
theorem ORs.push {r' : OR} (h : ORs w base L) (hr : r'.ok w base) (hv : r'.v.ownBlock = none) : ORs w base (L ++ [r']) := by
 have hat : ∀ (j : Nat) (s : OR), (L ++ [r'])[j]? = some s → L[j]? = some s ∨ s = r' := fun j s hs => by
  rcases Nat.lt_or_ge j L.length with hl | hl
  ·rw [List.getElem?_append_left hl] at hs;exact .inl hs
  ·rw [List.getElem?_append_right hl] at hs
   cases hd : j - L.length with
   | zero => rw [hd] at hs; simp at hs; exact .inr hs.symm
   | succ k => rw [hd] at hs; simp at hs
 refine ⟨fun j s hs => ?_, fun j k s t hs ht hjk g hg htg => ?_⟩
 ·rcases hat j s hs with h1 | rfl
  ·exact h.all j s h1
  ·exact hr
 ·rcases hat j s hs with h1 | rfl
  ·rcases hat k t ht with h2 | rfl
   ·exact h.ap j k s t h1 h2 hjk g hg htg
   ·rw [hv] at htg; cases htg
  ·rw [hv] at hg; cases hg
theorem ORs.cell {i g j : Nat} {r : OR} {xs : List Value} (h : ORs w base L) (hi : L[i]? = some r) (hg : r.v.ownBlock = some g) (hj : j < r.xs.length) (u : Value) (hx : r.xs.set j u = xs) :
  ORs (w.setCell ⟨g, j, none⟩ u) base (L.set i ⟨r.e, r.sz, r.v, r.n, xs⟩) :=
 h.upd (r' := ⟨r.e, r.sz, r.v, r.n, xs⟩) hi ((Only.refl _ w).put (p := ⟨g, j, none⟩) (fun _ => by simp [hg]) u) (by subst hx; exact own_set (h.all i r hi) hg hj u) (.inl rfl)
end
theorem info_int : (Tryd.prog.info? 3).map (fun i => (i.zero, i.size, i.bytes)) = some (some (.int .i64 0), 1, 8) := by kernel_rfl
open Go.Lib hiding intOf
attribute [local go_sem ↓] Go.wp_at_zero Go.wp_at_succ
def mapB (t l : List ByteArray) : List Int := l.map (posB t)
theorem map_new (A A' : Option Addr) (n c m d : Nat) (l t : List ByteArray) (w : World) (hn : l.length = n) (hm : t.length = m) (hN : n ≤ 1000) (hmm : m ≤ 1000) (hz : ∀ z ∈ t, z.size ≤ 9223372036854775807) (hA : Row w w.heap.size A (strs l)) (hA' : Row w w.heap.size A' (strs t)) (hT : UTabs w) :
  Calls Tryd.prog 26 #[.slice A n c, .slice A' m d] w fun e w' => Only [] w w' ∧ ∃ g, e = .returned (.slice (some ⟨g, 0, none⟩) n n) ∧ Row w' w'.heap.size (some ⟨g, 0, none⟩) ((mapB t l).map (Value.int .i64)) ∧ w.heap.size ≤ g := by
 have hmk := fun W => run_make_row' (P := Tryd.prog) 40 3 (.int .i64 0) 8 Tryd.underlying40 info_int rfl .i64 .i64 n (by omega) (by omega) W;have HI := Hd (istab_any A' m d _ t w hm (by omega) hz hA' hT);have HF := Hd (fun s w' (h : Only [] w w') => find_low A' m d _ t s w' hm (by omega) (hA'.only h (by simp)));have HPE : Hid (∀ s, posB t s = if tabB t = true then idxOfS t s else -1) := Hd (fun s => rfl);have HIG := Hd (fun s => (idx_ge t s).1);obtain ⟨v, hv⟩ : ∃ v, v = tabB t := ⟨_, rfl⟩;rw [← hv] at HI HPE;have HN := Hd hn;have HROW := Hd hA;clear hn hm hz hA hA' hT hv;go_enter Tryd.func26, Tryd.ntmps26;go_wp2_with fail
 refine (HI.out).mono ?_;rintro e w1 ⟨rfl, hO1⟩;have HO1 := Hd hO1;have hw1 := hO1.size;clear hO1;have HB1 := Hd (Blk.made w1 3 (madeCells #[.int .i64 0] n));have hms : (madeCells #[Value.int .i64 0] n).size = n := by simp [madeCells]
 go_wp2_with fail
 go_loopw [18] (fun iv wr => ∃ (k : Nat) (cs : Array Value), iv = .int .i64 k ∧ k ≤ n ∧ Hid (Blk wr w1.heap.size 3 cs) ∧ Hid (cs.size = n) ∧ Hid (∀ j, j < k → ∀ x, l[j]? = some x → cs[j]? = some (.int .i64 (posB t x))) ∧ Hid (Only [w1.heap.size] w1 wr)) (fun iv _ => n - (intOf iv).toNat)
 case atStart => exact ⟨0, _, rfl, by omega, HB1, Hd hms, Hd (fun j h => by omega), Hd (((Only.refl [] w1).alloc _).wide (fun i hi => by cases hi))⟩
 case round =>
  obtain ⟨k, cs, rfl, hk, HB, HSZ, HCS, HO⟩ := hrel
  by_cases hlt : k < n
  ·have h01 : (k : Int) < (n : Int) := by omega
   have hk0 : (0 : Int) ≤ (k : Int) := Int.natCast_nonneg _;have hwk : IntKind.i64.wrap ((k : Int) + 1) = (k : Int) + 1 := IntWalk.i64_in _ (by omega);obtain ⟨b, off, rfl, hbB, hbw, hcell⟩ := HROW.out.open_ (k := k) (by rw [strs, List.length_map, HN.out]; exact hlt);obtain ⟨x, hx⟩ : ∃ x, l[k]? = some x := ⟨_, List.getElem?_eq_getElem (by rw [HN.out]; exact hlt)⟩;have hck : wr.cell? ⟨b, off + k, none⟩ = some (.string x) := (HO.out.cell (p := ⟨b, off + k, none⟩) (by show b < w1.heap.size; omega) (by show b ∉ [w1.heap.size]; simp; omega)).trans ((HO1.out.cell (p := ⟨b, off + k, none⟩) hbw (by simp)).trans (hcell k _ (by rw [strs, List.getElem?_map, hx]; rfl)));have f1 := HB.out.free k;obtain ⟨old, hold⟩ : ∃ old, cs[k]? = some old := ⟨_, Array.getElem?_eq_getElem (by rw [HSZ.out]; exact hlt)⟩;have c1 : wr.cell? ⟨w1.heap.size, k, none⟩ = some old := by rw [HB.out.at_]; exact hold
   have HXK := Hd hx;have HBP := Hd (HB.out.put k (.int .i64 (-1)));have HOP := Hd (HO.out.put (p := ⟨w1.heap.size, k, none⟩) (by simp) (.int .i64 (-1)));have hx2 := HPE.out x;have hig := HIG.out x;have HF1 := Hd (HF.out x (wr.setCell ⟨w1.heap.size, k, none⟩ (.int .i64 (-1))) (HO1.out.step HOP.out (fun i hi hl => by simp at hi; omega)));have hsz3 : (cs.setIfInBounds k (.int .i64 (-1))).size = n := by rw [Array.size_setIfInBounds, HSZ.out]
   have HCELL : Hid (∀ (z : Int) (cs' : Array Value), cs'.size = n → cs'[k]? = some (.int .i64 z) → (∀ j, j < k → cs'[j]? = cs[j]?) → z = posB t x → ∀ j, j < k + 1 → ∀ y, l[j]? = some y → cs'[j]? = some (.int .i64 (posB t y))) := Hd (fun z cs' _ h1 h2 h3 j hj y hy => by
    by_cases h : j < k
    ·rw [h2 j h];exact HCS.out j h y hy
    ·obtain rfl : j = k := by omega
     rw [HXK.out] at hy;obtain rfl := Option.some.inj hy;rw [h1, h3])
   clear hcell hx hold;generalize idxOfS t x = z at *;have hk1' : (k : Int) < (n : Int) := h01;have f2 := HBP.out.free k;obtain ⟨old2, hold2⟩ : ∃ old2, (cs.setIfInBounds k (.int .i64 (-1)))[k]? = some old2 := ⟨_, Array.getElem?_eq_getElem (by rw [hsz3]; exact hlt)⟩;have c2 : (wr.setCell ⟨w1.heap.size, k, none⟩ (.int .i64 (-1))).cell? ⟨w1.heap.size, k, none⟩ = some old2 := by rw [HBP.out.at_]; exact hold2
   have hset1 : (cs.setIfInBounds k (.int .i64 (-1)))[k]? = some (.int .i64 (-1)) := by rw [Array.getElem?_setIfInBounds, if_pos rfl, if_pos (by rw [HSZ.out]; exact hlt)]
   have hoth1 : ∀ j, j < k → (cs.setIfInBounds k (.int .i64 (-1)))[j]? = cs[j]? := fun j hj => by rw [Array.getElem?_setIfInBounds, if_neg (by omega)]
   have HS1 := Hd hset1;have HT1 := Hd hoth1;have HZ3 := Hd hsz3;clear hold2 hset1 hoth1 hsz3
   by_cases hgo : v = true ∧ 0 ≤ z
   ·obtain ⟨hv1, hz1'⟩ := hgo;subst hv1;have hmx : max z 0 = z := by omega
    have hd : decide (0 ≤ z) = true := decide_eq_true hz1';rw [hmx, hd] at HF1;have hpx : z = posB t x := by rw [hx2, if_pos rfl]
    have HPX := Hd hpx;have HBQ := Hd (HBP.out.put k (.int .i64 z));have HOQ := Hd (HOP.out.put (p := ⟨w1.heap.size, k, none⟩) (by simp) (.int .i64 z));have hset2 : ((cs.setIfInBounds k (.int .i64 (-1))).setIfInBounds k (.int .i64 z))[k]? = some (.int .i64 z) := by rw [Array.getElem?_setIfInBounds, if_pos rfl, if_pos (by rw [HZ3.out]; exact hlt)]
    have hoth2 : ∀ j, j < k → ((cs.setIfInBounds k (.int .i64 (-1))).setIfInBounds k (.int .i64 z))[j]? = cs[j]? := fun j hj => by rw [Array.getElem?_setIfInBounds, if_neg (by omega), HT1.out j hj]
    have hsz4 : ((cs.setIfInBounds k (.int .i64 (-1))).setIfInBounds k (.int .i64 z)).size = n := by rw [Array.size_setIfInBounds, HZ3.out]
    have HCS2 := Hd (HCELL.out z _ hsz4 hset2 hoth2 HPX.out);have HZ4 := Hd hsz4;clear hset2 hoth2 hsz4 hpx hx2;go_wp2_with fail
    refine (HF1.out).mono ?_;rintro e w3 ⟨rfl, rfl⟩;go_wp2
    go_roundw
    case rel => exact ⟨k + 1, _, by go_num, by omega, HBQ, HZ4, HCS2, HOQ⟩
    case measure => simp [intOf]; omega
   ·have hpx : (-1 : Int) = posB t x := by
     rw [hx2]
     split
     ·rename_i h
      have : ¬ 0 ≤ z := fun h0 => hgo ⟨h, h0⟩;omega
     ·rfl
    have HPX := Hd hpx;have HCS2 := Hd (HCELL.out (-1) _ HZ3.out HS1.out HT1.out HPX.out);have hguard : (v = false) ∨ (v = true ∧ decide (0 ≤ z) = false) := by
     cases v with
     | false => exact .inl rfl
     | true => exact .inr ⟨rfl, decide_eq_false (fun h0 => hgo ⟨rfl, h0⟩)⟩
    clear hgo hpx hx2;rcases hguard with rfl | ⟨rfl, hd⟩
    ·go_wp2_with fail
     refine (HF1.out).mono ?_;rintro e w3 ⟨rfl, rfl⟩;go_wp2
     go_roundw
     case rel => exact ⟨k + 1, _, by go_num, by omega, HBP, HZ3, HCS2, HOP⟩
     case measure => simp [intOf]; omega
    ·rw [hd] at HF1;go_wp2_with fail
     refine (HF1.out).mono ?_;rintro e w3 ⟨rfl, rfl⟩;go_wp2
     go_roundw
     case rel => exact ⟨k + 1, _, by go_num, by omega, HBP, HZ3, HCS2, HOP⟩
     case measure => simp [intOf]; omega
  ·have hkn : k = n := by omega
   subst hkn;have hd : decide ((k : Int) < (k : Int)) = false := by simp
   have HOF := Hd (HO1.out.step HO.out (T := [w1.heap.size]) (fun i hi hl => by simp at hi; omega) : Only [] w wr);go_wp2
   go_ret
   refine ⟨HOF.out, w1.heap.size, rfl, .inr ⟨w1.heap.size, 0, rfl, HB.out.lt, Nat.le_refl _, fun j u hu => ?_⟩, HO1.out.size⟩;rw [Nat.zero_add, HB.out.at_];rw [List.getElem?_map, mapB, List.getElem?_map] at hu
   cases hx : l[j]? with
   | none => rw [hx] at hu; cases hu
   | some x =>
    rw [hx] at hu;obtain rfl := Option.some.inj hu;exact HCS.out j (by rw [← HN.out]; exact (List.getElem?_eq_some_iff.1 hx).1) x hx
end Go.Proofs.YtojlaphklkomfaaDoor
