/- The law LogBack: its walk. -/
import Derived.Test.YtbenjknaklafmaaDoorLogQ
import Derived.Test.YtbenjknaklafmaaDoorLogF
set_option linter.unusedVariables false
set_option linter.unusedSimpArgs false
namespace Go.Proofs.YtbenjknaklafmaaDoor
open Go.RowKit
open Go.Lib hiding intOf

/-- Events with their lines, from a number on. -/
def numb : List Ev6 → Int → List Ev6
  | [], _ => []
  | x :: r, i => { x with ln := i } :: numb r (i + 1)
theorem numb_len : ∀ (l : List Ev6) (i : Int), (numb l i).length = l.length
  | [], _ => rfl
  | x :: r, i => by simp [numb, numb_len r]
theorem evT_back {x : Ev6} (h : okE x = true) (hb : EvB x) : evParse (evT x) = ⟨x.k, x.s, x.y, x.vk, x.vn, true, 0⟩ := ev_back h hb.n1 hb.n2
theorem logOf_all : ∀ (xs : List Ev6) (i : Int) (acc : List Ev6), (∀ x ∈ xs, okE x = true ∧ EvB x) → acc.length + xs.length ≤ 1000 → logOf (xs.map evT) i acc = (acc ++ numb xs i, 0, 0)
  | [], i, acc, _, _ => by simp [logOf, numb]
  | x :: r, i, acc, h, hl => by
    have hx := h x (by simp)
    have hp := evT_back hx.1 hx.2
    have hl2 : acc.length ≠ 1000 := by simp at hl; omega
    have h1 : stepE acc (evT x) = 0 := by
      unfold stepE
      rw [hp]
      simp [hl2]
    have h2 : stepL acc i (evT x) = acc ++ [{ x with ln := i }] := by
      unfold stepL
      rw [hp]
      simp [hl2]
    rw [List.map_cons, logOf, if_pos h1, h2, logOf_all r (i + 1) _ (fun y hy => h y (by simp [hy])) (by simp at hl ⊢; omega)]
    simp [numb]
theorem printOf_some : ∀ (xs : List Ev6) (acc t : List UInt8), acc.length ≤ 65536 → printOf xs acc = some t → t = acc ++ (xs.map fun x => by_ (evT x) ++ [10]).flatten ∧ t.length ≤ 65536
  | [], acc, t, ha, h => by
    simp [printOf] at h
    subst h
    exact ⟨by simp, ha⟩
  | x :: r, acc, t, ha, h => by
    rw [printOf] at h
    by_cases hl : 65536 < acc.length + (evT x).size + 1
    · rw [if_pos hl] at h; cases h
    · rw [if_neg hl] at h
      obtain ⟨h1, h2⟩ := printOf_some r _ t (by rw [List.length_append, List.length_append, by_length]; simp; omega) h
      refine ⟨?_, h2⟩
      rw [h1]
      simp
theorem cut_line : ∀ (a cur t : List UInt8), (10 : UInt8) ∉ a → cutL cur (a ++ 10 :: t) = (cur ++ a) :: cutL [] t
  | [], cur, t, _ => by simp [cutL]
  | b :: a, cur, t, h => by
    have hb : b ≠ 10 := fun e => h (by simp [e])
    have := cut_line a (cur ++ [b]) t (fun hm => h (by simp [hm]))
    rw [List.cons_append, cutL, if_neg (by simpa using hb), this]
    simp
theorem lines_all : ∀ (ls : List (List UInt8)), (∀ a ∈ ls, (10 : UInt8) ∉ a) → linesOf (ls.map fun a => a ++ [10]).flatten = ls
  | [], _ => rfl
  | a :: ls, h => by
    have ih := lines_all ls (fun x hx => h x (by simp [hx]))
    unfold linesOf at ih ⊢
    rw [List.map_cons, List.flatten_cons, List.append_assoc, List.singleton_append, cut_line a [] _ (h a (by simp)), ih]
    simp
/-- A line that is printed is clean. -/
theorem evT_clean {x : Ev6} (h : okE x = true) (hb : EvB x) : badL (by_ (evT x)) = false := by
  have hp := evT_back h hb
  cases hc : badL (by_ (evT x)) with
  | false => rfl
  | true =>
    unfold evParse at hp
    rw [if_pos hc] at hp
    have := congrArg EvR.is hp
    simp [evNo] at this
theorem log_back {l : List Ev6} (hb : ∀ x ∈ l, EvB x) (hl : l.length ≤ 1000) (he : (logPrint l).2 = 0) :
    logParse (logPrint l).1 = (numb l 1, 0, 0) ∧ (logPrint l).1.size ≤ 65536 ∧ ∀ a ∈ linesOf (by_ (logPrint l).1), a.length ≤ 65535 := by
  unfold logPrint at he ⊢
  by_cases hall : l.all okE = true
  · rw [if_pos hall] at he ⊢
    cases hp : printOf l [] with
    | none => rw [hp] at he; exact absurd he (by simp)
    | some t =>
      obtain ⟨h1, h2⟩ := printOf_some l [] t (by simp) hp
      dsimp only
      have hok : ∀ x ∈ l, okE x = true := fun x hx => List.all_eq_true.1 hall x hx
      have hcl : ∀ a ∈ l.map (fun x => by_ (evT x)), (10 : UInt8) ∉ a ∧ validD a = true ∧ a.length ≤ 5000 := by
        intro a ha
        obtain ⟨x, hx, rfl⟩ := List.mem_map.1 ha
        have hc := evT_clean (hok x hx) (hb x hx)
        unfold badL at hc
        simp at hc
        exact ⟨hc.2, hc.1, by rw [by_length]; exact evT_size (hb x hx)⟩
      have hbt : by_ (⟨t.toArray⟩ : ByteArray) = t := by show t.toArray.toList = t; simp
      have hlin : linesOf t = l.map fun x => by_ (evT x) := by
        have := lines_all (l.map fun x => by_ (evT x)) (fun a ha => (hcl a ha).1)
        rw [List.map_map] at this
        rw [h1, List.nil_append]
        exact this
      have hsz : (⟨t.toArray⟩ : ByteArray).size ≤ 65536 := by
        have : (⟨t.toArray⟩ : ByteArray).size = t.length := by simp [ByteArray.size]
        omega
      refine ⟨?_, hsz, fun a ha => ?_⟩
      · unfold logParse
        rw [if_neg (by omega), hbt, hlin]
        have hidx : (l.map fun x => by_ (evT x)).findIdx? (fun x => !validD x) = none := by
          rw [List.findIdx?_eq_none_iff]
          intro a ha
          rw [(hcl a ha).2.1]
          rfl
        rw [hidx]
        dsimp only
        rw [rows_eq (xs := l.map evT) (by rw [hbt, hlin, List.map_map]; rfl)]
        rw [logOf_all l 1 [] (fun x hx => ⟨hok x hx, hb x hx⟩) (by simpa using hl)]
        simp
      · rw [hbt, hlin] at ha
        have := (hcl a ha).2.2
        omega
  · rw [if_neg hall] at he
    exact absurd he (by simp)
theorem log_empty (l : List Ev6) (he : (logPrint l).2 ≠ 0) : (logPrint l).1 = ⟨#[]⟩ := by
  unfold logPrint at he ⊢
  split
  · rename_i h
    rw [if_pos h] at he
    cases hp : printOf l [] with
    | none => rfl
    | some t => rw [hp] at he; exact absurd rfl he
  · rfl

end Go.Proofs.YtbenjknaklafmaaDoor

set_option linter.unusedVariables false
set_option linter.unusedSimpArgs false
namespace Go.Proofs.YtbenjknaklafmaaDoor
open Go.RowKit
open Go.Lib hiding intOf
attribute [local go_sem ↓] Go.wp_at_zero Go.wp_at_succ

theorem row_of_evs {w : World} {b : Nat} (hb : b < w.heap.size) : ∀ {l : List Ev6}, (∀ j x, l[j]? = some x → EvAt w b (j * 6) x) → Row w w.heap.size (some ⟨b, 0, none⟩) (logC l) := by
  intro l h
  refine .inr ⟨b, 0, rfl, hb, Nat.le_refl _, fun t u hu => ?_⟩
  have hlt : t < (logC l).length := (List.getElem?_eq_some_iff.1 hu).1
  rw [logC_len] at hlt
  obtain ⟨x, hx⟩ : ∃ x, l[t / 6]? = some x := ⟨_, List.getElem?_eq_getElem (by omega)⟩
  have g := logC_get l (t / 6) x hx (t % 6) (by omega)
  have e : t / 6 * 6 + t % 6 = t := by omega
  rw [e, hu] at g
  have ha := h (t / 6) x hx
  rw [Nat.zero_add, ← e]
  have h6 : t % 6 < 6 := by omega
  generalize t % 6 = r at *
  match r, h6 with
  | 0, _ => simp [Ev6.c] at g; subst g; exact ha.c0
  | 1, _ => simp [Ev6.c] at g; subst g; exact ha.c1
  | 2, _ => simp [Ev6.c] at g; subst g; exact ha.c2
  | 3, _ => simp [Ev6.c] at g; subst g; exact ha.c3
  | 4, _ => simp [Ev6.c] at g; subst g; exact ha.c4
  | 5, _ => simp [Ev6.c] at g; subst g; exact ha.c5
theorem evAt_set {w : World} {g : Nat} {t : TypeId} {cs : Array Value} {j k : Nat} {y : Ev6} (hb : Blk w g t cs) (h : EvAt w g (j * 6) y) (hjk : j ≠ k) (u : Value) : EvAt (w.setCell ⟨g, k * 6 + 5, none⟩ u) g (j * 6) y := by
  have key : ∀ i v, i ≠ k * 6 + 5 → w.cell? ⟨g, i, none⟩ = some v → (w.setCell ⟨g, k * 6 + 5, none⟩ u).cell? ⟨g, i, none⟩ = some v := by
    intro i v hi hc
    rw [hb.at_ i] at hc
    rw [(hb.put (k * 6 + 5) u).at_ i, Array.getElem?_setIfInBounds_ne (by omega)]
    exact hc
  exact ⟨key _ _ (by omega) h.c0, key _ _ (by omega) h.c1, key _ _ (by omega) h.c2, key _ _ (by omega) h.c3, key _ _ (by omega) h.c4, key _ _ (by omega) h.c5⟩
theorem evAt_line {w : World} {g : Nat} {t : TypeId} {cs : Array Value} {k : Nat} {x : Ev6} (hb : Blk w g t cs) (h : EvAt w g (k * 6) x) (v : Int) : EvAt (w.setCell ⟨g, k * 6 + 5, none⟩ (.int .i64 v)) g (k * 6) { x with ln := v } := by
  have key : ∀ i u, i ≠ k * 6 + 5 → w.cell? ⟨g, i, none⟩ = some u → (w.setCell ⟨g, k * 6 + 5, none⟩ (.int .i64 v)).cell? ⟨g, i, none⟩ = some u := by
    intro i u hi hc
    rw [hb.at_ i] at hc
    rw [(hb.put (k * 6 + 5) _).at_ i, Array.getElem?_setIfInBounds_ne (by omega)]
    exact hc
  refine ⟨key _ _ (by omega) h.c0, key _ _ (by omega) h.c1, key _ _ (by omega) h.c2, key _ _ (by omega) h.c3, key _ _ (by omega) h.c4, ?_⟩
  have hc := h.c5
  rw [hb.at_ _] at hc
  have hlt := (Array.getElem?_eq_some_iff.1 hc).1
  rw [(hb.put (k * 6 + 5) _).at_ _]
  simp [hlt]
theorem numb_get : ∀ (l : List Ev6) (i : Int) (j : Nat) (x : Ev6), l[j]? = some x → (numb l i)[j]? = some { x with ln := i + j }
  | [], _, j, x, h => by simp at h
  | y :: l, i, 0, x, h => by
    simp at h
    subst h
    simp [numb]
  | y :: l, i, j + 1, x, h => by
    have := numb_get l (i + 1) j x (by simpa using h)
    simp only [numb, List.getElem?_cons_succ]
    rw [this]
    congr 2
    push_cast
    omega
theorem few8_bounds {l : List Ev6} (h : ∀ x ∈ l, -9223372036854775808 ≤ x.vn ∧ x.vn ≤ 9223372036854775807) : ∀ x ∈ few8 l, EvB x := by
  intro x hx
  obtain ⟨y, hy, rfl⟩ := List.mem_map.1 hx
  have := h y (List.mem_of_mem_take hy)
  have h1 := short8_size y.s
  have h2 := short8_size y.y
  exact ⟨by show (short8 y.s).size ≤ 2000; omega, by show (short8 y.y).size ≤ 2000; omega, this.1, this.2⟩

set_option maxRecDepth 100000 in
set_option maxHeartbeats 8000000 in
theorem logBack_walk (A : Option Addr) (n c : Nat) (l : List Ev6) (w : World) (hn : l.length = n) (hc : n ≤ c) (hcm : c ≤ maxLen) (hz : ∀ x ∈ l, x.s.size ≤ maxLen ∧ x.y.size ≤ maxLen ∧ -9223372036854775808 ≤ x.vn ∧ x.vn ≤ 9223372036854775807) (hA : Row w w.heap.size A (logC l)) (hT : UTabs w) (hM : MLen w) (hV : Verbs w) :
    Calls Tryd.prog 5 #[.slice A n c] w fun e w' => e = .returned (.bool true) ∧ Only [] w w' := by
  unfold maxLen at hcm hz
  have hxb := few8_bounds (l := l) (fun x hx => (hz x hx).2.2)
  have HW := Lib.hid (works08_any w hT hM hV)
  have HF1 := Lib.hid (fun w' (hO : Only [] w w') => few8_any A n c w.heap.size l w' hn (by omega) (fun x hx => ⟨by have := (hz x hx).1; omega, by have := (hz x hx).2.1; omega⟩) (hA.only hO (by simp)))
  have hff := few8_few8 l
  have hfl := few8_len l
  clear hA hz hn hc hcm
  generalize few8 l = xs at *
  generalize hm : xs.length = m at *
  have HF2 := Lib.hid (fun A' c' B' w' hA' => few8_any A' m c' B' xs w' hm (by omega) (fun x hx => ⟨by have := (hxb x hx).s; omega, by have := (hxb x hx).y; omega⟩) hA')
  rw [hff] at HF2
  have HPR := Lib.hid (fun A' c' B' w' (hO : Only [] w w') hA' => logprint_any A' m c' B' xs w' hm (by omega) hxb hA' (hT.only hO) (hV.only hO))
  have hback := fun he => log_back hxb (by omega) he
  have hemp := log_empty xs
  generalize logPrint xs = pr at *
  obtain ⟨T, E⟩ := pr
  dsimp only at HPR hback hemp
  have HPA := Lib.hid (fun w' (he : E = 0) (hO : Only [] w w') => logparse_any T w' (hback he).2.1 (hback he).2.2 (hT.only hO) (hM.only hO) (hV.only hO))
  have HBK := Lib.hid (fun he => (hback he).1)
  have HEMP := Lib.hid hemp
  have HST := Lib.hid (fun A A' n c d w' B B' hA hA' hn hnm => sameLog_eq A A' n c d (numb xs 1) w' B B' hA hA' hn hnm)
  have HNL := Lib.hid (numb_len xs 1)
  have HM := Lib.hid hm
  clear hT hM hV hback hemp hff hm hxb
  go_enter Tryd.func5, Tryd.ntmps5
  go_wp2_with fail
  refine (HW.out).mono ?_
  rintro e w1 ⟨rfl, O1⟩
  have HO1 := Lib.hid O1
  clear O1
  go_wp2_with fail
  refine (HF1.out _ HO1.out).mono ?_
  rintro e w2 ⟨O2, V1, rfl, hown, g, hg⟩
  have hsz1 := HO1.out.size
  obtain ⟨hlen, hv⟩ := hown
  rcases hv with ⟨rfl, -⟩ | ⟨g', cap, cur, rfl, hbase, hgb, hnc, hcm, hcs, htk⟩
  · cases hg
  obtain rfl : g' = g := by simpa [Value.ownBlock] using hg
  have hbG : Blk w2 g' 38 cur := hgb
  have hrow1 : Row w2 w2.heap.size (some ⟨g', 0, none⟩) (logC xs) := by
    refine .inr ⟨g', 0, rfl, hbG.lt, Nat.le_refl _, fun t u hu => ?_⟩
    rw [Nat.zero_add, hbG.at_ t]
    rw [← htk, List.getElem?_take] at hu
    split at hu
    · simpa using hu
    · cases hu
  have HO2 := Lib.hid (HO1.out.trans O2)
  have HR1 := Lib.hid hrow1
  have HBG := Lib.hid hbG
  clear O2 hlen hgb hcs htk hg hrow1 hbG HF1 HW
  go_wp2_with fail
  refine (HF2.out _ cap _ w2 HR1.out).mono ?_
  rintro e w3 ⟨O3, V2, rfl, hown2, -⟩
  rw [HM.out] at hown2
  obtain ⟨A2, c2, rfl, -, -, -, hrow2⟩ := own_row hown2
  have HO3 := Lib.hid (HO2.out.trans O3)
  have HR2 := Lib.hid hrow2
  have HBG3 := Lib.hid (O3.blk HBG.out (by simp))
  have HR13 := Lib.hid (HR1.out.only O3 (by simp))
  clear O3 hown2 hrow2
  go_wp2_with fail
  refine (HPR.out A2 c2 _ w3 HO3.out HR2.out).mono ?_
  rintro e w4 ⟨rfl, O4⟩
  have HO4 := Lib.hid (HO3.out.trans O4)
  have HBG4 := Lib.hid (O4.blk HBG3.out (by simp))
  have HR14 := Lib.hid (HR13.out.only O4 (by simp))
  clear O4
  by_cases hE : E = 0
  · subst hE
    have HPA1 := Lib.hid (fun w' hO => HPA.out w' rfl hO)
    rw [HBK.out rfl] at HPA1
    clear HEMP HBK HPA HPR HF2 HBG HBG3 HR1 HR13 HR2
    have hg0 : w.heap.size ≤ g' := by omega
    go_wp2_with fail
    go_loopw [5] (fun iv wr => ∃ (k : Nat), iv = .int .i64 k ∧ k ≤ m ∧ Hid (∃ cs, Blk wr g' 38 cs) ∧ Hid (∀ (j : Nat) x, (numb xs 1)[j]? = some x → j < k → EvAt wr g' (j * 6) x) ∧ Hid (∀ (j : Nat) x, xs[j]? = some x → k ≤ j → EvAt wr g' (j * 6) x) ∧ Hid (Only [] w wr)) (fun iv _ => m - (intOf iv).toNat)
    case atStart => exact ⟨0, rfl, by omega, Lib.hid ⟨_, HBG4.out⟩, Lib.hid (fun j x _ h => by omega), Lib.hid (fun j x hx _ => by
      obtain ⟨b, off, he, -, -, h⟩ := row_ev HR14.out hx
      injection he with he
      injection he with e1 e2 e3
      subst e1 e2
      rw [Nat.zero_add] at h
      exact h), HO4⟩
    case round =>
      obtain ⟨k, rfl, hk, hB, hdone, hrest, hO⟩ := hrel
      by_cases hlt : k < m
      · have h01 : (k : Int) < (m : Int) := by omega
        have hk0 : (0 : Int) ≤ (k : Int) := Int.natCast_nonneg _
        have hwk : IntKind.i64.wrap ((k : Int) + 1) = (k : Int) + 1 := IntWalk.i64_in _ (by omega)
        obtain ⟨x, hx⟩ : ∃ x, xs[k]? = some x := ⟨_, List.getElem?_eq_getElem (by rw [HM.out]; exact hlt)⟩
        obtain ⟨cs, hcs⟩ := hB.out
        have hea := hrest.out k x hx (Nat.le_refl _)
        have c5 := hea.c5
        have f5 := hcs.free (k * 6 + 5)
        have lg := hcs.lt
        have HCS := Lib.hid hcs
        have HEA := Lib.hid hea
        have HX := Lib.hid hx
        clear hcs hea hx
        go_wp2
        go_roundw
        case rel =>
          refine ⟨k + 1, by go_num, by omega, Lib.hid ⟨_, HCS.out.put (k * 6 + 5) (.int .i64 ((k : Int) + 1))⟩, Lib.hid (fun j y hy hj => ?_), Lib.hid (fun j y hy hj => evAt_set HCS.out (hrest.out j y hy (by omega)) (by omega) _), Lib.hid (hO.out.put (fun h => by simp only at h; omega) _)⟩
          by_cases hjk : j = k
          · subst hjk
            have := numb_get xs 1 j x HX.out
            rw [this] at hy
            obtain rfl := Option.some.inj hy
            have h2 := evAt_line HCS.out HEA.out ((j : Int) + 1)
            rw [show (j : Int) + 1 = 1 + (j : Int) by omega] at h2 ⊢
            exact h2
          · exact evAt_set HCS.out (hdone.out j y hy (by omega)) hjk _
        case measure => simp [intOf]; omega
      · have hkm : k = m := by omega
        subst hkm
        have hd : decide ((k : Int) < (k : Int)) = false := by simp
        obtain ⟨cs, hcs⟩ := hB.out
        have hrow := row_of_evs hcs.lt (l := numb xs 1) (fun j x hx => hdone.out j x hx (by
          have := (List.getElem?_eq_some_iff.1 hx).1
          rw [HNL.out, HM.out] at this
          exact this))
        have HROW := Lib.hid hrow
        clear hcs hrow hB hdone hrest
        go_wp2_with fail
        refine (HPA1.out wr hO.out).mono ?_
        rintro e w6 ⟨O6, V6, rfl, hown6⟩
        have h6 : w6.ownsRow wr.heap.size 38 6 V6 (numb xs 1).length (logC (numb xs 1)) := hown6
        rw [HNL.out, HM.out] at h6
        obtain ⟨A6, c6, rfl, -, -, -, hrow6⟩ := own_row h6
        have HO6 := Lib.hid (hO.out.trans O6)
        have HST6 := Lib.hid (HST.out A6 (some ⟨g', 0, none⟩) k c6 cap w6 _ _ hrow6 (HROW.out.only O6 (by simp)) (by rw [HNL.out, HM.out]) (by omega))
        clear O6 hown6 h6 hrow6
        go_wp2_with fail
        refine (HST6.out).mono ?_
        rintro e w7 ⟨rfl, q7, rfl⟩
        go_wp2
        go_ret
        exact ⟨rfl, HO6.out.drewN q7⟩
  · have hne : (E != 0) = true := by simpa using hE
    have ht := HEMP.out hE
    subst ht
    clear hE
    go_wp2
    go_ret
    exact ⟨rfl, HO4.out⟩

end Go.Proofs.YtbenjknaklafmaaDoor
