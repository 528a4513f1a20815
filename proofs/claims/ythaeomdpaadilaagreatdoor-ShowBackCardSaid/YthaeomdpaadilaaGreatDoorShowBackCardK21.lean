/- Contracts of the package log: Parse. The Builder of package strings: Len, WriteString, WriteByte, String, out of the contract of strings.Join. -/
import Derived.Test.YthaeomdpaadilaaGreatDoorShowBackCardK20
import Derived.Test.YthaeomdpaadilaaGreatDoorShowBackCardK17
import Derived.Shelf.Strings.Builder1
set_option linter.unusedVariables false
set_option linter.unusedSimpArgs false
namespace Go.Proofs.YthaeomdpaadilaaGreatDoor
open Go.RowKit
open Go.Lib hiding intOf
attribute [local go_sem ↓] Go.wp_at_zero Go.wp_at_succ

/-- What rows are read as, the first one being line i: the events, the line that is wrong, its error. -/
def logOf : List ByteArray → Int → List Ev6 → List Ev6 × Int × Int
  | [], _, acc => (acc, 0, 0)
  | row :: rest, i, acc => if stepE acc row = 0 then logOf rest (i + 1) (stepL acc i row) else ([], i, stepE acc row)
def rowsOf (s : ByteArray) : List ByteArray := (linesOf (by_ s)).map fun l => ⟨l.toArray⟩
def logParse (s : ByteArray) : List Ev6 × Int × Int :=
  if 65536 < s.size then ([], 0, 6) else
    match (linesOf (by_ s)).findIdx? (fun x => !validD x) with
    | some i => ([], (i : Int) + 1, 5)
    | none => logOf (rowsOf s) 1 []
theorem stepL_len (l : List Ev6) (num : Int) (row : ByteArray) (h : l.length ≤ 1000) : (stepL l num row).length ≤ 1000 := by
  unfold stepL
  split
  · rename_i hc
    rw [List.length_append]
    have := hc.2
    simp
    omega
  · exact h
theorem rows_eq {s : ByteArray} {xs : List ByteArray} (h : xs.map by_ = linesOf (by_ s)) : rowsOf s = xs := by
  unfold rowsOf
  rw [← h, List.map_map]
  have : ((fun l => (⟨l.toArray⟩ : ByteArray)) ∘ by_) = id := by
    funext x
    exact by_inj (by show (by_ x).toArray.toList = by_ x; simp)
  rw [this, List.map_id]
theorem own_lowerP {w : World} {base base' : Nat} {e : TypeId} {size : Nat} {v : Value} {n : Nat} {xs : List Value} (h : w.ownsRow base e size v n xs) (hb : base' ≤ base) : w.ownsRow base' e size v n xs := by
  obtain ⟨hl, hv⟩ := h
  refine ⟨hl, ?_⟩
  rcases hv with hv | ⟨g, cap, cur, rfl, hg, rest⟩
  · exact .inl hv
  · exact .inr ⟨g, cap, cur, rfl, Nat.le_trans hb hg, rest⟩
theorem row_nil (w : World) (base : Nat) : w.ownsRow base 47 6 (.slice none 0 0) 0 (logC []) := ⟨rfl, .inl ⟨rfl, rfl⟩⟩

set_option maxRecDepth 10000 in
set_option maxHeartbeats 4000000 in
theorem logparse_any (s : ByteArray) (w : World) (hs : s.size ≤ 65536) (hrow : ∀ x ∈ linesOf (by_ s), x.length ≤ 65535) (hT : UTabs w) (hM : MLen w) (hV : Verbs w) :
    Calls Tryz.prog 23 #[.string s] w fun e w' => Only [] w w' ∧ ∃ V, e = .returned (.tuple #[V, .int .i64 (logParse s).2.1, .int .i64 (logParse s).2.2]) ∧ w'.ownsRow w.heap.size 47 6 V (logParse s).1.length (logC (logParse s).1) := by
  obtain ⟨i0, hi, hz0, hz1, hz2⟩ := info_parts info_event
  have HOF := Lib.hid (of_any s w hs hT)
  have HWR := Lib.hid (fun num row Bl V (l : List Ev6) w' (h : row.size ≤ 65535) (hO : Only [] w w') (hB : Blk w' Bl 27 #[V]) (hown : w'.ownsRow Bl 47 6 V l.length (logC l)) (hl : l.length ≤ 1000) =>
    wrong_any num row Bl Bl V l w' h (hT.only hO) (hM.only hO) (hV.only hO) hB hown (Nat.le_of_lt hB.lt) hl)
  have hmf : ∀ (fn : Fn) (first cap : Array Value) (w : World), (Instr.makeFunc fn first cap).run Tryz.prog w = .ok (.func fn first cap) w := fun _ _ _ _ => rfl
  obtain ⟨r, hr⟩ : ∃ r, r = logParse s := ⟨_, rfl⟩
  rw [← hr]
  have HR := Lib.hid hr
  have HROWS := Lib.hid hrow
  have hln := cutL_len (by_ s) []
  rw [by_length] at hln
  clear hr hT hM hV hrow
  go_enter Tryz.func23, Tryz.ntmps23
  go_wp2_with fail
  refine (HOF.out).mono ?_
  rintro e w1 ⟨O1, ⟨hval, V0, xs, rfl, hown0, hxs⟩ | ⟨i, x, hx, hbad, hfirst, rfl⟩⟩
  · have hidx : (linesOf (by_ s)).findIdx? (fun x => !validD x) = none := by
      rw [List.findIdx?_eq_none_iff]
      intro x hx
      rw [hval x hx]
      rfl
    have hr : r = logOf xs 1 [] := by
      rw [HR.out]
      unfold logParse
      rw [if_neg (by omega), hidx, rows_eq hxs]
    have HXS : Hid (∀ x ∈ xs, x.size ≤ 65535) := Lib.hid (fun x hx => by
      have := HROWS.out (by_ x) (by rw [← hxs]; exact List.mem_map_of_mem hx)
      rwa [by_length] at this)
    have hnl : xs.length ≤ 65537 := by
      have := congrArg List.length hxs
      rw [List.length_map] at this
      unfold linesOf at this
      omega
    obtain ⟨A0, c0, rfl, -, -, -, hrow0⟩ := own_row hown0
    generalize hn : xs.length = n at *
    have HN := Lib.hid hn
    have HRR := Lib.hid hr
    have HO1 := Lib.hid O1
    have HROW := Lib.hid hrow0
    have HB1 := Lib.hid (Blk.made w1 27 #[.slice none 0 0])
    have hsz1 := O1.size
    clear hval hown0 hxs hidx HR HROWS hn hr O1 hrow0 hln
    generalize hbl : w1.heap.size = Bl at *
    go_wp2_with fail
    go_loopw [26] (fun iv wr => ∃ (k : Nat) (V : Value) (acc : List Ev6), iv = .int .i64 k ∧ k ≤ n ∧ acc.length ≤ 1000 ∧ Hid (r = logOf (xs.drop k) ((k : Int) + 1) acc) ∧ Hid (Blk wr Bl 27 #[V]) ∧ Hid (wr.ownsRow Bl 47 6 V acc.length (logC acc)) ∧ Hid (Only [] w wr) ∧ Hid (Only [Bl] w1 wr)) (fun iv _ => n - (intOf iv).toNat)
    case atStart => exact ⟨0, .slice none 0 0, [], rfl, by omega, by simp, HRR, HB1, Lib.hid (row_nil _ _), Lib.hid (HO1.out.alloc _), Lib.hid ((Only.refl _ w1).alloc _)⟩
    case round =>
      obtain ⟨k, V, acc, rfl, hk, hacc, hR, hB, hown, hO, hOB⟩ := hrel
      by_cases hlt : k < n
      · have h01 : (k : Int) < (n : Int) := by omega
        have hk0 : (0 : Int) ≤ (k : Int) := Int.natCast_nonneg _
        have hwk : IntKind.i64.wrap ((k : Int) + 1) = (k : Int) + 1 := IntWalk.i64_in _ (by omega)
        obtain ⟨b, off, rfl, hbB, hbw, hcell⟩ := HROW.out.open_ (k := k) (by rw [strs, List.length_map, HN.out]; exact hlt)
        obtain ⟨x, hx⟩ : ∃ x, xs[k]? = some x := ⟨_, List.getElem?_eq_getElem (by rw [HN.out]; exact hlt)⟩
        have hck : wr.cell? ⟨b, off + k, none⟩ = some (.string x) := (hOB.out.cell (p := ⟨b, off + k, none⟩) hbw (by simp only [List.mem_singleton]; omega)).trans (hcell k _ (by rw [strs, List.getElem?_map, hx]; rfl))
        have HW := Lib.hid (HWR.out ((k : Int) + 1) x Bl V acc wr (HXS.out x (List.mem_of_getElem? hx)) hO.out hB.out hown.out hacc)
        have hstep : logOf (xs.drop k) ((k : Int) + 1) acc = if stepE acc x = 0 then logOf (xs.drop (k + 1)) (((k + 1 : Nat) : Int) + 1) (stepL acc ((k : Int) + 1) x) else ([], (k : Int) + 1, stepE acc x) := by
          obtain ⟨h1, h2⟩ := List.getElem?_eq_some_iff.1 hx
          rw [List.drop_eq_getElem_cons h1, h2]
          rfl
        have hlen := stepL_len acc ((k : Int) + 1) x hacc
        have HST := Lib.hid (hR.out.trans hstep)
        generalize stepL acc ((k : Int) + 1) x = acc2 at *
        generalize stepE acc x = E at *
        clear hcell hx hstep
        go_wp2_with fail
        refine (HW.out).mono ?_
        rintro e w2 ⟨rfl, V2, hB2, hown2, hO2⟩
        have HB2 := Lib.hid hB2
        have HOWN2 := Lib.hid hown2
        have hO3 : Only [] w w2 := hO.out.step hO2 (fun i hi hl => by
          rcases List.mem_cons.1 hi with rfl | h
          · omega
          · exact own_new hown.out i h (by omega))
        have hO4 : Only [Bl] w1 w2 := hOB.out.step hO2 (fun i hi hl => by
          rcases List.mem_cons.1 hi with rfl | h
          · simp
          · exact own_new hown.out i h (by omega))
        have HO3 := Lib.hid hO3
        have HO4 := Lib.hid hO4
        clear hB2 hown2 hO2 hO3 hO4 HW
        by_cases hE : E = 0
        · subst hE
          have HR2 : Hid (r = logOf (xs.drop (k + 1)) (((k + 1 : Nat) : Int) + 1) acc2) := Lib.hid (by rw [HST.out, if_pos rfl])
          go_wp2
          go_roundw
          case rel => exact ⟨k + 1, V2, acc2, by go_num, by omega, hlen, HR2, HB2, HOWN2, HO3, HO4⟩
          case measure => simp [intOf]; omega
        · have hE' : (E != 0) = true := by simpa using hE
          obtain rfl : r = ([], (k : Int) + 1, E) := by rw [HST.out, if_neg hE]
          clear HST hE
          go_wp2
          go_ret3
          exact ⟨HO3.out, _, rfl, row_nil _ _⟩
      · have hkn : k = n := by omega
        subst hkn
        have hd : decide ((k : Int) < (k : Int)) = false := by simp
        obtain rfl : r = (acc, 0, 0) := by rw [hR.out, List.drop_of_length_le (by rw [HN.out]; exact Nat.le_refl _)]; rfl
        have lB := hB.out.lt
        have cB := hB.out.at_ 0
        simp at cB
        go_wp2
        go_ret3
        exact ⟨hO.out, V, rfl, own_lowerP hown.out hsz1⟩
  · have hidx : (linesOf (by_ s)).findIdx? (fun x => !validD x) = some i := by
      rw [List.findIdx?_eq_some_iff_getElem]
      obtain ⟨h1, h2⟩ := List.getElem?_eq_some_iff.1 hx
      refine ⟨h1, by rw [h2, hbad]; rfl, fun j hj => ?_⟩
      have := hfirst j _ hj (List.getElem?_eq_getElem (by omega))
      rw [this]
      simp
    obtain rfl : r = ([], (i : Int) + 1, 5) := by
      rw [HR.out]
      unfold logParse
      rw [if_neg (by omega), hidx]
    have HO1 := Lib.hid O1
    clear hx hbad hfirst hidx HR O1 HROWS
    go_wp2
    go_ret3
    exact ⟨HO1.out, _, rfl, row_nil _ _⟩

end Go.Proofs.YthaeomdpaadilaaGreatDoor

set_option linter.unusedVariables false
set_option linter.unusedSimpArgs false
namespace Go.Proofs.YthaeomdpaadilaaGreatDoor
open Go.Shelf Go.RowKit

def laysB_ren : Go.Shelf.Ren := ⟨fun | 167 => 38 | 170 => 36 | n => Tryz.laysJoin_ren.f n, fun | 5 => 5 | n => Tryz.laysJoin_ren.t n, Tryz.laysJoin_ren.g⟩
theorem laysWrite : Lays.n166 Tryz.prog Tryz.laysJoin_ren := { Tryz.laysJoin with }
theorem laysText : Lays.n169 Tryz.prog Tryz.laysJoin_ren := { Tryz.laysJoin with }
theorem laysByte : Lays.n167 Tryz.prog laysB_ren :=
  { Tryz.laysJoin with
    f167 := Tryz.func38.trans (congrArg some (by kernel_rfl))
    t5 := Tryz.underlying5
    a5 := Tryz.isAgg5
    z5 := Tryz.sizeOf5
    v5 := Tryz.zeroValue5 }
theorem laysLen : Lays.n170 Tryz.prog laysB_ren :=
  { Tryz.laysJoin with
    f170 := Tryz.func36.trans (congrArg some (by kernel_rfl)) }
theorem extraB : Builder.Extra Tryz.prog laysB_ren where
  sizeBuilder := by kernel_rfl
  liesBuilder := by kernel_rfl
  t5 := Tryz.underlying5
  a5 := Tryz.isAgg5
  z5 := Tryz.sizeOf5
  v5 := Tryz.zeroValue5
  infoByte := by kernel_rfl
  cellsByte := by kernel_rfl
  sizeByte := by kernel_rfl
  neB5 := by decide

theorem blen_any (B b : Nat) (bs : List Value) (w : World) (h : Lib.IsBuilder 67 5 B b bs w) :
    Calls Tryz.prog 36 #[.pointer (some ⟨b, 0, none⟩)] w fun e w' => e = .returned (.int .i64 bs.length) ∧ w' = w :=
  Any.Builder_Len laysLen B b bs w h
theorem bwrite_any (B b : Nat) (bs : List Value) (s : ByteArray) (w : World) (h : Lib.IsBuilder 67 5 B b bs w) (hlen : bs.length + s.size ≤ 140737488355328) (hBw : B ≤ w.heap.size) :
    Calls Tryz.prog 37 #[.pointer (some ⟨b, 0, none⟩), .string s] w fun e w' => e = .returned (.tuple #[.int .i64 s.size, .nilIface]) ∧ (Lib.BuilderAt 67 5 B b (.pointer (some ⟨b, 0, none⟩)) (bs ++ Lib.strCells s) w' ∧ Below B w w') :=
  Any.Builder_WriteString laysWrite extraJ B b bs s w h hlen hBw
theorem bbyte_any (B b : Nat) (bs : List Value) (c : Int) (w : World) (h : Lib.IsBuilder 67 5 B b bs w) (hlen : bs.length + 1 ≤ 140737488355328) (hBw : B ≤ w.heap.size) :
    Calls Tryz.prog 38 #[.pointer (some ⟨b, 0, none⟩), .int .u8 c] w fun e w' => e = .returned .nilIface ∧ (Lib.BuilderAt 67 5 B b (.pointer (some ⟨b, 0, none⟩)) (bs ++ [.int .u8 c]) w' ∧ Below B w w') :=
  Any.Builder_WriteByte laysByte extraB B b bs c w h hlen hBw
theorem btext_any (B b : Nat) (l : List UInt8) (w : World) (h : Lib.IsBuilder 67 5 B b (Lib.byteCells l) w) (h0 : l ≠ []) :
    Calls Tryz.prog 39 #[.pointer (some ⟨b, 0, none⟩)] w fun e w' => e = .returned (.string ⟨l.toArray⟩) ∧ Below B w w' :=
  Any.Builder_String laysText extraJ B b l w h h0
theorem btext_nil (B b : Nat) (p : Value) (w : World) (hbk : w.heap[b]? = some (.cells #[p, .slice none 0 0] 67 (0, 0))) :
    Calls Tryz.prog 39 #[.pointer (some ⟨b, 0, none⟩)] w fun e w' => e = .returned (.string ⟨#[]⟩) ∧ Below B w w' :=
  Any.Builder_String_nil laysText extraJ B b p w hbk

/-- What leaves all blocks leaves a builder. -/
theorem builder_only {T e : TypeId} {B b : Nat} {bs : List Value} {w w' : World} (h : Lib.IsBuilder T e B b bs w) (ho : Only [] w w') : Lib.IsBuilder T e B b bs w' := by
  have key : ∀ p, Lib.BuilderAt T e B b p bs w → Lib.BuilderAt T e B b p bs w' := by
    rintro p ⟨hB, v, hb, hown, hne⟩
    exact ⟨hB, v, (ho.keeps b (Array.getElem?_eq_some_iff.1 hb).1 (by simp)).trans hb, own_only hown ho (by simp), hne⟩
  rcases h with h | h
  · exact .inl (key _ h)
  · exact .inr (key _ h)
theorem only_below {S : List Nat} {B : Nat} {w w' w'' : World} (h : Only S w w') (k : Below B w' w'') (hB : w.heap.size ≤ B) : Only S w w'' :=
  ⟨k.os.trans h.os, k.tape.trans h.tape, k.output.trans h.output, Nat.le_trans h.size k.size, fun i hi hs => (k.block i (by omega)).trans (h.keeps i hi hs)⟩

end Go.Proofs.YthaeomdpaadilaaGreatDoor
