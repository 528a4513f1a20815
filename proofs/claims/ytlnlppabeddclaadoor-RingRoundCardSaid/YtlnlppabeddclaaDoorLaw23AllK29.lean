/- Parts. -/
import Derived.Test.YtlnlppabeddclaaDoorLaw23AllK25
import Derived.Test.YtlnlppabeddclaaDoorLaw23AllK28
set_option maxRecDepth 10000
set_option maxHeartbeats 16000000
set_option linter.unusedVariables false
set_option linter.unusedSimpArgs false
namespace Go.Proofs.YtlnlppabeddclaaDoor
open Go.RowKit
attribute [local go_sem ↓] Go.wp_at_zero Go.wp_at_succ
theorem rhas23_any (A : Option Addr) (m c B : Nat) (l : List (Int × Int)) (a b : Int) (w : World) (hr : Row w B A (edgeC l)) (hl : l.length = m) (hm : m ≤ 1000000) :
  Calls Tryd.prog 28 #[.slice A m c, .int .i64 a, .int .i64 b] w fun e w' => e = .returned (.bool (decide ((a, b) ∈ l))) ∧ w = w' := by
 have HR := Hd hr;have HL := Hd hl;clear hr hl;go_enter Tryd.func28, Tryd.ntmps28;go_wp2_with fail
 go_loopw [7] (fun iv wr => ∃ k : Nat, iv = .int .i64 k ∧ k ≤ m ∧ Hid ((a, b) ∉ l.take k) ∧ wr = w) (fun iv _ => m - (intOf iv).toNat)
 case atStart => exact ⟨0, rfl, by omega, Hd (by simp), rfl⟩
 case round =>
  obtain ⟨k, rfl, hk, hno, rfl⟩ := hrel
  by_cases hlt : k < m
  ·obtain ⟨bb, off, rfl, -, hbw, hc⟩ := HR.out.open_ (k := k * 2) (by rw [edgeC_len, HL.out]; omega);obtain ⟨⟨x, y⟩, he⟩ : ∃ e, l[k]? = some e := ⟨_, List.getElem?_eq_getElem (by rw [HL.out]; exact hlt)⟩;have hee := edgeC_get l k _ he;have hc0 := hc _ _ hee.1;have hc1 := hc _ _ hee.2;rw [← Nat.add_assoc] at hc1;have hk0 : (0 : Int) ≤ (k : Int) := Int.natCast_nonneg _;have hk1 : (k : Int) < (m : Int) := by omega
   have hwk : IntKind.i64.wrap ((k : Int) + 1) = (k : Int) + 1 := IntWalk.i64_in _ (by omega);have HE := Hd he;clear hc hee he;simp only at hc0 hc1
   by_cases hx : x = a
   ·subst hx
    by_cases hy : y = b
    ·subst hy;have HIN : Hid (decide ((x, y) ∈ l) = true) := Hd (decide_eq_true (List.mem_of_getElem? HE.out));go_wp2
     go_ret
     exact ⟨by rw [HIN.out]; rfl, rfl⟩
    ·have HN : Hid ((x, b) ∉ l.take (k + 1)) := Hd (fun h => by
      rw [List.take_add_one, HE.out] at h;rcases List.mem_append.1 h with h | h
      ·exact hno.out h
      ·simp at h; exact hy h.symm)
     go_wp2
     go_roundw
     case rel => exact ⟨k + 1, by go_num, by omega, HN, trivial⟩
     case measure => simp [intOf]; omega
   ·have HN : Hid ((a, b) ∉ l.take (k + 1)) := Hd (fun h => by
     rw [List.take_add_one, HE.out] at h;rcases List.mem_append.1 h with h | h
     ·exact hno.out h
     ·simp at h; exact hx h.1.symm)
    go_wp2
    go_roundw
    case rel => exact ⟨k + 1, by go_num, by omega, HN, trivial⟩
    case measure => simp [intOf]; omega
  ·have hkm : k = m := by omega
   subst hkm;have hd2 : decide ((k : Int) < (k : Int)) = false := by simp
   have HIN : Hid (decide ((a, b) ∈ l) = false) := Hd (decide_eq_false (by have := hno.out; rwa [List.take_of_length_le (by rw [HL.out]; exact Nat.le_refl _)] at this));go_wp2
   go_ret
   exact ⟨by rw [HIN.out]; rfl, rfl⟩
theorem intsQ_map (q : List Nat) : intsQ q = (q.map fun y : Nat => (y : Int)).map (Value.int .i64) := by simp [intsQ]
theorem intsQ_one (q : List Nat) : ∀ u ∈ intsQ q, u.oneCell' = true := fun u hu => by
 obtain ⟨y, -, rfl⟩ := List.mem_map.1 hu
 rfl
theorem onT_pos {E : Nat → Nat → Bool} {n : Nat} : ∀ (k : Nat) {hd r : List Nat}, onT E n k hd = some r → 0 < hd.length → 0 < r.length
 | 0, hd, r, h, hp => by
  unfold onT at h
  split at h
  ·cases h; exact hp
  ·cases h
 | k + 1, hd, r, h, hp => by
  unfold onT at h;obtain ⟨b, -, hb⟩ := List.exists_of_findSome?_eq_some h
  split at hb
  ·exact onT_pos k hb (by simp)
  ·cases hb
theorem mem_castQ {b : Nat} {hd : List Nat} : decide ((b : Int) ∈ hd.map fun y : Nat => (y : Int)) = decide (b ∈ hd) := by
 rw [decide_eq_decide, List.mem_map]
 constructor
 ·rintro ⟨y, hy, e⟩;obtain rfl : y = b := by omega
  exact hy
 ·exact fun h => ⟨b, h, rfl⟩
def OnOk (n : Nat) (A : Option Addr) (m c M : Nat) (l : List (Int × Int)) (d : Nat) : Prop :=
 ∀ (hd : List Nat) (Ah : Option Addr) (ch : Nat) (w : World), hd.length + d = M → 0 < hd.length → (∀ y ∈ hd, y < n) → Row w w.heap.size A (edgeC l) → Row w w.heap.size Ah (intsQ hd) →
  Calls Tryd.prog 25 #[.int .i64 (n : Int), .slice A m c, .slice Ah hd.length ch, .int .i64 (M : Int)] w fun e w' => ∃ A' c', (e = .returned (.slice A' ((onT (edB l) n d hd).getD []).length c') ∧ Row w' w'.heap.size A' (intsQ ((onT (edB l) n d hd).getD []))) ∧ Only [] w w'
theorem ron_step (n : Nat) (A : Option Addr) (m c M : Nat) (l : List (Int × Int)) (hn : n ≤ 500) (hM : M ≤ 500) (hl : l.length = m) (hm : m ≤ 1000) (d : Nat) (ih : ∀ d', d = d' + 1 → OnOk n A m c M l d') : OnOk n A m c M l d := by
  intro hd Ah ch w hlen hpos hlt0 hr hh;obtain ⟨i0, hi, hz0, hz1, hz2⟩ := info_parts info_int;obtain ⟨k, hk⟩ : ∃ k, k = hd.length := ⟨_, rfl⟩;obtain ⟨x0, hx0⟩ : ∃ x, hd[0]? = some x := ⟨_, List.getElem?_eq_getElem hpos⟩;obtain ⟨x1, hx1⟩ : ∃ x, hd[k - 1]? = some x := ⟨_, List.getElem?_eq_getElem (by omega)⟩;have e0 : hd.headD 0 = x0 := by
   cases hd with
   | nil => cases hx0
   | cons y t => simpa using hx0
  have e1 : hd.getLastD 0 = x1 := by
   rw [List.getLastD_eq_getLast?, List.getLast?_eq_getElem?, ← hk, hx1]
   rfl
  have hx0n : x0 < n := hlt0 x0 (List.mem_of_getElem? hx0);have hlt : ∀ y ∈ hd, y < n := hlt0;obtain ⟨bh, oh, rfl, -, hbh, hcell⟩ := hh.open_ (k := 0) (by rw [intsQ_len]; exact hpos);have HC : Hid (∀ W, Only [] w W → W.cell? ⟨bh, oh, none⟩ = some (.int .i64 (x0 : Int)) ∧ W.cell? ⟨bh, oh + (k - 1), none⟩ = some (.int .i64 (x1 : Int)) ∧ bh < W.heap.size) := Hd (fun W O => by
   refine ⟨?_, ?_, Nat.lt_of_lt_of_le hbh O.size⟩
   ·rw [O.cell (p := ⟨bh, oh, none⟩) hbh (by simp)]; exact hcell 0 _ (by unfold intsQ; rw [List.getElem?_map, hx0]; rfl)
   ·rw [O.cell (p := ⟨bh, oh + (k - 1), none⟩) hbh (by simp)]; exact hcell (k - 1) _ (by unfold intsQ; rw [List.getElem?_map, hx1]; rfl))
  have HR := Hd hr;have HH := Hd hh;have HHAS := Hd (fun W (O : Only [] w W) (a b : Nat) => (rhas23_any A m c w.heap.size l a b W (hr.only O (by simp)) hl (by omega)));have HLT := Hd hlt;have HX := Hd (And.intro e0 e1);have HK := Hd hk;have hk1 : 1 ≤ k := by omega
  have hkM : k ≤ M := by omega
  have hdk : M - k = d := by omega
  have hwl : IntKind.i64.wrap ((k : Int) - 1) = ((k - 1 : Nat) : Int) := by rw [IntWalk.i64_in _ (by omega)]; omega
  rw [← hk];clear hr hh hlt hlt0 hcell hx0 hx1 e0 e1 hk hl;obtain ⟨c0, c1, hb⟩ := HC.out w (Only.refl [] w);have hk01 : (0 : Int) < (k : Int) := by omega
  have hk02 : ((k - 1 : Nat) : Int) < (k : Int) := by omega
  have hk03 : (0 : Int) ≤ ((k - 1 : Nat) : Int) := Int.natCast_nonneg _
  cases d with
  | zero =>
   have hkM2 : k = M := by omega
   subst hkM2;have HW := HHAS.out w (Only.refl [] w) x1 x0;obtain ⟨r, hr⟩ : ∃ r, r = decide (((x1 : Int), (x0 : Int)) ∈ l) := ⟨_, rfl⟩;rw [← hr] at HW;have HON : Hid (onT (edB l) n 0 hd = if r = true then some hd else none) := Hd (by unfold onT; rw [HX.out.1, HX.out.2, hr]; rfl);have HHW := Hd HW;clear HW hr;go_enter Tryd.func25, Tryd.ntmps25;go_wp2_with fail
   refine (HHW.out).mono ?_;rintro e w2 ⟨rfl, rfl⟩
   cases r with
   | true =>
    have HON2 : Hid (onT (edB l) n 0 hd = some hd) := Hd (by rw [HON.out]; rfl);go_wp2
    go_ret
    rw [HON2.out];exact ⟨_, ch, ⟨by rw [Option.getD_some, ← HK.out]; rfl, HH.out⟩, Only.refl _ _⟩
   | false =>
    have HON2 : Hid (onT (edB l) n 0 hd = none) := Hd (by rw [HON.out]; rfl);go_wp2
    go_ret
    rw [HON2.out];exact ⟨none, 0, ⟨rfl, .nil⟩, Only.refl _ _⟩
  | succ d =>
   have hkM2 : ¬ (k : Int) = (M : Int) := by omega
   have hkM3 : ((k : Int) == (M : Int)) = false := by simp; omega
   obtain ⟨F, hF⟩ : ∃ F : Nat → Option (List Nat), F = fun b => if (decide (hd.headD 0 < b) && edB l (hd.getLastD 0) b && !decide (b ∈ hd)) = true then onT (edB l) n d (hd ++ [b]) else none := ⟨_, rfl⟩
   have HON : Hid (onT (edB l) n (d + 1) hd = (List.range n).findSome? F) := Hd (by rw [hF, onT]);have HF1 : Hid (∀ b, b ≤ x0 → F b = none) := Hd (fun b hb => by rw [hF]; dsimp only; rw [HX.out.1, decide_eq_false (by omega)]; simp);have HF2 : Hid (∀ b, x0 < b → (decide (((x1 : Int), (b : Int)) ∈ l) && !decide (b ∈ hd)) = false → F b = none) := Hd (fun b hb h => by
    rw [hF]; dsimp only; rw [HX.out.1, HX.out.2, decide_eq_true hb, Bool.true_and];unfold edB;rw [h, if_neg (by decide)])
   have HF3 : Hid (∀ b, x0 < b → ((x1 : Int), (b : Int)) ∈ l → b ∉ hd → F b = onT (edB l) n d (hd ++ [b])) := Hd (fun b hb h h2 => by
    rw [hF]; dsimp only; rw [HX.out.1, HX.out.2, decide_eq_true hb, Bool.true_and];unfold edB;rw [decide_eq_true h, decide_eq_false h2]
    rfl)
   obtain ⟨R, hR⟩ : ∃ R, R = onT (edB l) n (d + 1) hd := ⟨_, rfl⟩;rw [← hR];have HRS : Hid (R = (List.range n).findSome? F) := Hd (by rw [hR]; exact HON.out);clear hF hR HON;have IH := Hd (ih d rfl);clear ih;have HHI := Hd (fun W (O : Only [] w W) (b : Nat) => hasInt_any (some ⟨bh, oh, none⟩) k ch w.heap.size (hd.map fun y : Nat => (y : Int)) (b : Int) W (by rw [List.length_map]; exact HK.out.symm) (by omega) (by rw [← intsQ_map]; exact HH.out.only O (by simp)));have HIN := Hd (fun W (O : Only [] w W) => ints_any (some ⟨bh, oh, none⟩) k ch (intsQ hd) W (row_up (HH.out.only O (by simp))) (by rw [intsQ_len]; exact HK.out.symm) (intsQ_one hd) (by omega));have hx01 : IntKind.i64.wrap ((x0 : Int) + 1) = (x0 : Int) + 1 := IntWalk.i64_in _ (by omega);go_enter Tryd.func25, Tryd.ntmps25;go_wp2_with fail
   go_loopw [10] (fun bv wr => ∃ b : Nat, bv = .int .i64 (b : Int) ∧ x0 < b ∧ b ≤ n ∧ Hid (∀ j, j < b → F j = none) ∧ Hid (Only [] w wr)) (fun bv _ => n - (intOf bv).toNat)
   case atStart => exact ⟨x0 + 1, by simp, by omega, by omega, Hd (fun j hj => HF1.out j (by omega)), Hd (Only.refl _ _)⟩
   case round =>
    obtain ⟨b, rfl, hxb, hbn, hno, hO⟩ := hrel
    by_cases hlt : b < n
    ·have h01 : (b : Int) < (n : Int) := by omega
     have hb0 : (0 : Int) ≤ (b : Int) := Int.natCast_nonneg _;have hwb : IntKind.i64.wrap ((b : Int) + 1) = (b : Int) + 1 := IntWalk.i64_in _ (by omega);have HW := Hd (HHAS.out wr hO.out x1 b);have HNX : Hid (F b = none → ∀ j, j < b + 1 → F j = none) := Hd (fun h j hj => by
      rcases Nat.lt_or_ge j b with h1 | h1
      ·exact hno.out j h1
      ·obtain rfl : j = b := by omega
       exact h)
     by_cases he : ((x1 : Int), (b : Int)) ∈ l
     ·rw [decide_eq_true he] at HW;have HI := HHI.out wr hO.out b;rw [mem_castQ] at HI
      by_cases hin : b ∈ hd
      ·rw [decide_eq_true hin] at HI;have HIQ := Hd HI;have HNN := Hd (HNX.out (HF2.out b hxb (by rw [decide_eq_true he, decide_eq_true hin]; rfl)));clear HI;go_wp2_with fail
       refine (HW.out).mono ?_;rintro e w2 ⟨rfl, rfl⟩;go_wp2_with fail
       refine (HIQ.out).mono ?_;rintro e w2 ⟨rfl, rfl⟩;go_wp2
       go_roundw
       case rel => exact ⟨b + 1, by go_num, by omega, by omega, HNN, hO⟩
       case measure => simp [intOf]; omega
      ·rw [decide_eq_false hin] at HI;have HIQ := Hd HI;have HFB := Hd (HF3.out b hxb he hin);clear HI;go_wp2_with fail
       refine (HW.out).mono ?_;rintro e w2 ⟨rfl, rfl⟩;go_wp2_with fail
       refine (HIQ.out).mono ?_;rintro e w2 ⟨rfl, rfl⟩;go_wp2_with fail
       refine (HIN.out wr hO.out).mono ?_;rintro e w3 ⟨v3, rfl, hv3, O3⟩;obtain ⟨A3, c3, rfl, -, -, -, -⟩ := own_row hv3;have HV3 := Hd hv3;have HO3 := Hd (hO.out.trans O3);have HO3S := Hd O3.size;have HOG : Hid (∀ W, (w3.alloc (.cells #[.int .i64 (b : Int)] 3)).grownBy W (Value.slice A3 k c3).ownBlock → Only [] wr W) := Hd (fun W hg => (O3.alloc _).step (only_grown hg) (own_new hv3));clear hv3 O3 HW HIQ;have hszr : wr.heap.size ≤ w3.heap.size := HO3S.out;go_wp2_with (at_builtin; refine wpList_append_row _ rfl (.tmp 51) (.tmp 53) _ rfl wr.heap.size 3 i0 _ 1 8 Tryd.underlying25 hi hz0 hz1 hz2 rfl (by omega) (.slice A3 k c3) k (intsQ hd) rfl (own_only HV3.out ((Only.refl [] _).alloc _) (by simp)) (w3.heap.size + 1) (some ⟨w3.heap.size, 0, none⟩) 1 1 [.int .i64 (b : Int)] rfl rfl (row_lit w3 3 #[.int .i64 (b : Int)]) (by intro u hu; simp at hu; subst hu; rfl) (by unfold maxLen; omega) (by omega) (by simp; omega) ?_; intro v7 w7 hown7 hgrow7 hat7)
       obtain ⟨A7, c7, rfl, -, -, -, -⟩ := own_row hown7;have O37 : Only [] wr w7 := HOG.out w7 hgrow7;have HO7 := Hd (hO.out.trans O37);have e7 : intsQ hd ++ [Value.int .i64 (b : Int)] = intsQ (hd ++ [b]) := (intsQ_app hd [b]).symm;rw [e7] at hown7;have hl7 : k + 1 = (hd ++ [b]).length := by rw [List.length_append, ← HK.out]; rfl
       have HC7 := IH.out (hd ++ [b]) A7 c7 w7 (by rw [← hl7]; omega) (by rw [← hl7]; omega) (fun y hy => by
        rcases List.mem_append.1 hy with h | h
        ·exact HLT.out y h
        ·rw [List.mem_singleton.1 h]; exact hlt) (row_up (HR.out.only HO7.out (by simp))) (row_of_own (own_lower hown7 (Nat.zero_le _)))
       rw [← hl7, ← HFB.out] at HC7;have HC := Hd HC7;obtain ⟨fb, hfb⟩ : ∃ fb, fb = F b := ⟨_, rfl⟩;rw [← hfb] at HC;have HFE := Hd hfb;clear hown7 hgrow7 hat7 O37 e7 hl7 HC7 hfb HV3 HO3;refine (HC.out).mono ?_;rintro e w8 ⟨A8, c8, ⟨rfl, hr8⟩, O8⟩;have HO8 := Hd (HO7.out.trans O8);have HR8 := Hd hr8;clear hr8 O8 HC HO7
       cases fb with
       | none =>
        have HNN := Hd (HNX.out HFE.out.symm);simp only [Option.getD_none, List.length_nil];go_wp2
        go_roundw
        case rel => exact ⟨b + 1, by go_num, by omega, by omega, HNN, HO8⟩
        case measure => simp [intOf]; omega
       | some r =>
        simp only [Option.getD_some] at HR8 ⊢;have HRR : Hid (R = some r) := Hd (by rw [HRS.out]; exact findSome_range hlt hno.out HFE.out.symm);have hrp : 0 < r.length := onT_pos d (HFB.out.symm.trans HFE.out.symm) (by simp);have hrp2 : (0 : Int) < (r.length : Int) := by omega
        go_wp2
        go_ret
        rw [HRR.out];exact ⟨_, _, ⟨rfl, HR8.out⟩, HO8.out⟩
     ·rw [decide_eq_false he] at HW;have HNN := Hd (HNX.out (HF2.out b hxb (by rw [decide_eq_false he]; rfl)));go_wp2_with fail
      refine (HW.out).mono ?_;rintro e w2 ⟨rfl, rfl⟩;go_wp2
      go_roundw
      case rel => exact ⟨b + 1, by go_num, by omega, by omega, HNN, hO⟩
      case measure => simp [intOf]; omega
    ·have hbn2 : b = n := by omega
     subst hbn2;have hd2 : decide ((b : Int) < (b : Int)) = false := by simp
     have HE : Hid (R = none) := Hd (by rw [HRS.out]; exact findSome_none fun j hj => hno.out j (List.mem_range.1 hj));go_wp2
     go_ret
     rw [HE.out];exact ⟨none, 0, ⟨rfl, .nil⟩, hO.out⟩
theorem ron_any (n : Nat) (A : Option Addr) (m c M : Nat) (l : List (Int × Int)) (hn : n ≤ 500) (hM : M ≤ 500) (hl : l.length = m) (hm : m ≤ 1000) : ∀ d, OnOk n A m c M l d
 | 0 => ron_step n A m c M l hn hM hl hm 0 fun d' h => by cases h
 | d + 1 => ron_step n A m c M l hn hM hl hm (d + 1) fun d' h => by
  injection h with h;subst h;exact ron_any n A m c M l hn hM hl hm d
end Go.Proofs.YtlnlppabeddclaaDoor
