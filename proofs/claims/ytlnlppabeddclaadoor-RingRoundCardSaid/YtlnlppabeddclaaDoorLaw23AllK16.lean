/- Parts. -/
import Derived.Test.YtlnlppabeddclaaDoorLaw23AllK15
set_option maxRecDepth 10000
set_option maxHeartbeats 16000000
set_option linter.unusedVariables false
set_option linter.unusedSimpArgs false
namespace Go.Proofs.YtlnlppabeddclaaDoor
open Go.RowKit
theorem nodup_getD {l : List Nat} (h : l.Nodup) {i j : Nat} (hi : i < l.length) (hj : j < l.length) (hne : i ≠ j) : l.getD i 0 ≠ l.getD j 0 := by
 have hp := List.pairwise_iff_getElem.1 h;rw [List.getD_eq_getElem?_getD, List.getElem?_eq_getElem hi, List.getD_eq_getElem?_getD, List.getElem?_eq_getElem hj];rcases Nat.lt_or_gt_of_ne hne with hl | hl
 ·exact hp i j hi hj hl
 ·exact fun e => hp j i hj hi hl e.symm
theorem own_own {w : World} {base base' : Nat} {e e' : TypeId} {size size' : Nat} {v v' : Value} {n n' : Nat} {xs xs' : List Value} (h : w.ownsRow base e size v n xs) (h' : w.ownsRow base' e' size' v' n' xs') (hne : e ≠ e') :
  ∀ g, v.ownBlock = some g → g ∉ v'.ownBlock.toList := fun g hg hm => by
 obtain ⟨cur, hb⟩ := own_blk h hg;exact own_apart h' hb (Ne.symm hne) hm
theorem getD_setL (O : List (List Nat)) (i j : Nat) (ws : List Nat) (hi : i < O.length) : (O.set i ws).getD j [] = if i = j then ws else O.getD j [] := by
 simp only [List.getD_eq_getElem?_getD, List.getElem?_set]
 split
 ·rename_i h; subst h; simp [hi]
 ·rfl
def pB (n : Nat) (O : List (List Nat)) (a b : Int) : Bool := ndN n a && ndN n b && !hasW (O.getD a.toNat []) b
def pE (n : Nat) (a b : Int) : Int := if (ndN n a && ndN n b) = true then 0 else 2
def pO (n : Nat) (O : List (List Nat)) (a b : Int) : List (List Nat) := if pB n O a b = true then O.set a.toNat (putW (O.getD a.toNat []) b) else O
def pI (n : Nat) (O I : List (List Nat)) (a b : Int) : List (List Nat) := if pB n O a b = true then I.set b.toNat (putW (I.getD b.toNat []) a) else I
def pH (n : Nat) (O : List (List Nat)) (h : List (Int × Int)) (a b : Int) : List (Int × Int) := if pB n O a b = true then h ++ [(a, b)] else h
theorem gput_arg (p n : Nat) (O I : List (List Nat)) (h : List (Int × Int)) (fp : List Nat) (a b : Int) (w : World) (hg : Gr w p n O I h fp) (hab : (ndN n a && ndN n b) = false) :
  Calls Tryd.prog 32 #[.pointer (some ⟨p, 0, none⟩), .int .i64 a, .int .i64 b] w fun e w' => e = .returned (.tuple #[.bool false, .int .i64 2]) ∧ w = w' := by
 obtain ⟨A1, A2, A3, c1, c2, c3, po, qi, g⟩ := hg;have h0 := g.blk.at_ 0;have h1 := g.blk.at_ 1;simp at h0 h1;have HIS := Hd (gis_some p true w h0);have HNA := Hd (gnode_yes p A1 n c1 a w h0 h1);have HNB := Hd (gnode_yes p A1 n c1 b w h0 h1);clear g h0 h1
 cases hA : ndN n a with
 | false =>
  rw [hA] at HNA;go_enter Tryd.func32, Tryd.ntmps32;go_wp2_with fail
  refine (HIS.out).mono ?_;rintro e w1 ⟨rfl, rfl⟩;go_wp2_with fail
  refine (HNA.out).mono ?_;rintro e w1 ⟨rfl, rfl⟩;go_wp2
  exact bodyPost_ret (v := .tuple #[.bool false, .int .i64 2]) (by simp [results, Tryd.results32, go_sem]) rfl ⟨rfl, rfl⟩
 | true =>
  have hB : ndN n b = false := by rw [hA] at hab; simpa using hab
  rw [hA] at HNA;rw [hB] at HNB;go_enter Tryd.func32, Tryd.ntmps32;go_wp2_with fail
  refine (HIS.out).mono ?_;rintro e w1 ⟨rfl, rfl⟩;go_wp2_with fail
  refine (HNA.out).mono ?_;rintro e w1 ⟨rfl, rfl⟩;go_wp2_with fail
  refine (HNB.out).mono ?_;rintro e w1 ⟨rfl, rfl⟩;go_wp2
  exact bodyPost_ret (v := .tuple #[.bool false, .int .i64 2]) (by simp [results, Tryd.results32, go_sem]) rfl ⟨rfl, rfl⟩
theorem gput_old (p n : Nat) (O I : List (List Nat)) (h : List (Int × Int)) (fp : List Nat) (a b : Int) (w : World) (hg : Gr w p n O I h fp) (hA : ndN n a = true) (hB : ndN n b = true) (hh : hasW (O.getD a.toNat []) b = true) :
  Calls Tryd.prog 32 #[.pointer (some ⟨p, 0, none⟩), .int .i64 a, .int .i64 b] w fun e w' => e = .returned (.tuple #[.bool false, .int .i64 0]) ∧ w = w' := by
 have hgh := ghas_any p n O I h fp a b w hg;obtain ⟨A1, A2, A3, c1, c2, c3, po, qi, g⟩ := hg;have h0 := g.blk.at_ 0;have h1 := g.blk.at_ 1;simp at h0 h1;have HIS := Hd (gis_some p true w h0);have HNA := Hd (gnode_yes p A1 n c1 a w h0 h1);have HNB := Hd (gnode_yes p A1 n c1 b w h0 h1);rw [hA] at HNA;rw [hB] at HNB;have hgt : ghN n O a b = true := by unfold ghN; rw [hA, hB, hh]; rfl
 rw [hgt] at hgh;have HH := Hd hgh;clear g h0 h1 hgh;go_enter Tryd.func32, Tryd.ntmps32;go_wp2_with fail
 refine (HIS.out).mono ?_;rintro e w1 ⟨rfl, rfl⟩;go_wp2_with fail
 refine (HNA.out).mono ?_;rintro e w1 ⟨rfl, rfl⟩;go_wp2_with fail
 refine (HNB.out).mono ?_;rintro e w1 ⟨rfl, rfl⟩;go_wp2_with fail
 refine (HH.out).mono ?_;rintro e w1 ⟨rfl, rfl⟩;go_wp2
 exact bodyPost_ret (v := .tuple #[.bool false, .int .i64 0]) (by simp [results, Tryd.results32, go_sem]) rfl ⟨rfl, rfl⟩
theorem gput_new (p n : Nat) (O I : List (List Nat)) (h : List (Int × Int)) (fp : List Nat) (k l : Nat) (w : World) (hg : Gr w p n O I h fp) (hk : k < n) (hl : l < n) (hh : hasW (O.getD k []) (l : Int) = false) (hm : h.length ≤ 1000000) (hn : n ≤ 500) :
  Calls Tryd.prog 32 #[.pointer (some ⟨p, 0, none⟩), .int .i64 (k : Int), .int .i64 (l : Int)] w fun e w' => e = .returned (.tuple #[.bool true, .int .i64 0]) ∧
   ∃ fp', Gr w' p n (O.set k (putW (O.getD k []) l)) (I.set l (putW (I.getD l []) k)) (h ++ [((k : Int), (l : Int))]) fp' ∧ Only fp w w' ∧ ∀ b ∈ fp', b ∈ fp ∨ w.heap.size ≤ b := by
 obtain ⟨i0, hi, hz0, hz1, hz2⟩ := info_parts info_edge;have hgh := ghas_any p n O I h fp k l w hg;obtain ⟨A1, A2, A3, c1, c2, c3, po, qi, g⟩ := hg;have h0 := g.blk.at_ 0;have h1 := g.blk.at_ 1;simp at h0 h1;have hA : ndN n (k : Int) = true := by simp [ndN]; omega
 have hB : ndN n (l : Int) = true := by simp [ndN]; omega
 have HIS := Hd (gis_some p true w h0);have HNA := Hd (gnode_yes p A1 n c1 (k : Int) w h0 h1);have HNB := Hd (gnode_yes p A1 n c1 (l : Int) w h0 h1);rw [hA] at HNA;rw [hB] at HNB;have hgt : ghN n O (k : Int) (l : Int) = false := by unfold ghN; rw [hA, hB, Int.toNat_natCast, hh]; rfl
 rw [hgt] at hgh;have HH := Hd hgh;clear hgh hgt hA hB;obtain ⟨g1, rfl, hg1, hc⟩ := ptr_at g.row1 g.len1 hk;obtain ⟨g2, rfl, hg2, hd⟩ := ptr_at g.row2 g.len2 hl;have hplt := g.blk.lt;have hbx := g.set1 k hk;have hby := g.set2 l hl;have hxpo : po.getD k 0 ∈ po := getD_mem (by rw [g.len1]; exact hk);have hyqi : qi.getD l 0 ∈ qi := getD_mem (by rw [g.len2]; exact hl);have hnd := List.nodup_append.1 g.nodup;have hxy : po.getD k 0 ≠ qi.getD l 0 := hnd.2.2 _ hxpo _ hyqi;have hxp : po.getD k 0 ≠ p := hbx.1.apart g.blk (by decide);have hyp : qi.getD l 0 ≠ p := hby.1.apart g.blk (by decide);have hxg : g2 ≠ po.getD k 0 := fun e => own_apart g.row2 hbx.1 (by decide) (by simp [Value.ownBlock, e]);have hx : ∃ x, x = po.getD k 0 := ⟨_, rfl⟩;obtain ⟨x, hx⟩ := hx;have hy : ∃ y, y = qi.getD l 0 := ⟨_, rfl⟩;obtain ⟨y, hy⟩ := hy;rw [← hx] at hbx hxpo hxy hxp hxg hc;rw [← hy] at hby hyqi hxy hyp hd;have hml : mayN (l : Int) = true := mayN_iff.2 (by omega);have hmk : mayN (k : Int) = true := mayN_iff.2 (by omega);have hx0 := put_any x (l : Int) _ w hbx;rw [if_pos hml] at hx0;have HX := Hd hx0;have HG := Hd g;have HBY := Hd hby;have HND := Hd hnd;have HDX := Hd hx;have HDY := Hd hy;clear g hbx hby hnd hx hy h0 hx0 hml;go_enter Tryd.func32, Tryd.ntmps32;go_wp2_with fail
 refine (HIS.out).mono ?_;rintro e w1 ⟨rfl, rfl⟩;go_wp2_with fail
 refine (HNA.out).mono ?_;rintro e w1 ⟨rfl, rfl⟩;go_wp2_with fail
 refine (HNB.out).mono ?_;rintro e w1 ⟨rfl, rfl⟩;go_wp2_with fail
 refine (HH.out).mono ?_;rintro e w1 ⟨rfl, rfl⟩;go_wp2_with fail
 refine (HX.out).mono ?_;rintro e w1 ⟨rfl, B1, O1⟩;have r2 : w1.cell? ⟨p, 2, none⟩ = some (.slice (some ⟨g2, 0, none⟩) n c2) := (O1.cell (p := ⟨p, 2, none⟩) hplt (by simp; exact fun e => hxp e.symm)).trans (HG.out.blk.at_ 2);have rd : w1.cell? ⟨g2, l, none⟩ = some (.pointer (some ⟨y, 0, none⟩)) := (O1.cell (p := ⟨g2, l, none⟩) hg2 (by simp; exact hxg)).trans hd;have hy0 := put_any y (k : Int) _ w1 (HBY.out.only O1 (by simp; exact fun e => hxy e.symm));rw [if_pos hmk] at hy0;have HY := Hd hy0;have HB1 := Hd B1;clear B1 hy0 hmk;go_wp2_with fail
 refine (HY.out).mono ?_;rintro e w2 ⟨rfl, B2, O2⟩;have hP2 := O2.blk (O1.blk HG.out.blk (by simp; exact fun e => hxp e.symm)) (by simp; exact fun e => hyp e.symm);have s3 : w2.cell? ⟨p, 3, none⟩ = some (.slice A3 h.length c3) := hP2.at_ 3;have HP2 := Hd hP2;have HB2 := Hd B2;have hrow1 := own_only (own_only HG.out.row1 O1 (fun b hb => by simp; exact fun e => own_apart HG.out.row1 (HG.out.set1 k hk).1 (by decide) (by rw [hb, e, HDX.out]; simp)))
  O2 (fun b hb => by simp; exact fun e => own_apart HG.out.row1 HBY.out.1 (by decide) (by rw [hb, e]; simp))
 have hrow2 := own_only (own_only HG.out.row2 O1 (fun b hb => by simp; exact fun e => own_apart HG.out.row2 (HG.out.set1 k hk).1 (by decide) (by rw [hb, e, HDX.out]; simp)))
  O2 (fun b hb => by simp; exact fun e => own_apart HG.out.row2 HBY.out.1 (by decide) (by rw [hb, e]; simp))
 have hrow3 := own_only (own_only HG.out.row3 O1 (fun b hb => by simp; exact fun e => own_apart HG.out.row3 (HG.out.set1 k hk).1 (by decide) (by rw [hb, e, HDX.out]; simp)))
  O2 (fun b hb => by simp; exact fun e => own_apart HG.out.row3 HBY.out.1 (by decide) (by rw [hb, e]; simp))
 have HR1 := Hd hrow1;have HR2 := Hd hrow2;have HR3 := Hd hrow3;clear B2 hP2 hrow1 hrow2 hrow3;go_wp2_with (
  at_builtin
  refine wpList_append_row _ rfl (.tmp 50) (.tmp 54) 22 rfl 0 47 i0 _ 2 16 Tryd.underlying22 hi hz0 hz1 hz2 rfl (by omega) (.slice A3 h.length c3) h.length (edgeC h) (by rfl) (own_only HR3.out ((Only.refl [] w2).alloc (.cells #[.int .i64 (k : Int), .int .i64 (l : Int)] 47)) (fun _ _ => by simp)) _ _ 1 1 [.int .i64 (k : Int), .int .i64 (l : Int)] (by rfl) (by simp) (row_lit _ _ _) (by intro u hu; simp at hu; rcases hu with rfl | rfl <;> rfl) (by unfold maxLen; omega) (by omega) (by omega) ?_;intro v' w3 hown hgrow hat;obtain ⟨A3', c3', rfl, hd11, hd12, -, -⟩ := own_row hown;have OA := (Only.refl [] w2).alloc (.cells #[.int .i64 (k : Int), .int .i64 (l : Int)] 47);have OV := only_grown hgrow;have hP3 := OV.blk (OA.blk HP2.out (by simp)) (own_apart HR3.out HP2.out (by decide));have t3 : w3.cell? ⟨p, 3, none⟩ = some (.slice A3 h.length c3) := hP3.at_ 3;have t3f : w3.frozen? ⟨p, 3, none⟩ = false := hP3.free 3;have HP3 := Hd hP3;have HR3' := Hd hown;clear hP3 hown)
 have OX : Only [x, y] w w2 := (O1.wide (by intro i hi _; simp at hi; simp [hi])).step O2 (by intro i hi _; simp at hi; simp [hi]);have OS : Only [p] w3 (w3.setCell ⟨p, 3, none⟩ (.slice A3' (h.length + 1) c3')) := (Only.refl _ w3).put (by simp) _;have hxfp : x ∈ fp := HG.out.m0 x (List.mem_append_left _ hxpo);have hyfp : y ∈ fp := HG.out.m0 y (List.mem_append_right _ hyqi);have OF : Only fp w (w3.setCell ⟨p, 3, none⟩ (.slice A3' (h.length + 1) c3')) := (((OX.wide (by intro i hi _; simp at hi; rcases hi with rfl | rfl <;> assumption)).step OA (by simp)).step OV (fun i hi _ => HG.out.m3 i hi)).step OS (by intro i hi _; simp at hi; rw [hi]; exact HG.out.mp);have hr3a := own_only HR3.out OA (fun _ _ => by simp);have hs : ∀ {z : Nat} {ws : List Nat}, BSet w2 z ws → BSet (w3.setCell ⟨p, 3, none⟩ (.slice A3' (h.length + 1) c3')) z ws := fun {z ws} hz => by
  have h4 := hz.only OA (by simp);have h6 : BSet w3 z ws := h4.only OV (own_apart hr3a h4.1 (by decide));exact h6.only OS (by simp; exact fun e => h6.1.apart HP3.out (by decide) e)
 have hrow : ∀ {A : Option Addr} {c : Nat} {qs : List Nat}, w2.ownsRow 0 60 1 (.slice A n c) n (ptrs qs) → (w3.setCell ⟨p, 3, none⟩ (.slice A3' (h.length + 1) c3')).ownsRow 0 60 1 (.slice A n c) n (ptrs qs) := fun {A c qs} hz => by
  have h4 := own_only hz OA (fun _ _ => by simp);have h6 := own_only h4 OV (own_own h4 hr3a (by decide));exact own_only h6 OS (fun g hg => by simp; exact fun e => own_apart h6 HP3.out (by decide) (by rw [hg, e]; simp))
 have hrow3 := own_only HR3'.out OS (fun g hg => by simp; exact fun e => own_apart HR3'.out HP3.out (by decide) (by rw [hg, e]; simp));have hlen : (h ++ [((k : Int), (l : Int))]).length = h.length + 1 := by simp
 have hsz := OX.size;simp only [World.size_alloc] at hat;refine bodyPost_ret (v := .tuple #[.bool true, .int .i64 0]) (by simp [results, Tryd.results32, go_sem]) rfl ⟨rfl, fp ++ (Value.slice A3' (h.length + 1) c3').ownBlock.toList, ⟨some ⟨g1, 0, none⟩, some ⟨g2, 0, none⟩, A3', c1, c2, c3', po, qi, ?_⟩, OF, ?_⟩
 ·refine ⟨by rw [hlen]; simpa using HP3.out.put 3 (.slice A3' (h.length + 1) c3'), hrow HR1.out, hrow HR2.out, by rw [hlen, edgeC_append]; exact hrow3, HG.out.len1, HG.out.len2, by rw [List.length_set]; exact HG.out.len3, by rw [List.length_set]; exact HG.out.len4, ?_, ?_, HG.out.nodup,
   List.mem_append_left _ HG.out.mp, fun z hz => List.mem_append_left _ (HG.out.m0 z hz), fun z hz => List.mem_append_left _ (HG.out.m1 z hz), fun z hz => List.mem_append_left _ (HG.out.m2 z hz), by rw [hlen]; exact fun z hz => List.mem_append_right _ hz, ?_⟩
  ·intro i hi;rw [getD_setL _ _ _ _ (by rw [HG.out.len3]; exact hk)]
   by_cases hik : k = i
   ·subst hik;rw [if_pos rfl, ← HDX.out];exact hs (HB1.out.only O2 (by simp; exact hxy))
   ·rw [if_neg hik];have hne : po.getD i 0 ≠ x := by rw [HDX.out]; exact nodup_getD HND.out.1 (by rw [HG.out.len1]; exact hi) (by rw [HG.out.len1]; exact hk) (Ne.symm hik)
    have hne2 : po.getD i 0 ≠ y := HND.out.2.2 _ (getD_mem (by rw [HG.out.len1]; exact hi)) _ hyqi;exact hs (((HG.out.set1 i hi).only O1 (by simp; simpa using hne)).only O2 (by simp; simpa using hne2))
  ·intro i hi;rw [getD_setL _ _ _ _ (by rw [HG.out.len4]; exact hl)]
   by_cases hik : l = i
   ·subst hik;rw [if_pos rfl, ← HDY.out];exact hs HB2.out
   ·rw [if_neg hik];have hne : qi.getD i 0 ≠ y := by rw [HDY.out]; exact nodup_getD HND.out.2.1 (by rw [HG.out.len2]; exact hi) (by rw [HG.out.len2]; exact hl) (Ne.symm hik)
    have hne2 : qi.getD i 0 ≠ x := fun e => HND.out.2.2 _ hxpo _ (getD_mem (by rw [HG.out.len2]; exact hi)) e.symm;exact hs (((HG.out.set2 i hi).only O1 (by simp; simpa using hne2)).only O2 (by simp; simpa using hne))
  ·intro e he;simp only [List.mem_append, List.mem_singleton] at he;rcases he with he | rfl
   ·exact HG.out.wf e he
   ·simp; omega
 ·intro b hb;simp only [List.mem_append] at hb;rcases hb with hb | hb
  ·exact .inl hb
  ·rcases hat with he | he
   ·rw [he] at hb; exact .inl (HG.out.m3 b hb)
   ·rw [he] at hb; simp at hb; exact .inr (by omega)
end Go.Proofs.YtlnlppabeddclaaDoor
