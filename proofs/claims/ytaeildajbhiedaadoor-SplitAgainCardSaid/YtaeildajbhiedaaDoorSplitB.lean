/- Contracts of the package split: Join, Remark; the law's works. -/
import Derived.Test.YtaeildajbhiedaaDoorSplit
import Derived.Test.YtaeildajbhiedaaDoorShelfJ
set_option linter.unusedVariables false
set_option linter.unusedSimpArgs false
namespace Go.Proofs.YtaeildajbhiedaaDoor
open Go.RowKit
open Go.Lib hiding intOf
attribute [local go_sem ↓] Go.wp_at_zero Go.wp_at_succ

theorem extraJ : Builder.Extra Tryd.prog Tryd.laysJoin_ren where
  sizeBuilder := by kernel_rfl
  liesBuilder := by kernel_rfl
  t5 := Tryd.underlying5
  a5 := Tryd.isAgg5
  z5 := Tryd.sizeOf5
  v5 := Tryd.zeroValue5
  infoByte := by kernel_rfl
  cellsByte := by kernel_rfl
  sizeByte := by kernel_rfl
  neB5 := by decide

def joinW (xs : List ByteArray) : List UInt8 := Lib.join (xs.map by_) [32]

theorem sjoin_any (A : Option Addr) (n c B : Nat) (xs : List ByteArray) (w : World) (hA : Row w B A (strs xs)) (hn : xs.length = n) (hc : n ≤ c) (hl : (joinW xs).length ≤ 140737488355328) (hN : n ≤ 140737488355328) :
    Calls Tryd.prog 50 #[.slice A n c, .string ⟨#[32]⟩] w fun e w' => e = .returned (.string ⟨(joinW xs).toArray⟩) ∧ Only [] w w' := by
  subst hn
  rcases hA with h | ⟨b, off, rfl, hb, hw, hcell⟩
  · have : xs = [] := by simpa [strs] using h
    subst this
    have h : Calls Tryd.prog 50 #[.slice A 0 c, .string ⟨#[32]⟩] w _ := Any.strings_Join_none Tryd.laysJoin extraJ A c ⟨#[32]⟩ w
    exact h.mono fun e w' ⟨h1, h2⟩ => ⟨h1, h2 ▸ Only.refl _ _⟩
  · have h : Calls Tryd.prog 50 #[.slice (some ⟨b, off, none⟩) xs.length c, .string ⟨#[32]⟩] w _ := Any.strings_Join Tryd.laysJoin extraJ b off c xs ⟨#[32]⟩ w (fun j x hx => hcell j _ (by rw [strs, List.getElem?_map, hx]; rfl)) (by omega) hN hc hl
    exact h.mono fun e w' ⟨h1, h2⟩ => ⟨h1, Only.of_below h2 []⟩

theorem join_any (A : Option Addr) (n c B : Nat) (xs : List ByteArray) (w : World) (hA : Row w B A (strs xs)) (hn : xs.length = n) (hc : n ≤ c) (hl : (joinW xs).length ≤ 140737488355328) (hN : n ≤ 140737488355328) :
    Calls Tryd.prog 28 #[.slice A n c] w fun e w' => e = .returned (.string ⟨(joinW xs).toArray⟩) ∧ Only [] w w' := by
  have HJ := Lib.hid (sjoin_any A n c B xs w hA hn hc hl hN)
  generalize (⟨(joinW xs).toArray⟩ : ByteArray) = r at *
  clear hA hn hc hl hN
  go_enter Tryd.func28, Tryd.ntmps28
  go_wp2_with fail
  refine (HJ.out).mono ?_
  rintro e w1 ⟨rfl, hO⟩
  have HO := Lib.hid hO
  clear hO
  go_wp2
  go_ret
  exact ⟨rfl, HO.out⟩

def remarkL (l : List UInt8) : List UInt8 := trimS (l.drop ((aheadL l).length + 1)) blanks
theorem remark_any (s : ByteArray) (w : World) (hs : s.size ≤ 65535) (hM : MLen w) :
    Calls Tryd.prog 25 #[.string s] w fun e w' => e = .returned (.tuple #[.string ⟨(remarkL (by_ s)).toArray⟩, .bool ((by_ s).contains 35)]) ∧ Only [] w w' := by
  have HC := Lib.hid (cut_hash s w hs hM)
  have HT := Lib.hid (fun b w' (h : b.size ≤ 9223372036854775807) => trim_any b w' h)
  have hln : ((by_ s).drop ((aheadL (by_ s)).length + 1)).length ≤ s.size := by
    rw [List.length_drop, by_length]
    omega
  obtain ⟨r, hr⟩ : ∃ r : ByteArray, r = ⟨(remarkL (by_ s)).toArray⟩ := ⟨_, rfl⟩
  have HR : Hid (∀ b : ByteArray, by_ b = (by_ s).drop ((aheadL (by_ s)).length + 1) → (⟨(trimS (by_ b) blanks).toArray⟩ : ByteArray) = r) := Lib.hid (fun b hb => by rw [hb, hr]; rfl)
  rw [← hr]
  clear hr
  generalize (by_ s).contains 35 = is at *
  go_enter Tryd.func25, Tryd.ntmps25
  go_wp2_with fail
  refine (HC.out).mono ?_
  rintro e w1 ⟨⟨a, b, rfl, -, hb⟩, d, rfl⟩
  have hbl : b.size ≤ 9223372036854775807 := by rw [← by_length, hb]; omega
  have HTB := Lib.hid (HT.out b (w.drewN d) hbl)
  rw [HR.out b hb] at HTB
  have OD : Hid (Only [] w (w.drewN d)) := Lib.hid ((Only.refl [] w).drewN d)
  clear hb hbl hln HR HT HC
  go_wp2_with fail
  refine (HTB.out).mono ?_
  rintro e w2 ⟨rfl, hO⟩
  have HO := Lib.hid (OD.out.trans hO)
  clear hO
  go_wp2
  go_ret2
  exact ⟨rfl, HO.out⟩

end Go.Proofs.YtaeildajbhiedaaDoor
