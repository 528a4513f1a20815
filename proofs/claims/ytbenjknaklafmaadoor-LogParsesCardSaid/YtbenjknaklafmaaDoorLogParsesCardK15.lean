/- Helpers of a number's text: one byte as a text, digits ahead of a text. -/
import Derived.Test.YtbenjknaklafmaaDoorLogParsesCardK14
import Derived.Laws.BytesArg
set_option linter.unusedVariables false
set_option linter.unusedSimpArgs false
namespace Go.Proofs.YtbenjknaklafmaaDoor
open Go.RowKit

theorem conv_one (W : World) (x : Int) : (convert 48 9 (.slice (some ⟨W.heap.size, 0, none⟩) 1 1)).run Tryd.prog (W.alloc (.cells #[.int .u8 x] 5)) = .ok (.string (strOfNums [x])) (W.alloc (.cells #[.int .u8 x] 5)) :=
  run_convert_bytes_arg (W.alloc (.cells #[.int .u8 x] 5)) 48 5 Tryd.underlying48 Tryd.underlying5 W.heap.size 0 1 1 [x] rfl (fun i hi => by
    obtain rfl : i = 0 := by omega
    have := (Blk.made W 5 #[.int .u8 x]).at_ 0
    simp) 9 Tryd.underlying9

/-- A digit ahead of a text. -/
theorem data_dig (k : Nat) (t : ByteArray) (h : k < 10) : (strOfNums [48 + (k : Int)] ++ t).data.toList = UInt8.ofNat (48 + k) :: t.data.toList := by
  rw [ByteArray.data_append, Array.toList_append, strOfNums_data]
  simp only [List.map_cons, List.map_nil, List.singleton_append]
  rw [show (48 + (k : Int)).toNat = 48 + k by omega]

theorem dig_step {n u : Nat} {t : ByteArray} (h0 : 0 < u) (hl : Lib.decDigits n = ahead false u ++ t.data.toList) : Lib.decDigits n = ahead false (u / 10) ++ (strOfNums [48 + ((u % 10 : Nat) : Int)] ++ t).data.toList := by
  rw [data_dig _ _ (Nat.mod_lt _ (by decide)), hl, ahead_step (by simp [h0])]
  simp

theorem dig_room {n u : Nat} {t : ByteArray} (x : Int) (hn : n < 100000000000000000000) (h0 : 0 < u) (hl : Lib.decDigits n = ahead false u ++ t.data.toList) : ¬ 9223372036854775807 < (strOfNums [x]).size + t.size := by
  have h1 := dec_len n hn
  rw [hl, List.length_append, ← Lib.size_eq] at h1
  rw [strOfNums_size]
  simp
  omega

theorem dig_room1 {n u : Nat} {t : ByteArray} (hn : n < 100000000000000000000) (hl : Lib.decDigits n = ahead false u ++ t.data.toList) : t.size ≤ 20 := by
  have h1 := dec_len n hn
  rw [hl, List.length_append, ← Lib.size_eq] at h1
  omega

theorem ret_str {a b : ByteArray} (h : a.data.toList = b.data.toList) : Ending.returned (.string a) = .returned (.string b) := by
  have : a = b := by cases a; cases b; simp at h; rw [h]
  rw [this]

end Go.Proofs.YtbenjknaklafmaaDoor
